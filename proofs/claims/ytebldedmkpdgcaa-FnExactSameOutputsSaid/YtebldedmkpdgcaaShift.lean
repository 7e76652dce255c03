/- What the rounding functions of chapter 1 (and of its model) give when they are called, each at every argument. No conditions but that an argument fits its kind. -/
import Derived.Test.YtebldedmkpdgcaaQuant
import Derived.Deep.DeepFit
import Derived.Handy
import Derived.WalkSmall
namespace Go.Proofs.Ytebldedmkpdgcaa
open Go.RowKit
namespace Qt

theorem downS (x : Int) (h : -4611686018427387904 ≤ x ∧ x ≤ 4611686019501129728) (w : World) :
    Calls Try.prog 151 #[.int .i64 x, .int .i64 2147483648] w fun e w' => e = .returned (.int .i64 (x / 2147483648)) ∧ w = w' := by
  by_cases h0 : 0 ≤ x
  · go_enter Try.func151, Try.ntmps151
    go_wp2
    go_ret
    exact ⟨rfl, rfl⟩
  · obtain ⟨e1, e2, e3⟩ := tdiv_facts (x := x) (d := 2147483648) (by omega) (by omega)
    by_cases hm : x.tmod 2147483648 < 0
    · obtain ⟨g1, g2⟩ := tneg_rest (x := x) (d := 2147483648) (by omega) (by omega) hm
      have hb : -4611686018427387904 ≤ x.tdiv 2147483648 - 1 ∧ x.tdiv 2147483648 - 1 ≤ 4611686018427387904 := by omega
      rw [← g1]
      clear g1 g2 e3
      go_enter Try.func151, Try.ntmps151
      go_wp2
      go_ret
      exact ⟨rfl, rfl⟩
    · obtain ⟨g1, g2⟩ := tneg_exact (x := x) (d := 2147483648) (by omega) (by omega) hm
      rw [← g1]
      clear g1 g2 e3
      go_enter Try.func151, Try.ntmps151
      go_wp2
      go_ret
      exact ⟨rfl, rfl⟩
theorem wrap_pow2 (n : Int) : wrap64 (2 ^ (clamp n 0 31).toNat) = pow2 n := IntWalk.wrap64_in _ (by have := pow2_bd n; unfold pow2 at this; omega)
theorem cell_new0 {w : World} {x y : Value} {T b : Nat} (hb : b = w.heap.size) : (w.alloc (.cells #[x, y] T)).cell? ⟨b, 0, none⟩ = some x := by subst hb; simp [go_sem]
theorem cell_new1 {w : World} {x y : Value} {T b : Nat} (hb : b = w.heap.size) : (w.alloc (.cells #[x, y] T)).cell? ⟨b, 1, none⟩ = some y := by subst hb; simp [go_sem]
end Qt
end Go.Proofs.Ytebldedmkpdgcaa
