/- What the laws' own helpers on layers (szLayer) give when they are called. Conditions: the slices read as the lists that are named. -/
import Derived.Test.YtklefnmhknlilaaTen
namespace Go.Proofs.Ytklefnmhknlilaa
open Go.RowKit
namespace Qt
theorem szIntSL (A : Option Addr) (n p : Nat) (left : Int) (W : World) (hl : 0 ≤ left) (hl2 : left ≤ 1048576) (hm : (n : Int) ≤ 9223372036854775807) :
    Calls Try.prog 82 #[.slice A n p, .int .i64 left] W fun e W' => e = .returned (.int .i64 (if (n : Int) ≤ left then left - n else -1)) ∧ W = W' := by
  have h0 : (0 : Int) ≤ n := Int.natCast_nonneg n
  by_cases hn : (n : Int) ≤ left
  · rw [if_pos hn]
    go_enter Try.func82, Try.ntmps82
    go_wp2
    go_ret
    exact ⟨rfl, rfl⟩
  · rw [if_neg hn]
    go_enter Try.func82, Try.ntmps82
    go_wp2
    go_ret
    exact ⟨rfl, rfl⟩

theorem szLayer_yes (k o s t m f z : Int) (A : Option Addr) (n p : Nat) (B : Option Addr) (q r : Nat) (left : Int) (W : World) (hn : (n : Int) + q ≤ left) (hl : left ≤ 1048576) :
    Calls Try.prog 65 #[.agg #[.int .i64 k, .int .i64 o, .int .i64 s, .int .i64 t, .int .i64 m, .int .i64 f, .int .i64 z, .slice A n p, .slice B q r], .int .i64 left] W fun e W' => e = .returned (.int .i64 (left - n - q)) ∧ Below W.heap.size W W' := by
  have h0 : (0 : Int) ≤ n := Int.natCast_nonneg n
  have h1 : (0 : Int) ≤ q := Int.natCast_nonneg q
  have H1 := Lib.hid (szIntSL A n p left)
  have H2 := Lib.hid (szIntSL B q r (left - n))
  go_enter Try.func65, Try.ntmps65
  go_wp2_with fail
  refine (H1.out _ (by omega) hl (by omega)).mono ?_
  rintro e w1 ⟨rfl, rfl⟩
  rw [if_pos (by omega)]
  go_wp2_with fail
  refine (H2.out _ (by omega) (by omega) (by omega)).mono ?_
  rintro e w1 ⟨rfl, rfl⟩
  rw [if_pos (by omega)]
  go_wp2_with fail
  go_ret
  exact ⟨rfl, (Below.refl _ W).alloc (Nat.le_refl _) _⟩
theorem szLayer_no (k o s t m f z : Int) (A : Option Addr) (n p : Nat) (B : Option Addr) (q r : Nat) (left : Int) (W : World) (hn : left < (n : Int) + q) (hl0 : 0 ≤ left) (hl : left ≤ 1048576) (hm : (n : Int) ≤ 9223372036854775807) (hm2 : (q : Int) ≤ 9223372036854775807) :
    Calls Try.prog 65 #[.agg #[.int .i64 k, .int .i64 o, .int .i64 s, .int .i64 t, .int .i64 m, .int .i64 f, .int .i64 z, .slice A n p, .slice B q r], .int .i64 left] W fun e W' => e = .returned (.int .i64 (-1)) ∧ Below W.heap.size W W' := by
  have h0 : (0 : Int) ≤ n := Int.natCast_nonneg n
  have h1 : (0 : Int) ≤ q := Int.natCast_nonneg q
  have H1 := Lib.hid (szIntSL A n p left)
  have H2 := Lib.hid (szIntSL B q r (left - n))
  go_enter Try.func65, Try.ntmps65
  go_wp2_with fail
  refine (H1.out _ (by omega) hl (by omega)).mono ?_
  rintro e w1 ⟨rfl, rfl⟩
  by_cases hx : (n : Int) ≤ left
  · rw [if_pos hx]
    go_wp2_with fail
    refine (H2.out _ (by omega) (by omega) (by omega)).mono ?_
    rintro e w1 ⟨rfl, rfl⟩
    rw [if_neg (by omega)]
    go_wp2_with fail
    go_ret
    exact ⟨rfl, (Below.refl _ W).alloc (Nat.le_refl _) _⟩
  · rw [if_neg hx]
    go_wp2_with fail
    go_ret
    exact ⟨rfl, (Below.refl _ W).alloc (Nat.le_refl _) _⟩
end Qt
end Go.Proofs.Ytklefnmhknlilaa
