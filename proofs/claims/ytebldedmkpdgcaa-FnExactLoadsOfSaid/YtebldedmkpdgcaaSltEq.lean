/- What the laws' own helper eqSlotS gives when it is called over two that read alike. Conditions: the slices read as the lists that are named. -/
import Derived.Test.YtebldedmkpdgcaaSltSz
import Derived.Lib.QuietBelow
namespace Go.Proofs.Ytebldedmkpdgcaa
open Go.RowKit Go.Sort
set_option linter.unusedSimpArgs false
set_option linter.unusedVariables false
namespace Qt
theorem eqSlt_same (jb wk fr te : Int) (W : World) :
    Calls Try.prog 74 #[.agg #[.int .i64 jb, .int .i64 wk, .int .i64 fr, .int .i64 te], .agg #[.int .i64 jb, .int .i64 wk, .int .i64 fr, .int .i64 te]] W fun e W' => e = .returned (.bool true) ∧ Below W.heap.size W W' := by
  go_enter Try.func74, Try.ntmps74
  go_wp2_with fail
  go_ret
  exact ⟨rfl, ((Below.refl _ W).alloc (Nat.le_refl _) _).alloc (by simp) _⟩
set_option maxRecDepth 10000 in
theorem eqSltS_same (A A2 : Option Addr) (n p p2 : Nat) (ls : List Slt) (W : World) (hr : RdSlt W A n ls) (hr2 : RdSlt W A2 n ls) (hn : n + bigSlt ls ≤ 1048576) :
    Calls Try.prog 19 #[.slice A n p, .slice A2 n p2] W fun e W' => e = .returned (.bool true) ∧ Below W.heap.size W W' := by
  have HR := Lib.hid hr
  have HR2 := Lib.hid hr2
  have HN := Lib.hid hn
  have hn1 : (n : Int) ≤ 1048576 := by omega
  clear hr hr2 hn
  go_enter Try.func19, Try.ntmps19
  go_wp2_with fail
  go_loopw [5] (fun i wr => ∃ k : Nat, k ≤ n ∧ i = .int .i64 k ∧ Below W.heap.size W wr) (fun i _ => n - (intOf i).toNat)
  case atStart => exact ⟨0, Nat.zero_le _, rfl, Below.refl _ _⟩
  case round =>
    obtain ⟨k, hk, rfl, hb⟩ := hrel
    have HB := Lib.hid hb
    clear hb
    by_cases hlt : k < n
    · obtain ⟨b, off, jb1, wk1, fr1, te1, P', rfl, hbs, hj, hat⟩ := (HR.out.of_below HB.out).at hlt
      obtain ⟨b2, off2, rfl, hbs2, hc2⟩ := (HR2.out.of_below HB.out).2 (by omega)
      obtain ⟨P3, hat2⟩ := hc2 k _ hj
      obtain ⟨ea0, ea1, ea2, ea3⟩ := hat.cells
      obtain ⟨eb0, eb1, eb2, eb3⟩ := hat2.cells
      clear hat hat2 hj hbs hbs2 hc2
      have hi : (k : Int) < (n : Int) := by omega
      go_wp2_with fail
      replace ea0 := cell_regrown ea0
      replace ea1 := cell_regrown ea1
      replace ea2 := cell_regrown ea2
      replace ea3 := cell_regrown ea3
      replace eb0 := cell_regrown eb0
      replace eb1 := cell_regrown eb1
      replace eb2 := cell_regrown eb2
      replace eb3 := cell_regrown eb3
      have q0 := Lib.hid (fun dd os => Calls.regrown_of (eqSlt_same jb1 wk1 fr1 te1 (grow (redrawn wr dd) os)))
      refine wp_region_quiet_below mixed (by kernel_rfl) ?_
      repeat (go_big_quiet_step (first | with_reducible exact q0.out _ _))
      refine wpQuiet_nil ?_
      intro _ hw'
      obtain ⟨⟨dq, osq⟩, rfl⟩ := hw'
      have HB2 := Lib.hid (HB.out.trans ((below_regrown wr dq osq).mono HB.out.size))
      clear ea0 ea1 ea2 ea3 eb0 eb1 eb2 eb3 q0
      generalize grow (redrawn wr dq) osq = u9 at HB2 ⊢
      go_wp2_with fail
      go_roundw
      case rel => exact ⟨k + 1, by omega, by go_num, HB2.out⟩
      case measure => simp [intOf]; omega
    · obtain rfl : k = n := by omega
      go_wp2_with fail
      go_ret
      exact ⟨rfl, HB.out⟩
end Qt
end Go.Proofs.Ytebldedmkpdgcaa
