/- What the laws' own helper eqTaskS gives when it is called over two that read alike. Conditions: the slices read as the lists that are named. -/
import Derived.Test.YtihnpfcjnfkfjaaQTskSz
import Derived.Lib.QuietBelow
namespace Go.Proofs.Ytihnpfcjnfkfjaa
open Go.RowKit Go.Sort
set_option linter.unusedSimpArgs false
set_option linter.unusedVariables false
namespace Qt
theorem eqTsk_same (ti ta td tb : Int) (A : Option Addr) (n p : Nat) (A2 : Option Addr) (p2 : Nat) (xs : List Int) (W : World) (ra : RdI W A n xs) (ra2 : RdI W A2 n xs) (hn : n ≤ 1048576) :
    Calls Try.prog 75 #[.agg #[.int .i64 ti, .slice A n p, .int .i64 ta, .int .i64 td, .int .i64 tb], .agg #[.int .i64 ti, .slice A2 n p2, .int .i64 ta, .int .i64 td, .int .i64 tb]] W fun e W' => e = .returned (.bool true) ∧ Below W.heap.size W W' := eqTask_same ti A A2 n p p2 xs ta td tb W ra ra2 hn
set_option maxRecDepth 10000 in
theorem eqTskS_same (A A2 : Option Addr) (n p p2 : Nat) (ls : List Tsk) (W : World) (hr : RdTsk W A n ls) (hr2 : RdTsk W A2 n ls) (hn : n + bigTsk ls ≤ 1048576) :
    Calls Try.prog 52 #[.slice A n p, .slice A2 n p2] W fun e W' => e = .returned (.bool true) ∧ Below W.heap.size W W' := by
  have HR := Lib.hid hr
  have HR2 := Lib.hid hr2
  have HN := Lib.hid hn
  have hn1 : (n : Int) ≤ 1048576 := by omega
  clear hr hr2 hn
  go_enter Try.func52, Try.ntmps52
  go_wp2_with fail
  go_loopw [5] (fun i wr => ∃ k : Nat, k ≤ n ∧ i = .int .i64 k ∧ Below W.heap.size W wr) (fun i _ => n - (intOf i).toNat)
  case atStart => exact ⟨0, Nat.zero_le _, rfl, Below.refl _ _⟩
  case round =>
    obtain ⟨k, hk, rfl, hb⟩ := hrel
    have HB := Lib.hid hb
    clear hb
    by_cases hlt : k < n
    · obtain ⟨b, off, ti1, ta1, td1, tb1, A', n', p', xs, rfl, hbs, hj, hat⟩ := (HR.out.of_below HB.out).at hlt
      obtain ⟨b2, off2, rfl, hbs2, hc2⟩ := (HR2.out.of_below HB.out).2 (by omega)
      obtain ⟨⟨A3, n3, p3⟩, hat2⟩ := hc2 k _ hj
      obtain ⟨ea0, ea1, ea2, ea3, ea4⟩ := hat.cells
      obtain ⟨eb0, eb1, eb2, eb3, eb4⟩ := hat2.cells
      have hbig := bigTsk_at1 hj
      have hle := hat.lens
      have hle2 := hat2.lens
      have hn2 : n' ≤ 1048576 := by have := HN.out; omega
      obtain rfl : n3 = n' := by omega
      have R1 := Lib.hid hat.rds
      have R3 := Lib.hid hat2.rds
      have HN2 := Lib.hid hn2
      clear hat hat2 hj hbs hbs2 hc2 hbig hn2 hle hle2
      have hi : (k : Int) < (n : Int) := by omega
      go_wp2_with fail
      replace ea0 := cell_regrown ea0
      replace ea1 := cell_regrown ea1
      replace ea2 := cell_regrown ea2
      replace ea3 := cell_regrown ea3
      replace ea4 := cell_regrown ea4
      replace eb0 := cell_regrown eb0
      replace eb1 := cell_regrown eb1
      replace eb2 := cell_regrown eb2
      replace eb3 := cell_regrown eb3
      replace eb4 := cell_regrown eb4
      have q0 := Lib.hid (fun dd os => Calls.regrown_of (eqTsk_same ti1 ta1 td1 tb1 A' n3 p' A3 p3 xs (grow (redrawn wr dd) os) (R1.out.of_below (below_regrown wr dd os)) (R3.out.of_below (below_regrown wr dd os)) HN2.out))
      refine wp_region_quiet_below mixed (by kernel_rfl) ?_
      repeat (go_big_quiet_step (first | with_reducible exact q0.out _ _))
      refine wpQuiet_nil ?_
      intro _ hw'
      obtain ⟨⟨dq, osq⟩, rfl⟩ := hw'
      have HB2 := Lib.hid (HB.out.trans ((below_regrown wr dq osq).mono HB.out.size))
      clear ea0 ea1 ea2 ea3 ea4 eb0 eb1 eb2 eb3 eb4 q0
      generalize grow (redrawn wr dq) osq = u9 at HB2 ⊢
      go_wp2_with fail
      go_roundw
      case rel => exact ⟨k + 1, by omega, by go_num, HB2.out⟩
      case measure => simp [intOf]; omega
    · obtain rfl : k = n := by omega
      go_wp2_with fail
      go_ret
      exact ⟨rfl, HB.out⟩
end Qt
end Go.Proofs.Ytihnpfcjnfkfjaa
