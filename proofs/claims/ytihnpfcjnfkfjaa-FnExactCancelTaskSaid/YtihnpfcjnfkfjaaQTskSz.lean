/- What the laws' own helper szTaskS gives when it is called. Conditions: the slice reads as the list that is named. -/
import Derived.Test.YtihnpfcjnfkfjaaQSchA
import Derived.Test.YtihnpfcjnfkfjaaQSchB
import Derived.Test.YtihnpfcjnfkfjaaQNewI
namespace Go.Proofs.Ytihnpfcjnfkfjaa
open Go.RowKit
set_option linter.unusedSimpArgs false
set_option linter.unusedVariables false
namespace Qt
theorem szTsk_yes (ti : Int) (A : Option Addr) (n p : Nat) (ta td tb : Int) (left : Int) (W : World) (hn : (n : Int) ≤ left) (hl : left ≤ 1048576) :
    Calls Try.prog 70 #[.agg #[.int .i64 ti, .slice A n p, .int .i64 ta, .int .i64 td, .int .i64 tb], .int .i64 left] W fun e W' => e = .returned (.int .i64 (left - n)) ∧ Below W.heap.size W W' := szTask_yes ti A n p ta td tb left W hn hl
theorem szTsk_no (ti : Int) (A : Option Addr) (n p : Nat) (ta td tb : Int) (left : Int) (W : World) (hn : left < (n : Int)) (h0l : 0 ≤ left) (hl : left ≤ 1048576) (hm : (n : Int) ≤ 9223372036854775807) :
    Calls Try.prog 70 #[.agg #[.int .i64 ti, .slice A n p, .int .i64 ta, .int .i64 td, .int .i64 tb], .int .i64 left] W fun e W' => e = .returned (.int .i64 (-1)) ∧ Below W.heap.size W W' := szTask_no ti A n p ta td tb left W hn h0l hm
def szRTsk (left : Int) (n : Nat) (ls : List Tsk) : Int := if (n : Int) + bigTsk ls ≤ left then left - n - bigTsk ls else -1
/-- A slice that came in. -/
def RdTskT (w : World) (A : Option Addr) (n : Nat) (ls : List Tsk) : Prop := RdTsk w A n ls ∧ (n : Int) ≤ 9223372036854775807 ∧ ∀ l ∈ ls, (l.xs.length : Int) ≤ 9223372036854775807
set_option maxRecDepth 10000 in
theorem szTskSL (A : Option Addr) (n p : Nat) (ls : List Tsk) (left : Int) (W : World) (hr : RdTskT W A n ls) (hl0 : 0 ≤ left) (hl : left ≤ 1048576) :
    Calls Try.prog 45 #[.slice A n p, .int .i64 left] W fun e W' => e = .returned (.int .i64 (szRTsk left n ls)) ∧ Below W.heap.size W W' := by
  obtain ⟨hr, hm, hx⟩ := hr
  have HR := Lib.hid hr
  have HX := Lib.hid hx
  have hn0 : (0 : Int) ≤ n := Int.natCast_nonneg n
  clear hr hx
  by_cases hn : (n : Int) ≤ left
  case neg =>
    have hR : szRTsk left n ls = -1 := if_neg (by omega)
    rw [hR]
    clear hR
    go_enter Try.func45, Try.ntmps45
    go_wp2
    go_ret
    exact ⟨rfl, Below.refl _ _⟩
  obtain ⟨R, hR⟩ : ∃ R, szRTsk left n ls = R := ⟨_, rfl⟩
  rw [hR]
  have HRR := Lib.hid hR
  clear hR hm
  go_enter Try.func45, Try.ntmps45
  go_wp2_with fail
  go_loopw [1, 5] (fun lf i wr => ∃ k : Nat, k ≤ n ∧ i = .int .i64 k ∧ (n : Int) + bigTsk (ls.take k) ≤ left ∧ lf = .int .i64 (left - n - bigTsk (ls.take k)) ∧ Below W.heap.size W wr) (fun _ i _ => n - (intOf i).toNat)
  case atStart => exact ⟨0, Nat.zero_le _, rfl, by simp [bigTsk]; omega, by simp [bigTsk], Below.refl _ _⟩
  case round =>
    obtain ⟨k, hk, rfl, hlt, rfl, hb⟩ := hrel
    have HB := Lib.hid hb
    clear hb
    by_cases hkn : k < n
    · obtain ⟨b, off, ti1, ta1, td1, tb1, A', n', p', xs, rfl, hbs, hj, hat⟩ := (HR.out.of_below HB.out).at hkn
      obtain ⟨c0, c1, c2, c3, c4⟩ := hat.cells
      have HJ := Lib.hid hj
      have HAT := Lib.hid hat
      clear hat hj hbs
      have hi : (k : Int) < (n : Int) := by omega
      go_wp2_with fail
      clear c0 c1 c2 c3 c4
      have hxs : n' = xs.length := HAT.out.2.1.symm
      have hbt := bigTsk_take HJ.out
      simp only at hbt
      by_cases hfit : (n' : Int) ≤ left - n - bigTsk (ls.take k)
      · with_reducible refine (szTsk_yes ti1 A' n' p' ta1 td1 tb1 _ _ hfit (by omega)).mono ?_
        rintro e w2 ⟨rfl, b2⟩
        have hb2 := Lib.hid (HB.out.trans (b2.mono HB.out.size))
        have e1 : left - (n : Int) - bigTsk (ls.take k) - n' = left - n - bigTsk (ls.take (k + 1)) := by omega
        have e2 : (n : Int) + bigTsk (ls.take (k + 1)) ≤ left := by omega
        rw [e1]
        have E2 := Lib.hid e2
        have e3 : 0 ≤ left - (n : Int) - bigTsk (ls.take (k + 1)) := by omega
        clear hbt hfit b2 HJ HAT e1 hxs e2 hlt
        generalize hbt : (bigTsk (ls.take (k + 1)) : Int) = bt at e3 E2 ⊢
        have HBT := Lib.hid hbt
        clear hbt
        have hE3 : ¬ left - (n : Int) - bt < 0 := by omega
        have hb0 : 0 ≤ bt := by have := HBT.out; omega
        go_wp2_with fail
        go_roundw
        case rel => exact ⟨k + 1, by omega, by go_num, by rw [HBT.out]; exact E2.out, by rw [HBT.out], hb2.out⟩
        case measure => simp [intOf]; omega
      · have hbg := bigTsk_take_le ls (k + 1)
        have hR1 : R = -1 := by rw [← HRR.out]; exact if_neg (by omega)
        have hx1 := HX.out _ (List.mem_of_getElem? HJ.out)
        simp only at hx1
        with_reducible refine (szTsk_no ti1 A' n' p' ta1 td1 tb1 _ _ (by omega) (by omega) (by omega) (by omega)).mono ?_
        rintro e w2 ⟨rfl, b2⟩
        have hb2 := Lib.hid (HB.out.trans (b2.mono HB.out.size))
        clear hbt hfit b2 HJ HAT hxs hlt hbg hx1
        have HR1 := Lib.hid hR1
        clear hR1
        go_wp2_with fail
        go_ret
        exact ⟨congrArg (fun x => Ending.returned (.int .i64 x)) HR1.out.symm, hb2.out⟩
    · obtain rfl : k = n := by omega
      have e0 : ls.take k = ls := List.take_of_length_le (by rw [HR.out.1]; exact Nat.le_refl _)
      have e1 : R = left - k - bigTsk (ls.take k) := by rw [← HRR.out, e0]; rw [e0] at hlt; exact if_pos hlt
      rw [← e1]
      clear e0 e1 hlt
      go_wp2_with fail
      go_ret
      exact ⟨rfl, HB.out⟩
end Qt
end Go.Proofs.Ytihnpfcjnfkfjaa
