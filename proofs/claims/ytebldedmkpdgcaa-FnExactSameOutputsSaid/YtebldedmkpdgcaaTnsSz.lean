/- What the laws' own helper szTensorS gives when it is called. Conditions: the slice reads as the list that is named. -/
import Derived.Test.YtebldedmkpdgcaaTnss
import Derived.Test.YtebldedmkpdgcaaTen
import Derived.Test.YtebldedmkpdgcaaNewI
namespace Go.Proofs.Ytebldedmkpdgcaa
open Go.RowKit
set_option linter.unusedSimpArgs false
set_option linter.unusedVariables false
namespace Qt
theorem szTns_yes (h w c : Int) (A : Option Addr) (n p : Nat) (left : Int) (W : World) (hn : (n : Int) ≤ left) (hl : left ≤ 1048576) :
    Calls Try.prog 49 #[.agg #[.int .i64 h, .int .i64 w, .int .i64 c, .slice A n p], .int .i64 left] W fun e W' => e = .returned (.int .i64 (left - n)) ∧ Below W.heap.size W W' := szTensor_yes h w c A n p left W hn hl
theorem szTns_no (h w c : Int) (A : Option Addr) (n p : Nat) (left : Int) (W : World) (hn : left < (n : Int)) (h0l : 0 ≤ left) (hl : left ≤ 1048576) (hm : (n : Int) ≤ 9223372036854775807) :
    Calls Try.prog 49 #[.agg #[.int .i64 h, .int .i64 w, .int .i64 c, .slice A n p], .int .i64 left] W fun e W' => e = .returned (.int .i64 (-1)) ∧ Below W.heap.size W W' := szTensor_no h w c A n p left W hn h0l hm
def szRTns (left : Int) (n : Nat) (ls : List Tns) : Int := if (n : Int) + bigTns ls ≤ left then left - n - bigTns ls else -1
/-- A slice that came in. -/
def RdTnsT (w : World) (A : Option Addr) (n : Nat) (ls : List Tns) : Prop := RdTns w A n ls ∧ (n : Int) ≤ 9223372036854775807 ∧ ∀ l ∈ ls, (l.xs.length : Int) ≤ 9223372036854775807
set_option maxRecDepth 10000 in
theorem szTnsSL (A : Option Addr) (n p : Nat) (ls : List Tns) (left : Int) (W : World) (hr : RdTnsT W A n ls) (hl0 : 0 ≤ left) (hl : left ≤ 1048576) :
    Calls Try.prog 33 #[.slice A n p, .int .i64 left] W fun e W' => e = .returned (.int .i64 (szRTns left n ls)) ∧ Below W.heap.size W W' := by
  obtain ⟨hr, hm, hx⟩ := hr
  have HR := Lib.hid hr
  have HX := Lib.hid hx
  have hn0 : (0 : Int) ≤ n := Int.natCast_nonneg n
  clear hr hx
  by_cases hn : (n : Int) ≤ left
  case neg =>
    have hR : szRTns left n ls = -1 := if_neg (by omega)
    rw [hR]
    clear hR
    go_enter Try.func33, Try.ntmps33
    go_wp2
    go_ret
    exact ⟨rfl, Below.refl _ _⟩
  obtain ⟨R, hR⟩ : ∃ R, szRTns left n ls = R := ⟨_, rfl⟩
  rw [hR]
  have HRR := Lib.hid hR
  clear hR hm
  go_enter Try.func33, Try.ntmps33
  go_wp2_with fail
  go_loopw [1, 5] (fun lf i wr => ∃ k : Nat, k ≤ n ∧ i = .int .i64 k ∧ (n : Int) + bigTns (ls.take k) ≤ left ∧ lf = .int .i64 (left - n - bigTns (ls.take k)) ∧ Below W.heap.size W wr) (fun _ i _ => n - (intOf i).toNat)
  case atStart => exact ⟨0, Nat.zero_le _, rfl, by simp [bigTns]; omega, by simp [bigTns], Below.refl _ _⟩
  case round =>
    obtain ⟨k, hk, rfl, hlt, rfl, hb⟩ := hrel
    have HB := Lib.hid hb
    clear hb
    by_cases hkn : k < n
    · obtain ⟨b, off, h1, w1, c1, A', n', p', xs, rfl, hbs, hj, hat⟩ := (HR.out.of_below HB.out).at hkn
      obtain ⟨c0, c1, c2, c3⟩ := hat.cells
      have HJ := Lib.hid hj
      have HAT := Lib.hid hat
      clear hat hj hbs
      have hi : (k : Int) < (n : Int) := by omega
      go_wp2_with fail
      clear c0 c1 c2 c3
      have hxs : n' = xs.length := HAT.out.2.1.symm
      have hbt := bigTns_take HJ.out
      simp only at hbt
      by_cases hfit : (n' : Int) ≤ left - n - bigTns (ls.take k)
      · with_reducible refine (szTns_yes h1 w1 c1 A' n' p' _ _ hfit (by omega)).mono ?_
        rintro e w2 ⟨rfl, b2⟩
        have hb2 := Lib.hid (HB.out.trans (b2.mono HB.out.size))
        have e1 : left - (n : Int) - bigTns (ls.take k) - n' = left - n - bigTns (ls.take (k + 1)) := by omega
        have e2 : (n : Int) + bigTns (ls.take (k + 1)) ≤ left := by omega
        rw [e1]
        have E2 := Lib.hid e2
        have e3 : 0 ≤ left - (n : Int) - bigTns (ls.take (k + 1)) := by omega
        clear hbt hfit b2 HJ HAT e1 hxs e2 hlt
        generalize hbt : (bigTns (ls.take (k + 1)) : Int) = bt at e3 E2 ⊢
        have HBT := Lib.hid hbt
        clear hbt
        have hE3 : ¬ left - (n : Int) - bt < 0 := by omega
        have hb0 : 0 ≤ bt := by have := HBT.out; omega
        go_wp2_with fail
        go_roundw
        case rel => exact ⟨k + 1, by omega, by go_num, by rw [HBT.out]; exact E2.out, by rw [HBT.out], hb2.out⟩
        case measure => simp [intOf]; omega
      · have hbg := bigTns_take_le ls (k + 1)
        have hR1 : R = -1 := by rw [← HRR.out]; exact if_neg (by omega)
        have hx1 := HX.out _ (List.mem_of_getElem? HJ.out)
        simp only at hx1
        with_reducible refine (szTns_no h1 w1 c1 A' n' p' _ _ (by omega) (by omega) (by omega) (by omega)).mono ?_
        rintro e w2 ⟨rfl, b2⟩
        have hb2 := Lib.hid (HB.out.trans (b2.mono HB.out.size))
        clear hbt hfit b2 HJ HAT hxs hlt hbg hx1
        have HR1 := Lib.hid hR1
        clear hR1
        go_wp2_with fail
        go_ret
        exact ⟨congrArg (fun x => Ending.returned (.int .i64 x)) HR1.out.symm, hb2.out⟩
    · obtain rfl : k = n := by omega
      have e0 : ls.take k = ls := List.take_of_length_le (by rw [HR.out.1]; exact Nat.le_refl _)
      have e1 : R = left - k - bigTns (ls.take k) := by rw [← HRR.out, e0]; rw [e0] at hlt; exact if_pos hlt
      rw [← e1]
      clear e0 e1 hlt
      go_wp2_with fail
      go_ret
      exact ⟨rfl, HB.out⟩
end Qt
end Go.Proofs.Ytebldedmkpdgcaa
