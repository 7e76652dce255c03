/- What the laws' own helpers szStep, szStepS give when they are called. Conditions: the slice of steps reads as the list that is named. -/
import Derived.Test.YtalkoaahhkafaaaSteps
import Derived.Test.YtalkoaahhkafaaaTen
import Derived.Test.YtalkoaahhkafaaaNewI
namespace Go.Proofs.Ytalkoaahhkafaaa
open Go.RowKit
set_option linter.unusedSimpArgs false
set_option linter.unusedVariables false
namespace Qt
theorem szByteS_yes (A : Option Addr) (n p : Nat) (left : Int) (W : World) (hn : (n : Int) ≤ left) (hl : left ≤ 1048576) :
    Calls Try.prog 61 #[.slice A n p, .int .i64 left] W fun e W' => e = .returned (.int .i64 (left - n)) ∧ W = W' := by
  have h0 : (0 : Int) ≤ n := Int.natCast_nonneg n
  go_enter Try.func61, Try.ntmps61
  go_wp2
  go_ret
  exact ⟨rfl, rfl⟩
theorem szByteS_no (A : Option Addr) (n p : Nat) (left : Int) (W : World) (hn : left < (n : Int)) (hl : 0 ≤ left) (hm : (n : Int) ≤ 9223372036854775807) :
    Calls Try.prog 61 #[.slice A n p, .int .i64 left] W fun e W' => e = .returned (.int .i64 (-1)) ∧ W = W' := by
  have h0 : (0 : Int) ≤ n := Int.natCast_nonneg n
  go_enter Try.func61, Try.ntmps61
  go_wp2
  go_ret
  exact ⟨rfl, rfl⟩
theorem szStep_yes (k a b h w c : Int) (A : Option Addr) (n p : Nat) (B : Option Addr) (q r : Nat) (left : Int) (W : World) (hn : (n : Int) + q ≤ left) (hl : left ≤ 1048576) :
    Calls Try.prog 34 #[.agg #[.int .i64 k, .int .i64 a, .int .i64 b, .slice A n p, .int .i64 h, .int .i64 w, .int .i64 c, .slice B q r], .int .i64 left] W fun e W' => e = .returned (.int .i64 (left - n - q)) ∧ Below W.heap.size W W' := by
  have h0 : (0 : Int) ≤ n := Int.natCast_nonneg n
  have h1 : (0 : Int) ≤ q := Int.natCast_nonneg q
  have K := Lib.hid (Bk.new W 51 #[.int .i64 k, .int .i64 a, .int .i64 b, .slice A n p, .int .i64 h, .int .i64 w, .int .i64 c, .slice B q r])
  have Bl := Lib.hid ((Below.refl _ W).alloc (Nat.le_refl _) (.cells #[.int .i64 k, .int .i64 a, .int .i64 b, .slice A n p, .int .i64 h, .int .i64 w, .int .i64 c, .slice B q r] 51))
  go_enter Try.func34, Try.ntmps34
  go_wp2_with fail
  generalize W.alloc (.cells #[.int .i64 k, .int .i64 a, .int .i64 b, .slice A n p, .int .i64 h, .int .i64 w, .int .i64 c, .slice B q r] 51) = v at K Bl ⊢
  generalize hg : W.heap.size = g at K ⊢
  refine (szByteS_yes A n p left _ (by omega) hl).mono ?_
  rintro e w1 ⟨rfl, rfl⟩
  obtain ⟨c0, c1, c2, c3, c4, c5, c6, c7⟩ := K.out.cell8
  have hp : ¬ left - (n : Int) < 0 := by omega
  go_wp2_with fail
  refine (szTensor_yes h w c B q r (left - n) _ (by omega) (by omega)).mono ?_
  rintro e w2 ⟨rfl, bb⟩
  replace Bl := Lib.hid (Bl.out.trans (bb.mono Bl.out.size))
  have hp2 : ¬ left - (n : Int) - q < 0 := by omega
  clear bb c0 c1 c2 c3 c4 c5 c6 c7 hp
  go_wp2_with fail
  go_ret
  exact ⟨rfl, Bl.out⟩
theorem szStep_no (k a b h w c : Int) (A : Option Addr) (n p : Nat) (B : Option Addr) (q r : Nat) (left : Int) (W : World) (hn : left < (n : Int) + q) (h0l : 0 ≤ left) (hl : left ≤ 1048576) (hm : (n : Int) ≤ 9223372036854775807) (hm2 : (q : Int) ≤ 9223372036854775807) :
    Calls Try.prog 34 #[.agg #[.int .i64 k, .int .i64 a, .int .i64 b, .slice A n p, .int .i64 h, .int .i64 w, .int .i64 c, .slice B q r], .int .i64 left] W fun e W' => e = .returned (.int .i64 (-1)) ∧ Below W.heap.size W W' := by
  have h0 : (0 : Int) ≤ n := Int.natCast_nonneg n
  have h1 : (0 : Int) ≤ q := Int.natCast_nonneg q
  have K := Lib.hid (Bk.new W 51 #[.int .i64 k, .int .i64 a, .int .i64 b, .slice A n p, .int .i64 h, .int .i64 w, .int .i64 c, .slice B q r])
  have Bl := Lib.hid ((Below.refl _ W).alloc (Nat.le_refl _) (.cells #[.int .i64 k, .int .i64 a, .int .i64 b, .slice A n p, .int .i64 h, .int .i64 w, .int .i64 c, .slice B q r] 51))
  by_cases hnl : left < (n : Int)
  · go_enter Try.func34, Try.ntmps34
    go_wp2_with fail
    generalize W.alloc (.cells #[.int .i64 k, .int .i64 a, .int .i64 b, .slice A n p, .int .i64 h, .int .i64 w, .int .i64 c, .slice B q r] 51) = v at K Bl ⊢
    refine (szByteS_no A n p left _ hnl h0l hm).mono ?_
    rintro e w1 ⟨rfl, rfl⟩
    go_wp2_with fail
    go_ret
    exact ⟨rfl, Bl.out⟩
  · go_enter Try.func34, Try.ntmps34
    go_wp2_with fail
    generalize W.alloc (.cells #[.int .i64 k, .int .i64 a, .int .i64 b, .slice A n p, .int .i64 h, .int .i64 w, .int .i64 c, .slice B q r] 51) = v at K Bl ⊢
    generalize hg : W.heap.size = g at K ⊢
    refine (szByteS_yes A n p left _ (by omega) hl).mono ?_
    rintro e w1 ⟨rfl, rfl⟩
    obtain ⟨c0, c1, c2, c3, c4, c5, c6, c7⟩ := K.out.cell8
    have hp : ¬ left - (n : Int) < 0 := by omega
    go_wp2_with fail
    refine (szTensor_no h w c B q r (left - n) _ (by omega) (by omega) hm2).mono ?_
    rintro e w2 ⟨rfl, bb⟩
    replace Bl := Lib.hid (Bl.out.trans (bb.mono Bl.out.size))
    clear bb c0 c1 c2 c3 c4 c5 c6 c7 hp
    go_wp2_with fail
    go_ret
    exact ⟨rfl, Bl.out⟩
def szRS (left : Int) (n : Nat) (ls : List Stp) : Int := if (n : Int) + bigS ls ≤ left then left - n - bigS ls else -1
/-- A slice of steps that came in. -/
def RdStT (w : World) (A : Option Addr) (n : Nat) (ls : List Stp) : Prop := RdSt w A n ls ∧ (n : Int) ≤ 9223372036854775807 ∧ ∀ l ∈ ls, (l.bs.length : Int) ≤ 9223372036854775807 ∧ (l.xs.length : Int) ≤ 9223372036854775807
set_option maxRecDepth 10000 in
theorem szStepSL (A : Option Addr) (n p : Nat) (ls : List Stp) (left : Int) (W : World) (hr : RdStT W A n ls) (hl0 : 0 ≤ left) (hl : left ≤ 1048576) :
    Calls Try.prog 12 #[.slice A n p, .int .i64 left] W fun e W' => e = .returned (.int .i64 (szRS left n ls)) ∧ Below W.heap.size W W' := by
  obtain ⟨hr, hm, hx⟩ := hr
  have HR := Lib.hid hr
  have HX := Lib.hid hx
  have hn0 : (0 : Int) ≤ n := Int.natCast_nonneg n
  clear hr hx
  by_cases hn : (n : Int) ≤ left
  case neg =>
    have hR : szRS left n ls = -1 := if_neg (by omega)
    rw [hR]
    clear hR
    go_enter Try.func12, Try.ntmps12
    go_wp2
    go_ret
    exact ⟨rfl, Below.refl _ _⟩
  obtain ⟨R, hR⟩ : ∃ R, szRS left n ls = R := ⟨_, rfl⟩
  rw [hR]
  have HRR := Lib.hid hR
  clear hR hm
  go_enter Try.func12, Try.ntmps12
  go_wp2_with fail
  go_loopw [1, 5] (fun lf i wr => ∃ k : Nat, k ≤ n ∧ i = .int .i64 k ∧ (n : Int) + bigS (ls.take k) ≤ left ∧ lf = .int .i64 (left - n - bigS (ls.take k)) ∧ Below W.heap.size W wr) (fun _ i _ => n - (intOf i).toNat)
  case atStart => exact ⟨0, Nat.zero_le _, rfl, by simp [bigS]; omega, by simp [bigS], Below.refl _ _⟩
  case round =>
    obtain ⟨k, hk, rfl, hlt, rfl, hb⟩ := hrel
    have HB := Lib.hid hb
    clear hb
    by_cases hkn : k < n
    · obtain ⟨b, off, k', a', b', h', w', c', A', n', p', B', q', r', bs, xs, rfl, hbs, hj, hat⟩ := (HR.out.of_below HB.out).at hkn
      obtain ⟨c0, c1, c2, c3, c4, c5, c6, c7⟩ := hat.cells8
      have HJ := Lib.hid hj
      have HAT := Lib.hid hat
      clear hat hj hbs
      have hi : (k : Int) < (n : Int) := by omega
      go_wp2_with fail
      clear c0 c1 c2 c3 c4 c5 c6 c7
      have hxs : n' = bs.length := HAT.out.2.1.1.symm
      have hys : q' = xs.length := HAT.out.2.2.1.symm
      have hbt := bigS_take HJ.out
      simp only at hbt
      by_cases hfit : (n' : Int) + q' ≤ left - n - bigS (ls.take k)
      · with_reducible refine (szStep_yes k' a' b' h' w' c' A' n' p' B' q' r' _ _ hfit (by omega)).mono ?_
        rintro e w2 ⟨rfl, b2⟩
        have hb2 := Lib.hid (HB.out.trans (b2.mono HB.out.size))
        have e1 : left - (n : Int) - bigS (ls.take k) - n' - q' = left - n - bigS (ls.take (k + 1)) := by omega
        have e2 : (n : Int) + bigS (ls.take (k + 1)) ≤ left := by omega
        rw [e1]
        have E2 := Lib.hid e2
        have e3 : 0 ≤ left - (n : Int) - bigS (ls.take (k + 1)) := by omega
        clear hbt hfit b2 HJ HAT e1 hxs hys e2 hlt
        generalize hbt : (bigS (ls.take (k + 1)) : Int) = bt at e3 E2 ⊢
        have HBT := Lib.hid hbt
        clear hbt
        have hE3 : ¬ left - (n : Int) - bt < 0 := by omega
        have hb0 : 0 ≤ bt := by have := HBT.out; omega
        go_wp2_with fail
        go_roundw
        case rel => exact ⟨k + 1, by omega, by go_num, by rw [HBT.out]; exact E2.out, by rw [HBT.out], hb2.out⟩
        case measure => simp [intOf]; omega
      · have hbg := bigS_take_le ls (k + 1)
        have hR1 : R = -1 := by rw [← HRR.out]; exact if_neg (by omega)
        have hx1 := HX.out _ (List.mem_of_getElem? HJ.out)
        simp only at hx1
        with_reducible refine (szStep_no k' a' b' h' w' c' A' n' p' B' q' r' _ _ (by omega) (by omega) (by omega) (by omega) (by omega)).mono ?_
        rintro e w2 ⟨rfl, b2⟩
        have hb2 := Lib.hid (HB.out.trans (b2.mono HB.out.size))
        clear hbt hfit b2 HJ HAT hxs hys hlt hbg hx1
        have HR1 := Lib.hid hR1
        clear hR1
        go_wp2_with fail
        go_ret
        exact ⟨congrArg (fun x => Ending.returned (.int .i64 x)) HR1.out.symm, hb2.out⟩
    · obtain rfl : k = n := by omega
      have e0 : ls.take k = ls := List.take_of_length_le (by rw [HR.out.1]; exact Nat.le_refl _)
      have e1 : R = left - k - bigS (ls.take k) := by rw [← HRR.out, e0]; rw [e0] at hlt; exact if_pos hlt
      rw [← e1]
      clear e0 e1 hlt
      go_wp2_with fail
      go_ret
      exact ⟨rfl, HB.out⟩
end Qt
end Go.Proofs.Ytalkoaahhkafaaa
