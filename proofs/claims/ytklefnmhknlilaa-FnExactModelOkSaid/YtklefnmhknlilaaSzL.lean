/- What the laws' own helpers on lists of layers (szLayerS, szModel) give when they are called. Conditions: the slice of layers reads as the list that is named. -/
import Derived.Test.YtklefnmhknlilaaLays
import Derived.Test.YtklefnmhknlilaaLay0
import Derived.Outline
namespace Go.Proofs.Ytklefnmhknlilaa
open Go.RowKit
namespace Qt
def szR (left : Int) (n : Nat) (ls : List Lay) : Int := if (n : Int) + big ls ≤ left then left - n - big ls else -1
/-- A slice of layers that came in. -/
def RdLT (w : World) (A : Option Addr) (n : Nat) (ls : List Lay) : Prop := RdL w A n ls ∧ (n : Int) ≤ 9223372036854775807 ∧ ∀ l ∈ ls, (l.xs.length : Int) ≤ 9223372036854775807 ∧ (l.ys.length : Int) ≤ 9223372036854775807
set_option maxRecDepth 10000 in
theorem szLayerSL (A : Option Addr) (n p : Nat) (ls : List Lay) (left : Int) (W : World) (hr : RdLT W A n ls) (hl0 : 0 ≤ left) (hl : left ≤ 1048576) :
    Calls Try.prog 41 #[.slice A n p, .int .i64 left] W fun e W' => e = .returned (.int .i64 (szR left n ls)) ∧ Below W.heap.size W W' := by
  obtain ⟨hr, hm, hx⟩ := hr
  have HR := Lib.hid hr
  have HX := Lib.hid hx
  have hn0 : (0 : Int) ≤ n := Int.natCast_nonneg n
  clear hr hx
  by_cases hn : (n : Int) ≤ left
  case neg =>
    have hR : szR left n ls = -1 := if_neg (by omega)
    rw [hR]
    clear hR
    go_enter Try.func41, Try.ntmps41
    go_wp2
    go_ret
    exact ⟨rfl, Below.refl _ _⟩
  obtain ⟨R, hR⟩ : ∃ R, szR left n ls = R := ⟨_, rfl⟩
  rw [hR]
  have HRR := Lib.hid hR
  clear hR hm
  go_enter Try.func41, Try.ntmps41
  go_wp2_with fail
  go_loopw [1, 5] (fun lf i wr => ∃ k : Nat, k ≤ n ∧ i = .int .i64 k ∧ (n : Int) + big (ls.take k) ≤ left ∧ lf = .int .i64 (left - n - big (ls.take k)) ∧ Below W.heap.size W wr) (fun _ i _ => n - (intOf i).toNat)
  case atStart => exact ⟨0, Nat.zero_le _, rfl, by simp [big]; omega, by simp [big], Below.refl _ _⟩
  case round =>
    obtain ⟨k, hk, rfl, hlt, rfl, hb⟩ := hrel
    have HB := Lib.hid hb
    clear hb
    by_cases hkn : k < n
    · obtain ⟨b, off, k', o, s, t, m, f, z, A', n', p', B', q', r', xs, ys, rfl, hbs, hj, hat⟩ := (HR.out.of_below HB.out).at hkn
      have hcc := hat.cells
      simp only at hcc
      obtain ⟨c0, c1, c2, c3, c4, c5, c6, c7, c8⟩ := hcc
      have HJ := Lib.hid hj
      have HAT := Lib.hid hat
      clear hat hj hbs
      have hi : (k : Int) < (n : Int) := by omega
      go_wp2_with fail
      clear c0 c1 c2 c3 c4 c5 c6 c7 c8
      have hxs : n' = xs.length := HAT.out.2.1.1.symm
      have hys : q' = ys.length := HAT.out.2.2.1.symm
      have hbt := big_take HJ.out
      simp only at hbt
      by_cases hfit : (n' : Int) + q' ≤ left - n - big (ls.take k)
      · with_reducible refine (szLayer_yes k' o s t m f z A' n' p' B' q' r' _ _ hfit (by omega)).mono ?_
        rintro e w2 ⟨rfl, b2⟩
        have hb2 := Lib.hid (HB.out.trans (b2.mono HB.out.size))
        have e1 : left - (n : Int) - big (ls.take k) - n' - q' = left - n - big (ls.take (k + 1)) := by omega
        have e2 : (n : Int) + big (ls.take (k + 1)) ≤ left := by omega
        rw [e1]
        have E2 := Lib.hid e2
        have e3 : 0 ≤ left - (n : Int) - big (ls.take (k + 1)) := by omega
        clear hbt hfit b2 HJ HAT e1 hxs hys e2 hlt
        generalize hbt : (big (ls.take (k + 1)) : Int) = bt at e3 E2 ⊢
        have HBT := Lib.hid hbt
        clear hbt
        have hE3 : ¬ left - (n : Int) - bt < 0 := by omega
        have hb0 : 0 ≤ bt := by have := HBT.out; omega
        go_wp2_with fail
        go_roundw
        case rel => exact ⟨k + 1, by omega, by go_num, by rw [HBT.out]; exact E2.out, by rw [HBT.out], hb2.out⟩
        case measure => simp [intOf]; omega
      · have hbg := big_take_le ls (k + 1)
        have hR1 : R = -1 := by rw [← HRR.out]; exact if_neg (by omega)
        have hx1 := HX.out _ (List.mem_of_getElem? HJ.out)
        simp only at hx1
        with_reducible refine (szLayer_no k' o s t m f z A' n' p' B' q' r' _ _ (by omega) (by omega) (by omega) (by omega) (by omega)).mono ?_
        rintro e w2 ⟨rfl, b2⟩
        have hb2 := Lib.hid (HB.out.trans (b2.mono HB.out.size))
        clear hbt hfit b2 HJ HAT hxs hys hlt hbg hx1
        have HR1 := Lib.hid hR1
        clear hR1
        go_wp2_with fail
        go_ret
        exact ⟨congrArg (fun x => Ending.returned (.int .i64 x)) HR1.out.symm, hb2.out⟩
    · obtain rfl : k = n := by omega
      have e0 : ls.take k = ls := List.take_of_length_le (by rw [HR.out.1]; exact Nat.le_refl _)
      have e1 : R = left - k - big (ls.take k) := by rw [← HRR.out, e0]; rw [e0] at hlt; exact if_pos hlt
      rw [← e1]
      clear e0 e1 hlt
      go_wp2_with fail
      go_ret
      exact ⟨rfl, HB.out⟩
theorem szModel_yes (h w c : Int) (A : Option Addr) (n p : Nat) (ls : List Lay) (left : Int) (W : World) (hr : RdLT W A n ls) (hl0 : 0 ≤ left) (hl : left ≤ 1048576) (hn : (n : Int) + big ls ≤ left) :
    Calls Try.prog 12 #[.agg #[.int .i64 h, .int .i64 w, .int .i64 c, .slice A n p], .int .i64 left] W fun e W' => e = .returned (.int .i64 (left - n - big ls)) ∧ Below W.heap.size W W' := by
  have b0 := (Below.refl _ W).alloc (Nat.le_refl _) (.cells #[.int .i64 h, .int .i64 w, .int .i64 c, .slice A n p] 26)
  have HC := Lib.hid (szLayerSL A n p ls left _ ⟨hr.1.of_below b0, hr.2⟩ hl0 hl)
  have HB := Lib.hid b0
  have hR : szR left n ls = left - n - big ls := if_pos hn
  rw [hR] at HC
  clear hR b0 hr
  obtain ⟨R, hR⟩ : ∃ R : Int, left - n - big ls = R := ⟨_, rfl⟩
  have hR0 : 0 ≤ R := by omega
  rw [hR] at HC ⊢
  clear hR hn
  go_enter Try.func12, Try.ntmps12
  go_wp2_with fail
  refine HC.out.mono ?_
  rintro e w1 ⟨rfl, b1⟩
  have B1 := Lib.hid (HB.out.trans (b1.mono HB.out.size))
  clear b1
  go_wp2_with fail
  go_ret
  exact ⟨rfl, B1.out⟩
theorem szModel_no (h w c : Int) (A : Option Addr) (n p : Nat) (ls : List Lay) (left : Int) (W : World) (hr : RdLT W A n ls) (hl0 : 0 ≤ left) (hl : left ≤ 1048576) (hn : left < (n : Int) + big ls) :
    Calls Try.prog 12 #[.agg #[.int .i64 h, .int .i64 w, .int .i64 c, .slice A n p], .int .i64 left] W fun e W' => e = .returned (.int .i64 (-1)) ∧ Below W.heap.size W W' := by
  have b0 := (Below.refl _ W).alloc (Nat.le_refl _) (.cells #[.int .i64 h, .int .i64 w, .int .i64 c, .slice A n p] 26)
  have HC := Lib.hid (szLayerSL A n p ls left _ ⟨hr.1.of_below b0, hr.2⟩ hl0 hl)
  have HB := Lib.hid b0
  have hR : szR left n ls = -1 := if_neg (by omega)
  rw [hR] at HC
  clear hR b0 hr hn
  go_enter Try.func12, Try.ntmps12
  go_wp2_with fail
  refine HC.out.mono ?_
  rintro e w1 ⟨rfl, b1⟩
  have B1 := Lib.hid (HB.out.trans (b1.mono HB.out.size))
  clear b1
  go_wp2_with fail
  go_ret
  exact ⟨rfl, B1.out⟩
end Qt
end Go.Proofs.Ytklefnmhknlilaa
