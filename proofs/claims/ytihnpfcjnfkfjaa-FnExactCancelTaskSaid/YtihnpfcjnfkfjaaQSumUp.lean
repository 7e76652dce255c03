/- What addUp of the program gives when it is called: the sum of a list. Conditions: the slice reads as the list that is named, and its sums are small. -/
import Derived.Test.YtihnpfcjnfkfjaaQSchA
namespace Go.Proofs.Ytihnpfcjnfkfjaa
open Go.RowKit
set_option linter.unusedSimpArgs false
set_option linter.unusedVariables false
namespace Qt
def sumL (xs : List Int) : Int := xs.foldl (· + ·) 0
theorem sumL_bd (xs : List Int) (lo hi : Int) (h : ∀ x ∈ xs, lo ≤ x ∧ x ≤ hi) : lo * xs.length ≤ sumL xs ∧ sumL xs ≤ hi * xs.length := by
  have : ∀ (xs : List Int) (a : Int), (∀ x ∈ xs, lo ≤ x ∧ x ≤ hi) → a + lo * xs.length ≤ xs.foldl (· + ·) a ∧ xs.foldl (· + ·) a ≤ a + hi * xs.length := by
    intro xs
    induction xs with
    | nil => intro a _; simp
    | cons x t ih =>
      intro a hx
      have h1 := ih (a + x) (fun y hy => hx y (List.mem_cons_of_mem _ hy))
      have h2 := hx x (List.mem_cons_self ..)
      simp only [List.foldl_cons, List.length_cons, Int.natCast_add, Int.mul_add, Int.natCast_one, Int.mul_one]
      omega
  have := this xs 0 h
  simpa [sumL] using this
theorem sumL_snoc (xs : List Int) (k : Nat) (hk : k < xs.length) : sumL (xs.take (k + 1)) = sumL (xs.take k) + xs[k]?.getD 0 := by
  unfold sumL
  rw [List.take_succ_eq_append_getElem hk, List.foldl_append, List.getElem?_eq_getElem hk]; rfl
/-- addUp: the sum, where each part of it is small. -/
theorem addUpI (A : Option Addr) (n p : Nat) (xs : List Int) (W : World) (hr : RdI W A n xs) (hn : n ≤ 1048576) (hb : ∀ k, -4611686018427387904 ≤ sumL (xs.take k) ∧ sumL (xs.take k) ≤ 4611686018427387904) :
    Calls Try.prog 76 #[.slice A n p] W fun e W' => e = .returned (.int .i64 (sumL xs)) ∧ Below W.heap.size W W' := by
  have RA := Lib.hid hr
  have HLN := Lib.hid hr.1
  have HBD := Lib.hid hb
  clear hb hr
  have hn1 : (n : Int) ≤ 1048576 := by omega
  go_enter Try.func76, Try.ntmps76
  go_wp2_with fail
  go_loopw [3, 8] (fun v i wr => ∃ k : Nat, k ≤ n ∧ i = .int .i64 k ∧ v = .int .i64 (sumL (xs.take k)) ∧ Hid (Below W.heap.size W wr)) (fun _ i _ => n - (intOf i).toNat)
  case atStart => exact ⟨0, Nat.zero_le _, rfl, rfl, Lib.hid (Below.refl _ _)⟩
  case round =>
    obtain ⟨k, hk, rfl, rfl, HW⟩ := hrel
    have hb1 := HBD.out k
    by_cases hlt : k < n
    · obtain ⟨b', off, rfl, hbl, hcell⟩ := RA.out.2 (by omega)
      have hc1 := (HW.out.cell (p := ⟨b', off + k, none⟩) hbl).trans (hcell k hlt)
      have hx1 : xs.getD k 0 = xs[k]?.getD 0 := List.getD_eq_getElem?_getD ..
      rw [hx1] at hc1
      have hb2 := HBD.out (k + 1)
      have hs := sumL_snoc xs k (by rw [HLN.out]; exact hlt)
      rw [hs] at hb2
      have HS := Lib.hid hs
      generalize xs[k]?.getD 0 = x at *
      generalize sumL (xs.take k) = q at *
      have hi1 : (k : Int) < (n : Int) := by omega
      clear hcell hbl hx1 hs
      go_wp2_with fail
      go_roundw
      case rel => exact ⟨k + 1, by omega, by go_num, by rw [HS.out], HW⟩
      case measure => simp [intOf]; omega
    · obtain rfl : k = n := by omega
      have ht : xs.take k = xs := List.take_of_length_le (by rw [HLN.out]; exact Nat.le_refl _)
      rw [ht] at hb1 ⊢
      clear ht
      go_wp2_with fail
      go_ret
      exact ⟨rfl, HW.out⟩
end Qt
end Go.Proofs.Ytihnpfcjnfkfjaa
