/- What addUp of the program gives when it is called: the sum of a list. Conditions: the slice reads as the list that is named, and its sums are small. -/
import Derived.Test.YtebldedmkpdgcaaBlk
namespace Go.Proofs.Ytebldedmkpdgcaa
open Go.RowKit
set_option linter.unusedSimpArgs false
set_option linter.unusedVariables false
namespace Qt
def sumL (xs : List Int) : Int := xs.foldl (· + ·) 0
theorem sumL_bd (xs : List Int) (lo hi : Int) (h : ∀ x ∈ xs, lo ≤ x ∧ x ≤ hi) : lo * xs.length ≤ sumL xs ∧ sumL xs ≤ hi * xs.length := by
  have : ∀ (xs : List Int) (a : Int), (∀ x ∈ xs, lo ≤ x ∧ x ≤ hi) → a + lo * xs.length ≤ xs.foldl (· + ·) a ∧ xs.foldl (· + ·) a ≤ a + hi * xs.length := by
    intro xs
    induction xs with
    | nil => intro a _; simp
    | cons x t ih =>
      intro a hx
      have h1 := ih (a + x) (fun y hy => hx y (List.mem_cons_of_mem _ hy))
      have h2 := hx x (List.mem_cons_self ..)
      simp only [List.foldl_cons, List.length_cons, Int.natCast_add, Int.mul_add, Int.natCast_one, Int.mul_one]
      omega
  have := this xs 0 h
  simpa [sumL] using this
theorem sumL_snoc (xs : List Int) (k : Nat) (hk : k < xs.length) : sumL (xs.take (k + 1)) = sumL (xs.take k) + xs[k]?.getD 0 := by
  unfold sumL
  rw [List.take_succ_eq_append_getElem hk, List.foldl_append, List.getElem?_eq_getElem hk]; rfl
end Qt
end Go.Proofs.Ytebldedmkpdgcaa
