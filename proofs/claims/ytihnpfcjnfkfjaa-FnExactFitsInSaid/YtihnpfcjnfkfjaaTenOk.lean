/- What TensorOk of the model gives when it is called. Conditions: the slice reads as the list that is named. -/
import Derived.Test.YtihnpfcjnfkfjaaTen
import Derived.Test.YtihnpfcjnfkfjaaPlace
import Derived.Lib.QuietBelow
namespace Go.Proofs.Ytihnpfcjnfkfjaa
open Go.RowKit Go.Sort
namespace Qt

def fit8 (x : Int) : Bool := decide (-128 ≤ x ∧ x ≤ 127)
def tOk (h w c : Int) (xs : List Int) : Bool := shOk h w c && (decide ((xs.length : Int) = szOf h w c) && xs.all fit8)
theorem tOk_iff {h w c : Int} {xs : List Int} : tOk h w c xs = true ↔ shOk h w c = true ∧ (xs.length : Int) = szOf h w c ∧ ∀ x ∈ xs, -128 ≤ x ∧ x ≤ 127 := by
  simp [tOk, fit8]
theorem tOk_no1 {h w c : Int} {xs : List Int} (hs : shOk h w c = false) : tOk h w c xs = false := by simp [tOk, hs]
theorem tOk_no2 {h w c : Int} {xs : List Int} (hs : (xs.length : Int) ≠ szOf h w c) : tOk h w c xs = false := by simp [tOk, hs]
theorem tOk_no3 {h w c : Int} {xs : List Int} {k : Nat} (hk : k < xs.length) (hx : ¬ (-128 ≤ xs.getD k 0 ∧ xs.getD k 0 ≤ 127)) : tOk h w c xs = false := by
  have e : xs.getD k 0 = xs[k] := by simp [List.getD_eq_getElem?_getD, hk]
  rw [e] at hx
  rcases hb : tOk h w c xs with _ | _
  · rfl
  · exact absurd ((tOk_iff.1 hb).2.2 _ (List.getElem_mem hk)) hx

theorem mixed : Try.prog.follows .mixedOrders = true := by kernel_rfl
end Qt
end Go.Proofs.Ytihnpfcjnfkfjaa
