/- What RangeOfReals (of the program and of its model) gives when it is called. Conditions: the slice reads as the list that is named. -/
import Derived.Test.YtalkoaahhkafaaaSca
import Derived.Test.YtalkoaahhkafaaaFlz
import Derived.Laws.ComplexArith
import Derived.Laws.Cover2
import Derived.Laws.Cover3
namespace Go.Proofs.Ytalkoaahhkafaaa
open Go.RowKit Go.Sort
set_option linter.unusedSimpArgs false
set_option linter.unusedVariables false
namespace Qt
theorem rngB_len {xs : List Int} (h : inB 1 300 (xs.length : Int) = false) : rngB xs = false := by simp [rngB, h]
theorem rngB_at {xs : List Int} {k : Nat} (hk : k < xs.length) (h : realB (xs[k]?.getD 0) = false) : rngB xs = false := by
  have : allR xs = false := allIn_no hk h
  simp [rngB, this]
theorem rngB_all {xs : List Int} (h1 : inB 1 300 (xs.length : Int) = true) (h : ∀ j, j < xs.length → realB (xs[j]?.getD 0) = true) : rngB xs = true := by
  have : allR xs = true := allIn_yes h
  simp [rngB, this, h1]
theorem mem_take_real {xs : List Int} {k : Nat} (h : ∀ j, j < k → realB (xs[j]?.getD 0) = true) : ∀ x ∈ xs.take k, -1000000000 ≤ x ∧ x ≤ 1000000000 := by
  intro x hx
  obtain ⟨j, hj, rfl⟩ := List.mem_iff_getElem.1 hx
  have hj2 : j < xs.length := by rw [List.length_take] at hj; omega
  have h2 := h j (by rw [List.length_take] at hj; omega)
  rw [List.getElem?_eq_getElem hj2, Option.getD_some] at h2
  rw [List.getElem_take]
  exact inB_iff.1 h2
def Cz (a b : Int) : Value := .complex .f64 (FlI a) (FlI b)
theorem fli_zero : FlI 0 = 0 := by decide +kernel
theorem rngLM_bd (xs : List Int) : -1000000000 ≤ rngL xs ∧ rngL xs ≤ 0 ∧ 0 ≤ rngM xs ∧ rngM xs ≤ 1000000000 := by
  rcases h : rngB xs with _ | _
  · simp [rngL, rngM, h]
  · have h2 := allR_mem (rngB_yes h).2
    have h3 := leastR_bd h2
    have h4 := mostR_bd h2
    simp only [rngL, rngM, h, if_true]
    omega
end Qt
end Go.Proofs.Ytalkoaahhkafaaa
