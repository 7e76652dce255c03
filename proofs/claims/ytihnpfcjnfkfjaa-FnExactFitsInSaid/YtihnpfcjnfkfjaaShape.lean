/- What the functions on shapes (of the program, of its model and of the laws) give when they are called, each at every argument. No conditions but that a side fits its kind. -/
import Derived.Test.YtihnpfcjnfkfjaaQuant
import Derived.Test.YtihnpfcjnfkfjaaMult
import Derived.Deep.QuietTactic
import Derived.StillTailTactics
namespace Go.Proofs.Ytihnpfcjnfkfjaa
open Go.RowKit
namespace Qt

def shOk (h w c : Int) : Bool := decide (1 ≤ h ∧ h ≤ 8 ∧ 1 ≤ w ∧ w ≤ 8 ∧ 1 ≤ c ∧ c ≤ 8)
def szOf (h w c : Int) : Int := if shOk h w c then h * w * c else 0
theorem shOk_iff {h w c : Int} : shOk h w c = true ↔ (1 ≤ h ∧ h ≤ 8 ∧ 1 ≤ w ∧ w ≤ 8 ∧ 1 ≤ c ∧ c ≤ 8) := by simp [shOk]
theorem shOk_not {h w c : Int} : shOk h w c = false ↔ ¬ (1 ≤ h ∧ h ≤ 8 ∧ 1 ≤ w ∧ w ≤ 8 ∧ 1 ≤ c ∧ c ≤ 8) := by simp [shOk]
theorem mulPos {a b m n : Int} (h1 : 1 ≤ a) (h2 : a ≤ m) (h3 : 1 ≤ b) (h4 : b ≤ n) : 1 ≤ a * b ∧ a * b ≤ m * n :=
  ⟨by have := Int.mul_le_mul h1 h3 (by omega) (by omega : (0:Int) ≤ a); omega, Int.mul_le_mul h2 h4 (by omega) (by omega)⟩
theorem szOf_yes {h w c : Int} (hs : shOk h w c = true) : szOf h w c = h * w * c ∧ 1 ≤ h * w ∧ h * w ≤ 64 ∧ 1 ≤ h * w * c ∧ h * w * c ≤ 512 := by
  obtain ⟨a1, a2, a3, a4, a5, a6⟩ := shOk_iff.1 hs
  have h1 := mulPos a1 a2 a3 a4
  have h2 := mulPos h1.1 h1.2 a5 a6
  refine ⟨by rw [szOf, if_pos hs], h1.1, by omega, h2.1, by omega⟩
theorem szOf_no {h w c : Int} (hs : shOk h w c = false) : szOf h w c = 0 := by rw [szOf, hs]; rfl
theorem szOf_bd (h w c : Int) : 0 ≤ szOf h w c ∧ szOf h w c ≤ 512 := by
  rcases hs : shOk h w c with _ | _
  · rw [szOf_no hs]; omega
  · have := szOf_yes hs; omega

end Qt
end Go.Proofs.Ytihnpfcjnfkfjaa
