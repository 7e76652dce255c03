/- What PlaceOf (of the program and of its model) gives when it is called, at every argument. No conditions but that a number fits its kind. -/
import Derived.Test.YtihnpfcjnfkfjaaSides
namespace Go.Proofs.Ytihnpfcjnfkfjaa
open Go.RowKit
namespace Qt

def plIn (h w c i j k : Int) : Bool := decide (0 ≤ i ∧ i < h ∧ 0 ≤ j ∧ j < w ∧ 0 ≤ k ∧ k < c)
def plOf (h w c i j k : Int) : Int := if shOk h w c && plIn h w c i j k then (i * w + j) * c + k else -1
theorem plOf_no {h w c i j k : Int} (hs : shOk h w c = false) : plOf h w c i j k = -1 := by rw [plOf, hs]; rfl
theorem plOf_out {h w c i j k : Int} (hp : ¬ (0 ≤ i ∧ i < h ∧ 0 ≤ j ∧ j < w ∧ 0 ≤ k ∧ k < c)) : plOf h w c i j k = -1 := by
  have : plIn h w c i j k = false := by simpa [plIn] using hp
  rw [plOf, this, Bool.and_false]; rfl
theorem plOf_in {h w c i j k : Int} (hs : shOk h w c = true) (h1 : 0 ≤ i) (h2 : i < h) (h3 : 0 ≤ j) (h4 : j < w) (h5 : 0 ≤ k) (h6 : k < c) :
    plOf h w c i j k = (i * w + j) * c + k ∧ 0 ≤ i * w ∧ i * w ≤ 56 ∧ i * w + j < h * w ∧ 0 ≤ (i * w + j) * c ∧ (i * w + j) * c ≤ 504 ∧ (i * w + j) * c + k < h * w * c := by
  obtain ⟨a1, a2, a3, a4, a5, a6⟩ := shOk_iff.1 hs
  have hp : plIn h w c i j k = true := by simp [plIn]; omega
  refine ⟨by rw [plOf, hs, hp]; rfl, ?_⟩
  have e1 : 0 ≤ i * w := Int.mul_nonneg h1 (by omega)
  have e2 : i * w ≤ (h - 1) * w := Int.mul_le_mul_of_nonneg_right (by omega) (by omega)
  have e3 : (h - 1) * w ≤ 7 * 8 := Int.mul_le_mul (by omega) (by omega) (by omega) (by omega)
  have e4 : (h - 1) * w = h * w - w := by rw [Int.sub_mul]; omega
  have e5 : 0 ≤ (i * w + j) * c := Int.mul_nonneg (by omega) (by omega)
  have e6 : (i * w + j) * c ≤ (h * w - 1) * c := Int.mul_le_mul_of_nonneg_right (by omega) (by omega)
  have e7 : (h * w - 1) * c = h * w * c - c := by rw [Int.sub_mul]; omega
  have e8 : (i * w + j) * c ≤ 63 * 8 := Int.mul_le_mul (by omega) (by omega) (by omega) (by omega)
  omega
theorem plOf_bd (h w c i j k : Int) : -1 ≤ plOf h w c i j k ∧ (plOf h w c i j k < 0 → plOf h w c i j k = -1) ∧ (0 ≤ plOf h w c i j k → plOf h w c i j k < szOf h w c) := by
  rcases hs : shOk h w c with _ | _
  · rw [plOf_no hs]; omega
  · by_cases hp : 0 ≤ i ∧ i < h ∧ 0 ≤ j ∧ j < w ∧ 0 ≤ k ∧ k < c
    · have := plOf_in hs hp.1 hp.2.1 hp.2.2.1 hp.2.2.2.1 hp.2.2.2.2.1 hp.2.2.2.2.2
      have := szOf_yes hs
      omega
    · rw [plOf_out hp]; omega

end Qt
end Go.Proofs.Ytihnpfcjnfkfjaa
