/- What ScaleFor, SymmetricScale and WorstError (of the program and of its model) give when they are called. Conditions: the slice reads as the list that is named. -/
import Derived.Test.YtalkoaahhkafaaaRng
namespace Go.Proofs.Ytalkoaahhkafaaa
open Go.RowKit Go.Sort
set_option linter.unusedSimpArgs false
set_option linter.unusedVariables false
namespace Qt
theorem run_max2 {P : Program} (ts : Array TypeId) (t : TypeId) (x y : Int) (w : World) : (Builtin.max_ ts t #[.int .i64 x, .int .i64 y]).run P w = .ok (.int .i64 (max x y)) w := by
  have h : max x y = if x < y then y else x := by split <;> omega
  rw [h]
  simp [Builtin.max_, Builtin.max2]
/-- The numbers of a list that is a range: within their bounds. -/
theorem rng_true {xs : List Int} (h : rngB xs = true) : -1000000000 ≤ leastR xs ∧ leastR xs ≤ 0 ∧ 0 ≤ mostR xs ∧ mostR xs ≤ 1000000000 ∧ rngL xs = leastR xs ∧ rngM xs = mostR xs := by
  have h2 := allR_mem (rngB_yes h).2
  have h3 := leastR_bd h2
  have h4 := mostR_bd h2
  refine ⟨h3.1, h3.2, h4.1, h4.2, ?_, ?_⟩
  · simp [rngL, h]
  · simp [rngM, h]
theorem scNum_a {xs : List Int} (h : rngB xs = false) : scNum xs = 0 ∧ scZero xs = 0 ∧ symNum xs = 0 ∧ rngL xs = 0 ∧ rngM xs = 0 := by simp [scNum, scZero, symNum, rngL, rngM, h]
theorem scNum_b {xs : List Int} (h : rngB xs = true) : scNum xs = numF (mostR xs - leastR xs) 255 ∧ scZero xs = sat8 (-128 + upD (-leastR xs) (numF (mostR xs - leastR xs) 255)) ∧ symNum xs = numF (max (-leastR xs) (mostR xs)) 127 := by simp [scNum, scZero, symNum, h]
theorem Bk.free2 {w : World} {g : Nat} {t : TypeId} {cs : Array Value} (h : Bk w g t cs) : w.frozen? ⟨g, 0, none⟩ = false ∧ w.frozen? ⟨g, 1, none⟩ = false := ⟨h.frozen 0, h.frozen 1⟩
theorem Bk.set2 {w : World} {g : Nat} {t : TypeId} {a b x y : Value} (h : Bk w g t #[a, b]) : Bk ((w.setCell ⟨g, 0, none⟩ x).setCell ⟨g, 1, none⟩ y) g t #[x, y] := (h.set 0 x).set 1 y
theorem below_set2 {B : Nat} {W w : World} (h : Below B W w) {b : Nat} (hb : B ≤ b) (x y : Value) : Below B W ((w.setCell ⟨b, 0, none⟩ x).setCell ⟨b, 1, none⟩ y) := (h.setCell (p := ⟨b, 0, none⟩) hb x).setCell (p := ⟨b, 1, none⟩) hb y
end Qt
end Go.Proofs.Ytalkoaahhkafaaa
