/- What SameTensor (of the program and of its model) gives when it is called, and slices.Equal as the program uses it. Conditions: the slices read as the lists that are named. -/
import Derived.Test.YtalkoaahhkafaaaBlockUse
import Derived.Laws.StructEq
namespace Go.Proofs.Ytalkoaahhkafaaa
open Go.RowKit Go.Sort
namespace Qt

def shEq (h w c h2 w2 c2 : Int) : Bool := h == h2 && (w == w2 && c == c2)
theorem neqShape (h w c h2 w2 c2 : Int) (W : World) : (binOp .neq 55 (.agg #[.int .i64 h, .int .i64 w, .int .i64 c]) (.agg #[.int .i64 h2, .int .i64 w2, .int .i64 c2])).run Try.prog W = .ok (.bool (!shEq h w c h2 w2 c2)) W := by
  have u3 := Try.underlying3
  have hS : Try.prog.underlying 55 = some (.struct (Try.prog.fieldsOf 55)) := by kernel_rfl
  have hp : Try.prog.stoodInHeld 55 = false := by kernel_rfl
  rw [run_neq_struct, show (10000 : Nat) = 9999 + 1 from rfl, run_equalIn_agg W 9999 55 _ _ hS hp]
  simp only [Program.fieldsOf, Try.underlying55]
  go_simp
  unfold shEq
  by_cases h1 : h = h2 <;> by_cases h3 : w = w2 <;> by_cases h4 : c = c2 <;> simp [h1, h3, h4]
def sameOf (h w c : Int) (xs : List Int) (h2 w2 c2 : Int) (ys : List Int) : Bool := tOk h w c xs && (tOk h2 w2 c2 ys && (shEq h w c h2 w2 c2 && decide (xs = ys)))
theorem shEq_iff {h w c h2 w2 c2 : Int} : shEq h w c h2 w2 c2 = true ↔ h = h2 ∧ w = w2 ∧ c = c2 := by simp [shEq]
theorem list_ne {xs ys : List Int} {k : Nat} (h : (xs[k]?.getD 0 != ys[k]?.getD 0) = true) : decide (xs = ys) = false := by
  have h' : xs[k]?.getD 0 ≠ ys[k]?.getD 0 := by simpa using h
  rw [decide_eq_false_iff_not]
  rintro rfl
  exact h' rfl
theorem list_eq {xs ys : List Int} {n : Nat} (h1 : xs.length = n) (h2 : ys.length = n) (h : ∀ j, j < n → xs[j]?.getD 0 = ys[j]?.getD 0) : decide (xs = ys) = true := by
  rw [decide_eq_true_iff]
  apply List.ext_getElem (by omega)
  intro j hj hj2
  simpa [hj, hj2] using h j (by omega)

theorem ret_bool {a b : Bool} (h : a = b) : Ending.returned (.bool a) = .returned (.bool b) := by rw [h]
end Qt
end Go.Proofs.Ytalkoaahhkafaaa
