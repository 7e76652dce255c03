/- What TaskOk (of the program and of its model) gives when it is called, and its law. Conditions: the slice of costs reads as the list that is named. -/
import Derived.Test.YtebldedmkpdgcaaTask
namespace Go.Proofs.Ytebldedmkpdgcaa
open Go.RowKit Go.Sort
set_option linter.unusedSimpArgs false
set_option linter.unusedVariables false
namespace Qt
theorem taskB_iff {id a d b : Int} {xs : List Int} : taskB id xs a d b = true ↔ inB 1 1000000 id = true ∧ inB 1 6 (xs.length : Int) = true ∧ allIn 1 1000 xs = true ∧ inB 0 ((xs.length : Int) - 1) a = true ∧ inB 0 1000000 d = true ∧ inB 0 1000000 b = true := by
  simp only [taskB, Bool.and_eq_true]
theorem taskB_no {id a d b : Int} {xs : List Int} (h : inB 1 1000000 id = false ∨ inB 1 6 (xs.length : Int) = false ∨ allIn 1 1000 xs = false ∨ inB 0 ((xs.length : Int) - 1) a = false ∨ inB 0 1000000 d = false ∨ inB 0 1000000 b = false) : taskB id xs a d b = false := by
  rcases h with h | h | h | h | h | h <;> simp [taskB, h]
theorem allIn_two (lo hi x y : Int) : allIn lo hi [x, y] = (inB lo hi x && inB lo hi y) := by simp [allIn]
theorem inside2I (lo hi x y : Int) (g : Nat) (t : TypeId) (W : World) (h : Bk W g t #[.int .i64 x, .int .i64 y]) :
    Calls Try.prog 73 #[.int .i64 lo, .int .i64 hi, .slice (some ⟨g, 0, none⟩) 2 2] W fun e W' => e = .returned (.bool (inB lo hi x && inB lo hi y)) ∧ Below W.heap.size W W' := by
  rw [← allIn_two]
  exact insideB lo hi _ 2 2 [x, y] W ⟨rfl, fun _ => ⟨g, 0, rfl, h.lt, fun j hj => by
    rcases (by omega : j = 0 ∨ j = 1) with rfl | rfl
    · exact h.cell 0 rfl
    · exact h.cell 1 rfl⟩⟩ (by omega)
theorem tickS (x : Int) (W : World) : Calls Try.prog 136 #[.int .i64 x] W fun e W' => e = .returned (.bool (inB 0 1000000 x)) ∧ W = W' := by
  go_enter Try.func136, Try.ntmps136
  go_wp2_with fail
  refine (inS 0 1000000 x _).mono ?_
  rintro e w1 ⟨rfl, rfl⟩
  go_wp2_with fail
  go_ret
  exact ⟨rfl, rfl⟩
end Qt
end Go.Proofs.Ytebldedmkpdgcaa
