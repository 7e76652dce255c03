/- What the methods on the three sides (ok, size, place), and PlaceOf and SizeOf of the program and of its model, give when they are called, each at every argument. No conditions but that a side fits its kind. -/
import Derived.Test.YtihnpfcjnfkfjaaShape
namespace Go.Proofs.Ytihnpfcjnfkfjaa
open Go.RowKit
namespace Qt

theorem keep {w1 w2 : World} (hb : Below w1.heap.size w1 w2) {p : Addr} {v : Value} (h : w1.cell? p = some v) : w2.cell? p = some v := (hb.cell (World.block_lt_of_cell? _ _ h)).trans h
theorem new3 (W : World) (t : TypeId) (x y z : Value) : (W.alloc (.cells #[x, y, z] t)).cell? ⟨W.heap.size, 0, none⟩ = some x ∧ (W.alloc (.cells #[x, y, z] t)).cell? ⟨W.heap.size, 1, none⟩ = some y ∧ (W.alloc (.cells #[x, y, z] t)).cell? ⟨W.heap.size, 2, none⟩ = some z := by
  refine ⟨?_, ?_, ?_⟩ <;> simp [go_sem]
theorem after1 {W : World} {o : Obj} {w1 : World} (b1 : Below (W.alloc o).heap.size (W.alloc o) w1) : Below W.heap.size W w1 := ((Below.refl _ W).alloc (Nat.le_refl _) _).trans (b1.mono (by simp))

end Qt
end Go.Proofs.Ytihnpfcjnfkfjaa
