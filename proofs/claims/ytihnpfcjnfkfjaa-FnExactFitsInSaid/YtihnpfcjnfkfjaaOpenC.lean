/- How an argument that is a list of numbers or a scale lies as values: a slice that reads as a list; two numbers. -/
import Derived.Test.YtihnpfcjnfkfjaaOpen
namespace Go.Proofs.Ytihnpfcjnfkfjaa
open Go.ChangeShapes Go.WideShapes Go.ChangeAt Go.RowKit Go.Joins
namespace Qt
section
variable {H : Type} {enc : TypeId × Value → H} {w : World} {base : Nat} {spare : Nat → Bool} {held : Bool}
set_option maxRecDepth 10000 in
theorem open_list {r : Reach} {b0 : Nat} {v : Value} {d : DataW H} {p : List MemPlace} (hv : Value.okWide Try.prog w r b0 35 v) (h : DataW.Trod enc Try.prog w base (fun _ => true) held 35 v d p) :
    ∃ (A : Option Addr) (n cap : Nat) (xs : List Int), v = .slice A n cap ∧ RdT w A n xs := by
  obtain ⟨a, l, c, rfl⟩ := okWide_slice Try.underlying35 hv
  obtain ⟨fuel, hf⟩ := h
  rcases open_ints Try.underlying35 Try.underlying3 cellsI hf with ⟨hcs, _⟩ | ⟨x, l', cc, zs, hcs, _, hl, hm, hz, _, hcell, _⟩
  · simp [Value.cells] at hcs
    obtain ⟨rfl, rfl, rfl⟩ := hcs
    exact ⟨none, 0, 0, [], rfl, RdI.nil w _, by omega⟩
  · simp [Value.cells] at hcs
    obtain ⟨rfl, rfl, rfl⟩ := hcs
    refine ⟨some x, l, c, zs.take l, rfl, ?_, by unfold maxLen at hm; omega⟩
    have hzl : zs.length = c := by simpa using hz
    refine ⟨by rw [List.length_take]; omega, fun hn => ?_⟩
    obtain ⟨b', off, rfl, hcell'⟩ := ints_at hcell (by omega)
    refine ⟨b', off, rfl, World.block_lt_of_cell? w ⟨b', off + 0, none⟩ (hcell' 0 (by omega)), fun j hj => ?_⟩
    rw [hcell' j (by omega)]
    simp [List.getD_eq_getElem?_getD, hj]
end
end Qt
end Go.Proofs.Ytihnpfcjnfkfjaa
