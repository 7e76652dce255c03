/- How an argument that is a list of numbers or a scale lies as values: a slice that reads as a list; two numbers. -/
import Derived.Test.YtebldedmkpdgcaaOpen
namespace Go.Proofs.Ytebldedmkpdgcaa
open Go.ChangeShapes Go.WideShapes Go.ChangeAt Go.RowKit Go.Joins
namespace Qt
theorem cellsSc : Try.prog.cellsOf 63 = 2 := by kernel_rfl
section
variable {H : Type} {enc : TypeId × Value → H} {w : World} {base : Nat} {spare : Nat → Bool} {held : Bool}
set_option maxRecDepth 10000 in
theorem open_scale {r : Reach} {b0 : Nat} {v : Value} {d : DataW H} {p : List MemPlace} (hv : Value.okWide Try.prog w r b0 63 v) (h : DataW.Trod enc Try.prog w base spare held 63 v d p) :
    ∃ a b : Int, v = .agg #[.int .i64 a, .int .i64 b] := by
  obtain ⟨cs, rfl, hsz⟩ := okWide_struct Try.underlying63 hv
  obtain ⟨fuel, hf⟩ := h
  obtain ⟨xs, m, rfl, _, hlen, hxl, hg⟩ := DataW.trod_struct Try.underlying63 hf
  have hxl2 : xs.length = 2 := hxl
  have hlen2 : cs.toList.length = 2 := by rw [cellsSc] at hlen; simpa [Value.cells] using hlen
  obtain ⟨l⟩ := cs
  match l, hlen2 with
  | [c0, c1], _ =>
    match xs, hxl2 with
    | [y0, y1], _ =>
      have f0 := hg 0 _ rfl
      have f1 := hg 1 _ rfl
      simp [cellsI, Value.cells] at f0 f1
      obtain ⟨a, e0, _, _⟩ := DataW.trod_int Try.underlying3 f0
      obtain ⟨b, e1, _, _⟩ := DataW.trod_int Try.underlying3 f1
      simp at e0 e1
      exact ⟨a, b, by rw [e0, e1]⟩
set_option maxRecDepth 10000 in
theorem open_list {r : Reach} {b0 : Nat} {v : Value} {d : DataW H} {p : List MemPlace} (hv : Value.okWide Try.prog w r b0 24 v) (h : DataW.Trod enc Try.prog w base (fun _ => true) held 24 v d p) :
    ∃ (A : Option Addr) (n cap : Nat) (xs : List Int), v = .slice A n cap ∧ RdT w A n xs := by
  obtain ⟨a, l, c, rfl⟩ := okWide_slice Try.underlying24 hv
  obtain ⟨fuel, hf⟩ := h
  rcases open_ints Try.underlying24 Try.underlying3 cellsI hf with ⟨hcs, _⟩ | ⟨x, l', cc, zs, hcs, _, hl, hm, hz, _, hcell, _⟩
  · simp [Value.cells] at hcs
    obtain ⟨rfl, rfl, rfl⟩ := hcs
    exact ⟨none, 0, 0, [], rfl, RdI.nil w _, by omega⟩
  · simp [Value.cells] at hcs
    obtain ⟨rfl, rfl, rfl⟩ := hcs
    refine ⟨some x, l, c, zs.take l, rfl, ?_, by unfold maxLen at hm; omega⟩
    have hzl : zs.length = c := by simpa using hz
    refine ⟨by rw [List.length_take]; omega, fun hn => ?_⟩
    obtain ⟨b', off, rfl, hcell'⟩ := ints_at hcell (by omega)
    refine ⟨b', off, rfl, World.block_lt_of_cell? w ⟨b', off + 0, none⟩ (hcell' 0 (by omega)), fun j hj => ?_⟩
    rw [hcell' j (by omega)]
    simp [List.getD_eq_getElem?_getD, hj]
end
end Qt
end Go.Proofs.Ytebldedmkpdgcaa
