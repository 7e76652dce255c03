/- How an argument that is a layer lies as values: seven numbers and two slices that read as lists. -/
import Derived.Test.YtklefnmhknlilaaOpen
namespace Go.Proofs.Ytklefnmhknlilaa
open Go.ChangeShapes Go.WideShapes Go.ChangeAt Go.RowKit Go.Joins
namespace Qt
theorem cellsLa : Try.prog.cellsOf 83 = 9 := by kernel_rfl
section
variable {H : Type} {enc : TypeId × Value → H} {w : World} {base : Nat} {spare : Nat → Bool} {held : Bool}
/-- A field that is a slice of whole numbers. -/
theorem open_sliceF {n : Nat} {v : Value} {x : DataW H × List MemPlace} (h : DataW.trod enc Try.prog w base (fun _ => true) held n 41 [v] = some x) :
    ∃ (A : Option Addr) (n cap : Nat) (xs : List Int), v = .slice A n cap ∧ RdT w A n xs := by
  rcases open_ints Try.underlying41 Try.underlying3 cellsI h with ⟨hcs, _⟩ | ⟨x, l, cc, zs, hcs, _, hl, hm, hz, _, hcell, _⟩
  · simp at hcs
    subst hcs
    exact ⟨none, 0, 0, [], rfl, RdI.nil w _, by omega⟩
  · simp at hcs
    subst hcs
    refine ⟨some x, l, cc, zs.take l, rfl, ?_, by unfold maxLen at hm; omega⟩
    have hzl : zs.length = cc := by simpa using hz
    refine ⟨by rw [List.length_take]; omega, fun hn => ?_⟩
    obtain ⟨b', off, rfl, hcell'⟩ := ints_at hcell (by omega)
    refine ⟨b', off, rfl, World.block_lt_of_cell? w ⟨b', off + 0, none⟩ (hcell' 0 (by omega)), fun j hj => ?_⟩
    rw [hcell' j (by omega)]
    simp [List.getD_eq_getElem?_getD, hj]
theorem open_intF {n : Nat} {v : Value} {x : DataW H × List MemPlace} (h : DataW.trod enc Try.prog w base spare held n 3 [v] = some x) : ∃ a : Int, v = .int .i64 a := by
  obtain ⟨a, e0, _, _⟩ := DataW.trod_int Try.underlying3 h
  simp at e0
  exact ⟨a, e0⟩
set_option maxRecDepth 20000 in
theorem open_layer {r : Reach} {b0 : Nat} {v : Value} {d : DataW H} {p : List MemPlace} (hv : Value.okWide Try.prog w r b0 83 v) (h : DataW.Trod enc Try.prog w base (fun _ => true) held 83 v d p) :
    ∃ (k o s t m f z : Int) (A : Option Addr) (n cap : Nat) (xs : List Int) (B : Option Addr) (nb cb : Nat) (ys : List Int),
      v = .agg #[.int .i64 k, .int .i64 o, .int .i64 s, .int .i64 t, .int .i64 m, .int .i64 f, .int .i64 z, .slice A n cap, .slice B nb cb] ∧ RdT w A n xs ∧ RdT w B nb ys := by
  obtain ⟨cs, rfl, hsz⟩ := okWide_struct Try.underlying83 hv
  obtain ⟨fuel, hf⟩ := h
  obtain ⟨xs, m, rfl, _, hlen, hxl, hg⟩ := DataW.trod_struct Try.underlying83 hf
  have hxl9 : xs.length = 9 := hxl
  have hlen9 : cs.toList.length = 9 := by rw [cellsLa] at hlen; simpa [Value.cells] using hlen
  obtain ⟨l⟩ := cs
  match l, hlen9 with
  | [c0, c1, c2, c3, c4, c5, c6, c7, c8], _ =>
    match xs, hxl9 with
    | [y0, y1, y2, y3, y4, y5, y6, y7, y8], _ =>
      have f0 := hg 0 _ rfl
      have f1 := hg 1 _ rfl
      have f2 := hg 2 _ rfl
      have f3 := hg 3 _ rfl
      have f4 := hg 4 _ rfl
      have f5 := hg 5 _ rfl
      have f6 := hg 6 _ rfl
      have f7 := hg 7 _ rfl
      have f8 := hg 8 _ rfl
      clear hg hf hv hsz
      simp [cellsI, cellsSl, Value.cells] at f0 f1 f2 f3 f4 f5 f6 f7 f8
      obtain ⟨a0, rfl⟩ := open_intF f0
      obtain ⟨a1, rfl⟩ := open_intF f1
      obtain ⟨a2, rfl⟩ := open_intF f2
      obtain ⟨a3, rfl⟩ := open_intF f3
      obtain ⟨a4, rfl⟩ := open_intF f4
      obtain ⟨a5, rfl⟩ := open_intF f5
      obtain ⟨a6, rfl⟩ := open_intF f6
      obtain ⟨A, n, cap, xs, rfl, r1⟩ := open_sliceF f7
      obtain ⟨B, nb, cb, ys, rfl, r2⟩ := open_sliceF f8
      exact ⟨a0, a1, a2, a3, a4, a5, a6, A, n, cap, xs, B, nb, cb, ys, rfl, r1, r2⟩
end
end Qt
end Go.Proofs.Ytklefnmhknlilaa
