/- How an argument that is a task lies as values: four numbers and a slice that reads as a list. -/
import Derived.Test.YtadahjmncbpjaaaOpen
namespace Go.Proofs.Ytadahjmncbpjaaa
open Go.ChangeShapes Go.WideShapes Go.ChangeAt Go.RowKit Go.Joins
namespace Qt
theorem cellsTk : Try.prog.cellsOf 24 = 5 := by kernel_rfl
section
variable {H : Type} {enc : TypeId × Value → H} {w : World} {base : Nat} {spare : Nat → Bool} {held : Bool}
set_option maxRecDepth 10000 in
theorem rd_slice {fuel : Nat} {c : Value} {x : DataW H × List MemPlace} (f1 : DataW.trod enc Try.prog w base (fun _ => true) held fuel 22 [c] = some x) : ∃ (A : Option Addr) (n cap : Nat) (xs : List Int), c = .slice A n cap ∧ RdT w A n xs := by
  rcases open_ints Try.underlying22 Try.underlying3 cellsI f1 with ⟨hcs, _⟩ | ⟨x, l, cc, zs, hcs, _, hl, hm, hz, _, hcell, _⟩
  · simp at hcs
    subst hcs
    exact ⟨none, 0, 0, [], rfl, RdI.nil w _, by omega⟩
  · simp at hcs
    subst hcs
    refine ⟨some x, l, cc, zs.take l, rfl, ?_, by unfold maxLen at hm; omega⟩
    have hzl : zs.length = cc := by simpa using hz
    refine ⟨by rw [List.length_take]; omega, fun hn => ?_⟩
    obtain ⟨b', off, rfl, hcell'⟩ := ints_at hcell (by omega)
    refine ⟨b', off, rfl, World.block_lt_of_cell? w ⟨b', off + 0, none⟩ (hcell' 0 (by omega)), fun j hj => ?_⟩
    rw [hcell' j (by omega)]
    simp [List.getD_eq_getElem?_getD, hj]
set_option maxRecDepth 10000 in
theorem open_task {r : Reach} {b0 : Nat} {v : Value} {d : DataW H} {p : List MemPlace} (hv : Value.okWide Try.prog w r b0 24 v) (h : DataW.Trod enc Try.prog w base (fun _ => true) held 24 v d p) :
    ∃ (i a d b : Int) (A : Option Addr) (n cap : Nat) (xs : List Int), v = .agg #[.int .i64 i, .slice A n cap, .int .i64 a, .int .i64 d, .int .i64 b] ∧ RdT w A n xs := by
  obtain ⟨cs, rfl, hsz⟩ := okWide_struct Try.underlying24 hv
  obtain ⟨fuel, hf⟩ := h
  obtain ⟨xs, m, rfl, _, hlen, hxl, hg⟩ := DataW.trod_struct Try.underlying24 hf
  have hxl5 : xs.length = 5 := hxl
  have hlen5 : cs.toList.length = 5 := by rw [cellsTk] at hlen; simpa [Value.cells] using hlen
  obtain ⟨l⟩ := cs
  match l, hlen5 with
  | [c0, c1, c2, c3, c4], _ =>
    match xs, hxl5 with
    | [y0, y1, y2, y3, y4], _ =>
      have f0 := hg 0 _ rfl
      have f1 := hg 1 _ rfl
      have f2 := hg 2 _ rfl
      have f3 := hg 3 _ rfl
      have f4 := hg 4 _ rfl
      simp [cellsI, cellsSl, Value.cells] at f0 f1 f2 f3 f4
      obtain ⟨i, e0, _, _⟩ := DataW.trod_int Try.underlying3 f0
      obtain ⟨A, n, cap, zs, e1, hr⟩ := rd_slice f1
      obtain ⟨a, e2, _, _⟩ := DataW.trod_int Try.underlying3 f2
      obtain ⟨d', e3, _, _⟩ := DataW.trod_int Try.underlying3 f3
      obtain ⟨b', e4, _, _⟩ := DataW.trod_int Try.underlying3 f4
      simp at e0 e2 e3 e4
      exact ⟨i, a, d', b', A, n, cap, zs, by rw [e0, e1, e2, e3, e4], hr⟩
end
end Qt
end Go.Proofs.Ytadahjmncbpjaaa
