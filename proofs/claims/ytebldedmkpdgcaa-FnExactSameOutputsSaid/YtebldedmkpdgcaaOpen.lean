/- How an argument that is a shape or a tensor lies as values: three numbers; three numbers and a slice that reads as a list. -/
import Derived.Test.YtebldedmkpdgcaaProg
import Derived.WalkKit
import Derived.ProofKit
import Derived.OpenShut
import Derived.Lib.SmallJoins
import Derived.Test.YtebldedmkpdgcaaSlice
namespace Go.Proofs.Ytebldedmkpdgcaa
open Go.ChangeShapes Go.WideShapes Go.ChangeAt Go.RowKit Go.Joins
namespace Qt

theorem cellsI : Try.prog.cellsOf 3 = 1 := by kernel_rfl
theorem cellsSh : Try.prog.cellsOf 59 = 3 := by kernel_rfl
theorem cellsSl : Try.prog.cellsOf 24 = 1 := by kernel_rfl
theorem cellsTe : Try.prog.cellsOf 61 = 4 := by kernel_rfl

/-- A slice that came in: it reads as xs, and is no longer than a slice can be. -/
def RdT (w : World) (A : Option Addr) (n : Nat) (xs : List Int) : Prop := RdI w A n xs ∧ (n : Int) ≤ 9223372036854775807
section
variable {H : Type} {enc : TypeId × Value → H} {w : World} {base : Nat} {spare : Nat → Bool} {held : Bool}
set_option maxRecDepth 10000 in
theorem trod_shape {n : Nat} {cs : List Value} {x : DataW H × List MemPlace} (h : DataW.trod enc Try.prog w base spare held n 59 cs = some x) :
    ∃ a b c : Int, cs = [.int .i64 a, .int .i64 b, .int .i64 c] := by
  obtain ⟨xs, m, rfl, _, hlen, hxl, hf⟩ := DataW.trod_struct Try.underlying59 h
  rw [cellsSh] at hlen
  match cs, hlen with
  | [c0, c1, c2], _ =>
    have hxl3 : xs.length = 3 := hxl
    match xs, hxl3 with
    | [y0, y1, y2], _ =>
      have f0 := hf 0 _ rfl
      have f1 := hf 1 _ rfl
      have f2 := hf 2 _ rfl
      simp [cellsI] at f0 f1 f2
      obtain ⟨a, e0, _, _⟩ := DataW.trod_int Try.underlying3 f0
      obtain ⟨b, e1, _, _⟩ := DataW.trod_int Try.underlying3 f1
      obtain ⟨c, e2, _, _⟩ := DataW.trod_int Try.underlying3 f2
      simp at e0 e1 e2
      exact ⟨a, b, c, by rw [e0, e1, e2]⟩

set_option maxRecDepth 10000 in
theorem open_shape {r : Reach} {b0 : Nat} {v : Value} {d : DataW H} {p : List MemPlace} (hv : Value.okWide Try.prog w r b0 59 v) (h : DataW.Trod enc Try.prog w base spare held 59 v d p) :
    ∃ a b c : Int, v = .agg #[.int .i64 a, .int .i64 b, .int .i64 c] := by
  obtain ⟨cs, rfl, hsz⟩ := okWide_struct Try.underlying59 hv
  obtain ⟨fuel, hf⟩ := h
  obtain ⟨a, b, c, e⟩ := trod_shape hf
  refine ⟨a, b, c, ?_⟩
  have : cs.toList = [.int .i64 a, .int .i64 b, .int .i64 c] := by simpa [Value.cells] using e
  rw [← Array.toArray_toList (xs := cs), this]

set_option maxRecDepth 10000 in
theorem open_tensor {r : Reach} {b0 : Nat} {v : Value} {d : DataW H} {p : List MemPlace} (hv : Value.okWide Try.prog w r b0 61 v) (h : DataW.Trod enc Try.prog w base (fun _ => true) held 61 v d p) :
    ∃ (a b c : Int) (A : Option Addr) (n cap : Nat) (xs : List Int), v = .agg #[.int .i64 a, .int .i64 b, .int .i64 c, .slice A n cap] ∧ RdT w A n xs := by
  obtain ⟨cs, rfl, hsz⟩ := okWide_struct Try.underlying61 hv
  obtain ⟨fuel, hf⟩ := h
  obtain ⟨xs, m, rfl, _, hlen, hxl, hg⟩ := DataW.trod_struct Try.underlying61 hf
  have hxl2 : xs.length = 2 := hxl
  have hlen4 : cs.toList.length = 4 := by rw [cellsTe] at hlen; simpa [Value.cells] using hlen
  obtain ⟨l⟩ := cs
  match l, hlen4 with
  | [c0, c1, c2, c3], _ =>
    match xs, hxl2 with
    | [y0, y1], _ =>
      have f0 := hg 0 _ rfl
      have f1 := hg 1 _ rfl
      simp [cellsSh, cellsSl, Value.cells] at f0 f1
      obtain ⟨a, b, c, e⟩ := trod_shape f0
      simp at e
      obtain ⟨rfl, rfl, rfl⟩ := e
      rcases open_ints Try.underlying24 Try.underlying3 cellsI f1 with ⟨hcs, _⟩ | ⟨x, l, cc, zs, hcs, _, hl, hm, hz, _, hcell, _⟩
      · simp at hcs
        subst hcs
        exact ⟨a, b, c, none, 0, 0, [], rfl, RdI.nil w _, by omega⟩
      · simp at hcs
        subst hcs
        refine ⟨a, b, c, some x, l, cc, zs.take l, rfl, ?_, by unfold maxLen at hm; omega⟩
        have hzl : zs.length = cc := by simpa using hz
        refine ⟨by rw [List.length_take]; omega, fun hn => ?_⟩
        obtain ⟨b', off, rfl, hcell'⟩ := ints_at hcell (by omega)
        refine ⟨b', off, rfl, World.block_lt_of_cell? w ⟨b', off + 0, none⟩ (hcell' 0 (by omega)), fun j hj => ?_⟩
        rw [hcell' j (by omega)]
        simp [List.getD_eq_getElem?_getD, hj]
end
end Qt
end Go.Proofs.Ytebldedmkpdgcaa
