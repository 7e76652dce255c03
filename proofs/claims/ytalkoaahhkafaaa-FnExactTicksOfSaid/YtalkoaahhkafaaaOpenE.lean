/- How an argument that is a step lies as values: six numbers, a slice of bytes and a slice of numbers. -/
import Derived.Test.YtalkoaahhkafaaaOpenS
import Derived.Test.YtalkoaahhkafaaaByEq
namespace Go.Proofs.Ytalkoaahhkafaaa
open Go.ChangeShapes Go.WideShapes Go.ChangeAt Go.RowKit Go.Joins Go.Deep
namespace Qt
section
variable {H : Type} {enc : TypeId × Value → H} {w : World} {base : Nat} {spare : Nat → Bool} {held : Bool}
set_option maxRecDepth 10000 in
/-- A field that is a slice of bytes. -/
theorem open_bytesB {fuel : Nat} {c : Value} {x : DataW H × List MemPlace} (f1 : DataW.trod enc Try.prog w base (fun _ => true) held fuel 45 [c] = some x) : ∃ (A : Option Addr) (n cap : Nat) (xs : List Int), c = .slice A n cap ∧ RdB8 w A n xs ∧ ByB xs ∧ (n : Int) ≤ 9223372036854775807 := by
  rcases open_ints Try.underlying45 Try.underlying5 cellsU8 f1 with ⟨hcs, _⟩ | ⟨x, l, cc, zs, hcs, _, hl, hm, hz, _, hcell, hw⟩
  · simp at hcs
    subst hcs
    exact ⟨none, 0, 0, [], rfl, RdB8.nil w _, fun x hx => by simp at hx, by omega⟩
  · simp at hcs
    subst hcs
    refine ⟨some x, l, cc, zs.take l, rfl, ?_, fun x hx => by have := bounds_u8 (hw x (List.mem_of_mem_take hx)); omega, by unfold maxLen at hm; omega⟩
    have hzl : zs.length = cc := by simpa using hz
    refine ⟨by rw [List.length_take]; omega, fun hn => ?_⟩
    obtain ⟨b', off, rfl, hcell'⟩ := ints_at hcell (by omega)
    refine ⟨b', off, rfl, World.block_lt_of_cell? w ⟨b', off + 0, none⟩ (hcell' 0 (by omega)), fun j hj => ?_⟩
    rw [hcell' j (by omega)]
    simp [List.getD_eq_getElem?_getD, hj]
/-- A slice of bytes that came in. -/
def RdYT (w : World) (A : Option Addr) (n : Nat) (bs : List Int) : Prop := (RdB8 w A n bs ∧ (n : Int) ≤ 9223372036854775807) ∧ ByB bs
set_option maxRecDepth 20000 in
theorem open_step {r : Reach} {b0 : Nat} {v : Value} {d : DataW H} {p : List MemPlace} (hv : Value.okWide Try.prog w r b0 51 v) (h : DataW.Trod enc Try.prog w base (fun _ => true) held 51 v d p) :
    ∃ (k a b h w' c : Int) (A : Option Addr) (n cap : Nat) (bs : List Int) (B : Option Addr) (q r : Nat) (xs : List Int), v = .agg #[.int .i64 k, .int .i64 a, .int .i64 b, .slice A n cap, .int .i64 h, .int .i64 w', .int .i64 c, .slice B q r] ∧ RdYT w A n bs ∧ RdT w B q xs := by
  obtain ⟨cs, rfl, hsz⟩ := okWide_struct Try.underlying51 hv
  obtain ⟨fuel, hf⟩ := h
  obtain ⟨xs, m, rfl, _, hlen, hxl, hg⟩ := DataW.trod_struct Try.underlying51 hf
  have hxl5 : xs.length = 5 := hxl
  have hlen8 : cs.toList.length = 8 := by rw [cellsSt] at hlen; simpa [Value.cells] using hlen
  obtain ⟨l⟩ := cs
  match l, hlen8 with
  | [c0, c1, c2, c3, c4, c5, c6, c7], _ =>
    match xs, hxl5 with
    | [y0, y1, y2, y3, y4], _ =>
      have f0 := hg 0 _ rfl
      have f1 := hg 1 _ rfl
      have f2 := hg 2 _ rfl
      have f3 := hg 3 _ rfl
      have f4 := hg 4 _ rfl
      clear hg hf
      simp [cellsI, cellsYs, cellsTe, Value.cells] at f0 f1 f2 f3 f4
      obtain ⟨a0, rfl⟩ := open_intF f0
      obtain ⟨a1, rfl⟩ := open_intF f1
      obtain ⟨a2, rfl⟩ := open_intF f2
      obtain ⟨A, n, cap, bs, rfl, r1, by1, m1⟩ := open_bytesB f3
      obtain ⟨h, ww, c, B, nb, cb, xs, e, r2, m2⟩ := open_tensorF f4
      simp at e
      obtain ⟨rfl, rfl, rfl, rfl⟩ := e
      exact ⟨a0, a1, a2, h, ww, c, A, n, cap, bs, B, nb, cb, xs, rfl, ⟨⟨r1, m1⟩, by1⟩, r2, m2⟩
end
end Qt
end Go.Proofs.Ytalkoaahhkafaaa
