/- How an argument that is a model lies as values: three numbers, and a slice of layers that reads as a list. -/
import Derived.Test.YtklefnmhknlilaaOpenL
import Derived.Test.YtklefnmhknlilaaSzL
import Derived.Deep.Slices
import Derived.Deep.Fields
import Derived.ChangeSame
namespace Go.Proofs.Ytklefnmhknlilaa
open Go.ChangeShapes Go.WideShapes Go.ChangeAt Go.RowKit Go.Joins Go.Deep
namespace Qt
theorem cellsMo : Try.prog.cellsOf 26 = 4 := by kernel_rfl
theorem cellsLs : Try.prog.cellsOf 24 = 1 := by kernel_rfl
section
variable {H : Type} {enc : TypeId × Value → H} {w : World} {base : Nat} {spare : Nat → Bool} {held : Bool}
set_option maxRecDepth 20000 in
/-- The cells of one layer. -/
theorem trod_layer {fuel : Nat} {cs : List Value} {x : DataW H × List MemPlace} (hf : DataW.trod enc Try.prog w base (fun _ => true) held fuel 83 cs = some x) :
    ∃ (l : Lay) (P : Pos), cs = layC l P ∧ RdY w l P ∧ (l.xs.length : Int) ≤ 9223372036854775807 ∧ (l.ys.length : Int) ≤ 9223372036854775807 := by
  obtain ⟨xs, m, rfl, _, hlen, hxl, hg⟩ := DataW.trod_struct Try.underlying83 hf
  have hxl9 : xs.length = 9 := hxl
  have hlen9 : cs.length = 9 := by rw [cellsLa] at hlen; exact hlen
  match cs, hlen9 with
  | [c0, c1, c2, c3, c4, c5, c6, c7, c8], _ =>
    match xs, hxl9 with
    | [y0, y1, y2, y3, y4, y5, y6, y7, y8], _ =>
      have f0 := hg 0 _ rfl
      have f1 := hg 1 _ rfl
      have f2 := hg 2 _ rfl
      have f3 := hg 3 _ rfl
      have f4 := hg 4 _ rfl
      have f5 := hg 5 _ rfl
      have f6 := hg 6 _ rfl
      have f7 := hg 7 _ rfl
      have f8 := hg 8 _ rfl
      clear hg hf
      simp [cellsI, cellsSl] at f0 f1 f2 f3 f4 f5 f6 f7 f8
      obtain ⟨a0, rfl⟩ := open_intF f0
      obtain ⟨a1, rfl⟩ := open_intF f1
      obtain ⟨a2, rfl⟩ := open_intF f2
      obtain ⟨a3, rfl⟩ := open_intF f3
      obtain ⟨a4, rfl⟩ := open_intF f4
      obtain ⟨a5, rfl⟩ := open_intF f5
      obtain ⟨a6, rfl⟩ := open_intF f6
      obtain ⟨A, n, cap, xs, rfl, r1⟩ := open_sliceF f7
      obtain ⟨B, nb, cb, ys, rfl, r2⟩ := open_sliceF f8
      exact ⟨⟨a0, a1, a2, a3, a4, a5, a6, xs, ys⟩, ⟨A, n, cap, B, nb, cb⟩, rfl, ⟨r1.1, r2.1⟩, by have := r1.1.1; have := r1.2; simp only; omega, by have := r2.1.1; have := r2.2; simp only; omega⟩
theorem exists_list {α : Type} (n : Nat) (R : Nat → α → Prop) (h : ∀ j, j < n → ∃ a, R j a) : ∃ l : List α, l.length = n ∧ ∀ j a, l[j]? = some a → R j a := by
  induction n with
  | zero => exact ⟨[], rfl, fun j a hj => by simp at hj⟩
  | succ n ih =>
    obtain ⟨l, hl, hR⟩ := ih fun j hj => h j (by omega)
    obtain ⟨a, ha⟩ := h n (by omega)
    refine ⟨l ++ [a], by simp [hl], fun j b hj => ?_⟩
    by_cases hlt : j < n
    · rw [List.getElem?_append_left (by omega)] at hj; exact hR j b hj
    · have : j = n := by have := (List.getElem?_eq_some_iff.1 hj).1; simp at this; omega
      subst this
      rw [List.getElem?_append_right (by omega)] at hj
      simp [hl] at hj
      subst hj
      exact ha
set_option maxRecDepth 20000 in
/-- A field that is a slice of layers. -/
theorem open_layersF {n : Nat} {v : Value} {x : DataW H × List MemPlace} (h : DataW.trod enc Try.prog w base (fun _ => true) held n 24 [v] = some x) :
    ∃ (A : Option Addr) (n cap : Nat) (ls : List Lay), v = .slice A n cap ∧ RdLT w A n ls := by
  rcases open_slice Try.underlying24 h with ⟨hcs, _⟩ | ⟨a, len, cap, m, fu, D, Pl, hcs, hb, hl, hm, hmm, _, hi⟩
  · simp at hcs
    subst hcs
    exact ⟨none, 0, 0, [], rfl, ⟨rfl, fun hn => absurd hn (by omega)⟩, by omega, fun l hl => by cases hl⟩
  · simp at hcs
    subst hcs
    have hml : m = cap := by simpa using hmm
    subst hml
    rw [cellsLa] at hi
    have hM : (len : Int) ≤ 9223372036854775807 := by unfold maxLen at hm; omega
    obtain ⟨ls, hls, hR⟩ := exists_list len (fun j (l : Lay) => (∃ P, (∀ c, c < 9 → w.cell? (a.add (j * 9 + c)) = (layC l P)[c]?) ∧ RdY w l P) ∧ (l.xs.length : Int) ≤ 9223372036854775807 ∧ (l.ys.length : Int) ≤ 9223372036854775807) (fun j hj => by
      obtain ⟨cs', hc, ht⟩ := hi j (by omega)
      obtain ⟨l, P, rfl, hy, h1, h2⟩ := trod_layer ht
      obtain ⟨_, _, hat⟩ := World.cells?_some hc
      exact ⟨l, ⟨P, fun c hc9 => by rw [← add_add]; exact hat c hc9, hy⟩, h1, h2⟩)
    refine ⟨some a, len, m, ls, rfl, ⟨hls, fun hn => ?_⟩, hM, fun l hl => ?_⟩
    · obtain ⟨b, off, spot⟩ := a
      have h0 : ls[0]? = some (ls[0]'(by omega)) := List.getElem?_eq_getElem _
      obtain ⟨⟨P, hP, _⟩, _⟩ := hR 0 _ h0
      have hc0 : w.cell? ((⟨b, off, spot⟩ : Addr).add (0 * 9 + 0)) = some (.int .i64 (ls[0]'(by omega)).k) := hP 0 (by omega)
      have hspot : spot = none := by simpa [Addr.add] using World.cell?_spot hc0
      subst hspot
      refine ⟨b, off, rfl, World.block_lt_of_cell? w _ (by simpa [Addr.add] using hc0), fun j l hj => ?_⟩
      obtain ⟨⟨P, hP, hy⟩, _⟩ := hR j l hj
      refine ⟨P, fun i v hv => ?_, hy⟩
      have hi9 : i < 9 := by have := (List.getElem?_eq_some_iff.1 hv).1; simpa [layC] using this
      have := hP i hi9
      rw [hv, Go.WideShapes.add_plain] at this
      rw [Nat.add_assoc]
      exact this
    · obtain ⟨j, hj, rfl⟩ := List.getElem_of_mem hl
      exact (hR j _ (List.getElem?_eq_getElem hj)).2
set_option maxRecDepth 20000 in
theorem open_model {r : Reach} {b0 : Nat} {v : Value} {d : DataW H} {p : List MemPlace} (hv : Value.okWide Try.prog w r b0 26 v) (h : DataW.Trod enc Try.prog w base (fun _ => true) held 26 v d p) :
    ∃ (a b c : Int) (A : Option Addr) (n cap : Nat) (ls : List Lay), v = .agg #[.int .i64 a, .int .i64 b, .int .i64 c, .slice A n cap] ∧ RdLT w A n ls := by
  obtain ⟨cs, rfl, hsz⟩ := okWide_struct Try.underlying26 hv
  obtain ⟨fuel, hf⟩ := h
  obtain ⟨xs, m, rfl, _, hlen, hxl, hg⟩ := DataW.trod_struct Try.underlying26 hf
  have hxl2 : xs.length = 2 := hxl
  have hlen4 : cs.toList.length = 4 := by rw [cellsMo] at hlen; simpa [Value.cells] using hlen
  obtain ⟨l⟩ := cs
  match l, hlen4 with
  | [c0, c1, c2, c3], _ =>
    match xs, hxl2 with
    | [y0, y1], _ =>
      have f0 := hg 0 _ rfl
      have f1 := hg 1 _ rfl
      simp [cellsSh, cellsLs, Value.cells] at f0 f1
      obtain ⟨a, b, c, e⟩ := trod_shape f0
      simp at e
      obtain ⟨rfl, rfl, rfl⟩ := e
      obtain ⟨A, n, cap, ls, rfl, hr⟩ := open_layersF f1
      exact ⟨a, b, c, A, n, cap, ls, rfl, hr⟩
end
end Qt
end Go.Proofs.Ytklefnmhknlilaa
