/- How an argument that is a list of steps lies as values: a slice of steps that reads as a list. -/
import Derived.Test.YtalkoaahhkafaaaOpenL
import Derived.Test.YtalkoaahhkafaaaOpenC
import Derived.Test.YtalkoaahhkafaaaStepSz
import Derived.Deep.Slices
import Derived.Deep.Fields
import Derived.ChangeSame
namespace Go.Proofs.Ytalkoaahhkafaaa
open Go.ChangeShapes Go.WideShapes Go.ChangeAt Go.RowKit Go.Joins Go.Deep
namespace Qt
theorem cellsU8 : Try.prog.cellsOf 5 = 1 := by kernel_rfl
theorem cellsYs : Try.prog.cellsOf 45 = 1 := by kernel_rfl
theorem cellsSt : Try.prog.cellsOf 51 = 8 := by kernel_rfl
theorem cellsSts : Try.prog.cellsOf 22 = 1 := by kernel_rfl
section
variable {H : Type} {enc : TypeId × Value → H} {w : World} {base : Nat} {spare : Nat → Bool} {held : Bool}
set_option maxRecDepth 10000 in
/-- A field that is a slice of bytes. -/
theorem open_bytesF {fuel : Nat} {c : Value} {x : DataW H × List MemPlace} (f1 : DataW.trod enc Try.prog w base (fun _ => true) held fuel 45 [c] = some x) : ∃ (A : Option Addr) (n cap : Nat) (xs : List Int), c = .slice A n cap ∧ RdB8 w A n xs ∧ (n : Int) ≤ 9223372036854775807 := by
  rcases open_ints Try.underlying45 Try.underlying5 cellsU8 f1 with ⟨hcs, _⟩ | ⟨x, l, cc, zs, hcs, _, hl, hm, hz, _, hcell, _⟩
  · simp at hcs
    subst hcs
    exact ⟨none, 0, 0, [], rfl, RdB8.nil w _, by omega⟩
  · simp at hcs
    subst hcs
    refine ⟨some x, l, cc, zs.take l, rfl, ?_, by unfold maxLen at hm; omega⟩
    have hzl : zs.length = cc := by simpa using hz
    refine ⟨by rw [List.length_take]; omega, fun hn => ?_⟩
    obtain ⟨b', off, rfl, hcell'⟩ := ints_at hcell (by omega)
    refine ⟨b', off, rfl, World.block_lt_of_cell? w ⟨b', off + 0, none⟩ (hcell' 0 (by omega)), fun j hj => ?_⟩
    rw [hcell' j (by omega)]
    simp [List.getD_eq_getElem?_getD, hj]
set_option maxRecDepth 10000 in
/-- A field that is a tensor. -/
theorem open_tensorF {fuel : Nat} {cs : List Value} {x : DataW H × List MemPlace} (hf : DataW.trod enc Try.prog w base (fun _ => true) held fuel 49 cs = some x) :
    ∃ (a b c : Int) (A : Option Addr) (n cap : Nat) (xs : List Int), cs = [.int .i64 a, .int .i64 b, .int .i64 c, .slice A n cap] ∧ RdI w A n xs ∧ (n : Int) ≤ 9223372036854775807 := by
  obtain ⟨xs, m, rfl, _, hlen, hxl, hg⟩ := DataW.trod_struct Try.underlying49 hf
  have hxl2 : xs.length = 2 := hxl
  have hlen4 : cs.length = 4 := by rw [cellsTe] at hlen; exact hlen
  match cs, hlen4 with
  | [c0, c1, c2, c3], _ =>
    match xs, hxl2 with
    | [y0, y1], _ =>
      have f0 := hg 0 _ rfl
      have f1 := hg 1 _ rfl
      simp [cellsSh, cellsSl] at f0 f1
      obtain ⟨a, b, c, e⟩ := trod_shape f0
      simp at e
      obtain ⟨rfl, rfl, rfl⟩ := e
      obtain ⟨A, n, cap, xs, rfl, r1⟩ := open_sliceF f1
      exact ⟨a, b, c, A, n, cap, xs, rfl, r1.1, r1.2⟩
set_option maxRecDepth 20000 in
/-- The cells of one step. -/
theorem trod_step {fuel : Nat} {cs : List Value} {x : DataW H × List MemPlace} (hf : DataW.trod enc Try.prog w base (fun _ => true) held fuel 51 cs = some x) :
    ∃ (l : Stp) (P : SPo), cs = stpC l P ∧ RdSY w l P ∧ (l.bs.length : Int) ≤ 9223372036854775807 ∧ (l.xs.length : Int) ≤ 9223372036854775807 := by
  obtain ⟨xs, m, rfl, _, hlen, hxl, hg⟩ := DataW.trod_struct Try.underlying51 hf
  have hxl5 : xs.length = 5 := hxl
  have hlen8 : cs.length = 8 := by rw [cellsSt] at hlen; exact hlen
  match cs, hlen8 with
  | [c0, c1, c2, c3, c4, c5, c6, c7], _ =>
    match xs, hxl5 with
    | [y0, y1, y2, y3, y4], _ =>
      have f0 := hg 0 _ rfl
      have f1 := hg 1 _ rfl
      have f2 := hg 2 _ rfl
      have f3 := hg 3 _ rfl
      have f4 := hg 4 _ rfl
      clear hg hf
      simp [cellsI, cellsYs, cellsTe] at f0 f1 f2 f3 f4
      obtain ⟨a0, rfl⟩ := open_intF f0
      obtain ⟨a1, rfl⟩ := open_intF f1
      obtain ⟨a2, rfl⟩ := open_intF f2
      obtain ⟨A, n, cap, bs, rfl, r1, m1⟩ := open_bytesF f3
      obtain ⟨h, ww, c, B, nb, cb, xs, e, r2, m2⟩ := open_tensorF f4
      simp at e
      obtain ⟨rfl, rfl, rfl, rfl⟩ := e
      exact ⟨⟨a0, a1, a2, h, ww, c, bs, xs⟩, ⟨A, n, cap, B, nb, cb⟩, rfl, ⟨r1, r2⟩, by have := r1.1; simp only; omega, by have := r2.1; simp only; omega⟩
theorem exists_list {α : Type} (n : Nat) (R : Nat → α → Prop) (h : ∀ j, j < n → ∃ a, R j a) : ∃ l : List α, l.length = n ∧ ∀ j a, l[j]? = some a → R j a := by
  induction n with
  | zero => exact ⟨[], rfl, fun j a hj => by simp at hj⟩
  | succ n ih =>
    obtain ⟨l, hl, hR⟩ := ih fun j hj => h j (by omega)
    obtain ⟨a, ha⟩ := h n (by omega)
    refine ⟨l ++ [a], by simp [hl], fun j b hj => ?_⟩
    by_cases hlt : j < n
    · rw [List.getElem?_append_left (by omega)] at hj; exact hR j b hj
    · have : j = n := by have := (List.getElem?_eq_some_iff.1 hj).1; simp at this; omega
      subst this
      rw [List.getElem?_append_right (by omega)] at hj
      simp [hl] at hj
      subst hj
      exact ha
set_option maxRecDepth 20000 in
/-- A field that is a slice of steps. -/
theorem open_stepsF {n : Nat} {v : Value} {x : DataW H × List MemPlace} (h : DataW.trod enc Try.prog w base (fun _ => true) held n 22 [v] = some x) :
    ∃ (A : Option Addr) (n cap : Nat) (ls : List Stp), v = .slice A n cap ∧ RdStT w A n ls := by
  rcases open_slice Try.underlying22 h with ⟨hcs, _⟩ | ⟨a, len, cap, m, fu, D, Pl, hcs, hb, hl, hm, hmm, _, hi⟩
  · simp at hcs
    subst hcs
    exact ⟨none, 0, 0, [], rfl, ⟨rfl, fun hn => absurd hn (by omega)⟩, by omega, fun l hl => by cases hl⟩
  · simp at hcs
    subst hcs
    have hml : m = cap := by simpa using hmm
    subst hml
    rw [cellsSt] at hi
    have hM : (len : Int) ≤ 9223372036854775807 := by unfold maxLen at hm; omega
    obtain ⟨ls, hls, hR⟩ := exists_list len (fun j (l : Stp) => (∃ P, (∀ c, c < 8 → w.cell? (a.add (j * 8 + c)) = (stpC l P)[c]?) ∧ RdSY w l P) ∧ (l.bs.length : Int) ≤ 9223372036854775807 ∧ (l.xs.length : Int) ≤ 9223372036854775807) (fun j hj => by
      obtain ⟨cs', hc, ht⟩ := hi j (by omega)
      obtain ⟨l, P, rfl, hy, h1, h2⟩ := trod_step ht
      obtain ⟨_, _, hat⟩ := World.cells?_some hc
      exact ⟨l, ⟨P, fun c hc8 => by rw [← add_add]; exact hat c hc8, hy⟩, h1, h2⟩)
    refine ⟨some a, len, m, ls, rfl, ⟨hls, fun hn => ?_⟩, hM, fun l hl => ?_⟩
    · obtain ⟨b, off, spot⟩ := a
      have h0 : ls[0]? = some (ls[0]'(by omega)) := List.getElem?_eq_getElem _
      obtain ⟨⟨P, hP, _⟩, _⟩ := hR 0 _ h0
      have hc0 : w.cell? ((⟨b, off, spot⟩ : Addr).add (0 * 8 + 0)) = some (.int .i64 (ls[0]'(by omega)).k) := hP 0 (by omega)
      have hspot : spot = none := by simpa [Addr.add] using World.cell?_spot hc0
      subst hspot
      refine ⟨b, off, rfl, World.block_lt_of_cell? w _ (by simpa [Addr.add] using hc0), fun j l hj => ?_⟩
      obtain ⟨⟨P, hP, hy⟩, _⟩ := hR j l hj
      refine ⟨P, fun i v hv => ?_, hy⟩
      have hi8 : i < 8 := by have := (List.getElem?_eq_some_iff.1 hv).1; simpa [stpC] using this
      have := hP i hi8
      rw [hv, Go.WideShapes.add_plain] at this
      rw [Nat.add_assoc]
      exact this
    · obtain ⟨j, hj, rfl⟩ := List.getElem_of_mem hl
      exact (hR j _ (List.getElem?_eq_getElem hj)).2
set_option maxRecDepth 20000 in
theorem open_steps {r : Reach} {b0 : Nat} {v : Value} {d : DataW H} {p : List MemPlace} (hv : Value.okWide Try.prog w r b0 22 v) (h : DataW.Trod enc Try.prog w base (fun _ => true) held 22 v d p) :
    ∃ (A : Option Addr) (n cap : Nat) (ss : List Stp), v = .slice A n cap ∧ RdStT w A n ss := by
  obtain ⟨a, l, c, rfl⟩ := okWide_slice Try.underlying22 hv
  obtain ⟨fuel, hf⟩ := h
  obtain ⟨A, n, cap, ss, e, hr⟩ := open_stepsF (by simpa [Value.cells] using hf)
  exact ⟨A, n, cap, ss, e, hr⟩
end
end Qt
end Go.Proofs.Ytalkoaahhkafaaa
