/- How an argument that is a slice of values of the type Event lies as values: a slice that reads as a list. -/
import Derived.Test.YtalkoaahhkafaaaOpenB
import Derived.Test.YtalkoaahhkafaaaEvtSz
namespace Go.Proofs.Ytalkoaahhkafaaa
open Go.ChangeShapes Go.WideShapes Go.ChangeAt Go.RowKit Go.Joins Go.Deep
set_option linter.unusedSimpArgs false
set_option linter.unusedVariables false
namespace Qt
theorem cellsEvt : Try.prog.cellsOf 77 = 7 := by kernel_rfl
theorem cellsEvts : Try.prog.cellsOf 29 = 1 := by kernel_rfl
section
variable {H : Type} {enc : TypeId × Value → H} {w : World} {base : Nat} {spare : Nat → Bool} {held : Bool}
set_option maxRecDepth 20000 in
theorem trod_Evt {fuel : Nat} {cs : List Value} {x : DataW H × List MemPlace} (hf : DataW.trod enc Try.prog w base (fun _ => true) held fuel 77 cs = some x) :
    ∃ (l : Evt) (P : EvtP), cs = evtC l P ∧ RdEvtY w l P ∧ (l.xs.length : Int) ≤ 9223372036854775807 := by
  obtain ⟨xs, m, rfl, _, hlen, hxl, hg⟩ := DataW.trod_struct Try.underlying77 hf
  have hxln : xs.length = 4 := hxl
  have hlenn : cs.length = 7 := by rw [cellsEvt] at hlen; exact hlen
  match cs, hlenn with
  | [c0, c1, c2, c3, c4, c5, c6], _ =>
    match xs, hxln with
    | [y0, y1, y2, y3], _ =>
      have f0 := hg 0 _ rfl
      have f1 := hg 1 _ rfl
      have f2 := hg 2 _ rfl
      have f3 := hg 3 _ rfl
      clear hg hf
      simp [cellsI, cellsSl, cellsTe, cellsSh] at f0 f1 f2 f3
      obtain ⟨a0, rfl⟩ := open_intF f0
      obtain ⟨a1, rfl⟩ := open_intF f1
      obtain ⟨a2, rfl⟩ := open_intF f2
      obtain ⟨ah, aw, ac, A, n, cap, xs, e, r2, m2⟩ := open_tensorF f3
      simp at e
      obtain ⟨rfl, rfl, rfl, rfl⟩ := e
      exact ⟨⟨a0, a1, a2, ah, aw, ac, xs⟩, ⟨A, n, cap⟩, rfl, r2, by have := r2.1; simp only; omega⟩
set_option maxRecDepth 20000 in
theorem open_EvtF {n : Nat} {v : Value} {x : DataW H × List MemPlace} (h : DataW.trod enc Try.prog w base (fun _ => true) held n 29 [v] = some x) :
    ∃ (A : Option Addr) (n cap : Nat) (ls : List Evt), v = .slice A n cap ∧ RdEvtT w A n ls := by
  rcases open_slice Try.underlying29 h with ⟨hcs, _⟩ | ⟨a, len, cap, m, fu, D, Pl, hcs, hb, hl, hm, hmm, _, hi⟩
  · simp at hcs
    subst hcs
    exact ⟨none, 0, 0, [], rfl, ⟨rfl, fun hn => absurd hn (by omega)⟩, by omega, fun l hl => by cases hl⟩
  · simp at hcs
    subst hcs
    have hml : m = cap := by simpa using hmm
    subst hml
    rw [cellsEvt] at hi
    have hM : (len : Int) ≤ 9223372036854775807 := by unfold maxLen at hm; omega
    obtain ⟨ls, hls, hR⟩ := exists_list len (fun j (l : Evt) => (∃ P, (∀ c, c < 7 → w.cell? (a.add (j * 7 + c)) = (evtC l P)[c]?) ∧ RdEvtY w l P) ∧ (l.xs.length : Int) ≤ 9223372036854775807) (fun j hj => by
      obtain ⟨cs', hc, ht⟩ := hi j (by omega)
      obtain ⟨l, P, rfl, hy, h2⟩ := trod_Evt ht
      obtain ⟨_, _, hat⟩ := World.cells?_some hc
      exact ⟨l, ⟨P, fun c hc8 => by rw [← add_add]; exact hat c hc8, hy⟩, h2⟩)
    refine ⟨some a, len, m, ls, rfl, ⟨hls, fun hn => ?_⟩, hM, fun l hl => ?_⟩
    · obtain ⟨b, off, spot⟩ := a
      have h0 : ls[0]? = some (ls[0]'(by omega)) := List.getElem?_eq_getElem _
      obtain ⟨⟨P, hP, _⟩, _⟩ := hR 0 _ h0
      have hc0 : w.cell? ((⟨b, off, spot⟩ : Addr).add (0 * 7 + 0)) = some (.int .i64 (ls[0]'(by omega)).k) := hP 0 (by omega)
      have hspot : spot = none := by simpa [Addr.add] using World.cell?_spot hc0
      subst hspot
      refine ⟨b, off, rfl, World.block_lt_of_cell? w _ (by simpa [Addr.add] using hc0), fun j l hj => ?_⟩
      obtain ⟨⟨P, hP, hy⟩, _⟩ := hR j l hj
      refine ⟨P, fun i v hv => ?_, hy⟩
      have hi8 : i < 7 := by have := (List.getElem?_eq_some_iff.1 hv).1; simpa [evtC] using this
      have := hP i hi8
      rw [hv, Go.WideShapes.add_plain] at this
      rw [Nat.add_assoc]
      exact this
    · obtain ⟨j, hj, rfl⟩ := List.getElem_of_mem hl
      exact (hR j _ (List.getElem?_eq_getElem hj)).2
set_option maxRecDepth 20000 in
theorem open_Evt {r : Reach} {b0 : Nat} {v : Value} {d : DataW H} {p : List MemPlace} (hv : Value.okWide Try.prog w r b0 29 v) (h : DataW.Trod enc Try.prog w base (fun _ => true) held 29 v d p) :
    ∃ (A : Option Addr) (n cap : Nat) (ss : List Evt), v = .slice A n cap ∧ RdEvtT w A n ss := by
  obtain ⟨a, l, c, rfl⟩ := okWide_slice Try.underlying29 hv
  obtain ⟨fuel, hf⟩ := h
  obtain ⟨A, n, cap, ss, e, hr⟩ := open_EvtF (by simpa [Value.cells] using hf)
  exact ⟨A, n, cap, ss, e, hr⟩
end
end Qt
end Go.Proofs.Ytalkoaahhkafaaa
