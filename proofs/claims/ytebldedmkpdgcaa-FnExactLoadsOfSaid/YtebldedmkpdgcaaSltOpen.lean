/- How an argument that is a slice of values of the type Slot lies as values: a slice that reads as a list. -/
import Derived.Test.YtebldedmkpdgcaaOpenB
import Derived.Test.YtebldedmkpdgcaaSltSz
namespace Go.Proofs.Ytebldedmkpdgcaa
open Go.ChangeShapes Go.WideShapes Go.ChangeAt Go.RowKit Go.Joins Go.Deep
set_option linter.unusedSimpArgs false
set_option linter.unusedVariables false
namespace Qt
theorem cellsSlt : Try.prog.cellsOf 94 = 4 := by kernel_rfl
theorem cellsSlts : Try.prog.cellsOf 22 = 1 := by kernel_rfl
section
variable {H : Type} {enc : TypeId × Value → H} {w : World} {base : Nat} {spare : Nat → Bool} {held : Bool}
set_option maxRecDepth 20000 in
theorem trod_Slt {fuel : Nat} {cs : List Value} {x : DataW H × List MemPlace} (hf : DataW.trod enc Try.prog w base (fun _ => true) held fuel 94 cs = some x) :
    ∃ (l : Slt) (P : SltP), cs = sltC l P ∧ RdSltY w l P := by
  obtain ⟨xs, m, rfl, _, hlen, hxl, hg⟩ := DataW.trod_struct Try.underlying94 hf
  have hxln : xs.length = 4 := hxl
  have hlenn : cs.length = 4 := by rw [cellsSlt] at hlen; exact hlen
  match cs, hlenn with
  | [c0, c1, c2, c3], _ =>
    match xs, hxln with
    | [y0, y1, y2, y3], _ =>
      have f0 := hg 0 _ rfl
      have f1 := hg 1 _ rfl
      have f2 := hg 2 _ rfl
      have f3 := hg 3 _ rfl
      clear hg hf
      simp [cellsI] at f0 f1 f2 f3
      obtain ⟨a0, rfl⟩ := open_intF f0
      obtain ⟨a1, rfl⟩ := open_intF f1
      obtain ⟨a2, rfl⟩ := open_intF f2
      obtain ⟨a3, rfl⟩ := open_intF f3
      exact ⟨⟨a0, a1, a2, a3⟩, ⟨()⟩, rfl, trivial⟩
set_option maxRecDepth 20000 in
theorem open_SltF {n : Nat} {v : Value} {x : DataW H × List MemPlace} (h : DataW.trod enc Try.prog w base (fun _ => true) held n 22 [v] = some x) :
    ∃ (A : Option Addr) (n cap : Nat) (ls : List Slt), v = .slice A n cap ∧ RdSltT w A n ls := by
  rcases open_slice Try.underlying22 h with ⟨hcs, _⟩ | ⟨a, len, cap, m, fu, D, Pl, hcs, hb, hl, hm, hmm, _, hi⟩
  · simp at hcs
    subst hcs
    exact ⟨none, 0, 0, [], rfl, ⟨rfl, fun hn => absurd hn (by omega)⟩, by omega⟩
  · simp at hcs
    subst hcs
    have hml : m = cap := by simpa using hmm
    subst hml
    rw [cellsSlt] at hi
    have hM : (len : Int) ≤ 9223372036854775807 := by unfold maxLen at hm; omega
    obtain ⟨ls, hls, hR⟩ := exists_list len (fun j (l : Slt) => (∃ P, (∀ c, c < 4 → w.cell? (a.add (j * 4 + c)) = (sltC l P)[c]?) ∧ RdSltY w l P)) (fun j hj => by
      obtain ⟨cs', hc, ht⟩ := hi j (by omega)
      obtain ⟨l, P, rfl, hy⟩ := trod_Slt ht
      obtain ⟨_, _, hat⟩ := World.cells?_some hc
      exact ⟨l, ⟨P, fun c hc8 => by rw [← add_add]; exact hat c hc8, hy⟩⟩)
    refine ⟨some a, len, m, ls, rfl, ⟨hls, fun hn => ?_⟩, hM⟩
    · obtain ⟨b, off, spot⟩ := a
      have h0 : ls[0]? = some (ls[0]'(by omega)) := List.getElem?_eq_getElem _
      obtain ⟨P, hP, _⟩ := hR 0 _ h0
      have hc0 : w.cell? ((⟨b, off, spot⟩ : Addr).add (0 * 4 + 0)) = some (.int .i64 (ls[0]'(by omega)).jb) := hP 0 (by omega)
      have hspot : spot = none := by simpa [Addr.add] using World.cell?_spot hc0
      subst hspot
      refine ⟨b, off, rfl, World.block_lt_of_cell? w _ (by simpa [Addr.add] using hc0), fun j l hj => ?_⟩
      obtain ⟨P, hP, hy⟩ := hR j l hj
      refine ⟨P, fun i v hv => ?_, hy⟩
      have hi8 : i < 4 := by have := (List.getElem?_eq_some_iff.1 hv).1; simpa [sltC] using this
      have := hP i hi8
      rw [hv, Go.WideShapes.add_plain] at this
      rw [Nat.add_assoc]
      exact this
set_option maxRecDepth 20000 in
theorem open_Slt {r : Reach} {b0 : Nat} {v : Value} {d : DataW H} {p : List MemPlace} (hv : Value.okWide Try.prog w r b0 22 v) (h : DataW.Trod enc Try.prog w base (fun _ => true) held 22 v d p) :
    ∃ (A : Option Addr) (n cap : Nat) (ss : List Slt), v = .slice A n cap ∧ RdSltT w A n ss := by
  obtain ⟨a, l, c, rfl⟩ := okWide_slice Try.underlying22 hv
  obtain ⟨fuel, hf⟩ := h
  obtain ⟨A, n, cap, ss, e, hr⟩ := open_SltF (by simpa [Value.cells] using hf)
  exact ⟨A, n, cap, ss, e, hr⟩
end
end Qt
end Go.Proofs.Ytebldedmkpdgcaa
