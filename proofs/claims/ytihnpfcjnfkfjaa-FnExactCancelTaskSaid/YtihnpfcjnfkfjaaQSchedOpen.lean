/- How an argument that is a schedule lies as values: numbers and a slice that reads as a list of tasks. -/
import Derived.Test.YtihnpfcjnfkfjaaQTskOpen
namespace Go.Proofs.Ytihnpfcjnfkfjaa
open Go.ChangeShapes Go.WideShapes Go.ChangeAt Go.RowKit Go.Joins Go.Deep
set_option linter.unusedSimpArgs false
set_option linter.unusedVariables false
namespace Qt
theorem cellsSd : Try.prog.cellsOf 24 = 8 := by kernel_rfl
section
variable {H : Type} {enc : TypeId × Value → H} {w : World} {base : Nat} {spare : Nat → Bool} {held : Bool}
set_option maxRecDepth 20000 in
theorem open_sched {r : Reach} {b0 : Nat} {v : Value} {d : DataW H} {p : List MemPlace} (hv : Value.okWide Try.prog w r b0 24 v) (h : DataW.Trod enc Try.prog w base (fun _ => true) held 24 v d p) :
    ∃ (nw sk ag rn lf tu nx : Int) (A : Option Addr) (n cap : Nat) (ss : List Tsk), v = .agg #[.int .i64 nw, .int .i64 sk, .int .i64 ag, .slice A n cap, .int .i64 rn, .int .i64 lf, .int .i64 tu, .int .i64 nx] ∧ RdTskT w A n ss ∧ (Lit.int .i64 rn).wf = true := by
  obtain ⟨cs, rfl, hsz⟩ := okWide_struct Try.underlying24 hv
  obtain ⟨fuel, hf⟩ := h
  obtain ⟨xs, m, rfl, _, hlen, hxl, hg⟩ := DataW.trod_struct Try.underlying24 hf
  have hxl8 : xs.length = 8 := hxl
  have hlen8 : cs.toList.length = 8 := by rw [cellsSd] at hlen; simpa [Value.cells] using hlen
  obtain ⟨l⟩ := cs
  match l, hlen8 with
  | [c0, c1, c2, c3, c4, c5, c6, c7], _ =>
    match xs, hxl8 with
    | [y0, y1, y2, y3, y4, y5, y6, y7], _ =>
      have f0 := hg 0 _ rfl
      have f1 := hg 1 _ rfl
      have f2 := hg 2 _ rfl
      have f3 := hg 3 _ rfl
      have f4 := hg 4 _ rfl
      have f5 := hg 5 _ rfl
      have f6 := hg 6 _ rfl
      have f7 := hg 7 _ rfl
      clear hg hf hv hsz
      simp [cellsI, cellsTsks, Value.cells] at f0 f1 f2 f3 f4 f5 f6 f7
      obtain ⟨a0, rfl⟩ := open_intF f0
      obtain ⟨a1, rfl⟩ := open_intF f1
      obtain ⟨a2, rfl⟩ := open_intF f2
      obtain ⟨A, n, cap, ss, rfl, r2⟩ := open_TskF f3
      obtain ⟨a4, e4, _, w4⟩ := DataW.trod_int Try.underlying3 f4
      simp at e4
      subst e4
      obtain ⟨a5, rfl⟩ := open_intF f5
      obtain ⟨a6, rfl⟩ := open_intF f6
      obtain ⟨a7, rfl⟩ := open_intF f7
      exact ⟨a0, a1, a2, a4, a5, a6, a7, A, n, cap, ss, rfl, r2, w4⟩
end
end Qt
end Go.Proofs.Ytihnpfcjnfkfjaa
