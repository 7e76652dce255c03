/- What the laws over one schedule keep of the worlds that they go through. No conditions. -/
import Derived.Test.YtihnpfcjnfkfjaaQSchC
import Derived.Test.YtihnpfcjnfkfjaaQSchedTo
import Derived.Deep.DeepCutAuto
import Derived.Deep.RegionHeld3
namespace Go.Proofs.Ytihnpfcjnfkfjaa
open Go.RowKit Go.Sort
set_option linter.unusedSimpArgs false
set_option linter.unusedVariables false
namespace Qt
theorem OwnTsk.rdc {B : Nat} {w : World} {g n : Nat} {ss : List Tsk} (h : OwnTsk B w g n ss) : RdC w (some ⟨g, 0, none⟩) n ss := ⟨h.rd, fun b off e hlt j t P hj ht => by
  cases e
  obtain ⟨hl, hB, cs, hk, hs, hr⟩ := h
  have hjn : j < n := by have := (List.getElem?_eq_some_iff.1 hj).1; omega
  obtain ⟨ga, h1, h3, h4⟩ := hr j t hjn hj
  have c1 := hk.cell _ (h3 1 _ rfl)
  have c2 := ht.1 1 _ rfl
  rw [Nat.zero_add, c1] at c2
  simp only [posTsk, Option.some.injEq, Value.slice.injEq] at c2
  omega⟩
/-- What the laws over one schedule keep: the schedule that came in, boxed, and a copy of it, boxed too. -/
structure SJ (W : World) (gT gX gx : Nat) (nw sk ag : Int) (A : Option Addr) (n p : Nat) (ss : List Tsk) (rn lf tu nx : Int) (w : World) : Prop where
  b : Below W.heap.size W w
  t : Bk w gT 24 #[.int .i64 nw, .int .i64 sk, .int .i64 ag, .slice A n p, .int .i64 rn, .int .i64 lf, .int .i64 tu, .int .i64 nx]
  r : RdTsk w A n ss
  x : Bk w gX 29 #[.int .i64 nw, .int .i64 sk, .int .i64 ag, .slice (some ⟨gx, 0, none⟩) n n, .int .i64 rn, .int .i64 lf, .int .i64 tu, .int .i64 nx]
  rx : RdC w (some ⟨gx, 0, none⟩) n ss
section
variable {W : World} {gT gX gx : Nat} {nw sk ag : Int} {A : Option Addr} {n p : Nat} {ss : List Tsk} {rn lf tu nx : Int} {w w' : World}
theorem SJ.below (h : Hid (SJ W gT gX gx nw sk ag A n p ss rn lf tu nx w)) (hb : Below w.heap.size w w') : Hid (SJ W gT gX gx nw sk ag A n p ss rn lf tu nx w') :=
  Lib.hid ⟨h.out.b.trans (hb.mono h.out.b.size), h.out.t.below hb, h.out.r.of_below hb, h.out.x.below hb, h.out.rx.of_below hb⟩
theorem SJ.drew (h : Hid (SJ W gT gX gx nw sk ag A n p ss rn lf tu nx w)) : Hid (SJ W gT gX gx nw sk ag A n p ss rn lf tu nx w.drew) := SJ.below h (Below.refl _ w).drew
theorem SJ.cells (h : Hid (SJ W gT gX gx nw sk ag A n p ss rn lf tu nx w)) : w.cell? ⟨gX, 0, none⟩ = some (.int .i64 nw) ∧ w.cell? ⟨gX, 1, none⟩ = some (.int .i64 sk) ∧ w.cell? ⟨gX, 2, none⟩ = some (.int .i64 ag) ∧ w.cell? ⟨gX, 3, none⟩ = some (.slice (some ⟨gx, 0, none⟩) n n) ∧ w.cell? ⟨gX, 4, none⟩ = some (.int .i64 rn) ∧ w.cell? ⟨gX, 5, none⟩ = some (.int .i64 lf) ∧ w.cell? ⟨gX, 6, none⟩ = some (.int .i64 tu) ∧ w.cell? ⟨gX, 7, none⟩ = some (.int .i64 nx) ∧ w.cell? ⟨gT, 0, none⟩ = some (.int .i64 nw) ∧ w.cell? ⟨gT, 1, none⟩ = some (.int .i64 sk) ∧ w.cell? ⟨gT, 2, none⟩ = some (.int .i64 ag) ∧ w.cell? ⟨gT, 3, none⟩ = some (.slice A n p) ∧ w.cell? ⟨gT, 4, none⟩ = some (.int .i64 rn) ∧ w.cell? ⟨gT, 5, none⟩ = some (.int .i64 lf) ∧ w.cell? ⟨gT, 6, none⟩ = some (.int .i64 tu) ∧ w.cell? ⟨gT, 7, none⟩ = some (.int .i64 nx) :=
  ⟨h.out.x.cell 0 rfl, h.out.x.cell 1 rfl, h.out.x.cell 2 rfl, h.out.x.cell 3 rfl, h.out.x.cell 4 rfl, h.out.x.cell 5 rfl, h.out.x.cell 6 rfl, h.out.x.cell 7 rfl, h.out.t.cell 0 rfl, h.out.t.cell 1 rfl, h.out.t.cell 2 rfl, h.out.t.cell 3 rfl, h.out.t.cell 4 rfl, h.out.t.cell 5 rfl, h.out.t.cell 6 rfl, h.out.t.cell 7 rfl⟩
end
end Qt
end Go.Proofs.Ytihnpfcjnfkfjaa
