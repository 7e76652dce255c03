/- What the laws' own helper markSched leaves, and what the laws over one schedule keep when the answer is their own. Conditions: the slice of tasks lies in blocks of a known range. -/
import Derived.Test.YtihnpfcjnfkfjaaQSchKeep
import Derived.Test.YtihnpfcjnfkfjaaQTskMark
namespace Go.Proofs.Ytihnpfcjnfkfjaa
open Go.RowKit Go.Sort
set_option linter.unusedSimpArgs false
set_option linter.unusedVariables false
namespace Qt
theorem Rem.of_below {B C : Nat} {w w' : World} (hb : Below w.heap.size w w') : Rem B C w w' :=
  ⟨(Touch.refl B C w).below hb, fun p v h => ⟨v, (hb.cell (World.block_lt_of_cell? w p h)).trans h, .inl rfl⟩, fun p hp => hb.frozen hp⟩
/-- A schedule of which the Ids and costs are marked, as a value. -/
theorem markSchL (nw sk ag rn lf tu nx : Int) (g n p B C : Nat) (ss : List Tsk) (W : World) (k : Int) (h : MarTsk B C W g n ss) (hn : n + bigTsk ss ≤ 1048576) (hk0 : 0 ≤ k) (hk1 : k ≤ 10000000) :
    Calls Try.prog 24 #[.agg #[.int .i64 nw, .int .i64 sk, .int .i64 ag, .slice (some ⟨g, 0, none⟩) n p, .int .i64 rn, .int .i64 lf, .int .i64 tu, .int .i64 nx], .int .i64 k] W fun e W' => e = .returned (.int .i64 (k + 4 * n + bigTsk ss)) ∧ Rem B C W W' := by
  have b0 := (Below.refl _ W).alloc (Nat.le_refl _) (.cells #[.int .i64 nw, .int .i64 sk, .int .i64 ag, .slice (some ⟨g, 0, none⟩) n p, .int .i64 rn, .int .i64 lf, .int .i64 tu, .int .i64 nx] 29)
  have HM := Lib.hid (h.of_below b0)
  have HR := Lib.hid (Rem.of_below (B := B) (C := C) b0)
  have HN := Lib.hid hn
  clear h b0 hn
  go_enter Try.func24, Try.ntmps24
  go_wp2_with fail
  with_reducible refine (markTskSL g n p B C ss _ k HM.out HN.out hk0 hk1).mono ?_
  rintro e w1 ⟨rfl, hr⟩
  have HR2 := Lib.hid (HR.out.trans hr)
  clear hr HM HR
  go_wp2_with fail
  go_ret
  exact ⟨rfl, HR2.out⟩
/-- What the laws over one schedule keep when the answer is a slice of ints: the schedule that came in, boxed; a copy of it, boxed, that may be marked; the answer, behind both. -/
structure SK (v : World) (C gT gX gx : Nat) (nw sk ag : Int) (A : Option Addr) (n p : Nat) (ss : List Tsk) (rn lf tu nx : Int) (J : World → Prop) (w : World) : Prop where
  b : Below v.heap.size v w
  t : Bk w gT 24 #[.int .i64 nw, .int .i64 sk, .int .i64 ag, .slice A n p, .int .i64 rn, .int .i64 lf, .int .i64 tu, .int .i64 nx]
  r : RdTsk w A n ss
  x : Bk w gX 29 #[.int .i64 nw, .int .i64 sk, .int .i64 ag, .slice (some ⟨gx, 0, none⟩) n n, .int .i64 rn, .int .i64 lf, .int .i64 tu, .int .i64 nx]
  rx : RdC w (some ⟨gx, 0, none⟩) n ss
  m : MarTsk v.heap.size C w gx n ss
  st : ∀ w w', J w → Below w.heap.size w w' → J w'
  j : J w
section
variable {v : World} {C gT gX gx : Nat} {nw sk ag : Int} {A : Option Addr} {n p : Nat} {ss : List Tsk} {rn lf tu nx : Int} {J : World → Prop} {w w' : World}
theorem SK.below (h : Hid (SK v C gT gX gx nw sk ag A n p ss rn lf tu nx J w)) (hb : Below w.heap.size w w') : Hid (SK v C gT gX gx nw sk ag A n p ss rn lf tu nx J w') :=
  Lib.hid ⟨h.out.b.trans (hb.mono h.out.b.size), h.out.t.below hb, h.out.r.of_below hb, h.out.x.below hb, h.out.rx.of_below hb, h.out.m.of_below hb, h.out.st, h.out.st _ _ h.out.j hb⟩
theorem SK.drew (h : Hid (SK v C gT gX gx nw sk ag A n p ss rn lf tu nx J w)) : Hid (SK v C gT gX gx nw sk ag A n p ss rn lf tu nx J w.drew) := SK.below h (Below.refl _ w).drew
theorem SK.with (h : Hid (SK v C gT gX gx nw sk ag A n p ss rn lf tu nx J w)) {J' : World → Prop} (st : ∀ w w', J' w → Below w.heap.size w w' → J' w') (j : J' w) : Hid (SK v C gT gX gx nw sk ag A n p ss rn lf tu nx J' w) := Lib.hid ⟨h.out.b, h.out.t, h.out.r, h.out.x, h.out.rx, h.out.m, st, j⟩
theorem SK.cells (h : Hid (SK v C gT gX gx nw sk ag A n p ss rn lf tu nx J w)) : w.cell? ⟨gX, 0, none⟩ = some (.int .i64 nw) ∧ w.cell? ⟨gX, 1, none⟩ = some (.int .i64 sk) ∧ w.cell? ⟨gX, 2, none⟩ = some (.int .i64 ag) ∧ w.cell? ⟨gX, 3, none⟩ = some (.slice (some ⟨gx, 0, none⟩) n n) ∧ w.cell? ⟨gX, 4, none⟩ = some (.int .i64 rn) ∧ w.cell? ⟨gX, 5, none⟩ = some (.int .i64 lf) ∧ w.cell? ⟨gX, 6, none⟩ = some (.int .i64 tu) ∧ w.cell? ⟨gX, 7, none⟩ = some (.int .i64 nx) ∧ w.cell? ⟨gT, 0, none⟩ = some (.int .i64 nw) ∧ w.cell? ⟨gT, 1, none⟩ = some (.int .i64 sk) ∧ w.cell? ⟨gT, 2, none⟩ = some (.int .i64 ag) ∧ w.cell? ⟨gT, 3, none⟩ = some (.slice A n p) ∧ w.cell? ⟨gT, 4, none⟩ = some (.int .i64 rn) ∧ w.cell? ⟨gT, 5, none⟩ = some (.int .i64 lf) ∧ w.cell? ⟨gT, 6, none⟩ = some (.int .i64 tu) ∧ w.cell? ⟨gT, 7, none⟩ = some (.int .i64 nx) :=
  ⟨h.out.x.cell 0 rfl, h.out.x.cell 1 rfl, h.out.x.cell 2 rfl, h.out.x.cell 3 rfl, h.out.x.cell 4 rfl, h.out.x.cell 5 rfl, h.out.x.cell 6 rfl, h.out.x.cell 7 rfl, h.out.t.cell 0 rfl, h.out.t.cell 1 rfl, h.out.t.cell 2 rfl, h.out.t.cell 3 rfl, h.out.t.cell 4 rfl, h.out.t.cell 5 rfl, h.out.t.cell 6 rfl, h.out.t.cell 7 rfl⟩
end
end Qt
end Go.Proofs.Ytihnpfcjnfkfjaa
