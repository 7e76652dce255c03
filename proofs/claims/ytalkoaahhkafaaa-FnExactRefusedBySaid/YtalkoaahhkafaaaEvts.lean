/- Lists of values of the type Event as they lie in memory: what it is that a slice of them reads as a list, and what keeps it. No conditions. -/
import Derived.Test.YtalkoaahhkafaaaOwn
namespace Go.Proofs.Ytalkoaahhkafaaa
open Go.RowKit Go.Sort
set_option linter.unusedSimpArgs false
set_option linter.unusedVariables false
namespace Qt
structure Evt where
  (k a b h w c : Int)
  (xs : List Int)
structure EvtP where
  (A : Option Addr) (n p : Nat)
def evtC (s : Evt) (P : EvtP) : List Value := [.int .i64 s.k, .int .i64 s.a, .int .i64 s.b, .int .i64 s.h, .int .i64 s.w, .int .i64 s.c, .slice P.A P.n P.p]
def RdEvtY (w : World) (s : Evt) (P : EvtP) : Prop := RdI w P.A P.n s.xs
def EvtAt (w : World) (b off : Nat) (s : Evt) (P : EvtP) : Prop := (∀ i v, (evtC s P)[i]? = some v → w.cell? ⟨b, off + i, none⟩ = some v) ∧ RdEvtY w s P
/-- The slice at A of n elements reads as ss. -/
def RdEvt (w : World) (A : Option Addr) (n : Nat) (ss : List Evt) : Prop :=
  ss.length = n ∧ (0 < n → ∃ b off, A = some ⟨b, off, none⟩ ∧ b < w.heap.size ∧ ∀ j s, ss[j]? = some s → ∃ P, EvtAt w b (off + j * 7) s P)
def bigEvt : List Evt → Nat
  | [] => 0
  | s :: r => s.xs.length + bigEvt r
theorem bigEvt_append (a b : List Evt) : bigEvt (a ++ b) = bigEvt a + bigEvt b := by
  induction a with
  | nil => simp [bigEvt]
  | cons l r ih => simp [bigEvt, ih]; try omega
theorem bigEvt_at {ss : List Evt} {j : Nat} {s : Evt} (h : ss[j]? = some s) : s.xs.length ≤ bigEvt ss := by
  induction ss generalizing j with
  | nil => simp at h
  | cons a r ih =>
    cases j with
    | zero => simp at h; subst h; simp [bigEvt]
    | succ j => simp at h; have := ih h; simp [bigEvt]; try omega
theorem bigEvt_take {ss : List Evt} {j : Nat} {s : Evt} (h : ss[j]? = some s) : bigEvt (ss.take (j + 1)) = bigEvt (ss.take j) + s.xs.length := by
  rw [List.take_add_one, h, bigEvt_append]
  simp [bigEvt]
theorem bigEvt_take_le (ss : List Evt) (j : Nat) : bigEvt (ss.take j) ≤ bigEvt ss := by
  conv => rhs; rw [← List.take_append_drop j ss, bigEvt_append]
  omega
section
variable {w w' : World} {b off : Nat} {s : Evt} {P : EvtP} {A : Option Addr} {n : Nat} {ss : List Evt}
theorem RdEvtY.of_below (h : RdEvtY w s P) (hb : Below w.heap.size w w') : RdEvtY w' s P := RdI.of_below h hb
theorem EvtAt.of_below (h : EvtAt w b off s P) (hlt : b < w.heap.size) (hb : Below w.heap.size w w') : EvtAt w' b off s P :=
  ⟨fun i v hv => (hb.cell (p := ⟨b, off + i, none⟩) hlt).trans (h.1 i v hv), h.2.of_below hb⟩
theorem RdEvt.of_below (h : RdEvt w A n ss) (hb : Below w.heap.size w w') : RdEvt w' A n ss :=
  ⟨h.1, fun hn => by
    obtain ⟨b, off, e, hlt, hc⟩ := h.2 hn
    exact ⟨b, off, e, Nat.lt_of_lt_of_le hlt hb.size, fun j l hj => by
      obtain ⟨P, hP⟩ := hc j l hj
      exact ⟨P, hP.of_below hlt hb⟩⟩⟩
theorem RdEvt.nil (w : World) (A : Option Addr) : RdEvt w A 0 [] := ⟨rfl, fun h => absurd h (by omega)⟩
theorem EvtAt.cells {k1 a1 b1 h1 w1 c1 : Int} {xs : List Int} {A : Option Addr} {n p : Nat} (h : EvtAt w b off ⟨k1, a1, b1, h1, w1, c1, xs⟩ ⟨A, n, p⟩) : w.cell? ⟨b, off, none⟩ = some (.int .i64 k1) ∧ w.cell? ⟨b, off + 1, none⟩ = some (.int .i64 a1) ∧ w.cell? ⟨b, off + 2, none⟩ = some (.int .i64 b1) ∧ w.cell? ⟨b, off + 3, none⟩ = some (.int .i64 h1) ∧ w.cell? ⟨b, off + 4, none⟩ = some (.int .i64 w1) ∧ w.cell? ⟨b, off + 5, none⟩ = some (.int .i64 c1) ∧ w.cell? ⟨b, off + 6, none⟩ = some (.slice A n p) :=
  ⟨h.1 0 _ rfl, h.1 1 _ rfl, h.1 2 _ rfl, h.1 3 _ rfl, h.1 4 _ rfl, h.1 5 _ rfl, h.1 6 _ rfl⟩
theorem EvtAt.rds {k1 a1 b1 h1 w1 c1 : Int} {xs : List Int} {A : Option Addr} {n p : Nat} (h : EvtAt w b off ⟨k1, a1, b1, h1, w1, c1, xs⟩ ⟨A, n, p⟩) : RdI w A n xs := h.2
theorem EvtAt.lens {k1 a1 b1 h1 w1 c1 : Int} {xs : List Int} {A : Option Addr} {n p : Nat} (h : EvtAt w b off ⟨k1, a1, b1, h1, w1, c1, xs⟩ ⟨A, n, p⟩) : xs.length = n := h.2.1
theorem bigEvt_at1 {k1 a1 b1 h1 w1 c1 : Int} {xs : List Int} {j : Nat} (h : ss[j]? = some ⟨k1, a1, b1, h1, w1, c1, xs⟩) : xs.length ≤ bigEvt ss := bigEvt_at h
/-- The element at place j, with its numbers by their names. -/
theorem RdEvt.at (h : RdEvt w A n ss) {j : Nat} (hj : j < n) : ∃ b off k1 a1 b1 h1 w1 c1 A' n' p' xs, A = some ⟨b, off, none⟩ ∧ b < w.heap.size ∧ ss[j]? = some ⟨k1, a1, b1, h1, w1, c1, xs⟩ ∧ EvtAt w b (off + j * 7) ⟨k1, a1, b1, h1, w1, c1, xs⟩ ⟨A', n', p'⟩ := by
  obtain ⟨b, off, e, hlt, hc⟩ := h.2 (by omega)
  have hl : ss[j]? = some (ss[j]'(by rw [h.1]; exact hj)) := List.getElem?_eq_getElem _
  obtain ⟨P, hP⟩ := hc j _ hl
  exact ⟨b, off, _, _, _, _, _, _, P.A, P.n, P.p, _, e, hlt, hl, hP⟩
end
end Qt
end Go.Proofs.Ytalkoaahhkafaaa
