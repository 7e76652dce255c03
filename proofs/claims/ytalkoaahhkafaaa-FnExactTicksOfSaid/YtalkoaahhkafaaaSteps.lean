/- Lists of steps as they lie in memory: what it is that a slice of steps reads as a list, and what keeps it. No conditions. -/
import Derived.Test.YtalkoaahhkafaaaBlk9
import Derived.Test.YtalkoaahhkafaaaBytes
namespace Go.Proofs.Ytalkoaahhkafaaa
open Go.RowKit
set_option linter.unusedVariables false
namespace Qt
/-- What a step holds. -/
structure Stp where
  (k a b h w c : Int)
  (bs xs : List Int)
/-- Where a step's two slices lie. -/
structure SPo where
  (A : Option Addr) (n p : Nat) (B : Option Addr) (q r : Nat)
def stpC (s : Stp) (P : SPo) : List Value := [.int .i64 s.k, .int .i64 s.a, .int .i64 s.b, .slice P.A P.n P.p, .int .i64 s.h, .int .i64 s.w, .int .i64 s.c, .slice P.B P.q P.r]
def RdSY (w : World) (s : Stp) (P : SPo) : Prop := RdB8 w P.A P.n s.bs ∧ RdI w P.B P.q s.xs
def StpAt (w : World) (b off : Nat) (s : Stp) (P : SPo) : Prop := (∀ i v, (stpC s P)[i]? = some v → w.cell? ⟨b, off + i, none⟩ = some v) ∧ RdSY w s P
/-- The slice at A of n steps reads as ss. -/
def RdSt (w : World) (A : Option Addr) (n : Nat) (ss : List Stp) : Prop :=
  ss.length = n ∧ (0 < n → ∃ b off, A = some ⟨b, off, none⟩ ∧ b < w.heap.size ∧ ∀ j s, ss[j]? = some s → ∃ P, StpAt w b (off + j * 8) s P)
def bigS : List Stp → Nat
  | [] => 0
  | s :: r => s.bs.length + s.xs.length + bigS r
theorem bigS_append (a b : List Stp) : bigS (a ++ b) = bigS a + bigS b := by
  induction a with
  | nil => simp [bigS]
  | cons l r ih => simp [bigS, ih]; omega
theorem bigS_at {ss : List Stp} {j : Nat} {s : Stp} (h : ss[j]? = some s) : s.bs.length + s.xs.length ≤ bigS ss := by
  induction ss generalizing j with
  | nil => simp at h
  | cons a r ih =>
    cases j with
    | zero => simp at h; subst h; simp [bigS]
    | succ j => simp at h; have := ih h; simp [bigS]; omega
theorem bigS_take {ss : List Stp} {j : Nat} {s : Stp} (h : ss[j]? = some s) : bigS (ss.take (j + 1)) = bigS (ss.take j) + (s.bs.length + s.xs.length) := by
  rw [List.take_add_one, h, bigS_append]
  simp [bigS]
theorem bigS_take_le (ss : List Stp) (j : Nat) : bigS (ss.take j) ≤ bigS ss := by
  conv => rhs; rw [← List.take_append_drop j ss, bigS_append]
  omega
section
variable {w w' : World} {b off : Nat} {s : Stp} {P : SPo} {A : Option Addr} {n : Nat} {ss : List Stp}
theorem RdSY.of_below (h : RdSY w s P) (hb : Below w.heap.size w w') : RdSY w' s P := ⟨h.1.of_below hb, h.2.of_below hb⟩
theorem StpAt.of_below (h : StpAt w b off s P) (hlt : b < w.heap.size) (hb : Below w.heap.size w w') : StpAt w' b off s P :=
  ⟨fun i v hv => (hb.cell (p := ⟨b, off + i, none⟩) hlt).trans (h.1 i v hv), h.2.of_below hb⟩
theorem RdSt.of_below (h : RdSt w A n ss) (hb : Below w.heap.size w w') : RdSt w' A n ss :=
  ⟨h.1, fun hn => by
    obtain ⟨b, off, e, hlt, hc⟩ := h.2 hn
    exact ⟨b, off, e, Nat.lt_of_lt_of_le hlt hb.size, fun j l hj => by
      obtain ⟨P, hP⟩ := hc j l hj
      exact ⟨P, hP.of_below hlt hb⟩⟩⟩
theorem RdSt.nil (w : World) (A : Option Addr) : RdSt w A 0 [] := ⟨rfl, fun h => absurd h (by omega)⟩
theorem StpAt.cells8 {k a b' h' w'' c : Int} {bs xs : List Int} {A B : Option Addr} {n p q r : Nat} (h : StpAt w b off ⟨k, a, b', h', w'', c, bs, xs⟩ ⟨A, n, p, B, q, r⟩) : w.cell? ⟨b, off, none⟩ = some (.int .i64 k) ∧ w.cell? ⟨b, off + 1, none⟩ = some (.int .i64 a) ∧ w.cell? ⟨b, off + 2, none⟩ = some (.int .i64 b') ∧ w.cell? ⟨b, off + 3, none⟩ = some (.slice A n p) ∧ w.cell? ⟨b, off + 4, none⟩ = some (.int .i64 h') ∧ w.cell? ⟨b, off + 5, none⟩ = some (.int .i64 w'') ∧ w.cell? ⟨b, off + 6, none⟩ = some (.int .i64 c) ∧ w.cell? ⟨b, off + 7, none⟩ = some (.slice B q r) :=
  ⟨h.1 0 _ rfl, h.1 1 _ rfl, h.1 2 _ rfl, h.1 3 _ rfl, h.1 4 _ rfl, h.1 5 _ rfl, h.1 6 _ rfl, h.1 7 _ rfl⟩
theorem StpAt.rds {k a b' h' w'' c : Int} {bs xs : List Int} {A B : Option Addr} {n p q r : Nat} (h : StpAt w b off ⟨k, a, b', h', w'', c, bs, xs⟩ ⟨A, n, p, B, q, r⟩) : RdB8 w A n bs ∧ RdI w B q xs := ⟨h.2.1, h.2.2⟩
theorem StpAt.lens {k a b' h' w'' c : Int} {bs xs : List Int} {A B : Option Addr} {n p q r : Nat} (h : StpAt w b off ⟨k, a, b', h', w'', c, bs, xs⟩ ⟨A, n, p, B, q, r⟩) : bs.length = n ∧ xs.length = q := ⟨h.2.1.1, h.2.2.1⟩
theorem bigS_at8 {k a b' h' w'' c : Int} {bs xs : List Int} {j : Nat} (h : ss[j]? = some ⟨k, a, b', h', w'', c, bs, xs⟩) : bs.length + xs.length ≤ bigS ss := bigS_at h
/-- The step at place j, with its numbers and its slices by their names. -/
theorem RdSt.at (h : RdSt w A n ss) {j : Nat} (hj : j < n) : ∃ b off k a b' h' w'' c A' n' p' B' q' r' bs xs, A = some ⟨b, off, none⟩ ∧ b < w.heap.size ∧ ss[j]? = some ⟨k, a, b', h', w'', c, bs, xs⟩ ∧ StpAt w b (off + j * 8) ⟨k, a, b', h', w'', c, bs, xs⟩ ⟨A', n', p', B', q', r'⟩ := by
  obtain ⟨b, off, e, hlt, hc⟩ := h.2 (by omega)
  have hl : ss[j]? = some (ss[j]'(by rw [h.1]; exact hj)) := List.getElem?_eq_getElem _
  obtain ⟨P, hP⟩ := hc j _ hl
  exact ⟨b, off, _, _, _, _, _, _, P.A, P.n, P.p, P.B, P.q, P.r, _, _, e, hlt, hl, hP⟩
end
end Qt
end Go.Proofs.Ytalkoaahhkafaaa
