/- Lists of values of the type Task as they lie in memory: what it is that a slice of them reads as a list, and what keeps it. No conditions. -/
import Derived.Test.YtihnpfcjnfkfjaaOwnI
namespace Go.Proofs.Ytihnpfcjnfkfjaa
open Go.RowKit Go.Sort
set_option linter.unusedSimpArgs false
set_option linter.unusedVariables false
namespace Qt
structure Tsk where
  (ti ta td tb : Int)
  (xs : List Int)
structure TskP where
  (A : Option Addr) (n p : Nat)
def tskC (s : Tsk) (P : TskP) : List Value := [.int .i64 s.ti, .slice P.A P.n P.p, .int .i64 s.ta, .int .i64 s.td, .int .i64 s.tb]
def RdTskY (w : World) (s : Tsk) (P : TskP) : Prop := RdI w P.A P.n s.xs
def TskAt (w : World) (b off : Nat) (s : Tsk) (P : TskP) : Prop := (∀ i v, (tskC s P)[i]? = some v → w.cell? ⟨b, off + i, none⟩ = some v) ∧ RdTskY w s P
/-- The slice at A of n elements reads as ss. -/
def RdTsk (w : World) (A : Option Addr) (n : Nat) (ss : List Tsk) : Prop :=
  ss.length = n ∧ (0 < n → ∃ b off, A = some ⟨b, off, none⟩ ∧ b < w.heap.size ∧ ∀ j s, ss[j]? = some s → ∃ P, TskAt w b (off + j * 5) s P)
def bigTsk : List Tsk → Nat
  | [] => 0
  | s :: r => s.xs.length + bigTsk r
theorem bigTsk_append (a b : List Tsk) : bigTsk (a ++ b) = bigTsk a + bigTsk b := by
  induction a with
  | nil => simp [bigTsk]
  | cons l r ih => simp [bigTsk, ih]; try omega
theorem bigTsk_at {ss : List Tsk} {j : Nat} {s : Tsk} (h : ss[j]? = some s) : s.xs.length ≤ bigTsk ss := by
  induction ss generalizing j with
  | nil => simp at h
  | cons a r ih =>
    cases j with
    | zero => simp at h; subst h; simp [bigTsk]
    | succ j => simp at h; have := ih h; simp [bigTsk]; try omega
theorem bigTsk_take {ss : List Tsk} {j : Nat} {s : Tsk} (h : ss[j]? = some s) : bigTsk (ss.take (j + 1)) = bigTsk (ss.take j) + s.xs.length := by
  rw [List.take_add_one, h, bigTsk_append]
  simp [bigTsk]
theorem bigTsk_take_le (ss : List Tsk) (j : Nat) : bigTsk (ss.take j) ≤ bigTsk ss := by
  conv => rhs; rw [← List.take_append_drop j ss, bigTsk_append]
  omega
section
variable {w w' : World} {b off : Nat} {s : Tsk} {P : TskP} {A : Option Addr} {n : Nat} {ss : List Tsk}
theorem RdTskY.of_below (h : RdTskY w s P) (hb : Below w.heap.size w w') : RdTskY w' s P := RdI.of_below h hb
theorem TskAt.of_below (h : TskAt w b off s P) (hlt : b < w.heap.size) (hb : Below w.heap.size w w') : TskAt w' b off s P :=
  ⟨fun i v hv => (hb.cell (p := ⟨b, off + i, none⟩) hlt).trans (h.1 i v hv), h.2.of_below hb⟩
theorem RdTsk.of_below (h : RdTsk w A n ss) (hb : Below w.heap.size w w') : RdTsk w' A n ss :=
  ⟨h.1, fun hn => by
    obtain ⟨b, off, e, hlt, hc⟩ := h.2 hn
    exact ⟨b, off, e, Nat.lt_of_lt_of_le hlt hb.size, fun j l hj => by
      obtain ⟨P, hP⟩ := hc j l hj
      exact ⟨P, hP.of_below hlt hb⟩⟩⟩
theorem RdTsk.nil (w : World) (A : Option Addr) : RdTsk w A 0 [] := ⟨rfl, fun h => absurd h (by omega)⟩
theorem TskAt.cells {ti1 ta1 td1 tb1 : Int} {xs : List Int} {A : Option Addr} {n p : Nat} (h : TskAt w b off ⟨ti1, ta1, td1, tb1, xs⟩ ⟨A, n, p⟩) : w.cell? ⟨b, off, none⟩ = some (.int .i64 ti1) ∧ w.cell? ⟨b, off + 1, none⟩ = some (.slice A n p) ∧ w.cell? ⟨b, off + 2, none⟩ = some (.int .i64 ta1) ∧ w.cell? ⟨b, off + 3, none⟩ = some (.int .i64 td1) ∧ w.cell? ⟨b, off + 4, none⟩ = some (.int .i64 tb1) :=
  ⟨h.1 0 _ rfl, h.1 1 _ rfl, h.1 2 _ rfl, h.1 3 _ rfl, h.1 4 _ rfl⟩
theorem TskAt.rds {ti1 ta1 td1 tb1 : Int} {xs : List Int} {A : Option Addr} {n p : Nat} (h : TskAt w b off ⟨ti1, ta1, td1, tb1, xs⟩ ⟨A, n, p⟩) : RdI w A n xs := h.2
theorem TskAt.lens {ti1 ta1 td1 tb1 : Int} {xs : List Int} {A : Option Addr} {n p : Nat} (h : TskAt w b off ⟨ti1, ta1, td1, tb1, xs⟩ ⟨A, n, p⟩) : xs.length = n := h.2.1
theorem bigTsk_at1 {ti1 ta1 td1 tb1 : Int} {xs : List Int} {j : Nat} (h : ss[j]? = some ⟨ti1, ta1, td1, tb1, xs⟩) : xs.length ≤ bigTsk ss := bigTsk_at h
/-- The element at place j, with its numbers by their names. -/
theorem RdTsk.at (h : RdTsk w A n ss) {j : Nat} (hj : j < n) : ∃ b off ti1 ta1 td1 tb1 A' n' p' xs, A = some ⟨b, off, none⟩ ∧ b < w.heap.size ∧ ss[j]? = some ⟨ti1, ta1, td1, tb1, xs⟩ ∧ TskAt w b (off + j * 5) ⟨ti1, ta1, td1, tb1, xs⟩ ⟨A', n', p'⟩ := by
  obtain ⟨b, off, e, hlt, hc⟩ := h.2 (by omega)
  have hl : ss[j]? = some (ss[j]'(by rw [h.1]; exact hj)) := List.getElem?_eq_getElem _
  obtain ⟨P, hP⟩ := hc j _ hl
  exact ⟨b, off, _, _, _, _, P.A, P.n, P.p, _, e, hlt, hl, hP⟩
end
end Qt
end Go.Proofs.Ytihnpfcjnfkfjaa
