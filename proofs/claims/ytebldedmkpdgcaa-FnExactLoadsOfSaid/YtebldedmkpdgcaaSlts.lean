/- Lists of values of the type Slot as they lie in memory: what it is that a slice of them reads as a list, and what keeps it. No conditions. -/
import Derived.Test.YtebldedmkpdgcaaOwn
namespace Go.Proofs.Ytebldedmkpdgcaa
open Go.RowKit Go.Sort
set_option linter.unusedSimpArgs false
set_option linter.unusedVariables false
namespace Qt
structure Slt where
  (jb wk fr te : Int)
structure SltP where
  (u : Unit)
def sltC (s : Slt) (P : SltP) : List Value := [.int .i64 s.jb, .int .i64 s.wk, .int .i64 s.fr, .int .i64 s.te]
def RdSltY (w : World) (s : Slt) (P : SltP) : Prop := True
def SltAt (w : World) (b off : Nat) (s : Slt) (P : SltP) : Prop := (∀ i v, (sltC s P)[i]? = some v → w.cell? ⟨b, off + i, none⟩ = some v) ∧ RdSltY w s P
/-- The slice at A of n elements reads as ss. -/
def RdSlt (w : World) (A : Option Addr) (n : Nat) (ss : List Slt) : Prop :=
  ss.length = n ∧ (0 < n → ∃ b off, A = some ⟨b, off, none⟩ ∧ b < w.heap.size ∧ ∀ j s, ss[j]? = some s → ∃ P, SltAt w b (off + j * 4) s P)
def bigSlt : List Slt → Nat
  | [] => 0
  | s :: r => 0 + bigSlt r
theorem bigSlt_append (a b : List Slt) : bigSlt (a ++ b) = bigSlt a + bigSlt b := by
  induction a with
  | nil => simp [bigSlt]
  | cons l r ih => simp [bigSlt, ih]; try omega
theorem bigSlt_at {ss : List Slt} {j : Nat} {s : Slt} (h : ss[j]? = some s) : 0 ≤ bigSlt ss := by
  induction ss generalizing j with
  | nil => simp at h
  | cons a r ih =>
    cases j with
    | zero => simp at h; subst h; simp [bigSlt]
    | succ j => simp at h; have := ih h; simp [bigSlt]; try omega
theorem bigSlt_take {ss : List Slt} {j : Nat} {s : Slt} (h : ss[j]? = some s) : bigSlt (ss.take (j + 1)) = bigSlt (ss.take j) + 0 := by
  rw [List.take_add_one, h, bigSlt_append]
  simp [bigSlt]
theorem bigSlt_take_le (ss : List Slt) (j : Nat) : bigSlt (ss.take j) ≤ bigSlt ss := by
  conv => rhs; rw [← List.take_append_drop j ss, bigSlt_append]
  omega
section
variable {w w' : World} {b off : Nat} {s : Slt} {P : SltP} {A : Option Addr} {n : Nat} {ss : List Slt}
theorem RdSltY.of_below (h : RdSltY w s P) (hb : Below w.heap.size w w') : RdSltY w' s P := trivial
theorem SltAt.of_below (h : SltAt w b off s P) (hlt : b < w.heap.size) (hb : Below w.heap.size w w') : SltAt w' b off s P :=
  ⟨fun i v hv => (hb.cell (p := ⟨b, off + i, none⟩) hlt).trans (h.1 i v hv), h.2.of_below hb⟩
theorem RdSlt.of_below (h : RdSlt w A n ss) (hb : Below w.heap.size w w') : RdSlt w' A n ss :=
  ⟨h.1, fun hn => by
    obtain ⟨b, off, e, hlt, hc⟩ := h.2 hn
    exact ⟨b, off, e, Nat.lt_of_lt_of_le hlt hb.size, fun j l hj => by
      obtain ⟨P, hP⟩ := hc j l hj
      exact ⟨P, hP.of_below hlt hb⟩⟩⟩
theorem RdSlt.nil (w : World) (A : Option Addr) : RdSlt w A 0 [] := ⟨rfl, fun h => absurd h (by omega)⟩
theorem SltAt.cells {jb1 wk1 fr1 te1 : Int} (h : SltAt w b off ⟨jb1, wk1, fr1, te1⟩ P) : w.cell? ⟨b, off, none⟩ = some (.int .i64 jb1) ∧ w.cell? ⟨b, off + 1, none⟩ = some (.int .i64 wk1) ∧ w.cell? ⟨b, off + 2, none⟩ = some (.int .i64 fr1) ∧ w.cell? ⟨b, off + 3, none⟩ = some (.int .i64 te1) :=
  ⟨h.1 0 _ rfl, h.1 1 _ rfl, h.1 2 _ rfl, h.1 3 _ rfl⟩
/-- The element at place j, with its numbers by their names. -/
theorem RdSlt.at (h : RdSlt w A n ss) {j : Nat} (hj : j < n) : ∃ b off jb1 wk1 fr1 te1 P, A = some ⟨b, off, none⟩ ∧ b < w.heap.size ∧ ss[j]? = some ⟨jb1, wk1, fr1, te1⟩ ∧ SltAt w b (off + j * 4) ⟨jb1, wk1, fr1, te1⟩ P := by
  obtain ⟨b, off, e, hlt, hc⟩ := h.2 (by omega)
  have hl : ss[j]? = some (ss[j]'(by rw [h.1]; exact hj)) := List.getElem?_eq_getElem _
  obtain ⟨P, hP⟩ := hc j _ hl
  exact ⟨b, off, _, _, _, _, P, e, hlt, hl, hP⟩
end
end Qt
end Go.Proofs.Ytebldedmkpdgcaa
