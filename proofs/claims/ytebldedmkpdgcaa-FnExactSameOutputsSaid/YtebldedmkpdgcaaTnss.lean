/- Lists of values of the type Tensor as they lie in memory: what it is that a slice of them reads as a list, and what keeps it. No conditions. -/
import Derived.Test.YtebldedmkpdgcaaOwn
namespace Go.Proofs.Ytebldedmkpdgcaa
open Go.RowKit Go.Sort
set_option linter.unusedSimpArgs false
set_option linter.unusedVariables false
namespace Qt
structure Tns where
  (h w c : Int)
  (xs : List Int)
structure TnsP where
  (A : Option Addr) (n p : Nat)
def tnsC (s : Tns) (P : TnsP) : List Value := [.int .i64 s.h, .int .i64 s.w, .int .i64 s.c, .slice P.A P.n P.p]
def RdTnsY (w : World) (s : Tns) (P : TnsP) : Prop := RdI w P.A P.n s.xs
def TnsAt (w : World) (b off : Nat) (s : Tns) (P : TnsP) : Prop := (∀ i v, (tnsC s P)[i]? = some v → w.cell? ⟨b, off + i, none⟩ = some v) ∧ RdTnsY w s P
/-- The slice at A of n elements reads as ss. -/
def RdTns (w : World) (A : Option Addr) (n : Nat) (ss : List Tns) : Prop :=
  ss.length = n ∧ (0 < n → ∃ b off, A = some ⟨b, off, none⟩ ∧ b < w.heap.size ∧ ∀ j s, ss[j]? = some s → ∃ P, TnsAt w b (off + j * 4) s P)
def bigTns : List Tns → Nat
  | [] => 0
  | s :: r => s.xs.length + bigTns r
theorem bigTns_append (a b : List Tns) : bigTns (a ++ b) = bigTns a + bigTns b := by
  induction a with
  | nil => simp [bigTns]
  | cons l r ih => simp [bigTns, ih]; try omega
theorem bigTns_at {ss : List Tns} {j : Nat} {s : Tns} (h : ss[j]? = some s) : s.xs.length ≤ bigTns ss := by
  induction ss generalizing j with
  | nil => simp at h
  | cons a r ih =>
    cases j with
    | zero => simp at h; subst h; simp [bigTns]
    | succ j => simp at h; have := ih h; simp [bigTns]; try omega
theorem bigTns_take {ss : List Tns} {j : Nat} {s : Tns} (h : ss[j]? = some s) : bigTns (ss.take (j + 1)) = bigTns (ss.take j) + s.xs.length := by
  rw [List.take_add_one, h, bigTns_append]
  simp [bigTns]
theorem bigTns_take_le (ss : List Tns) (j : Nat) : bigTns (ss.take j) ≤ bigTns ss := by
  conv => rhs; rw [← List.take_append_drop j ss, bigTns_append]
  omega
section
variable {w w' : World} {b off : Nat} {s : Tns} {P : TnsP} {A : Option Addr} {n : Nat} {ss : List Tns}
theorem RdTnsY.of_below (h : RdTnsY w s P) (hb : Below w.heap.size w w') : RdTnsY w' s P := RdI.of_below h hb
theorem TnsAt.of_below (h : TnsAt w b off s P) (hlt : b < w.heap.size) (hb : Below w.heap.size w w') : TnsAt w' b off s P :=
  ⟨fun i v hv => (hb.cell (p := ⟨b, off + i, none⟩) hlt).trans (h.1 i v hv), h.2.of_below hb⟩
theorem RdTns.of_below (h : RdTns w A n ss) (hb : Below w.heap.size w w') : RdTns w' A n ss :=
  ⟨h.1, fun hn => by
    obtain ⟨b, off, e, hlt, hc⟩ := h.2 hn
    exact ⟨b, off, e, Nat.lt_of_lt_of_le hlt hb.size, fun j l hj => by
      obtain ⟨P, hP⟩ := hc j l hj
      exact ⟨P, hP.of_below hlt hb⟩⟩⟩
theorem RdTns.nil (w : World) (A : Option Addr) : RdTns w A 0 [] := ⟨rfl, fun h => absurd h (by omega)⟩
theorem TnsAt.cells {h1 w1 c1 : Int} {xs : List Int} {A : Option Addr} {n p : Nat} (h : TnsAt w b off ⟨h1, w1, c1, xs⟩ ⟨A, n, p⟩) : w.cell? ⟨b, off, none⟩ = some (.int .i64 h1) ∧ w.cell? ⟨b, off + 1, none⟩ = some (.int .i64 w1) ∧ w.cell? ⟨b, off + 2, none⟩ = some (.int .i64 c1) ∧ w.cell? ⟨b, off + 3, none⟩ = some (.slice A n p) :=
  ⟨h.1 0 _ rfl, h.1 1 _ rfl, h.1 2 _ rfl, h.1 3 _ rfl⟩
theorem TnsAt.rds {h1 w1 c1 : Int} {xs : List Int} {A : Option Addr} {n p : Nat} (h : TnsAt w b off ⟨h1, w1, c1, xs⟩ ⟨A, n, p⟩) : RdI w A n xs := h.2
theorem TnsAt.lens {h1 w1 c1 : Int} {xs : List Int} {A : Option Addr} {n p : Nat} (h : TnsAt w b off ⟨h1, w1, c1, xs⟩ ⟨A, n, p⟩) : xs.length = n := h.2.1
theorem bigTns_at1 {h1 w1 c1 : Int} {xs : List Int} {j : Nat} (h : ss[j]? = some ⟨h1, w1, c1, xs⟩) : xs.length ≤ bigTns ss := bigTns_at h
/-- The element at place j, with its numbers by their names. -/
theorem RdTns.at (h : RdTns w A n ss) {j : Nat} (hj : j < n) : ∃ b off h1 w1 c1 A' n' p' xs, A = some ⟨b, off, none⟩ ∧ b < w.heap.size ∧ ss[j]? = some ⟨h1, w1, c1, xs⟩ ∧ TnsAt w b (off + j * 4) ⟨h1, w1, c1, xs⟩ ⟨A', n', p'⟩ := by
  obtain ⟨b, off, e, hlt, hc⟩ := h.2 (by omega)
  have hl : ss[j]? = some (ss[j]'(by rw [h.1]; exact hj)) := List.getElem?_eq_getElem _
  obtain ⟨P, hP⟩ := hc j _ hl
  exact ⟨b, off, _, _, _, P.A, P.n, P.p, _, e, hlt, hl, hP⟩
end
end Qt
end Go.Proofs.Ytebldedmkpdgcaa
