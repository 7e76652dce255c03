/- Lists of layers as they lie in memory: what it is that a slice of layers reads as a list, and what keeps it. No conditions. -/
import Derived.Test.YtklefnmhknlilaaBlk9
namespace Go.Proofs.Ytklefnmhknlilaa
open Go.RowKit
namespace Qt
/-- What a layer holds. -/
structure Lay where
  (k o s t m f z : Int)
  (xs ys : List Int)
/-- Where a layer's two slices lie. -/
structure Pos where
  (A : Option Addr) (n p : Nat) (B : Option Addr) (q r : Nat)
def layC (l : Lay) (P : Pos) : List Value := [.int .i64 l.k, .int .i64 l.o, .int .i64 l.s, .int .i64 l.t, .int .i64 l.m, .int .i64 l.f, .int .i64 l.z, .slice P.A P.n P.p, .slice P.B P.q P.r]
def RdY (w : World) (l : Lay) (P : Pos) : Prop := RdI w P.A P.n l.xs ∧ RdI w P.B P.q l.ys
/-- The layers one behind the other from cell 'off' of block b on. -/
def LayAt (w : World) (b off : Nat) (l : Lay) (P : Pos) : Prop := (∀ i v, (layC l P)[i]? = some v → w.cell? ⟨b, off + i, none⟩ = some v) ∧ RdY w l P
/-- The slice at A of n layers reads as ls. -/
def RdL (w : World) (A : Option Addr) (n : Nat) (ls : List Lay) : Prop :=
  ls.length = n ∧ (0 < n → ∃ b off, A = some ⟨b, off, none⟩ ∧ b < w.heap.size ∧ ∀ j l, ls[j]? = some l → ∃ P, LayAt w b (off + j * 9) l P)
/-- How much the laws' helper reckons for the layers. -/
def big : List Lay → Nat
  | [] => 0
  | l :: r => l.xs.length + l.ys.length + big r
theorem big_append (a b : List Lay) : big (a ++ b) = big a + big b := by
  induction a with
  | nil => simp [big]
  | cons l r ih => simp [big, ih]; omega
theorem big_at {ls : List Lay} {j : Nat} {l : Lay} (h : ls[j]? = some l) : l.xs.length + l.ys.length ≤ big ls := by
  induction ls generalizing j with
  | nil => simp at h
  | cons a r ih =>
    cases j with
    | zero => simp at h; subst h; simp [big]
    | succ j => simp at h; have := ih h; simp [big]; omega
theorem big_take {ls : List Lay} {j : Nat} {l : Lay} (h : ls[j]? = some l) : big (ls.take (j + 1)) = big (ls.take j) + (l.xs.length + l.ys.length) := by
  rw [List.take_add_one, h, big_append]
  simp [big]
theorem big_take_le (ls : List Lay) (j : Nat) : big (ls.take j) ≤ big ls := by
  conv => rhs; rw [← List.take_append_drop j ls, big_append]
  omega
section
variable {w w' : World} {b off : Nat} {l : Lay} {P : Pos} {A : Option Addr} {n : Nat} {ls : List Lay}
theorem RdY.of_below (h : RdY w l P) (hb : Below w.heap.size w w') : RdY w' l P := ⟨h.1.of_below hb, h.2.of_below hb⟩
theorem LayAt.of_below (h : LayAt w b off l P) (hlt : b < w.heap.size) (hb : Below w.heap.size w w') : LayAt w' b off l P :=
  ⟨fun i v hv => (hb.cell (p := ⟨b, off + i, none⟩) hlt).trans (h.1 i v hv), h.2.of_below hb⟩
theorem RdL.of_below (h : RdL w A n ls) (hb : Below w.heap.size w w') : RdL w' A n ls :=
  ⟨h.1, fun hn => by
    obtain ⟨b, off, e, hlt, hc⟩ := h.2 hn
    exact ⟨b, off, e, Nat.lt_of_lt_of_le hlt hb.size, fun j l hj => by
      obtain ⟨P, hP⟩ := hc j l hj
      exact ⟨P, hP.of_below hlt hb⟩⟩⟩
theorem LayAt.cells (h : LayAt w b off l P) : w.cell? ⟨b, off, none⟩ = some (.int .i64 l.k) ∧ w.cell? ⟨b, off + 1, none⟩ = some (.int .i64 l.o) ∧ w.cell? ⟨b, off + 2, none⟩ = some (.int .i64 l.s) ∧ w.cell? ⟨b, off + 3, none⟩ = some (.int .i64 l.t) ∧ w.cell? ⟨b, off + 4, none⟩ = some (.int .i64 l.m) ∧ w.cell? ⟨b, off + 5, none⟩ = some (.int .i64 l.f) ∧ w.cell? ⟨b, off + 6, none⟩ = some (.int .i64 l.z) ∧ w.cell? ⟨b, off + 7, none⟩ = some (.slice P.A P.n P.p) ∧ w.cell? ⟨b, off + 8, none⟩ = some (.slice P.B P.q P.r) :=
  ⟨h.1 0 _ rfl, h.1 1 _ rfl, h.1 2 _ rfl, h.1 3 _ rfl, h.1 4 _ rfl, h.1 5 _ rfl, h.1 6 _ rfl, h.1 7 _ rfl, h.1 8 _ rfl⟩
theorem LayAt.lens {k o s t m f z : Int} {xs ys : List Int} {A B : Option Addr} {n p q r : Nat} (h : LayAt w b off ⟨k, o, s, t, m, f, z, xs, ys⟩ ⟨A, n, p, B, q, r⟩) : xs.length = n ∧ ys.length = q := ⟨h.2.1.1, h.2.2.1⟩
theorem LayAt.rds {k o s t m f z : Int} {xs ys : List Int} {A B : Option Addr} {n p q r : Nat} (h : LayAt w b off ⟨k, o, s, t, m, f, z, xs, ys⟩ ⟨A, n, p, B, q, r⟩) : RdI w A n xs ∧ RdI w B q ys := ⟨h.2.1, h.2.2⟩
theorem LayAt.cells9 {k o s t m f z : Int} {xs ys : List Int} {A B : Option Addr} {n p q r : Nat} (h : LayAt w b off ⟨k, o, s, t, m, f, z, xs, ys⟩ ⟨A, n, p, B, q, r⟩) : w.cell? ⟨b, off, none⟩ = some (.int .i64 k) ∧ w.cell? ⟨b, off + 1, none⟩ = some (.int .i64 o) ∧ w.cell? ⟨b, off + 2, none⟩ = some (.int .i64 s) ∧ w.cell? ⟨b, off + 3, none⟩ = some (.int .i64 t) ∧ w.cell? ⟨b, off + 4, none⟩ = some (.int .i64 m) ∧ w.cell? ⟨b, off + 5, none⟩ = some (.int .i64 f) ∧ w.cell? ⟨b, off + 6, none⟩ = some (.int .i64 z) ∧ w.cell? ⟨b, off + 7, none⟩ = some (.slice A n p) ∧ w.cell? ⟨b, off + 8, none⟩ = some (.slice B q r) := h.cells
theorem big_at9 {k o s t m f z : Int} {xs ys : List Int} {j : Nat} (h : ls[j]? = some ⟨k, o, s, t, m, f, z, xs, ys⟩) : xs.length + ys.length ≤ big ls := big_at h
/-- The layer at place j, with its numbers and its slices by their names. -/
theorem RdL.at (h : RdL w A n ls) {j : Nat} (hj : j < n) : ∃ b off k o s t m f z A' n' p' B' q' r' xs ys, A = some ⟨b, off, none⟩ ∧ b < w.heap.size ∧ ls[j]? = some ⟨k, o, s, t, m, f, z, xs, ys⟩ ∧ LayAt w b (off + j * 9) ⟨k, o, s, t, m, f, z, xs, ys⟩ ⟨A', n', p', B', q', r'⟩ := by
  obtain ⟨b, off, e, hlt, hc⟩ := h.2 (by omega)
  have hl : ls[j]? = some (ls[j]'(by rw [h.1]; exact hj)) := List.getElem?_eq_getElem _
  obtain ⟨P, hP⟩ := hc j _ hl
  exact ⟨b, off, _, _, _, _, _, _, _, P.A, P.n, P.p, P.B, P.q, P.r, _, _, e, hlt, hl, hP⟩
end
end Qt
end Go.Proofs.Ytklefnmhknlilaa
