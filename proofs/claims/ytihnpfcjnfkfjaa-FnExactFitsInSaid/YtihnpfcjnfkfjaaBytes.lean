/- Slices of bytes that are read, copied, compared, marked: what the laws' own helpers toByteS, eqByteS, markByteS and heldByteS give. Conditions: the slice reads as the list that is named. -/
import Derived.Test.YtihnpfcjnfkfjaaSlice
import Derived.WalkKit
import Derived.ProofKit
import Derived.BigQuiet
import Derived.Deep.QuietTactic
import Derived.Below
import Derived.Lib.Hide
import Derived.Outline
import Derived.Handy
import Derived.WalkSmall
namespace Go.Proofs.Ytihnpfcjnfkfjaa
open Go.RowKit
namespace Qt

/-- The slice at A of n elements reads as xs. -/
def RdB8 (w : World) (A : Option Addr) (n : Nat) (xs : List Int) : Prop :=
  xs.length = n ∧ (0 < n → ∃ b off, A = some ⟨b, off, none⟩ ∧ b < w.heap.size ∧ ∀ j, j < n → w.cell? ⟨b, off + j, none⟩ = some (.int .u8 (xs.getD j 0)))
theorem RdB8.nil (w : World) (A : Option Addr) : RdB8 w A 0 [] := ⟨rfl, fun h => absurd h (by omega)⟩
theorem RdB8.of_below {w w' : World} {A : Option Addr} {n : Nat} {xs : List Int} (h : RdB8 w A n xs) (hb : Below w.heap.size w w') : RdB8 w' A n xs :=
  ⟨h.1, fun hn => by
    obtain ⟨b, off, e, hlt, hc⟩ := h.2 hn
    exact ⟨b, off, e, Nat.lt_of_lt_of_le hlt hb.size, fun j hj => (hb.cell (p := ⟨b, off + j, none⟩) hlt).trans (hc j hj)⟩⟩
theorem RdB8.of_drewN {w : World} {A : Option Addr} {n : Nat} {xs : List Int} (h : RdB8 w A n xs) (m : Nat) : RdB8 (w.drewN m) A n xs := h
theorem RdB8.of_own {w : World} {base c e n : Nat} {A : Option Addr} {xs : List Int} (h : w.ownsRow base e 1 (.slice A n c) n (xs.map (Value.int .u8))) : RdB8 w A n xs := by
  refine ⟨by simpa using h.1, fun hn => ?_⟩
  rcases h.2 with ⟨_, h0⟩ | ⟨g, cap, cur, hv, _, hg, _⟩
  · omega
  · injection hv with hA _ hc
    subst hA hc
    refine ⟨g, 0, rfl, ?_, fun j hj => ?_⟩
    · rcases Nat.lt_or_ge g w.heap.size with hlt | hge
      · exact hlt
      · rw [Array.getElem?_eq_none hge] at hg; cases hg
    · have := h.cellAt j (by omega)
      have hl : j < xs.length := by have := h.1; simp at this; omega
      rw [Nat.zero_add, this]; simp [List.getD_eq_getElem?_getD, hl]

theorem vals_map_setY (xs : List Int) (n k : Nat) (h : xs.length = n) (hk : k < n) : ((vals xs n k).map (Value.int .u8)).set k (.int .u8 (xs.getD k 0)) = (vals xs n (k + 1)).map (Value.int .u8) := by
  rw [← vals_set xs n k h hk, List.map_set]

theorem RdB8.far {w : World} {b n : Nat} {xs : List Int} (h : RdB8 w (some ⟨b, 0, none⟩) n xs) {p : Addr} (hp : b ≠ p.block) (u : Value) : RdB8 (w.setCell p u) (some ⟨b, 0, none⟩) n xs :=
  ⟨h.1, fun hn => by
    obtain ⟨b', off, e, hlt, hc⟩ := h.2 hn
    cases e
    exact ⟨b, 0, rfl, by rw [World.size_setCell]; exact hlt, fun j hj => (World.cell?_setCell_other _ _ _ _ (fun e => hp (by subst e; rfl))).trans (hc j hj)⟩⟩

def NewFY (w : World) (n : Nat) (xs : List Int) (e : Ending) (w' : World) : Prop := ∃ g, e = .returned (.slice (some ⟨g, 0, none⟩) n n) ∧ w.heap.size ≤ g ∧ g < w'.heap.size ∧ RdB8 w' (some ⟨g, 0, none⟩) n xs ∧ Below w.heap.size w w'
def NewY (w : World) (n : Nat) (xs : List Int) (e : Ending) (w' : World) : Prop := ∃ g, e = .returned (.slice (some ⟨g, 0, none⟩) n n) ∧ RdB8 w' (some ⟨g, 0, none⟩) n xs ∧ Below w.heap.size w w'

theorem infoB8 : (Try.prog.info? 5).map (fun i => (i.zero, i.size, i.bytes)) = some (some (.int .u8 0), 1, 1) := by kernel_rfl
/-- A slice that reads as xs, in a block at or behind B, none of its cells frozen. -/
def OwnY (B : Nat) (w : World) (A : Option Addr) (n : Nat) (xs : List Int) : Prop :=
  xs.length = n ∧ (0 < n → ∃ g, A = some ⟨g, 0, none⟩ ∧ B ≤ g ∧ g < w.heap.size ∧ ∀ j, j < n → w.cell? ⟨g, j, none⟩ = some (.int .u8 (xs.getD j 0)) ∧ w.frozen? ⟨g, j, none⟩ = false)
section
variable {B B' : Nat} {w w' : World} {A : Option Addr} {n : Nat} {xs : List Int}
theorem OwnY.rdI (h : OwnY B w A n xs) : RdB8 w A n xs := ⟨h.1, fun hn => by
  obtain ⟨g, e, _, hl, hc⟩ := h.2 hn
  exact ⟨g, 0, e, hl, fun j hj => by rw [Nat.zero_add]; exact (hc j hj).1⟩⟩
theorem OwnY.base (h : OwnY B w A n xs) (hB : B' ≤ B) : OwnY B' w A n xs := ⟨h.1, fun hn => by
  obtain ⟨g, e, hb, r⟩ := h.2 hn
  exact ⟨g, e, Nat.le_trans hB hb, r⟩⟩
theorem OwnY.of_below (h : OwnY B w A n xs) (hb : Below w.heap.size w w') : OwnY B w' A n xs := ⟨h.1, fun hn => by
  obtain ⟨g, e, hB, hl, hc⟩ := h.2 hn
  exact ⟨g, e, hB, Nat.lt_of_lt_of_le hl hb.size, fun j hj => ⟨(hb.cell (p := ⟨g, j, none⟩) hl).trans (hc j hj).1, (hb.frozen (p := ⟨g, j, none⟩) hl).trans (hc j hj).2⟩⟩⟩
theorem OwnY.far {g : Nat} (h : OwnY B w (some ⟨g, 0, none⟩) n xs) {p : Addr} (hp : g ≠ p.block) (u : Value) : OwnY B (w.setCell p u) (some ⟨g, 0, none⟩) n xs := ⟨h.1, fun hn => by
  obtain ⟨g', e, hB, hl, hc⟩ := h.2 hn
  cases e
  exact ⟨g, rfl, hB, by rw [World.size_setCell]; exact hl, fun j hj => ⟨(World.cell?_setCell_other _ _ _ _ (fun e => hp (by subst e; rfl))).trans (hc j hj).1, by rw [World.frozen?_setCell]; exact (hc j hj).2⟩⟩⟩
theorem OwnY.of_own {base c e : Nat} (h : w.ownsRow base e 1 (.slice A n c) n (xs.map (Value.int .u8))) : OwnY base w A n xs := by
  refine ⟨by simpa using h.1, fun hn => ?_⟩
  rcases h.2 with ⟨_, h0⟩ | ⟨g, cap, cur, hv, hb, hg, _⟩
  · omega
  · injection hv with hA _ hc
    subst hA hc
    refine ⟨g, rfl, hb, (Array.getElem?_eq_some_iff.1 hg).1, fun j hj => ⟨?_, h.frozenAt j⟩⟩
    have := h.cellAt j (by omega)
    have hl : j < xs.length := by have := h.1; simp at this; omega
    rw [this]; simp [List.getD_eq_getElem?_getD, hl]
end
theorem OwnY.grown {B n : Nat} {w w' : World} {A : Option Addr} {xs : List Int} (h : OwnY B w A n xs) {g0 : Nat} (hg : w.grownBy w' (some g0)) (hne : ∀ g, 0 < n → A = some ⟨g, 0, none⟩ → g ≠ g0) : OwnY B w' A n xs := ⟨h.1, fun hn => by
  obtain ⟨g, e, hB, hl, hc⟩ := h.2 hn
  have hb := hg.block g hl (fun e' => hne g hn e (by cases e'; rfl))
  exact ⟨g, e, hB, Nat.lt_of_lt_of_le hl hg.size, fun j hj => ⟨(World.cell?_of_block hb).trans (hc j hj).1, by rw [← (hc j hj).2]; simp [World.frozen?, hb]⟩⟩⟩
theorem RdB8.grown {B n g0 : Nat} {w w' : World} {A : Option Addr} {xs : List Int} (h : RdB8 w A n xs) (hg : w.grownBy w' (some g0)) (hB : B ≤ g0) (hl : ∀ b off, A = some ⟨b, off, none⟩ → b < B) : RdB8 w' A n xs := ⟨h.1, fun hn => by
  obtain ⟨b, off, e, hlt, hc⟩ := h.2 hn
  have hb := hg.block b hlt (fun e2 => by injection e2 with e2; have := hl b off e; omega)
  exact ⟨b, off, e, Nat.lt_of_lt_of_le hlt hg.size, fun j hj => (World.cell?_of_block hb).trans (hc j hj)⟩⟩
theorem OwnY.set {B n i g : Nat} {w : World} {xs : List Int} (h : OwnY B w (some ⟨g, 0, none⟩) n xs) (hi : i < n) (v : Int) : OwnY B (w.setCell ⟨g, i, none⟩ (.int .u8 v)) (some ⟨g, 0, none⟩) n (xs.set i v) := by
  refine ⟨by rw [List.length_set]; exact h.1, fun hn => ?_⟩
  obtain ⟨g', e, hB, hl, hc⟩ := h.2 hn
  cases e
  refine ⟨g, rfl, hB, by rw [World.size_setCell]; exact hl, fun j hj => ⟨?_, by rw [World.frozen?_setCell]; exact (hc j hj).2⟩⟩
  by_cases hij : j = i
  · subst hij
    rw [World.cell?_setCell_same' _ _ _ (by rw [(hc j hj).1]; rfl)]
    have := h.1
    simp [List.getD_eq_getElem?_getD, show j < xs.length by omega]
  · rw [World.cell?_setCell_other _ _ _ _ (fun e => hij (by injection e with _ e2; exact e2.symm))]
    rw [(hc j hj).1]
    simp [List.getD_eq_getElem?_getD, Ne.symm hij]
theorem growY_set (W : World) (b i : Nat) (v : Value) : W.grownBy (W.setCell ⟨b, i, none⟩ v) (some b) :=
  ⟨rfl, rfl, rfl, by rw [World.size_setCell]; exact Nat.le_refl _, fun k _ hk => Below.heap_setCell _ _ _ k (fun e => hk (by rw [e]))⟩
theorem growY_step {a b c : World} {row : Option Nat} (h : a.grownBy b row) (k : b.grownBy c row) : a.grownBy c row :=
  ⟨k.os.trans h.os, k.tape.trans h.tape, k.output.trans h.output, Nat.le_trans h.size k.size, fun i hi hne => (k.block i (Nat.lt_of_lt_of_le hi h.size) hne).trans (h.block i hi hne)⟩
theorem growY_refl (W : World) (row : Option Nat) : W.grownBy W row := ⟨rfl, rfl, rfl, Nat.le_refl _, fun _ _ _ => rfl⟩

/-- The bytes of the numbers from k on. -/
def upY (k : Int) (n : Nat) : List Int := (List.range n).map (fun j => (k + (j : Nat)) % 256)
theorem upY_get (k : Int) (n j : Nat) (hj : j < n) : (upY k n).getD j 0 = (k + (j : Nat)) % 256 := by simp [upY, List.getD_eq_getElem?_getD, hj]
theorem upY_len (k : Int) (n : Nat) : (upY k n).length = n := by simp [upY]
def partY (k : Int) (xs : List Int) (i : Nat) : List Int := upY k i ++ xs.drop i
theorem partY_zero (k : Int) (xs : List Int) : partY k xs 0 = xs := by simp [partY, upY]
theorem partY_all (k : Int) (xs : List Int) (n : Nat) (h : xs.length = n) : partY k xs n = upY k n := by simp [partY, ← h]
theorem partY_set (k : Int) (xs : List Int) (i : Nat) (h : i < xs.length) : (partY k xs i).set i ((k + (i : Nat)) % 256) = partY k xs (i + 1) := by
  have e1 : (upY k i).length = i := upY_len k i
  unfold partY
  rw [List.set_append_right _ _ (by omega), e1, Nat.sub_self, List.drop_eq_getElem_cons h, List.set_cons_zero]
  unfold upY
  rw [List.range_succ, List.map_append]
  simp

def MarkedY (W : World) (B : Nat) (A : Option Addr) (n : Nat) (k : Int) (g : Nat) (e : Ending) (W' : World) : Prop :=
  e = .returned (.int .i64 (k + (n : Nat))) ∧ OwnY B W' A n (upY k n) ∧ W.grownBy W' (some g)
end Qt
end Go.Proofs.Ytihnpfcjnfkfjaa
