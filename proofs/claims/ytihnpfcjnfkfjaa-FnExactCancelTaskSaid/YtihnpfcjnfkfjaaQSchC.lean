/- How an argument that is a shape or a tensor lies as values: three numbers; three numbers and a slice that reads as a list. -/
import Derived.Test.YtihnpfcjnfkfjaaProg
import Derived.WalkKit
import Derived.ProofKit
import Derived.OpenShut
import Derived.Lib.SmallJoins
import Derived.Test.YtihnpfcjnfkfjaaQSchA
import Derived.BigQuiet
import Derived.Deep.QuietTactic
import Derived.Below
import Derived.Lib.Hide
import Derived.Outline
import Derived.Handy
import Derived.WalkSmall
import Derived.Deep.Slices
import Derived.Deep.Fields
import Derived.ChangeSame
import Derived.Test.YtihnpfcjnfkfjaaQSchB
import Derived.Maps.Own
import Derived.Maps.OwnSet
namespace Go.Proofs.Ytihnpfcjnfkfjaa
open Go.ChangeShapes Go.WideShapes Go.ChangeAt Go.RowKit Go.Joins
namespace Qt

theorem cellsI : Try.prog.cellsOf 3 = 1 := by kernel_rfl
theorem cellsSl : Try.prog.cellsOf 35 = 1 := by kernel_rfl
/-- A slice that came in: it reads as xs, and is no longer than a slice can be. -/
def RdT (w : World) (A : Option Addr) (n : Nat) (xs : List Int) : Prop := RdI w A n xs ∧ (n : Int) ≤ 9223372036854775807
section
variable {H : Type} {enc : TypeId × Value → H} {w : World} {base : Nat} {spare : Nat → Bool} {held : Bool}
end
end Qt
end Go.Proofs.Ytihnpfcjnfkfjaa

namespace Go.Proofs.Ytihnpfcjnfkfjaa
open Go.ChangeShapes Go.WideShapes Go.ChangeAt Go.RowKit Go.Joins
namespace Qt
section
variable {H : Type} {enc : TypeId × Value → H} {w : World} {base : Nat} {spare : Nat → Bool} {held : Bool}
/-- A field that is a slice of whole numbers. -/
theorem open_sliceF {n : Nat} {v : Value} {x : DataW H × List MemPlace} (h : DataW.trod enc Try.prog w base (fun _ => true) held n 35 [v] = some x) :
    ∃ (A : Option Addr) (n cap : Nat) (xs : List Int), v = .slice A n cap ∧ RdT w A n xs := by
  rcases open_ints Try.underlying35 Try.underlying3 cellsI h with ⟨hcs, _⟩ | ⟨x, l, cc, zs, hcs, _, hl, hm, hz, _, hcell, _⟩
  · simp at hcs
    subst hcs
    exact ⟨none, 0, 0, [], rfl, RdI.nil w _, by omega⟩
  · simp at hcs
    subst hcs
    refine ⟨some x, l, cc, zs.take l, rfl, ?_, by unfold maxLen at hm; omega⟩
    have hzl : zs.length = cc := by simpa using hz
    refine ⟨by rw [List.length_take]; omega, fun hn => ?_⟩
    obtain ⟨b', off, rfl, hcell'⟩ := ints_at hcell (by omega)
    refine ⟨b', off, rfl, World.block_lt_of_cell? w ⟨b', off + 0, none⟩ (hcell' 0 (by omega)), fun j hj => ?_⟩
    rw [hcell' j (by omega)]
    simp [List.getD_eq_getElem?_getD, hj]
theorem open_intF {n : Nat} {v : Value} {x : DataW H × List MemPlace} (h : DataW.trod enc Try.prog w base spare held n 3 [v] = some x) : ∃ a : Int, v = .int .i64 a := by
  obtain ⟨a, e0, _, _⟩ := DataW.trod_int Try.underlying3 h
  simp at e0
  exact ⟨a, e0⟩
end
end Qt
end Go.Proofs.Ytihnpfcjnfkfjaa

namespace Go.Proofs.Ytihnpfcjnfkfjaa
open Go.ChangeShapes Go.WideShapes Go.ChangeAt Go.RowKit Go.Joins
namespace Qt
section
variable {H : Type} {enc : TypeId × Value → H} {w : World} {base : Nat} {spare : Nat → Bool} {held : Bool}
set_option maxRecDepth 10000 in
theorem open_list {r : Reach} {b0 : Nat} {v : Value} {d : DataW H} {p : List MemPlace} (hv : Value.okWide Try.prog w r b0 35 v) (h : DataW.Trod enc Try.prog w base (fun _ => true) held 35 v d p) :
    ∃ (A : Option Addr) (n cap : Nat) (xs : List Int), v = .slice A n cap ∧ RdT w A n xs := by
  obtain ⟨a, l, c, rfl⟩ := okWide_slice Try.underlying35 hv
  obtain ⟨fuel, hf⟩ := h
  rcases open_ints Try.underlying35 Try.underlying3 cellsI hf with ⟨hcs, _⟩ | ⟨x, l', cc, zs, hcs, _, hl, hm, hz, _, hcell, _⟩
  · simp [Value.cells] at hcs
    obtain ⟨rfl, rfl, rfl⟩ := hcs
    exact ⟨none, 0, 0, [], rfl, RdI.nil w _, by omega⟩
  · simp [Value.cells] at hcs
    obtain ⟨rfl, rfl, rfl⟩ := hcs
    refine ⟨some x, l, c, zs.take l, rfl, ?_, by unfold maxLen at hm; omega⟩
    have hzl : zs.length = c := by simpa using hz
    refine ⟨by rw [List.length_take]; omega, fun hn => ?_⟩
    obtain ⟨b', off, rfl, hcell'⟩ := ints_at hcell (by omega)
    refine ⟨b', off, rfl, World.block_lt_of_cell? w ⟨b', off + 0, none⟩ (hcell' 0 (by omega)), fun j hj => ?_⟩
    rw [hcell' j (by omega)]
    simp [List.getD_eq_getElem?_getD, hj]
end
end Qt
end Go.Proofs.Ytihnpfcjnfkfjaa

namespace Go.Proofs.Ytihnpfcjnfkfjaa
open Go.RowKit
namespace Qt

/-- The slice at A of n elements reads as xs. -/
def RdB8 (w : World) (A : Option Addr) (n : Nat) (xs : List Int) : Prop :=
  xs.length = n ∧ (0 < n → ∃ b off, A = some ⟨b, off, none⟩ ∧ b < w.heap.size ∧ ∀ j, j < n → w.cell? ⟨b, off + j, none⟩ = some (.int .u8 (xs.getD j 0)))
theorem RdB8.nil (w : World) (A : Option Addr) : RdB8 w A 0 [] := ⟨rfl, fun h => absurd h (by omega)⟩
theorem RdB8.of_below {w w' : World} {A : Option Addr} {n : Nat} {xs : List Int} (h : RdB8 w A n xs) (hb : Below w.heap.size w w') : RdB8 w' A n xs :=
  ⟨h.1, fun hn => by
    obtain ⟨b, off, e, hlt, hc⟩ := h.2 hn
    exact ⟨b, off, e, Nat.lt_of_lt_of_le hlt hb.size, fun j hj => (hb.cell (p := ⟨b, off + j, none⟩) hlt).trans (hc j hj)⟩⟩
theorem RdB8.of_drewN {w : World} {A : Option Addr} {n : Nat} {xs : List Int} (h : RdB8 w A n xs) (m : Nat) : RdB8 (w.drewN m) A n xs := h
theorem RdB8.of_own {w : World} {base c e n : Nat} {A : Option Addr} {xs : List Int} (h : w.ownsRow base e 1 (.slice A n c) n (xs.map (Value.int .u8))) : RdB8 w A n xs := by
  refine ⟨by simpa using h.1, fun hn => ?_⟩
  rcases h.2 with ⟨_, h0⟩ | ⟨g, cap, cur, hv, _, hg, _⟩
  · omega
  · injection hv with hA _ hc
    subst hA hc
    refine ⟨g, 0, rfl, ?_, fun j hj => ?_⟩
    · rcases Nat.lt_or_ge g w.heap.size with hlt | hge
      · exact hlt
      · rw [Array.getElem?_eq_none hge] at hg; cases hg
    · have := h.cellAt j (by omega)
      have hl : j < xs.length := by have := h.1; simp at this; omega
      rw [Nat.zero_add, this]; simp [List.getD_eq_getElem?_getD, hl]

theorem vals_map_setY (xs : List Int) (n k : Nat) (h : xs.length = n) (hk : k < n) : ((vals xs n k).map (Value.int .u8)).set k (.int .u8 (xs.getD k 0)) = (vals xs n (k + 1)).map (Value.int .u8) := by
  rw [← vals_set xs n k h hk, List.map_set]

theorem RdB8.far {w : World} {b n : Nat} {xs : List Int} (h : RdB8 w (some ⟨b, 0, none⟩) n xs) {p : Addr} (hp : b ≠ p.block) (u : Value) : RdB8 (w.setCell p u) (some ⟨b, 0, none⟩) n xs :=
  ⟨h.1, fun hn => by
    obtain ⟨b', off, e, hlt, hc⟩ := h.2 hn
    cases e
    exact ⟨b, 0, rfl, by rw [World.size_setCell]; exact hlt, fun j hj => (World.cell?_setCell_other _ _ _ _ (fun e => hp (by subst e; rfl))).trans (hc j hj)⟩⟩

def NewFY (w : World) (n : Nat) (xs : List Int) (e : Ending) (w' : World) : Prop := ∃ g, e = .returned (.slice (some ⟨g, 0, none⟩) n n) ∧ w.heap.size ≤ g ∧ g < w'.heap.size ∧ RdB8 w' (some ⟨g, 0, none⟩) n xs ∧ Below w.heap.size w w'
def NewY (w : World) (n : Nat) (xs : List Int) (e : Ending) (w' : World) : Prop := ∃ g, e = .returned (.slice (some ⟨g, 0, none⟩) n n) ∧ RdB8 w' (some ⟨g, 0, none⟩) n xs ∧ Below w.heap.size w w'

theorem infoB8 : (Try.prog.info? 5).map (fun i => (i.zero, i.size, i.bytes)) = some (some (.int .u8 0), 1, 1) := by kernel_rfl
/-- A slice that reads as xs, in a block at or behind B, none of its cells frozen. -/
def OwnY (B : Nat) (w : World) (A : Option Addr) (n : Nat) (xs : List Int) : Prop :=
  xs.length = n ∧ (0 < n → ∃ g, A = some ⟨g, 0, none⟩ ∧ B ≤ g ∧ g < w.heap.size ∧ ∀ j, j < n → w.cell? ⟨g, j, none⟩ = some (.int .u8 (xs.getD j 0)) ∧ w.frozen? ⟨g, j, none⟩ = false)
section
variable {B B' : Nat} {w w' : World} {A : Option Addr} {n : Nat} {xs : List Int}
theorem OwnY.rdI (h : OwnY B w A n xs) : RdB8 w A n xs := ⟨h.1, fun hn => by
  obtain ⟨g, e, _, hl, hc⟩ := h.2 hn
  exact ⟨g, 0, e, hl, fun j hj => by rw [Nat.zero_add]; exact (hc j hj).1⟩⟩
theorem OwnY.base (h : OwnY B w A n xs) (hB : B' ≤ B) : OwnY B' w A n xs := ⟨h.1, fun hn => by
  obtain ⟨g, e, hb, r⟩ := h.2 hn
  exact ⟨g, e, Nat.le_trans hB hb, r⟩⟩
theorem OwnY.of_below (h : OwnY B w A n xs) (hb : Below w.heap.size w w') : OwnY B w' A n xs := ⟨h.1, fun hn => by
  obtain ⟨g, e, hB, hl, hc⟩ := h.2 hn
  exact ⟨g, e, hB, Nat.lt_of_lt_of_le hl hb.size, fun j hj => ⟨(hb.cell (p := ⟨g, j, none⟩) hl).trans (hc j hj).1, (hb.frozen (p := ⟨g, j, none⟩) hl).trans (hc j hj).2⟩⟩⟩
theorem OwnY.far {g : Nat} (h : OwnY B w (some ⟨g, 0, none⟩) n xs) {p : Addr} (hp : g ≠ p.block) (u : Value) : OwnY B (w.setCell p u) (some ⟨g, 0, none⟩) n xs := ⟨h.1, fun hn => by
  obtain ⟨g', e, hB, hl, hc⟩ := h.2 hn
  cases e
  exact ⟨g, rfl, hB, by rw [World.size_setCell]; exact hl, fun j hj => ⟨(World.cell?_setCell_other _ _ _ _ (fun e => hp (by subst e; rfl))).trans (hc j hj).1, by rw [World.frozen?_setCell]; exact (hc j hj).2⟩⟩⟩
theorem OwnY.of_own {base c e : Nat} (h : w.ownsRow base e 1 (.slice A n c) n (xs.map (Value.int .u8))) : OwnY base w A n xs := by
  refine ⟨by simpa using h.1, fun hn => ?_⟩
  rcases h.2 with ⟨_, h0⟩ | ⟨g, cap, cur, hv, hb, hg, _⟩
  · omega
  · injection hv with hA _ hc
    subst hA hc
    refine ⟨g, rfl, hb, (Array.getElem?_eq_some_iff.1 hg).1, fun j hj => ⟨?_, h.frozenAt j⟩⟩
    have := h.cellAt j (by omega)
    have hl : j < xs.length := by have := h.1; simp at this; omega
    rw [this]; simp [List.getD_eq_getElem?_getD, hl]
end
theorem OwnY.grown {B n : Nat} {w w' : World} {A : Option Addr} {xs : List Int} (h : OwnY B w A n xs) {g0 : Nat} (hg : w.grownBy w' (some g0)) (hne : ∀ g, 0 < n → A = some ⟨g, 0, none⟩ → g ≠ g0) : OwnY B w' A n xs := ⟨h.1, fun hn => by
  obtain ⟨g, e, hB, hl, hc⟩ := h.2 hn
  have hb := hg.block g hl (fun e' => hne g hn e (by cases e'; rfl))
  exact ⟨g, e, hB, Nat.lt_of_lt_of_le hl hg.size, fun j hj => ⟨(World.cell?_of_block hb).trans (hc j hj).1, by rw [← (hc j hj).2]; simp [World.frozen?, hb]⟩⟩⟩
theorem RdB8.grown {B n g0 : Nat} {w w' : World} {A : Option Addr} {xs : List Int} (h : RdB8 w A n xs) (hg : w.grownBy w' (some g0)) (hB : B ≤ g0) (hl : ∀ b off, A = some ⟨b, off, none⟩ → b < B) : RdB8 w' A n xs := ⟨h.1, fun hn => by
  obtain ⟨b, off, e, hlt, hc⟩ := h.2 hn
  have hb := hg.block b hlt (fun e2 => by injection e2 with e2; have := hl b off e; omega)
  exact ⟨b, off, e, Nat.lt_of_lt_of_le hlt hg.size, fun j hj => (World.cell?_of_block hb).trans (hc j hj)⟩⟩
theorem OwnY.set {B n i g : Nat} {w : World} {xs : List Int} (h : OwnY B w (some ⟨g, 0, none⟩) n xs) (hi : i < n) (v : Int) : OwnY B (w.setCell ⟨g, i, none⟩ (.int .u8 v)) (some ⟨g, 0, none⟩) n (xs.set i v) := by
  refine ⟨by rw [List.length_set]; exact h.1, fun hn => ?_⟩
  obtain ⟨g', e, hB, hl, hc⟩ := h.2 hn
  cases e
  refine ⟨g, rfl, hB, by rw [World.size_setCell]; exact hl, fun j hj => ⟨?_, by rw [World.frozen?_setCell]; exact (hc j hj).2⟩⟩
  by_cases hij : j = i
  · subst hij
    rw [World.cell?_setCell_same' _ _ _ (by rw [(hc j hj).1]; rfl)]
    have := h.1
    simp [List.getD_eq_getElem?_getD, show j < xs.length by omega]
  · rw [World.cell?_setCell_other _ _ _ _ (fun e => hij (by injection e with _ e2; exact e2.symm))]
    rw [(hc j hj).1]
    simp [List.getD_eq_getElem?_getD, Ne.symm hij]
theorem growY_set (W : World) (b i : Nat) (v : Value) : W.grownBy (W.setCell ⟨b, i, none⟩ v) (some b) :=
  ⟨rfl, rfl, rfl, by rw [World.size_setCell]; exact Nat.le_refl _, fun k _ hk => Below.heap_setCell _ _ _ k (fun e => hk (by rw [e]))⟩
theorem growY_step {a b c : World} {row : Option Nat} (h : a.grownBy b row) (k : b.grownBy c row) : a.grownBy c row :=
  ⟨k.os.trans h.os, k.tape.trans h.tape, k.output.trans h.output, Nat.le_trans h.size k.size, fun i hi hne => (k.block i (Nat.lt_of_lt_of_le hi h.size) hne).trans (h.block i hi hne)⟩
theorem growY_refl (W : World) (row : Option Nat) : W.grownBy W row := ⟨rfl, rfl, rfl, Nat.le_refl _, fun _ _ _ => rfl⟩

/-- The bytes of the numbers from k on. -/
def upY (k : Int) (n : Nat) : List Int := (List.range n).map (fun j => (k + (j : Nat)) % 256)
theorem upY_get (k : Int) (n j : Nat) (hj : j < n) : (upY k n).getD j 0 = (k + (j : Nat)) % 256 := by simp [upY, List.getD_eq_getElem?_getD, hj]
theorem upY_len (k : Int) (n : Nat) : (upY k n).length = n := by simp [upY]
def partY (k : Int) (xs : List Int) (i : Nat) : List Int := upY k i ++ xs.drop i
theorem partY_zero (k : Int) (xs : List Int) : partY k xs 0 = xs := by simp [partY, upY]
theorem partY_all (k : Int) (xs : List Int) (n : Nat) (h : xs.length = n) : partY k xs n = upY k n := by simp [partY, ← h]
theorem partY_set (k : Int) (xs : List Int) (i : Nat) (h : i < xs.length) : (partY k xs i).set i ((k + (i : Nat)) % 256) = partY k xs (i + 1) := by
  have e1 : (upY k i).length = i := upY_len k i
  unfold partY
  rw [List.set_append_right _ _ (by omega), e1, Nat.sub_self, List.drop_eq_getElem_cons h, List.set_cons_zero]
  unfold upY
  rw [List.range_succ, List.map_append]
  simp

def MarkedY (W : World) (B : Nat) (A : Option Addr) (n : Nat) (k : Int) (g : Nat) (e : Ending) (W' : World) : Prop :=
  e = .returned (.int .i64 (k + (n : Nat))) ∧ OwnY B W' A n (upY k n) ∧ W.grownBy W' (some g)
end Qt
end Go.Proofs.Ytihnpfcjnfkfjaa

namespace Go.Proofs.Ytihnpfcjnfkfjaa
open Go.ChangeShapes Go.WideShapes Go.ChangeAt Go.RowKit Go.Joins Go.Deep
namespace Qt
theorem cellsU8 : Try.prog.cellsOf 5 = 1 := by kernel_rfl
section
variable {H : Type} {enc : TypeId × Value → H} {w : World} {base : Nat} {spare : Nat → Bool} {held : Bool}
theorem exists_list {α : Type} (n : Nat) (R : Nat → α → Prop) (h : ∀ j, j < n → ∃ a, R j a) : ∃ l : List α, l.length = n ∧ ∀ j a, l[j]? = some a → R j a := by
  induction n with
  | zero => exact ⟨[], rfl, fun j a hj => by simp at hj⟩
  | succ n ih =>
    obtain ⟨l, hl, hR⟩ := ih fun j hj => h j (by omega)
    obtain ⟨a, ha⟩ := h n (by omega)
    refine ⟨l ++ [a], by simp [hl], fun j b hj => ?_⟩
    by_cases hlt : j < n
    · rw [List.getElem?_append_left (by omega)] at hj; exact hR j b hj
    · have : j = n := by have := (List.getElem?_eq_some_iff.1 hj).1; simp at this; omega
      subst this
      rw [List.getElem?_append_right (by omega)] at hj
      simp [hl] at hj
      subst hj
      exact ha
end
end Qt
end Go.Proofs.Ytihnpfcjnfkfjaa

namespace Go.Proofs.Ytihnpfcjnfkfjaa
open Go.RowKit Go.Sort
set_option linter.unusedSimpArgs false
set_option linter.unusedVariables false
namespace Qt
theorem wf_small {x : Int} (h : -1000000000 ≤ x ∧ x ≤ 1000000000) : (Lit.int .i64 x).wf = true := by
  simp only [Lit.wf, Bool.and_eq_true, decide_eq_true_eq]
  have h1 : IntKind.i64.min = -9223372036854775808 := by decide
  have h2 : IntKind.i64.max = 9223372036854775807 := by decide
  rw [h1, h2]
  omega
/-- An element stands for itself. -/
def asV (v : Value) : Option (DataW Value × List MemPlace) := some (.held v, [])
def mapOf (es : List (Int × Value)) : DataW Value := es.foldl (fun D p => D.put (.int .i64 p.1) (.held p.2)) (.map [])
theorem mapOf_snoc (es : List (Int × Value)) (p : Int × Value) : mapOf (es ++ [p]) = (mapOf es).put (.int .i64 p.1) (.held p.2) := by simp [mapOf, List.foldl_append]
theorem key_ne {a b : Int} (h : a ≠ b) : (Lit.int .i64 a) ≠ .int .i64 b := fun e => h (by injection e)
theorem isMap_fold (es : List (Int × Value)) (D : DataW Value) (h : Maps.IsMap D) : Maps.IsMap (es.foldl (fun D p => D.put (.int .i64 p.1) (.held p.2)) D) := by
  induction es generalizing D with
  | nil => exact h
  | cons p r ih => exact ih _ (h.put _ _)
theorem fold_miss (es : List (Int × Value)) (D : DataW Value) {id : Int} (h : ∀ p ∈ es, p.1 ≠ id) : Maps.has (es.foldl (fun D p => D.put (.int .i64 p.1) (.held p.2)) D) (.int .i64 id) = Maps.has D (.int .i64 id) ∧ ∀ z, (es.foldl (fun D p => D.put (.int .i64 p.1) (.held p.2)) D).atKey (.int .i64 id) z = D.atKey (.int .i64 id) z := by
  induction es generalizing D with
  | nil => exact ⟨rfl, fun _ => rfl⟩
  | cons p r ih =>
    have hp : p.1 ≠ id := h p (List.mem_cons_self ..)
    obtain ⟨h1, h2⟩ := ih (D.put (.int .i64 p.1) (.held p.2)) (fun q hq => h q (List.mem_cons_of_mem _ hq))
    rw [List.foldl_cons]
    exact ⟨h1.trans (Maps.has_put_other (key_ne hp.symm) _), fun z => (h2 z).trans (Maps.atKey_put_other (key_ne hp.symm) _ z)⟩
theorem fold_hit (es : List (Int × Value)) (D : DataW Value) (hD : Maps.IsMap D) (hd : es.Pairwise (fun p q => p.1 ≠ q.1)) {id : Int} {v : Value} (h : (id, v) ∈ es) : Maps.has (es.foldl (fun D p => D.put (.int .i64 p.1) (.held p.2)) D) (.int .i64 id) = true ∧ ∀ z, (es.foldl (fun D p => D.put (.int .i64 p.1) (.held p.2)) D).atKey (.int .i64 id) z = .held v := by
  induction es generalizing D with
  | nil => cases h
  | cons p r ih =>
    rw [List.foldl_cons]
    rw [List.pairwise_cons] at hd
    rcases List.mem_cons.1 h with rfl | hr
    · obtain ⟨h1, h2⟩ := fold_miss r (D.put (.int .i64 id) (.held v)) (id := id) (fun q hq => (hd.1 q hq).symm)
      exact ⟨h1.trans (Maps.has_put_same hD (k := .int .i64 id) trivial _), fun z => (h2 z).trans (Maps.atKey_put_same hD (k := .int .i64 id) trivial _ z)⟩
    · exact ih _ (hD.put _ _) hd.2 hr
theorem mapOf_miss {es : List (Int × Value)} {id : Int} (h : ∀ p ∈ es, p.1 ≠ id) : Maps.has (mapOf es) (.int .i64 id) = false ∧ ∀ z, (mapOf es).atKey (.int .i64 id) z = z := by
  obtain ⟨h1, h2⟩ := fold_miss es (.map []) h
  exact ⟨h1.trans rfl, fun z => (h2 z).trans rfl⟩
theorem mapOf_hit {es : List (Int × Value)} (hd : es.Pairwise (fun p q => p.1 ≠ q.1)) {id : Int} {v : Value} (h : (id, v) ∈ es) : Maps.has (mapOf es) (.int .i64 id) = true ∧ ∀ z, (mapOf es).atKey (.int .i64 id) z = .held v := fold_hit es (.map []) Maps.isMap_empty hd h
def zeroTk : Value := .agg #[.int .i64 0, .slice none 0 0, .int .i64 0, .int .i64 0, .int .i64 0]
theorem zeroTkE (w : World) : (zeroValue 53).run Try.prog w = .ok zeroTk w := by kernel_rfl
theorem keyI : Maps.Keyed Try.prog 3 := Maps.int_keyed Try.underlying3
section
variable {w : World} {b n : Nat} {es : List (Int × Value)}
theorem look_hit (h : w.ownsMap Try.prog 3 asV b n (mapOf es)) (hd : es.Pairwise (fun p q => p.1 ≠ q.1)) {id : Int} {v : Value} (hv : (id, v) ∈ es) (hw : (Lit.int .i64 id).wf = true) :
    (Instr.lookup 56 (.map (some b)) (.int .i64 id) true).run Try.prog w = .ok (.tuple #[v, .bool true]) w := by
  obtain ⟨u, ps, hrun, hat⟩ := h.look_ok keyI Try.underlying56 (zeroTkE w) (zd := .held zeroTk) (zp := []) rfl (Maps.keyOf_int_mk Try.underlying3 hw)
  obtain ⟨h1, h2⟩ := mapOf_hit hd hv
  rw [h1] at hrun
  rw [h2] at hat
  have : u = v := by simpa [asV] using congrArg (fun o => o.map Prod.fst) hat
  rw [hrun, this]
theorem look_miss (h : w.ownsMap Try.prog 3 asV b n (mapOf es)) {id : Int} (hv : ∀ p ∈ es, p.1 ≠ id) (hw : (Lit.int .i64 id).wf = true) :
    (Instr.lookup 56 (.map (some b)) (.int .i64 id) true).run Try.prog w = .ok (.tuple #[zeroTk, .bool false]) w := by
  obtain ⟨u, ps, hrun, hat⟩ := h.look_ok keyI Try.underlying56 (zeroTkE w) (zd := .held zeroTk) (zp := []) rfl (Maps.keyOf_int_mk Try.underlying3 hw)
  obtain ⟨h1, h2⟩ := mapOf_miss hv
  rw [h1] at hrun
  rw [h2] at hat
  have : u = zeroTk := by simpa [asV] using congrArg (fun o => o.map Prod.fst) hat
  rw [hrun, this]
theorem look_none {id : Int} (hw : (Lit.int .i64 id).wf = true) : (Instr.lookup 56 (.map none) (.int .i64 id) true).run Try.prog w = .ok (.tuple #[zeroTk, .bool false]) w :=
  Maps.look_nil true keyI Try.underlying56 (zeroTkE w) (Maps.keyOf_int_mk Try.underlying3 hw)
theorem put_run (h : w.ownsMap Try.prog 3 asV b n (mapOf es)) (hn : n < 1000) (id : Int) (v : Value) (hw : (Lit.int .i64 id).wf = true) :
    ∃ w', (Instr.mapUpdate 56 (.map (some b)) (.int .i64 id) v).run Try.prog w = .ok () w' ∧ w'.ownsMap Try.prog 3 asV b (n + 1) (mapOf (es ++ [(id, v)])) ∧ w.grownBy w' (some b) := by
  obtain ⟨w', h1, h2, h3⟩ := h.update keyI Try.underlying56 (by unfold maxLen; omega) (Maps.keyOf_int_mk Try.underlying3 hw) (show asV v = some (.held v, []) from rfl)
  exact ⟨w', h1, by rw [mapOf_snoc]; exact h2, h3⟩
theorem ownsMap_below {w' : World} {D : DataW Value} (h : w.ownsMap Try.prog 3 asV b n D) (hb : Below w.heap.size w w') : w'.ownsMap Try.prog 3 asV b n D := by
  have hlt := h.lt
  obtain ⟨es, clock, hbk, F, hs, hD⟩ := h
  exact ⟨es, clock, (hb.block b hlt).trans hbk, F, hs, hD⟩
end
/-- A task as a value, its costs at P. -/
def TV (t : Tsk) (P : TskP) : Value := .agg #[.int .i64 t.ti, .slice P.A P.n P.p, .int .i64 t.ta, .int .i64 t.td, .int .i64 t.tb]
/-- The entries of the map that stands for the tasks: each by its Id, its costs where they lie. -/
def Ent (w : World) (ss : List Tsk) (es : List (Int × Value)) : Prop := es.length = ss.length ∧ ∀ (j : Nat) (t : Tsk), ss[j]? = some t → ∃ P, es[j]? = some (t.ti, TV t P) ∧ RdI w P.A P.n t.xs
theorem Ent.of_below {w w' : World} {ss : List Tsk} {es : List (Int × Value)} (h : Ent w ss es) (hb : Below w.heap.size w w') : Ent w' ss es := ⟨h.1, fun j t ht => by
  obtain ⟨P, h1, h2⟩ := h.2 j t ht
  exact ⟨P, h1, h2.of_below hb⟩⟩
theorem Ent.mem {w : World} {ss : List Tsk} {es : List (Int × Value)} (h : Ent w ss es) {p : Int × Value} (hp : p ∈ es) : ∃ t ∈ ss, p.1 = t.ti := by
  obtain ⟨j, hj, rfl⟩ := List.getElem_of_mem hp
  have hs : ss[j]? = some (ss[j]'(by rw [← h.1]; exact hj)) := List.getElem?_eq_getElem _
  obtain ⟨P, h1, _⟩ := h.2 j _ hs
  rw [List.getElem?_eq_getElem hj] at h1
  exact ⟨_, List.mem_of_getElem? hs, by rw [Option.some.inj h1]⟩
theorem Ent.apart {w : World} {ss : List Tsk} {es : List (Int × Value)} (h : Ent w ss es) (hr : ss.Pairwise (fun s t => s.ti < t.ti)) : es.Pairwise (fun p q => p.1 ≠ q.1) := by
  rw [List.pairwise_iff_getElem] at hr ⊢
  intro i j hi hj hij
  have hi' : ss[i]? = some (ss[i]'(by rw [← h.1]; exact hi)) := List.getElem?_eq_getElem _
  have hj' : ss[j]? = some (ss[j]'(by rw [← h.1]; exact hj)) := List.getElem?_eq_getElem _
  obtain ⟨P, h1, _⟩ := h.2 i _ hi'
  obtain ⟨Q, h2, _⟩ := h.2 j _ hj'
  rw [List.getElem?_eq_getElem hi] at h1
  rw [List.getElem?_eq_getElem hj] at h2
  rw [Option.some.inj h1, Option.some.inj h2]
  have := hr i j (by rw [← h.1]; exact hi) (by rw [← h.1]; exact hj) hij
  simp only
  omega
/-- Each task's slice of costs has room for what it holds. -/
def CapTsk (w : World) (A : Option Addr) (ss : List Tsk) : Prop := ∀ b off, A = some ⟨b, off, none⟩ → b < w.heap.size → ∀ (j : Nat) (t : Tsk) (P : TskP), ss[j]? = some t → TskAt w b (off + j * 5) t P → P.n ≤ P.p
def CapE (ss : List Tsk) (es : List (Int × Value)) : Prop := ∀ (j : Nat) (t : Tsk), ss[j]? = some t → ∃ P, es[j]? = some (t.ti, TV t P) ∧ P.n ≤ P.p
/-- A slice that reads as the tasks, whose costs have room. -/
def RdC (w : World) (A : Option Addr) (n : Nat) (ss : List Tsk) : Prop := RdTsk w A n ss ∧ CapTsk w A ss
theorem CapTsk.of_below {w w' : World} {A : Option Addr} {n : Nat} {ss : List Tsk} (hr : RdTsk w A n ss) (h : CapTsk w A ss) (hb : Below w.heap.size w w') : CapTsk w' A ss := fun b off e hlt j t P hj ht => by
  have hn : 0 < n := by have := (List.getElem?_eq_some_iff.1 hj).1; have := hr.1; omega
  obtain ⟨b0, off0, e0, hlt0, hc⟩ := hr.2 hn
  rw [e] at e0
  cases e0
  obtain ⟨Q, hQ⟩ := hc j t hj
  have h2 := h b off e hlt0 j t Q hj hQ
  have c1 := (hQ.of_below hlt0 hb).1 1 _ rfl
  have c2 := ht.1 1 _ rfl
  rw [c1] at c2
  simp only [Option.some.injEq, Value.slice.injEq] at c2
  omega
theorem RdC.rd {w : World} {A : Option Addr} {n : Nat} {ss : List Tsk} (h : RdC w A n ss) : RdTsk w A n ss := h.1
theorem RdC.of_below {w w' : World} {A : Option Addr} {n : Nat} {ss : List Tsk} (h : RdC w A n ss) (hb : Below w.heap.size w w') : RdC w' A n ss := ⟨h.1.of_below hb, h.2.of_below h.1 hb⟩
/-- The entries of a slice of tasks. -/
theorem ent_of {W : World} {A : Option Addr} {n : Nat} {ss : List Tsk} (h : RdTsk W A n ss) : ∃ es, Ent W ss es ∧ ∀ (j : Nat) (t : Tsk), ss[j]? = some t → ∃ P, es[j]? = some (t.ti, TV t P) ∧ ∀ b off, A = some ⟨b, off, none⟩ → TskAt W b (off + j * 5) t P := by
  obtain ⟨es, hl, hR⟩ := exists_list n (fun j (e : Int × Value) => ∀ t, ss[j]? = some t → ∃ P, e = (t.ti, TV t P) ∧ ∀ b off, A = some ⟨b, off, none⟩ → TskAt W b (off + j * 5) t P) (fun j hj => by
    obtain ⟨b, off, e, hlt, hc⟩ := h.2 (by omega)
    have hs : ss[j]? = some (ss[j]'(by rw [h.1]; exact hj)) := List.getElem?_eq_getElem _
    obtain ⟨P, hP⟩ := hc j _ hs
    refine ⟨((ss[j]'(by rw [h.1]; exact hj)).ti, TV (ss[j]'(by rw [h.1]; exact hj)) P), fun t ht => ?_⟩
    rw [hs] at ht
    cases ht
    refine ⟨P, rfl, fun b' off' e' => ?_⟩
    rw [e] at e'
    cases e'
    exact hP)
  have hall : ∀ (j : Nat) (t : Tsk), ss[j]? = some t → ∃ P, es[j]? = some (t.ti, TV t P) ∧ ∀ b off, A = some ⟨b, off, none⟩ → TskAt W b (off + j * 5) t P := fun j t ht => by
    have hj : j < n := by have := (List.getElem?_eq_some_iff.1 ht).1; have := h.1; omega
    have he : es[j]? = some (es[j]'(by omega)) := List.getElem?_eq_getElem _
    obtain ⟨P, h1, h2⟩ := hR j _ he t ht
    exact ⟨P, by rw [he, h1], h2⟩
  refine ⟨es, ⟨by rw [hl, h.1], fun j t ht => ?_⟩, hall⟩
  obtain ⟨P, h1, h2⟩ := hall j t ht
  have hj : j < n := by have := (List.getElem?_eq_some_iff.1 ht).1; have := h.1; omega
  obtain ⟨b, off, e, hlt, hc⟩ := h.2 (by omega)
  exact ⟨P, h1, (h2 b off e).2⟩
end Qt
end Go.Proofs.Ytihnpfcjnfkfjaa

namespace Go.Proofs.Ytihnpfcjnfkfjaa
open Go.RowKit Go.Sort
set_option linter.unusedSimpArgs false
set_option linter.unusedVariables false
namespace Qt
set_option maxRecDepth 100000 in
theorem dutyOfI (ti1 : Int) (A1 : Option Addr) (n1 p1 : Nat) (ta1 td1 tb1 : Int) (W : World) :
    Calls Try.prog 79 #[.agg #[.int .i64 ti1, .slice A1 n1 p1, .int .i64 ta1, .int .i64 td1, .int .i64 tb1]] W fun e W' => e = .returned (.agg #[.int .i64 ti1, .int .i64 ta1, .int .i64 td1, .int .i64 tb1]) ∧ Below W.heap.size W W' := by
  have b9 := ((Below.refl _ W).alloc (Nat.le_refl _) (.cells #[.int .i64 ti1, .slice A1 n1 p1, .int .i64 ta1, .int .i64 td1, .int .i64 tb1] 53)).alloc (by simp) (.cells #[.int .i64 ti1, .int .i64 ta1, .int .i64 td1, .int .i64 tb1] 68)
  have kd := Bk.new (W.alloc (.cells #[.int .i64 ti1, .slice A1 n1 p1, .int .i64 ta1, .int .i64 td1, .int .i64 tb1] 53)) 68 #[.int .i64 ti1, .int .i64 ta1, .int .i64 td1, .int .i64 tb1]
  simp only [World.size_alloc] at kd
  have KD := Lib.hid kd
  have Bl := Lib.hid b9
  clear b9 kd
  go_enter Try.func79, Try.ntmps79
  go_wp2_with fail
  obtain ⟨z0, z1, z2, z3⟩ := KD.out.cell4
  refine bodyPost_ret (v := .agg #[.int .i64 ti1, .int .i64 ta1, .int .i64 td1, .int .i64 tb1]) ?_ rfl ⟨rfl, Bl.out⟩
  simp [results, Try.results79, go_sem, z0, z1, z2, z3]
set_option maxRecDepth 100000 in
theorem lateI (nw sk ag rn lf tu nx : Int) (mb : Option Nat) (ti1 ta1 td1 tb1 : Int) (W : World) :
    Calls Try.prog 55 #[.agg #[.int .i64 nw, .int .i64 sk, .int .i64 ag, .slice none 0 0, .int .i64 rn, .int .i64 lf, .int .i64 tu, .int .i64 nx, .map mb], .agg #[.int .i64 ti1, .int .i64 ta1, .int .i64 td1, .int .i64 tb1]] W fun e W' => e = .returned (.bool (decide (td1 ≤ nw))) ∧ Below W.heap.size W W' := by
  have b0 := ((Below.refl _ W).alloc (Nat.le_refl _) (.cells #[.int .i64 nw, .int .i64 sk, .int .i64 ag, .slice none 0 0, .int .i64 rn, .int .i64 lf, .int .i64 tu, .int .i64 nx, .map mb] 58)).alloc (by simp) (.cells #[.int .i64 ti1, .int .i64 ta1, .int .i64 td1, .int .i64 tb1] 68)
  have Bl := Lib.hid b0
  clear b0
  go_enter Try.func55, Try.ntmps55
  go_wp2_with fail
  go_ret
  exact ⟨rfl, Bl.out⟩
/-- A look-up that asks for no second answer. -/
theorem look1_hit {w : World} {b n : Nat} {es : List (Int × Value)} (h : w.ownsMap Try.prog 3 asV b n (mapOf es)) (hd : es.Pairwise (fun p q => p.1 ≠ q.1)) {id : Int} {v : Value} (hv : (id, v) ∈ es) (hw : (Lit.int .i64 id).wf = true) :
    (Instr.lookup 56 (.map (some b)) (.int .i64 id) false).run Try.prog w = .ok v w := by
  obtain ⟨u, ps, hrun, hat⟩ := h.lookup keyI Try.underlying56 (zeroTkE w) (zd := .held zeroTk) (zp := []) rfl (Maps.keyOf_int_mk Try.underlying3 hw)
  obtain ⟨h1, h2⟩ := mapOf_hit hd hv
  rw [h2] at hat
  have : u = v := by simpa [asV] using congrArg (fun o => o.map Prod.fst) hat
  rw [hrun, this]
end Qt
end Go.Proofs.Ytihnpfcjnfkfjaa

namespace Go.Proofs.Ytihnpfcjnfkfjaa
open Go.RowKit Go.Sort
namespace Qt
/-- An answer that is a slice of ints, in a block of the call's own. -/
def AnsI (W : World) (m : Nat) (xs : List Int) (e : Ending) (W' : World) : Prop := ∃ A cap, e = .returned (.slice A m cap) ∧ OwnI W.heap.size W' A m xs ∧ Below W.heap.size W W'
theorem AnsI.of_own {W W' : World} {xs : List Int} {V : Value} {n : Nat} {t : TypeId} (ho : W'.ownsRow W.heap.size t 1 V n (xs.map (Value.int .i64))) (hb : Below W.heap.size W W') : AnsI W xs.length xs (.returned V) W' := by
  have hn : xs.length = n := by have := ho.1; simpa using this
  subst hn
  rcases ho.2 with ⟨rfl, h0⟩ | ⟨g, cap, cur, rfl, rest⟩
  · exact ⟨none, 0, by rw [h0], ⟨rfl, fun h => by omega⟩, hb⟩
  · exact ⟨_, _, rfl, OwnI.of_own ho, hb⟩
end Qt
end Go.Proofs.Ytihnpfcjnfkfjaa
