/- Slices of bytes that are read, copied, compared, marked: what the laws' own helpers toByteS, eqByteS, markByteS and heldByteS give. Conditions: the slice reads as the list that is named. -/
import Derived.Test.YtalkoaahhkafaaaSlice
import Derived.WalkKit
import Derived.ProofKit
import Derived.BigQuiet
import Derived.Deep.QuietTactic
import Derived.Below
import Derived.Lib.Hide
import Derived.Outline
import Derived.Handy
import Derived.WalkSmall
namespace Go.Proofs.Ytalkoaahhkafaaa
open Go.RowKit
namespace Qt

/-- The slice at A of n elements reads as xs. -/
def RdB8 (w : World) (A : Option Addr) (n : Nat) (xs : List Int) : Prop :=
  xs.length = n ∧ (0 < n → ∃ b off, A = some ⟨b, off, none⟩ ∧ b < w.heap.size ∧ ∀ j, j < n → w.cell? ⟨b, off + j, none⟩ = some (.int .u8 (xs.getD j 0)))
theorem RdB8.nil (w : World) (A : Option Addr) : RdB8 w A 0 [] := ⟨rfl, fun h => absurd h (by omega)⟩
theorem RdB8.of_below {w w' : World} {A : Option Addr} {n : Nat} {xs : List Int} (h : RdB8 w A n xs) (hb : Below w.heap.size w w') : RdB8 w' A n xs :=
  ⟨h.1, fun hn => by
    obtain ⟨b, off, e, hlt, hc⟩ := h.2 hn
    exact ⟨b, off, e, Nat.lt_of_lt_of_le hlt hb.size, fun j hj => (hb.cell (p := ⟨b, off + j, none⟩) hlt).trans (hc j hj)⟩⟩
theorem RdB8.of_drewN {w : World} {A : Option Addr} {n : Nat} {xs : List Int} (h : RdB8 w A n xs) (m : Nat) : RdB8 (w.drewN m) A n xs := h
theorem RdB8.of_own {w : World} {base c e n : Nat} {A : Option Addr} {xs : List Int} (h : w.ownsRow base e 1 (.slice A n c) n (xs.map (Value.int .u8))) : RdB8 w A n xs := by
  refine ⟨by simpa using h.1, fun hn => ?_⟩
  rcases h.2 with ⟨_, h0⟩ | ⟨g, cap, cur, hv, _, hg, _⟩
  · omega
  · injection hv with hA _ hc
    subst hA hc
    refine ⟨g, 0, rfl, ?_, fun j hj => ?_⟩
    · rcases Nat.lt_or_ge g w.heap.size with hlt | hge
      · exact hlt
      · rw [Array.getElem?_eq_none hge] at hg; cases hg
    · have := h.cellAt j (by omega)
      have hl : j < xs.length := by have := h.1; simp at this; omega
      rw [Nat.zero_add, this]; simp [List.getD_eq_getElem?_getD, hl]

theorem vals_map_setY (xs : List Int) (n k : Nat) (h : xs.length = n) (hk : k < n) : ((vals xs n k).map (Value.int .u8)).set k (.int .u8 (xs.getD k 0)) = (vals xs n (k + 1)).map (Value.int .u8) := by
  rw [← vals_set xs n k h hk, List.map_set]

theorem RdB8.far {w : World} {b n : Nat} {xs : List Int} (h : RdB8 w (some ⟨b, 0, none⟩) n xs) {p : Addr} (hp : b ≠ p.block) (u : Value) : RdB8 (w.setCell p u) (some ⟨b, 0, none⟩) n xs :=
  ⟨h.1, fun hn => by
    obtain ⟨b', off, e, hlt, hc⟩ := h.2 hn
    cases e
    exact ⟨b, 0, rfl, by rw [World.size_setCell]; exact hlt, fun j hj => (World.cell?_setCell_other _ _ _ _ (fun e => hp (by subst e; rfl))).trans (hc j hj)⟩⟩

def NewFY (w : World) (n : Nat) (xs : List Int) (e : Ending) (w' : World) : Prop := ∃ g, e = .returned (.slice (some ⟨g, 0, none⟩) n n) ∧ w.heap.size ≤ g ∧ g < w'.heap.size ∧ RdB8 w' (some ⟨g, 0, none⟩) n xs ∧ Below w.heap.size w w'
def NewY (w : World) (n : Nat) (xs : List Int) (e : Ending) (w' : World) : Prop := ∃ g, e = .returned (.slice (some ⟨g, 0, none⟩) n n) ∧ RdB8 w' (some ⟨g, 0, none⟩) n xs ∧ Below w.heap.size w w'

theorem infoB8 : (Try.prog.info? 5).map (fun i => (i.zero, i.size, i.bytes)) = some (some (.int .u8 0), 1, 1) := by kernel_rfl
theorem toByteS_fresh (A : Option Addr) (n c : Nat) (xs : List Int) (w : World) (h : RdB8 w A n xs) (hn : n ≤ 1048576) :
    Calls Try.prog 46 #[.slice A n c] w (NewFY w n xs) := by
  obtain ⟨i0, hi, hz0, hz1, hz2⟩ := info_parts infoB8
  obtain ⟨hl, hc⟩ := h
  have HC := Lib.hid hc
  have HL := Lib.hid hl
  clear hc hl
  go_enter Try.func46, Try.ntmps46
  go_wp2_with (at_make; refine wpList_make_full _ rfl _ _ 45 rfl w.heap.size 5 i0 (.int .u8 0) 1 Try.underlying45 hi hz0 hz1 .i64 .i64 _ _ n rfl rfl rfl rfl (by rw [hz2]; omega) (by unfold maxLen; omega) (Nat.le_refl _) ?_; intro w1 hown hg)
  obtain ⟨g, hgd⟩ : ∃ g, g = w.heap.size := ⟨_, rfl⟩
  rw [← hgd] at hown
  rw [← hgd]
  have hown0 : w1.ownsRow g 5 1 (.slice (some ⟨g, 0, none⟩) n n) n ((vals xs n 0).map (Value.int .u8)) := by
    rw [vals_zero]; simpa [toList_madeCells_one, Value.cells] using hown
  have hb0 : Below g w w1 := hgd ▸ (Below.refl w.heap.size w).grown hg (Nat.le_refl _) (fun k hk => by cases hk)
  have hsz : g < w1.heap.size := (hown0.lt g rfl).2
  have HG := Lib.hid hgd
  clear hown hg hgd
  go_loopw [4] (fun i wr => ∃ k : Nat, k ≤ n ∧ i = .int .i64 k ∧ wr.ownsRow g 5 1 (.slice (some ⟨g, 0, none⟩) n n) n ((vals xs n k).map (Value.int .u8)) ∧ Below g w wr) (fun i _ => n - (intOf i).toNat)
  case atStart => exact ⟨0, Nat.zero_le _, rfl, hown0, hb0⟩
  case round =>
    clear hown0 hb0 hsz
    obtain ⟨k, hk, rfl, hown, hb⟩ := hrel
    by_cases hlt : k < n
    · obtain ⟨b, off, rfl, hbl, hcell⟩ := HC.out (by omega)
      have hcx : wr.cell? ⟨b, off + k, none⟩ = some (.int .u8 (xs.getD k 0)) := (hb.cell (p := ⟨b, off + k, none⟩) (by rw [HG.out]; exact hbl)).trans (hcell k hlt)
      have hgx : wr.cell? ⟨g, k, none⟩ = some (.int .u8 ((vals xs n k).getD k 0)) := by
        rw [hown.cellAt k (by omega)]
        have hl : k < (vals xs n k).length := by simpa using (show k < ((vals xs n k).map (Value.int .u8)).length by rw [hown.1]; omega)
        simp [List.getD_eq_getElem?_getD, hl]
      have hfr := hown.frozenAt k
      have hst := (hown.stored k (.int .u8 (xs.getD k 0))).1
      rw [vals_map_setY xs n k HL.out hlt] at hst
      have HS := Lib.hid hst
      have HB := Lib.hid hb
      clear hst hcell hown hb
      go_wp2
      go_roundw
      case rel => exact ⟨k + 1, by omega, by go_num, HS.out, HB.out.setCell (Nat.le_refl _) _⟩
      case measure => simp [intOf]; omega
    · go_wp2
      go_ret
      obtain rfl : k = n := by omega
      rw [vals_all xs k HL.out] at hown
      exact ⟨g, rfl, Nat.le_of_eq HG.out.symm, (hown.lt g rfl).2, RdB8.of_own hown, HG.out ▸ hb⟩
theorem toByteS_any (A : Option Addr) (n c : Nat) (xs : List Int) (w : World) (h : RdB8 w A n xs) (hn : n ≤ 1048576) :
    Calls Try.prog 46 #[.slice A n c] w (NewY w n xs) :=
  (toByteS_fresh A n c xs w h hn).mono fun _ _ ⟨g, he, _, _, hr, hb⟩ => ⟨g, he, hr, hb⟩

/-- eqByteS of two slices that read as one list: true. -/
theorem eqByteS_same (A A2 : Option Addr) (n c c2 : Nat) (xs : List Int) (w : World) (h : RdB8 w A n xs) (h2 : RdB8 w A2 n xs) (hn : n ≤ 1048576) :
    Calls Try.prog 38 #[.slice A n c, .slice A2 n c2] w fun e w' => e = .returned (.bool true) ∧ ∃ m, w' = w.drewN m := by
  obtain ⟨hl, hc⟩ := h
  have HC := Lib.hid hc
  have HC2 := Lib.hid h2.2
  clear hc hl h2
  go_enter Try.func38, Try.ntmps38
  go_wp2
  go_loopw [5] (fun i wr => ∃ k : Nat, k ≤ n ∧ i = .int .i64 k ∧ ∃ m, wr = w.drewN m) (fun i _ => n - (intOf i).toNat)
  case atStart => exact ⟨0, Nat.zero_le _, rfl, 0, rfl⟩
  case round =>
    obtain ⟨k, hk, rfl, m, rfl⟩ := hrel
    by_cases hlt : k < n
    · obtain ⟨b, off, rfl, hbl, hcell⟩ := HC.out (by omega)
      obtain ⟨b2, off2, rfl, hbl2, hcell2⟩ := HC2.out (by omega)
      have hc1 := hcell k hlt
      have hc2 := hcell2 k hlt
      clear hcell hcell2
      have hi : (k : Int) < (n : Int) := by omega
      go_wp2
      go_quiet (fail)
      go_wp2
      go_roundw
      case rel => exact ⟨k + 1, by omega, by go_num, _, rfl⟩
      case measure => simp [intOf]; omega
    · go_wp2
      go_ret
      exact ⟨rfl, _, rfl⟩
/-- A slice that reads as xs, in a block at or behind B, none of its cells frozen. -/
def OwnY (B : Nat) (w : World) (A : Option Addr) (n : Nat) (xs : List Int) : Prop :=
  xs.length = n ∧ (0 < n → ∃ g, A = some ⟨g, 0, none⟩ ∧ B ≤ g ∧ g < w.heap.size ∧ ∀ j, j < n → w.cell? ⟨g, j, none⟩ = some (.int .u8 (xs.getD j 0)) ∧ w.frozen? ⟨g, j, none⟩ = false)
section
variable {B B' : Nat} {w w' : World} {A : Option Addr} {n : Nat} {xs : List Int}
theorem OwnY.rdI (h : OwnY B w A n xs) : RdB8 w A n xs := ⟨h.1, fun hn => by
  obtain ⟨g, e, _, hl, hc⟩ := h.2 hn
  exact ⟨g, 0, e, hl, fun j hj => by rw [Nat.zero_add]; exact (hc j hj).1⟩⟩
theorem OwnY.base (h : OwnY B w A n xs) (hB : B' ≤ B) : OwnY B' w A n xs := ⟨h.1, fun hn => by
  obtain ⟨g, e, hb, r⟩ := h.2 hn
  exact ⟨g, e, Nat.le_trans hB hb, r⟩⟩
theorem OwnY.of_below (h : OwnY B w A n xs) (hb : Below w.heap.size w w') : OwnY B w' A n xs := ⟨h.1, fun hn => by
  obtain ⟨g, e, hB, hl, hc⟩ := h.2 hn
  exact ⟨g, e, hB, Nat.lt_of_lt_of_le hl hb.size, fun j hj => ⟨(hb.cell (p := ⟨g, j, none⟩) hl).trans (hc j hj).1, (hb.frozen (p := ⟨g, j, none⟩) hl).trans (hc j hj).2⟩⟩⟩
theorem OwnY.far {g : Nat} (h : OwnY B w (some ⟨g, 0, none⟩) n xs) {p : Addr} (hp : g ≠ p.block) (u : Value) : OwnY B (w.setCell p u) (some ⟨g, 0, none⟩) n xs := ⟨h.1, fun hn => by
  obtain ⟨g', e, hB, hl, hc⟩ := h.2 hn
  cases e
  exact ⟨g, rfl, hB, by rw [World.size_setCell]; exact hl, fun j hj => ⟨(World.cell?_setCell_other _ _ _ _ (fun e => hp (by subst e; rfl))).trans (hc j hj).1, by rw [World.frozen?_setCell]; exact (hc j hj).2⟩⟩⟩
theorem OwnY.of_own {base c e : Nat} (h : w.ownsRow base e 1 (.slice A n c) n (xs.map (Value.int .u8))) : OwnY base w A n xs := by
  refine ⟨by simpa using h.1, fun hn => ?_⟩
  rcases h.2 with ⟨_, h0⟩ | ⟨g, cap, cur, hv, hb, hg, _⟩
  · omega
  · injection hv with hA _ hc
    subst hA hc
    refine ⟨g, rfl, hb, (Array.getElem?_eq_some_iff.1 hg).1, fun j hj => ⟨?_, h.frozenAt j⟩⟩
    have := h.cellAt j (by omega)
    have hl : j < xs.length := by have := h.1; simp at this; omega
    rw [this]; simp [List.getD_eq_getElem?_getD, hl]
end
theorem OwnY.grown {B n : Nat} {w w' : World} {A : Option Addr} {xs : List Int} (h : OwnY B w A n xs) {g0 : Nat} (hg : w.grownBy w' (some g0)) (hne : ∀ g, 0 < n → A = some ⟨g, 0, none⟩ → g ≠ g0) : OwnY B w' A n xs := ⟨h.1, fun hn => by
  obtain ⟨g, e, hB, hl, hc⟩ := h.2 hn
  have hb := hg.block g hl (fun e' => hne g hn e (by cases e'; rfl))
  exact ⟨g, e, hB, Nat.lt_of_lt_of_le hl hg.size, fun j hj => ⟨(World.cell?_of_block hb).trans (hc j hj).1, by rw [← (hc j hj).2]; simp [World.frozen?, hb]⟩⟩⟩
theorem RdB8.grown {B n g0 : Nat} {w w' : World} {A : Option Addr} {xs : List Int} (h : RdB8 w A n xs) (hg : w.grownBy w' (some g0)) (hB : B ≤ g0) (hl : ∀ b off, A = some ⟨b, off, none⟩ → b < B) : RdB8 w' A n xs := ⟨h.1, fun hn => by
  obtain ⟨b, off, e, hlt, hc⟩ := h.2 hn
  have hb := hg.block b hlt (fun e2 => by injection e2 with e2; have := hl b off e; omega)
  exact ⟨b, off, e, Nat.lt_of_lt_of_le hlt hg.size, fun j hj => (World.cell?_of_block hb).trans (hc j hj)⟩⟩
theorem OwnY.set {B n i g : Nat} {w : World} {xs : List Int} (h : OwnY B w (some ⟨g, 0, none⟩) n xs) (hi : i < n) (v : Int) : OwnY B (w.setCell ⟨g, i, none⟩ (.int .u8 v)) (some ⟨g, 0, none⟩) n (xs.set i v) := by
  refine ⟨by rw [List.length_set]; exact h.1, fun hn => ?_⟩
  obtain ⟨g', e, hB, hl, hc⟩ := h.2 hn
  cases e
  refine ⟨g, rfl, hB, by rw [World.size_setCell]; exact hl, fun j hj => ⟨?_, by rw [World.frozen?_setCell]; exact (hc j hj).2⟩⟩
  by_cases hij : j = i
  · subst hij
    rw [World.cell?_setCell_same' _ _ _ (by rw [(hc j hj).1]; rfl)]
    have := h.1
    simp [List.getD_eq_getElem?_getD, show j < xs.length by omega]
  · rw [World.cell?_setCell_other _ _ _ _ (fun e => hij (by injection e with _ e2; exact e2.symm))]
    rw [(hc j hj).1]
    simp [List.getD_eq_getElem?_getD, Ne.symm hij]
theorem growY_set (W : World) (b i : Nat) (v : Value) : W.grownBy (W.setCell ⟨b, i, none⟩ v) (some b) :=
  ⟨rfl, rfl, rfl, by rw [World.size_setCell]; exact Nat.le_refl _, fun k _ hk => Below.heap_setCell _ _ _ k (fun e => hk (by rw [e]))⟩
theorem growY_step {a b c : World} {row : Option Nat} (h : a.grownBy b row) (k : b.grownBy c row) : a.grownBy c row :=
  ⟨k.os.trans h.os, k.tape.trans h.tape, k.output.trans h.output, Nat.le_trans h.size k.size, fun i hi hne => (k.block i (Nat.lt_of_lt_of_le hi h.size) hne).trans (h.block i hi hne)⟩
theorem growY_refl (W : World) (row : Option Nat) : W.grownBy W row := ⟨rfl, rfl, rfl, Nat.le_refl _, fun _ _ _ => rfl⟩

/-- The bytes of the numbers from k on. -/
def upY (k : Int) (n : Nat) : List Int := (List.range n).map (fun j => (k + (j : Nat)) % 256)
theorem upY_get (k : Int) (n j : Nat) (hj : j < n) : (upY k n).getD j 0 = (k + (j : Nat)) % 256 := by simp [upY, List.getD_eq_getElem?_getD, hj]
theorem upY_len (k : Int) (n : Nat) : (upY k n).length = n := by simp [upY]
def partY (k : Int) (xs : List Int) (i : Nat) : List Int := upY k i ++ xs.drop i
theorem partY_zero (k : Int) (xs : List Int) : partY k xs 0 = xs := by simp [partY, upY]
theorem partY_all (k : Int) (xs : List Int) (n : Nat) (h : xs.length = n) : partY k xs n = upY k n := by simp [partY, ← h]
theorem partY_set (k : Int) (xs : List Int) (i : Nat) (h : i < xs.length) : (partY k xs i).set i ((k + (i : Nat)) % 256) = partY k xs (i + 1) := by
  have e1 : (upY k i).length = i := upY_len k i
  unfold partY
  rw [List.set_append_right _ _ (by omega), e1, Nat.sub_self, List.drop_eq_getElem_cons h, List.set_cons_zero]
  unfold upY
  rw [List.range_succ, List.map_append]
  simp

def MarkedY (W : World) (B : Nat) (A : Option Addr) (n : Nat) (k : Int) (g : Nat) (e : Ending) (W' : World) : Prop :=
  e = .returned (.int .i64 (k + (n : Nat))) ∧ OwnY B W' A n (upY k n) ∧ W.grownBy W' (some g)
theorem markByteS_own (A : Option Addr) (n p B g : Nat) (xs : List Int) (k : Int) (W : World) (hr : OwnY B W A n xs) (hA : 0 < n → A = some ⟨g, 0, none⟩) (hn : n ≤ 1048576) (hk : 0 ≤ k) (hk2 : k ≤ 2000000) :
    Calls Try.prog 41 #[.slice A n p, .int .i64 k] W (MarkedY W B A n k g) := by
  have hn1 : (n : Int) ≤ 1048576 := by omega
  have HL := Lib.hid hr.1
  have HA := Lib.hid hA
  have h0 := hr
  clear hr hA
  go_enter Try.func41, Try.ntmps41
  go_wp2
  go_loopw [1, 5] (fun q x wr => ∃ i : Nat, i ≤ n ∧ x = .int .i64 i ∧ q = .int .i64 (k + (i : Nat)) ∧ OwnY B wr A n (partY k xs i) ∧ W.grownBy wr (some g)) (fun _ x _ => n - (intOf x).toNat)
  case atStart => exact ⟨0, Nat.zero_le _, rfl, by simp, by rw [partY_zero]; exact h0, growY_refl _ _⟩
  case round =>
    clear h0
    obtain ⟨i, hi, rfl, rfl, ho, hg⟩ := hrel
    by_cases hlt : i < n
    · have hAg := HA.out (by omega)
      subst hAg
      have hc : wr.cell? ⟨g, i, none⟩ = some (.int .u8 ((partY k xs i).getD i 0)) ∧ wr.frozen? ⟨g, i, none⟩ = false := by
        obtain ⟨g', e, _, _, hcc⟩ := ho.2 (by omega)
        cases e
        exact hcc i hlt
      obtain ⟨hc1, hf1⟩ := hc
      have hi2 : (i : Int) < (n : Int) := by omega
      have HO := Lib.hid (ho.set hlt ((k + (i : Nat)) % 256))
      have HG := Lib.hid (growY_step hg (growY_set wr g i (.int .u8 ((k + (i : Nat)) % 256))))
      clear ho hg
      go_wp2
      go_roundw
      case rel => exact ⟨i + 1, by omega, by go_num, by go_num, by rw [← partY_set k xs i (by have := HL.out; omega)]; exact HO.out, HG.out⟩
      case measure => simp [intOf]; omega
    · obtain rfl : i = n := by omega
      rw [partY_all k xs i HL.out] at ho
      have HO := Lib.hid ho
      have HG := Lib.hid hg
      clear ho hg
      go_wp2
      go_ret
      exact ⟨rfl, HO.out, HG.out⟩

theorem heldByteS_own (A : Option Addr) (n p B : Nat) (k : Int) (W : World) (hr : OwnY B W A n (upY k n)) (hn : n ≤ 1048576) (hk : 0 ≤ k) (hk2 : k ≤ 2000000) :
    Calls Try.prog 42 #[.slice A n p, .int .i64 k] W fun e W' => e = .returned (.int .i64 (k + (n : Nat))) ∧ Below W.heap.size W W' := by
  have hn1 : (n : Int) ≤ 1048576 := by omega
  have HO := Lib.hid hr
  clear hr
  go_enter Try.func42, Try.ntmps42
  go_wp2
  go_loopw [1, 5] (fun q x wr => ∃ i : Nat, i ≤ n ∧ x = .int .i64 i ∧ q = .int .i64 (k + (i : Nat)) ∧ ∃ m, wr = W.drewN m) (fun _ x _ => n - (intOf x).toNat)
  case atStart => exact ⟨0, Nat.zero_le _, rfl, by simp, 0, rfl⟩
  case round =>
    obtain ⟨i, hi, rfl, rfl, m, rfl⟩ := hrel
    by_cases hlt : i < n
    · obtain ⟨g, rfl, _, _, hcc⟩ := HO.out.2 (by omega)
      have hc1 := (hcc i hlt).1
      rw [upY_get k n i hlt] at hc1
      have hi2 : (i : Int) < (n : Int) := by omega
      clear hcc
      go_wp2
      try (go_quiet (fail); go_wp2)
      go_round
      case rel => exact ⟨i + 1, by omega, by go_num, by go_num, _, rfl⟩
      case measure => simp [intOf]; omega
    · obtain rfl : i = n := by omega
      go_wp2
      go_ret
      exact ⟨rfl, below_drewN (Below.refl _ _) _⟩
end Qt
end Go.Proofs.Ytalkoaahhkafaaa
