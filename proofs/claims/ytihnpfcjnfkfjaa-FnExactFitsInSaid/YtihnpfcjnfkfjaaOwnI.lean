/- Slices of ints of the call's own that may be written: what the laws' helpers toIntS, markIntS and heldIntS give. Conditions: the slice reads as the list that is named. -/
import Derived.Test.YtihnpfcjnfkfjaaBlk
import Derived.Test.YtihnpfcjnfkfjaaKept
import Derived.OwnWalk
import Derived.Outline
namespace Go.Proofs.Ytihnpfcjnfkfjaa
open Go.RowKit
namespace Qt

/-- A slice that reads as xs, in a block at or behind B, none of its cells frozen. -/
def OwnI (B : Nat) (w : World) (A : Option Addr) (n : Nat) (xs : List Int) : Prop :=
  xs.length = n ∧ (0 < n → ∃ g, A = some ⟨g, 0, none⟩ ∧ B ≤ g ∧ g < w.heap.size ∧ ∀ j, j < n → w.cell? ⟨g, j, none⟩ = some (.int .i64 (xs.getD j 0)) ∧ w.frozen? ⟨g, j, none⟩ = false)
section
variable {B B' : Nat} {w w' : World} {A : Option Addr} {n : Nat} {xs : List Int}
theorem OwnI.rdI (h : OwnI B w A n xs) : RdI w A n xs := ⟨h.1, fun hn => by
  obtain ⟨g, e, _, hl, hc⟩ := h.2 hn
  exact ⟨g, 0, e, hl, fun j hj => by rw [Nat.zero_add]; exact (hc j hj).1⟩⟩
theorem OwnI.base (h : OwnI B w A n xs) (hB : B' ≤ B) : OwnI B' w A n xs := ⟨h.1, fun hn => by
  obtain ⟨g, e, hb, r⟩ := h.2 hn
  exact ⟨g, e, Nat.le_trans hB hb, r⟩⟩
theorem OwnI.of_below (h : OwnI B w A n xs) (hb : Below w.heap.size w w') : OwnI B w' A n xs := ⟨h.1, fun hn => by
  obtain ⟨g, e, hB, hl, hc⟩ := h.2 hn
  exact ⟨g, e, hB, Nat.lt_of_lt_of_le hl hb.size, fun j hj => ⟨(hb.cell (p := ⟨g, j, none⟩) hl).trans (hc j hj).1, (hb.frozen (p := ⟨g, j, none⟩) hl).trans (hc j hj).2⟩⟩⟩
theorem OwnI.far {g : Nat} (h : OwnI B w (some ⟨g, 0, none⟩) n xs) {p : Addr} (hp : g ≠ p.block) (u : Value) : OwnI B (w.setCell p u) (some ⟨g, 0, none⟩) n xs := ⟨h.1, fun hn => by
  obtain ⟨g', e, hB, hl, hc⟩ := h.2 hn
  cases e
  exact ⟨g, rfl, hB, by rw [World.size_setCell]; exact hl, fun j hj => ⟨(World.cell?_setCell_other _ _ _ _ (fun e => hp (by subst e; rfl))).trans (hc j hj).1, by rw [World.frozen?_setCell]; exact (hc j hj).2⟩⟩⟩
theorem OwnI.far4 {g : Nat} (h : OwnI B w (some ⟨g, 0, none⟩) n xs) {b : Nat} (hb : g ≠ b) (x y z u : Value) : OwnI B ((((w.setCell ⟨b, 0, none⟩ x).setCell ⟨b, 1, none⟩ y).setCell ⟨b, 2, none⟩ z).setCell ⟨b, 3, none⟩ u) (some ⟨g, 0, none⟩) n xs :=
  (((h.far (p := ⟨b, 0, none⟩) hb x).far (p := ⟨b, 1, none⟩) hb y).far (p := ⟨b, 2, none⟩) hb z).far (p := ⟨b, 3, none⟩) hb u
theorem OwnI.of_own {base c e : Nat} (h : w.ownsRow base e 1 (.slice A n c) n (xs.map (Value.int .i64))) : OwnI base w A n xs := by
  refine ⟨by simpa using h.1, fun hn => ?_⟩
  rcases h.2 with ⟨_, h0⟩ | ⟨g, cap, cur, hv, hb, hg, _⟩
  · omega
  · injection hv with hA _ hc
    subst hA hc
    refine ⟨g, rfl, hb, (Array.getElem?_eq_some_iff.1 hg).1, fun j hj => ⟨?_, h.frozenAt j⟩⟩
    have := h.cellAt j (by omega)
    have hl : j < xs.length := by have := h.1; simp at this; omega
    rw [this]; simp [List.getD_eq_getElem?_getD, hl]
theorem OwnI.grown (h : OwnI B w A n xs) {g0 : Nat} (hg : w.grownBy w' (some g0)) (hne : ∀ g, 0 < n → A = some ⟨g, 0, none⟩ → g ≠ g0) : OwnI B w' A n xs := ⟨h.1, fun hn => by
  obtain ⟨g, e, hB, hl, hc⟩ := h.2 hn
  have hb := hg.block g hl (fun e' => hne g hn e (by cases e'; rfl))
  exact ⟨g, e, hB, Nat.lt_of_lt_of_le hl hg.size, fun j hj => ⟨(World.cell?_of_block hb).trans (hc j hj).1, by rw [← (hc j hj).2]; simp [World.frozen?, hb]⟩⟩⟩
end

def NewO (w : World) (n : Nat) (xs : List Int) (e : Ending) (w' : World) : Prop := ∃ g, e = .returned (.slice (some ⟨g, 0, none⟩) n n) ∧ w.heap.size ≤ g ∧ g < w'.heap.size ∧ OwnI w.heap.size w' (some ⟨g, 0, none⟩) n xs ∧ Below w.heap.size w w'
theorem toIntS_own (A : Option Addr) (n c : Nat) (xs : List Int) (w : World) (h : RdI w A n xs) (hn : n ≤ 1048576) :
    Calls Try.prog 43 #[.slice A n c] w (NewO w n xs) := by
  obtain ⟨i0, hi, hz0, hz1, hz2⟩ := info_parts info3
  obtain ⟨hl, hc⟩ := h
  have HC := Lib.hid hc
  have HL := Lib.hid hl
  clear hc hl
  go_enter Try.func43, Try.ntmps43
  go_wp2_with (at_make; refine wpList_make_full _ rfl _ _ 35 rfl w.heap.size 3 i0 (.int .i64 0) 1 Try.underlying35 hi hz0 hz1 .i64 .i64 _ _ n rfl rfl rfl rfl (by rw [hz2]; omega) (by unfold maxLen; omega) (Nat.le_refl _) ?_; intro w1 hown hg)
  obtain ⟨g, hgd⟩ : ∃ g, g = w.heap.size := ⟨_, rfl⟩
  rw [← hgd] at hown
  rw [← hgd]
  have hown0 : w1.ownsRow g 3 1 (.slice (some ⟨g, 0, none⟩) n n) n ((vals xs n 0).map (Value.int .i64)) := by
    rw [vals_zero]; simpa [toList_madeCells_one, Value.cells] using hown
  have hb0 : Below g w w1 := hgd ▸ (Below.refl w.heap.size w).grown hg (Nat.le_refl _) (fun k hk => by cases hk)
  have hsz : g < w1.heap.size := (hown0.lt g rfl).2
  have HG := Lib.hid hgd
  clear hown hg hgd
  go_loopw [4] (fun i wr => ∃ k : Nat, k ≤ n ∧ i = .int .i64 k ∧ wr.ownsRow g 3 1 (.slice (some ⟨g, 0, none⟩) n n) n ((vals xs n k).map (Value.int .i64)) ∧ Below g w wr) (fun i _ => n - (intOf i).toNat)
  case atStart => exact ⟨0, Nat.zero_le _, rfl, hown0, hb0⟩
  case round =>
    clear hown0 hb0 hsz
    obtain ⟨k, hk, rfl, hown, hb⟩ := hrel
    by_cases hlt : k < n
    · obtain ⟨b, off, rfl, hbl, hcell⟩ := HC.out (by omega)
      have hcx : wr.cell? ⟨b, off + k, none⟩ = some (.int .i64 (xs.getD k 0)) := (hb.cell (p := ⟨b, off + k, none⟩) (by rw [HG.out]; exact hbl)).trans (hcell k hlt)
      have hgx : wr.cell? ⟨g, k, none⟩ = some (.int .i64 ((vals xs n k).getD k 0)) := by
        rw [hown.cellAt k (by omega)]
        have hl : k < (vals xs n k).length := by simpa using (show k < ((vals xs n k).map (Value.int .i64)).length by rw [hown.1]; omega)
        simp [List.getD_eq_getElem?_getD, hl]
      have hfr := hown.frozenAt k
      have hst := (hown.stored k (.int .i64 (xs.getD k 0))).1
      rw [vals_map_set xs n k HL.out hlt] at hst
      have HS := Lib.hid hst
      have HB := Lib.hid hb
      clear hst hcell hown hb
      go_wp2
      go_roundw
      case rel => exact ⟨k + 1, by omega, by go_num, HS.out, HB.out.setCell (Nat.le_refl _) _⟩
      case measure => simp [intOf]; omega
    · go_wp2
      go_ret
      obtain rfl : k = n := by omega
      rw [vals_all xs k HL.out] at hown
      exact ⟨g, rfl, Nat.le_of_eq HG.out.symm, (hown.lt g rfl).2, HG.out ▸ OwnI.of_own hown, HG.out ▸ hb⟩

/-- The numbers from k on. -/
def upFrom (k : Int) (n : Nat) : List Int := (List.range n).map (fun j => k + (j : Nat))
theorem upFrom_get (k : Int) (n j : Nat) (hj : j < n) : (upFrom k n).getD j 0 = k + (j : Nat) := by simp [upFrom, List.getD_eq_getElem?_getD, hj]
theorem upFrom_len (k : Int) (n : Nat) : (upFrom k n).length = n := by simp [upFrom]

theorem grown_set (W : World) (b i : Nat) (v : Value) : W.grownBy (W.setCell ⟨b, i, none⟩ v) (some b) :=
  ⟨rfl, rfl, rfl, by rw [World.size_setCell]; exact Nat.le_refl _, fun k _ hk => Below.heap_setCell _ _ _ k (fun e => hk (by rw [e]))⟩
theorem grown_step {a b c : World} {row : Option Nat} (h : a.grownBy b row) (k : b.grownBy c row) : a.grownBy c row :=
  ⟨k.os.trans h.os, k.tape.trans h.tape, k.output.trans h.output, Nat.le_trans h.size k.size, fun i hi hne => (k.block i (Nat.lt_of_lt_of_le hi h.size) hne).trans (h.block i hi hne)⟩
theorem grown_refl (W : World) (row : Option Nat) : W.grownBy W row := ⟨rfl, rfl, rfl, Nat.le_refl _, fun _ _ _ => rfl⟩
theorem OwnI.set {B n i g : Nat} {w : World} {xs : List Int} (h : OwnI B w (some ⟨g, 0, none⟩) n xs) (hi : i < n) (v : Int) : OwnI B (w.setCell ⟨g, i, none⟩ (.int .i64 v)) (some ⟨g, 0, none⟩) n (xs.set i v) := by
  refine ⟨by rw [List.length_set]; exact h.1, fun hn => ?_⟩
  obtain ⟨g', e, hB, hl, hc⟩ := h.2 hn
  cases e
  refine ⟨g, rfl, hB, by rw [World.size_setCell]; exact hl, fun j hj => ⟨?_, by rw [World.frozen?_setCell]; exact (hc j hj).2⟩⟩
  by_cases hij : j = i
  · subst hij
    rw [World.cell?_setCell_same' _ _ _ (by rw [(hc j hj).1]; rfl)]
    have := h.1
    simp [List.getD_eq_getElem?_getD, show j < xs.length by omega]
  · rw [World.cell?_setCell_other _ _ _ _ (fun e => hij (by injection e with _ e2; exact e2.symm))]
    rw [(hc j hj).1]
    simp [List.getD_eq_getElem?_getD, Ne.symm hij]
/-- Marked up to i. -/
def part (k : Int) (xs : List Int) (i : Nat) : List Int := upFrom k i ++ xs.drop i
theorem part_zero (k : Int) (xs : List Int) : part k xs 0 = xs := by simp [part, upFrom]
theorem part_all (k : Int) (xs : List Int) (n : Nat) (h : xs.length = n) : part k xs n = upFrom k n := by simp [part, ← h]
theorem part_set (k : Int) (xs : List Int) (i : Nat) (h : i < xs.length) : (part k xs i).set i (k + (i : Nat)) = part k xs (i + 1) := by
  have e1 : (upFrom k i).length = i := upFrom_len k i
  unfold part
  rw [List.set_append_right _ _ (by omega), e1, Nat.sub_self, List.drop_eq_getElem_cons h, List.set_cons_zero]
  unfold upFrom
  rw [List.range_succ, List.map_append]
  simp

def Marked (W : World) (B : Nat) (A : Option Addr) (n : Nat) (k : Int) (g : Nat) (e : Ending) (W' : World) : Prop :=
  e = .returned (.int .i64 (k + (n : Nat))) ∧ OwnI B W' A n (upFrom k n) ∧ W.grownBy W' (some g)
theorem markIntS_own (A : Option Addr) (n p B g : Nat) (xs : List Int) (k : Int) (W : World) (hr : OwnI B W A n xs) (hA : 0 < n → A = some ⟨g, 0, none⟩) (hn : n ≤ 1048576) (hk : 0 ≤ k) (hk2 : k ≤ 2000000) :
    Calls Try.prog 25 #[.slice A n p, .int .i64 k] W (Marked W B A n k g) := by
  have hn1 : (n : Int) ≤ 1048576 := by omega
  have HL := Lib.hid hr.1
  have HA := Lib.hid hA
  have h0 := hr
  clear hr hA
  go_enter Try.func25, Try.ntmps25
  go_wp2
  go_loopw [1, 5] (fun q x wr => ∃ i : Nat, i ≤ n ∧ x = .int .i64 i ∧ q = .int .i64 (k + (i : Nat)) ∧ OwnI B wr A n (part k xs i) ∧ W.grownBy wr (some g)) (fun _ x _ => n - (intOf x).toNat)
  case atStart => exact ⟨0, Nat.zero_le _, rfl, by simp, by rw [part_zero]; exact h0, grown_refl _ _⟩
  case round =>
    clear h0
    obtain ⟨i, hi, rfl, rfl, ho, hg⟩ := hrel
    by_cases hlt : i < n
    · have hAg := HA.out (by omega)
      subst hAg
      have hc : wr.cell? ⟨g, i, none⟩ = some (.int .i64 ((part k xs i).getD i 0)) ∧ wr.frozen? ⟨g, i, none⟩ = false := by
        obtain ⟨g', e, _, _, hcc⟩ := ho.2 (by omega)
        cases e
        exact hcc i hlt
      obtain ⟨hc1, hf1⟩ := hc
      have hi2 : (i : Int) < (n : Int) := by omega
      have HO := Lib.hid (ho.set hlt (k + (i : Nat)))
      have HG := Lib.hid (grown_step hg (grown_set wr g i (.int .i64 (k + (i : Nat)))))
      clear ho hg
      go_wp2
      go_roundw
      case rel => exact ⟨i + 1, by omega, by go_num, by go_num, by rw [← part_set k xs i (by have := HL.out; omega)]; exact HO.out, HG.out⟩
      case measure => simp [intOf]; omega
    · obtain rfl : i = n := by omega
      rw [part_all k xs i HL.out] at ho
      have HO := Lib.hid ho
      have HG := Lib.hid hg
      clear ho hg
      go_wp2
      go_ret
      exact ⟨rfl, HO.out, HG.out⟩

theorem heldIntS_own (A : Option Addr) (n p B : Nat) (k : Int) (W : World) (hr : OwnI B W A n (upFrom k n)) (hn : n ≤ 1048576) (hk : 0 ≤ k) (hk2 : k ≤ 2000000) :
    Calls Try.prog 26 #[.slice A n p, .int .i64 k] W fun e W' => e = .returned (.int .i64 (k + (n : Nat))) ∧ Below W.heap.size W W' := by
  have hn1 : (n : Int) ≤ 1048576 := by omega
  have HO := Lib.hid hr
  clear hr
  go_enter Try.func26, Try.ntmps26
  go_wp2
  go_loopw [1, 5] (fun q x wr => ∃ i : Nat, i ≤ n ∧ x = .int .i64 i ∧ q = .int .i64 (k + (i : Nat)) ∧ ∃ m, wr = W.drewN m) (fun _ x _ => n - (intOf x).toNat)
  case atStart => exact ⟨0, Nat.zero_le _, rfl, by simp, 0, rfl⟩
  case round =>
    obtain ⟨i, hi, rfl, rfl, m, rfl⟩ := hrel
    by_cases hlt : i < n
    · obtain ⟨g, rfl, _, _, hcc⟩ := HO.out.2 (by omega)
      have hc1 := (hcc i hlt).1
      rw [upFrom_get k n i hlt] at hc1
      have hi2 : (i : Int) < (n : Int) := by omega
      clear hcc
      go_wp2
      try (go_quiet (fail); go_wp2)
      go_round
      case rel => exact ⟨i + 1, by omega, by go_num, by go_num, _, rfl⟩
      case measure => simp [intOf]; omega
    · obtain rfl : i = n := by omega
      go_wp2
      go_ret
      exact ⟨rfl, below_drewN (Below.refl _ _) _⟩

end Qt
end Go.Proofs.Ytihnpfcjnfkfjaa
