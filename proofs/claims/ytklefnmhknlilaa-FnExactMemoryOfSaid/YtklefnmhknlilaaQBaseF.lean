/- What the laws over one model whose answer is a list keep of the worlds that they go through. Conditions: the slice of layers reads as the list that is named. -/
import Derived.Test.YtklefnmhknlilaaQBaseD
import Derived.Test.YtklefnmhknlilaaQBaseB
import Derived.Deep.RegionHeld3
import Derived.Deep.DeepCutAuto
import Derived.Outline
import Derived.Test.YtklefnmhknlilaaQBaseE
namespace Go.Proofs.Ytklefnmhknlilaa
open Go.RowKit Go.Sort
set_option linter.unusedSimpArgs false
set_option linter.unusedVariables false
namespace Qt
/-- The model that came in, the model's answer, and a copy of the model in a block of its own; the copy's other blocks are B .. C - 1. -/
structure LW (W : World) (h w c : Int) (A : Option Addr) (n p B C : Nat) (A0 : Option Addr) (m : Nat) (xs : List Int) (gx : Nat) (u : World) : Prop where
  b : Below W.heap.size W u
  bm : Bk u W.heap.size 26 #[.int .i64 h, .int .i64 w, .int .i64 c, .slice A n p]
  o : OwnI 0 u A0 m xs
  ob : ∀ a, 0 < m → A0 = some a → a.block < B
  x : Bk u C 32 #[.int .i64 h, .int .i64 w, .int .i64 c, .slice (some ⟨gx, 0, none⟩) n n]
  l1 : W.heap.size < B
  l2 : B ≤ C
section
variable {W : World} {h w c : Int} {A : Option Addr} {n p B C : Nat} {A0 : Option Addr} {m : Nat} {xs : List Int} {gx : Nat} {u u' : World}
theorem LW.below (hL : Hid (LW W h w c A n p B C A0 m xs gx u)) (hb : Below u.heap.size u u') : Hid (LW W h w c A n p B C A0 m xs gx u') :=
  Lib.hid ⟨hL.out.b.trans (hb.mono hL.out.b.size), hL.out.bm.below hb, hL.out.o.of_below hb, hL.out.ob, hL.out.x.below hb, hL.out.l1, hL.out.l2⟩
theorem LW.drew (hL : Hid (LW W h w c A n p B C A0 m xs gx u)) : Hid (LW W h w c A n p B C A0 m xs gx u.drew) := LW.below hL (Below.refl _ u).drew
theorem LW.touch (hL : Hid (LW W h w c A n p B C A0 m xs gx u)) (ht : Touch B C u u') : Hid (LW W h w c A n p B C A0 m xs gx u') := by
  have l1 := hL.out.l1
  have l2 := hL.out.l2
  have hs := hL.out.x.lt
  exact Lib.hid ⟨hL.out.b.trans ((ht.isBelow (by omega)).mono (by omega)), ht.bk hL.out.bm (by omega), ht.ownI hL.out.o (fun a hm he => .inl (hL.out.ob a hm he)), hL.out.ob, ht.bk hL.out.x (by omega), l1, l2⟩
theorem LW.grown (hL : Hid (LW W h w c A n p B C A0 m xs gx u)) {g : Nat} (hg : u.grownBy u' (some g)) (hC : C < g) : Hid (LW W h w c A n p B C A0 m xs gx u') := by
  have l1 := hL.out.l1
  have l2 := hL.out.l2
  exact Lib.hid ⟨hL.out.b.grown hg hL.out.b.size (fun r hr => by cases hr; omega), hL.out.bm.grown hg (fun e => by cases e; omega), hL.out.o.grown hg (fun q hm he => by have := hL.out.ob _ hm he; simp only at this; omega), hL.out.ob, hL.out.x.grown hg (fun e => by cases e; omega), l1, l2⟩
theorem LW.cells (hL : Hid (LW W h w c A n p B C A0 m xs gx u)) : u.cell? ⟨C, 0, none⟩ = some (.int .i64 h) ∧ u.cell? ⟨C, 1, none⟩ = some (.int .i64 w) ∧ u.cell? ⟨C, 2, none⟩ = some (.int .i64 c) ∧ u.cell? ⟨C, 3, none⟩ = some (.slice (some ⟨gx, 0, none⟩) n n) ∧ u.cell? ⟨W.heap.size, 0, none⟩ = some (.int .i64 h) ∧ u.cell? ⟨W.heap.size, 1, none⟩ = some (.int .i64 w) ∧ u.cell? ⟨W.heap.size, 2, none⟩ = some (.int .i64 c) ∧ u.cell? ⟨W.heap.size, 3, none⟩ = some (.slice A n p) := by
  obtain ⟨a0, a1, a2, a3⟩ := hL.out.x.cell4
  obtain ⟨b0, b1, b2, b3⟩ := hL.out.bm.cell4
  exact ⟨a0, a1, a2, a3, b0, b1, b2, b3⟩
theorem OwnI.blk {B n : Nat} {w : World} {A : Option Addr} {xs : List Int} (h : OwnI B w A n xs) : ∀ a, 0 < n → A = some a → B ≤ a.block ∧ a.block < w.heap.size := fun a hn e => by
  obtain ⟨g, e', hB, hl, _⟩ := h.2 hn
  rw [e] at e'; cases e'
  exact ⟨hB, hl⟩
theorem OwnI.touch {B C base n : Nat} {w w' : World} {A : Option Addr} {xs : List Int} (h : OwnI base w A n xs) (ht : Touch B C w w') (hC : C ≤ base) : OwnI base w' A n xs := ht.ownI h (fun a hn e => .inr (by have := (h.blk a hn e).1; omega))
end
end Qt
end Go.Proofs.Ytklefnmhknlilaa

namespace Go.Proofs.Ytklefnmhknlilaa
open Go.RowKit Go.Sort
set_option linter.unusedSimpArgs false
set_option linter.unusedVariables false
namespace Qt
/-- A slice that lies in a block at or behind B, none of its cells frozen, and holds these values one behind the other. -/
def OwnV (B : Nat) (w : World) (A : Option Addr) (cs : List Value) : Prop :=
  0 < cs.length → ∃ g, A = some ⟨g, 0, none⟩ ∧ B ≤ g ∧ g < w.heap.size ∧ ∀ j v, cs[j]? = some v → w.cell? ⟨g, j, none⟩ = some v ∧ w.frozen? ⟨g, j, none⟩ = false
section
variable {B C b0 : Nat} {w w' : World} {A : Option Addr} {cs : List Value}
theorem OwnV.of_below (h : OwnV B w A cs) (hb : Below w.heap.size w w') : OwnV B w' A cs := fun hn => by
  obtain ⟨g, e, hB, hl, hc⟩ := h hn
  exact ⟨g, e, hB, Nat.lt_of_lt_of_le hl hb.size, fun j v hj => ⟨(hb.cell (p := ⟨g, j, none⟩) hl).trans (hc j v hj).1, (hb.frozen (p := ⟨g, j, none⟩) hl).trans (hc j v hj).2⟩⟩
theorem OwnV.base {B' : Nat} (h : OwnV B w A cs) (hB : B' ≤ B) : OwnV B' w A cs := fun hn => by
  obtain ⟨g, e, hb, r⟩ := h hn
  exact ⟨g, e, Nat.le_trans hB hb, r⟩
theorem OwnV.blk (h : OwnV B w A cs) : ∀ a, 0 < cs.length → A = some a → B ≤ a.block ∧ a.block < w.heap.size := fun a hn e => by
  obtain ⟨g, e', hB, hl, _⟩ := h hn
  rw [e] at e'; cases e'
  exact ⟨hB, hl⟩
theorem OwnV.grown (h : OwnV B w A cs) {g0 : Nat} (hg : w.grownBy w' (some g0)) (hne : ∀ g, 0 < cs.length → A = some ⟨g, 0, none⟩ → g ≠ g0) : OwnV B w' A cs := fun hn => by
  obtain ⟨g, e, hB, hl, hc⟩ := h hn
  have hb := hg.block g hl (fun e' => hne g hn e (by cases e'; rfl))
  exact ⟨g, e, hB, Nat.lt_of_lt_of_le hl hg.size, fun j v hj => ⟨(World.cell?_of_block hb).trans (hc j v hj).1, by rw [← (hc j v hj).2]; simp [World.frozen?, hb]⟩⟩
theorem Touch.ownV (h : Touch B C w w') (ho : OwnV b0 w A cs) (hg : ∀ a, 0 < cs.length → A = some a → a.block < B ∨ C ≤ a.block) : OwnV b0 w' A cs := fun hn => by
  obtain ⟨g, e, hB, hl, hc⟩ := ho hn
  have hb := h.block g hl (hg _ hn e)
  exact ⟨g, e, hB, Nat.lt_of_lt_of_le hl h.size, fun j v hj => ⟨(World.cell?_of_block hb).trans (hc j v hj).1, by rw [← (hc j v hj).2]; simp [World.frozen?, hb]⟩⟩
theorem OwnV.touch (h : OwnV b0 w A cs) (ht : Touch B C w w') (hC : C ≤ b0) : OwnV b0 w' A cs := ht.ownV h (fun a hn e => .inr (by have := (h.blk a hn e).1; omega))
theorem OwnV.of_own {e size n : Nat} {c : Nat} (h : w.ownsRow B e size (.slice A n c) n cs) (hs : 0 < size) : OwnV B w A cs := fun hn => by
  rcases h.2 with ⟨_, h0⟩ | ⟨g, cap, cur, hv, hb, hg, _⟩
  · have := h.1; rw [h0] at this; omega
  · injection hv with hA _ hc
    subst hA hc
    exact ⟨g, rfl, hb, (Array.getElem?_eq_some_iff.1 hg).1, fun j v hj => ⟨(h.cellAt j (by have := h.1; have := (List.getElem?_eq_some_iff.1 hj).1; omega)).trans hj, h.frozenAt j⟩⟩
end
theorem shC_none {x : List Sh} {j : Nat} (h : j < x.length) : ∃ a b c, x[j]? = some (a, b, c) := by
  obtain ⟨e, he⟩ : ∃ e, x[j]? = some e := ⟨_, List.getElem?_eq_getElem h⟩
  obtain ⟨a, b, c⟩ := e
  exact ⟨a, b, c, he⟩
set_option maxRecDepth 10000 in
theorem eqShapeS_same (A A2 : Option Addr) (n p p2 B B2 : Nat) (ss : List Sh) (W : World) (hl : ss.length = n) (hr : OwnV B W A (shC ss)) (hr2 : OwnV B2 W A2 (shC ss)) (hn : n ≤ 1048576) :
    Calls Try.prog 19 #[.slice A n p, .slice A2 n p2] W fun e W' => e = .returned (.bool true) ∧ Below W.heap.size W W' := by
  have HL := Lib.hid hl
  have HR := Lib.hid hr
  have HR2 := Lib.hid hr2
  have hn1 : (n : Int) ≤ 1048576 := by omega
  have hlc := shC_length ss
  have HLC := Lib.hid hlc
  clear hr hr2 hn hl hlc
  go_enter Try.func19, Try.ntmps19
  go_wp2_with fail
  go_loopw [5] (fun i wr => ∃ k : Nat, k ≤ n ∧ i = .int .i64 k ∧ Below W.heap.size W wr) (fun i _ => n - (intOf i).toNat)
  case atStart => exact ⟨0, Nat.zero_le _, rfl, Below.refl _ _⟩
  case round =>
    obtain ⟨k, hk, rfl, hb⟩ := hrel
    have HB := Lib.hid hb
    clear hb
    by_cases hlt : k < n
    · obtain ⟨x, y, v, hss⟩ := shC_none (x := ss) (j := k) (by rw [HL.out]; exact hlt)
      obtain ⟨q0, q1, q2⟩ := shC_at hss
      have hpos : 0 < (shC ss).length := by rw [HLC.out, HL.out]; omega
      obtain ⟨g, rfl, _, _, hc⟩ := (HR.out.of_below HB.out) hpos
      obtain ⟨g2, rfl, _, _, hc2⟩ := (HR2.out.of_below HB.out) hpos
      have c0 := cell_regrown (hc _ _ q0).1
      have c1 := cell_regrown (hc _ _ q1).1
      have c2 := cell_regrown (hc _ _ q2).1
      have d0 := cell_regrown (hc2 _ _ q0).1
      have d1 := cell_regrown (hc2 _ _ q1).1
      have d2 := cell_regrown (hc2 _ _ q2).1
      clear hc hc2 q0 q1 q2 hss hpos
      have hi : (k : Int) < (n : Int) := by omega
      go_wp2_with fail
      have q0 := Lib.hid (fun dd os => Calls.regrown_of (eqShape_same x y v (grow (redrawn wr dd) os)))
      refine wp_region_quiet_below mixed (by kernel_rfl) ?_
      repeat (go_big_quiet_step (first | with_reducible exact q0.out _ _))
      refine wpQuiet_nil ?_
      intro _ hw'
      obtain ⟨⟨dq, osq⟩, rfl⟩ := hw'
      have HB2 := Lib.hid (HB.out.trans ((below_regrown wr dq osq).mono HB.out.size))
      clear c0 c1 c2 d0 d1 d2 q0
      generalize grow (redrawn wr dq) osq = u9 at HB2 ⊢
      go_wp2_with fail
      go_roundw
      case rel => exact ⟨k + 1, by omega, by go_num, HB2.out⟩
      case measure => simp [intOf]; omega
    · obtain rfl : k = n := by omega
      go_wp2_with fail
      go_ret
      exact ⟨rfl, HB.out⟩
/-- The numbers from k on, as values. -/
def upV (k : Int) (n : Nat) : List Value := (List.range n).map fun (i : Nat) => Value.int .i64 (k + (i : Nat))
theorem upV_len (k : Int) (n : Nat) : (upV k n).length = n := by simp [upV]
theorem upV_at {k : Int} {n j : Nat} (h : j < n) : (upV k n)[j]? = some (.int .i64 (k + (j : Nat))) := by simp [upV, h]
def partV (k : Int) (cs : List Value) (i : Nat) : List Value := upV k i ++ cs.drop i
theorem partV_len {k : Int} {cs : List Value} {i : Nat} (h : i ≤ cs.length) : (partV k cs i).length = cs.length := by simp [partV, upV_len]; omega
theorem partV_set {k : Int} {cs : List Value} {i : Nat} (h : i < cs.length) : (partV k cs i).set i (.int .i64 (k + (i : Nat))) = partV k cs (i + 1) := by
  unfold partV
  rw [List.set_append_right _ _ (by rw [upV_len]; exact Nat.le_refl _), upV_len, Nat.sub_self, List.drop_eq_getElem_cons h, List.set_cons_zero]
  simp [upV, List.range_succ]
theorem partV_all {k : Int} {cs : List Value} : partV k cs cs.length = upV k cs.length := by simp [partV]
theorem OwnV.set {B : Nat} {w : World} {g i : Nat} {cs : List Value} (h : OwnV B w (some ⟨g, 0, none⟩) cs) (hi : i < cs.length) (u : Value) : OwnV B (w.setCell ⟨g, i, none⟩ u) (some ⟨g, 0, none⟩) (cs.set i u) := fun hn => by
  obtain ⟨g', e, hB, hl, hc⟩ := h (by omega)
  cases e
  refine ⟨g, rfl, hB, by rw [World.size_setCell]; exact hl, fun j v hj => ?_⟩
  have hjl : j < cs.length := by have := (List.getElem?_eq_some_iff.1 hj).1; simpa using this
  refine ⟨?_, by rw [World.frozen?_setCell]; exact (hc j _ (List.getElem?_eq_getElem hjl)).2⟩
  rw [List.getElem?_set] at hj
  by_cases e : i = j
  · subst e
    simp [hi] at hj
    subst hj
    exact World.cell?_setCell_same _ _ _ (hc i _ (List.getElem?_eq_getElem hi)).1
  · rw [if_neg e] at hj
    rw [World.cell?_setCell_other _ _ _ _ (by intro q; cases q; exact e rfl)]
    exact (hc j v hj).1
set_option maxRecDepth 100000 in
set_option maxHeartbeats 1000000 in
theorem markShapeSL (A : Option Addr) (n p B g : Nat) (cs : List Value) (k : Int) (W : World) (hl : cs.length = n * 3) (hr : OwnV B W A cs) (hA : 0 < n → A = some ⟨g, 0, none⟩) (hn : n ≤ 1000) (hk : 0 ≤ k) (hk2 : k ≤ 2000000) :
    Calls Try.prog 21 #[.slice A n p, .int .i64 k] W fun e W' => e = .returned (.int .i64 (k + 3 * n)) ∧ OwnV B W' A (upV k (n * 3)) ∧ W.grownBy W' (some g) := by
  have hn1 : (n : Int) ≤ 1000 := by omega
  have HL := Lib.hid hl
  have HA := Lib.hid hA
  have h0 : OwnV B W A (partV k cs (0 * 3)) := by simpa [partV, upV] using hr
  have H0 := Lib.hid h0
  clear hr hA hl h0
  go_enter Try.func21, Try.ntmps21
  go_wp2_with fail
  go_loopw [1, 5] (fun q x wr => ∃ i : Nat, i ≤ n ∧ x = .int .i64 i ∧ q = .int .i64 (k + 3 * i) ∧ Hid (OwnV B wr A (partV k cs (i * 3))) ∧ Hid (W.grownBy wr (some g))) (fun _ x _ => n - (intOf x).toNat)
  case atStart => exact ⟨0, Nat.zero_le _, rfl, by simp, H0, Lib.hid (grown_refl _ _)⟩
  case round =>
    clear H0
    obtain ⟨i, hi, rfl, rfl, HO, HG⟩ := hrel
    by_cases hlt : i < n
    · have hAg := HA.out (by omega)
      subst hAg
      have hlp : (partV k cs (i * 3)).length = n * 3 := by rw [partV_len (by rw [HL.out]; omega)]; exact HL.out
      obtain ⟨g', e, _, _, hcc⟩ := HO.out (by rw [hlp]; omega)
      cases e
      obtain ⟨v0, hv0⟩ : ∃ v, (partV k cs (i * 3))[i * 3]? = some v := ⟨_, List.getElem?_eq_getElem (by omega)⟩
      obtain ⟨e0, f0⟩ := hcc (i * 3) _ hv0
      obtain ⟨v1, hv1⟩ : ∃ v, (partV k cs (i * 3))[i * 3 + 1]? = some v := ⟨_, List.getElem?_eq_getElem (by omega)⟩
      obtain ⟨e1, f1⟩ := hcc (i * 3 + 1) _ hv1
      obtain ⟨v2, hv2⟩ : ∃ v, (partV k cs (i * 3))[i * 3 + 2]? = some v := ⟨_, List.getElem?_eq_getElem (by omega)⟩
      obtain ⟨e2, f2⟩ := hcc (i * 3 + 2) _ hv2
      have hi2 : (i : Int) < (n : Int) := by omega
      have hO3 : OwnV B (((wr.setCell ⟨g, i * 3, none⟩ (.int .i64 (k + 3 * i))).setCell ⟨g, i * 3 + 1, none⟩ (.int .i64 (k + 3 * i + 1))).setCell ⟨g, i * 3 + 2, none⟩ (.int .i64 (k + 3 * i + 1 + 1))) (some ⟨g, 0, none⟩) (partV k cs ((i + 1) * 3)) := by
        have s0 := HO.out.set (i := i * 3) (by omega) (.int .i64 (k + ((i * 3 : Nat) : Int)))
        rw [partV_set (by rw [HL.out]; omega)] at s0
        have s1 := s0.set (i := i * 3 + 1) (by rw [partV_len (by rw [HL.out]; omega), HL.out]; omega) (.int .i64 (k + ((i * 3 + 1 : Nat) : Int)))
        rw [partV_set (by rw [HL.out]; omega)] at s1
        have s2 := s1.set (i := i * 3 + 1 + 1) (by rw [partV_len (by rw [HL.out]; omega), HL.out]; omega) (.int .i64 (k + ((i * 3 + 1 + 1 : Nat) : Int)))
        rw [partV_set (by rw [HL.out]; omega)] at s2
        have r0 : k + ((i * 3 : Nat) : Int) = k + 3 * i := by omega
        have r1 : k + ((i * 3 + 1 : Nat) : Int) = k + 3 * i + 1 := by omega
        have r2 : k + ((i * 3 + 1 + 1 : Nat) : Int) = k + 3 * i + 1 + 1 := by omega
        rw [r0, r1, r2] at s2
        rw [show (i + 1) * 3 = i * 3 + 1 + 1 + 1 by omega]
        exact s2
      have hG3 : W.grownBy (((wr.setCell ⟨g, i * 3, none⟩ (.int .i64 (k + 3 * i))).setCell ⟨g, i * 3 + 1, none⟩ (.int .i64 (k + 3 * i + 1))).setCell ⟨g, i * 3 + 2, none⟩ (.int .i64 (k + 3 * i + 1 + 1))) (some g) :=
        grown_step (grown_step (grown_step HG.out (grown_set _ g _ _)) (grown_set _ g _ _)) (grown_set _ g _ _)
      have HO3 := Lib.hid hO3
      have HG3 := Lib.hid hG3
      clear hO3 hG3 HO HG hcc hlp hv0 hv1 hv2
      go_wp2_with fail
      go_roundw
      case rel => exact ⟨i + 1, by omega, by go_num, by go_num, HO3, HG3⟩
      case measure => simp [intOf]; omega
    · obtain rfl : i = n := by omega
      have hO := HO.out
      rw [show i * 3 = cs.length from HL.out.symm, partV_all, HL.out] at hO
      have HOF := Lib.hid hO
      clear hO HO
      go_wp2_with fail
      go_ret
      exact ⟨rfl, HOF.out, HG.out⟩
set_option maxRecDepth 100000 in
set_option maxHeartbeats 1000000 in
theorem heldShapeSL (A : Option Addr) (n p B : Nat) (k : Int) (W : World) (hr : OwnV B W A (upV k (n * 3))) (hn : n ≤ 1000) (hk : 0 ≤ k) (hk2 : k ≤ 2000000) :
    Calls Try.prog 22 #[.slice A n p, .int .i64 k] W fun e W' => e = .returned (.int .i64 (k + 3 * n)) ∧ Below W.heap.size W W' := by
  have hn1 : (n : Int) ≤ 1000 := by omega
  have HO := Lib.hid hr
  clear hr
  go_enter Try.func22, Try.ntmps22
  go_wp2_with fail
  go_loop [1, 5] (fun q x => ∃ i : Nat, i ≤ n ∧ x = .int .i64 i ∧ q = .int .i64 (k + 3 * i)) (fun _ x => n - (intOf x).toNat)
  case atStart => exact ⟨0, Nat.zero_le _, rfl, by simp⟩
  case round =>
    obtain ⟨i, hi, rfl, rfl⟩ := hrel
    by_cases hlt : i < n
    · obtain ⟨g, rfl, _, _, hcc⟩ := HO.out (by rw [upV_len]; omega)
      have e0 := (hcc (i * 3) _ (upV_at (by omega))).1
      have e1 := (hcc (i * 3 + 1) _ (upV_at (by omega))).1
      have e2 := (hcc (i * 3 + 2) _ (upV_at (by omega))).1
      rw [show k + ((i * 3 : Nat) : Int) = k + 3 * i by omega] at e0
      rw [show k + ((i * 3 + 1 : Nat) : Int) = k + 3 * i + 1 by omega] at e1
      rw [show k + ((i * 3 + 2 : Nat) : Int) = k + 3 * i + 1 + 1 by omega] at e2
      have hi2 : (i : Int) < (n : Int) := by omega
      have n0 : ((k + 3 * (i : Int)) != (k + 3 * (i : Int))) = false := by simp
      have n1 : ((k + 3 * (i : Int) + 1) != (k + 3 * (i : Int) + 1)) = false := by simp
      have n2 : ((k + 3 * (i : Int) + 1 + 1) != (k + 3 * (i : Int) + 1 + 1)) = false := by simp
      clear hcc
      go_wp2_with fail
      go_round
      case rel => exact ⟨i + 1, by omega, by go_num, by go_num⟩
      case measure => simp [intOf]; omega
    · obtain rfl : i = n := by omega
      go_wp2_with fail
      go_ret
      exact ⟨rfl, Below.refl _ _⟩
end Qt
end Go.Proofs.Ytklefnmhknlilaa

namespace Go.Proofs.Ytklefnmhknlilaa
open Go.RowKit Go.Sort
set_option linter.unusedSimpArgs false
set_option linter.unusedVariables false
namespace Qt
def shapesM (s : Sh) (ls : List Lay) : List Sh := match modW s ls with
  | none => []
  | some (ss, _) => ss
/-- A slice of the call's own that holds these shapes. -/
def SsR (W : World) (ss : List Sh) (e : Ending) (W' : World) : Prop := ∃ V, e = .returned V ∧ W'.ownsRow W.heap.size 29 3 V ss.length (shC ss) ∧ Below W.heap.size W W'
theorem SsR.mono {W0 W W' : World} {ss : List Sh} {e : Ending} (h : SsR W ss e W') (hb : Below W0.heap.size W0 W) : SsR W0 ss e W' := by
  obtain ⟨V, rfl, ho, hb2⟩ := h
  exact ⟨V, rfl, ownsRow_base ho hb.size, hb.trans (hb2.mono hb.size)⟩
theorem shC_snoc {ss : List Sh} {j : Nat} {b : Sh} (h : ss[j + 1]? = some b) : shC ((ss.tail).take j) ++ [.int .i64 b.1, .int .i64 b.2.1, .int .i64 b.2.2] = shC ((ss.tail).take (j + 1)) := by
  obtain ⟨x, y, v⟩ := b
  rw [List.take_add_one, List.getElem?_tail, h, shC_append]
  rfl
theorem thenI (l : Lay) (P : Pos) (a b : Sh) (nx : Option Addr) (g : Nat) (W : World) (hb : Bk W g 64 (linkA l P a b nx)) :
    Calls Try.prog 49 #[.pointer (some ⟨g, 0, none⟩)] W fun e W' => e = .returned (.agg #[.int .i64 b.1, .int .i64 b.2.1, .int .i64 b.2.2]) ∧ Below W.heap.size W W' := by
  obtain ⟨x, y, v⟩ := b
  have c0 : W.cell? ⟨g, 12, none⟩ = some (.int .i64 x) := hb.cell 12 rfl
  have c1 : W.cell? ⟨g, 13, none⟩ = some (.int .i64 y) := hb.cell 13 rfl
  have c2 : W.cell? ⟨g, 14, none⟩ = some (.int .i64 v) := hb.cell 14 rfl
  have hlt := hb.lt
  clear hb
  go_enter Try.func49, Try.ntmps49
  go_wp2_with fail
  exact bodyPost_ret (v := .agg #[.int .i64 x, .int .i64 y, .int .i64 v]) (by simp [results, Try.results49, go_sem]) rfl ⟨rfl, (Below.refl _ W).alloc (Nat.le_refl _) _⟩
set_option maxRecDepth 10000 in
set_option maxHeartbeats 1000000 in
theorem gatherSh (W0 : World) (B : Nat) (gs : List Nat) (ls : List Lay) (ss : List Sh) (g0 : Nat) (hg0 : gs[0]? = some g0) (W : World) (hc : Chain W0 B W gs ls ss) (hb0 : Below W0.heap.size W0 W) (hss : ss.length = ls.length + 1) (hn : ls.length + big ls ≤ 1048576) :
    Calls Try.prog 48 #[.pointer (some ⟨g0, 0, none⟩), .func (.func 49) #[] #[]] W (SsR W (ss.tail)) := by
  obtain ⟨i0, hi, hz0, hz1, hz2⟩ := info_parts infoS3
  have HC := Lib.hid hc
  have HB0 := Lib.hid hb0
  have HN := Lib.hid hn
  have hxl : (ss.tail).length = ls.length := by rw [List.length_tail]; omega
  have hgl := hc.len
  obtain ⟨n, hnn⟩ : ∃ n, n = ls.length := ⟨_, rfl⟩
  rw [← hnn] at hxl hgl hn
  have HXL := Lib.hid hxl
  have HGL := Lib.hid hgl
  have HNN := Lib.hid hnn
  have hnn2 : n ≤ 1048576 := by omega
  have HG0 : Hid (some (⟨g0, 0, none⟩ : Addr) = ptrAt gs 0) := Lib.hid (by unfold ptrAt; rw [hg0]; rfl)
  clear hc hb0 hn hxl hgl hnn hg0 hss
  go_enter Try.func48, Try.ntmps48
  go_wp2_with fail
  go_loopg [5, 6] n (fun gk v kp wr => ∃ (j : Nat) (q : Option Addr), gk + j = n ∧ kp = .pointer q ∧ Hid (q = ptrAt gs j) ∧ Hid (wr.ownsRow W.heap.size 29 3 v j (shC ((ss.tail).take j))) ∧ Hid (Below W.heap.size W wr))
  case atStart => exact ⟨0, _, rfl, rfl, HG0, Lib.hid (World.ownsRow_nil _ _ _ _), Lib.hid (Below.refl _ _)⟩
  case round =>
    clear HG0
    obtain ⟨j, q, hgk, rfl, HQ, HO, HB⟩ := hrel
    by_cases hlt : j < n
    · have hgj : gs[j]? = some (gs[j]'(by rw [HGL.out]; exact hlt)) := List.getElem?_eq_getElem _
      obtain ⟨g, hg⟩ : ∃ g, gs[j]? = some g := ⟨_, hgj⟩
      have hlj : ls[j]? = some (ls[j]'(by rw [← HNN.out]; exact hlt)) := List.getElem?_eq_getElem _
      obtain ⟨l, hl⟩ : ∃ l, ls[j]? = some l := ⟨_, hlj⟩
      obtain ⟨P, a, b, ha, hb, hbk, hy⟩ := HC.out.node j g l hg hl
      have hq : q = some ⟨g, 0, none⟩ := by rw [HQ.out]; unfold ptrAt; rw [hg]; rfl
      subst hq
      have hbig := big_at hl
      obtain ⟨x, y, v⟩ := b
      have HBK := Lib.hid hbk
      have HY := Lib.hid (hy.of_below (HB0.out.trans (HB.out.mono HB0.out.size)))
      have H1 : Hid (l.xs.length ≤ 1048576) := Lib.hid (by have := HN.out; omega)
      have H2 : Hid (l.ys.length ≤ 1048576) := Lib.hid (by have := HN.out; omega)
      have HX := Lib.hid (shC_snoc hb)
      obtain ⟨nx, hnx⟩ : ∃ nx, nx = ptrAt gs (j + 1) := ⟨_, rfl⟩
      rw [← hnx] at HBK
      have HNX := Lib.hid hnx
      clear hgj hg hlj hl ha hb hbk hy hbig hnx HQ
      go_wp2_with fail
      with_reducible refine (thenI l P a (x, y, v) nx g _ (HBK.out.below HB.out)).mono ?_
      rintro e w2 ⟨rfl, b2⟩
      have HO2 := Lib.hid (ownsRow_below HO.out b2)
      have HB2 := Lib.hid (HB.out.trans (b2.mono HB.out.size))
      clear b2 HO HB HY
      have hsz := HB2.out.size
      go_wp2_with (at_builtin; go_loud (refine wpList_append_own _ rfl _ _ 36 rfl W.heap.size 29 i0 (.agg #[.int .i64 0, .int .i64 0, .int .i64 0]) 3 24 Try.underlying36 hi hz0 hz1 hz2 rfl (by decide) _ _ _ rfl (HO2.out.alloc _) ⟨w2.heap.size, 0, none⟩ 1 1 [.int .i64 x, .int .i64 y, .int .i64 v] rfl rfl ?c1 ?c2 ?c3 ?c4 ?c5 ?_))
      case c1 =>
        intro j' u hj
        match j', hj with
        | 0, hj => simp at hj; subst hj; simp [Addr.add]
        | 1, hj => simp at hj; subst hj; simp [Addr.add]
        | 2, hj => simp at hj; subst hj; simp [Addr.add]
      case c2 => intro u hu; simp at hu; rcases hu with rfl | rfl | rfl <;> rfl
      case c3 => unfold maxLen; omega
      case c4 => omega
      case c5 => simp; omega
      intro v' w3 hown' hgrow _
      have hB3 : Below W.heap.size W w3 := (HB2.out.alloc HB2.out.size _).grown hgrow (by simp; omega) (fun r hr => by have := (HO2.out.lt r hr).1; omega)
      rw [HX.out] at hown'
      have hnc : w3.cell? ⟨g, 15, none⟩ = some (.pointer nx) := (HBK.out.below hB3).cell 15 rfl
      have HO3 := Lib.hid hown'
      have HB3 := Lib.hid hB3
      clear hown' hgrow hB3 HO2 HB2
      go_wp2_with fail
      go_roundg (gk - 1)
      case measure => omega
      case rel => exact ⟨j + 1, nx, by omega, rfl, HNX, HO3, HB3⟩
    · obtain rfl : j = n := by omega
      have hq : q = none := by rw [HQ.out]; unfold ptrAt; rw [List.getElem?_eq_none (by rw [HGL.out]; exact Nat.le_refl _)]; rfl
      subst hq
      have hO := HO.out
      rw [List.take_of_length_le (by rw [HXL.out]; exact Nat.le_refl _)] at hO
      have HOF := Lib.hid hO
      clear hO HO HQ
      go_wp2_with fail
      go_ret
      exact ⟨_, rfl, HXL.out.symm ▸ HOF.out, HB.out⟩
theorem shapesOfS (h w c : Int) (A : Option Addr) (n p : Nat) (ls : List Lay) (W : World) (hr : RdL W A n ls) (hn : n + big ls ≤ 1048576) :
    Calls Try.prog 17 #[.agg #[.int .i64 h, .int .i64 w, .int .i64 c, .slice A n p]] W (SsR W (shapesM (h, w, c) ls)) := by
  have b0 := (Below.refl _ W).alloc (Nat.le_refl _) (.cells #[.int .i64 h, .int .i64 w, .int .i64 c, .slice A n p] 32)
  have HC := Lib.hid (l04ShapesS h w c A n p ls _ (hr.of_below b0) hn)
  have B0 := Lib.hid b0
  have HL := Lib.hid hr.1
  clear b0 hr
  go_enter Try.func17, Try.ntmps17
  go_wp2_with fail
  refine HC.out.mono ?_
  rintro e w1 ⟨b1, he⟩
  have B1 := Lib.hid (B0.out.trans (b1.mono B0.out.size))
  rcases hm : modW (h, w, c) ls with _ | ⟨ss, l⟩
  · rw [hm] at he
    have hb : Hid (shapesM (h, w, c) ls = []) := Lib.hid (by rw [shapesM, hm])
    clear hm b1
    subst he
    go_wp2_with fail
    go_ret
    exact ⟨.slice none 0 0, rfl, by rw [hb.out]; exact World.ownsRow_nil _ _ _ _, B1.out⟩
  · rw [hm] at he
    have hb : Hid (shapesM (h, w, c) ls = ss) := Lib.hid (by rw [shapesM, hm])
    have hsl : Hid (ss.length = n + 1) := Lib.hid (by have := (way_facts (modW_some hm).1).1; have := HL.out; omega)
    clear hm
    obtain ⟨V, rfl, ho⟩ := he
    have HO := Lib.hid (ownsRow_base ho (b' := W.heap.size) B0.out.size)
    clear ho b1
    go_wp2_with fail
    go_ret
    exact ⟨_, rfl, by rw [hb.out, hsl.out]; exact HO.out, B1.out⟩
set_option maxRecDepth 10000 in
set_option maxHeartbeats 1000000 in
theorem shapesOfI (h w c : Int) (A : Option Addr) (n p : Nat) (ls : List Lay) (W : World) (hr : RdL W A n ls) (hn : n + big ls ≤ 1048576) :
    Calls Try.prog 18 #[.agg #[.int .i64 h, .int .i64 w, .int .i64 c, .slice A n p]] W (SsR W (shapesM (h, w, c) ls)) := by
  obtain ⟨i0, hi, hz0, hz1, hz2⟩ := info_parts infoS3
  have b0 := (Below.refl _ W).alloc (Nat.le_refl _) (.cells #[.int .i64 h, .int .i64 w, .int .i64 c, .slice A n p] 32)
  have HC := Lib.hid (linksOfI h w c A n p ls _ (hr.of_below b0) hn)
  have B0 := Lib.hid b0
  have HL := Lib.hid hr.1
  have HN : Hid (ls.length + big ls ≤ 1048576) := Lib.hid (by rw [hr.1]; exact hn)
  clear b0 hr hn
  obtain ⟨R, hR⟩ : ∃ R, shapesM (h, w, c) ls = R := ⟨_, rfl⟩
  rw [hR]
  have HRR := Lib.hid hR
  clear hR
  go_enter Try.func18, Try.ntmps18
  go_wp2_with fail
  refine HC.out.mono ?_
  rintro e w1 ⟨b1, he⟩
  have B1 := Lib.hid (B0.out.trans (b1.mono B0.out.size))
  rcases hm : modW (h, w, c) ls with _ | ⟨ss, l⟩
  · rw [hm] at he
    have hRN : Hid (R = []) := Lib.hid (by rw [← HRR.out, shapesM, hm])
    clear hm b1
    subst he
    go_wp2_with fail
    go_ret
    exact ⟨.slice none 0 0, rfl, by rw [hRN.out]; exact World.ownsRow_nil _ _ _ _, B1.out⟩
  · rw [hm] at he
    obtain ⟨g, gs, rfl, hc⟩ := he
    have hRC : Hid (R = ss) := Lib.hid (by rw [← HRR.out, shapesM, hm])
    have WF := Lib.hid (way_facts (modW_some hm).1)
    have hl1 := (modW_some hm).2
    have HCH := Lib.hid hc
    have HB := Lib.hid b1
    have hn6 : (n : Int) ≤ 6 := by have := HL.out; omega
    have hn0 : 0 < n := by have := HL.out; omega
    obtain ⟨l0, hl0⟩ : ∃ l0, ls[0]? = some l0 := ⟨_, List.getElem?_eq_getElem (by omega)⟩
    obtain ⟨P0, a0, c0, ha0, _, hbk, _⟩ := hc.node 0 g l0 rfl hl0
    have ha1 : a0 = (h, w, c) := by rw [WF.out.2.1] at ha0; exact (Option.some.inj ha0).symm
    subst ha1
    have HBK := Lib.hid hbk
    clear hm b1 hc hl0 ha0 hbk hl1
    go_wp2_with fail
    with_reducible refine (gatherSh _ _ (g :: gs) ls ss g rfl _ HCH.out HB.out WF.out.1 HN.out).mono ?_
    rintro e w2 ⟨V, rfl, ho, b2⟩
    have hlen : (ss.tail).length = n := by rw [List.length_tail]; have := WF.out.1; have := HL.out; omega
    rw [hlen] at ho
    obtain ⟨gb, cap, rfl, hgb, hgl⟩ := ownsRow_some ho hn0
    have HO := Lib.hid ho
    have HB2 := Lib.hid b2
    have hbk2 := HBK.out.below b2
    have e0 : w2.cell? ⟨g, 9, none⟩ = some (.int .i64 h) := hbk2.cell 9 rfl
    have e1 : w2.cell? ⟨g, 10, none⟩ = some (.int .i64 w) := hbk2.cell 10 rfl
    have e2 : w2.cell? ⟨g, 11, none⟩ = some (.int .i64 c) := hbk2.cell 11 rfl
    have hlc : (shC (ss.tail)).length = n * 3 := by rw [shC_length, hlen]
    have HLC := Lib.hid hlc
    have hW2 : W.heap.size ≤ w2.heap.size := Nat.le_trans B1.out.size b2.size
    have BW := Lib.hid (B1.out.trans (b2.mono B1.out.size))
    clear ho b2 hbk2 hlc hlen hgb
    go_wp2_with (at_builtin; go_loud (refine wpList_append_own _ rfl _ _ 36 rfl W.heap.size 29 i0 (.agg #[.int .i64 0, .int .i64 0, .int .i64 0]) 3 24 Try.underlying36 hi hz0 hz1 hz2 rfl (by decide) _ _ _ rfl (World.ownsRow_lit w2 #[.int .i64 h, .int .i64 w, .int .i64 c] 1 hW2 (by decide) rfl) ⟨gb, 0, none⟩ n cap (shC (ss.tail)) rfl ?c0 ?c1 ?c2 ?c3 ?c4 ?c5 ?_))
    case c0 => exact HLC.out
    case c1 =>
      intro j u hj
      have hjl : j < n * 3 := by have := (List.getElem?_eq_some_iff.1 hj).1; have := HLC.out; omega
      have := (HO.out.cellAt j hjl).trans hj
      rw [show ((⟨gb, 0, none⟩ : Addr).add j) = ⟨gb, j, none⟩ by unfold Addr.add; split <;> simp_all]
      exact (Below.cell ((Below.refl _ w2).alloc (Nat.le_refl _) _) (p := ⟨gb, j, none⟩) hgl).trans this
    case c2 =>
      intro u hu
      have : ∀ (x : List Sh) u, u ∈ shC x → u.oneCell' = true := by
        intro x
        induction x with
        | nil => intro u hu; cases hu
        | cons q r ih =>
          obtain ⟨q0, q1, q2⟩ := q
          intro u hu
          simp only [shC, List.mem_cons] at hu
          rcases hu with rfl | rfl | rfl | hu
          · rfl
          · rfl
          · rfl
          · exact ih u hu
      exact this _ u hu
    case c3 => unfold maxLen; omega
    case c4 => omega
    case c5 => simp; omega
    intro v' w3 hown' hgrow _
    have hB3 : Below W.heap.size W w3 := (BW.out.alloc BW.out.size _).grown hgrow (by simp; omega) (fun r hr => by simp [Value.ownBlock] at hr; omega)
    have hss : ss = (h, w, c) :: ss.tail := by
      cases hq : ss with
      | nil => have := WF.out.1; rw [hq] at this; simp at this
      | cons q r => have := WF.out.2.1; rw [hq] at this; simp at this; rw [this]; rfl
    have hfin : w3.ownsRow W.heap.size 29 3 v' ss.length (shC ss) := by
      have h1 : ss.length = 1 + n := by have := WF.out.1; have := HL.out; omega
      have h2 : shC ss = [.int .i64 h, .int .i64 w, .int .i64 c] ++ shC (ss.tail) := by
        conv => lhs; rw [hss]
        rfl
      rw [h1, h2]
      exact hown'
    have HF := Lib.hid hfin
    have HB3 := Lib.hid hB3
    clear hown' hgrow hB3 hss hfin e0 e1 e2
    go_wp2_with fail
    go_ret
    exact ⟨_, rfl, by rw [hRC.out]; exact HF.out, HB3.out⟩
end Qt
end Go.Proofs.Ytklefnmhknlilaa
