/- What the laws' own helpers toStep and toStepS give when they are called, with what is owned: a slice that reads as the same steps, in blocks of the call's own. Conditions: the slice of steps reads as the list that is named. -/
import Derived.Test.YtalkoaahhkafaaaStepToS
import Derived.Test.YtalkoaahhkafaaaOwn
import Derived.Test.YtalkoaahhkafaaaRem
namespace Go.Proofs.Ytalkoaahhkafaaa
open Go.RowKit Go.Sort
set_option linter.unusedSimpArgs false
set_option linter.unusedVariables false
namespace Qt
def NewOY (w : World) (n : Nat) (xs : List Int) (e : Ending) (w' : World) : Prop := ∃ g, e = .returned (.slice (some ⟨g, 0, none⟩) n n) ∧ w.heap.size ≤ g ∧ g < w'.heap.size ∧ OwnY w.heap.size w' (some ⟨g, 0, none⟩) n xs ∧ Below w.heap.size w w'
theorem toByteS_own (A : Option Addr) (n c : Nat) (xs : List Int) (w : World) (h : RdB8 w A n xs) (hn : n ≤ 1048576) :
    Calls Try.prog 46 #[.slice A n c] w (NewOY w n xs) := by
  obtain ⟨i0, hi, hz0, hz1, hz2⟩ := info_parts infoB8
  obtain ⟨hl, hc⟩ := h
  have HC := Lib.hid hc
  have HL := Lib.hid hl
  clear hc hl
  go_enter Try.func46, Try.ntmps46
  go_wp2_with (at_make; refine wpList_make_full _ rfl _ _ 45 rfl w.heap.size 5 i0 (.int .u8 0) 1 Try.underlying45 hi hz0 hz1 .i64 .i64 _ _ n rfl rfl rfl rfl (by rw [hz2]; omega) (by unfold maxLen; omega) (Nat.le_refl _) ?_; intro w1 hown hg)
  obtain ⟨g, hgd⟩ : ∃ g, g = w.heap.size := ⟨_, rfl⟩
  rw [← hgd] at hown
  rw [← hgd]
  have hown0 : w1.ownsRow g 5 1 (.slice (some ⟨g, 0, none⟩) n n) n ((vals xs n 0).map (Value.int .u8)) := by
    rw [vals_zero]; simpa [toList_madeCells_one, Value.cells] using hown
  have hb0 : Below g w w1 := hgd ▸ (Below.refl w.heap.size w).grown hg (Nat.le_refl _) (fun k hk => by cases hk)
  have hsz : g < w1.heap.size := (hown0.lt g rfl).2
  have HG := Lib.hid hgd
  clear hown hg hgd
  go_loopw [4] (fun i wr => ∃ k : Nat, k ≤ n ∧ i = .int .i64 k ∧ wr.ownsRow g 5 1 (.slice (some ⟨g, 0, none⟩) n n) n ((vals xs n k).map (Value.int .u8)) ∧ Below g w wr) (fun i _ => n - (intOf i).toNat)
  case atStart => exact ⟨0, Nat.zero_le _, rfl, hown0, hb0⟩
  case round =>
    clear hown0 hb0 hsz
    obtain ⟨k, hk, rfl, hown, hb⟩ := hrel
    by_cases hlt : k < n
    · obtain ⟨b, off, rfl, hbl, hcell⟩ := HC.out (by omega)
      have hcx : wr.cell? ⟨b, off + k, none⟩ = some (.int .u8 (xs.getD k 0)) := (hb.cell (p := ⟨b, off + k, none⟩) (by rw [HG.out]; exact hbl)).trans (hcell k hlt)
      have hgx : wr.cell? ⟨g, k, none⟩ = some (.int .u8 ((vals xs n k).getD k 0)) := by
        rw [hown.cellAt k (by omega)]
        have hl : k < (vals xs n k).length := by simpa using (show k < ((vals xs n k).map (Value.int .u8)).length by rw [hown.1]; omega)
        simp [List.getD_eq_getElem?_getD, hl]
      have hfr := hown.frozenAt k
      have hst := (hown.stored k (.int .u8 (xs.getD k 0))).1
      rw [vals_map_setY xs n k HL.out hlt] at hst
      have HS := Lib.hid hst
      have HB := Lib.hid hb
      clear hst hcell hown hb
      go_wp2
      go_roundw
      case rel => exact ⟨k + 1, by omega, by go_num, HS.out, HB.out.setCell (Nat.le_refl _) _⟩
      case measure => simp [intOf]; omega
    · go_wp2
      go_ret
      obtain rfl : k = n := by omega
      rw [vals_all xs k HL.out] at hown
      exact ⟨g, rfl, Nat.le_of_eq HG.out.symm, (hown.lt g rfl).2, HG.out ▸ OwnY.of_own hown, HG.out ▸ hb⟩
section
variable {w w' : World} {g : Nat} {t : TypeId} {cs : Array Value} {BB : Nat}
theorem OwnI.ws8 {b n : Nat} {xs : List Int} (h : OwnI BB w (some ⟨b, 0, none⟩) n xs) (hp : b ≠ g) (y0 y1 y2 y3 y4 y5 y6 y7 : Value) : OwnI BB (ws8 w g y0 y1 y2 y3 y4 y5 y6 y7) (some ⟨b, 0, none⟩) n xs :=
  (((((((h.far (p := ⟨g, 0, none⟩) hp y0).far (p := ⟨g, 1, none⟩) hp y1).far (p := ⟨g, 2, none⟩) hp y2).far (p := ⟨g, 3, none⟩) hp y3).far (p := ⟨g, 4, none⟩) hp y4).far (p := ⟨g, 5, none⟩) hp y5).far (p := ⟨g, 6, none⟩) hp y6).far (p := ⟨g, 7, none⟩) hp y7
theorem OwnY.ws8 {b n : Nat} {xs : List Int} (h : OwnY BB w (some ⟨b, 0, none⟩) n xs) (hp : b ≠ g) (y0 y1 y2 y3 y4 y5 y6 y7 : Value) : OwnY BB (ws8 w g y0 y1 y2 y3 y4 y5 y6 y7) (some ⟨b, 0, none⟩) n xs :=
  (((((((h.far (p := ⟨g, 0, none⟩) hp y0).far (p := ⟨g, 1, none⟩) hp y1).far (p := ⟨g, 2, none⟩) hp y2).far (p := ⟨g, 3, none⟩) hp y3).far (p := ⟨g, 4, none⟩) hp y4).far (p := ⟨g, 5, none⟩) hp y5).far (p := ⟨g, 6, none⟩) hp y6).far (p := ⟨g, 7, none⟩) hp y7
theorem OwnI.ws4 {b n : Nat} {xs : List Int} (h : OwnI BB w (some ⟨b, 0, none⟩) n xs) (hp : b ≠ g) (y4 y5 y6 y7 : Value) : OwnI BB (ws4 w g y4 y5 y6 y7) (some ⟨b, 0, none⟩) n xs :=
  (((h.far (p := ⟨g, 4, none⟩) hp y4).far (p := ⟨g, 5, none⟩) hp y5).far (p := ⟨g, 6, none⟩) hp y6).far (p := ⟨g, 7, none⟩) hp y7
theorem OwnY.ws4 {b n : Nat} {xs : List Int} (h : OwnY BB w (some ⟨b, 0, none⟩) n xs) (hp : b ≠ g) (y4 y5 y6 y7 : Value) : OwnY BB (ws4 w g y4 y5 y6 y7) (some ⟨b, 0, none⟩) n xs :=
  (((h.far (p := ⟨g, 4, none⟩) hp y4).far (p := ⟨g, 5, none⟩) hp y5).far (p := ⟨g, 6, none⟩) hp y6).far (p := ⟨g, 7, none⟩) hp y7
end
def NewStpO (W : World) (k a b h w c : Int) (n : Nat) (bs : List Int) (q : Nat) (xs : List Int) (e : Ending) (W' : World) : Prop :=
  ∃ ga gb, e = .returned (.agg #[.int .i64 k, .int .i64 a, .int .i64 b, .slice (some ⟨ga, 0, none⟩) n n, .int .i64 h, .int .i64 w, .int .i64 c, .slice (some ⟨gb, 0, none⟩) q q]) ∧ W.heap.size ≤ ga ∧ W.heap.size ≤ gb ∧ OwnY W.heap.size W' (some ⟨ga, 0, none⟩) n bs ∧ OwnI W.heap.size W' (some ⟨gb, 0, none⟩) q xs ∧ Below W.heap.size W W'
set_option maxHeartbeats 2000000 in
theorem toStepO (k a b h w c : Int) (A : Option Addr) (n p : Nat) (bs : List Int) (B : Option Addr) (q r : Nat) (xs : List Int) (W : World) (hr : RdB8 W A n bs) (hs : RdI W B q xs) (hn : n ≤ 1048576) (hq : q ≤ 1048576) :
    Calls Try.prog 36 #[.agg #[.int .i64 k, .int .i64 a, .int .i64 b, .slice A n p, .int .i64 h, .int .i64 w, .int .i64 c, .slice B q r]] W (NewStpO W k a b h w c n bs q xs) := by
  have HN := Lib.hid hn; have HQ := Lib.hid hq
  have k0 := ((Bk.new W 51 #[.int .i64 k, .int .i64 a, .int .i64 b, .slice A n p, .int .i64 h, .int .i64 w, .int .i64 c, .slice B q r]).alloc (.cells #[.int .i64 0, .int .i64 0, .int .i64 0, .slice none 0 0, .int .i64 0, .int .i64 0, .int .i64 0, .slice none 0 0] 59)).alloc (.cells #[.int .i64 k, .int .i64 a, .int .i64 b, .slice none 0 0, .int .i64 0, .int .i64 0, .int .i64 0, .slice none 0 0] 59)
  have k2 := (Bk.new (W.alloc (.cells #[.int .i64 k, .int .i64 a, .int .i64 b, .slice A n p, .int .i64 h, .int .i64 w, .int .i64 c, .slice B q r] 51)) 59 #[.int .i64 0, .int .i64 0, .int .i64 0, .slice none 0 0, .int .i64 0, .int .i64 0, .int .i64 0, .slice none 0 0]).alloc (.cells #[.int .i64 k, .int .i64 a, .int .i64 b, .slice none 0 0, .int .i64 0, .int .i64 0, .int .i64 0, .slice none 0 0] 59)
  have k3 := Bk.new ((W.alloc (.cells #[.int .i64 k, .int .i64 a, .int .i64 b, .slice A n p, .int .i64 h, .int .i64 w, .int .i64 c, .slice B q r] 51)).alloc (.cells #[.int .i64 0, .int .i64 0, .int .i64 0, .slice none 0 0, .int .i64 0, .int .i64 0, .int .i64 0, .slice none 0 0] 59)) 59 #[.int .i64 k, .int .i64 a, .int .i64 b, .slice none 0 0, .int .i64 0, .int .i64 0, .int .i64 0, .slice none 0 0]
  have b0 : Below W.heap.size W (((W.alloc (.cells #[.int .i64 k, .int .i64 a, .int .i64 b, .slice A n p, .int .i64 h, .int .i64 w, .int .i64 c, .slice B q r] 51)).alloc (.cells #[.int .i64 0, .int .i64 0, .int .i64 0, .slice none 0 0, .int .i64 0, .int .i64 0, .int .i64 0, .slice none 0 0] 59)).alloc (.cells #[.int .i64 k, .int .i64 a, .int .i64 b, .slice none 0 0, .int .i64 0, .int .i64 0, .int .i64 0, .slice none 0 0] 59)) := (((Below.refl _ W).alloc (Nat.le_refl _) _).alloc (by simp) _).alloc (by simp only [World.size_alloc]; omega) _
  simp only [World.size_alloc] at k2 k3
  have G2 := Lib.hid (show W.heap.size ≤ W.heap.size + 1 by omega)
  have G3 := Lib.hid (show W.heap.size ≤ W.heap.size + 1 + 1 by omega)
  have N02 := Lib.hid (show W.heap.size ≠ W.heap.size + 1 + 1 by omega)
  have N23 := Lib.hid (show W.heap.size + 1 ≠ W.heap.size + 1 + 1 by omega)
  have HR := Lib.hid (hr.of_below b0); have HS := Lib.hid (hs.of_below b0); have HS0 := Lib.hid hs
  have K0 := Lib.hid k0; have K2 := Lib.hid k2; have K3 := Lib.hid k3; have B1 := Lib.hid b0
  clear hn hq hr hs k0 k2 k3 b0
  go_enter Try.func36, Try.ntmps36
  go_wp2_with fail
  generalize ((W.alloc (.cells #[.int .i64 k, .int .i64 a, .int .i64 b, .slice A n p, .int .i64 h, .int .i64 w, .int .i64 c, .slice B q r] 51)).alloc (.cells #[.int .i64 0, .int .i64 0, .int .i64 0, .slice none 0 0, .int .i64 0, .int .i64 0, .int .i64 0, .slice none 0 0] 59)).alloc (.cells #[.int .i64 k, .int .i64 a, .int .i64 b, .slice none 0 0, .int .i64 0, .int .i64 0, .int .i64 0, .slice none 0 0] 59) = w1 at K0 K2 K3 B1 HR HS ⊢
  generalize W.heap.size + 1 + 1 = g3 at K3 G3 N02 N23 ⊢
  generalize W.heap.size + 1 = g2 at K2 G2 N23 ⊢
  refine (toByteS_own A n p bs _ HR.out HN.out).mono ?_
  rintro e w5 ⟨ga, rfl, hg, hg5, r5, b5⟩
  have hg3 := K3.out.lt
  have hg2 := K2.out.lt
  have NGA := Lib.hid (show ga ≠ g3 ∧ ga ≠ g2 by omega)
  have LGA := Lib.hid (show W.heap.size ≤ ga from Nat.le_trans B1.out.size hg)
  replace K0 := Lib.hid (K0.out.below b5)
  replace K2 := Lib.hid (K2.out.below b5)
  replace K3 := Lib.hid (K3.out.below b5)
  replace HS := Lib.hid (HS.out.of_below b5)
  have B5 := Lib.hid (B1.out.trans (b5.mono B1.out.size))
  have R5 := Lib.hid (r5.base (B' := W.heap.size) B1.out.size)
  clear hg3 hg2 hg hg5 r5 b5 B1 HR HN
  obtain ⟨c0, c1, c2, c3, c4, c5, c6, c7⟩ := K0.out.cell8
  obtain ⟨d0, d1, d2, d3, d4, d5, d6, d7⟩ := K3.out.cell8
  obtain ⟨f0, f1, f2, f3, f4, f5, f6, f7⟩ := K3.out.free8
  have hne : g2 ≠ g3 := N23.out
  have hne0 : W.heap.size ≠ g3 := N02.out
  go_wp2_with fail
  have L3 := K3.out.lt
  have L2 := K2.out.lt
  have bs3 := (Below.refl w5.heap.size w5)
  replace K3 := Lib.hid (K3.out.set 3 (.slice (some ⟨ga, 0, none⟩) n n))
  replace K2 := Lib.hid (K2.out.far (p := ⟨g3, 3, none⟩) hne (.slice (some ⟨ga, 0, none⟩) n n))
  replace K0 := Lib.hid (K0.out.far (p := ⟨g3, 3, none⟩) hne0 (.slice (some ⟨ga, 0, none⟩) n n))
  replace R5 := Lib.hid (R5.out.far (p := ⟨g3, 3, none⟩) NGA.out.1 (.slice (some ⟨ga, 0, none⟩) n n))
  replace B5 := Lib.hid (B5.out.setCell (p := ⟨g3, 3, none⟩) G3.out (.slice (some ⟨ga, 0, none⟩) n n))
  have HS6 := Lib.hid (HS0.out.of_below B5.out)
  simp only [List.setIfInBounds_toArray, List.set_cons_zero, List.set_cons_succ] at K3
  have hsz : w5.heap.size = (w5.setCell ⟨g3, 3, none⟩ (.slice (some ⟨ga, 0, none⟩) n n)).heap.size := by rw [World.size_setCell]
  clear c0 c1 c2 c3 c4 c5 c6 c7 d0 d1 d2 d3 d4 d5 d6 d7 f0 f1 f2 f3 f4 f5 f6 f7 bs3
  rw [hsz] at L2 L3
  clear hsz
  generalize w5.setCell ⟨g3, 3, none⟩ (.slice (some ⟨ga, 0, none⟩) n n) = w6 at K0 K2 K3 R5 B5 HS6 L2 L3 ⊢
  refine (toTensorO h w c B q r xs _ HS6.out HQ.out).mono ?_
  rintro e w7 ⟨gb, rfl, hgb, rb, b7⟩
  have NGB := Lib.hid (show gb ≠ g3 ∧ gb ≠ g2 by omega)
  have LGB := Lib.hid (show W.heap.size ≤ gb from Nat.le_trans B5.out.size hgb)
  replace K0 := Lib.hid (K0.out.below b7)
  replace K2 := Lib.hid (K2.out.below b7)
  replace K3 := Lib.hid (K3.out.below b7)
  replace R5 := Lib.hid (R5.out.of_below b7)
  have HSZ := Lib.hid B5.out.size
  replace B5 := Lib.hid (B5.out.trans (b7.mono B5.out.size))
  have RB := Lib.hid (rb.base (B' := W.heap.size) HSZ.out)
  clear hgb rb b7 HS6 HQ HSZ
  obtain ⟨d0, d1, d2, d3, d4, d5, d6, d7⟩ := K3.out.cell8
  obtain ⟨f0, f1, f2, f3, f4, f5, f6, f7⟩ := K3.out.free8
  obtain ⟨i0, i1, i2, i3, i4, i5, i6, i7⟩ := K2.out.cell8
  obtain ⟨j0, j1, j2, j3, j4, j5, j6, j7⟩ := K2.out.free8
  have l3 := K3.out.lt
  have l2 := K2.out.lt
  go_wp2_with fail
  have k9 := ((K2.out.far4b hne (.int .i64 h) (.int .i64 w) (.int .i64 c) (.slice (some ⟨gb, 0, none⟩) q q)).set8 (.int .i64 k) (.int .i64 a) (.int .i64 b) (.slice (some ⟨ga, 0, none⟩) n n) (.int .i64 h) (.int .i64 w) (.int .i64 c) (.slice (some ⟨gb, 0, none⟩) q q))
  have r9 := (R5.out.ws4 NGA.out.1 (.int .i64 h) (.int .i64 w) (.int .i64 c) (.slice (some ⟨gb, 0, none⟩) q q)).ws8 NGA.out.2 (.int .i64 k) (.int .i64 a) (.int .i64 b) (.slice (some ⟨ga, 0, none⟩) n n) (.int .i64 h) (.int .i64 w) (.int .i64 c) (.slice (some ⟨gb, 0, none⟩) q q)
  have rb9 := (RB.out.ws4 NGB.out.1 (.int .i64 h) (.int .i64 w) (.int .i64 c) (.slice (some ⟨gb, 0, none⟩) q q)).ws8 NGB.out.2 (.int .i64 k) (.int .i64 a) (.int .i64 b) (.slice (some ⟨ga, 0, none⟩) n n) (.int .i64 h) (.int .i64 w) (.int .i64 c) (.slice (some ⟨gb, 0, none⟩) q q)
  have b9 := below_set8 (below_ws4 B5.out G3.out (.int .i64 h) (.int .i64 w) (.int .i64 c) (.slice (some ⟨gb, 0, none⟩) q q)) G2.out (.int .i64 k) (.int .i64 a) (.int .i64 b) (.slice (some ⟨ga, 0, none⟩) n n) (.int .i64 h) (.int .i64 w) (.int .i64 c) (.slice (some ⟨gb, 0, none⟩) q q)
  obtain ⟨z0, z1, z2, z3, z4, z5, z6, z7⟩ := k9.cell8
  refine bodyPost_ret (v := .agg #[.int .i64 k, .int .i64 a, .int .i64 b, .slice (some ⟨ga, 0, none⟩) n n, .int .i64 h, .int .i64 w, .int .i64 c, .slice (some ⟨gb, 0, none⟩) q q]) ?_ rfl ⟨ga, gb, rfl, LGA.out, LGB.out, r9, rb9, b9⟩
  clear k9 r9 rb9 b9 d0 d1 d2 d3 d4 d5 d6 d7 f0 f1 f2 f3 f4 f5 f6 f7 i0 i1 i2 i3 i4 i5 i6 i7 j0 j1 j2 j3 j4 j5 j6 j7
  simp only [ws4] at z0 z1 z2 z3 z4 z5 z6 z7
  simp [results, Try.results36, go_sem, z0, z1, z2, z3, z4, z5, z6, z7]
section
variable {w w' : World} {g n k : Nat} {cs : Array Value} {ss : List Stp} {BB : Nat}
theorem OwnI.wrow8 {b m : Nat} {xs : List Int} (h : OwnI BB w (some ⟨b, 0, none⟩) m xs) (hp : b ≠ g) (i : Nat) (v0 v1 v2 v3 v4 v5 v6 v7 : Value) : OwnI BB (wrow8 w g i v0 v1 v2 v3 v4 v5 v6 v7) (some ⟨b, 0, none⟩) m xs :=
  (((((((h.far (p := ⟨g, i, none⟩) hp v0).far (p := ⟨g, i + 1, none⟩) hp v1).far (p := ⟨g, i + 2, none⟩) hp v2).far (p := ⟨g, i + 3, none⟩) hp v3).far (p := ⟨g, i + 4, none⟩) hp v4).far (p := ⟨g, i + 5, none⟩) hp v5).far (p := ⟨g, i + 6, none⟩) hp v6).far (p := ⟨g, i + 7, none⟩) hp v7
theorem OwnY.wrow8 {b m : Nat} {xs : List Int} (h : OwnY BB w (some ⟨b, 0, none⟩) m xs) (hp : b ≠ g) (i : Nat) (v0 v1 v2 v3 v4 v5 v6 v7 : Value) : OwnY BB (wrow8 w g i v0 v1 v2 v3 v4 v5 v6 v7) (some ⟨b, 0, none⟩) m xs :=
  (((((((h.far (p := ⟨g, i, none⟩) hp v0).far (p := ⟨g, i + 1, none⟩) hp v1).far (p := ⟨g, i + 2, none⟩) hp v2).far (p := ⟨g, i + 3, none⟩) hp v3).far (p := ⟨g, i + 4, none⟩) hp v4).far (p := ⟨g, i + 5, none⟩) hp v5).far (p := ⟨g, i + 6, none⟩) hp v6).far (p := ⟨g, i + 7, none⟩) hp v7
/-- The first k of the steps stand in block g, which is wholly known. -/
def FillO (B : Nat) (w : World) (g n k : Nat) (ss : List Stp) : Prop :=
  ∃ cs, Bk w g 59 cs ∧ cs.size = n * 8 ∧ ∀ j s, j < k → ss[j]? = some s → ∃ ga gb, ga ≠ g ∧ gb ≠ g ∧ (∀ c v, (stpC s (posS s ga gb))[c]? = some v → cs[j * 8 + c]? = some v) ∧ (OwnY B w (some ⟨ga, 0, none⟩) s.bs.length s.bs ∧ OwnI B w (some ⟨gb, 0, none⟩) s.xs.length s.xs)
theorem FillO.of_below (h : FillO BB w g n k ss) (hb : Below w.heap.size w w') : FillO BB w' g n k ss := by
  obtain ⟨cs, hB, hs, hr⟩ := h
  exact ⟨cs, hB.below hb, hs, fun j s hj he => by
    obtain ⟨ga, gb, h1, h2, h3, h4⟩ := hr j s hj he
    exact ⟨ga, gb, h1, h2, h3, h4.1.of_below hb, h4.2.of_below hb⟩⟩
theorem FillO.zero (h : Bk w g 59 cs) (hs : cs.size = n * 8) : FillO BB w g n 0 ss := ⟨cs, h, hs, fun j s hj => absurd hj (by omega)⟩
theorem FillO.room (h : FillO BB w g n k ss) {c : Nat} (hc : c < n * 8) : ∃ v, w.cell? ⟨g, c, none⟩ = some v := by
  obtain ⟨cs, hB, hs, _⟩ := h
  exact ⟨cs[c]'(by omega), hB.cell c (Array.getElem?_eq_getElem (by omega))⟩
theorem FillO.free (h : FillO BB w g n k ss) (c : Nat) : w.frozen? ⟨g, c, none⟩ = false := by
  obtain ⟨cs, hB, _⟩ := h
  exact hB.frozen c
theorem FillO.lt (h : FillO BB w g n k ss) : g < w.heap.size := by
  obtain ⟨cs, hB, _⟩ := h
  exact hB.lt
theorem FillO.rd (h : FillO BB w g n n ss) (hl : ss.length = n) : RdSt w (some ⟨g, 0, none⟩) n ss := by
  obtain ⟨cs, hB, hs, hr⟩ := h
  refine ⟨hl, fun hn => ⟨g, 0, rfl, hB.lt, fun j s hj => ?_⟩⟩
  have hjn : j < n := by have := (List.getElem?_eq_some_iff.1 hj).1; omega
  obtain ⟨ga, gb, _, _, h3, h4⟩ := hr j s hjn hj
  exact ⟨posS s ga gb, fun i v hv => by rw [Nat.zero_add]; exact hB.cell _ (h3 i v hv), h4.1.rdI, h4.2.rdI⟩
/-- The next step is laid into its place. -/
theorem FillO.next {w0 : World} (h0 : FillO BB w0 g n k ss) (hb : Below w0.heap.size w0 w) (hk : k < n) {s : Stp} (hl : ss[k]? = some s) (ga gb : Nat) (hga : w0.heap.size ≤ ga) (hgb : w0.heap.size ≤ gb)
    (ha : OwnY BB w (some ⟨ga, 0, none⟩) s.bs.length s.bs) (hb2 : OwnI BB w (some ⟨gb, 0, none⟩) s.xs.length s.xs) :
    FillO BB (wrow8 w g (k * 8) (.int .i64 s.k) (.int .i64 s.a) (.int .i64 s.b) (.slice (some ⟨ga, 0, none⟩) s.bs.length s.bs.length) (.int .i64 s.h) (.int .i64 s.w) (.int .i64 s.c) (.slice (some ⟨gb, 0, none⟩) s.xs.length s.xs.length)) g n (k + 1) ss := by
  obtain ⟨cs, hB0, hs, hr0⟩ := h0
  have hg0 := hB0.lt
  have hB := hB0.below hb
  refine ⟨_, hB.row8 (k * 8) _ _ _ _ _ _ _ _, by rw [row8_size]; exact hs, fun j s' hj hjs => ?_⟩
  by_cases e : j < k
  · obtain ⟨xa, xb, h1, h2, h3, h4⟩ := hr0 j s' e hjs
    have h5 := And.intro (h4.1.of_below hb) (h4.2.of_below hb)
    refine ⟨xa, xb, h1, h2, fun c v hv => ?_, h5.1.wrow8 h1 _ _ _ _ _ _ _ _ _, h5.2.wrow8 h2 _ _ _ _ _ _ _ _ _⟩
    have hc : c < 8 := by have := (List.getElem?_eq_some_iff.1 hv).1; simpa [stpC] using this
    rw [row8_old (by omega)]
    exact h3 c v hv
  · have hjk : j = k := by omega
    subst hjk
    rw [hl] at hjs
    cases hjs
    exact ⟨ga, gb, by omega, by omega, fun c v hv => row8_new (by omega) s (posS s ga gb) c v hv, ha.wrow8 (by omega) _ _ _ _ _ _ _ _ _, hb2.wrow8 (by omega) _ _ _ _ _ _ _ _ _⟩
end
/-- A slice of the call's own: its steps stand in one block, their lists in blocks of the call's own besides. -/
def OwnStp (B : Nat) (w : World) (g n : Nat) (ss : List Stp) : Prop := ss.length = n ∧ B ≤ g ∧ FillO B w g n n ss
theorem OwnStp.rd {B : Nat} {w : World} {g n : Nat} {ss : List Stp} (h : OwnStp B w g n ss) : RdSt w (some ⟨g, 0, none⟩) n ss := h.2.2.rd h.1
theorem OwnStp.of_below {B : Nat} {w w' : World} {g n : Nat} {ss : List Stp} (h : OwnStp B w g n ss) (hb : Below w.heap.size w w') : OwnStp B w' g n ss := ⟨h.1, h.2.1, h.2.2.of_below hb⟩
def NewsStp (W : World) (n : Nat) (ss : List Stp) (e : Ending) (W' : World) : Prop := ∃ g, e = .returned (.slice (some ⟨g, 0, none⟩) n n) ∧ g < W'.heap.size ∧ OwnStp W.heap.size W' g n ss ∧ Below W.heap.size W W'
set_option maxRecDepth 10000 in
set_option maxHeartbeats 1000000 in
theorem toStepOSL (A : Option Addr) (n p : Nat) (ss : List Stp) (W : World) (hr : RdSt W A n ss) (hn : n + bigS ss ≤ 1048576) :
    Calls Try.prog 14 #[.slice A n p] W (NewsStp W n ss) := by
  obtain ⟨i0, hi, hz0, hz1, hz2⟩ := info_parts infoS
  have HR := Lib.hid hr
  have HN := Lib.hid hn
  have hn1 : (n : Int) ≤ 1048576 := by omega
  clear hr hn
  go_enter Try.func14, Try.ntmps14
  go_wp2_with (at_make; go_loud (refine wpList_make_full _ rfl _ _ 25 rfl W.heap.size 59 i0 zeroS 8 Try.underlying25 hi hz0 hz1 .i64 .i64 _ _ n rfl rfl rfl rfl (by rw [hz2]; omega) (by unfold maxLen; omega) (Nat.le_refl _) ?_); intro w1 hown hg)
  obtain ⟨g, hgd⟩ : ∃ g, g = W.heap.size := ⟨_, rfl⟩
  obtain ⟨cs, hbk, hcs⟩ := ownsRow_bk8 hown
  rw [← hgd] at hbk ⊢
  have hf0 : FillO g w1 g n 0 ss := FillO.zero hbk hcs
  have hb0 : Below g W w1 := hgd ▸ (Below.refl W.heap.size W).grown hg (Nat.le_refl _) (fun k hk => by cases hk)
  have HG := Lib.hid hgd
  clear hown hg hgd hbk hcs
  go_loopw [4] (fun i wr => ∃ k : Nat, k ≤ n ∧ i = .int .i64 k ∧ FillO g wr g n k ss ∧ Below g W wr) (fun i _ => n - (intOf i).toNat)
  case atStart => exact ⟨0, Nat.zero_le _, rfl, hf0, hb0⟩
  case round =>
    clear hf0 hb0
    obtain ⟨k, hk, rfl, hfl, hb⟩ := hrel
    by_cases hlt : k < n
    · obtain ⟨b, off, k', a', b', h', w', c', A', n', p', B', q', r', bs, xs, rfl, hbs, hj, hat⟩ := (HR.out.of_below (HG.out ▸ hb)).at hlt
      obtain ⟨rfl, rfl⟩ := hat.lens
      obtain ⟨c0, c1, c2, c3, c4, c5, c6, c7⟩ := hat.cells8
      have hbig := bigS_at8 hj
      have hn2 : bs.length ≤ 1048576 := by have := HN.out; omega
      have hq2 : xs.length ≤ 1048576 := by have := HN.out; omega
      have HJ := Lib.hid hj
      have HB := Lib.hid hb
      have HF := Lib.hid hfl
      have R1 := Lib.hid hat.rds.1
      have R2 := Lib.hid hat.rds.2
      have HN2 := Lib.hid hn2
      have HQ2 := Lib.hid hq2
      clear hat hj hbs hbig hn2 hq2 hfl hb
      have hi : (k : Int) < (n : Int) := by omega
      go_wp2_with fail
      clear c0 c1 c2 c3 c4 c5 c6 c7
      with_reducible refine (toStepO k' a' b' h' w' c' A' _ p' bs B' _ r' xs _ R1.out R2.out HN2.out HQ2.out).mono ?_
      rintro e w2 ⟨ga, gb, rfl, hga, hgb, oa, ob, b2⟩
      have hfl := HF.out.of_below b2
      have hgl := HF.out.lt
      have hb2 := HB.out.trans (b2.mono (Nat.le_of_lt hgl))
      obtain ⟨d0, e0⟩ := hfl.room (c := k * 8) (by omega)
      obtain ⟨d1, e1⟩ := hfl.room (c := k * 8 + 1) (by omega)
      obtain ⟨d2, e2⟩ := hfl.room (c := k * 8 + 2) (by omega)
      obtain ⟨d3, e3⟩ := hfl.room (c := k * 8 + 3) (by omega)
      obtain ⟨d4, e4⟩ := hfl.room (c := k * 8 + 4) (by omega)
      obtain ⟨d5, e5⟩ := hfl.room (c := k * 8 + 5) (by omega)
      obtain ⟨d6, e6⟩ := hfl.room (c := k * 8 + 6) (by omega)
      obtain ⟨d7, e7⟩ := hfl.room (c := k * 8 + 7) (by omega)
      have f0 := hfl.free (k * 8)
      have f1 := hfl.free (k * 8 + 1)
      have f2 := hfl.free (k * 8 + 2)
      have f3 := hfl.free (k * 8 + 3)
      have f4 := hfl.free (k * 8 + 4)
      have f5 := hfl.free (k * 8 + 5)
      have f6 := hfl.free (k * 8 + 6)
      have f7 := hfl.free (k * 8 + 7)
      have hnx := FillO.next HF.out b2 hlt HJ.out ga gb hga hgb (oa.base (Nat.le_of_lt hgl)) (ob.base (Nat.le_of_lt hgl))
      have HX := Lib.hid hnx
      have HBX := Lib.hid (below_wrow8 hb2 (Nat.le_refl g) (k * 8) (.int .i64 k') (.int .i64 a') (.int .i64 b') (.slice (some ⟨ga, 0, none⟩) bs.length bs.length) (.int .i64 h') (.int .i64 w') (.int .i64 c') (.slice (some ⟨gb, 0, none⟩) xs.length xs.length))
      clear hfl hgl hb2 hnx oa ob b2 hga hgb HJ HB HF R1 R2 HN2 HQ2
      go_wp2_with fail
      go_roundw
      case rel => exact ⟨k + 1, by omega, by go_num, HX.out, HBX.out⟩
      case measure => simp [intOf]; omega
    · obtain rfl : k = n := by omega
      have HB := Lib.hid hb
      have HF := Lib.hid hfl
      clear hb hfl
      go_wp2_with fail
      go_ret
      exact ⟨g, rfl, HF.out.lt, HG.out ▸ ⟨HR.out.1, Nat.le_refl _, HF.out⟩, HG.out ▸ HB.out⟩
end Qt
end Go.Proofs.Ytalkoaahhkafaaa
