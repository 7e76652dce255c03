/- What the laws' own helpers on lists of layers (toLayerS, toModel) give when they are called: layers in blocks of their own. Conditions: the slice of layers reads as the list that is named. -/
import Derived.Test.YtklefnmhknlilaaLay1O
import Derived.OwnWalk
import Derived.Outline
namespace Go.Proofs.Ytklefnmhknlilaa
open Go.RowKit
namespace Qt
def zeroL : Value := .agg #[.int .i64 0, .int .i64 0, .int .i64 0, .int .i64 0, .int .i64 0, .int .i64 0, .int .i64 0, .slice none 0 0, .slice none 0 0]
theorem infoL : (Try.prog.info? 62).map (fun i => (i.zero, i.size, i.bytes)) = some (some zeroL, 9, 104) := by kernel_rfl
theorem ownsRow_bk {w : World} {base g n c : Nat} {t : TypeId} {size : Nat} {xs : List Value} (h : w.ownsRow base t size (.slice (some ⟨g, 0, none⟩) n c) n xs) : ∃ cs, Bk w g t cs ∧ cs.size = c * size := by
  rcases h.2 with ⟨h', _⟩ | ⟨g', cap, cur, hv, _, hg, _, _, hs, _⟩
  · simp at h'
  · injection hv with e1 _ e3
    cases e1; cases e3
    exact ⟨cur, hg, hs⟩
theorem Filled.zero {B : Nat} {w : World} {g n : Nat} {cs : Array Value} {ls : List Lay} (h : Bk w g 62 cs) (hs : cs.size = n * 9) : Filled B w g n 0 ls := ⟨cs, h, hs, fun j l hj => absurd hj (by omega)⟩
/-- The cells of the place that is to be filled stand, not frozen. -/
theorem Filled.room {B : Nat} {w : World} {g n k : Nat} {ls : List Lay} (h : Filled B w g n k ls) {c : Nat} (hc : c < n * 9) : ∃ v, w.cell? ⟨g, c, none⟩ = some v := by
  obtain ⟨cs, hB, hs, _⟩ := h
  exact ⟨cs[c]'(by omega), hB.cell c (Array.getElem?_eq_getElem (by omega))⟩
theorem Filled.free {B : Nat} {w : World} {g n k : Nat} {ls : List Lay} (h : Filled B w g n k ls) (c : Nat) : w.frozen? ⟨g, c, none⟩ = false := by
  obtain ⟨cs, hB, _⟩ := h
  exact hB.frozen c
theorem Filled.lt {B : Nat} {w : World} {g n k : Nat} {ls : List Lay} (h : Filled B w g n k ls) : g < w.heap.size := by
  obtain ⟨cs, hB, _⟩ := h
  exact hB.lt
def NewLs (W : World) (n : Nat) (ls : List Lay) (e : Ending) (W' : World) : Prop := ∃ g, e = .returned (.slice (some ⟨g, 0, none⟩) n n) ∧ W.heap.size ≤ g ∧ OwnL W.heap.size W' (some ⟨g, 0, none⟩) n ls ∧ Below W.heap.size W W'
set_option maxRecDepth 10000 in
theorem toLayerSL (A : Option Addr) (n p : Nat) (ls : List Lay) (W : World) (hr : RdL W A n ls) (hn : n + big ls ≤ 1048576) :
    Calls Try.prog 44 #[.slice A n p] W (NewLs W n ls) := by
  obtain ⟨i0, hi, hz0, hz1, hz2⟩ := info_parts infoL
  have HR := Lib.hid hr
  have HN := Lib.hid hn
  have hn1 : (n : Int) ≤ 1048576 := by omega
  clear hr hn
  go_enter Try.func44, Try.ntmps44
  go_wp2_with (at_make; go_loud (refine wpList_make_full _ rfl _ _ 30 rfl W.heap.size 62 i0 zeroL 9 Try.underlying30 hi hz0 hz1 .i64 .i64 _ _ n rfl rfl rfl rfl (by rw [hz2]; omega) (by unfold maxLen; omega) (Nat.le_refl _) ?_); intro w1 hown hg)
  obtain ⟨g, hgd⟩ : ∃ g, g = W.heap.size := ⟨_, rfl⟩
  obtain ⟨cs, hbk, hcs⟩ := ownsRow_bk hown
  rw [← hgd] at hbk ⊢
  have hf0 : Filled g w1 g n 0 ls := Filled.zero hbk hcs
  have hb0 : Below g W w1 := hgd ▸ (Below.refl W.heap.size W).grown hg (Nat.le_refl _) (fun k hk => by cases hk)
  have HG := Lib.hid hgd
  clear hown hg hgd hbk hcs
  go_loopw [4] (fun i wr => ∃ k : Nat, k ≤ n ∧ i = .int .i64 k ∧ Filled g wr g n k ls ∧ Below g W wr) (fun i _ => n - (intOf i).toNat)
  case atStart => exact ⟨0, Nat.zero_le _, rfl, hf0, hb0⟩
  case round =>
    clear hf0 hb0
    obtain ⟨k, hk, rfl, hfl, hb⟩ := hrel
    by_cases hlt : k < n
    · obtain ⟨b, off, k', o, s, t, m, f, z, A', n', p', B', q', r', xs, ys, rfl, hbs, hj, hat⟩ := (HR.out.of_below (HG.out ▸ hb)).at hlt
      obtain ⟨c0, c1, c2, c3, c4, c5, c6, c7, c8⟩ := hat.cells9
      have hbig := big_at9 hj
      have hn2 : n' ≤ 1048576 := by have := hat.lens; have := HN.out; omega
      have hq2 : q' ≤ 1048576 := by have := hat.lens; have := HN.out; omega
      have HJ := Lib.hid hj
      have HB := Lib.hid hb
      have HF := Lib.hid hfl
      have R1 := Lib.hid hat.rds.1
      have R2 := Lib.hid hat.rds.2
      have HN2 := Lib.hid hn2
      have HQ2 := Lib.hid hq2
      clear hat hj hbs hbig hn2 hq2 hfl hb
      have hi : (k : Int) < (n : Int) := by omega
      go_wp2_with fail
      clear c0 c1 c2 c3 c4 c5 c6 c7 c8
      with_reducible refine (toLayerO k' o s t m f z A' n' p' xs B' q' r' ys _ R1.out R2.out HN2.out HQ2.out).mono ?_
      rintro e w2 ⟨ga, gb, rfl, hga, hgb, oa, ob, b2⟩
      have hfl := HF.out.of_below b2
      have hgl := HF.out.lt
      have hgs := HB.out.size
      have hb2 := HB.out.trans (b2.mono (Nat.le_of_lt hgl))
      obtain ⟨d0, e0⟩ := hfl.room (c := k * 9) (by omega)
      obtain ⟨d1, e1⟩ := hfl.room (c := k * 9 + 1) (by omega)
      obtain ⟨d2, e2⟩ := hfl.room (c := k * 9 + 2) (by omega)
      obtain ⟨d3, e3⟩ := hfl.room (c := k * 9 + 3) (by omega)
      obtain ⟨d4, e4⟩ := hfl.room (c := k * 9 + 4) (by omega)
      obtain ⟨d5, e5⟩ := hfl.room (c := k * 9 + 5) (by omega)
      obtain ⟨d6, e6⟩ := hfl.room (c := k * 9 + 6) (by omega)
      obtain ⟨d7, e7⟩ := hfl.room (c := k * 9 + 7) (by omega)
      obtain ⟨d8, e8⟩ := hfl.room (c := k * 9 + 8) (by omega)
      have f0 := hfl.free (k * 9)
      have f1 := hfl.free (k * 9 + 1)
      have f2 := hfl.free (k * 9 + 2)
      have f3 := hfl.free (k * 9 + 3)
      have f4 := hfl.free (k * 9 + 4)
      have f5 := hfl.free (k * 9 + 5)
      have f6 := hfl.free (k * 9 + 6)
      have f7 := hfl.free (k * 9 + 7)
      have f8 := hfl.free (k * 9 + 8)
      have hnx := Filled.next hfl hlt HJ.out ⟨some ⟨ga, 0, none⟩, n', n', some ⟨gb, 0, none⟩, q', q'⟩ (oa.base (by omega)) (ob.base (by omega)) (fun a ha => by cases ha; simp only; omega) (fun a ha => by cases ha; simp only; omega)
      have HX := Lib.hid hnx
      have HBX := Lib.hid (below_set9i hb2 (Nat.le_refl g) (k * 9) (.int .i64 k') (.int .i64 o) (.int .i64 s) (.int .i64 t) (.int .i64 m) (.int .i64 f) (.int .i64 z) (.slice (some ⟨ga, 0, none⟩) n' n') (.slice (some ⟨gb, 0, none⟩) q' q'))
      clear hfl hgl hgs hb2 hnx oa ob b2 hga hgb HJ HB HF R1 R2 HN2 HQ2
      go_wp2_with fail
      go_roundw
      case rel => exact ⟨k + 1, by omega, by go_num, HX.out, HBX.out⟩
      case measure => simp [intOf]; omega
    · obtain rfl : k = n := by omega
      have HB := Lib.hid hb
      have HF := Lib.hid hfl
      clear hb hfl
      go_wp2_with fail
      go_ret
      exact ⟨g, rfl, Nat.le_of_eq HG.out.symm, ⟨HR.out.1, g, rfl, Nat.le_of_eq HG.out.symm, HG.out ▸ HF.out⟩, HG.out ▸ HB.out⟩
/-- A new model that holds these layers, in blocks of its own. -/
def NewM (W : World) (h w c : Int) (n : Nat) (ls : List Lay) (e : Ending) (W' : World) : Prop :=
  ∃ g, e = .returned (.agg #[.int .i64 h, .int .i64 w, .int .i64 c, .slice (some ⟨g, 0, none⟩) n n]) ∧ W.heap.size ≤ g ∧ OwnL W.heap.size W' (some ⟨g, 0, none⟩) n ls ∧ Below W.heap.size W W'
theorem toModelO (h w c : Int) (A : Option Addr) (n p : Nat) (ls : List Lay) (W : World) (hr : RdL W A n ls) (hn : n + big ls ≤ 1048576) :
    Calls Try.prog 14 #[.agg #[.int .i64 h, .int .i64 w, .int .i64 c, .slice A n p]] W (NewM W h w c n ls) := by
  have HN := Lib.hid hn
  have HR := Lib.hid hr
  clear hn hr
  go_enter Try.func14, Try.ntmps14
  go_wp2_with fail
  refine (toShapeL h w c _).mono ?_
  rintro e w1 ⟨rfl, b1⟩
  have k0 := (((Bk.new W 26 #[.int .i64 h, .int .i64 w, .int .i64 c, .slice A n p]).alloc _).alloc _).below b1
  have k2 := ((Bk.new (W.alloc (.cells #[.int .i64 h, .int .i64 w, .int .i64 c, .slice A n p] 26)) 32 #[.int .i64 0, .int .i64 0, .int .i64 0, .slice none 0 0]).alloc _).below b1
  have k3 := (Bk.new ((W.alloc (.cells #[.int .i64 h, .int .i64 w, .int .i64 c, .slice A n p] 26)).alloc (.cells #[.int .i64 0, .int .i64 0, .int .i64 0, .slice none 0 0] 32)) 32 #[.int .i64 0, .int .i64 0, .int .i64 0, .slice none 0 0]).below b1
  have b0 : Below W.heap.size W w1 := (((Below.refl _ W).alloc (Nat.le_refl _) _).alloc (by simp) _).alloc (by simp only [World.size_alloc]; omega) _ |>.trans (b1.mono (by simp only [World.size_alloc]; omega))
  simp only [World.size_alloc] at k2 k3
  clear b1
  have G2 := Lib.hid (show W.heap.size ≤ W.heap.size + 1 by omega)
  have G3 := Lib.hid (show W.heap.size ≤ W.heap.size + 1 + 1 by omega)
  have N23 := Lib.hid (show W.heap.size + 1 ≠ W.heap.size + 1 + 1 by omega)
  generalize W.heap.size + 1 + 1 = g3 at k3 G3 N23 ⊢
  generalize W.heap.size + 1 = g2 at k2 G2 N23 ⊢
  obtain ⟨c0, c1, c2, c3⟩ := k0.cell4
  obtain ⟨d0, d1, d2, d3⟩ := k3.cell4
  obtain ⟨f0, f1, f2, f3⟩ := k3.free4
  have B1 := Lib.hid b0
  have K2 := Lib.hid k2
  have K3 := Lib.hid k3
  clear k0 k2 k3 b0
  go_wp2_with fail
  have b4 := below_set3 B1.out G3.out (.int .i64 h) (.int .i64 w) (.int .i64 c)
  have k3 := ((K3.out.set 0 (.int .i64 h)).set 1 (.int .i64 w)).set 2 (.int .i64 c)
  have k2 := K2.out.far3 N23.out (.int .i64 h) (.int .i64 w) (.int .i64 c)
  simp only [List.setIfInBounds_toArray, List.set_cons_zero, List.set_cons_succ] at k3
  clear c0 c1 c2 c3 d0 d1 d2 d3 f0 f1 f2 f3 B1 K2 K3
  generalize ((w1.setCell { block := g3, off := 0 } (.int .i64 h)).setCell { block := g3, off := 1 } (.int .i64 w)).setCell { block := g3, off := 2 } (.int .i64 c) = w4 at b4 k3 k2 ⊢
  refine (toLayerSL A n p ls _ (HR.out.of_below b4) HN.out).mono ?_
  rintro e w5 ⟨g, rfl, hg, r5, b5⟩
  have hg3 := k3.lt
  have hg2 := k2.lt
  have NG := Lib.hid (show g ≠ g3 ∧ g ≠ g2 by omega)
  have LG := Lib.hid (show W.heap.size ≤ g from Nat.le_trans b4.size hg)
  have L3 := Lib.hid hg3
  have L2 := Lib.hid hg2
  have LB := Lib.hid b4.size
  replace k3 := k3.below b5
  replace k2 := k2.below b5
  have B5 := Lib.hid (b4.trans (b5.mono b4.size))
  obtain ⟨d0, d1, d2, d3⟩ := k3.cell4
  obtain ⟨f0, f1, f2, f3⟩ := k3.free4
  obtain ⟨i0, i1, i2, i3⟩ := k2.cell4
  obtain ⟨j0, j1, j2, j3⟩ := k2.free4
  have R5 := Lib.hid r5
  have K2 := Lib.hid k2
  clear k2 k3 hg3 hg2 hg r5 b5 b4 HR HN
  have hne : g2 ≠ g3 := N23.out
  go_wp2_with fail
  have k9 := (K2.out.far (p := ⟨g3, 3, none⟩) N23.out (.slice (some ⟨g, 0, none⟩) n n)).set4 (x := .int .i64 h) (y := .int .i64 w) (z := .int .i64 c) (u := .slice (some ⟨g, 0, none⟩) n n)
  have r9 := (((((R5.out.low (p := ⟨g3, 3, none⟩) L3.out (.slice (some ⟨g, 0, none⟩) n n)).low (p := ⟨g2, 0, none⟩) L2.out (.int .i64 h)).low (p := ⟨g2, 1, none⟩) L2.out (.int .i64 w)).low (p := ⟨g2, 2, none⟩) L2.out (.int .i64 c)).low (p := ⟨g2, 3, none⟩) L2.out (.slice (some ⟨g, 0, none⟩) n n)).base LB.out
  have b9 := below_set4 (B5.out.setCell (p := ⟨g3, 3, none⟩) G3.out (.slice (some ⟨g, 0, none⟩) n n)) G2.out (.int .i64 h) (.int .i64 w) (.int .i64 c) (.slice (some ⟨g, 0, none⟩) n n)
  obtain ⟨z0, z1, z2, z3⟩ := k9.cell4
  refine bodyPost_ret (v := .agg #[.int .i64 h, .int .i64 w, .int .i64 c, .slice (some ⟨g, 0, none⟩) n n]) ?_ rfl ⟨g, rfl, LG.out, r9, b9⟩
  clear k9 r9 b9 d0 d1 d2 d3 f0 f1 f2 f3 i0 i1 i2 i3 j0 j1 j2 j3
  generalize ((((w5.setCell { block := g3, off := 3 } (.slice (some { block := g, off := 0 }) n n)).setCell { block := g2, off := 0 } (.int .i64 h)).setCell { block := g2, off := 1 } (.int .i64 w)).setCell { block := g2, off := 2 } (.int .i64 c)).setCell { block := g2, off := 3 } (.slice (some { block := g, off := 0 }) n n) = w9 at z0 z1 z2 z3 ⊢
  simp [results, Try.results14, go_sem, z0, z1, z2, z3]


end Qt
end Go.Proofs.Ytklefnmhknlilaa
