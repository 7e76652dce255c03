/- The law of ShapesOf returns true and writes nothing that was there. Conditions: the slice of layers reads as the list that is named. -/
import Derived.Test.YtklefnmhknlilaaQBaseF
import Derived.Test.YtklefnmhknlilaaQBaseB
import Derived.Deep.RegionHeld3
import Derived.Deep.DeepCutAuto
import Derived.Outline
namespace Go.Proofs.Ytklefnmhknlilaa
open Go.RowKit Go.Sort
set_option linter.unusedSimpArgs false
set_option linter.unusedVariables false
namespace Qt
/-- The model that came in, the model's answer, and a copy of the model in a block of its own; the copy's other blocks are B .. C - 1. -/
structure LS (W : World) (h w c : Int) (A : Option Addr) (n p B C : Nat) (A0 : Option Addr) (cs : List Value) (gx : Nat) (u : World) : Prop where
  b : Below W.heap.size W u
  bm : Bk u W.heap.size 26 #[.int .i64 h, .int .i64 w, .int .i64 c, .slice A n p]
  o : OwnV 0 u A0 cs
  ob : ∀ a, 0 < cs.length → A0 = some a → a.block < B
  x : Bk u C 32 #[.int .i64 h, .int .i64 w, .int .i64 c, .slice (some ⟨gx, 0, none⟩) n n]
  l1 : W.heap.size < B
  l2 : B ≤ C
section
variable {W : World} {h w c : Int} {A : Option Addr} {n p B C : Nat} {A0 : Option Addr} {cs : List Value} {gx : Nat} {u u' : World}
theorem LS.below (hL : Hid (LS W h w c A n p B C A0 cs gx u)) (hb : Below u.heap.size u u') : Hid (LS W h w c A n p B C A0 cs gx u') :=
  Lib.hid ⟨hL.out.b.trans (hb.mono hL.out.b.size), hL.out.bm.below hb, hL.out.o.of_below hb, hL.out.ob, hL.out.x.below hb, hL.out.l1, hL.out.l2⟩
theorem LS.drew (hL : Hid (LS W h w c A n p B C A0 cs gx u)) : Hid (LS W h w c A n p B C A0 cs gx u.drew) := LS.below hL (Below.refl _ u).drew
theorem LS.touch (hL : Hid (LS W h w c A n p B C A0 cs gx u)) (ht : Touch B C u u') : Hid (LS W h w c A n p B C A0 cs gx u') := by
  have l1 := hL.out.l1
  have l2 := hL.out.l2
  have hs := hL.out.x.lt
  exact Lib.hid ⟨hL.out.b.trans ((ht.isBelow (by omega)).mono (by omega)), ht.bk hL.out.bm (by omega), ht.ownV hL.out.o (fun a hm he => .inl (hL.out.ob a hm he)), hL.out.ob, ht.bk hL.out.x (by omega), l1, l2⟩
theorem LS.grown (hL : Hid (LS W h w c A n p B C A0 cs gx u)) {g : Nat} (hg : u.grownBy u' (some g)) (hC : C < g) : Hid (LS W h w c A n p B C A0 cs gx u') := by
  have l1 := hL.out.l1
  have l2 := hL.out.l2
  exact Lib.hid ⟨hL.out.b.grown hg hL.out.b.size (fun r hr => by cases hr; omega), hL.out.bm.grown hg (fun e => by cases e; omega), hL.out.o.grown hg (fun q hm he => by have := hL.out.ob _ hm he; simp only at this; omega), hL.out.ob, hL.out.x.grown hg (fun e => by cases e; omega), l1, l2⟩
theorem LS.cells (hL : Hid (LS W h w c A n p B C A0 cs gx u)) : u.cell? ⟨C, 0, none⟩ = some (.int .i64 h) ∧ u.cell? ⟨C, 1, none⟩ = some (.int .i64 w) ∧ u.cell? ⟨C, 2, none⟩ = some (.int .i64 c) ∧ u.cell? ⟨C, 3, none⟩ = some (.slice (some ⟨gx, 0, none⟩) n n) ∧ u.cell? ⟨W.heap.size, 0, none⟩ = some (.int .i64 h) ∧ u.cell? ⟨W.heap.size, 1, none⟩ = some (.int .i64 w) ∧ u.cell? ⟨W.heap.size, 2, none⟩ = some (.int .i64 c) ∧ u.cell? ⟨W.heap.size, 3, none⟩ = some (.slice A n p) := by
  obtain ⟨a0, a1, a2, a3⟩ := hL.out.x.cell4
  obtain ⟨b0, b1, b2, b3⟩ := hL.out.bm.cell4
  exact ⟨a0, a1, a2, a3, b0, b1, b2, b3⟩
end
theorem SsR.own {W W' : World} {ss : List Sh} {e : Ending} (h : SsR W ss e W') : ∃ A cap, e = .returned (.slice A ss.length cap) ∧ OwnV W.heap.size W' A (shC ss) ∧ Below W.heap.size W W' := by
  obtain ⟨V, rfl, ho, hb⟩ := h
  have h' := ho
  rcases ho.2 with ⟨rfl, h0⟩ | ⟨g, cap, cur, rfl, _⟩
  · rw [h0] at h' ⊢; exact ⟨_, _, rfl, OwnV.of_own h' (by decide), hb⟩
  · exact ⟨_, _, rfl, OwnV.of_own h' (by decide), hb⟩
theorem shapesM_len (s : Sh) (ls : List Lay) : (shapesM s ls).length ≤ 7 := by
  unfold shapesM
  split
  · simp
  · rename_i ss e h
    obtain ⟨h1, h2, h3⟩ := modW_some h
    have := (way_facts h1).1
    omega
set_option maxRecDepth 100000 in
set_option maxHeartbeats 8000000 in
theorem shapesLaw (h w c : Int) (A : Option Addr) (n p : Nat) (ls : List Lay) (W : World) (hr : RdLT W A n ls) :
    Calls Try.prog 4 #[.agg #[.int .i64 h, .int .i64 w, .int .i64 c, .slice A n p]] W fun e W' => e = .returned (.bool true) ∧ Below W.heap.size W W' := by
  have HR0 := Lib.hid hr.1
  obtain ⟨hr, hm⟩ := hr
  have P : Hid (KJ W (JM h w c A n p ls W.heap.size) (W.alloc (.cells #[.int .i64 h, .int .i64 w, .int .i64 c, .slice A n p] 26))) := Lib.hid ⟨JM.st, ⟨Bk.new W _ _, hr.of_below ((Below.refl _ W).alloc (Nat.le_refl _) _)⟩, (Below.refl _ W).alloc (Nat.le_refl _) _⟩
  have HM := Lib.hid hm
  clear hr hm
  go_enter Try.func4, Try.ntmps4
  go_wp2_with fail
  generalize W.alloc (.cells #[.int .i64 h, .int .i64 w, .int .i64 c, .slice A n p] 26) = v0 at P ⊢
  by_cases hn : (n : Int) + big ls ≤ 1048576
  case neg =>
    with_reducible refine (szModel_no h w c A n p ls 1048576 _ (rdLT_mk P.out.j.r HM.out) (by omega) (by omega) (by omega)).mono ?_
    rintro e u1 ⟨rfl, b1⟩
    replace P := KJ.below P b1
    clear b1
    go_wp2
    go_ret
    exact ⟨rfl, P.out.b⟩
  with_reducible refine (szModel_yes h w c A n p ls 1048576 _ (rdLT_mk P.out.j.r HM.out) (by omega) (by omega) hn).mono ?_
  rintro e u1 ⟨rfl, b1⟩
  replace P := KJ.below P b1
  clear b1
  have HN : Hid (n + big ls ≤ 1048576) := Lib.hid (by omega)
  have hleft : 0 ≤ 1048576 - (n : Int) - big ls := by omega
  clear hn HM
  obtain ⟨a0, a1, a2, a3⟩ := P.out.j.b.cell4
  go_wp2_with fail
  clear a0 a1 a2 a3 hleft
  with_reducible refine (toModelO h w c A n p ls _ P.out.j.r HN.out).mono ?_
  rintro e u2 ⟨g2, rfl, _, r2, b2⟩
  replace P := KJ.below P b2
  have R2 := Lib.hid r2
  clear r2 b2
  obtain ⟨xs, hxs⟩ : ∃ xs, shapesM (h, w, c) ls = xs := ⟨_, rfl⟩
  have hlen : xs.length ≤ 7 := by rw [← hxs]; exact shapesM_len _ _
  have HXS := Lib.hid hxs
  clear hxs
  obtain ⟨m, hm⟩ : ∃ m, xs.length = m := ⟨_, rfl⟩
  rw [hm] at hlen
  have HM := Lib.hid hm
  clear hm
  go_wp2_with fail
  have HC := shapesOfS h w c _ n n ls _ R2.out.rdL HN.out
  rw [HXS.out] at HC
  with_reducible refine HC.mono ?_
  clear HC
  intro e u3 hc
  obtain ⟨A0, cap0, rfl, ho, b3⟩ := hc.own
  rw [HM.out]
  replace P := KJ.below P b3
  have O0 := Lib.hid ho
  have hlB := P.out.j.b.lt
  clear b3 R2 hc ho
  obtain ⟨a0, a1, a2, a3⟩ := P.out.j.b.cell4
  go_wp2_with fail
  clear a0 a1 a2 a3
  with_reducible refine (toModelO h w c A n p ls _ P.out.j.r HN.out).mono ?_
  rintro e u4 ⟨gx, rfl, _, r4, b4⟩
  have ba := (Below.refl _ u4).alloc (Nat.le_refl _) (.cells #[.int .i64 h, .int .i64 w, .int .i64 c, .slice (some ⟨gx, 0, none⟩) n n] 32)
  have hob := O0.out.blk
  have L : Hid (LS W h w c A n p u3.heap.size u4.heap.size A0 (shC xs) gx (u4.alloc (.cells #[.int .i64 h, .int .i64 w, .int .i64 c, .slice (some ⟨gx, 0, none⟩) n n] 32))) := Lib.hid ⟨(P.out.b.trans (b4.mono P.out.b.size)).trans (ba.mono (Nat.le_trans P.out.b.size b4.size)), (P.out.j.b.below b4).below ba, ((O0.out.of_below b4).of_below ba).base (Nat.zero_le _), fun a hm he => (hob a (by simpa using hm) he).2, Bk.new u4 _ _, hlB, b4.size⟩
  have R4 := Lib.hid r4
  have hsz : (u4.alloc (.cells #[.int .i64 h, .int .i64 w, .int .i64 c, .slice (some ⟨gx, 0, none⟩) n n] 32)).heap.size = u4.heap.size + 1 := by simp
  have HX := Lib.hid (r4.rdL.of_below ba)
  have BA := Lib.hid ba
  clear r4 b4 P O0 ba hob hlB
  go_wp2_with fail
  generalize hu5 : u4.alloc (.cells #[.int .i64 h, .int .i64 w, .int .i64 c, .slice (some ⟨gx, 0, none⟩) n n] 32) = u5 at L HX BA hsz ⊢
  clear hu5
  generalize hB : u3.heap.size = B at L R4 ⊢
  clear hB
  have HC := shapesOfI h w c _ n n ls _ HX.out HN.out
  rw [HXS.out] at HC
  with_reducible refine HC.mono ?_
  clear HC
  intro e u6 hc
  obtain ⟨A1, cap1, rfl, ho, b6⟩ := hc.own
  rw [HM.out]
  replace L := LS.below L b6
  have G : Hid (OwnV (u4.heap.size + 1) u6 A1 (shC xs)) := Lib.hid (ho.base (by rw [hsz]; exact Nat.le_refl _))
  have BV := Lib.hid (BA.out.trans (b6.mono BA.out.size))
  clear hc ho b6 HX hsz BA
  go_wp2_with fail
  with_reducible refine (eqShapeS_same A1 A0 m cap1 cap0 _ _ xs _ HM.out G.out L.out.o (by omega)).mono ?_
  rintro e u7 ⟨rfl, bq⟩
  replace L := LS.below L bq
  replace G := Lib.hid (G.out.of_below bq)
  replace BV := Lib.hid (BV.out.trans (bq.mono BV.out.size))
  clear bq
  go_wp2_with fail
  have L1 := LS.drew L
  have SS1 := LS.cells L1
  go_region_held3 (fun w' => w'.cell? ⟨u4.heap.size, 0, none⟩ = some (.int .i64 h) ∧ w'.cell? ⟨u4.heap.size, 1, none⟩ = some (.int .i64 w) ∧ w'.cell? ⟨u4.heap.size, 2, none⟩ = some (.int .i64 c) ∧ w'.cell? ⟨u4.heap.size, 3, none⟩ = some (.slice (some ⟨gx, 0, none⟩) n n) ∧ w'.cell? ⟨W.heap.size, 0, none⟩ = some (.int .i64 h) ∧ w'.cell? ⟨W.heap.size, 1, none⟩ = some (.int .i64 w) ∧ w'.cell? ⟨W.heap.size, 2, none⟩ = some (.int .i64 c) ∧ w'.cell? ⟨W.heap.size, 3, none⟩ = some (.slice A n p))
    (first
      | with_reducible exact SS
      | with_reducible exact SS1)
    (first
      | (go_at_call 14; (with_reducible refine (toModelO h w c A n p ls _ (HR0.out.of_below L1.out.b) HN.out).mono ?_); rintro e uq ⟨gy, rfl, _, ry, bb⟩; have RY := Lib.hid ry.rdL; clear ry; have PP := LS.below L1 bb; have GG := Lib.hid ((G.out.of_below (Below.refl _ u7).drew).of_below bb); have BW := Lib.hid ((BV.out.trans ((Below.refl _ u7).drew.mono BV.out.size)).trans (bb.mono (by exact BV.out.size))); have SS := LS.cells PP)
      | (go_at_call 16; (with_reducible refine (eqModel_same h w c _ _ n _ _ ls _ (R4.out.of_below BW.out).rdL RY.out HN.out).mono ?_); rintro e uq2 ⟨rfl, bb2⟩; have PF := LS.below PP bb2; have GF := Lib.hid (GG.out.of_below bb2); have BF := Lib.hid (BW.out.trans (bb2.mono BW.out.size)); have SS := LS.cells PF))
  have L9 := PF
  have G9 := GF
  have B9 := BF
  clear L G BV PP GG BW SS SS1 L1 RY
  obtain ⟨x0, x1, x2, x3⟩ := L9.out.x.cell4
  go_wp2_with fail
  clear x0 x1 x2 x3
  with_reducible refine (markModelL h w c gx n _ B ls u4 _ 1 R4.out B9.out HN.out (by omega) (by omega)).mono ?_
  rintro e u10 ⟨rfl, ht⟩
  have L := LS.touch L9 ht
  have G := Lib.hid (G9.out.touch ht (by omega))
  clear ht L9 G9 B9 PF GF BF R4
  have hkk : ¬ (1 + 7 * (n : Int) + big ls < 0) := by omega
  go_wp2_with fail
  clear hkk
  with_reducible refine (eqShapeS_same A1 A0 m cap1 cap0 _ _ xs _ HM.out G.out L.out.o (by omega)).mono ?_
  rintro e u11 ⟨rfl, bq⟩
  replace L := LS.below L bq
  replace G := Lib.hid (G.out.of_below bq)
  clear bq
  obtain ⟨g1, hg1, hC1⟩ : ∃ g1, (0 < m → A1 = some ⟨g1, 0, none⟩) ∧ u4.heap.size < g1 := by
    by_cases h0 : 0 < m
    · obtain ⟨g1, e, hB, _⟩ := G.out (by rw [shC_length, HM.out]; omega)
      exact ⟨g1, fun _ => e, by omega⟩
    · exact ⟨u4.heap.size + 1, fun h => absurd h h0, by omega⟩
  have HG1 := Lib.hid hg1
  have HC1 := Lib.hid hC1
  clear hg1 hC1
  go_wp2_with fail
  with_reducible refine (markShapeSL A1 m cap1 _ g1 (shC xs) 1 _ (by rw [shC_length, HM.out]) G.out HG1.out (by omega) (by omega) (by omega)).mono ?_
  rintro e u13 ⟨rfl, hm1, hg⟩
  replace L := LS.grown L hg HC1.out
  replace G := Lib.hid hm1
  clear hm1 hg
  go_wp2_with fail
  with_reducible refine (heldShapeSL A1 m cap1 _ 1 _ G.out (by omega) (by omega) (by omega)).mono ?_
  rintro e u14 ⟨rfl, b14⟩
  replace L := LS.below L b14
  replace G := Lib.hid (G.out.of_below b14)
  clear b14
  have hq1 : ¬ (1 + 3 * (m : Int) < 0) := by omega
  have hq2 : ((1 + 3 * (m : Int)) != (1 + 3 * (m : Int))) = false := by simp
  obtain ⟨b0, b1, b2, b3⟩ := L.out.bm.cell4
  go_wp2_with fail
  clear b0 b1 b2 b3 hq1 hq2
  with_reducible refine (toModelO h w c A n p ls _ (HR0.out.of_below L.out.b) HN.out).mono ?_
  rintro e u15 ⟨gz, rfl, _, rz, b15⟩
  replace L := LS.below L b15
  replace G := Lib.hid (G.out.of_below b15)
  have RZ := Lib.hid rz.rdL
  clear rz b15
  go_wp2_with fail
  have HC := shapesOfI h w c _ n n ls _ RZ.out HN.out
  rw [HXS.out] at HC
  with_reducible refine HC.mono ?_
  clear HC
  intro e u16 hc
  obtain ⟨A2, cap2, rfl, ho, b16⟩ := hc.own
  rw [HM.out]
  replace L := LS.below L b16
  replace G := Lib.hid (G.out.of_below b16)
  have O2 := Lib.hid ho
  clear hc ho b16 RZ
  go_wp2_with fail
  with_reducible refine (eqShapeS_same A2 A0 m cap2 cap0 _ _ xs _ HM.out O2.out L.out.o (by omega)).mono ?_
  rintro e u17 ⟨rfl, bq⟩
  replace L := LS.below L bq
  replace G := Lib.hid (G.out.of_below bq)
  clear O2 bq
  go_wp2_with fail
  with_reducible refine (heldShapeSL A1 m cap1 _ 1 _ G.out (by omega) (by omega) (by omega)).mono ?_
  rintro e u19 ⟨rfl, b19⟩
  replace L := LS.below L b19
  clear b19 G
  have hq1 : ¬ (1 + 3 * (m : Int) < 0) := by omega
  have hq2 : ((1 + 3 * (m : Int)) != (1 + 3 * (m : Int))) = false := by simp
  go_wp2_with fail
  go_ret
  exact ⟨rfl, L.out.b⟩
end Qt
end Go.Proofs.Ytklefnmhknlilaa
