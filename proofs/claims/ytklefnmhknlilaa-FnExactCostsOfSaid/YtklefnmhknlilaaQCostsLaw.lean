/- The law of CostsOf returns true and writes nothing that was there. Conditions: the slice of layers reads as the list that is named. -/
import Derived.Test.YtklefnmhknlilaaQBaseF
import Derived.Test.YtklefnmhknlilaaQBaseE
import Derived.Test.YtklefnmhknlilaaQBaseB
import Derived.Deep.RegionHeld3
import Derived.Deep.DeepCutAuto
import Derived.Outline
namespace Go.Proofs.Ytklefnmhknlilaa
open Go.RowKit Go.Sort
set_option linter.unusedSimpArgs false
set_option linter.unusedVariables false
namespace Qt
set_option maxRecDepth 100000 in
set_option maxHeartbeats 8000000 in
theorem costsLaw (h w c : Int) (A : Option Addr) (n p : Nat) (ls : List Lay) (W : World) (hr : RdLT W A n ls) :
    Calls Try.prog 5 #[.agg #[.int .i64 h, .int .i64 w, .int .i64 c, .slice A n p]] W fun e W' => e = .returned (.bool true) ∧ Below W.heap.size W W' := by
  have HR0 := Lib.hid hr.1
  obtain ⟨hr, hm⟩ := hr
  have P : Hid (KJ W (JM h w c A n p ls W.heap.size) (W.alloc (.cells #[.int .i64 h, .int .i64 w, .int .i64 c, .slice A n p] 26))) := Lib.hid ⟨JM.st, ⟨Bk.new W _ _, hr.of_below ((Below.refl _ W).alloc (Nat.le_refl _) _)⟩, (Below.refl _ W).alloc (Nat.le_refl _) _⟩
  have HM := Lib.hid hm
  clear hr hm
  go_enter Try.func5, Try.ntmps5
  go_wp2_with fail
  generalize W.alloc (.cells #[.int .i64 h, .int .i64 w, .int .i64 c, .slice A n p] 26) = v0 at P ⊢
  by_cases hn : (n : Int) + big ls ≤ 1048576
  case neg =>
    with_reducible refine (szModel_no h w c A n p ls 1048576 _ (rdLT_mk P.out.j.r HM.out) (by omega) (by omega) (by omega)).mono ?_
    rintro e u1 ⟨rfl, b1⟩
    replace P := KJ.below P b1
    clear b1
    go_wp2
    go_ret
    exact ⟨rfl, P.out.b⟩
  with_reducible refine (szModel_yes h w c A n p ls 1048576 _ (rdLT_mk P.out.j.r HM.out) (by omega) (by omega) hn).mono ?_
  rintro e u1 ⟨rfl, b1⟩
  replace P := KJ.below P b1
  clear b1
  have HN : Hid (n + big ls ≤ 1048576) := Lib.hid (by omega)
  have hleft : 0 ≤ 1048576 - (n : Int) - big ls := by omega
  clear hn HM
  obtain ⟨a0, a1, a2, a3⟩ := P.out.j.b.cell4
  go_wp2_with fail
  clear a0 a1 a2 a3 hleft
  with_reducible refine (toModelO h w c A n p ls _ P.out.j.r HN.out).mono ?_
  rintro e u2 ⟨g2, rfl, _, r2, b2⟩
  replace P := KJ.below P b2
  have R2 := Lib.hid r2
  clear r2 b2
  obtain ⟨xs, hxs⟩ : ∃ xs, costM (h, w, c) ls = xs := ⟨_, rfl⟩
  have hlen : xs.length ≤ 6 := by rw [← hxs]; exact costM_len _ _
  have HXS := Lib.hid hxs
  clear hxs
  obtain ⟨m, hm⟩ : ∃ m, xs.length = m := ⟨_, rfl⟩
  rw [hm] at hlen
  have HM := Lib.hid hm
  clear hm
  go_wp2_with fail
  have HC := costsOfS h w c _ n n ls _ R2.out.rdL HN.out
  rw [HXS.out] at HC
  with_reducible refine HC.mono ?_
  clear HC
  intro e u3 hc
  obtain ⟨A0, cap0, rfl, ho, b3⟩ := hc.own
  rw [HM.out] at ho ⊢
  replace P := KJ.below P b3
  have O0 := Lib.hid ho
  have hlB := P.out.j.b.lt
  clear b3 R2 hc ho
  obtain ⟨a0, a1, a2, a3⟩ := P.out.j.b.cell4
  go_wp2_with fail
  clear a0 a1 a2 a3
  with_reducible refine (toModelO h w c A n p ls _ P.out.j.r HN.out).mono ?_
  rintro e u4 ⟨gx, rfl, _, r4, b4⟩
  have ba := (Below.refl _ u4).alloc (Nat.le_refl _) (.cells #[.int .i64 h, .int .i64 w, .int .i64 c, .slice (some ⟨gx, 0, none⟩) n n] 32)
  have hob := O0.out.blk
  have L : Hid (LW W h w c A n p u3.heap.size u4.heap.size A0 m xs gx (u4.alloc (.cells #[.int .i64 h, .int .i64 w, .int .i64 c, .slice (some ⟨gx, 0, none⟩) n n] 32))) := Lib.hid ⟨(P.out.b.trans (b4.mono P.out.b.size)).trans (ba.mono (Nat.le_trans P.out.b.size b4.size)), (P.out.j.b.below b4).below ba, ((O0.out.of_below b4).of_below ba).base (Nat.zero_le _), fun a hm he => (hob a hm he).2, Bk.new u4 _ _, hlB, b4.size⟩
  have R4 := Lib.hid r4
  have hsz : (u4.alloc (.cells #[.int .i64 h, .int .i64 w, .int .i64 c, .slice (some ⟨gx, 0, none⟩) n n] 32)).heap.size = u4.heap.size + 1 := by simp
  have HX := Lib.hid (r4.rdL.of_below ba)
  have BA := Lib.hid ba
  clear r4 b4 P O0 ba hob hlB
  go_wp2_with fail
  generalize hu5 : u4.alloc (.cells #[.int .i64 h, .int .i64 w, .int .i64 c, .slice (some ⟨gx, 0, none⟩) n n] 32) = u5 at L HX BA hsz ⊢
  clear hu5
  generalize hB : u3.heap.size = B at L R4 ⊢
  clear hB
  have HC := costsOfI h w c _ n n ls _ HX.out HN.out
  rw [HXS.out] at HC
  with_reducible refine HC.mono ?_
  clear HC
  intro e u6 hc
  obtain ⟨A1, cap1, rfl, ho, b6⟩ := hc.own
  rw [HM.out] at ho ⊢
  replace L := LW.below L b6
  have G : Hid (OwnI (u4.heap.size + 1) u6 A1 m xs) := Lib.hid (ho.base (by rw [hsz]; exact Nat.le_refl _))
  have BV := Lib.hid (BA.out.trans (b6.mono BA.out.size))
  clear hc ho b6 HX hsz BA
  go_wp2_with fail
  with_reducible refine (eqIntS_same A1 A0 m cap1 cap0 xs _ G.out.rdI L.out.o.rdI (by omega)).mono ?_
  rintro e u7 ⟨rfl, mq, rfl⟩
  replace L := LW.below L (below_drewN (Below.refl _ u6) mq)
  replace G := Lib.hid (G.out.of_below (below_drewN (Below.refl _ u6) mq))
  replace BV := Lib.hid (BV.out.trans ((below_drewN (Below.refl _ u6) mq).mono BV.out.size))
  generalize u6.drewN mq = u8 at L G BV ⊢
  go_wp2_with fail
  have L1 := LW.drew L
  have SS1 := LW.cells L1
  go_region_held3 (fun w' => w'.cell? ⟨u4.heap.size, 0, none⟩ = some (.int .i64 h) ∧ w'.cell? ⟨u4.heap.size, 1, none⟩ = some (.int .i64 w) ∧ w'.cell? ⟨u4.heap.size, 2, none⟩ = some (.int .i64 c) ∧ w'.cell? ⟨u4.heap.size, 3, none⟩ = some (.slice (some ⟨gx, 0, none⟩) n n) ∧ w'.cell? ⟨W.heap.size, 0, none⟩ = some (.int .i64 h) ∧ w'.cell? ⟨W.heap.size, 1, none⟩ = some (.int .i64 w) ∧ w'.cell? ⟨W.heap.size, 2, none⟩ = some (.int .i64 c) ∧ w'.cell? ⟨W.heap.size, 3, none⟩ = some (.slice A n p))
    (first
      | with_reducible exact SS
      | with_reducible exact SS1)
    (first
      | (go_at_call 14; (with_reducible refine (toModelO h w c A n p ls _ (HR0.out.of_below L1.out.b) HN.out).mono ?_); rintro e uq ⟨gy, rfl, _, ry, bb⟩; have RY := Lib.hid ry.rdL; clear ry; have PP := LW.below L1 bb; have GG := Lib.hid ((G.out.of_below (Below.refl _ u8).drew).of_below bb); have BW := Lib.hid ((BV.out.trans ((Below.refl _ u8).drew.mono BV.out.size)).trans (bb.mono (by exact BV.out.size))); have SS := LW.cells PP)
      | (go_at_call 16; (with_reducible refine (eqModel_same h w c _ _ n _ _ ls _ (R4.out.of_below BW.out).rdL RY.out HN.out).mono ?_); rintro e uq2 ⟨rfl, bb2⟩; have PF := LW.below PP bb2; have GF := Lib.hid (GG.out.of_below bb2); have BF := Lib.hid (BW.out.trans (bb2.mono BW.out.size)); have SS := LW.cells PF))
  have L9 := PF
  have G9 := GF
  have B9 := BF
  clear L G BV PP GG BW SS SS1 L1 RY
  obtain ⟨x0, x1, x2, x3⟩ := L9.out.x.cell4
  go_wp2_with fail
  clear x0 x1 x2 x3
  with_reducible refine (markModelL h w c gx n _ B ls u4 _ 1 R4.out B9.out HN.out (by omega) (by omega)).mono ?_
  rintro e u10 ⟨rfl, ht⟩
  have L := LW.touch L9 ht
  have G := Lib.hid (G9.out.touch ht (by omega))
  clear ht L9 G9 B9 PF GF BF R4
  have hkk : ¬ (1 + 7 * (n : Int) + big ls < 0) := by omega
  go_wp2_with fail
  clear hkk
  with_reducible refine (eqIntS_same A1 A0 m cap1 cap0 xs _ G.out.rdI L.out.o.rdI (by omega)).mono ?_
  rintro e u11 ⟨rfl, mq2, rfl⟩
  replace L := LW.below L (below_drewN (Below.refl _ u10) mq2)
  replace G := Lib.hid (G.out.of_below (below_drewN (Below.refl _ u10) mq2))
  generalize u10.drewN mq2 = u12 at L G ⊢
  obtain ⟨g1, hg1, hC1⟩ : ∃ g1, (0 < m → A1 = some ⟨g1, 0, none⟩) ∧ u4.heap.size < g1 := by
    by_cases h0 : 0 < m
    · obtain ⟨g1, e, hB, _⟩ := G.out.2 h0
      exact ⟨g1, fun _ => e, by omega⟩
    · exact ⟨u4.heap.size + 1, fun h => absurd h h0, by omega⟩
  have HG1 := Lib.hid hg1
  have HC1 := Lib.hid hC1
  clear hg1 hC1
  go_wp2_with fail
  with_reducible refine (markIntS_own A1 m cap1 _ g1 xs 1 _ G.out HG1.out (by omega) (by omega) (by omega)).mono ?_
  rintro e u13 ⟨rfl, hm1, hg⟩
  replace L := LW.grown L hg HC1.out
  replace G := Lib.hid hm1
  clear hm1 hg
  go_wp2_with fail
  with_reducible refine (heldIntS_own A1 m cap1 _ 1 _ G.out (by omega) (by omega) (by omega)).mono ?_
  rintro e u14 ⟨rfl, b14⟩
  replace L := LW.below L b14
  replace G := Lib.hid (G.out.of_below b14)
  clear b14
  have hq1 : ¬ (1 + (m : Int) < 0) := by omega
  have hq2 : ((1 + (m : Int)) != (1 + (m : Int))) = false := by simp
  obtain ⟨b0, b1, b2, b3⟩ := L.out.bm.cell4
  go_wp2_with fail
  clear b0 b1 b2 b3 hq1 hq2
  with_reducible refine (toModelO h w c A n p ls _ (HR0.out.of_below L.out.b) HN.out).mono ?_
  rintro e u15 ⟨gz, rfl, _, rz, b15⟩
  replace L := LW.below L b15
  replace G := Lib.hid (G.out.of_below b15)
  have RZ := Lib.hid rz.rdL
  clear rz b15
  go_wp2_with fail
  have HC := costsOfI h w c _ n n ls _ RZ.out HN.out
  rw [HXS.out] at HC
  with_reducible refine HC.mono ?_
  clear HC
  intro e u16 hc
  obtain ⟨A2, cap2, rfl, ho, b16⟩ := hc.own
  rw [HM.out] at ho ⊢
  replace L := LW.below L b16
  replace G := Lib.hid (G.out.of_below b16)
  have O2 := Lib.hid ho.rdI
  clear hc ho b16 RZ
  go_wp2_with fail
  with_reducible refine (eqIntS_same A2 A0 m cap2 cap0 xs _ O2.out L.out.o.rdI (by omega)).mono ?_
  rintro e u17 ⟨rfl, mq3, rfl⟩
  replace L := LW.below L (below_drewN (Below.refl _ u16) mq3)
  replace G := Lib.hid (G.out.of_below (below_drewN (Below.refl _ u16) mq3))
  clear O2
  generalize u16.drewN mq3 = u18 at L G ⊢
  go_wp2_with fail
  with_reducible refine (heldIntS_own A1 m cap1 _ 1 _ G.out (by omega) (by omega) (by omega)).mono ?_
  rintro e u19 ⟨rfl, b19⟩
  replace L := LW.below L b19
  clear b19 G
  have hq1 : ¬ (1 + (m : Int) < 0) := by omega
  have hq2 : ((1 + (m : Int)) != (1 + (m : Int))) = false := by simp
  go_wp2_with fail
  go_ret
  exact ⟨rfl, L.out.b⟩
end Qt
end Go.Proofs.Ytklefnmhknlilaa
