/- The law of LateOf returns true and writes nothing that was there, when its slice reads as a list of tasks. -/
import Derived.Test.YtihnpfcjnfkfjaaQLateI
import Derived.Test.YtihnpfcjnfkfjaaQSchMark
namespace Go.Proofs.Ytihnpfcjnfkfjaa
open Go.RowKit Go.Sort
set_option linter.unusedSimpArgs false
set_option linter.unusedVariables false
namespace Qt
theorem lateSw (nw sk ag : Int) (A : Option Addr) (n p : Nat) (ss : List Tsk) (rn lf tu nx : Int) (W : World) (hr : RdTsk W A n ss) (hn : n + bigTsk ss ≤ 1048576) (_ : (Lit.int .i64 rn).wf = true) :
    Calls Try.prog 21 #[.agg #[.int .i64 nw, .int .i64 sk, .int .i64 ag, .slice A n p, .int .i64 rn, .int .i64 lf, .int .i64 tu, .int .i64 nx]] W (AnsI W (lateW nw sk ag ss rn lf tu nx).length (lateW nw sk ag ss rn lf tu nx)) := lateS nw sk ag A n p ss rn lf tu nx W hr hn
theorem lateW_len (nw sk ag : Int) (ss : List Tsk) (rn lf tu nx : Int) : (lateW nw sk ag ss rn lf tu nx).length ≤ ss.length := by
  unfold lateW
  split
  · exact lateL_len _ _
  · simp
set_option maxHeartbeats 6000000 in
set_option maxRecDepth 100000 in
theorem lateOfLaw (nw sk ag : Int) (A : Option Addr) (n p : Nat) (ss : List Tsk) (rn lf tu nx : Int) (W : World) (hr : RdTskT W A n ss) (hw : (Lit.int .i64 rn).wf = true) :
    Calls Try.prog 5 #[.agg #[.int .i64 nw, .int .i64 sk, .int .i64 ag, .slice A n p, .int .i64 rn, .int .i64 lf, .int .i64 tu, .int .i64 nx]] W fun e W' => e = .returned (.bool true) ∧ Below W.heap.size W W' := by
  have b0 := (Below.refl _ W).alloc (Nat.le_refl _) (.cells #[.int .i64 nw, .int .i64 sk, .int .i64 ag, .slice A n p, .int .i64 rn, .int .i64 lf, .int .i64 tu, .int .i64 nx] 24)
  have KT := Lib.hid (Bk.new W 24 #[.int .i64 nw, .int .i64 sk, .int .i64 ag, .slice A n p, .int .i64 rn, .int .i64 lf, .int .i64 tu, .int .i64 nx])
  have HT : Hid (RdTskT (W.alloc (.cells #[.int .i64 nw, .int .i64 sk, .int .i64 ag, .slice A n p, .int .i64 rn, .int .i64 lf, .int .i64 tu, .int .i64 nx] 24)) A n ss) := Lib.hid ⟨hr.1.of_below b0, hr.2⟩
  have RA := Lib.hid (hr.1.of_below b0)
  have Bl := Lib.hid b0
  have HW := Lib.hid hw
  clear hr b0 hw
  go_enter Try.func5, Try.ntmps5
  go_wp2_with fail
  generalize W.alloc (.cells #[.int .i64 nw, .int .i64 sk, .int .i64 ag, .slice A n p, .int .i64 rn, .int .i64 lf, .int .i64 tu, .int .i64 nx] 24) = v at KT HT RA Bl ⊢
  generalize hgT : W.heap.size = gT at KT ⊢
  clear hgT
  with_reducible refine (szSchL nw sk ag rn lf tu nx A n p ss 1048576 _ HT.out (by omega) (by omega)).mono ?_
  rintro e u0 ⟨rfl, bb⟩
  replace RA := Lib.hid (RA.out.of_below bb)
  replace KT := Lib.hid (KT.out.below bb)
  replace Bl := Lib.hid (Bl.out.trans (bb.mono Bl.out.size))
  clear bb HT
  by_cases hn : (n : Int) + bigTsk ss ≤ 1048576
  case neg =>
    have hR : szRTsk 1048576 n ss = -1 := if_neg hn
    rw [hR]
    clear hR
    go_wp2_with fail
    go_ret
    exact ⟨rfl, Bl.out⟩
  have HN : Hid (n + bigTsk ss ≤ 1048576) := Lib.hid (by omega)
  have hR : szRTsk 1048576 n ss = 1048576 - n - bigTsk ss := if_pos hn
  rw [hR]
  have hleft : ¬ 1048576 - (n : Int) - bigTsk ss < 0 := by omega
  clear hR
  have c0 := KT.out.cell 0 rfl
  have c1 := KT.out.cell 1 rfl
  have c2 := KT.out.cell 2 rfl
  have c3 := KT.out.cell 3 rfl
  have c4 := KT.out.cell 4 rfl
  have c5 := KT.out.cell 5 rfl
  have c6 := KT.out.cell 6 rfl
  have c7 := KT.out.cell 7 rfl
  go_wp2_with fail
  clear hleft hn
  clear c0 c1 c2 c3 c4 c5 c6 c7
  refine (toSchO nw sk ag rn lf tu nx A n p ss _ RA.out HN.out).mono ?_
  rintro e u1 ⟨ga, rfl, oa, bb⟩
  replace RA := Lib.hid (RA.out.of_below bb)
  replace KT := Lib.hid (KT.out.below bb)
  replace Bl := Lib.hid (Bl.out.trans (bb.mono Bl.out.size))
  have Ra := Lib.hid oa.rdc
  clear oa bb
  go_wp2_with fail
  have hlen : (lateW nw sk ag ss rn lf tu nx).length ≤ 1048576 := by have h0 := lateW_len nw sk ag ss rn lf tu nx; have h1 := RA.out.1; have h2 := HN.out; omega
  have HS := fun w (h : RdC w (some ⟨ga, 0, none⟩) n ss) => lateSw nw sk ag (some ⟨ga, 0, none⟩) n n ss rn lf tu nx w h.rd HN.out HW.out
  have HI := fun x w (h : RdC w (some ⟨x, 0, none⟩) n ss) => lateOfIw nw sk ag (some ⟨x, 0, none⟩) n n ss rn lf tu nx w h.rd HN.out HW.out
  obtain ⟨m, hm⟩ : ∃ m, (lateW nw sk ag ss rn lf tu nx).length = m := ⟨_, rfl⟩
  obtain ⟨xs, hxs⟩ : ∃ xs, (lateW nw sk ag ss rn lf tu nx) = xs := ⟨_, rfl⟩
  rw [hm] at hlen
  rw [hxs] at hm
  simp only [hxs, hm] at HS HI
  have HS := Lib.hid HS
  have HI := Lib.hid HI
  clear hxs hm
  refine (HS.out _ Ra.out).mono ?_
  clear HS
  intro e v hc
  obtain ⟨A0, cap0, rfl, ho, bb⟩ := hc
  replace RA := Lib.hid (RA.out.of_below bb)
  replace KT := Lib.hid (KT.out.below bb)
  replace Bl := Lib.hid (Bl.out.trans (bb.mono Bl.out.size))
  have R0 := Lib.hid ho.rdI
  have HRV := Lib.hid RA.out
  have HKV := Lib.hid KT.out
  clear ho bb Ra
  have c0 := KT.out.cell 0 rfl
  have c1 := KT.out.cell 1 rfl
  have c2 := KT.out.cell 2 rfl
  have c3 := KT.out.cell 3 rfl
  have c4 := KT.out.cell 4 rfl
  have c5 := KT.out.cell 5 rfl
  have c6 := KT.out.cell 6 rfl
  have c7 := KT.out.cell 7 rfl
  go_wp2_with fail
  clear c0 c1 c2 c3 c4 c5 c6 c7
  refine (toSchO nw sk ag rn lf tu nx A n p ss _ RA.out HN.out).mono ?_
  rintro e u4 ⟨gx, rfl, ox, bb⟩
  have ba := (Below.refl _ u4).alloc (Nat.le_refl _) (.cells #[.int .i64 nw, .int .i64 sk, .int .i64 ag, .slice (some ⟨gx, 0, none⟩) n n, .int .i64 rn, .int .i64 lf, .int .i64 tu, .int .i64 nx] 29)
  have HB0 : Hid (v.heap.size ≤ u4.heap.size) := Lib.hid bb.size
  have P : Hid (SK v u4.heap.size gT u4.heap.size gx nw sk ag A n p ss rn lf tu nx (fun _ => True) (u4.alloc (.cells #[.int .i64 nw, .int .i64 sk, .int .i64 ag, .slice (some ⟨gx, 0, none⟩) n n, .int .i64 rn, .int .i64 lf, .int .i64 tu, .int .i64 nx] 29))) := Lib.hid ⟨bb.trans (ba.mono bb.size), (KT.out.below bb).below ba, (RA.out.of_below bb).of_below ba, Bk.new u4 _ _, ox.rdc.of_below ba, (ox.mar (C := u4.heap.size) (Nat.le_refl _)).of_below ba, fun _ _ _ _ => trivial, trivial⟩
  clear ox bb ba RA KT
  go_wp2_with fail
  have HC0 : Hid (u4.heap.size ≤ (u4.alloc (.cells #[.int .i64 nw, .int .i64 sk, .int .i64 ag, .slice (some ⟨gx, 0, none⟩) n n, .int .i64 rn, .int .i64 lf, .int .i64 tu, .int .i64 nx] 29)).heap.size) := Lib.hid (by simp)
  generalize u4.alloc (.cells #[.int .i64 nw, .int .i64 sk, .int .i64 ag, .slice (some ⟨gx, 0, none⟩) n n, .int .i64 rn, .int .i64 lf, .int .i64 tu, .int .i64 nx] 29) = v5 at P HC0 ⊢
  generalize u4.heap.size = C at P HC0 HB0 ⊢
  refine (HI.out _ _ P.out.rx).mono ?_
  intro e u5 hc
  obtain ⟨A1, cap1, rfl, ho, bb⟩ := hc
  have P := SK.with (SK.below P bb) (J' := fun w => OwnI C w A1 m xs) (fun _ _ h k => OwnI.of_below h k) (ho.base HC0.out)
  clear ho bb HC0
  go_wp2_with fail
  with_reducible refine (eqIntS_same A1 A0 m cap1 cap0 xs _ P.out.j.rdI (R0.out.of_below P.out.b) hlen).mono ?_
  rintro e u6 ⟨rfl, mq, hmq⟩
  have bb := below_drewN (Below.refl u5.heap.size u5) mq
  rw [← hmq] at bb
  clear hmq
  replace P := SK.below P bb
  clear bb
  go_wp2_with fail
  have P1 := SK.drew P
  have SS1 := SK.cells P1
  go_region_held3 (fun w' => w'.cell? ⟨C, 0, none⟩ = some (.int .i64 nw) ∧ w'.cell? ⟨C, 1, none⟩ = some (.int .i64 sk) ∧ w'.cell? ⟨C, 2, none⟩ = some (.int .i64 ag) ∧ w'.cell? ⟨C, 3, none⟩ = some (.slice (some ⟨gx, 0, none⟩) n n) ∧ w'.cell? ⟨C, 4, none⟩ = some (.int .i64 rn) ∧ w'.cell? ⟨C, 5, none⟩ = some (.int .i64 lf) ∧ w'.cell? ⟨C, 6, none⟩ = some (.int .i64 tu) ∧ w'.cell? ⟨C, 7, none⟩ = some (.int .i64 nx) ∧ w'.cell? ⟨gT, 0, none⟩ = some (.int .i64 nw) ∧ w'.cell? ⟨gT, 1, none⟩ = some (.int .i64 sk) ∧ w'.cell? ⟨gT, 2, none⟩ = some (.int .i64 ag) ∧ w'.cell? ⟨gT, 3, none⟩ = some (.slice A n p) ∧ w'.cell? ⟨gT, 4, none⟩ = some (.int .i64 rn) ∧ w'.cell? ⟨gT, 5, none⟩ = some (.int .i64 lf) ∧ w'.cell? ⟨gT, 6, none⟩ = some (.int .i64 tu) ∧ w'.cell? ⟨gT, 7, none⟩ = some (.int .i64 nx))
    (first
      | with_reducible exact SS
      | with_reducible exact SS1)
    (first
      | (go_at_call 16; (with_reducible refine (toSchO nw sk ag rn lf tu nx A n p ss _ P1.out.r HN.out).mono ?_); rintro e uq ⟨gy, rfl, oy, bb⟩; have RY := Lib.hid oy.rd; have P2 := SK.below P1 bb; have SS := SK.cells P2)
      | (go_at_call 18; (with_reducible refine (eqSch_same nw sk ag rn lf tu nx _ _ n _ _ ss _ P2.out.rx.rd RY.out HN.out).mono ?_); rintro e uq2 ⟨rfl, bb2⟩; have P3 := SK.below P2 bb2; have SS := SK.cells P3)
      | fail)
  have G := Lib.hid P3.out.j
  have M := Lib.hid P3.out.m
  have KX := Lib.hid P3.out.x
  have Bv := Lib.hid P3.out.b
  clear SS1 P1 P2 P RY bb bb2 oy
  clear P3 SS
  have c0 := KX.out.cell 0 rfl
  have c1 := KX.out.cell 1 rfl
  have c2 := KX.out.cell 2 rfl
  have c3 := KX.out.cell 3 rfl
  have c4 := KX.out.cell 4 rfl
  have c5 := KX.out.cell 5 rfl
  have c6 := KX.out.cell 6 rfl
  have c7 := KX.out.cell 7 rfl
  go_wp2_with fail
  clear c0 c1 c2 c3 c4 c5 c6 c7
  with_reducible refine (markSchL nw sk ag rn lf tu nx gx n n v.heap.size C ss _ 1 M.out HN.out (by omega) (by omega)).mono ?_
  rintro e u9 ⟨rfl, hr⟩
  replace G := Lib.hid (hr.t.ownI G.out (fun a h0 he => by obtain ⟨g', e', hB', _⟩ := G.out.2 h0; rw [e'] at he; cases he; exact .inr hB'))
  replace Bv := Lib.hid (Bv.out.trans (hr.t.isBelow Bv.out.size))
  clear hr M KX
  have hkk : ¬ (1 + 4 * (n : Int) + bigTsk ss < 0) := by omega
  go_wp2_with fail
  clear hkk
  with_reducible refine (eqIntS_same A1 A0 m cap1 cap0 xs _ G.out.rdI (R0.out.of_below Bv.out) hlen).mono ?_
  rintro e u10 ⟨rfl, mq, hmq⟩
  have bb := below_drewN (Below.refl u9.heap.size u9) mq
  rw [← hmq] at bb
  clear hmq
  replace G := Lib.hid (G.out.of_below bb)
  replace Bv := Lib.hid (Bv.out.trans (bb.mono Bv.out.size))
  clear bb
  go_wp2_with fail
  obtain ⟨g1, hg1, hC1⟩ : ∃ g1, (0 < m → A1 = some ⟨g1, 0, none⟩) ∧ C ≤ g1 := by
    by_cases h0 : 0 < m
    · obtain ⟨g1, e, hB, _⟩ := G.out.2 h0
      exact ⟨g1, fun _ => e, hB⟩
    · exact ⟨C, fun h => absurd h h0, Nat.le_refl _⟩
  have HG1 := Lib.hid hg1
  have HC1 := Lib.hid hC1
  clear hg1 hC1
  with_reducible refine (markIntS_own A1 m cap1 _ g1 xs 1 _ G.out HG1.out hlen (by omega) (by omega)).mono ?_
  rintro e u11 ⟨rfl, hm1, hg⟩
  replace G := Lib.hid hm1
  replace Bv := Lib.hid (Bv.out.grown hg Bv.out.size (fun r hr => by cases hr; have := HC1.out; have := HB0.out; omega))
  clear hm1 hg
  go_wp2_with fail
  with_reducible refine (heldIntS_own A1 m cap1 _ 1 _ G.out hlen (by omega) (by omega)).mono ?_
  rintro e u12 ⟨rfl, bb⟩
  have hq1 : ¬ (1 + (m : Int) < 0) := by omega
  have hq2 : ((1 + (m : Int)) != (1 + (m : Int))) = false := by simp
  replace G := Lib.hid (G.out.of_below bb)
  replace Bv := Lib.hid (Bv.out.trans (bb.mono Bv.out.size))
  have KT := Lib.hid (HKV.out.belowN Bv.out HKV.out.lt)
  clear bb
  have c0 := KT.out.cell 0 rfl
  have c1 := KT.out.cell 1 rfl
  have c2 := KT.out.cell 2 rfl
  have c3 := KT.out.cell 3 rfl
  have c4 := KT.out.cell 4 rfl
  have c5 := KT.out.cell 5 rfl
  have c6 := KT.out.cell 6 rfl
  have c7 := KT.out.cell 7 rfl
  go_wp2_with fail
  clear hq1 hq2
  clear c0 c1 c2 c3 c4 c5 c6 c7
  refine (toSchO nw sk ag rn lf tu nx A n p ss _ (HRV.out.of_below Bv.out) HN.out).mono ?_
  rintro e u13 ⟨gz, rfl, oz, bb⟩
  have Rz := Lib.hid oz.rdc
  clear oz
  replace G := Lib.hid (G.out.of_below bb)
  replace Bv := Lib.hid (Bv.out.trans (bb.mono Bv.out.size))
  clear bb KT
  go_wp2_with fail
  refine (HI.out _ _ Rz.out).mono ?_
  intro e u14 hc
  obtain ⟨A2, cap2, rfl, ho, bb⟩ := hc
  have O2 := Lib.hid ho.rdI
  clear ho Rz
  replace G := Lib.hid (G.out.of_below bb)
  replace Bv := Lib.hid (Bv.out.trans (bb.mono Bv.out.size))
  clear bb
  go_wp2_with fail
  with_reducible refine (eqIntS_same A2 A0 m cap2 cap0 xs _ O2.out (R0.out.of_below Bv.out) hlen).mono ?_
  rintro e u15 ⟨rfl, mq, hmq⟩
  have bb := below_drewN (Below.refl u14.heap.size u14) mq
  rw [← hmq] at bb
  clear hmq
  clear O2
  replace G := Lib.hid (G.out.of_below bb)
  replace Bv := Lib.hid (Bv.out.trans (bb.mono Bv.out.size))
  clear bb
  go_wp2_with fail
  with_reducible refine (heldIntS_own A1 m cap1 _ 1 _ G.out hlen (by omega) (by omega)).mono ?_
  rintro e u16 ⟨rfl, bb⟩
  have hq1 : ¬ (1 + (m : Int) < 0) := by omega
  have hq2 : ((1 + (m : Int)) != (1 + (m : Int))) = false := by simp
  clear G
  replace Bv := Lib.hid (Bv.out.trans (bb.mono Bv.out.size))
  clear bb
  go_wp2_with fail
  go_ret
  exact ⟨rfl, Bl.out.trans (Bv.out.mono Bl.out.size)⟩
end Qt
end Go.Proofs.Ytihnpfcjnfkfjaa
