/- The law of TicksOf returns true and writes nothing that was there, when its slice reads as a list of steps. -/
import Derived.Test.YtalkoaahhkafaaaTicksOf
import Derived.Test.YtalkoaahhkafaaaStepEq
namespace Go.Proofs.Ytalkoaahhkafaaa
open Go.RowKit Go.Sort
set_option linter.unusedSimpArgs false
set_option linter.unusedVariables false
namespace Qt
set_option maxHeartbeats 4000000 in
set_option maxRecDepth 100000 in
theorem ticksOfLaw (A : Option Addr) (n p : Nat) (ss : List Stp) (W : World) (hr : RdStT W A n ss) :
    Calls Try.prog 6 #[.slice A n p] W fun e W' => e = .returned (.bool true) ∧ Below W.heap.size W W' := by
  have HT := Lib.hid hr
  have RA := Lib.hid hr.1
  have Bl := Lib.hid (Below.refl W.heap.size W)
  clear hr
  go_enter Try.func6, Try.ntmps6
  go_wp2_with fail
  with_reducible refine (szStepSL A n p ss 1048576 _ HT.out (by omega) (by omega)).mono ?_
  rintro e u0 ⟨rfl, bb⟩
  replace RA := Lib.hid (RA.out.of_below bb)
  replace Bl := Lib.hid (Bl.out.trans (bb.mono Bl.out.size))
  clear bb HT
  by_cases hn : (n : Int) + bigS ss ≤ 1048576
  case neg =>
    have hR : szRS 1048576 n ss = -1 := if_neg hn
    rw [hR]
    clear hR
    go_wp2_with fail
    go_ret
    exact ⟨rfl, Bl.out⟩
  have HN : Hid (n + bigS ss ≤ 1048576) := Lib.hid (by omega)
  have hR : szRS 1048576 n ss = 1048576 - n - bigS ss := if_pos hn
  rw [hR]
  have hleft : ¬ 1048576 - (n : Int) - bigS ss < 0 := by omega
  clear hR
  go_wp2_with fail
  clear hleft hn
  refine (toStepOSL _ _ _ ss _ RA.out HN.out).mono ?_
  rintro e u1 ⟨ga, rfl, _, oa, bb⟩
  replace RA := Lib.hid (RA.out.of_below bb)
  replace Bl := Lib.hid (Bl.out.trans (bb.mono Bl.out.size))
  have Ra := Lib.hid oa.rd
  clear oa bb
  go_wp2_with fail
  have hlen : (ticksL ss ss.length).length ≤ 1048576 := by rw [ticksL_len]; have h1 := RA.out.1; have h2 := HN.out; omega
  have HS := fun w h => ticksOfS (some ⟨ga, 0, none⟩) n ss w h HN.out
  have HI := fun x w h => ticksOfAI (some ⟨x, 0, none⟩) n n ss w h HN.out
  obtain ⟨m, hm⟩ : ∃ m, (ticksL ss ss.length).length = m := ⟨_, rfl⟩
  obtain ⟨xs, hxs⟩ : ∃ xs, (ticksL ss ss.length) = xs := ⟨_, rfl⟩
  rw [hm] at hlen
  rw [hxs] at hm
  simp only [hxs, hm] at HS HI
  have HS := Lib.hid HS
  have HI := Lib.hid HI
  clear hxs hm
  refine (HS.out _ Ra.out).mono ?_
  clear HS
  intro e v hc
  obtain ⟨A0, cap0, rfl, ho, bb⟩ := hc
  replace RA := Lib.hid (RA.out.of_below bb)
  replace Bl := Lib.hid (Bl.out.trans (bb.mono Bl.out.size))
  have R0 := Lib.hid ho.rdI
  have Bv := Lib.hid (Below.refl v.heap.size v)
  clear ho bb Ra
  go_wp2_with fail
  refine (toStepOSL _ _ _ ss _ RA.out HN.out).mono ?_
  rintro e u4 ⟨gx, rfl, _, ox, bb⟩
  have M := Lib.hid (ox.mar (C := u4.heap.size) (Nat.le_refl _))
  have Rx := Lib.hid ox.rd
  replace Bv := Lib.hid bb
  clear ox bb
  go_wp2_with fail
  refine (HI.out _ _ Rx.out).mono ?_
  intro e u5 hc
  obtain ⟨A1, cap1, rfl, ho, bb⟩ := hc
  have G := Lib.hid ho
  replace M := Lib.hid (M.out.of_below bb)
  replace Rx := Lib.hid (Rx.out.of_below bb)
  replace Bv := Lib.hid (Bv.out.trans (bb.mono Bv.out.size))
  have HC : Hid (u4.heap.size ≤ u5.heap.size) := Lib.hid bb.size
  have HB : Hid (v.heap.size ≤ u4.heap.size) := Lib.hid (by have h1 := M.out.2.1; have h2 := M.out.2.2.1; omega)
  clear ho bb
  generalize u4.heap.size = C at M G HC HB ⊢
  go_wp2_with fail
  with_reducible refine (eqIntS_same A1 A0 m cap1 cap0 xs _ G.out.rdI (R0.out.of_below Bv.out) hlen).mono ?_
  rintro e u6 ⟨rfl, mq, hmq⟩
  have bb := below_drewN (Below.refl u5.heap.size u5) mq
  rw [← hmq] at bb
  clear hmq
  replace M := Lib.hid (M.out.of_below bb)
  replace Rx := Lib.hid (Rx.out.of_below bb)
  replace G := Lib.hid (G.out.of_below bb)
  replace Bv := Lib.hid (Bv.out.trans (bb.mono Bv.out.size))
  clear bb
  go_wp2_with fail
  refine (toStepOSL _ _ _ ss _ (RA.out.of_below Bv.out) HN.out).mono ?_
  rintro e u7 ⟨gy, rfl, _, oy, bb⟩
  have Ry := Lib.hid oy.rd
  clear oy
  replace M := Lib.hid (M.out.of_below bb)
  replace Rx := Lib.hid (Rx.out.of_below bb)
  replace G := Lib.hid (G.out.of_below bb)
  replace Bv := Lib.hid (Bv.out.trans (bb.mono Bv.out.size))
  clear bb
  go_wp2_with fail
  refine (eqStepS_same _ _ _ _ _ ss _ Rx.out Ry.out HN.out).mono ?_
  rintro e u8 ⟨rfl, bb⟩
  clear Rx Ry
  replace M := Lib.hid (M.out.of_below bb)
  replace G := Lib.hid (G.out.of_below bb)
  replace Bv := Lib.hid (Bv.out.trans (bb.mono Bv.out.size))
  clear bb
  go_wp2_with fail
  with_reducible refine (markStpSL gx n n v.heap.size C ss _ 1 M.out HN.out (by omega) (by omega)).mono ?_
  rintro e u9 ⟨rfl, hr⟩
  replace G := Lib.hid (hr.t.ownI G.out (fun a h0 he => by obtain ⟨g', e', hB', _⟩ := G.out.2 h0; rw [e'] at he; cases he; exact .inr hB'))
  replace Bv := Lib.hid (Bv.out.trans (hr.t.isBelow Bv.out.size))
  clear hr M
  have hkk : ¬ (1 + 6 * (n : Int) + bigS ss < 0) := by omega
  go_wp2_with fail
  clear hkk
  with_reducible refine (eqIntS_same A1 A0 m cap1 cap0 xs _ G.out.rdI (R0.out.of_below Bv.out) hlen).mono ?_
  rintro e u10 ⟨rfl, mq, hmq⟩
  have bb := below_drewN (Below.refl u9.heap.size u9) mq
  rw [← hmq] at bb
  clear hmq
  replace G := Lib.hid (G.out.of_below bb)
  replace Bv := Lib.hid (Bv.out.trans (bb.mono Bv.out.size))
  clear bb
  go_wp2_with fail
  obtain ⟨g1, hg1, hC1⟩ : ∃ g1, (0 < m → A1 = some ⟨g1, 0, none⟩) ∧ C ≤ g1 := by
    by_cases h0 : 0 < m
    · obtain ⟨g1, e, hB, _⟩ := G.out.2 h0
      exact ⟨g1, fun _ => e, hB⟩
    · exact ⟨C, fun h => absurd h h0, Nat.le_refl _⟩
  have HG1 := Lib.hid hg1
  have HC1 := Lib.hid hC1
  clear hg1 hC1
  with_reducible refine (markIntS_own A1 m cap1 _ g1 xs 1 _ G.out HG1.out hlen (by omega) (by omega)).mono ?_
  rintro e u11 ⟨rfl, hm1, hg⟩
  replace G := Lib.hid hm1
  replace Bv := Lib.hid (Bv.out.grown hg Bv.out.size (fun r hr => by cases hr; have := HC1.out; have := HB.out; omega))
  clear hm1 hg
  go_wp2_with fail
  with_reducible refine (heldIntS_own A1 m cap1 _ 1 _ G.out hlen (by omega) (by omega)).mono ?_
  rintro e u12 ⟨rfl, bb⟩
  have hq1 : ¬ (1 + (m : Int) < 0) := by omega
  have hq2 : ((1 + (m : Int)) != (1 + (m : Int))) = false := by simp
  replace G := Lib.hid (G.out.of_below bb)
  replace Bv := Lib.hid (Bv.out.trans (bb.mono Bv.out.size))
  clear bb
  go_wp2_with fail
  clear hq1 hq2
  refine (toStepOSL _ _ _ ss _ (RA.out.of_below Bv.out) HN.out).mono ?_
  rintro e u13 ⟨gz, rfl, _, oz, bb⟩
  have Rz := Lib.hid oz.rd
  clear oz
  replace G := Lib.hid (G.out.of_below bb)
  replace Bv := Lib.hid (Bv.out.trans (bb.mono Bv.out.size))
  clear bb
  go_wp2_with fail
  refine (HI.out _ _ Rz.out).mono ?_
  intro e u14 hc
  obtain ⟨A2, cap2, rfl, ho, bb⟩ := hc
  have O2 := Lib.hid ho.rdI
  clear ho Rz
  replace G := Lib.hid (G.out.of_below bb)
  replace Bv := Lib.hid (Bv.out.trans (bb.mono Bv.out.size))
  clear bb
  go_wp2_with fail
  with_reducible refine (eqIntS_same A2 A0 m cap2 cap0 xs _ O2.out (R0.out.of_below Bv.out) hlen).mono ?_
  rintro e u15 ⟨rfl, mq, hmq⟩
  have bb := below_drewN (Below.refl u14.heap.size u14) mq
  rw [← hmq] at bb
  clear hmq
  clear O2
  replace G := Lib.hid (G.out.of_below bb)
  replace Bv := Lib.hid (Bv.out.trans (bb.mono Bv.out.size))
  clear bb
  go_wp2_with fail
  with_reducible refine (heldIntS_own A1 m cap1 _ 1 _ G.out hlen (by omega) (by omega)).mono ?_
  rintro e u16 ⟨rfl, bb⟩
  have hq1 : ¬ (1 + (m : Int) < 0) := by omega
  have hq2 : ((1 + (m : Int)) != (1 + (m : Int))) = false := by simp
  clear G
  replace Bv := Lib.hid (Bv.out.trans (bb.mono Bv.out.size))
  clear bb
  go_wp2_with fail
  go_ret
  exact ⟨rfl, Bl.out.trans (Bv.out.mono Bl.out.size)⟩
end Qt
end Go.Proofs.Ytalkoaahhkafaaa
