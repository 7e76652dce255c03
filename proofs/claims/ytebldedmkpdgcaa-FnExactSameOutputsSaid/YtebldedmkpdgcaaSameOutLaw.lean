/- The law of SameOutputs returns true and writes nothing that was there, when its slices read as lists of tensors. -/
import Derived.Test.YtebldedmkpdgcaaSameOut
namespace Go.Proofs.Ytebldedmkpdgcaa
open Go.RowKit Go.Sort
set_option linter.unusedSimpArgs false
set_option linter.unusedVariables false
namespace Qt
set_option maxHeartbeats 1000000 in
theorem sameOutLaw (A : Option Addr) (n p : Nat) (ss : List Tns) (A2 : Option Addr) (n2 p2 : Nat) (ts : List Tns) (W : World) (hr : RdTnsT W A n ss) (hr2 : RdTnsT W A2 n2 ts) :
    Calls Try.prog 8 #[.slice A n p, .slice A2 n2 p2] W fun e W' => e = .returned (.bool true) ∧ Below W.heap.size W W' := by
  have HT := Lib.hid hr
  have HM := Lib.hid hr2.2
  have RA := Lib.hid hr.1
  have RB := Lib.hid hr2.1
  have Bl := Lib.hid (Below.refl W.heap.size W)
  clear hr hr2
  go_enter Try.func8, Try.ntmps8
  go_wp2_with fail
  with_reducible refine (szTnsSL A n p ss 1048576 _ HT.out (by omega) (by omega)).mono ?_
  rintro e u0 ⟨rfl, bb⟩
  replace RA := Lib.hid (RA.out.of_below bb)
  replace RB := Lib.hid (RB.out.of_below bb)
  replace Bl := Lib.hid (Bl.out.trans (bb.mono Bl.out.size))
  clear bb HT
  by_cases hn : (n : Int) + bigTns ss ≤ 1048576
  case neg =>
    have hR : szRTns 1048576 n ss = -1 := if_neg hn
    rw [hR]
    clear hR
    go_wp2_with fail
    go_ret
    exact ⟨rfl, Bl.out⟩
  have HN : Hid (n + bigTns ss ≤ 1048576) := Lib.hid (by omega)
  have hR : szRTns 1048576 n ss = 1048576 - n - bigTns ss := if_pos hn
  rw [hR]
  obtain ⟨L, hL⟩ : ∃ L, (1048576 : Int) - n - bigTns ss = L := ⟨_, rfl⟩
  have hL0 : 0 ≤ L := by omega
  have hL1 : L ≤ 1048576 := by omega
  rw [hL]
  have hleft : ¬ L < 0 := by omega
  clear hR hn hL
  go_wp2_with fail
  have HT2 : RdTnsT u0 A2 n2 ts := ⟨RB.out, HM.out⟩
  with_reducible refine (szTnsSL A2 n2 p2 ts L _ HT2 hL0 hL1).mono ?_
  rintro e u1 ⟨rfl, bb⟩
  replace RA := Lib.hid (RA.out.of_below bb)
  replace RB := Lib.hid (RB.out.of_below bb)
  replace Bl := Lib.hid (Bl.out.trans (bb.mono Bl.out.size))
  clear bb HM HT2 hleft
  by_cases hn : (n2 : Int) + bigTns ts ≤ L
  case neg =>
    have hR : szRTns L n2 ts = -1 := if_neg hn
    rw [hR]
    clear hR
    go_wp2_with fail
    go_ret
    exact ⟨rfl, Bl.out⟩
  have HN2 : Hid (n2 + bigTns ts ≤ 1048576) := Lib.hid (by omega)
  have hR : szRTns L n2 ts = L - n2 - bigTns ts := if_pos hn
  rw [hR]
  have hleft : ¬ L - (n2 : Int) - bigTns ts < 0 := by omega
  clear hR
  go_wp2_with fail
  clear hleft hn hL0 hL1
  refine (toTnsSL _ _ _ ss _ RA.out HN.out).mono ?_
  rintro e u2 ⟨ga, rfl, _, r1, bb⟩
  replace RA := Lib.hid (RA.out.of_below bb)
  replace RB := Lib.hid (RB.out.of_below bb)
  replace Bl := Lib.hid (Bl.out.trans (bb.mono Bl.out.size))
  have Ra := Lib.hid r1.rd
  clear r1
  clear bb
  go_wp2_with fail
  refine (toTnsSL _ _ _ ts _ RB.out HN2.out).mono ?_
  rintro e u3 ⟨gb, rfl, _, r1, bb⟩
  replace RA := Lib.hid (RA.out.of_below bb)
  replace RB := Lib.hid (RB.out.of_below bb)
  replace Ra := Lib.hid (Ra.out.of_below bb)
  replace Bl := Lib.hid (Bl.out.trans (bb.mono Bl.out.size))
  have Rb := Lib.hid r1.rd
  clear r1
  clear bb
  go_wp2_with fail
  have HS := sameOutS (some ⟨ga, 0, none⟩) (some ⟨gb, 0, none⟩) n n2 n n2 ss ts u3 Ra.out Rb.out HN.out HN2.out
  have HI := fun g g2 w h h2 => sameOutI (some ⟨g, 0, none⟩) (some ⟨g2, 0, none⟩) n n2 n n2 ss ts w h h2 HN.out HN2.out
  generalize soL ss ts = r at HS HI
  have HS := Lib.hid HS; have HI := Lib.hid HI
  refine (HS.out).mono ?_
  rintro e u4 ⟨rfl, bb⟩
  replace RA := Lib.hid (RA.out.of_below bb)
  replace RB := Lib.hid (RB.out.of_below bb)
  replace Ra := Lib.hid (Ra.out.of_below bb)
  replace Rb := Lib.hid (Rb.out.of_below bb)
  replace Bl := Lib.hid (Bl.out.trans (bb.mono Bl.out.size))
  clear bb
  go_wp2_with fail
  clear Ra Rb HS
  refine (toTnsSL _ _ _ ss _ RA.out HN.out).mono ?_
  rintro e u5 ⟨gc, rfl, _, r1, bb⟩
  replace RA := Lib.hid (RA.out.of_below bb)
  replace RB := Lib.hid (RB.out.of_below bb)
  replace Bl := Lib.hid (Bl.out.trans (bb.mono Bl.out.size))
  have Rc := Lib.hid r1.rd
  clear r1
  clear bb
  go_wp2_with fail
  refine (toTnsSL _ _ _ ts _ RB.out HN2.out).mono ?_
  rintro e u6 ⟨gd, rfl, _, r1, bb⟩
  replace RA := Lib.hid (RA.out.of_below bb)
  replace RB := Lib.hid (RB.out.of_below bb)
  replace Rc := Lib.hid (Rc.out.of_below bb)
  replace Bl := Lib.hid (Bl.out.trans (bb.mono Bl.out.size))
  have Rd := Lib.hid r1.rd
  clear r1
  clear bb
  go_wp2_with fail
  refine (HI.out _ _ _ Rc.out Rd.out).mono ?_
  rintro e u7 ⟨rfl, bb⟩
  replace RA := Lib.hid (RA.out.of_below bb)
  replace RB := Lib.hid (RB.out.of_below bb)
  replace Rc := Lib.hid (Rc.out.of_below bb)
  replace Rd := Lib.hid (Rd.out.of_below bb)
  replace Bl := Lib.hid (Bl.out.trans (bb.mono Bl.out.size))
  clear bb
  go_wp2_with fail
  refine (toTnsSL _ _ _ ss _ RA.out HN.out).mono ?_
  rintro e u8 ⟨ge, rfl, _, r1, bb⟩
  replace RA := Lib.hid (RA.out.of_below bb)
  replace RB := Lib.hid (RB.out.of_below bb)
  replace Rc := Lib.hid (Rc.out.of_below bb)
  replace Rd := Lib.hid (Rd.out.of_below bb)
  replace Bl := Lib.hid (Bl.out.trans (bb.mono Bl.out.size))
  have Re := Lib.hid r1.rd
  clear r1
  clear bb
  go_wp2_with fail
  refine (eqTnsS_same _ _ _ _ _ ss _ Rc.out Re.out HN.out).mono ?_
  rintro e u9 ⟨rfl, bb⟩
  replace RA := Lib.hid (RA.out.of_below bb)
  replace RB := Lib.hid (RB.out.of_below bb)
  replace Rc := Lib.hid (Rc.out.of_below bb)
  replace Rd := Lib.hid (Rd.out.of_below bb)
  replace Re := Lib.hid (Re.out.of_below bb)
  replace Bl := Lib.hid (Bl.out.trans (bb.mono Bl.out.size))
  clear bb
  go_wp2_with fail
  refine (toTnsSL _ _ _ ts _ RB.out HN2.out).mono ?_
  rintro e u10 ⟨gf, rfl, _, r1, bb⟩
  replace RA := Lib.hid (RA.out.of_below bb)
  replace RB := Lib.hid (RB.out.of_below bb)
  replace Rc := Lib.hid (Rc.out.of_below bb)
  replace Rd := Lib.hid (Rd.out.of_below bb)
  replace Re := Lib.hid (Re.out.of_below bb)
  replace Bl := Lib.hid (Bl.out.trans (bb.mono Bl.out.size))
  have Rf := Lib.hid r1.rd
  clear r1
  clear bb
  go_wp2_with fail
  refine (eqTnsS_same _ _ _ _ _ ts _ Rd.out Rf.out HN2.out).mono ?_
  rintro e u11 ⟨rfl, bb⟩
  replace RA := Lib.hid (RA.out.of_below bb)
  replace RB := Lib.hid (RB.out.of_below bb)
  replace Rc := Lib.hid (Rc.out.of_below bb)
  replace Rd := Lib.hid (Rd.out.of_below bb)
  replace Re := Lib.hid (Re.out.of_below bb)
  replace Rf := Lib.hid (Rf.out.of_below bb)
  replace Bl := Lib.hid (Bl.out.trans (bb.mono Bl.out.size))
  clear bb
  go_wp2_with fail
  go_ret
  exact ⟨rfl, Bl.out⟩
end Qt
end Go.Proofs.Ytebldedmkpdgcaa
