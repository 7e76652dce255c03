/- The law of StalledBetween returns true and writes nothing that was there, when its slice reads as a list of steps and the first tick is an int. -/
import Derived.Test.YtalkoaahhkafaaaStalled
import Derived.Test.YtalkoaahhkafaaaTicksLaw
namespace Go.Proofs.Ytalkoaahhkafaaa
open Go.RowKit Go.Sort
set_option linter.unusedSimpArgs false
set_option linter.unusedVariables false
namespace Qt
set_option maxHeartbeats 1000000 in
theorem stalLaw (A : Option Addr) (n p : Nat) (ss : List Stp) (f g : Int) (W : World) (hr : RdStT W A n ss) (hf : -9223372036854775808 ≤ f ∧ f ≤ 9223372036854775807) :
    Calls Try.prog 3 #[.slice A n p, .int .i64 f, .int .i64 g] W fun e W' => e = .returned (.bool true) ∧ Below W.heap.size W W' := by
  have HT := Lib.hid hr
  have RA := Lib.hid hr.1
  have Bl := Lib.hid (Below.refl W.heap.size W)
  have HF := Lib.hid hf
  clear hr hf
  go_enter Try.func3, Try.ntmps3
  go_wp2_with fail
  with_reducible refine (szStepSL A n p ss 1048576 _ HT.out (by omega) (by omega)).mono ?_
  rintro e u0 ⟨rfl, bb⟩
  replace RA := Lib.hid (RA.out.of_below bb)
  replace Bl := Lib.hid (Bl.out.trans (bb.mono Bl.out.size))
  clear bb HT
  by_cases hn : (n : Int) + bigS ss ≤ 1048576
  case neg =>
    have hR : szRS 1048576 n ss = -1 := if_neg hn
    rw [hR]
    clear hR
    go_wp2_with fail
    go_ret
    exact ⟨rfl, Bl.out⟩
  have HN : Hid (n + bigS ss ≤ 1048576) := Lib.hid (by omega)
  have hR : szRS 1048576 n ss = 1048576 - n - bigS ss := if_pos hn
  rw [hR]
  have hleft : ¬ 1048576 - (n : Int) - bigS ss < 0 := by omega
  clear hR
  go_wp2_with fail
  clear hleft hn
  refine (toStepSL _ _ _ ss _ RA.out HN.out).mono ?_
  rintro e u1 ⟨ga, rfl, _, _, r1, bb⟩
  replace RA := Lib.hid (RA.out.of_below bb)
  replace Bl := Lib.hid (Bl.out.trans (bb.mono Bl.out.size))
  have Ra := Lib.hid r1
  clear r1
  clear bb
  go_wp2_with fail
  have HS := fun w h => stalS (some ⟨ga, 0, none⟩) n n ss f g w h HN.out
  have HI := fun x w h => stalI (some ⟨x, 0, none⟩) n n ss f g w h HN.out HF.out
  generalize stSum f g ss n = b at HS HI
  have HS := Lib.hid HS; have HI := Lib.hid HI
  refine (HS.out _ Ra.out).mono ?_
  rintro e u2 ⟨rfl, bb⟩
  replace RA := Lib.hid (RA.out.of_below bb)
  replace Ra := Lib.hid (Ra.out.of_below bb)
  replace Bl := Lib.hid (Bl.out.trans (bb.mono Bl.out.size))
  clear bb
  go_wp2_with fail
  clear Ra HS
  refine (toStepSL _ _ _ ss _ RA.out HN.out).mono ?_
  rintro e u3 ⟨gb, rfl, _, _, r1, bb⟩
  replace RA := Lib.hid (RA.out.of_below bb)
  replace Bl := Lib.hid (Bl.out.trans (bb.mono Bl.out.size))
  have Rb := Lib.hid r1
  clear r1
  clear bb
  go_wp2_with fail
  refine (HI.out _ _ Rb.out).mono ?_
  rintro e u4 ⟨rfl, bb⟩
  replace RA := Lib.hid (RA.out.of_below bb)
  replace Rb := Lib.hid (Rb.out.of_below bb)
  replace Bl := Lib.hid (Bl.out.trans (bb.mono Bl.out.size))
  clear bb
  go_wp2_with fail
  refine (toStepSL _ _ _ ss _ RA.out HN.out).mono ?_
  rintro e u5 ⟨gc, rfl, _, _, r1, bb⟩
  replace RA := Lib.hid (RA.out.of_below bb)
  replace Rb := Lib.hid (Rb.out.of_below bb)
  replace Bl := Lib.hid (Bl.out.trans (bb.mono Bl.out.size))
  have Rc := Lib.hid r1
  clear r1
  clear bb
  go_wp2_with fail
  refine (eqStepS_same _ _ _ _ _ ss _ Rb.out Rc.out HN.out).mono ?_
  rintro e u6 ⟨rfl, bb⟩
  replace RA := Lib.hid (RA.out.of_below bb)
  replace Rb := Lib.hid (Rb.out.of_below bb)
  replace Rc := Lib.hid (Rc.out.of_below bb)
  replace Bl := Lib.hid (Bl.out.trans (bb.mono Bl.out.size))
  clear bb
  go_wp2_with fail
  go_ret
  exact ⟨rfl, Bl.out⟩
theorem wf_int {x : Int} (h : (Lit.int .i64 x).wf = true) : -9223372036854775808 ≤ x ∧ x ≤ 9223372036854775807 := by
  simp only [Lit.wf, Bool.and_eq_true, decide_eq_true_eq] at h
  have h1 : IntKind.i64.min = -9223372036854775808 := by decide
  have h2 : IntKind.i64.max = 9223372036854775807 := by decide
  rw [h1, h2] at h
  exact h
end Qt
end Go.Proofs.Ytalkoaahhkafaaa
