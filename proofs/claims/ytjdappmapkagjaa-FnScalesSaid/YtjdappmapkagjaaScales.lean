/- FnScales returns true and writes nothing that was there, when its bytes can be read. -/
import Derived.Test.YtjdappmapkagjaaDrawR
import Derived.Test.YtjdappmapkagjaaScsMath
import Derived.Test.YtjdappmapkagjaaWor
import Derived.Test.YtjdappmapkagjaaCalLaw
namespace Go.Proofs.Ytjdappmapkagjaa
open Go.RowKit Go.Sort
set_option linter.unusedSimpArgs false
set_option linter.unusedVariables false
namespace Qt
set_option maxHeartbeats 2000000 in
set_option maxRecDepth 20000 in
theorem scalesLaw (A : Option Addr) (n c : Nat) (w : World) (hr : RdB w w.heap.size A n) :
    Calls Try.prog 3 #[.slice A n c] w fun e w' => e = .returned (.bool true) ∧ Below w.heap.size w w' := by
  by_cases hbig : (1048576 : Int) < (n : Int)
  · go_enter Try.func3, Try.ntmps3
    go_wp2_with (go_at_call 15; refine (bigC A n c _).mono ?_; rintro e w' ⟨rfl, rfl⟩)
    go_ret
    exact ⟨rfl, Below.refl _ _⟩
  have HR := Lib.hid hr
  have HN : Hid (n ≤ 1048577) := by unfold Hid; omega
  clear hr
  go_enter Try.func3, Try.ntmps3
  go_wp2_with (go_at_call 15; refine (bigC A n c _).mono ?_; rintro e w' ⟨rfl, rfl⟩)
  refine (drawScaleForC A n c _ HR.out HN.out).mono ?_
  rintro e w1 ⟨A1, m, c1, xs, rfl, hm, hr1, hb1⟩
  have RL := Lib.hid hr1; have Bl := Lib.hid hb1; have HM := Lib.hid hm
  clear hr1 hb1 hm HR HN hbig
  rcases hf : rngB xs with _ | _
  · obtain ⟨e1, e2, e3, e4, e5⟩ := scNum_a hf
    have H1 := fun w h => scaleForS A1 m c1 xs w h HM.out
    have H2 := fun w h => scaleForI A1 m c1 xs w h HM.out
    have H3 := fun w h => symI A1 m c1 xs w h HM.out
    have H4 := fun w h => worstI A1 m c1 xs 1 0 w h HM.out
    simp only [e1, e2, e3, hf, worstA_a hf] at H1 H2 H3 H4
    have H1 := Lib.hid H1; have H2 := Lib.hid H2; have H3 := Lib.hid H3; have H4 := Lib.hid H4
    clear e1 e2 e3 e4 e5 hf
    go_wp2_with fail
    refine (H1.out _ RL.out).mono ?_
    rintro e w2 ⟨rfl, bb⟩
    replace RL := Lib.hid (RL.out.of_below bb)
    replace Bl := Lib.hid (Bl.out.trans (bb.mono Bl.out.size))
    clear bb
    go_wp2_with fail
    have KW := Lib.hid (Bk.new w2 27 #[.int .i64 0, .int .i64 0])
    replace RL := Lib.hid (RL.out.of_below ((Below.refl _ w2).alloc (Nat.le_refl _) (.cells #[.int .i64 0, .int .i64 0] 27)))
    replace Bl := Lib.hid (Bl.out.alloc Bl.out.size (.cells #[.int .i64 0, .int .i64 0] 27))
    generalize w2.alloc (.cells #[.int .i64 0, .int .i64 0] 27) = x2 at KW RL Bl ⊢
    generalize w2.heap.size = gKW at KW ⊢
    refine (H2.out _ RL.out).mono ?_
    rintro e w3 ⟨rfl, bb⟩
    replace RL := Lib.hid (RL.out.of_below bb)
    replace Bl := Lib.hid (Bl.out.trans (bb.mono Bl.out.size))
    replace KW := Lib.hid (KW.out.below bb)
    clear bb
    go_wp2_with fail
    have KS := Lib.hid (Bk.new w3 27 #[.int .i64 0, .int .i64 0])
    replace RL := Lib.hid (RL.out.of_below ((Below.refl _ w3).alloc (Nat.le_refl _) (.cells #[.int .i64 0, .int .i64 0] 27)))
    replace Bl := Lib.hid (Bl.out.alloc Bl.out.size (.cells #[.int .i64 0, .int .i64 0] 27))
    replace KW := Lib.hid (KW.out.alloc (.cells #[.int .i64 0, .int .i64 0] 27))
    generalize w3.alloc (.cells #[.int .i64 0, .int .i64 0] 27) = x3 at KS KW RL Bl ⊢
    generalize w3.heap.size = gKS at KS ⊢
    refine (H3.out _ RL.out).mono ?_
    rintro e w4 ⟨rfl, bb⟩
    replace RL := Lib.hid (RL.out.of_below bb)
    replace Bl := Lib.hid (Bl.out.trans (bb.mono Bl.out.size))
    replace KW := Lib.hid (KW.out.below bb)
    replace KS := Lib.hid (KS.out.below bb)
    clear bb
    obtain ⟨a0, a1⟩ := KW.out.cell2
    obtain ⟨b0, b1⟩ := KS.out.cell2
    have l1 := KW.out.lt
    have l2 := KS.out.lt
    go_wp2_with fail
    replace RL := Lib.hid (RL.out.of_below ((Below.refl _ w4).alloc (Nat.le_refl _) (.cells #[.int .i64 0, .int .i64 0] 27)))
    replace Bl := Lib.hid (Bl.out.alloc Bl.out.size (.cells #[.int .i64 0, .int .i64 0] 27))
    generalize w4.alloc (.cells #[.int .i64 0, .int .i64 0] 27) = x4 at RL Bl ⊢
    clear KW KS a0 a1 b0 b1 l1 l2
    refine (H4.out _ RL.out).mono ?_
    rintro e w5 ⟨rfl, bb⟩
    replace Bl := Lib.hid (Bl.out.trans (bb.mono Bl.out.size))
    clear bb
    go_wp2_with fail
    go_ret
    exact ⟨rfl, Bl.out⟩
  · obtain ⟨s1, s2, s3, s4, s5⟩ := scales_all hf
    obtain ⟨b1, b2, b3, b4, b5, b6⟩ := rng_true hf
    have H1 := fun w h => scaleForS A1 m c1 xs w h HM.out
    have H2 := fun w h => scaleForI A1 m c1 xs w h HM.out
    have H3 := fun w h => symI A1 m c1 xs w h HM.out
    have H4 := fun w h => worstI A1 m c1 xs (scNum xs) (scZero xs) w h HM.out
    have H5 := fun w h => worstI A1 m c1 xs (symNum xs) 0 w h HM.out
    have H6 := fun w h => rngI A1 m c1 xs w h HM.out
    have H7 := fun w => scaleOkI (scNum xs) (scZero xs) true s1 w
    have H8 := fun w => scaleOkI (symNum xs) 0 true s2 w
    have H9 := fun w => toInt8I 0 (scNum xs) (scZero xs) w
    have H10 := fun w => fromInt8I (scZero xs) (scNum xs) (scZero xs) w
    obtain ⟨z1, z2⟩ := zero_back (scNum xs) (scZero xs) s1
    rw [z1] at H9
    rw [z2] at H10
    rw [b5, b6] at H6
    simp only [hf] at H1 H2 H3 H6
    generalize worstA xs (scNum xs) (scZero xs) = WA at s3 s4 H4
    generalize worstA xs (symNum xs) 0 = WB at s5 H5
    generalize scNum xs = N at s3 H1 H2 H4 H7 H9 H10
    generalize scZero xs = Z at H1 H2 H4 H7 H9 H10
    generalize symNum xs = M at s5 H3 H5 H8
    generalize leastR xs = l at b1 b2 H6
    generalize mostR xs = q at b3 b4 H6
    have H1 := Lib.hid H1; have H2 := Lib.hid H2; have H3 := Lib.hid H3; have H4 := Lib.hid H4; have H5 := Lib.hid H5
    have H6 := Lib.hid H6; have H7 := Lib.hid H7; have H8 := Lib.hid H8; have H9 := Lib.hid H9; have H10 := Lib.hid H10
    clear s1 s2 z1 z2 b5 b6 hf
    go_wp2_with fail
    refine (H1.out _ RL.out).mono ?_
    rintro e w2 ⟨rfl, bb⟩
    replace RL := Lib.hid (RL.out.of_below bb)
    replace Bl := Lib.hid (Bl.out.trans (bb.mono Bl.out.size))
    clear bb
    go_wp2_with fail
    have KW := Lib.hid (Bk.new w2 27 #[.int .i64 N, .int .i64 Z])
    replace RL := Lib.hid (RL.out.of_below ((Below.refl _ w2).alloc (Nat.le_refl _) (.cells #[.int .i64 N, .int .i64 Z] 27)))
    replace Bl := Lib.hid (Bl.out.alloc Bl.out.size (.cells #[.int .i64 N, .int .i64 Z] 27))
    generalize w2.alloc (.cells #[.int .i64 N, .int .i64 Z] 27) = x2 at KW RL Bl ⊢
    generalize w2.heap.size = gKW at KW ⊢
    refine (H2.out _ RL.out).mono ?_
    rintro e w3 ⟨rfl, bb⟩
    replace RL := Lib.hid (RL.out.of_below bb)
    replace Bl := Lib.hid (Bl.out.trans (bb.mono Bl.out.size))
    replace KW := Lib.hid (KW.out.below bb)
    clear bb
    go_wp2_with fail
    have KS := Lib.hid (Bk.new w3 27 #[.int .i64 N, .int .i64 Z])
    replace RL := Lib.hid (RL.out.of_below ((Below.refl _ w3).alloc (Nat.le_refl _) (.cells #[.int .i64 N, .int .i64 Z] 27)))
    replace Bl := Lib.hid (Bl.out.alloc Bl.out.size (.cells #[.int .i64 N, .int .i64 Z] 27))
    replace KW := Lib.hid (KW.out.alloc (.cells #[.int .i64 N, .int .i64 Z] 27))
    generalize w3.alloc (.cells #[.int .i64 N, .int .i64 Z] 27) = x3 at KS KW RL Bl ⊢
    generalize w3.heap.size = gKS at KS ⊢
    refine (H3.out _ RL.out).mono ?_
    rintro e w4 ⟨rfl, bb⟩
    replace RL := Lib.hid (RL.out.of_below bb)
    replace Bl := Lib.hid (Bl.out.trans (bb.mono Bl.out.size))
    replace KW := Lib.hid (KW.out.below bb)
    replace KS := Lib.hid (KS.out.below bb)
    clear bb
    obtain ⟨a0, a1⟩ := KW.out.cell2
    obtain ⟨b0, b1⟩ := KS.out.cell2
    have l1 := KW.out.lt
    have l2 := KS.out.lt
    go_wp2_with fail
    clear a0 a1 b0 b1 l1 l2
    have KY := Lib.hid (Bk.new w4 27 #[.int .i64 M, .int .i64 0])
    replace RL := Lib.hid (RL.out.of_below ((Below.refl _ w4).alloc (Nat.le_refl _) (.cells #[.int .i64 M, .int .i64 0] 27)))
    replace Bl := Lib.hid (Bl.out.alloc Bl.out.size (.cells #[.int .i64 M, .int .i64 0] 27))
    replace KW := Lib.hid (KW.out.alloc (.cells #[.int .i64 M, .int .i64 0] 27))
    replace KS := Lib.hid (KS.out.alloc (.cells #[.int .i64 M, .int .i64 0] 27))
    generalize w4.alloc (.cells #[.int .i64 M, .int .i64 0] 27) = x4 at KY KW KS RL Bl ⊢
    generalize w4.heap.size = gKY at KY ⊢
    clear KW
    refine (H6.out _ RL.out).mono ?_
    rintro e w5 ⟨rfl, bb⟩
    replace RL := Lib.hid (RL.out.of_below bb)
    replace Bl := Lib.hid (Bl.out.trans (bb.mono Bl.out.size))
    replace KY := Lib.hid (KY.out.below bb)
    replace KS := Lib.hid (KS.out.below bb)
    clear bb
    obtain ⟨d0, d1⟩ := KS.out.cell2
    go_wp2_with fail
    clear d0 d1
    refine (H4.out _ RL.out).mono ?_
    rintro e w6 ⟨rfl, bb⟩
    replace RL := Lib.hid (RL.out.of_below bb)
    replace Bl := Lib.hid (Bl.out.trans (bb.mono Bl.out.size))
    replace KY := Lib.hid (KY.out.below bb)
    replace KS := Lib.hid (KS.out.below bb)
    clear bb H1 H2 H3 H4 H6
    go_wp2_with fail
    obtain ⟨d0, d1⟩ := KS.out.cell2
    obtain ⟨f0, f1⟩ := KY.out.cell2
    replace d0 := cell_regrown d0
    replace d1 := cell_regrown d1
    replace f0 := cell_regrown f0
    replace f1 := cell_regrown f1
    have p0 := Lib.hid (fun dd os => Calls.regrown_of (H7.out (grow (redrawn w6 dd) os)))
    have p1 := Lib.hid (fun dd os => Calls.regrown_of (H8.out (grow (redrawn w6 dd) os)))
    have p2 := Lib.hid (fun dd os => Calls.regrown_of (H5.out (grow (redrawn w6 dd) os) (RL.out.of_below (below_regrown w6 dd os))))
    have p3 := Lib.hid (fun dd os => Calls.regrown_of (H9.out (grow (redrawn w6 dd) os)))
    have p4 := Lib.hid (fun dd os => Calls.regrown_of (H10.out (grow (redrawn w6 dd) os)))
    clear H5 H7 H8 H9 H10 KS KY RL HM
    have q0 : (0 : Int) ≤ q := b3
    refine wp_region_quiet_below mixed (by kernel_rfl) ?_
    repeat (go_big_quiet_step (first | with_reducible exact p0.out _ _ | with_reducible exact p1.out _ _ | with_reducible exact p2.out _ _ | with_reducible exact p3.out _ _ | with_reducible exact p4.out _ _))
    trace_state
    refine wpQuiet_nil ?_
    intro _ hw'
    obtain ⟨⟨dq, osq⟩, rfl⟩ := hw'
    replace Bl := Lib.hid (Bl.out.trans ((below_regrown w6 dq osq).mono Bl.out.size))
    clear d0 d1 f0 f1 p0 p1 p2 p3 p4
    generalize grow (redrawn w6 dq) osq = u9 at Bl ⊢
    go_wp2_with fail
    go_ret
    exact ⟨rfl, Bl.out⟩
end Qt
end Go.Proofs.Ytjdappmapkagjaa
