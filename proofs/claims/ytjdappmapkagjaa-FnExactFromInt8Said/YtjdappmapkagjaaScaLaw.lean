/- The laws of ScaleOk, ToInt8, FromInt8 and MultOfScales return true, at every argument. -/
import Derived.Test.YtjdappmapkagjaaMos
namespace Go.Proofs.Ytjdappmapkagjaa
open Go.RowKit Go.Sort
set_option linter.unusedSimpArgs false
set_option linter.unusedVariables false
namespace Qt
set_option maxHeartbeats 1000000 in
set_option maxRecDepth 10000 in
theorem scaleOkLaw (n z : Int) (W : World) :
    Calls Try.prog 5 #[.agg #[.int .i64 n, .int .i64 z]] W fun e W' => e = .returned (.bool true) ∧ Below W.heap.size W W' := by
  obtain ⟨c0, c1⟩ := new2 W 51 (.int .i64 n) (.int .i64 z)
  have bl := (Below.refl _ W).alloc (Nat.le_refl _) (.cells #[.int .i64 n, .int .i64 z] 51)
  go_enter Try.func5, Try.ntmps5
  go_wp2_with fail
  generalize W.alloc (.cells #[.int .i64 n, .int .i64 z] 51) = v0 at c0 c1 bl ⊢
  have B0 := Lib.hid bl
  clear bl
  refine (toScaleL n z _).mono ?_
  rintro e v1 ⟨rfl, b1⟩
  replace c0 := keep b1 c0
  replace c1 := keep b1 c1
  have B1 := Lib.hid (B0.out.trans (b1.mono B0.out.size))
  clear b1 B0
  go_wp2_with fail
  refine (scaleOkS n z _ rfl _).mono ?_
  rintro e v2 ⟨rfl, b1⟩
  replace c0 := keep b1 c0
  replace c1 := keep b1 c1
  have B2 := Lib.hid (B1.out.trans (b1.mono B1.out.size))
  clear b1 B1
  go_wp2_with fail
  refine (toScaleL n z _).mono ?_
  rintro e v3 ⟨rfl, b1⟩
  replace c0 := keep b1 c0
  replace c1 := keep b1 c1
  have B3 := Lib.hid (B2.out.trans (b1.mono B2.out.size))
  clear b1 B2
  go_wp2_with fail
  refine (scaleOkI n z _ rfl _).mono ?_
  rintro e v4 ⟨rfl, b1⟩
  replace c0 := keep b1 c0
  replace c1 := keep b1 c1
  have B4 := Lib.hid (B3.out.trans (b1.mono B3.out.size))
  clear b1 B3
  clear c0 c1
  go_wp2_with fail
  go_ret
  exact ⟨rfl, B4.out⟩
set_option maxHeartbeats 1000000 in
set_option maxRecDepth 10000 in
theorem toInt8Law (x n z : Int) (W : World) :
    Calls Try.prog 8 #[.int .i64 x, .agg #[.int .i64 n, .int .i64 z]] W fun e W' => e = .returned (.bool true) ∧ Below W.heap.size W W' := by
  obtain ⟨c0, c1⟩ := new2 W 51 (.int .i64 n) (.int .i64 z)
  have bl := (Below.refl _ W).alloc (Nat.le_refl _) (.cells #[.int .i64 n, .int .i64 z] 51)
  go_enter Try.func8, Try.ntmps8
  go_wp2_with fail
  generalize W.alloc (.cells #[.int .i64 n, .int .i64 z] 51) = v0 at c0 c1 bl ⊢
  have B0 := Lib.hid bl
  clear bl
  refine (toScaleL n z _).mono ?_
  rintro e v1 ⟨rfl, b1⟩
  replace c0 := keep b1 c0
  replace c1 := keep b1 c1
  have B1 := Lib.hid (B0.out.trans (b1.mono B0.out.size))
  clear b1 B0
  go_wp2_with fail
  refine (toInt8S x n z _).mono ?_
  rintro e v2 ⟨rfl, b1⟩
  replace c0 := keep b1 c0
  replace c1 := keep b1 c1
  have B2 := Lib.hid (B1.out.trans (b1.mono B1.out.size))
  clear b1 B1
  go_wp2_with fail
  refine (toScaleL n z _).mono ?_
  rintro e v3 ⟨rfl, b1⟩
  replace c0 := keep b1 c0
  replace c1 := keep b1 c1
  have B3 := Lib.hid (B2.out.trans (b1.mono B2.out.size))
  clear b1 B2
  go_wp2_with fail
  refine (toInt8I x n z _).mono ?_
  rintro e v4 ⟨rfl, b1⟩
  replace c0 := keep b1 c0
  replace c1 := keep b1 c1
  have B4 := Lib.hid (B3.out.trans (b1.mono B3.out.size))
  clear b1 B3
  clear c0 c1
  go_wp2_with fail
  go_ret
  exact ⟨rfl, B4.out⟩
set_option maxHeartbeats 1000000 in
set_option maxRecDepth 10000 in
theorem fromInt8Law (x n z : Int) (W : World) :
    Calls Try.prog 9 #[.int .i64 x, .agg #[.int .i64 n, .int .i64 z]] W fun e W' => e = .returned (.bool true) ∧ Below W.heap.size W W' := by
  obtain ⟨c0, c1⟩ := new2 W 51 (.int .i64 n) (.int .i64 z)
  have bl := (Below.refl _ W).alloc (Nat.le_refl _) (.cells #[.int .i64 n, .int .i64 z] 51)
  go_enter Try.func9, Try.ntmps9
  go_wp2_with fail
  generalize W.alloc (.cells #[.int .i64 n, .int .i64 z] 51) = v0 at c0 c1 bl ⊢
  have B0 := Lib.hid bl
  clear bl
  refine (toScaleL n z _).mono ?_
  rintro e v1 ⟨rfl, b1⟩
  replace c0 := keep b1 c0
  replace c1 := keep b1 c1
  have B1 := Lib.hid (B0.out.trans (b1.mono B0.out.size))
  clear b1 B0
  go_wp2_with fail
  refine (fromInt8S x n z _).mono ?_
  rintro e v2 ⟨rfl, b1⟩
  replace c0 := keep b1 c0
  replace c1 := keep b1 c1
  have B2 := Lib.hid (B1.out.trans (b1.mono B1.out.size))
  clear b1 B1
  go_wp2_with fail
  refine (toScaleL n z _).mono ?_
  rintro e v3 ⟨rfl, b1⟩
  replace c0 := keep b1 c0
  replace c1 := keep b1 c1
  have B3 := Lib.hid (B2.out.trans (b1.mono B2.out.size))
  clear b1 B2
  go_wp2_with fail
  refine (fromInt8I x n z _).mono ?_
  rintro e v4 ⟨rfl, b1⟩
  replace c0 := keep b1 c0
  replace c1 := keep b1 c1
  have B4 := Lib.hid (B3.out.trans (b1.mono B3.out.size))
  clear b1 B3
  clear c0 c1
  go_wp2_with fail
  go_ret
  exact ⟨rfl, B4.out⟩
set_option maxHeartbeats 1000000 in
set_option maxRecDepth 10000 in
theorem mosLaw (n1 z1 n2 z2 n3 z3 : Int) (W : World) :
    Calls Try.prog 13 #[.agg #[.int .i64 n1, .int .i64 z1], .agg #[.int .i64 n2, .int .i64 z2], .agg #[.int .i64 n3, .int .i64 z3]] W fun e W' => e = .returned (.bool true) ∧ Below W.heap.size W W' := by
  obtain ⟨x, y, b, hR⟩ : ∃ x y b, mosT n1 z1 n2 z2 n3 z3 = (x, y, b) := ⟨_, _, _, rfl⟩
  have HMS : Hid (∀ w, Calls Try.prog 36 #[.agg #[.int .i64 n1, .int .i64 z1], .agg #[.int .i64 n2, .int .i64 z2], .agg #[.int .i64 n3, .int .i64 z3]] w fun e W' => e = .returned (.tuple #[.int .i64 x, .int .i64 y, .bool b]) ∧ Below w.heap.size w W') := Lib.hid (fun w => by have h := mosS n1 z1 n2 z2 n3 z3 w; rw [hR] at h; exact h)
  have HMI : Hid (∀ w, Calls Try.prog 35 #[.agg #[.int .i64 n1, .int .i64 z1], .agg #[.int .i64 n2, .int .i64 z2], .agg #[.int .i64 n3, .int .i64 z3]] w fun e W' => e = .returned (.tuple #[.int .i64 x, .int .i64 y, .bool b]) ∧ Below w.heap.size w W') := Lib.hid (fun w => by have h := mosI n1 z1 n2 z2 n3 z3 w; rw [hR] at h; exact h)
  clear hR
  have hc := three2 W 51 (.int .i64 n1) (.int .i64 z1) (.int .i64 n2) (.int .i64 z2) (.int .i64 n3) (.int .i64 z3)
  go_enter Try.func13, Try.ntmps13
  go_wp2_with fail
  generalize ((W.alloc (.cells #[.int .i64 n1, .int .i64 z1] 51)).alloc (.cells #[.int .i64 n2, .int .i64 z2] 51)).alloc (.cells #[.int .i64 n3, .int .i64 z3] 51) = v0 at hc ⊢
  obtain ⟨c0, c1, c2, c3, c4, c5, bl⟩ := hc
  have B0 := Lib.hid bl
  clear bl
  have HC0 := Lib.hid (And.intro c0 (And.intro c1 (And.intro c2 (And.intro c3 (And.intro c4 c5)))))
  replace c0 := cell_regrown c0
  replace c1 := cell_regrown c1
  replace c2 := cell_regrown c2
  replace c3 := cell_regrown c3
  replace c4 := cell_regrown c4
  replace c5 := cell_regrown c5
  have p0 := Lib.hid (fun dd os => Calls.regrown_of (toScaleL n1 z1 (grow (redrawn v0 dd) os)))
  have p1 := Lib.hid (fun dd os => Calls.regrown_of (toScaleL n2 z2 (grow (redrawn v0 dd) os)))
  have p2 := Lib.hid (fun dd os => Calls.regrown_of (toScaleL n3 z3 (grow (redrawn v0 dd) os)))
  have p3 := Lib.hid (fun dd os => Calls.regrown_of (HMS.out (grow (redrawn v0 dd) os)))
  refine wp_region_quiet_below mixed (by kernel_rfl) ?_
  repeat (go_big_quiet_step (first | with_reducible exact p0.out _ _ | with_reducible exact p1.out _ _ | with_reducible exact p2.out _ _ | with_reducible exact p3.out _ _))
  refine wpQuiet_nil ?_
  intro _ hw'
  obtain ⟨⟨dq, osq⟩, rfl⟩ := hw'
  clear c0 c1 c2 c3 c4 c5 p0 p1 p2 p3
  have bq := below_regrown v0 dq osq
  obtain ⟨c0, c1, c2, c3, c4, c5⟩ := HC0.out
  replace c0 := keep bq c0
  replace c1 := keep bq c1
  replace c2 := keep bq c2
  replace c3 := keep bq c3
  replace c4 := keep bq c4
  replace c5 := keep bq c5
  have B1 := Lib.hid (B0.out.trans (bq.mono B0.out.size))
  clear bq HC0 B0
  generalize grow (redrawn v0 dq) osq = v1 at c0 c1 c2 c3 c4 c5 B1 ⊢
  go_wp2_with fail
  have HC1 := Lib.hid (And.intro c0 (And.intro c1 (And.intro c2 (And.intro c3 (And.intro c4 c5)))))
  replace c0 := cell_regrown c0
  replace c1 := cell_regrown c1
  replace c2 := cell_regrown c2
  replace c3 := cell_regrown c3
  replace c4 := cell_regrown c4
  replace c5 := cell_regrown c5
  have p0 := Lib.hid (fun dd os => Calls.regrown_of (toScaleL n1 z1 (grow (redrawn v1 dd) os)))
  have p1 := Lib.hid (fun dd os => Calls.regrown_of (toScaleL n2 z2 (grow (redrawn v1 dd) os)))
  have p2 := Lib.hid (fun dd os => Calls.regrown_of (toScaleL n3 z3 (grow (redrawn v1 dd) os)))
  have p3 := Lib.hid (fun dd os => Calls.regrown_of (HMI.out (grow (redrawn v1 dd) os)))
  refine wp_region_quiet_below mixed (by kernel_rfl) ?_
  repeat (go_big_quiet_step (first | with_reducible exact p0.out _ _ | with_reducible exact p1.out _ _ | with_reducible exact p2.out _ _ | with_reducible exact p3.out _ _))
  refine wpQuiet_nil ?_
  intro _ hw'
  obtain ⟨⟨dq, osq⟩, rfl⟩ := hw'
  clear c0 c1 c2 c3 c4 c5 p0 p1 p2 p3
  have bq := below_regrown v1 dq osq
  obtain ⟨c0, c1, c2, c3, c4, c5⟩ := HC1.out
  replace c0 := keep bq c0
  replace c1 := keep bq c1
  replace c2 := keep bq c2
  replace c3 := keep bq c3
  replace c4 := keep bq c4
  replace c5 := keep bq c5
  have B2 := Lib.hid (B1.out.trans (bq.mono B1.out.size))
  clear bq HC1 B1
  generalize grow (redrawn v1 dq) osq = v2 at c0 c1 c2 c3 c4 c5 B2 ⊢
  go_wp2_with fail
  go_ret
  exact ⟨rfl, B2.out⟩
end Qt
end Go.Proofs.Ytjdappmapkagjaa
