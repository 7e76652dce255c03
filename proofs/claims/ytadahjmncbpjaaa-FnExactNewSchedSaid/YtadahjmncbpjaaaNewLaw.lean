/- The law of NewSched returns true and writes nothing that was there, at every argument. -/
import Derived.Test.YtadahjmncbpjaaaNewI
namespace Go.Proofs.Ytadahjmncbpjaaa
open Go.RowKit Go.Sort
set_option linter.unusedSimpArgs false
set_option linter.unusedVariables false
namespace Qt
theorem eqTaskS_none (W : World) : Calls Try.prog 66 #[.slice none 0 0, .slice none 0 0] W fun e W' => e = .returned (.bool true) ∧ W = W' := by
  go_enter Try.func66, Try.ntmps66
  go_wp2_with fail
  refine wp_loop_rounds 1 ?_
  rw [rounds_succ]
  go_wp2_with fail
  go_ret
  exact ⟨rfl, rfl⟩
theorem markTaskS_none (k : Int) (W : World) : Calls Try.prog 67 #[.slice none 0 0, .int .i64 k] W fun e W' => e = .returned (.int .i64 k) ∧ W = W' := by
  go_enter Try.func67, Try.ntmps67
  go_wp2_with fail
  refine wp_loop_rounds 1 ?_
  rw [rounds_succ]
  go_wp2_with fail
  go_ret
  exact ⟨rfl, rfl⟩
theorem heldTaskS_none (k : Int) (W : World) : Calls Try.prog 68 #[.slice none 0 0, .int .i64 k] W fun e W' => e = .returned (.int .i64 k) ∧ W = W' := by
  go_enter Try.func68, Try.ntmps68
  go_wp2_with fail
  refine wp_loop_rounds 1 ?_
  rw [rounds_succ]
  go_wp2_with fail
  go_ret
  exact ⟨rfl, rfl⟩
theorem eqSched_none (n0 n1 n2 n4 n5 n6 n7 : Int) (W : World) : Calls Try.prog 24 #[.agg #[.int .i64 n0, .int .i64 n1, .int .i64 n2, .slice none 0 0, .int .i64 n4, .int .i64 n5, .int .i64 n6, .int .i64 n7], .agg #[.int .i64 n0, .int .i64 n1, .int .i64 n2, .slice none 0 0, .int .i64 n4, .int .i64 n5, .int .i64 n6, .int .i64 n7]] W fun e W' => e = .returned (.bool true) ∧ Below W.heap.size W W' := by
  go_enter Try.func24, Try.ntmps24
  go_wp2_with fail
  refine (eqTaskS_none _).mono ?_
  rintro e w1 ⟨rfl, rfl⟩
  go_wp2_with fail
  go_ret
  exact ⟨rfl, ((Below.refl _ W).alloc (Nat.le_refl _) _).alloc (by simp) _⟩
theorem markSched_none (n0 n1 n2 n4 n5 n6 n7 k : Int) (W : World) : Calls Try.prog 27 #[.agg #[.int .i64 n0, .int .i64 n1, .int .i64 n2, .slice none 0 0, .int .i64 n4, .int .i64 n5, .int .i64 n6, .int .i64 n7], .int .i64 k] W fun e W' => e = .returned (.int .i64 k) ∧ Below W.heap.size W W' := by
  go_enter Try.func27, Try.ntmps27
  go_wp2_with fail
  refine (markTaskS_none k _).mono ?_
  rintro e w1 ⟨rfl, rfl⟩
  go_wp2_with fail
  go_ret
  exact ⟨rfl, (Below.refl _ W).alloc (Nat.le_refl _) _⟩
theorem heldSched_none (n0 n1 n2 n4 n5 n6 n7 k : Int) (hk : 0 ≤ k) (W : World) : Calls Try.prog 28 #[.agg #[.int .i64 n0, .int .i64 n1, .int .i64 n2, .slice none 0 0, .int .i64 n4, .int .i64 n5, .int .i64 n6, .int .i64 n7], .int .i64 k] W fun e W' => e = .returned (.int .i64 k) ∧ Below W.heap.size W W' := by
  go_enter Try.func28, Try.ntmps28
  go_wp2_with fail
  refine (heldTaskS_none k _).mono ?_
  rintro e w1 ⟨rfl, rfl⟩
  go_wp2_with fail
  go_ret
  exact ⟨rfl, (Below.refl _ W).alloc (Nat.le_refl _) _⟩
set_option maxHeartbeats 4000000 in
theorem newSchedLaw (s a : Int) (W : World) :
    Calls Try.prog 5 #[.int .i64 s, .int .i64 a] W fun e W' => e = .returned (.bool true) ∧ Below W.heap.size W W' := by
  have HS := fun w => newSchedS s a w
  have HI := fun w => newSchedI s a w
  generalize nsS s a = n1 at HS HI
  generalize nsA s a = n2 at HS HI
  generalize nsN s a = n7 at HS HI
  generalize nsB s a = t at HS HI
  have HS := Lib.hid HS; have HI := Lib.hid HI
  have Bl := Lib.hid (Below.refl W.heap.size W)
  go_enter Try.func5, Try.ntmps5
  go_wp2_with fail
  refine (HS.out _).mono ?_
  rintro e w1 ⟨rfl, bb⟩
  replace Bl := Lib.hid (Bl.out.trans (bb.mono Bl.out.size))
  clear bb
  go_wp2_with fail
  have KW := Lib.hid (Bk.new w1 38 #[.int .i64 0, .int .i64 n1, .int .i64 n2, .slice none 0 0, .int .i64 0, .int .i64 0, .int .i64 0, .int .i64 n7])
  replace Bl := Lib.hid (Bl.out.alloc Bl.out.size (.cells #[.int .i64 0, .int .i64 n1, .int .i64 n2, .slice none 0 0, .int .i64 0, .int .i64 0, .int .i64 0, .int .i64 n7] 38))
  generalize w1.alloc (.cells #[.int .i64 0, .int .i64 n1, .int .i64 n2, .slice none 0 0, .int .i64 0, .int .i64 0, .int .i64 0, .int .i64 n7] 38) = x1 at KW Bl ⊢
  generalize w1.heap.size = gKW at KW ⊢
  refine (HI.out _).mono ?_
  rintro e w2 ⟨rfl, bb⟩
  replace Bl := Lib.hid (Bl.out.trans (bb.mono Bl.out.size))
  replace KW := Lib.hid (KW.out.below bb)
  clear bb
  obtain ⟨a0, a1, a2, a3, a4, a5, a6, a7⟩ := KW.out.cell8
  have l0 := KW.out.lt
  go_wp2_with fail
  clear a0 a1 a2 a3 a4 a5 a6 a7 l0
  have KG := Lib.hid (Bk.new w2 38 #[.int .i64 0, .int .i64 n1, .int .i64 n2, .slice none 0 0, .int .i64 0, .int .i64 0, .int .i64 0, .int .i64 n7])
  replace Bl := Lib.hid (Bl.out.alloc Bl.out.size (.cells #[.int .i64 0, .int .i64 n1, .int .i64 n2, .slice none 0 0, .int .i64 0, .int .i64 0, .int .i64 0, .int .i64 n7] 38))
  replace KW := Lib.hid (KW.out.alloc (.cells #[.int .i64 0, .int .i64 n1, .int .i64 n2, .slice none 0 0, .int .i64 0, .int .i64 0, .int .i64 0, .int .i64 n7] 38))
  generalize w2.alloc (.cells #[.int .i64 0, .int .i64 n1, .int .i64 n2, .slice none 0 0, .int .i64 0, .int .i64 0, .int .i64 0, .int .i64 n7] 38) = x2 at KG KW Bl ⊢
  generalize w2.heap.size = gKG at KG ⊢
  refine (eqSched_none 0 n1 n2 0 0 0 n7 _).mono ?_
  rintro e w3 ⟨rfl, bb⟩
  replace Bl := Lib.hid (Bl.out.trans (bb.mono Bl.out.size))
  replace KW := Lib.hid (KW.out.below bb)
  replace KG := Lib.hid (KG.out.below bb)
  clear bb
  have htt : (t != t) = false := by simp
  obtain ⟨a0, a1, a2, a3, a4, a5, a6, a7⟩ := KG.out.cell8
  have l0 := KG.out.lt
  go_wp2_with fail
  clear a0 a1 a2 a3 a4 a5 a6 a7 l0
  clear htt
  refine (markSched_none 0 n1 n2 0 0 0 n7 1 _).mono ?_
  rintro e w4 ⟨rfl, bb⟩
  replace Bl := Lib.hid (Bl.out.trans (bb.mono Bl.out.size))
  replace KW := Lib.hid (KW.out.below bb)
  replace KG := Lib.hid (KG.out.below bb)
  clear bb
  obtain ⟨a0, a1, a2, a3, a4, a5, a6, a7⟩ := KG.out.cell8
  have l0 := KG.out.lt
  go_wp2_with fail
  clear a0 a1 a2 a3 a4 a5 a6 a7 l0
  refine (heldSched_none 0 n1 n2 0 0 0 n7 1 (by omega) _).mono ?_
  rintro e w5 ⟨rfl, bb⟩
  replace Bl := Lib.hid (Bl.out.trans (bb.mono Bl.out.size))
  replace KW := Lib.hid (KW.out.below bb)
  replace KG := Lib.hid (KG.out.below bb)
  clear bb
  obtain ⟨a0, a1, a2, a3, a4, a5, a6, a7⟩ := KG.out.cell8
  have l0 := KG.out.lt
  go_wp2_with fail
  clear a0 a1 a2 a3 a4 a5 a6 a7 l0
  refine (HI.out _).mono ?_
  rintro e w6 ⟨rfl, bb⟩
  replace Bl := Lib.hid (Bl.out.trans (bb.mono Bl.out.size))
  replace KW := Lib.hid (KW.out.below bb)
  replace KG := Lib.hid (KG.out.below bb)
  clear bb
  obtain ⟨a0, a1, a2, a3, a4, a5, a6, a7⟩ := KW.out.cell8
  have l0 := KW.out.lt
  obtain ⟨b0, b1, b2, b3, b4, b5, b6, b7⟩ := KG.out.cell8
  have l1 := KG.out.lt
  go_wp2_with fail
  clear a0 a1 a2 a3 a4 a5 a6 a7 b0 b1 b2 b3 b4 b5 b6 b7 l0 l1
  have KH := Lib.hid (Bk.new w6 38 #[.int .i64 0, .int .i64 n1, .int .i64 n2, .slice none 0 0, .int .i64 0, .int .i64 0, .int .i64 0, .int .i64 n7])
  replace Bl := Lib.hid (Bl.out.alloc Bl.out.size (.cells #[.int .i64 0, .int .i64 n1, .int .i64 n2, .slice none 0 0, .int .i64 0, .int .i64 0, .int .i64 0, .int .i64 n7] 38))
  replace KW := Lib.hid (KW.out.alloc (.cells #[.int .i64 0, .int .i64 n1, .int .i64 n2, .slice none 0 0, .int .i64 0, .int .i64 0, .int .i64 0, .int .i64 n7] 38))
  replace KG := Lib.hid (KG.out.alloc (.cells #[.int .i64 0, .int .i64 n1, .int .i64 n2, .slice none 0 0, .int .i64 0, .int .i64 0, .int .i64 0, .int .i64 n7] 38))
  generalize w6.alloc (.cells #[.int .i64 0, .int .i64 n1, .int .i64 n2, .slice none 0 0, .int .i64 0, .int .i64 0, .int .i64 0, .int .i64 n7] 38) = x6 at KH KW KG Bl ⊢
  generalize w6.heap.size = gKH at KH ⊢
  refine (eqSched_none 0 n1 n2 0 0 0 n7 _).mono ?_
  rintro e w7 ⟨rfl, bb⟩
  replace Bl := Lib.hid (Bl.out.trans (bb.mono Bl.out.size))
  replace KG := Lib.hid (KG.out.below bb)
  clear bb
  have htt : (t != t) = false := by simp
  obtain ⟨a0, a1, a2, a3, a4, a5, a6, a7⟩ := KG.out.cell8
  have l0 := KG.out.lt
  go_wp2_with fail
  clear a0 a1 a2 a3 a4 a5 a6 a7 l0
  clear htt
  refine (heldSched_none 0 n1 n2 0 0 0 n7 1 (by omega) _).mono ?_
  rintro e w8 ⟨rfl, bb⟩
  replace Bl := Lib.hid (Bl.out.trans (bb.mono Bl.out.size))
  clear bb
  go_wp2_with fail
  go_ret
  exact ⟨rfl, Bl.out⟩
end Qt
end Go.Proofs.Ytadahjmncbpjaaa
