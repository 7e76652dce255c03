/- The laws of RangeOfReals, ScaleFor, SymmetricScale and WorstError return true and write nothing that was there, when their slice reads as a list. -/
import Derived.Test.YtjdappmapkagjaaWor
import Derived.Test.YtjdappmapkagjaaPkg
import Derived.Deep.DeepCutAuto
import Derived.Deep.RegionHeld3
namespace Go.Proofs.Ytjdappmapkagjaa
open Go.RowKit Go.Sort
set_option linter.unusedSimpArgs false
set_option linter.unusedVariables false
namespace Qt
theorem Bk.of2 {w : World} {g : Nat} {t : TypeId} {x y : Value} (h : Bk w g t #[x, y]) : w.cell? ⟨g, 0, none⟩ = some x ∧ w.cell? ⟨g, 1, none⟩ = some y := ⟨h.cell 0 rfl, h.cell 1 rfl⟩
theorem eqScaleL (n z : Int) (W : World) :
    Calls Try.prog 42 #[.agg #[.int .i64 n, .int .i64 z], .agg #[.int .i64 n, .int .i64 z]] W fun e W' => e = .returned (.bool true) ∧ Below W.heap.size W W' := by
  go_enter Try.func42, Try.ntmps42
  go_wp2_with fail
  go_ret
  exact ⟨rfl, ((Below.refl _ W).alloc (Nat.le_refl _) _).alloc (by simp) _⟩
set_option maxHeartbeats 1000000 in
theorem rngLaw (A : Option Addr) (n p : Nat) (xs : List Int) (W : World) (hr : RdI W A n xs) :
    Calls Try.prog 6 #[.slice A n p] W fun e W' => e = .returned (.bool true) ∧ Below W.heap.size W W' := by
  have RA := Lib.hid hr
  have Bl := Lib.hid (Below.refl W.heap.size W)
  clear hr
  go_enter Try.func6, Try.ntmps6
  by_cases h0 : (1048576 : Int) < (n : Int)
  · go_wp2_with fail
    go_ret
    exact ⟨rfl, Below.refl _ _⟩
  have HN : Hid (n ≤ 1048576) := Lib.hid (by omega)
  go_wp2_with fail
  refine (toIntS_any _ _ _ xs _ RA.out HN.out).mono ?_
  rintro e u1 ⟨ga, rfl, r1, bb⟩
  replace RA := Lib.hid (RA.out.of_below bb)
  replace Bl := Lib.hid (Bl.out.trans (bb.mono Bl.out.size))
  have Ra := Lib.hid r1
  clear r1
  clear bb
  go_wp2_with fail
  have HS := fun w h => rngSB (some ⟨ga, 0, none⟩) n n xs w h HN.out
  have HI := fun g w h => rngI (some ⟨g, 0, none⟩) n n xs w h HN.out
  generalize rngL xs = l at HS HI
  generalize rngM xs = m at HS HI
  generalize rngB xs = b at HS HI
  have HS := Lib.hid HS; have HI := Lib.hid HI
  refine (HS.out _ Ra.out).mono ?_
  rintro e u2 ⟨rfl, bb⟩
  replace RA := Lib.hid (RA.out.of_below bb)
  replace Ra := Lib.hid (Ra.out.of_below bb)
  replace Bl := Lib.hid (Bl.out.trans (bb.mono Bl.out.size))
  clear bb
  go_wp2_with fail
  clear Ra HS
  refine (toIntS_any _ _ _ xs _ RA.out HN.out).mono ?_
  rintro e u3 ⟨gb, rfl, r1, bb⟩
  replace RA := Lib.hid (RA.out.of_below bb)
  replace Bl := Lib.hid (Bl.out.trans (bb.mono Bl.out.size))
  have Rb := Lib.hid r1
  clear r1
  clear bb
  go_wp2_with fail
  refine (HI.out _ _ Rb.out).mono ?_
  rintro e u4 ⟨rfl, bb⟩
  replace RA := Lib.hid (RA.out.of_below bb)
  replace Rb := Lib.hid (Rb.out.of_below bb)
  replace Bl := Lib.hid (Bl.out.trans (bb.mono Bl.out.size))
  clear bb
  go_wp2_with fail
  refine (toIntS_any _ _ _ xs _ RA.out HN.out).mono ?_
  rintro e u5 ⟨gc, rfl, r1, bb⟩
  replace RA := Lib.hid (RA.out.of_below bb)
  replace Rb := Lib.hid (Rb.out.of_below bb)
  replace Bl := Lib.hid (Bl.out.trans (bb.mono Bl.out.size))
  have Rc := Lib.hid r1
  clear r1
  clear bb
  go_wp2_with fail
  refine (eqIntS_same _ _ _ _ _ xs _ Rb.out Rc.out HN.out).mono ?_
  rintro e u6 ⟨rfl, mm, hmm⟩
  have bb := below_drewN (Below.refl u5.heap.size u5) mm
  rw [← hmm] at bb
  clear hmm
  replace RA := Lib.hid (RA.out.of_below bb)
  replace Rb := Lib.hid (Rb.out.of_below bb)
  replace Rc := Lib.hid (Rc.out.of_below bb)
  replace Bl := Lib.hid (Bl.out.trans (bb.mono Bl.out.size))
  clear bb
  go_wp2_with fail
  go_ret
  exact ⟨rfl, Bl.out⟩
set_option maxHeartbeats 1000000 in
theorem scaleForLaw (A : Option Addr) (n p : Nat) (xs : List Int) (W : World) (hr : RdI W A n xs) :
    Calls Try.prog 7 #[.slice A n p] W fun e W' => e = .returned (.bool true) ∧ Below W.heap.size W W' := by
  have RA := Lib.hid hr
  have Bl := Lib.hid (Below.refl W.heap.size W)
  clear hr
  go_enter Try.func7, Try.ntmps7
  by_cases h0 : (1048576 : Int) < (n : Int)
  · go_wp2_with fail
    go_ret
    exact ⟨rfl, Below.refl _ _⟩
  have HN : Hid (n ≤ 1048576) := Lib.hid (by omega)
  go_wp2_with fail
  refine (toIntS_any _ _ _ xs _ RA.out HN.out).mono ?_
  rintro e u1 ⟨ga, rfl, r1, bb⟩
  replace RA := Lib.hid (RA.out.of_below bb)
  replace Bl := Lib.hid (Bl.out.trans (bb.mono Bl.out.size))
  have Ra := Lib.hid r1
  clear r1
  clear bb
  go_wp2_with fail
  have HS := fun w h => scaleForS (some ⟨ga, 0, none⟩) n n xs w h HN.out
  have HI := fun g w h => scaleForI (some ⟨g, 0, none⟩) n n xs w h HN.out
  generalize scNum xs = N at HS HI
  generalize scZero xs = Z at HS HI
  generalize rngB xs = b at HS HI
  have HS := Lib.hid HS; have HI := Lib.hid HI
  refine (HS.out _ Ra.out).mono ?_
  rintro e u2 ⟨rfl, bb⟩
  replace RA := Lib.hid (RA.out.of_below bb)
  replace Ra := Lib.hid (Ra.out.of_below bb)
  replace Bl := Lib.hid (Bl.out.trans (bb.mono Bl.out.size))
  clear bb
  go_wp2_with fail
  clear Ra HS
  have KW := Lib.hid (Bk.new u2 27 #[.int .i64 N, .int .i64 Z])
  replace RA := Lib.hid (RA.out.of_below ((Below.refl _ _).alloc (Nat.le_refl _) (.cells #[.int .i64 N, .int .i64 Z] 27)))
  replace Bl := Lib.hid (Bl.out.alloc Bl.out.size (.cells #[.int .i64 N, .int .i64 Z] 27))
  generalize u2.alloc (.cells #[.int .i64 N, .int .i64 Z] 27) = x3 at RA KW Bl ⊢
  generalize u2.heap.size = gW at KW ⊢
  refine (toIntS_any _ _ _ xs _ RA.out HN.out).mono ?_
  rintro e u4 ⟨gb, rfl, r1, bb⟩
  replace RA := Lib.hid (RA.out.of_below bb)
  replace KW := Lib.hid (KW.out.below bb)
  replace Bl := Lib.hid (Bl.out.trans (bb.mono Bl.out.size))
  have Rb := Lib.hid r1
  clear r1
  clear bb
  go_wp2_with fail
  refine (HI.out _ _ Rb.out).mono ?_
  rintro e u5 ⟨rfl, bb⟩
  replace RA := Lib.hid (RA.out.of_below bb)
  replace Rb := Lib.hid (Rb.out.of_below bb)
  replace KW := Lib.hid (KW.out.below bb)
  replace Bl := Lib.hid (Bl.out.trans (bb.mono Bl.out.size))
  clear bb
  clear HI
  have hltW := KW.out.lt
  have zKW_0 := KW.out.cell 0 rfl
  have zKW_1 := KW.out.cell 1 rfl
  go_wp2_with fail
  clear zKW_0 zKW_1
  clear hltW
  have KG := Lib.hid (Bk.new u5 27 #[.int .i64 N, .int .i64 Z])
  replace RA := Lib.hid (RA.out.of_below ((Below.refl _ _).alloc (Nat.le_refl _) (.cells #[.int .i64 N, .int .i64 Z] 27)))
  replace Rb := Lib.hid (Rb.out.of_below ((Below.refl _ _).alloc (Nat.le_refl _) (.cells #[.int .i64 N, .int .i64 Z] 27)))
  replace KW := Lib.hid (KW.out.alloc (.cells #[.int .i64 N, .int .i64 Z] 27))
  replace Bl := Lib.hid (Bl.out.alloc Bl.out.size (.cells #[.int .i64 N, .int .i64 Z] 27))
  generalize u5.alloc (.cells #[.int .i64 N, .int .i64 Z] 27) = x6 at RA Rb KW KG Bl ⊢
  generalize u5.heap.size = gG at KG ⊢
  refine (eqScaleL N Z _).mono ?_
  rintro e u7 ⟨rfl, bb⟩
  replace RA := Lib.hid (RA.out.of_below bb)
  replace Rb := Lib.hid (Rb.out.of_below bb)
  replace KW := Lib.hid (KW.out.below bb)
  replace KG := Lib.hid (KG.out.below bb)
  replace Bl := Lib.hid (Bl.out.trans (bb.mono Bl.out.size))
  clear bb
  go_wp2_with fail
  refine (toIntS_any _ _ _ xs _ RA.out HN.out).mono ?_
  rintro e u8 ⟨gc, rfl, r1, bb⟩
  replace RA := Lib.hid (RA.out.of_below bb)
  replace Rb := Lib.hid (Rb.out.of_below bb)
  replace KW := Lib.hid (KW.out.below bb)
  replace KG := Lib.hid (KG.out.below bb)
  replace Bl := Lib.hid (Bl.out.trans (bb.mono Bl.out.size))
  have Rc := Lib.hid r1
  clear r1
  clear bb
  go_wp2_with fail
  refine (eqIntS_same _ _ _ _ _ xs _ Rb.out Rc.out HN.out).mono ?_
  rintro e u9 ⟨rfl, mm, hmm⟩
  have bb := below_drewN (Below.refl u8.heap.size u8) mm
  rw [← hmm] at bb
  clear hmm
  replace RA := Lib.hid (RA.out.of_below bb)
  replace Rb := Lib.hid (Rb.out.of_below bb)
  replace Rc := Lib.hid (Rc.out.of_below bb)
  replace KW := Lib.hid (KW.out.below bb)
  replace KG := Lib.hid (KG.out.below bb)
  replace Bl := Lib.hid (Bl.out.trans (bb.mono Bl.out.size))
  clear bb
  go_wp2_with fail
  go_ret
  exact ⟨rfl, Bl.out⟩
set_option maxHeartbeats 1000000 in
theorem symLaw (A : Option Addr) (n p : Nat) (xs : List Int) (W : World) (hr : RdI W A n xs) :
    Calls Try.prog 14 #[.slice A n p] W fun e W' => e = .returned (.bool true) ∧ Below W.heap.size W W' := by
  have RA := Lib.hid hr
  have Bl := Lib.hid (Below.refl W.heap.size W)
  clear hr
  go_enter Try.func14, Try.ntmps14
  by_cases h0 : (1048576 : Int) < (n : Int)
  · go_wp2_with fail
    go_ret
    exact ⟨rfl, Below.refl _ _⟩
  have HN : Hid (n ≤ 1048576) := Lib.hid (by omega)
  go_wp2_with fail
  refine (toIntS_any _ _ _ xs _ RA.out HN.out).mono ?_
  rintro e u1 ⟨ga, rfl, r1, bb⟩
  replace RA := Lib.hid (RA.out.of_below bb)
  replace Bl := Lib.hid (Bl.out.trans (bb.mono Bl.out.size))
  have Ra := Lib.hid r1
  clear r1
  clear bb
  go_wp2_with fail
  have HS := fun w h => symS (some ⟨ga, 0, none⟩) n n xs w h HN.out
  have HI := fun g w h => symI (some ⟨g, 0, none⟩) n n xs w h HN.out
  generalize symNum xs = N at HS HI
  generalize rngB xs = b at HS HI
  have HS := Lib.hid HS; have HI := Lib.hid HI
  refine (HS.out _ Ra.out).mono ?_
  rintro e u2 ⟨rfl, bb⟩
  replace RA := Lib.hid (RA.out.of_below bb)
  replace Ra := Lib.hid (Ra.out.of_below bb)
  replace Bl := Lib.hid (Bl.out.trans (bb.mono Bl.out.size))
  clear bb
  go_wp2_with fail
  clear Ra HS
  have KW := Lib.hid (Bk.new u2 27 #[.int .i64 N, .int .i64 0])
  replace RA := Lib.hid (RA.out.of_below ((Below.refl _ _).alloc (Nat.le_refl _) (.cells #[.int .i64 N, .int .i64 0] 27)))
  replace Bl := Lib.hid (Bl.out.alloc Bl.out.size (.cells #[.int .i64 N, .int .i64 0] 27))
  generalize u2.alloc (.cells #[.int .i64 N, .int .i64 0] 27) = x3 at RA KW Bl ⊢
  generalize u2.heap.size = gW at KW ⊢
  refine (toIntS_any _ _ _ xs _ RA.out HN.out).mono ?_
  rintro e u4 ⟨gb, rfl, r1, bb⟩
  replace RA := Lib.hid (RA.out.of_below bb)
  replace KW := Lib.hid (KW.out.below bb)
  replace Bl := Lib.hid (Bl.out.trans (bb.mono Bl.out.size))
  have Rb := Lib.hid r1
  clear r1
  clear bb
  go_wp2_with fail
  refine (HI.out _ _ Rb.out).mono ?_
  rintro e u5 ⟨rfl, bb⟩
  replace RA := Lib.hid (RA.out.of_below bb)
  replace Rb := Lib.hid (Rb.out.of_below bb)
  replace KW := Lib.hid (KW.out.below bb)
  replace Bl := Lib.hid (Bl.out.trans (bb.mono Bl.out.size))
  clear bb
  clear HI
  have hltW := KW.out.lt
  have zKW_0 := KW.out.cell 0 rfl
  have zKW_1 := KW.out.cell 1 rfl
  go_wp2_with fail
  clear zKW_0 zKW_1
  clear hltW
  have KG := Lib.hid (Bk.new u5 27 #[.int .i64 N, .int .i64 0])
  replace RA := Lib.hid (RA.out.of_below ((Below.refl _ _).alloc (Nat.le_refl _) (.cells #[.int .i64 N, .int .i64 0] 27)))
  replace Rb := Lib.hid (Rb.out.of_below ((Below.refl _ _).alloc (Nat.le_refl _) (.cells #[.int .i64 N, .int .i64 0] 27)))
  replace KW := Lib.hid (KW.out.alloc (.cells #[.int .i64 N, .int .i64 0] 27))
  replace Bl := Lib.hid (Bl.out.alloc Bl.out.size (.cells #[.int .i64 N, .int .i64 0] 27))
  generalize u5.alloc (.cells #[.int .i64 N, .int .i64 0] 27) = x6 at RA Rb KW KG Bl ⊢
  generalize u5.heap.size = gG at KG ⊢
  refine (eqScaleL N 0 _).mono ?_
  rintro e u7 ⟨rfl, bb⟩
  replace RA := Lib.hid (RA.out.of_below bb)
  replace Rb := Lib.hid (Rb.out.of_below bb)
  replace KW := Lib.hid (KW.out.below bb)
  replace KG := Lib.hid (KG.out.below bb)
  replace Bl := Lib.hid (Bl.out.trans (bb.mono Bl.out.size))
  clear bb
  go_wp2_with fail
  refine (toIntS_any _ _ _ xs _ RA.out HN.out).mono ?_
  rintro e u8 ⟨gc, rfl, r1, bb⟩
  replace RA := Lib.hid (RA.out.of_below bb)
  replace Rb := Lib.hid (Rb.out.of_below bb)
  replace KW := Lib.hid (KW.out.below bb)
  replace KG := Lib.hid (KG.out.below bb)
  replace Bl := Lib.hid (Bl.out.trans (bb.mono Bl.out.size))
  have Rc := Lib.hid r1
  clear r1
  clear bb
  go_wp2_with fail
  refine (eqIntS_same _ _ _ _ _ xs _ Rb.out Rc.out HN.out).mono ?_
  rintro e u9 ⟨rfl, mm, hmm⟩
  have bb := below_drewN (Below.refl u8.heap.size u8) mm
  rw [← hmm] at bb
  clear hmm
  replace RA := Lib.hid (RA.out.of_below bb)
  replace Rb := Lib.hid (Rb.out.of_below bb)
  replace Rc := Lib.hid (Rc.out.of_below bb)
  replace KW := Lib.hid (KW.out.below bb)
  replace KG := Lib.hid (KG.out.below bb)
  replace Bl := Lib.hid (Bl.out.trans (bb.mono Bl.out.size))
  clear bb
  go_wp2_with fail
  go_ret
  exact ⟨rfl, Bl.out⟩
theorem Pkg.two {W w : World} {g0 : Nat} {t0 : TypeId} {x y : Value} {bs : List (Nat × TypeId × Array Value)} {rs : List (Option Addr × Nat × List Int)} (h : Hid (Pkg W ((g0, t0, #[x, y]) :: bs) rs w)) : w.cell? ⟨g0, 0, none⟩ = some x ∧ w.cell? ⟨g0, 1, none⟩ = some y :=
  ⟨(Pkg.blk0 h).cell 0 rfl, (Pkg.blk0 h).cell 1 rfl⟩
set_option maxHeartbeats 1000000 in
theorem worstLaw (A : Option Addr) (n p : Nat) (xs : List Int) (c z : Int) (W : World) (hr : RdI W A n xs) :
    Calls Try.prog 12 #[.slice A n p, .agg #[.int .i64 c, .int .i64 z]] W fun e W' => e = .returned (.bool true) ∧ Below W.heap.size W W' := by
  have RA := Lib.hid hr
  have Bl := Lib.hid (Below.refl W.heap.size W)
  clear hr
  go_enter Try.func12, Try.ntmps12
  by_cases h0 : (1048576 : Int) < (n : Int)
  · go_wp2_with fail
    go_ret
    exact ⟨rfl, (Below.refl _ W).alloc (Nat.le_refl _) _⟩
  have HN : Hid (n ≤ 1048576) := Lib.hid (by omega)
  have P := Pkg.laid (Pkg.start W [(A, n, xs)] (by intro r' hr'; rcases List.mem_cons.1 hr' with rfl | hr'; exact RA.out; cases hr')) 51 #[.int .i64 c, .int .i64 z]
  clear RA Bl
  have HS := fun g w h => worstS (some ⟨g, 0, none⟩) n n xs c z w h HN.out
  have HI := fun g w h => worstI (some ⟨g, 0, none⟩) n n xs c z w h HN.out
  generalize worstA xs c z = R at HS HI
  have HS := Lib.hid HS
  have HI := Lib.hid HI
  go_wp2_with fail
  generalize W.alloc (.cells #[.int .i64 c, .int .i64 z] 51) = v at P ⊢
  have P1 := Pkg.drew P
  have SS1 := Pkg.two P1
  go_region_held3 (fun w' => w'.cell? ⟨W.heap.size, 0, none⟩ = some (.int .i64 c) ∧ w'.cell? ⟨W.heap.size, 1, none⟩ = some (.int .i64 z))
    (first
      | with_reducible exact SS
      | with_reducible exact SS1)
    (first
      | (go_at_call 40; (with_reducible refine (toIntS_any _ _ _ xs _ (Pkg.rd0 P1) HN.out).mono ?_); rintro e uq ⟨gy, rfl, ry, bb⟩; have P2 := Pkg.reads (Pkg.below P1 bb) ry; have SS := Pkg.two P2)
      | (go_at_call 38; (with_reducible refine (toScaleL c z _).mono ?_); rintro e uq ⟨rfl, bb⟩; have P3 := Pkg.below P2 bb; have SS := Pkg.two P3)
      | (go_at_call 53; (with_reducible refine (HS.out _ _ (Pkg.rd0 P3)).mono ?_); rintro e uq ⟨rfl, bb⟩; have P4 := Pkg.below P3 bb; have SS := Pkg.two P4)
      | fail)
  have P5 := Pkg.rtail P4
  clear P P1 P2 P3 P4 SS SS1 ry
  go_wp2_with fail
  refine (toIntS_any _ _ _ xs _ (Pkg.rd0 P5) HN.out).mono ?_
  rintro e u1 ⟨gb, rfl, r1, bb⟩
  replace P5 := Pkg.reads (Pkg.below P5 bb) r1
  clear bb r1
  obtain ⟨z0, z1⟩ := Pkg.two P5
  go_wp2_with fail
  clear z0 z1
  refine (toScaleL c z _).mono ?_
  rintro e u2 ⟨rfl, bb⟩
  replace P5 := Pkg.below P5 bb
  clear bb
  go_wp2_with fail
  refine (HI.out _ _ (Pkg.rd0 P5)).mono ?_
  rintro e u3 ⟨rfl, bb⟩
  replace P5 := Pkg.below P5 bb
  clear bb
  go_wp2_with fail
  refine (toIntS_any _ _ _ xs _ (Pkg.rd1 P5) HN.out).mono ?_
  rintro e u4 ⟨gc, rfl, r1, bb⟩
  replace P5 := Pkg.reads (Pkg.below P5 bb) r1
  clear bb r1
  go_wp2_with fail
  refine (eqIntS_same _ _ _ _ _ xs _ (Pkg.rd1 P5) (Pkg.rd0 P5) HN.out).mono ?_
  rintro e u5 ⟨rfl, mm, hmm⟩
  have bb := below_drewN (Below.refl u4.heap.size u4) mm
  rw [← hmm] at bb
  replace P5 := Pkg.below P5 bb
  clear bb hmm
  go_wp2_with fail
  go_ret
  exact ⟨rfl, Pkg.bl P5⟩
end Qt
end Go.Proofs.Ytjdappmapkagjaa
