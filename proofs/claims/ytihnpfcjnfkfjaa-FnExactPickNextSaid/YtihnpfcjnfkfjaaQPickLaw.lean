/- The law of PickNext returns true and writes nothing that was there, when its slice reads as a list of tasks. -/
import Derived.Test.YtihnpfcjnfkfjaaQPickS
import Derived.Test.YtihnpfcjnfkfjaaQPickR
import Derived.Test.YtihnpfcjnfkfjaaQSchKeep
namespace Go.Proofs.Ytihnpfcjnfkfjaa
open Go.RowKit Go.Sort
set_option linter.unusedSimpArgs false
set_option linter.unusedVariables false
namespace Qt
theorem pickSw (nw sk ag : Int) (A : Option Addr) (n p : Nat) (ss : List Tsk) (rn lf tu nx : Int) (W : World) (hr : RdTsk W A n ss) (hn : n + bigTsk ss ≤ 1048576) (_ : (Lit.int .i64 rn).wf = true) :
    Calls Try.prog 27 #[.agg #[.int .i64 nw, .int .i64 sk, .int .i64 ag, .slice A n p, .int .i64 rn, .int .i64 lf, .int .i64 tu, .int .i64 nx]] W fun e W' => e = .returned (.int .i64 (pickW nw sk ag ss rn lf tu nx)) ∧ Below W.heap.size W W' := pickS nw sk ag A n p ss rn lf tu nx W hr hn
set_option maxHeartbeats 4000000 in
set_option maxRecDepth 100000 in
theorem pickNextLaw (nw sk ag : Int) (A : Option Addr) (n p : Nat) (ss : List Tsk) (rn lf tu nx : Int) (W : World) (hr : RdTskT W A n ss) (hw : (Lit.int .i64 rn).wf = true) :
    Calls Try.prog 6 #[.agg #[.int .i64 nw, .int .i64 sk, .int .i64 ag, .slice A n p, .int .i64 rn, .int .i64 lf, .int .i64 tu, .int .i64 nx]] W fun e W' => e = .returned (.bool true) ∧ Below W.heap.size W W' := by
  have b0 := (Below.refl _ W).alloc (Nat.le_refl _) (.cells #[.int .i64 nw, .int .i64 sk, .int .i64 ag, .slice A n p, .int .i64 rn, .int .i64 lf, .int .i64 tu, .int .i64 nx] 24)
  have KT := Lib.hid (Bk.new W 24 #[.int .i64 nw, .int .i64 sk, .int .i64 ag, .slice A n p, .int .i64 rn, .int .i64 lf, .int .i64 tu, .int .i64 nx])
  have HT : Hid (RdTskT (W.alloc (.cells #[.int .i64 nw, .int .i64 sk, .int .i64 ag, .slice A n p, .int .i64 rn, .int .i64 lf, .int .i64 tu, .int .i64 nx] 24)) A n ss) := Lib.hid ⟨hr.1.of_below b0, hr.2⟩
  have RA := Lib.hid (hr.1.of_below b0)
  have Bl := Lib.hid b0
  have HW := Lib.hid hw
  clear hr b0 hw
  go_enter Try.func6, Try.ntmps6
  go_wp2_with fail
  generalize W.alloc (.cells #[.int .i64 nw, .int .i64 sk, .int .i64 ag, .slice A n p, .int .i64 rn, .int .i64 lf, .int .i64 tu, .int .i64 nx] 24) = v at KT HT RA Bl ⊢
  generalize hgT : W.heap.size = gT at KT ⊢
  clear hgT
  with_reducible refine (szSchL nw sk ag rn lf tu nx A n p ss 1048576 _ HT.out (by omega) (by omega)).mono ?_
  rintro e u0 ⟨rfl, bb⟩
  replace RA := Lib.hid (RA.out.of_below bb)
  replace KT := Lib.hid (KT.out.below bb)
  replace Bl := Lib.hid (Bl.out.trans (bb.mono Bl.out.size))
  clear bb HT
  by_cases hn : (n : Int) + bigTsk ss ≤ 1048576
  case neg =>
    have hR : szRTsk 1048576 n ss = -1 := if_neg hn
    rw [hR]
    clear hR
    go_wp2_with fail
    go_ret
    exact ⟨rfl, Bl.out⟩
  have HN : Hid (n + bigTsk ss ≤ 1048576) := Lib.hid (by omega)
  have hR : szRTsk 1048576 n ss = 1048576 - n - bigTsk ss := if_pos hn
  rw [hR]
  have hleft : ¬ 1048576 - (n : Int) - bigTsk ss < 0 := by omega
  clear hR
  have c0 := KT.out.cell 0 rfl
  have c1 := KT.out.cell 1 rfl
  have c2 := KT.out.cell 2 rfl
  have c3 := KT.out.cell 3 rfl
  have c4 := KT.out.cell 4 rfl
  have c5 := KT.out.cell 5 rfl
  have c6 := KT.out.cell 6 rfl
  have c7 := KT.out.cell 7 rfl
  go_wp2_with fail
  clear hleft hn
  clear c0 c1 c2 c3 c4 c5 c6 c7
  refine (toSchO nw sk ag rn lf tu nx A n p ss _ RA.out HN.out).mono ?_
  rintro e u1 ⟨ga, rfl, oa, bb⟩
  replace RA := Lib.hid (RA.out.of_below bb)
  replace KT := Lib.hid (KT.out.below bb)
  replace Bl := Lib.hid (Bl.out.trans (bb.mono Bl.out.size))
  have Ra := Lib.hid oa.rdc
  clear oa bb
  go_wp2_with fail
  have HS := fun w (h : RdC w (some ⟨ga, 0, none⟩) n ss) => pickSw nw sk ag (some ⟨ga, 0, none⟩) n n ss rn lf tu nx w h.rd HN.out HW.out
  have HI := fun x w (h : RdC w (some ⟨x, 0, none⟩) n ss) => pickNextI nw sk ag (some ⟨x, 0, none⟩) n n ss rn lf tu nx w h.rd HN.out HW.out
  generalize pickW nw sk ag ss rn lf tu nx = t at HS HI
  have HS := Lib.hid HS
  have HI := Lib.hid HI
  refine (HS.out _ Ra.out).mono ?_
  rintro e u2 ⟨rfl, bb⟩
  replace RA := Lib.hid (RA.out.of_below bb)
  replace KT := Lib.hid (KT.out.below bb)
  replace Bl := Lib.hid (Bl.out.trans (bb.mono Bl.out.size))
  clear bb HS Ra
  have c0 := KT.out.cell 0 rfl
  have c1 := KT.out.cell 1 rfl
  have c2 := KT.out.cell 2 rfl
  have c3 := KT.out.cell 3 rfl
  have c4 := KT.out.cell 4 rfl
  have c5 := KT.out.cell 5 rfl
  have c6 := KT.out.cell 6 rfl
  have c7 := KT.out.cell 7 rfl
  go_wp2_with fail
  clear c0 c1 c2 c3 c4 c5 c6 c7
  refine (toSchO nw sk ag rn lf tu nx A n p ss _ RA.out HN.out).mono ?_
  rintro e u3 ⟨gx, rfl, ox, bb⟩
  have ba := (Below.refl _ u3).alloc (Nat.le_refl _) (.cells #[.int .i64 nw, .int .i64 sk, .int .i64 ag, .slice (some ⟨gx, 0, none⟩) n n, .int .i64 rn, .int .i64 lf, .int .i64 tu, .int .i64 nx] 29)
  have P : Hid (SJ W gT u3.heap.size gx nw sk ag A n p ss rn lf tu nx (u3.alloc (.cells #[.int .i64 nw, .int .i64 sk, .int .i64 ag, .slice (some ⟨gx, 0, none⟩) n n, .int .i64 rn, .int .i64 lf, .int .i64 tu, .int .i64 nx] 29))) := Lib.hid ⟨(Bl.out.trans (bb.mono Bl.out.size)).trans (ba.mono (Nat.le_trans Bl.out.size bb.size)), (KT.out.below bb).below ba, (RA.out.of_below bb).of_below ba, Bk.new u3 _ _, ox.rdc.of_below ba⟩
  clear ox bb ba RA KT Bl
  go_wp2_with fail
  generalize u3.alloc (.cells #[.int .i64 nw, .int .i64 sk, .int .i64 ag, .slice (some ⟨gx, 0, none⟩) n n, .int .i64 rn, .int .i64 lf, .int .i64 tu, .int .i64 nx] 29) = v5 at P ⊢
  generalize u3.heap.size = gX at P ⊢
  refine (HI.out _ _ P.out.rx).mono ?_
  rintro e u6 ⟨rfl, bb⟩
  replace P := SJ.below P bb
  clear bb HI
  have htt : (t != t) = false := by simp
  go_wp2_with fail
  clear htt
  have P1 := SJ.drew P
  have SS1 := SJ.cells P1
  go_region_held3 (fun w' => w'.cell? ⟨gX, 0, none⟩ = some (.int .i64 nw) ∧ w'.cell? ⟨gX, 1, none⟩ = some (.int .i64 sk) ∧ w'.cell? ⟨gX, 2, none⟩ = some (.int .i64 ag) ∧ w'.cell? ⟨gX, 3, none⟩ = some (.slice (some ⟨gx, 0, none⟩) n n) ∧ w'.cell? ⟨gX, 4, none⟩ = some (.int .i64 rn) ∧ w'.cell? ⟨gX, 5, none⟩ = some (.int .i64 lf) ∧ w'.cell? ⟨gX, 6, none⟩ = some (.int .i64 tu) ∧ w'.cell? ⟨gX, 7, none⟩ = some (.int .i64 nx) ∧ w'.cell? ⟨gT, 0, none⟩ = some (.int .i64 nw) ∧ w'.cell? ⟨gT, 1, none⟩ = some (.int .i64 sk) ∧ w'.cell? ⟨gT, 2, none⟩ = some (.int .i64 ag) ∧ w'.cell? ⟨gT, 3, none⟩ = some (.slice A n p) ∧ w'.cell? ⟨gT, 4, none⟩ = some (.int .i64 rn) ∧ w'.cell? ⟨gT, 5, none⟩ = some (.int .i64 lf) ∧ w'.cell? ⟨gT, 6, none⟩ = some (.int .i64 tu) ∧ w'.cell? ⟨gT, 7, none⟩ = some (.int .i64 nx))
    (first
      | with_reducible exact SS
      | with_reducible exact SS1)
    (first
      | (go_at_call 16; (with_reducible refine (toSchO nw sk ag rn lf tu nx A n p ss _ P1.out.r HN.out).mono ?_); rintro e uq ⟨gy, rfl, oy, bb⟩; have RY := Lib.hid oy.rd; have P2 := SJ.below P1 bb; have SS := SJ.cells P2)
      | (go_at_call 18; (with_reducible refine (eqSch_same nw sk ag rn lf tu nx _ _ n _ _ ss _ P2.out.rx.rd RY.out HN.out).mono ?_); rintro e uq2 ⟨rfl, bb2⟩; have P3 := SJ.below P2 bb2; have SS := SJ.cells P3)
      | fail)
  go_wp2_with fail
  go_ret
  exact ⟨rfl, P3.out.b⟩
end Qt
end Go.Proofs.Ytihnpfcjnfkfjaa
