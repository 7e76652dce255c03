/- What the laws' own helpers toSched, szSched and eqSched give when they are called. Conditions: the slice of tasks reads as the list that is named. -/
import Derived.Test.YtihnpfcjnfkfjaaQTskToS
import Derived.Test.YtihnpfcjnfkfjaaQTskSz
import Derived.Test.YtihnpfcjnfkfjaaQTskEq
import Derived.Deep.DeepCutAuto
namespace Go.Proofs.Ytihnpfcjnfkfjaa
open Go.RowKit Go.Sort
set_option linter.unusedSimpArgs false
set_option linter.unusedVariables false
namespace Qt
/-- A schedule as a value. -/
abbrev Sch (nw sk ag rn lf tu nx : Int) (A : Option Addr) (n p : Nat) : Value := .agg #[.int .i64 nw, .int .i64 sk, .int .i64 ag, .slice A n p, .int .i64 rn, .int .i64 lf, .int .i64 tu, .int .i64 nx]
def NewSch (W : World) (nw sk ag rn lf tu nx : Int) (n : Nat) (ss : List Tsk) (e : Ending) (W' : World) : Prop :=
  ∃ ga, e = .returned (.agg #[.int .i64 nw, .int .i64 sk, .int .i64 ag, .slice (some ⟨ga, 0, none⟩) n n, .int .i64 rn, .int .i64 lf, .int .i64 tu, .int .i64 nx]) ∧ OwnTsk W.heap.size W' ga n ss ∧ Below W.heap.size W W'
set_option maxHeartbeats 4000000 in
theorem toSchO (nw sk ag rn lf tu nx : Int) (A : Option Addr) (n p : Nat) (ss : List Tsk) (W : World) (hr : RdTsk W A n ss) (hn : n + bigTsk ss ≤ 1048576) :
    Calls Try.prog 16 #[.agg #[.int .i64 nw, .int .i64 sk, .int .i64 ag, .slice A n p, .int .i64 rn, .int .i64 lf, .int .i64 tu, .int .i64 nx]] W (NewSch W nw sk ag rn lf tu nx n ss) := by
  have HN := Lib.hid hn
  have k0 := ((Bk.new W 24 #[.int .i64 nw, .int .i64 sk, .int .i64 ag, .slice A n p, .int .i64 rn, .int .i64 lf, .int .i64 tu, .int .i64 nx]).alloc (.cells #[.int .i64 0, .int .i64 0, .int .i64 0, .slice none 0 0, .int .i64 0, .int .i64 0, .int .i64 0, .int .i64 0] 29)).alloc (.cells #[.int .i64 nw, .int .i64 sk, .int .i64 ag, .slice none 0 0, .int .i64 0, .int .i64 0, .int .i64 0, .int .i64 0] 29)
  have k2 := (Bk.new (W.alloc (.cells #[.int .i64 nw, .int .i64 sk, .int .i64 ag, .slice A n p, .int .i64 rn, .int .i64 lf, .int .i64 tu, .int .i64 nx] 24)) 29 #[.int .i64 0, .int .i64 0, .int .i64 0, .slice none 0 0, .int .i64 0, .int .i64 0, .int .i64 0, .int .i64 0]).alloc (.cells #[.int .i64 nw, .int .i64 sk, .int .i64 ag, .slice none 0 0, .int .i64 0, .int .i64 0, .int .i64 0, .int .i64 0] 29)
  have k3 := Bk.new ((W.alloc (.cells #[.int .i64 nw, .int .i64 sk, .int .i64 ag, .slice A n p, .int .i64 rn, .int .i64 lf, .int .i64 tu, .int .i64 nx] 24)).alloc (.cells #[.int .i64 0, .int .i64 0, .int .i64 0, .slice none 0 0, .int .i64 0, .int .i64 0, .int .i64 0, .int .i64 0] 29)) 29 #[.int .i64 nw, .int .i64 sk, .int .i64 ag, .slice none 0 0, .int .i64 0, .int .i64 0, .int .i64 0, .int .i64 0]
  have b0 : Below W.heap.size W (((W.alloc (.cells #[.int .i64 nw, .int .i64 sk, .int .i64 ag, .slice A n p, .int .i64 rn, .int .i64 lf, .int .i64 tu, .int .i64 nx] 24)).alloc (.cells #[.int .i64 0, .int .i64 0, .int .i64 0, .slice none 0 0, .int .i64 0, .int .i64 0, .int .i64 0, .int .i64 0] 29)).alloc (.cells #[.int .i64 nw, .int .i64 sk, .int .i64 ag, .slice none 0 0, .int .i64 0, .int .i64 0, .int .i64 0, .int .i64 0] 29)) := (((Below.refl _ W).alloc (Nat.le_refl _) _).alloc (by simp) _).alloc (by simp only [World.size_alloc]; omega) _
  simp only [World.size_alloc] at k2 k3
  have G2 := Lib.hid (show W.heap.size ≤ W.heap.size + 1 by omega)
  have G3 := Lib.hid (show W.heap.size ≤ W.heap.size + 1 + 1 by omega)
  have N02 := Lib.hid (show W.heap.size ≠ W.heap.size + 1 + 1 by omega)
  have N23 := Lib.hid (show W.heap.size + 1 ≠ W.heap.size + 1 + 1 by omega)
  have HR := Lib.hid (hr.of_below b0)
  have K0 := Lib.hid k0; have K2 := Lib.hid k2; have K3 := Lib.hid k3; have B1 := Lib.hid b0
  clear hn hr k0 k2 k3 b0
  go_enter Try.func16, Try.ntmps16
  go_wp2_with fail
  generalize (((W.alloc (.cells #[.int .i64 nw, .int .i64 sk, .int .i64 ag, .slice A n p, .int .i64 rn, .int .i64 lf, .int .i64 tu, .int .i64 nx] 24)).alloc (.cells #[.int .i64 0, .int .i64 0, .int .i64 0, .slice none 0 0, .int .i64 0, .int .i64 0, .int .i64 0, .int .i64 0] 29)).alloc (.cells #[.int .i64 nw, .int .i64 sk, .int .i64 ag, .slice none 0 0, .int .i64 0, .int .i64 0, .int .i64 0, .int .i64 0] 29)) = w1 at K0 K2 K3 B1 HR ⊢
  generalize W.heap.size + 1 + 1 = g3 at K3 G3 N02 N23 ⊢
  generalize W.heap.size + 1 = g2 at K2 G2 N23 ⊢
  refine (toTskSL A n p ss _ HR.out HN.out).mono ?_
  rintro e w5 ⟨ga, rfl, hga, r5, b5⟩
  have hg3 : g3 < w1.heap.size := K3.out.lt
  have hg2 : g2 < w1.heap.size := K2.out.lt
  have HG3 := Lib.hid hg3
  have HG2 := Lib.hid hg2
  have HWS := Lib.hid B1.out.size
  replace K0 := Lib.hid (K0.out.below b5)
  replace K2 := Lib.hid (K2.out.below b5)
  replace K3 := Lib.hid (K3.out.below b5)
  have B5 := Lib.hid (B1.out.trans (b5.mono B1.out.size))
  have R5 := Lib.hid r5
  clear hg3 hg2 hga r5 b5 B1 HR HN
  have c0 := K0.out.cell 0 rfl
  have d0 := K3.out.cell 0 rfl
  have f0 := K3.out.frozen 0
  have c1 := K0.out.cell 1 rfl
  have d1 := K3.out.cell 1 rfl
  have f1 := K3.out.frozen 1
  have c2 := K0.out.cell 2 rfl
  have d2 := K3.out.cell 2 rfl
  have f2 := K3.out.frozen 2
  have c3 := K0.out.cell 3 rfl
  have d3 := K3.out.cell 3 rfl
  have f3 := K3.out.frozen 3
  have c4 := K0.out.cell 4 rfl
  have d4 := K3.out.cell 4 rfl
  have f4 := K3.out.frozen 4
  have c5 := K0.out.cell 5 rfl
  have d5 := K3.out.cell 5 rfl
  have f5 := K3.out.frozen 5
  have c6 := K0.out.cell 6 rfl
  have d6 := K3.out.cell 6 rfl
  have f6 := K3.out.frozen 6
  have c7 := K0.out.cell 7 rfl
  have d7 := K3.out.cell 7 rfl
  have f7 := K3.out.frozen 7
  have hne : g2 ≠ g3 := N23.out
  have hne0 : W.heap.size ≠ g3 := N02.out
  go_upto_region 10 with fail
  have k3 : Bk _ g3 29 #[.int .i64 nw, .int .i64 sk, .int .i64 ag, .slice (some ⟨ga, 0, none⟩) n n, .int .i64 rn, .int .i64 lf, .int .i64 tu, .int .i64 nx] := (((((K3.out.set 3 (.slice (some ⟨ga, 0, none⟩) n n)).set 4 (.int .i64 rn)).set 5 (.int .i64 lf)).set 6 (.int .i64 tu)).set 7 (.int .i64 nx))
  replace K3 := Lib.hid k3
  replace K2 := Lib.hid ((((((K2.out.far (p := ⟨g3, 3, none⟩) hne (.slice (some ⟨ga, 0, none⟩) n n)).far (p := ⟨g3, 4, none⟩) hne (.int .i64 rn)).far (p := ⟨g3, 5, none⟩) hne (.int .i64 lf)).far (p := ⟨g3, 6, none⟩) hne (.int .i64 tu)).far (p := ⟨g3, 7, none⟩) hne (.int .i64 nx)))
  replace R5 := Lib.hid ((((((R5.out.low (p := ⟨g3, 3, none⟩) HG3.out (.slice (some ⟨ga, 0, none⟩) n n)).low (p := ⟨g3, 4, none⟩) HG3.out (.int .i64 rn)).low (p := ⟨g3, 5, none⟩) HG3.out (.int .i64 lf)).low (p := ⟨g3, 6, none⟩) HG3.out (.int .i64 tu)).low (p := ⟨g3, 7, none⟩) HG3.out (.int .i64 nx)))
  replace B5 := Lib.hid ((((((B5.out.setCell (p := ⟨g3, 3, none⟩) G3.out (.slice (some ⟨ga, 0, none⟩) n n)).setCell (p := ⟨g3, 4, none⟩) G3.out (.int .i64 rn)).setCell (p := ⟨g3, 5, none⟩) G3.out (.int .i64 lf)).setCell (p := ⟨g3, 6, none⟩) G3.out (.int .i64 tu)).setCell (p := ⟨g3, 7, none⟩) G3.out (.int .i64 nx)))
  clear k3 c0 d0 f0 c1 d1 f1 c2 d2 f2 c3 d3 f3 c4 d4 f4 c5 d5 f5 c6 d6 f6 c7 d7 f7 hne hne0
  generalize (((((w5.setCell ⟨g3, 3, none⟩ (.slice (some ⟨ga, 0, none⟩) n n)).setCell ⟨g3, 4, none⟩ (.int .i64 rn)).setCell ⟨g3, 5, none⟩ (.int .i64 lf)).setCell ⟨g3, 6, none⟩ (.int .i64 tu)).setCell ⟨g3, 7, none⟩ (.int .i64 nx)) = w6 at K3 K2 R5 B5 ⊢
  have d0 := K3.out.cell 0 rfl
  have i0 := K2.out.cell 0 rfl
  have j0 := K2.out.frozen 0
  have d1 := K3.out.cell 1 rfl
  have i1 := K2.out.cell 1 rfl
  have j1 := K2.out.frozen 1
  have d2 := K3.out.cell 2 rfl
  have i2 := K2.out.cell 2 rfl
  have j2 := K2.out.frozen 2
  have d3 := K3.out.cell 3 rfl
  have i3 := K2.out.cell 3 rfl
  have j3 := K2.out.frozen 3
  have d4 := K3.out.cell 4 rfl
  have i4 := K2.out.cell 4 rfl
  have j4 := K2.out.frozen 4
  have d5 := K3.out.cell 5 rfl
  have i5 := K2.out.cell 5 rfl
  have j5 := K2.out.frozen 5
  have d6 := K3.out.cell 6 rfl
  have i6 := K2.out.cell 6 rfl
  have j6 := K2.out.frozen 6
  have d7 := K3.out.cell 7 rfl
  have i7 := K2.out.cell 7 rfl
  have j7 := K2.out.frozen 7
  have l3 := K3.out.lt
  have l2 := K2.out.lt
  go_wp2_with fail
  have k9 := ((((((((K2.out.set 0 (.int .i64 nw)).set 1 (.int .i64 sk)).set 2 (.int .i64 ag)).set 3 (.slice (some ⟨ga, 0, none⟩) n n)).set 4 (.int .i64 rn)).set 5 (.int .i64 lf)).set 6 (.int .i64 tu)).set 7 (.int .i64 nx))
  have r9 := ((((((((R5.out.low (p := ⟨g2, 0, none⟩) HG2.out (.int .i64 nw)).low (p := ⟨g2, 1, none⟩) HG2.out (.int .i64 sk)).low (p := ⟨g2, 2, none⟩) HG2.out (.int .i64 ag)).low (p := ⟨g2, 3, none⟩) HG2.out (.slice (some ⟨ga, 0, none⟩) n n)).low (p := ⟨g2, 4, none⟩) HG2.out (.int .i64 rn)).low (p := ⟨g2, 5, none⟩) HG2.out (.int .i64 lf)).low (p := ⟨g2, 6, none⟩) HG2.out (.int .i64 tu)).low (p := ⟨g2, 7, none⟩) HG2.out (.int .i64 nx))
  have b9 := ((((((((B5.out.setCell (p := ⟨g2, 0, none⟩) G2.out (.int .i64 nw)).setCell (p := ⟨g2, 1, none⟩) G2.out (.int .i64 sk)).setCell (p := ⟨g2, 2, none⟩) G2.out (.int .i64 ag)).setCell (p := ⟨g2, 3, none⟩) G2.out (.slice (some ⟨ga, 0, none⟩) n n)).setCell (p := ⟨g2, 4, none⟩) G2.out (.int .i64 rn)).setCell (p := ⟨g2, 5, none⟩) G2.out (.int .i64 lf)).setCell (p := ⟨g2, 6, none⟩) G2.out (.int .i64 tu)).setCell (p := ⟨g2, 7, none⟩) G2.out (.int .i64 nx))
  have k9' : Bk _ g2 29 #[.int .i64 nw, .int .i64 sk, .int .i64 ag, .slice (some ⟨ga, 0, none⟩) n n, .int .i64 rn, .int .i64 lf, .int .i64 tu, .int .i64 nx] := k9
  have z0 := k9'.cell 0 rfl
  have z1 := k9'.cell 1 rfl
  have z2 := k9'.cell 2 rfl
  have z3 := k9'.cell 3 rfl
  have z4 := k9'.cell 4 rfl
  have z5 := k9'.cell 5 rfl
  have z6 := k9'.cell 6 rfl
  have z7 := k9'.cell 7 rfl
  refine bodyPost_ret (v := .agg #[.int .i64 nw, .int .i64 sk, .int .i64 ag, .slice (some ⟨ga, 0, none⟩) n n, .int .i64 rn, .int .i64 lf, .int .i64 tu, .int .i64 nx]) ?_ rfl ⟨ga, rfl, r9.base HWS.out, b9⟩
  clear k9 k9' r9 b9 d0 i0 j0 d1 i1 j1 d2 i2 j2 d3 i3 j3 d4 i4 j4 d5 i5 j5 d6 i6 j6 d7 i7 j7
  generalize (((((((w6.setCell ⟨g2, 0, none⟩ (.int .i64 nw)).setCell ⟨g2, 1, none⟩ (.int .i64 sk)).setCell ⟨g2, 2, none⟩ (.int .i64 ag)).setCell ⟨g2, 3, none⟩ (.slice (some ⟨ga, 0, none⟩) n n)).setCell ⟨g2, 4, none⟩ (.int .i64 rn)).setCell ⟨g2, 5, none⟩ (.int .i64 lf)).setCell ⟨g2, 6, none⟩ (.int .i64 tu)) = w8 at z0 z1 z2 z3 z4 z5 z6 z7 ⊢
  generalize w8.setCell ⟨g2, 7, none⟩ (.int .i64 nx) = w9 at z0 z1 z2 z3 z4 z5 z6 z7 ⊢
  simp [results, Try.results16, go_sem, z0, z1, z2, z3, z4, z5, z6, z7]
theorem szSchL (nw sk ag rn lf tu nx : Int) (A : Option Addr) (n p : Nat) (ss : List Tsk) (left : Int) (W : World) (hr : RdTskT W A n ss) (hl0 : 0 ≤ left) (hl : left ≤ 1048576) :
    Calls Try.prog 14 #[.agg #[.int .i64 nw, .int .i64 sk, .int .i64 ag, .slice A n p, .int .i64 rn, .int .i64 lf, .int .i64 tu, .int .i64 nx], .int .i64 left] W fun e W' => e = .returned (.int .i64 (szRTsk left n ss)) ∧ Below W.heap.size W W' := by
  have b0 := (Below.refl _ W).alloc (Nat.le_refl _) (.cells #[.int .i64 nw, .int .i64 sk, .int .i64 ag, .slice A n p, .int .i64 rn, .int .i64 lf, .int .i64 tu, .int .i64 nx] 24)
  have HT : Hid (RdTskT (W.alloc (.cells #[.int .i64 nw, .int .i64 sk, .int .i64 ag, .slice A n p, .int .i64 rn, .int .i64 lf, .int .i64 tu, .int .i64 nx] 24)) A n ss) := Lib.hid ⟨hr.1.of_below b0, hr.2⟩
  have Bl := Lib.hid b0
  obtain ⟨R, hR⟩ : ∃ R, szRTsk left n ss = R := ⟨_, rfl⟩
  have hR1 : R = -1 ∨ (0 ≤ R ∧ R ≤ 1048576) := by rw [← hR]; unfold szRTsk; split <;> omega
  have HRR := Lib.hid hR
  rw [hR]
  clear hr b0 hR
  go_enter Try.func14, Try.ntmps14
  go_wp2_with fail
  generalize W.alloc (.cells #[.int .i64 nw, .int .i64 sk, .int .i64 ag, .slice A n p, .int .i64 rn, .int .i64 lf, .int .i64 tu, .int .i64 nx] 24) = v at HT Bl ⊢
  with_reducible refine (szTskSL A n p ss left _ HT.out hl0 hl).mono ?_
  rintro e w1 ⟨rfl, bb⟩
  rw [HRR.out]
  have Bl2 := Lib.hid (Bl.out.trans (bb.mono Bl.out.size))
  clear bb Bl HT
  rcases hR1 with rfl | ⟨h1, h2⟩
  · go_wp2_with fail
    go_ret
    exact ⟨rfl, Bl2.out⟩
  · have h3 : ¬ R < 0 := by omega
    go_wp2_with fail
    go_ret
    exact ⟨rfl, Bl2.out⟩
set_option maxHeartbeats 1000000 in
theorem eqSch_same (nw sk ag rn lf tu nx : Int) (A A2 : Option Addr) (n p p2 : Nat) (ss : List Tsk) (W : World) (ra : RdTsk W A n ss) (ra2 : RdTsk W A2 n ss) (hn : n + bigTsk ss ≤ 1048576) :
    Calls Try.prog 18 #[.agg #[.int .i64 nw, .int .i64 sk, .int .i64 ag, .slice A n p, .int .i64 rn, .int .i64 lf, .int .i64 tu, .int .i64 nx], .agg #[.int .i64 nw, .int .i64 sk, .int .i64 ag, .slice A2 n p2, .int .i64 rn, .int .i64 lf, .int .i64 tu, .int .i64 nx]] W fun e W' => e = .returned (.bool true) ∧ Below W.heap.size W W' := by
  have b0 := ((Below.refl _ W).alloc (Nat.le_refl _) (.cells #[.int .i64 nw, .int .i64 sk, .int .i64 ag, .slice A n p, .int .i64 rn, .int .i64 lf, .int .i64 tu, .int .i64 nx] 29)).alloc (by simp) (.cells #[.int .i64 nw, .int .i64 sk, .int .i64 ag, .slice A2 n p2, .int .i64 rn, .int .i64 lf, .int .i64 tu, .int .i64 nx] 29)
  have k0 := (Bk.new W 29 #[.int .i64 nw, .int .i64 sk, .int .i64 ag, .slice A n p, .int .i64 rn, .int .i64 lf, .int .i64 tu, .int .i64 nx]).alloc (.cells #[.int .i64 nw, .int .i64 sk, .int .i64 ag, .slice A2 n p2, .int .i64 rn, .int .i64 lf, .int .i64 tu, .int .i64 nx] 29)
  have k1 := Bk.new (W.alloc (.cells #[.int .i64 nw, .int .i64 sk, .int .i64 ag, .slice A n p, .int .i64 rn, .int .i64 lf, .int .i64 tu, .int .i64 nx] 29)) 29 #[.int .i64 nw, .int .i64 sk, .int .i64 ag, .slice A2 n p2, .int .i64 rn, .int .i64 lf, .int .i64 tu, .int .i64 nx]
  simp only [World.size_alloc] at k1
  have S1 := Lib.hid (ra.of_below b0)
  have S2 := Lib.hid (ra2.of_below b0)
  have HN := Lib.hid hn
  have K0 := Lib.hid k0; have K1 := Lib.hid k1; have Bl := Lib.hid b0
  clear ra ra2 hn b0 k0 k1
  go_enter Try.func18, Try.ntmps18
  go_wp2_with fail
  generalize (W.alloc (.cells #[.int .i64 nw, .int .i64 sk, .int .i64 ag, .slice A n p, .int .i64 rn, .int .i64 lf, .int .i64 tu, .int .i64 nx] 29)).alloc (.cells #[.int .i64 nw, .int .i64 sk, .int .i64 ag, .slice A2 n p2, .int .i64 rn, .int .i64 lf, .int .i64 tu, .int .i64 nx] 29) = v at S1 S2 K0 K1 Bl ⊢
  generalize W.heap.size + 1 = g1 at K1 ⊢
  refine (eqTskS_same _ _ _ _ _ ss _ S1.out S2.out HN.out).mono ?_
  rintro e w3 ⟨rfl, bb⟩
  replace K0 := Lib.hid (K0.out.below bb)
  replace K1 := Lib.hid (K1.out.below bb)
  replace Bl := Lib.hid (Bl.out.trans (bb.mono Bl.out.size))
  clear bb
  have c0 := K0.out.cell 0 rfl
  have d0 := K1.out.cell 0 rfl
  have c1 := K0.out.cell 1 rfl
  have d1 := K1.out.cell 1 rfl
  have c2 := K0.out.cell 2 rfl
  have d2 := K1.out.cell 2 rfl
  have c3 := K0.out.cell 3 rfl
  have d3 := K1.out.cell 3 rfl
  have c4 := K0.out.cell 4 rfl
  have d4 := K1.out.cell 4 rfl
  have c5 := K0.out.cell 5 rfl
  have d5 := K1.out.cell 5 rfl
  have c6 := K0.out.cell 6 rfl
  have d6 := K1.out.cell 6 rfl
  have c7 := K0.out.cell 7 rfl
  have d7 := K1.out.cell 7 rfl
  go_wp2_with fail
  go_ret
  exact ⟨rfl, Bl.out⟩
end Qt
end Go.Proofs.Ytihnpfcjnfkfjaa
