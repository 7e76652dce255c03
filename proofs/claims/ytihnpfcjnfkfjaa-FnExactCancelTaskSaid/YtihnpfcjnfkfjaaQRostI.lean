/- What rosterOf of the program gives when it is called: whether the schedule is right, and its tasks in a map. Conditions: the slice of tasks reads as the list that is named; the task under way is an int. -/
import Derived.Test.YtihnpfcjnfkfjaaQRost
import Derived.Test.YtihnpfcjnfkfjaaQNewI
import Derived.Test.YtihnpfcjnfkfjaaQSchedTo
import Derived.RegionTactic
namespace Go.Proofs.Ytihnpfcjnfkfjaa
open Go.RowKit Go.Sort
set_option linter.unusedSimpArgs false
set_option linter.unusedVariables false
namespace Qt
/-- A roster that is right, with its map; or the zero value, and false. -/
def RosR (W : World) (nw sk ag : Int) (A : Option Addr) (rn lf tu nx : Int) (ss : List Tsk) : Bool → Ending → World → Prop
  | true, e, W' => ∃ b es, e = .returned (.tuple #[RosV nw sk ag rn lf tu nx b, .bool true]) ∧ W.heap.size ≤ b ∧ W'.ownsMap Try.prog 3 asV b ss.length (mapOf es) ∧ Ent W' ss es ∧ (CapTsk W A ss → CapE ss es) ∧ Below W.heap.size W W'
  | false, e, W' => e = .returned (.tuple #[.agg #[.int .i64 0, .int .i64 0, .int .i64 0, .slice none 0 0, .int .i64 0, .int .i64 0, .int .i64 0, .int .i64 0, .map none], .bool false]) ∧ Below W.heap.size W W'
set_option maxRecDepth 100000 in
set_option maxHeartbeats 4000000 in
theorem rosterI (nw sk ag : Int) (A : Option Addr) (n p : Nat) (ss : List Tsk) (rn lf tu nx : Int) (W : World) (hr : RdTsk W A n ss) (hn : n + bigTsk ss ≤ 1048576) (hw : (Lit.int .i64 rn).wf = true) :
    Calls Try.prog 51 #[.agg #[.int .i64 nw, .int .i64 sk, .int .i64 ag, .slice A n p, .int .i64 rn, .int .i64 lf, .int .i64 tu, .int .i64 nx]] W (RosR W nw sk ag A rn lf tu nx ss (schB nw sk ag ss rn lf tu nx)) := by
  obtain ⟨R, hR⟩ : ∃ R, R = schB nw sk ag ss rn lf tu nx := ⟨_, rfl⟩
  rw [← hR]
  have HRR := Lib.hid hR
  obtain ⟨es, hent, hE⟩ := ent_of hr
  have HENT := Lib.hid hent
  have HCE : Hid (CapTsk W A ss → CapE ss es) := Lib.hid (fun hc j t ht => by
    obtain ⟨P, h1, h2⟩ := hE j t ht
    have hj : j < n := by have := (List.getElem?_eq_some_iff.1 ht).1; have := hr.1; omega
    obtain ⟨b, off, e, hlt, _⟩ := hr.2 (by omega)
    exact ⟨P, h1, hc b off e hlt j t P ht (h2 b off e)⟩)
  have HE := Lib.hid hE
  have HRD := Lib.hid hr
  have HL := Lib.hid hr.1
  have HN := Lib.hid hn
  have HW := Lib.hid hw
  have hn1 : (n : Int) ≤ 1048576 := by omega
  have hn0 : (0 : Int) ≤ n := Int.natCast_nonneg n
  have hmm := @run_makeMap Try.prog
  have kS := (Bk.new W 29 #[.int .i64 nw, .int .i64 sk, .int .i64 ag, .slice A n p, .int .i64 rn, .int .i64 lf, .int .i64 tu, .int .i64 nx]).alloc (.cells #[.int .i64 0, .int .i64 0, .int .i64 0, .slice none 0 0, .int .i64 0, .int .i64 0, .int .i64 0, .int .i64 0, .map none] 58)
  have kR := Bk.new (W.alloc (.cells #[.int .i64 nw, .int .i64 sk, .int .i64 ag, .slice A n p, .int .i64 rn, .int .i64 lf, .int .i64 tu, .int .i64 nx] 29)) 58 #[.int .i64 0, .int .i64 0, .int .i64 0, .slice none 0 0, .int .i64 0, .int .i64 0, .int .i64 0, .int .i64 0, .map none]
  have b0 := ((Below.refl _ W).alloc (Nat.le_refl _) (.cells #[.int .i64 nw, .int .i64 sk, .int .i64 ag, .slice A n p, .int .i64 rn, .int .i64 lf, .int .i64 tu, .int .i64 nx] 29)).alloc (by simp) (.cells #[.int .i64 0, .int .i64 0, .int .i64 0, .slice none 0 0, .int .i64 0, .int .i64 0, .int .i64 0, .int .i64 0, .map none] 58)
  simp only [World.size_alloc] at kR
  have KS := Lib.hid kS; have KR := Lib.hid kR; have Bl := Lib.hid b0
  have G1 := Lib.hid (show W.heap.size ≤ W.heap.size + 1 by omega)
  have N1 := Lib.hid (show W.heap.size ≠ W.heap.size + 1 by omega)
  clear kS kR b0 hR hent hE hr hn hw
  go_enter Try.func51, Try.ntmps51
  go_wp2_with fail
  generalize (W.alloc (.cells #[.int .i64 nw, .int .i64 sk, .int .i64 ag, .slice A n p, .int .i64 rn, .int .i64 lf, .int .i64 tu, .int .i64 nx] 29)).alloc (.cells #[.int .i64 0, .int .i64 0, .int .i64 0, .slice none 0 0, .int .i64 0, .int .i64 0, .int .i64 0, .int .i64 0, .map none] 58) = v0 at KS KR Bl ⊢
  generalize W.heap.size + 1 = gR at KR G1 N1 ⊢
  generalize hgS : W.heap.size = gS at KS N1 ⊢
  have HGS := Lib.hid hgS
  clear hgS
  refine (headOkI nw sk ag A n p rn lf tu nx v0).mono ?_
  rintro e w1 ⟨rfl, bb⟩
  replace KS := Lib.hid (KS.out.below bb)
  replace KR := Lib.hid (KR.out.below bb)
  replace Bl := Lib.hid (Bl.out.trans (bb.mono Bl.out.size))
  clear bb
  rcases hh : headB nw sk ag tu nx with _ | _
  · obtain rfl : R = false := by rw [HRR.out]; exact schB_head hh
    clear hh
    have q0 := KR.out.frozen 0
    have q1 := KR.out.frozen 1
    have q2 := KR.out.frozen 2
    have q3 := KR.out.frozen 3
    have q4 := KR.out.frozen 4
    have q5 := KR.out.frozen 5
    have q6 := KR.out.frozen 6
    have q7 := KR.out.frozen 7
    have q8 := KR.out.frozen 8
    have r0 := KR.out.cell 0 rfl
    have r1 := KR.out.cell 1 rfl
    have r2 := KR.out.cell 2 rfl
    have r3 := KR.out.cell 3 rfl
    have r4 := KR.out.cell 4 rfl
    have r5 := KR.out.cell 5 rfl
    have r6 := KR.out.cell 6 rfl
    have r7 := KR.out.cell 7 rfl
    have r8 := KR.out.cell 8 rfl
    have l2 := KR.out.lt
    go_wp2_with fail
    have k9 := KR.out.set9 (y0 := .int .i64 0) (y1 := .int .i64 0) (y2 := .int .i64 0) (y3 := .slice none 0 0) (y4 := .int .i64 0) (y5 := .int .i64 0) (y6 := .int .i64 0) (y7 := .int .i64 0) (y8 := .map none)
    have b9 := below_set9 Bl.out G1.out (.int .i64 0) (.int .i64 0) (.int .i64 0) (.slice none 0 0) (.int .i64 0) (.int .i64 0) (.int .i64 0) (.int .i64 0) (.map none)
    obtain ⟨z0, z1, z2, z3, z4, z5, z6, z7, z8⟩ := k9.cell9
    refine bodyPost_ret (v := .tuple #[.agg #[.int .i64 0, .int .i64 0, .int .i64 0, .slice none 0 0, .int .i64 0, .int .i64 0, .int .i64 0, .int .i64 0, .map none], .bool false]) ?_ rfl ⟨rfl, b9⟩
    simp [results, Try.results51, go_sem, z0, z1, z2, z3, z4, z5, z6, z7, z8]
  by_cases h12 : (12 : Int) < (n : Int)
  · obtain rfl : R = false := by rw [HRR.out]; exact schB_len (by rw [HL.out]; omega)
    have c0 := KS.out.cell 0 rfl
    have c1 := KS.out.cell 1 rfl
    have c2 := KS.out.cell 2 rfl
    have c3 := KS.out.cell 3 rfl
    have c4 := KS.out.cell 4 rfl
    have c5 := KS.out.cell 5 rfl
    have c6 := KS.out.cell 6 rfl
    have c7 := KS.out.cell 7 rfl
    have q0 := KR.out.frozen 0
    have q1 := KR.out.frozen 1
    have q2 := KR.out.frozen 2
    have q3 := KR.out.frozen 3
    have q4 := KR.out.frozen 4
    have q5 := KR.out.frozen 5
    have q6 := KR.out.frozen 6
    have q7 := KR.out.frozen 7
    have q8 := KR.out.frozen 8
    have r0 := KR.out.cell 0 rfl
    have r1 := KR.out.cell 1 rfl
    have r2 := KR.out.cell 2 rfl
    have r3 := KR.out.cell 3 rfl
    have r4 := KR.out.cell 4 rfl
    have r5 := KR.out.cell 5 rfl
    have r6 := KR.out.cell 6 rfl
    have r7 := KR.out.cell 7 rfl
    have r8 := KR.out.cell 8 rfl
    have l2 := KR.out.lt
    go_wp2_with fail
    have k9 := KR.out.set9 (y0 := .int .i64 0) (y1 := .int .i64 0) (y2 := .int .i64 0) (y3 := .slice none 0 0) (y4 := .int .i64 0) (y5 := .int .i64 0) (y6 := .int .i64 0) (y7 := .int .i64 0) (y8 := .map none)
    have b9 := below_set9 Bl.out G1.out (.int .i64 0) (.int .i64 0) (.int .i64 0) (.slice none 0 0) (.int .i64 0) (.int .i64 0) (.int .i64 0) (.int .i64 0) (.map none)
    obtain ⟨z0, z1, z2, z3, z4, z5, z6, z7, z8⟩ := k9.cell9
    refine bodyPost_ret (v := .tuple #[.agg #[.int .i64 0, .int .i64 0, .int .i64 0, .slice none 0 0, .int .i64 0, .int .i64 0, .int .i64 0, .int .i64 0, .map none], .bool false]) ?_ rfl ⟨rfl, b9⟩
    simp [results, Try.results51, go_sem, z0, z1, z2, z3, z4, z5, z6, z7, z8]
  have HS : Hid (R = (tsksB nx nw 0 ss && runB ss rn lf)) := Lib.hid (by rw [HRR.out]; exact schB_yes hh (by rw [HL.out]; omega))
  clear hh HRR
  have c0 := KS.out.cell 0 rfl
  have c1 := KS.out.cell 1 rfl
  have c2 := KS.out.cell 2 rfl
  have c3 := KS.out.cell 3 rfl
  have c4 := KS.out.cell 4 rfl
  have c5 := KS.out.cell 5 rfl
  have c6 := KS.out.cell 6 rfl
  have c7 := KS.out.cell 7 rfl
  have l1 := KS.out.lt
  have l2 := KR.out.lt
  go_wp2_with fail
  clear c0 c1 c2 c3 c4 c5 c6 c7
  have hown := World.ownsMap_made w1 Try.prog 3 asV
  have kQ := Bk.new (w1.alloc (.map #[] 0)) 58 #[.int .i64 nw, .int .i64 sk, .int .i64 ag, .slice none 0 0, .int .i64 rn, .int .i64 lf, .int .i64 tu, .int .i64 nx, .map (some w1.heap.size)]
  simp only [World.size_alloc] at kQ
  have ba := ((Below.refl _ w1).alloc (Nat.le_refl _) (.map #[] 0)).alloc (by simp) (.cells #[.int .i64 nw, .int .i64 sk, .int .i64 ag, .slice none 0 0, .int .i64 rn, .int .i64 lf, .int .i64 tu, .int .i64 nx, .map (some w1.heap.size)] 58)
  have HMM := Lib.hid (ownsMap_below hown ((Below.refl _ (w1.alloc (.map #[] 0))).alloc (Nat.le_refl _) (.cells #[.int .i64 nw, .int .i64 sk, .int .i64 ag, .slice none 0 0, .int .i64 rn, .int .i64 lf, .int .i64 tu, .int .i64 nx, .map (some w1.heap.size)] 58)))
  have KQ := Lib.hid kQ
  replace KR := Lib.hid (KR.out.below ba)
  replace KS := Lib.hid (KS.out.below ba)
  have HGM : Hid (W.heap.size ≤ w1.heap.size) := Lib.hid Bl.out.size
  replace Bl := Lib.hid (Bl.out.trans (ba.mono Bl.out.size))
  have NE : Hid (gR ≠ w1.heap.size + 1 ∧ gR ≠ w1.heap.size ∧ gS ≠ w1.heap.size ∧ w1.heap.size + 1 ≠ w1.heap.size ∧ w1.heap.size + 1 ≠ gS) := Lib.hid (by omega)
  generalize (w1.alloc (.map #[] 0)).alloc (.cells #[.int .i64 nw, .int .i64 sk, .int .i64 ag, .slice none 0 0, .int .i64 rn, .int .i64 lf, .int .i64 tu, .int .i64 nx, .map (some w1.heap.size)] 58) = x2 at KQ KR KS Bl HMM ⊢
  clear kQ ba hown l1 l2 hmm
  generalize w1.heap.size + 1 = gQ at KQ NE ⊢
  generalize w1.heap.size = gm at KQ NE HGM HMM ⊢
  go_loopw [5, 26] (fun la i wr => ∃ k : Nat, k ≤ n ∧ i = .int .i64 k ∧ la = .int .i64 (lastId ss k) ∧ Hid (tsksB nx nw 0 ss = tsksB nx nw (lastId ss k) (ss.drop k)) ∧ Hid (wr.ownsMap Try.prog 3 asV gm k (mapOf (es.take k))) ∧ Hid (Bk wr gQ 58 #[.int .i64 nw, .int .i64 sk, .int .i64 ag, .slice none 0 0, .int .i64 rn, .int .i64 lf, .int .i64 tu, .int .i64 nx, .map (some gm)]) ∧ Hid (Bk wr gR 58 #[.int .i64 0, .int .i64 0, .int .i64 0, .slice none 0 0, .int .i64 0, .int .i64 0, .int .i64 0, .int .i64 0, .map none]) ∧ Hid (Bk wr gS 29 #[.int .i64 nw, .int .i64 sk, .int .i64 ag, .slice A n p, .int .i64 rn, .int .i64 lf, .int .i64 tu, .int .i64 nx]) ∧ Hid (Below W.heap.size W wr)) (fun _ i _ => n - (intOf i).toNat)
  case atStart => exact ⟨0, Nat.zero_le _, rfl, rfl, Lib.hid rfl, HMM, KQ, KR, KS, Bl⟩
  case round =>
    clear HMM KQ KR KS Bl
    obtain ⟨k, hk, rfl, rfl, HT, HMM, KQ, KR, KS, Bl⟩ := hrel
    by_cases hlt : k < n
    · obtain ⟨b, off, ti1, ta1, td1, tb1, A0, n0', p0', xs, hA, hbs, hj, _⟩ := HRD.out.at hlt
      subst hA
      obtain ⟨P, hes, hat⟩ := HE.out k _ hj
      have hat := (hat b off rfl).of_below hbs Bl.out
      obtain ⟨A', n', p'⟩ := P
      obtain ⟨e0, e1, e2, e3, e4⟩ := hat.cells
      have hst := tsksB_step (nx := nx) (nw := nw) hj
      have R1 := Lib.hid hat.rds
      have hbig := bigTsk_at1 hj
      have hle := hat.lens
      have N2 : Hid (n' ≤ 1048576) := Lib.hid (by have := HN.out; omega)
      have HTK : Hid (es.take (k + 1) = es.take k ++ [(ti1, .agg #[.int .i64 ti1, .slice A' n' p', .int .i64 ta1, .int .i64 td1, .int .i64 tb1])]) := Lib.hid (by rw [List.take_add_one, hes]; rfl)
      have HLI := Lib.hid (lastId_succ hj)
      simp only [tkB] at hst
      have HST := Lib.hid hst
      clear hat hj hst hbig hle hes hbs
      obtain ⟨la, hla⟩ : ∃ la, lastId ss k = la := ⟨_, rfl⟩
      rw [hla] at HST HT ⊢
      clear hla
      have hi : (k : Int) < (n : Int) := by omega
      have ba := (Below.refl _ wr).alloc (Nat.le_refl _) (.cells #[.int .i64 ti1, .slice A' n' p', .int .i64 ta1, .int .i64 td1, .int .i64 tb1] 53)
      have K7 := Lib.hid (Bk.new wr 53 #[.int .i64 ti1, .slice A' n' p', .int .i64 ta1, .int .i64 td1, .int .i64 tb1])
      have HMa := Lib.hid (ownsMap_below HMM.out ba)
      have KQa := Lib.hid (KQ.out.below ba)
      have KRa := Lib.hid (KR.out.below ba)
      have KSa := Lib.hid (KS.out.below ba)
      have Bla := Lib.hid (Bl.out.trans (ba.mono Bl.out.size))
      have R2 := Lib.hid (R1.out.of_below ba)
      have HG7 : Hid (gm < wr.heap.size) := Lib.hid HMM.out.lt
      clear ba HMM KQ KR KS Bl R1
      go_wp2_with fail
      clear e0 e1 e2 e3 e4
      generalize wr.alloc (.cells #[.int .i64 ti1, .slice A' n' p', .int .i64 ta1, .int .i64 td1, .int .i64 tb1] 53) = x3 at K7 HMa KQa KRa KSa Bla R2 ⊢
      generalize wr.heap.size = g7 at K7 HG7 ⊢
      refine (taskOkI ti1 A' n' p' xs ta1 td1 tb1 x3 R2.out N2.out).mono ?_
      rintro e w2 ⟨rfl, bb⟩
      have HM := Lib.hid (ownsMap_below HMa.out bb)
      have KQ := Lib.hid (KQa.out.below bb)
      have KR := Lib.hid (KRa.out.below bb)
      have KS := Lib.hid (KSa.out.below bb)
      have K7b := Lib.hid (K7.out.below bb)
      have Bl := Lib.hid (Bla.out.trans (bb.mono Bla.out.size))
      clear bb HMa KQa KRa KSa K7 Bla R2 N2
      obtain ⟨T, hT⟩ : ∃ T, taskB ti1 xs ta1 td1 tb1 = T := ⟨_, rfl⟩
      rw [hT] at HST ⊢
      have HTT := Lib.hid hT
      clear hT
      rcases T with _ | _
      · obtain rfl : R = false := by rw [HS.out, HT.out, HST.out]; rfl
        have q0 := KR.out.frozen 0
        have q1 := KR.out.frozen 1
        have q2 := KR.out.frozen 2
        have q3 := KR.out.frozen 3
        have q4 := KR.out.frozen 4
        have q5 := KR.out.frozen 5
        have q6 := KR.out.frozen 6
        have q7 := KR.out.frozen 7
        have q8 := KR.out.frozen 8
        have r0 := KR.out.cell 0 rfl
        have r1 := KR.out.cell 1 rfl
        have r2 := KR.out.cell 2 rfl
        have r3 := KR.out.cell 3 rfl
        have r4 := KR.out.cell 4 rfl
        have r5 := KR.out.cell 5 rfl
        have r6 := KR.out.cell 6 rfl
        have r7 := KR.out.cell 7 rfl
        have r8 := KR.out.cell 8 rfl
        have l2 := KR.out.lt
        go_wp2_with fail
        have k9 := KR.out.set9 (y0 := .int .i64 0) (y1 := .int .i64 0) (y2 := .int .i64 0) (y3 := .slice none 0 0) (y4 := .int .i64 0) (y5 := .int .i64 0) (y6 := .int .i64 0) (y7 := .int .i64 0) (y8 := .map none)
        have b9 := below_set9 Bl.out G1.out (.int .i64 0) (.int .i64 0) (.int .i64 0) (.slice none 0 0) (.int .i64 0) (.int .i64 0) (.int .i64 0) (.int .i64 0) (.map none)
        obtain ⟨z0, z1, z2, z3, z4, z5, z6, z7, z8⟩ := k9.cell9
        refine bodyPost_ret (v := .tuple #[.agg #[.int .i64 0, .int .i64 0, .int .i64 0, .slice none 0 0, .int .i64 0, .int .i64 0, .int .i64 0, .int .i64 0, .map none], .bool false]) ?_ rfl ⟨rfl, b9⟩
        simp [results, Try.results51, go_sem, z0, z1, z2, z3, z4, z5, z6, z7, z8]
      have hti := inB_iff.1 (taskB_iff.1 HTT.out).1
      have t0 := K7b.out.cell 0 rfl
      have t1 := K7b.out.cell 1 rfl
      have t2 := K7b.out.cell 2 rfl
      have t3 := K7b.out.cell 3 rfl
      have t4 := K7b.out.cell 4 rfl
      have c0 := KS.out.cell 0 rfl
      have c1 := KS.out.cell 1 rfl
      have c2 := KS.out.cell 2 rfl
      have c3 := KS.out.cell 3 rfl
      have c4 := KS.out.cell 4 rfl
      have c5 := KS.out.cell 5 rfl
      have c6 := KS.out.cell 6 rfl
      have c7 := KS.out.cell 7 rfl
      by_cases hA : ti1 ≤ la
      · obtain rfl : R = false := by rw [HS.out, HT.out, HST.out]; simp [show ¬ la < ti1 by omega]
        have q0 := KR.out.frozen 0
        have q1 := KR.out.frozen 1
        have q2 := KR.out.frozen 2
        have q3 := KR.out.frozen 3
        have q4 := KR.out.frozen 4
        have q5 := KR.out.frozen 5
        have q6 := KR.out.frozen 6
        have q7 := KR.out.frozen 7
        have q8 := KR.out.frozen 8
        have r0 := KR.out.cell 0 rfl
        have r1 := KR.out.cell 1 rfl
        have r2 := KR.out.cell 2 rfl
        have r3 := KR.out.cell 3 rfl
        have r4 := KR.out.cell 4 rfl
        have r5 := KR.out.cell 5 rfl
        have r6 := KR.out.cell 6 rfl
        have r7 := KR.out.cell 7 rfl
        have r8 := KR.out.cell 8 rfl
        have l2 := KR.out.lt
        go_wp2_with fail
        have k9 := KR.out.set9 (y0 := .int .i64 0) (y1 := .int .i64 0) (y2 := .int .i64 0) (y3 := .slice none 0 0) (y4 := .int .i64 0) (y5 := .int .i64 0) (y6 := .int .i64 0) (y7 := .int .i64 0) (y8 := .map none)
        have b9 := below_set9 Bl.out G1.out (.int .i64 0) (.int .i64 0) (.int .i64 0) (.slice none 0 0) (.int .i64 0) (.int .i64 0) (.int .i64 0) (.int .i64 0) (.map none)
        obtain ⟨z0, z1, z2, z3, z4, z5, z6, z7, z8⟩ := k9.cell9
        refine bodyPost_ret (v := .tuple #[.agg #[.int .i64 0, .int .i64 0, .int .i64 0, .slice none 0 0, .int .i64 0, .int .i64 0, .int .i64 0, .int .i64 0, .map none], .bool false]) ?_ rfl ⟨rfl, b9⟩
        simp [results, Try.results51, go_sem, z0, z1, z2, z3, z4, z5, z6, z7, z8]
      by_cases hB : nx ≤ ti1
      · obtain rfl : R = false := by rw [HS.out, HT.out, HST.out]; simp [show ¬ ti1 < nx by omega]
        have q0 := KR.out.frozen 0
        have q1 := KR.out.frozen 1
        have q2 := KR.out.frozen 2
        have q3 := KR.out.frozen 3
        have q4 := KR.out.frozen 4
        have q5 := KR.out.frozen 5
        have q6 := KR.out.frozen 6
        have q7 := KR.out.frozen 7
        have q8 := KR.out.frozen 8
        have r0 := KR.out.cell 0 rfl
        have r1 := KR.out.cell 1 rfl
        have r2 := KR.out.cell 2 rfl
        have r3 := KR.out.cell 3 rfl
        have r4 := KR.out.cell 4 rfl
        have r5 := KR.out.cell 5 rfl
        have r6 := KR.out.cell 6 rfl
        have r7 := KR.out.cell 7 rfl
        have r8 := KR.out.cell 8 rfl
        have l2 := KR.out.lt
        go_wp2_with fail
        have k9 := KR.out.set9 (y0 := .int .i64 0) (y1 := .int .i64 0) (y2 := .int .i64 0) (y3 := .slice none 0 0) (y4 := .int .i64 0) (y5 := .int .i64 0) (y6 := .int .i64 0) (y7 := .int .i64 0) (y8 := .map none)
        have b9 := below_set9 Bl.out G1.out (.int .i64 0) (.int .i64 0) (.int .i64 0) (.slice none 0 0) (.int .i64 0) (.int .i64 0) (.int .i64 0) (.int .i64 0) (.map none)
        obtain ⟨z0, z1, z2, z3, z4, z5, z6, z7, z8⟩ := k9.cell9
        refine bodyPost_ret (v := .tuple #[.agg #[.int .i64 0, .int .i64 0, .int .i64 0, .slice none 0 0, .int .i64 0, .int .i64 0, .int .i64 0, .int .i64 0, .map none], .bool false]) ?_ rfl ⟨rfl, b9⟩
        simp [results, Try.results51, go_sem, z0, z1, z2, z3, z4, z5, z6, z7, z8]
      by_cases hC : nw < tb1
      · obtain rfl : R = false := by rw [HS.out, HT.out, HST.out]; simp [show ¬ tb1 ≤ nw by omega]
        have q0 := KR.out.frozen 0
        have q1 := KR.out.frozen 1
        have q2 := KR.out.frozen 2
        have q3 := KR.out.frozen 3
        have q4 := KR.out.frozen 4
        have q5 := KR.out.frozen 5
        have q6 := KR.out.frozen 6
        have q7 := KR.out.frozen 7
        have q8 := KR.out.frozen 8
        have r0 := KR.out.cell 0 rfl
        have r1 := KR.out.cell 1 rfl
        have r2 := KR.out.cell 2 rfl
        have r3 := KR.out.cell 3 rfl
        have r4 := KR.out.cell 4 rfl
        have r5 := KR.out.cell 5 rfl
        have r6 := KR.out.cell 6 rfl
        have r7 := KR.out.cell 7 rfl
        have r8 := KR.out.cell 8 rfl
        have l2 := KR.out.lt
        go_wp2_with fail
        have k9 := KR.out.set9 (y0 := .int .i64 0) (y1 := .int .i64 0) (y2 := .int .i64 0) (y3 := .slice none 0 0) (y4 := .int .i64 0) (y5 := .int .i64 0) (y6 := .int .i64 0) (y7 := .int .i64 0) (y8 := .map none)
        have b9 := below_set9 Bl.out G1.out (.int .i64 0) (.int .i64 0) (.int .i64 0) (.slice none 0 0) (.int .i64 0) (.int .i64 0) (.int .i64 0) (.int .i64 0) (.map none)
        obtain ⟨z0, z1, z2, z3, z4, z5, z6, z7, z8⟩ := k9.cell9
        refine bodyPost_ret (v := .tuple #[.agg #[.int .i64 0, .int .i64 0, .int .i64 0, .slice none 0 0, .int .i64 0, .int .i64 0, .int .i64 0, .int .i64 0, .map none], .bool false]) ?_ rfl ⟨rfl, b9⟩
        simp [results, Try.results51, go_sem, z0, z1, z2, z3, z4, z5, z6, z7, z8]
      have HT2 : Hid (tsksB nx nw 0 ss = tsksB nx nw (lastId ss (k + 1)) (ss.drop (k + 1))) := Lib.hid (by rw [HT.out, HST.out]; simp [show la < ti1 by omega, show ti1 < nx by omega, show tb1 ≤ nw by omega])
      obtain ⟨w3, hput, hm3, hg3⟩ := put_run (w := w2.drew) HM.out (by omega) ti1 (.agg #[.int .i64 ti1, .slice A' n' p', .int .i64 ta1, .int .i64 td1, .int .i64 tb1]) (wf_small (by omega))
      rw [← HTK.out] at hm3
      have HM3 := Lib.hid hm3
      have HGR := Lib.hid hg3
      have q8 := KQ.out.cell 8 rfl
      clear hm3 hg3 hti
      have K73 := Lib.hid (Bk.grown (w := w2.drew) K7b.out HGR.out (by intro e; cases e; have := HG7.out; omega))
      have s0 := K73.out.cell 0 rfl
      go_wp2_with fail
      go_region
      have KQ3 := Lib.hid (Bk.grown (w := w2.drew) KQ.out HGR.out (by intro e; cases e; have := NE.out; omega))
      have KR3 := Lib.hid (Bk.grown (w := w2.drew) KR.out HGR.out (by intro e; cases e; have := NE.out; omega))
      have KS3 := Lib.hid (Bk.grown (w := w2.drew) KS.out HGR.out (by intro e; cases e; have := NE.out; omega))
      have Bl3 := Lib.hid (Bl.out.drew.grown HGR.out (Nat.le_trans Bl.out.size (Nat.le_refl _)) (fun r hr => by cases hr; exact HGM.out))
      clear HM KQ KR KS K7b Bl HGR hput s0 q8 K73 t0 t1 t2 t3 t4 c0 c1 c2 c3 c4 c5 c6 c7
      go_wp2_with fail
      go_roundw
      case rel => exact ⟨k + 1, by omega, by go_num, by rw [HLI.out], HT2, HM3, KQ3, KR3, KS3, Bl3⟩
      case measure => simp [intOf]; omega
    · obtain rfl : k = n := by omega
      have htb : tsksB nx nw 0 ss = true := by rw [HT.out]; exact tsksB_end HL.out _
      have hta : es.take k = es := List.take_of_length_le (by rw [HENT.out.1, HL.out]; exact Nat.le_refl _)
      rw [hta] at HMM
      have HRU : Hid (R = runB ss rn lf) := Lib.hid (by rw [HS.out, htb]; rfl)
      have HEW := Lib.hid (HENT.out.of_below Bl.out)
      have HRO := runOkI nw sk ag rn lf tu nx gm k ss es wr HMM.out HEW.out (tsksB_rise htb) (fun t ht => (tsksB_all htb t ht).1) HW.out
      rw [← HRU.out] at HRO
      have HRO := Lib.hid HRO
      clear htb hta HT HS HRU
      have u0 := KQ.out.cell 0 rfl
      have u1 := KQ.out.cell 1 rfl
      have u2 := KQ.out.cell 2 rfl
      have u3 := KQ.out.cell 3 rfl
      have u4 := KQ.out.cell 4 rfl
      have u5 := KQ.out.cell 5 rfl
      have u6 := KQ.out.cell 6 rfl
      have u7 := KQ.out.cell 7 rfl
      have u8 := KQ.out.cell 8 rfl
      go_wp2_with fail
      clear u0 u1 u2 u3 u4 u5 u6 u7 u8
      refine HRO.out.mono ?_
      rintro e w5 ⟨rfl, bb⟩
      replace HMM := Lib.hid (ownsMap_below HMM.out bb)
      replace KQ := Lib.hid (KQ.out.below bb)
      replace KR := Lib.hid (KR.out.below bb)
      replace Bl := Lib.hid (Bl.out.trans (bb.mono Bl.out.size))
      clear bb HRO KS
      rcases R with _ | _
      · skip
        have q0 := KR.out.frozen 0
        have q1 := KR.out.frozen 1
        have q2 := KR.out.frozen 2
        have q3 := KR.out.frozen 3
        have q4 := KR.out.frozen 4
        have q5 := KR.out.frozen 5
        have q6 := KR.out.frozen 6
        have q7 := KR.out.frozen 7
        have q8 := KR.out.frozen 8
        have r0 := KR.out.cell 0 rfl
        have r1 := KR.out.cell 1 rfl
        have r2 := KR.out.cell 2 rfl
        have r3 := KR.out.cell 3 rfl
        have r4 := KR.out.cell 4 rfl
        have r5 := KR.out.cell 5 rfl
        have r6 := KR.out.cell 6 rfl
        have r7 := KR.out.cell 7 rfl
        have r8 := KR.out.cell 8 rfl
        have l2 := KR.out.lt
        go_wp2_with fail
        have k9 := KR.out.set9 (y0 := .int .i64 0) (y1 := .int .i64 0) (y2 := .int .i64 0) (y3 := .slice none 0 0) (y4 := .int .i64 0) (y5 := .int .i64 0) (y6 := .int .i64 0) (y7 := .int .i64 0) (y8 := .map none)
        have b9 := below_set9 Bl.out G1.out (.int .i64 0) (.int .i64 0) (.int .i64 0) (.slice none 0 0) (.int .i64 0) (.int .i64 0) (.int .i64 0) (.int .i64 0) (.map none)
        obtain ⟨z0, z1, z2, z3, z4, z5, z6, z7, z8⟩ := k9.cell9
        refine bodyPost_ret (v := .tuple #[.agg #[.int .i64 0, .int .i64 0, .int .i64 0, .slice none 0 0, .int .i64 0, .int .i64 0, .int .i64 0, .int .i64 0, .map none], .bool false]) ?_ rfl ⟨rfl, b9⟩
        simp [results, Try.results51, go_sem, z0, z1, z2, z3, z4, z5, z6, z7, z8]
      · skip
        have u0 := KQ.out.cell 0 rfl
        have u1 := KQ.out.cell 1 rfl
        have u2 := KQ.out.cell 2 rfl
        have u3 := KQ.out.cell 3 rfl
        have u4 := KQ.out.cell 4 rfl
        have u5 := KQ.out.cell 5 rfl
        have u6 := KQ.out.cell 6 rfl
        have u7 := KQ.out.cell 7 rfl
        have u8 := KQ.out.cell 8 rfl
        have q0 := KR.out.frozen 0
        have q1 := KR.out.frozen 1
        have q2 := KR.out.frozen 2
        have q3 := KR.out.frozen 3
        have q4 := KR.out.frozen 4
        have q5 := KR.out.frozen 5
        have q6 := KR.out.frozen 6
        have q7 := KR.out.frozen 7
        have q8 := KR.out.frozen 8
        have r0 := KR.out.cell 0 rfl
        have r1 := KR.out.cell 1 rfl
        have r2 := KR.out.cell 2 rfl
        have r3 := KR.out.cell 3 rfl
        have r4 := KR.out.cell 4 rfl
        have r5 := KR.out.cell 5 rfl
        have r6 := KR.out.cell 6 rfl
        have r7 := KR.out.cell 7 rfl
        have r8 := KR.out.cell 8 rfl
        have l2 := KR.out.lt
        go_wp2_with fail
        have k9 := KR.out.set9 (y0 := .int .i64 nw) (y1 := .int .i64 sk) (y2 := .int .i64 ag) (y3 := .slice none 0 0) (y4 := .int .i64 rn) (y5 := .int .i64 lf) (y6 := .int .i64 tu) (y7 := .int .i64 nx) (y8 := .map (some gm))
        have b9 := below_set9 Bl.out G1.out (.int .i64 nw) (.int .i64 sk) (.int .i64 ag) (.slice none 0 0) (.int .i64 rn) (.int .i64 lf) (.int .i64 tu) (.int .i64 nx) (.map (some gm))
        have hm9 := (((((((((HMM.out.setCell (a := ⟨gR, 0, none⟩) (Ne.symm NE.out.2.1) (.int .i64 nw)).setCell (a := ⟨gR, 1, none⟩) (Ne.symm NE.out.2.1) (.int .i64 sk)).setCell (a := ⟨gR, 2, none⟩) (Ne.symm NE.out.2.1) (.int .i64 ag)).setCell (a := ⟨gR, 3, none⟩) (Ne.symm NE.out.2.1) (.slice none 0 0)).setCell (a := ⟨gR, 4, none⟩) (Ne.symm NE.out.2.1) (.int .i64 rn)).setCell (a := ⟨gR, 5, none⟩) (Ne.symm NE.out.2.1) (.int .i64 lf)).setCell (a := ⟨gR, 6, none⟩) (Ne.symm NE.out.2.1) (.int .i64 tu)).setCell (a := ⟨gR, 7, none⟩) (Ne.symm NE.out.2.1) (.int .i64 nx)).setCell (a := ⟨gR, 8, none⟩) (Ne.symm NE.out.2.1) (.map (some gm)))
        obtain ⟨z0, z1, z2, z3, z4, z5, z6, z7, z8⟩ := k9.cell9
        refine bodyPost_ret (v := .tuple #[RosV nw sk ag rn lf tu nx gm, .bool true]) ?_ rfl ⟨gm, es, rfl, HGM.out, HL.out.symm ▸ hm9, HENT.out.of_below b9, HCE.out, b9⟩
        simp [results, Try.results51, go_sem, z0, z1, z2, z3, z4, z5, z6, z7, z8]
end Qt
end Go.Proofs.Ytihnpfcjnfkfjaa
