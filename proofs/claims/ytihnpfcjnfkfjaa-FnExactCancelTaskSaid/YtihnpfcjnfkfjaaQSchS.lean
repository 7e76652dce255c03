/- What l07At and SchedOk of the model give when they are called. Conditions: the slice of tasks reads as the list that is named. -/
import Derived.Test.YtihnpfcjnfkfjaaQSchB
import Derived.Test.YtihnpfcjnfkfjaaQSchedTo
import Derived.Test.YtihnpfcjnfkfjaaQNewS
import Derived.Lib.QuietBelow
namespace Go.Proofs.Ytihnpfcjnfkfjaa
open Go.RowKit Go.Sort
set_option linter.unusedSimpArgs false
set_option linter.unusedVariables false
namespace Qt
set_option maxRecDepth 10000 in
theorem atS (nw sk ag : Int) (A : Option Addr) (n p : Nat) (ss : List Tsk) (rn lf tu nx id : Int) (W : World) (hr : RdTsk W A n ss) (hn : n ≤ 1048576) :
    Calls Try.prog 49 #[.agg #[.int .i64 nw, .int .i64 sk, .int .i64 ag, .slice A n p, .int .i64 rn, .int .i64 lf, .int .i64 tu, .int .i64 nx], .int .i64 id] W fun e W' => e = .returned (.int .i64 (atV ss id)) ∧ Below W.heap.size W W' := by
  have b0 := (Below.refl _ W).alloc (Nat.le_refl _) (.cells #[.int .i64 nw, .int .i64 sk, .int .i64 ag, .slice A n p, .int .i64 rn, .int .i64 lf, .int .i64 tu, .int .i64 nx] 29)
  have K := Lib.hid (Bk.new W 29 #[.int .i64 nw, .int .i64 sk, .int .i64 ag, .slice A n p, .int .i64 rn, .int .i64 lf, .int .i64 tu, .int .i64 nx])
  have HR := Lib.hid (hr.of_below b0)
  have Bl := Lib.hid b0
  have HL := Lib.hid hr.1
  have hn1 : (n : Int) ≤ 1048576 := by omega
  obtain ⟨R, hR⟩ : ∃ R, atV ss id = R := ⟨_, rfl⟩
  have HRR := Lib.hid hR
  rw [hR]
  clear hr hn b0 hR
  go_enter Try.func49, Try.ntmps49
  go_wp2_with fail
  generalize W.alloc (.cells #[.int .i64 nw, .int .i64 sk, .int .i64 ag, .slice A n p, .int .i64 rn, .int .i64 lf, .int .i64 tu, .int .i64 nx] 29) = v at K HR Bl ⊢
  generalize W.heap.size = g at K ⊢
  have c3 := K.out.cell 3 rfl
  go_loopw [5] (fun i wr => ∃ k : Nat, k ≤ n ∧ i = .int .i64 k ∧ Hid (∀ (j : Nat) (s : Tsk), j < k → ss[j]? = some s → s.ti ≠ id) ∧ v = wr) (fun i _ => n - (intOf i).toNat)
  case atStart => exact ⟨0, Nat.zero_le _, rfl, Lib.hid (fun j s hj => absurd hj (Nat.not_lt_zero _)), rfl⟩
  case round =>
    obtain ⟨k, hk, rfl, HP, rfl⟩ := hrel
    by_cases hlt : k < n
    · obtain ⟨b, off, ti1, ta1, td1, tb1, A', n', p', xs, rfl, hbs, hj, hat⟩ := HR.out.at hlt
      obtain ⟨e0, e1, e2, e3, e4⟩ := hat.cells
      have HJ := Lib.hid hj
      clear hat hj
      have hi : (k : Int) < (n : Int) := by omega
      by_cases hid : ti1 = id
      · subst hid
        have hR1 : R = k := by rw [← HRR.out]; exact (atV_some HJ.out rfl HP.out).1
        subst hR1
        go_wp2_with fail
        go_ret
        exact ⟨rfl, Bl.out⟩
      · have HP2 : Hid (∀ (j : Nat) (s : Tsk), j < k + 1 → ss[j]? = some s → s.ti ≠ id) := Lib.hid (fun j s hj hs => by
          by_cases e : j < k
          · exact HP.out j s e hs
          · have : j = k := by omega
            subst this
            rw [HJ.out] at hs
            cases hs
            exact hid)
        go_wp2_with fail
        go_roundw
        case rel => exact ⟨k + 1, by omega, by go_num, HP2, trivial⟩
        case measure => simp [intOf]; omega
    · obtain rfl : k = n := by omega
      have hR1 : R = -1 := by
        rw [← HRR.out]
        exact (atV_none fun j s hs => HP.out j s (by have := (List.getElem?_eq_some_iff.1 hs).1; have := HL.out; omega) hs).1
      subst hR1
      go_wp2_with fail
      go_ret
      exact ⟨rfl, Bl.out⟩
set_option maxRecDepth 100000 in
set_option maxHeartbeats 2000000 in
theorem schedOkS (nw sk ag : Int) (A : Option Addr) (n p : Nat) (ss : List Tsk) (rn lf tu nx : Int) (W : World) (hr : RdTsk W A n ss) (hn : n + bigTsk ss ≤ 1048576) :
    Calls Try.prog 15 #[.agg #[.int .i64 nw, .int .i64 sk, .int .i64 ag, .slice A n p, .int .i64 rn, .int .i64 lf, .int .i64 tu, .int .i64 nx]] W fun e W' => e = .returned (.bool (schB nw sk ag ss rn lf tu nx)) ∧ Below W.heap.size W W' := by
  have b0 := (Below.refl _ W).alloc (Nat.le_refl _) (.cells #[.int .i64 nw, .int .i64 sk, .int .i64 ag, .slice A n p, .int .i64 rn, .int .i64 lf, .int .i64 tu, .int .i64 nx] 29)
  have K := Lib.hid (Bk.new W 29 #[.int .i64 nw, .int .i64 sk, .int .i64 ag, .slice A n p, .int .i64 rn, .int .i64 lf, .int .i64 tu, .int .i64 nx])
  have HR := Lib.hid (hr.of_below b0)
  have Bl := Lib.hid b0
  have HL := Lib.hid hr.1
  have HN := Lib.hid hn
  have hn1 : (n : Int) ≤ 1048576 := by omega
  have hn0 : (0 : Int) ≤ n := Int.natCast_nonneg n
  obtain ⟨R, hR⟩ : ∃ R, R = schB nw sk ag ss rn lf tu nx := ⟨_, rfl⟩
  rw [← hR]
  have HRR := Lib.hid hR
  clear hr hn b0 hR
  go_enter Try.func15, Try.ntmps15
  go_wp2_with fail
  generalize W.alloc (.cells #[.int .i64 nw, .int .i64 sk, .int .i64 ag, .slice A n p, .int .i64 rn, .int .i64 lf, .int .i64 tu, .int .i64 nx] 29) = v at K HR Bl ⊢
  generalize W.heap.size = g at K ⊢
  have c0 := K.out.cell 0 rfl
  have c1 := K.out.cell 1 rfl
  have c2 := K.out.cell 2 rfl
  have c3 := K.out.cell 3 rfl
  have c4 := K.out.cell 4 rfl
  have c5 := K.out.cell 5 rfl
  have c6 := K.out.cell 6 rfl
  have c7 := K.out.cell 7 rfl
  refine (tickS nw _).mono ?_
  rintro e w1 ⟨rfl, rfl⟩
  rcases h1 : inB 0 1000000 nw with _ | _
  · obtain rfl : R = false := by rw [HRR.out]; exact schB_head (headB_no (.inl h1))
    go_wp2_with fail
    go_ret
    exact ⟨rfl, Bl.out⟩
  go_wp2_with fail
  refine (inS 0 1000 sk _).mono ?_
  rintro e w1 ⟨rfl, rfl⟩
  rcases h2 : inB 0 1000 sk with _ | _
  · obtain rfl : R = false := by rw [HRR.out]; exact schB_head (headB_no (.inr (.inr (.inl h2))))
    go_wp2_with fail
    go_ret
    exact ⟨rfl, Bl.out⟩
  go_wp2_with fail
  refine (inS 0 20 ag _).mono ?_
  rintro e w1 ⟨rfl, rfl⟩
  rcases h3 : inB 0 20 ag with _ | _
  · obtain rfl : R = false := by rw [HRR.out]; exact schB_head (headB_no (.inr (.inr (.inr (.inl h3)))))
    go_wp2_with fail
    go_ret
    exact ⟨rfl, Bl.out⟩
  by_cases h12 : (12 : Int) < (n : Int)
  · obtain rfl : R = false := by rw [HRR.out]; exact schB_len (by rw [HL.out]; omega)
    go_wp2_with fail
    go_ret
    exact ⟨rfl, Bl.out⟩
  go_wp2_with fail
  refine (tickS tu _).mono ?_
  rintro e w1 ⟨rfl, rfl⟩
  rcases h4 : inB 0 1000000 tu with _ | _
  · obtain rfl : R = false := by rw [HRR.out]; exact schB_head (headB_no (.inr (.inl h4)))
    go_wp2_with fail
    go_ret
    exact ⟨rfl, Bl.out⟩
  go_wp2_with fail
  refine (inS 1 1000000 nx _).mono ?_
  rintro e w1 ⟨rfl, rfl⟩
  rcases h5 : inB 1 1000000 nx with _ | _
  · obtain rfl : R = false := by rw [HRR.out]; exact schB_head (headB_no (.inr (.inr (.inr (.inr h5)))))
    go_wp2_with fail
    go_ret
    exact ⟨rfl, Bl.out⟩
  have HS : Hid (R = (tsksB nx nw 0 ss && runB ss rn lf)) := Lib.hid (by rw [HRR.out]; exact schB_yes (headB_iff.2 ⟨h1, h4, h2, h3, h5⟩) (by rw [HL.out]; omega))
  clear h1 h2 h3 h4 h5 HRR
  go_wp2_with fail
  clear c0 c1 c2 c3 c4 c5 c6 c7
  go_loopw [3] (fun i wr => ∃ k : Nat, k ≤ n ∧ i = .int .i64 k ∧ Hid (R = (tsksB nx nw (lastId ss k) (ss.drop k) && runB ss rn lf)) ∧ Hid (∀ (j : Nat) (s : Tsk), j < k → ss[j]? = some s → tkB s = true) ∧ Hid (Bk wr g 29 #[.int .i64 nw, .int .i64 sk, .int .i64 ag, .slice A n p, .int .i64 rn, .int .i64 lf, .int .i64 tu, .int .i64 nx]) ∧ Hid (Below v.heap.size v wr)) (fun i _ => n - (intOf i).toNat)
  case atStart => exact ⟨0, Nat.zero_le _, rfl, HS, Lib.hid (fun j s hj => absurd hj (Nat.not_lt_zero _)), K, Lib.hid (Below.refl _ _)⟩
  case round =>
    clear HS K
    obtain ⟨k, hk, rfl, HS, HALL, K, HB⟩ := hrel
    have c0 := K.out.cell 0 rfl
    have c1 := K.out.cell 1 rfl
    have c2 := K.out.cell 2 rfl
    have c3 := K.out.cell 3 rfl
    have c4 := K.out.cell 4 rfl
    have c5 := K.out.cell 5 rfl
    have c6 := K.out.cell 6 rfl
    have c7 := K.out.cell 7 rfl
    by_cases hlt : k < n
    · obtain ⟨b, off, ti1, ta1, td1, tb1, A', n', p', xs, rfl, hbs, hj, hat⟩ := (HR.out.of_below HB.out).at hlt
      obtain ⟨e0, e1, e2, e3, e4⟩ := hat.cells
      have hst := tsksB_step (nx := nx) (nw := nw) hj
      have hprev : k ≠ 0 → ∃ pt, wr.cell? ⟨b, off + (k - 1) * 5, none⟩ = some (.int .i64 pt) ∧ lastId ss k = pt := fun h0 => by
        obtain ⟨b2, off2, ti2, ta2, td2, tb2, A2, n2, p2, xs2, e, _, hj2, hat2⟩ := (HR.out.of_below HB.out).at (j := k - 1) (by omega)
        cases e
        refine ⟨ti2, hat2.cells.1, ?_⟩
        have := lastId_succ hj2
        rw [show k - 1 + 1 = k by omega] at this
        exact this
      have R1 := Lib.hid hat.rds
      have hbig := bigTsk_at1 hj
      have hle := hat.lens
      have N1 : Hid (n' ≤ 1048576) := Lib.hid (by have := HN.out; omega)
      simp only [tkB] at hst
      have HST := Lib.hid hst
      have HP := Lib.hid hprev
      have HJ := Lib.hid hj
      clear hat hj hst hbig hle hprev
      have hi : (k : Int) < (n : Int) := by omega
      have ba := (Below.refl _ wr).alloc (Nat.le_refl _) (.cells #[.int .i64 ti1, .slice A' n' p', .int .i64 ta1, .int .i64 td1, .int .i64 tb1] 53)
      have K4 := Lib.hid (Bk.new wr 53 #[.int .i64 ti1, .slice A' n' p', .int .i64 ta1, .int .i64 td1, .int .i64 tb1])
      have K2 := Lib.hid (K.out.below ba)
      have HB2 := Lib.hid (HB.out.trans (ba.mono HB.out.size))
      have R2 := Lib.hid (R1.out.of_below ba)
      have hprv : Hid (k ≠ 0 → ∃ pt, (wr.alloc (.cells #[.int .i64 ti1, .slice A' n' p', .int .i64 ta1, .int .i64 td1, .int .i64 tb1] 53)).cell? ⟨b, off + (k - 1) * 5, none⟩ = some (.int .i64 pt) ∧ lastId ss k = pt) := Lib.hid (fun h0 => by
        obtain ⟨pt, h1, h2⟩ := HP.out h0
        exact ⟨pt, (ba.cell (p := ⟨b, off + (k - 1) * 5, none⟩) hbs).trans h1, h2⟩)
      clear ba hbs
      go_wp2_with fail
      clear e0 e1 e2 e3 e4 c0 c1 c2 c3 c4 c5 c6 c7 HP
      generalize wr.alloc (.cells #[.int .i64 ti1, .slice A' n' p', .int .i64 ta1, .int .i64 td1, .int .i64 tb1] 53) = x2 at K4 K2 HB2 R2 hprv ⊢
      generalize wr.heap.size = g4 at K4 ⊢
      have c0 := cell_regrown (K2.out.cell 0 rfl)
      have c3 := cell_regrown (K2.out.cell 3 rfl)
      have c7 := cell_regrown (K2.out.cell 7 rfl)
      have f0 := cell_regrown (K4.out.cell 0 rfl)
      have f1 := cell_regrown (K4.out.cell 1 rfl)
      have f2 := cell_regrown (K4.out.cell 2 rfl)
      have f3 := cell_regrown (K4.out.cell 3 rfl)
      have f4 := cell_regrown (K4.out.cell 4 rfl)
      have q0 := Lib.hid (fun dd os => Calls.regrown_of (taskOkS ti1 A' n' p' xs ta1 td1 tb1 (grow (redrawn x2 dd) os) (R2.out.of_below (below_regrown x2 dd os)) N1.out))
      obtain ⟨T, hT⟩ : ∃ T, taskB ti1 xs ta1 td1 tb1 = T := ⟨_, rfl⟩
      rw [hT] at q0
      have HST2 : Hid (tsksB nx nw (lastId ss k) (ss.drop k) = (T && (decide (lastId ss k < ti1) && (decide (ti1 < nx) && (decide (tb1 ≤ nw) && tsksB nx nw (lastId ss (k + 1)) (ss.drop (k + 1))))))) := Lib.hid (by rw [HST.out, hT])
      have HT := Lib.hid hT
      clear hT HST
      rcases T with _ | _
      · obtain rfl : R = false := by rw [HS.out, HST2.out]; rfl
        refine wp_region_quiet_below mixed (by kernel_rfl) ?_
        repeat (go_big_quiet_step (first | with_reducible exact q0.out _ _))
        refine wpQuiet_nil ?_
        intro _ hw'
        obtain ⟨⟨dq, osq⟩, rfl⟩ := hw'
        have HB3 := Lib.hid (HB2.out.trans ((below_regrown x2 dq osq).mono HB2.out.size))
        have K3 := Lib.hid (K2.out.below (below_regrown x2 dq osq))
        clear c0 c3 c7 f0 f1 f2 f3 f4 q0
        generalize grow (redrawn x2 dq) osq = u9 at HB3 K3 ⊢
        go_wp2_with fail
        go_ret
        exact ⟨rfl, Bl.out.trans (HB3.out.mono Bl.out.size)⟩
      have hti := (inB_iff.1 (taskB_iff.1 HT.out).1).1
      by_cases hA : nx ≤ ti1
      · obtain rfl : R = false := by rw [HS.out, HST2.out]; simp [show ¬ ti1 < nx by omega]
        refine wp_region_quiet_below mixed (by kernel_rfl) ?_
        repeat (go_big_quiet_step (first | with_reducible exact q0.out _ _))
        refine wpQuiet_nil ?_
        intro _ hw'
        obtain ⟨⟨dq, osq⟩, rfl⟩ := hw'
        have HB3 := Lib.hid (HB2.out.trans ((below_regrown x2 dq osq).mono HB2.out.size))
        have K3 := Lib.hid (K2.out.below (below_regrown x2 dq osq))
        clear c0 c3 c7 f0 f1 f2 f3 f4 q0
        generalize grow (redrawn x2 dq) osq = u9 at HB3 K3 ⊢
        go_wp2_with fail
        go_ret
        exact ⟨rfl, Bl.out.trans (HB3.out.mono Bl.out.size)⟩
      by_cases hC : nw < tb1
      · obtain rfl : R = false := by rw [HS.out, HST2.out]; simp [show ¬ tb1 ≤ nw by omega]
        refine wp_region_quiet_below mixed (by kernel_rfl) ?_
        repeat (go_big_quiet_step (first | with_reducible exact q0.out _ _))
        refine wpQuiet_nil ?_
        intro _ hw'
        obtain ⟨⟨dq, osq⟩, rfl⟩ := hw'
        have HB3 := Lib.hid (HB2.out.trans ((below_regrown x2 dq osq).mono HB2.out.size))
        have K3 := Lib.hid (K2.out.below (below_regrown x2 dq osq))
        clear c0 c3 c7 f0 f1 f2 f3 f4 q0
        generalize grow (redrawn x2 dq) osq = u9 at HB3 K3 ⊢
        go_wp2_with fail
        go_ret
        exact ⟨rfl, Bl.out.trans (HB3.out.mono Bl.out.size)⟩
      by_cases h0 : k = 0
      · subst h0
        have h00 : ¬ (0 : Int) < ((0 : Nat) : Int) := by omega
        have HS2 : Hid (R = (tsksB nx nw (lastId ss (0 + 1)) (ss.drop (0 + 1)) && runB ss rn lf)) := Lib.hid (by rw [HS.out, HST2.out]; simp [lastId, show (0 : Int) < ti1 by omega, show ti1 < nx by omega, show tb1 ≤ nw by omega])
        have HALL2 : Hid (∀ (j : Nat) (s : Tsk), j < 0 + 1 → ss[j]? = some s → tkB s = true) := Lib.hid (fun j s hj hs => by
          by_cases e : j < 0
          · exact HALL.out j s e hs
          · have : j = 0 := by omega
            subst this
            rw [HJ.out] at hs
            cases hs
            exact HT.out)
        refine wp_region_quiet_below mixed (by kernel_rfl) ?_
        repeat (go_big_quiet_step (first | with_reducible exact q0.out _ _))
        refine wpQuiet_nil ?_
        intro _ hw'
        obtain ⟨⟨dq, osq⟩, rfl⟩ := hw'
        have HB3 := Lib.hid (HB2.out.trans ((below_regrown x2 dq osq).mono HB2.out.size))
        have K3 := Lib.hid (K2.out.below (below_regrown x2 dq osq))
        clear c0 c3 c7 f0 f1 f2 f3 f4 q0
        generalize grow (redrawn x2 dq) osq = u9 at HB3 K3 ⊢
        go_wp2_with fail
        go_roundw
        case rel => exact ⟨0 + 1, by omega, by go_num, HS2, HALL2, K3, HB3⟩
        case measure => simp [intOf]; omega
      obtain ⟨pt, hpc, hpl⟩ := hprv.out h0
      obtain ⟨m, rfl⟩ : ∃ m, k = m + 1 := ⟨k - 1, by omega⟩
      have e9 := cell_regrown hpc
      rw [show m + 1 - 1 = m by omega] at e9
      have hm0 : (0 : Int) < (m : Int) + 1 := by omega
      have hm1 : IntKind.i64.wrap ((m : Int) + 1 - 1) = (m : Int) := by rw [IntWalk.i64_in _ (by omega)]; omega
      have hm2 : IntKind.i64.wrap (m : Int) = (m : Int) := IntWalk.i64_in _ (by omega)
      have hm3 : (m : Int) < (n : Int) := by omega
      clear h0 hprv hpc
      by_cases hD : ti1 ≤ pt
      · obtain rfl : R = false := by rw [HS.out, HST2.out, hpl]; simp [show ¬ pt < ti1 by omega]
        refine wp_region_quiet_below mixed (by kernel_rfl) ?_
        repeat (go_big_quiet_step (first | with_reducible exact q0.out _ _))
        refine wpQuiet_nil ?_
        intro _ hw'
        obtain ⟨⟨dq, osq⟩, rfl⟩ := hw'
        have HB3 := Lib.hid (HB2.out.trans ((below_regrown x2 dq osq).mono HB2.out.size))
        have K3 := Lib.hid (K2.out.below (below_regrown x2 dq osq))
        clear c0 c3 c7 f0 f1 f2 f3 f4 q0
        generalize grow (redrawn x2 dq) osq = u9 at HB3 K3 ⊢
        go_wp2_with fail
        go_ret
        exact ⟨rfl, Bl.out.trans (HB3.out.mono Bl.out.size)⟩
      have HS2 : Hid (R = (tsksB nx nw (lastId ss (m + 1 + 1)) (ss.drop (m + 1 + 1)) && runB ss rn lf)) := Lib.hid (by rw [HS.out, HST2.out, hpl]; simp [show pt < ti1 by omega, show ti1 < nx by omega, show tb1 ≤ nw by omega])
      have HALL2 : Hid (∀ (j : Nat) (s : Tsk), j < m + 1 + 1 → ss[j]? = some s → tkB s = true) := Lib.hid (fun j s hj hs => by
        by_cases e : j < m + 1
        · exact HALL.out j s e hs
        · have : j = m + 1 := by omega
          subst this
          rw [HJ.out] at hs
          cases hs
          exact HT.out)
      refine wp_region_quiet_below mixed (by kernel_rfl) ?_
      repeat (go_big_quiet_step (first | with_reducible exact q0.out _ _))
      refine wpQuiet_nil ?_
      intro _ hw'
      obtain ⟨⟨dq, osq⟩, rfl⟩ := hw'
      have HB3 := Lib.hid (HB2.out.trans ((below_regrown x2 dq osq).mono HB2.out.size))
      have K3 := Lib.hid (K2.out.below (below_regrown x2 dq osq))
      clear c0 c3 c7 f0 f1 f2 f3 f4 q0
      generalize grow (redrawn x2 dq) osq = u9 at HB3 K3 ⊢
      go_wp2_with fail
      go_roundw
      case rel => exact ⟨m + 1 + 1, by omega, by go_num, HS2, HALL2, K3, HB3⟩
      case measure => simp [intOf]; omega
    · obtain rfl : k = n := by omega
      have HR2 : Hid (R = runB ss rn lf) := Lib.hid (by rw [HS.out, tsksB_end HL.out]; rfl)
      have HRD := Lib.hid (HR.out.of_below HB.out)
      have HBF := Lib.hid (Bl.out.trans (HB.out.mono Bl.out.size))
      clear HS HR
      by_cases hr0 : rn = 0
      · subst hr0
        by_cases hl0 : lf = 0
        · subst hl0
          obtain rfl : R = true := by rw [HR2.out]; rfl
          go_wp2_with fail
          go_ret
          exact ⟨rfl, HBF.out⟩
        · obtain rfl : R = false := by rw [HR2.out]; simp [runB, hl0]
          go_wp2_with fail
          go_ret
          exact ⟨by simp [hl0], HBF.out⟩
      have HC := Lib.hid (atS nw sk ag A k p ss rn lf tu nx rn wr HRD.out (by omega))
      rcases at_cases ss rn with ⟨i, u, hu, hui, hat, hfi⟩ | ⟨hat, hfi⟩
      case inr =>
        obtain rfl : R = false := by rw [HR2.out]; simp [runB, hr0, hfi]
        rw [hat] at HC
        clear hat hfi
        go_wp2_with fail
        refine HC.out.mono ?_
        rintro e w1 ⟨rfl, bb⟩
        have HBG := Lib.hid (HBF.out.trans (bb.mono HBF.out.size))
        clear bb HC
        go_wp2_with fail
        refine wp_region_quiet_below mixed (by kernel_rfl) ?_
        repeat (go_big_quiet_step (fail))
        refine wpQuiet_nil ?_
        intro _ hw'
        obtain ⟨⟨dq, osq⟩, rfl⟩ := hw'
        have HBH := Lib.hid (HBG.out.trans ((below_regrown w1 dq osq).mono HBG.out.size))
        generalize grow (redrawn w1 dq) osq = u9 at HBH ⊢
        go_wp2_with fail
        go_ret
        exact ⟨rfl, HBH.out⟩
      have hik : i < k := by have := (List.getElem?_eq_some_iff.1 hu).1; have := HL.out; omega
      obtain ⟨b, off, ti1, ta1, td1, tb1, A', n', p', xs, rfl, hbs, hj, ht⟩ := HRD.out.at hik
      have hjj := hj
      rw [hu] at hjj
      cases hjj
      have hok := taskB_iff.1 (HALL.out i _ hik hu)
      have hta := inB_iff.1 hok.2.2.2.1
      have hn16 := inB_iff.1 hok.2.1
      simp only at hta hn16
      obtain ⟨j, rfl⟩ : ∃ j : Nat, ta1 = j := ⟨ta1.toNat, by omega⟩
      have hlen := ht.lens
      have hjn : j < n' := by omega
      obtain ⟨bx, ox, rfl, hbx, hcx⟩ := ht.rds.2 (by omega)
      obtain ⟨z, hz⟩ : ∃ z, z = xs.getD j 0 := ⟨_, rfl⟩
      have hcz := hcx j hjn
      rw [← hz] at hcz
      have HRV : Hid (R = inB 1 z lf) := Lib.hid (by rw [HR2.out]; simp only [runB, hr0, if_false, hfi]; rw [Int.toNat_natCast, ← hz])
      rw [hat] at HC
      obtain ⟨e0, e1, e2, e3, e4⟩ := ht.cells
      have HE1 := Lib.hid e1
      have HE2 := Lib.hid e2
      have HCZ := Lib.hid hcz
      have HBS := Lib.hid hbs
      have HBX := Lib.hid hbx
      have hjn2 : (j : Int) < (n' : Int) := by omega
      have hik2 : (i : Int) < (k : Int) := by omega
      have hi0 : (0 : Int) ≤ (i : Int) := by omega
      clear hat hfi hu hj ht hok hta hcx hcz hz e0 e1 e2 e3 e4 hui hbs hbx hlen hn16 HALL HR2 HRD
      go_wp2_with fail
      refine HC.out.mono ?_
      rintro e w1 ⟨rfl, bb⟩
      have HBG := Lib.hid (HBF.out.trans (bb.mono HBF.out.size))
      have K5 := Lib.hid (K.out.below bb)
      have y1 := cell_regrown ((bb.cell (p := ⟨b, off + i * 5 + 1, none⟩) HBS.out).trans HE1.out)
      have y2 := cell_regrown ((bb.cell (p := ⟨b, off + i * 5 + 2, none⟩) HBS.out).trans HE2.out)
      have y3 := cell_regrown ((bb.cell (p := ⟨bx, ox + j, none⟩) HBX.out).trans HCZ.out)
      have y4 := cell_regrown (K5.out.cell 3 rfl)
      have y5 := cell_regrown (K5.out.cell 5 rfl)
      clear bb HC c0 c1 c2 c3 c4 c5 c6 c7
      go_wp2_with fail
      have q0 := Lib.hid (fun dd os => Calls.regrown_of ((inS 1 z lf (grow (redrawn w1 dd) os)).mono (fun e w' h => (⟨h.1, h.2 ▸ Below.refl _ _⟩ : e = .returned (.bool (inB 1 z lf)) ∧ Below (grow (redrawn w1 dd) os).heap.size (grow (redrawn w1 dd) os) w'))))
      rw [← HRV.out] at q0
      refine wp_region_quiet_below mixed (by kernel_rfl) ?_
      repeat (go_big_quiet_step (first | with_reducible exact q0.out _ _))
      refine wpQuiet_nil ?_
      intro _ hw'
      obtain ⟨⟨dq, osq⟩, rfl⟩ := hw'
      have HBH := Lib.hid (HBG.out.trans ((below_regrown w1 dq osq).mono HBG.out.size))
      clear y1 y2 y3 y4 y5 q0
      generalize grow (redrawn w1 dq) osq = u9 at HBH ⊢
      go_wp2_with fail
      go_ret
      exact ⟨rfl, HBH.out⟩
end Qt
end Go.Proofs.Ytihnpfcjnfkfjaa
