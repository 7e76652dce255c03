/- What PickNext of the model gives when it is called. Conditions: the slice of tasks reads as the list that is named. -/
import Derived.Test.YtihnpfcjnfkfjaaQPickMath
import Derived.Test.YtihnpfcjnfkfjaaQLateS
import Derived.Deep.QuietTactic
import Derived.BigQuiet
namespace Go.Proofs.Ytihnpfcjnfkfjaa
open Go.RowKit Go.Sort
set_option linter.unusedSimpArgs false
set_option linter.unusedVariables false
namespace Qt
set_option maxRecDepth 100000 in
set_option maxHeartbeats 6000000 in
theorem pickS (nw sk ag : Int) (A : Option Addr) (n p : Nat) (ss : List Tsk) (rn lf tu nx : Int) (W : World) (hr : RdTsk W A n ss) (hn : n + bigTsk ss ≤ 1048576) :
    Calls Try.prog 27 #[.agg #[.int .i64 nw, .int .i64 sk, .int .i64 ag, .slice A n p, .int .i64 rn, .int .i64 lf, .int .i64 tu, .int .i64 nx]] W fun e W' => e = .returned (.int .i64 (pickW nw sk ag ss rn lf tu nx)) ∧ Below W.heap.size W W' := by
  have b0 := (Below.refl _ W).alloc (Nat.le_refl _) (.cells #[.int .i64 nw, .int .i64 sk, .int .i64 ag, .slice A n p, .int .i64 rn, .int .i64 lf, .int .i64 tu, .int .i64 nx] 29)
  have K := Lib.hid (Bk.new W 29 #[.int .i64 nw, .int .i64 sk, .int .i64 ag, .slice A n p, .int .i64 rn, .int .i64 lf, .int .i64 tu, .int .i64 nx])
  have HR := Lib.hid (hr.of_below b0)
  have Bl := Lib.hid b0
  have HL0 := Lib.hid hr.1
  have hn1 : (n : Int) ≤ 1048576 := by omega
  have HSO := fun w h => schedOkS nw sk ag A n p ss rn lf tu nx w h hn
  obtain ⟨R, hR⟩ : ∃ R, schB nw sk ag ss rn lf tu nx = R := ⟨_, rfl⟩
  rw [hR] at HSO
  have HSO := Lib.hid HSO
  obtain ⟨V, hV⟩ : ∃ V, V = pickW nw sk ag ss rn lf tu nx := ⟨_, rfl⟩
  rw [← hV]
  have HV := Lib.hid hV
  have HRR := Lib.hid hR
  clear hr hn b0 hR hV
  go_enter Try.func27, Try.ntmps27
  go_wp2_with fail
  have hvs : (W.alloc (.cells #[.int .i64 nw, .int .i64 sk, .int .i64 ag, .slice A n p, .int .i64 rn, .int .i64 lf, .int .i64 tu, .int .i64 nx] 29)).heap.size = W.heap.size + 1 := by simp
  generalize W.alloc (.cells #[.int .i64 nw, .int .i64 sk, .int .i64 ag, .slice A n p, .int .i64 rn, .int .i64 lf, .int .i64 tu, .int .i64 nx] 29) = v at K HR Bl hvs ⊢
  obtain ⟨g, hg⟩ : ∃ g, W.heap.size = g := ⟨_, rfl⟩
  rw [hg] at hvs
  have K : Hid (Bk v g 29 #[.int .i64 nw, .int .i64 sk, .int .i64 ag, .slice A n p, .int .i64 rn, .int .i64 lf, .int .i64 tu, .int .i64 nx]) := Lib.hid (hg ▸ K.out)
  try rw [hg]
  clear hg
  have HRB : Hid (∀ wr, Below (g + 1) v wr → RdTsk wr A n ss) := Lib.hid (fun wr h => HR.out.of_below (by rw [hvs]; exact h))
  have HBW : Hid (∀ wr, Below (g + 1) v wr → Below W.heap.size W wr) := Lib.hid (fun wr h => by
    rw [← hvs] at h
    exact Bl.out.trans (h.mono Bl.out.size))
  have B0 := Lib.hid (Below.refl (g + 1) v)
  have HVS := Lib.hid hvs
  clear HR Bl hvs
  have c0 := K.out.cell 0 rfl
  have c1 := K.out.cell 1 rfl
  have c2 := K.out.cell 2 rfl
  have c3 := K.out.cell 3 rfl
  have c4 := K.out.cell 4 rfl
  have c5 := K.out.cell 5 rfl
  have c6 := K.out.cell 6 rfl
  have c7 := K.out.cell 7 rfl
  refine (HSO.out v (HRB.out _ B0.out)).mono ?_
  rintro e w1 ⟨rfl, bb⟩
  have B1 := Lib.hid (B0.out.trans (bb.mono (by have := HVS.out; omega)))
  clear bb HSO B0 c0 c1 c2 c3 c4 c5 c6 c7
  rcases R with _ | _
  · obtain rfl : V = 0 := by rw [HV.out, pickW, HRR.out]; rfl
    go_wp2_with fail
    go_ret
    exact ⟨rfl, HBW.out _ B1.out⟩
  have HVL : Hid (V = ti? (pickL nw ag tu ss)) := Lib.hid (by rw [HV.out, pickW, HRR.out]; rfl)
  have h12 : ss.length ≤ 12 := (schB_iff.1 HRR.out).2.1
  clear HV
  go_wp2_with fail
  go_loopw [3, 4, 5] (fun l x i wr => ∃ (k : Nat) (lx ex : Int), k ≤ n ∧ i = .int .i64 k ∧ l = .int .i64 lx ∧ x = .int .i64 ex ∧ Hid (Spot ss (minBy Tsk.tb (oldT nw (ss.take k))) lx) ∧ Hid (Spot ss (minBy Tsk.td (inT nw (ss.take k))) ex) ∧ Hid (Below (g + 1) v wr)) (fun _ _ i _ => n - (intOf i).toNat)
  case atStart => exact ⟨0, -1, -1, Nat.zero_le _, rfl, rfl, rfl, Lib.hid (.inl ⟨rfl, rfl⟩), Lib.hid (.inl ⟨rfl, rfl⟩), B1⟩
  case round =>
    clear B1
    obtain ⟨k, lx, ex, hk, rfl, rfl, rfl, Hlx, Hex, HB⟩ := hrel
    have KK : Hid (Bk wr g 29 #[.int .i64 nw, .int .i64 sk, .int .i64 ag, .slice A n p, .int .i64 rn, .int .i64 lf, .int .i64 tu, .int .i64 nx]) := Lib.hid (K.out.belowN HB.out (Nat.lt_succ_self g))
    have c0 := KK.out.cell 0 rfl
    have c1 := KK.out.cell 1 rfl
    have c2 := KK.out.cell 2 rfl
    have c3 := KK.out.cell 3 rfl
    have c4 := KK.out.cell 4 rfl
    have c5 := KK.out.cell 5 rfl
    have c6 := KK.out.cell 6 rfl
    have c7 := KK.out.cell 7 rfl
    by_cases hlt : k < n
    · obtain ⟨b, off, ti1, ta1, td1, tb1, A', n', p', xs, rfl, hbs, hj, hat⟩ := (HRB.out _ HB.out).at hlt
      obtain ⟨e0, e1, e2, e3, e4⟩ := hat.cells
      have HJ := Lib.hid hj
      have hi : (k : Int) < (n : Int) := by omega
      have hk12 : k ≤ 12 := by have := HL0.out; omega
      have b2 := (Below.refl _ wr).alloc (Nat.le_refl _) (.cells #[.int .i64 ti1, .slice A' n' p', .int .i64 ta1, .int .i64 td1, .int .i64 tb1] 53)
      have K2 := Lib.hid (KK.out.below b2)
      have B2 := Lib.hid (HB.out.trans (b2.mono (by have h1 := HB.out.size; have h2 := HVS.out; omega)))
      have kt := Bk.new wr 53 #[.int .i64 ti1, .slice A' n' p', .int .i64 ta1, .int .i64 td1, .int .i64 tb1]
      have d0 := kt.cell 0 rfl
      have d1 := kt.cell 1 rfl
      have d2 := kt.cell 2 rfl
      have d3 := kt.cell 3 rfl
      have d4 := kt.cell 4 rfl
      clear hat hj hbs b2 kt
      have g0 := K2.out.cell 0 rfl
      have g1 := K2.out.cell 1 rfl
      have g2 := K2.out.cell 2 rfl
      have g3 := K2.out.cell 3 rfl
      have g4 := K2.out.cell 4 rfl
      have g5 := K2.out.cell 5 rfl
      have g6 := K2.out.cell 6 rfl
      have g7 := K2.out.cell 7 rfl
      by_cases hdd : td1 ≤ nw
      · skip
        rcases Hlx.out with ⟨ho, rfl⟩ | ⟨q, t', ho, rfl, hq⟩
        · have HX : Hid (Spot ss (minBy Tsk.tb (oldT nw (ss.take (k + 1)))) k) := Lib.hid (by rw [oldT_take HJ.out, if_pos hdd, minBy_snoc, ho]; exact .inr ⟨k, _, rfl, rfl, HJ.out⟩)
          have HY : Hid (Spot ss (minBy Tsk.td (inT nw (ss.take (k + 1)))) ex) := Lib.hid (by rw [inT_take HJ.out, if_neg (by simp only; omega), List.append_nil]; exact Hex.out)
          clear ho
          go_wp2_with fail
          go_quiet (fail)
          have B3 := Lib.hid (fun a => below_drewN B2.out a)
          clear B2 d0 d1 d2 d3 d4 K2 c0 c1 c2 c3 c4 c5 c6 c7 g0 g1 g2 g3 g4 g5 g6 g7 e0 e1 e2 e3 e4
          go_wp2_with fail
          go_roundw
          case rel => exact ⟨k + 1, k, ex, by omega, by go_num, rfl, rfl, HX, HY, Lib.hid (B3.out _)⟩
          case measure => simp [intOf]; omega
        · obtain ⟨b', off', ti2, ta2, td2, tb2, A2', n2', p2', xs2, eA, hbs2, hj2, hat2⟩ := (HRB.out _ B2.out).at (show q < n by have := (List.getElem?_eq_some_iff.1 hq).1; have := HL0.out; omega)
          cases eA
          rw [hq] at hj2
          cases hj2
          obtain ⟨y0, y1, y2, y3, y4⟩ := hat2.cells
          have hqn : (q : Int) < (n : Int) := by have := (List.getElem?_eq_some_iff.1 hq).1; have := HL0.out; omega
          have HQ := Lib.hid hq
          clear hat2 hbs2 hq
          by_cases hlt2 : tb1 < tb2
          · have HX : Hid (Spot ss (minBy Tsk.tb (oldT nw (ss.take (k + 1)))) k) := Lib.hid (by rw [oldT_take HJ.out, if_pos hdd, minBy_snoc, ho]; simp only [minF]; rw [if_pos hlt2]; exact .inr ⟨k, _, rfl, rfl, HJ.out⟩)
            have HY : Hid (Spot ss (minBy Tsk.td (inT nw (ss.take (k + 1)))) ex) := Lib.hid (by rw [inT_take HJ.out, if_neg (by simp only; omega), List.append_nil]; exact Hex.out)
            clear ho
            go_wp2_with fail
            go_quiet (fail)
            have B3 := Lib.hid (fun a => below_drewN B2.out a)
            clear B2 d0 d1 d2 d3 d4 K2 c0 c1 c2 c3 c4 c5 c6 c7 g0 g1 g2 g3 g4 g5 g6 g7 e0 e1 e2 e3 e4 y0 y1 y2 y3 y4
            go_wp2_with fail
            go_roundw
            case rel => exact ⟨k + 1, k, ex, by omega, by go_num, rfl, rfl, HX, HY, Lib.hid (B3.out _)⟩
            case measure => simp [intOf]; omega
          · have HX : Hid (Spot ss (minBy Tsk.tb (oldT nw (ss.take (k + 1)))) q) := Lib.hid (by rw [oldT_take HJ.out, if_pos hdd, minBy_snoc, ho]; simp only [minF]; rw [if_neg hlt2]; exact .inr ⟨q, _, rfl, rfl, HQ.out⟩)
            have HY : Hid (Spot ss (minBy Tsk.td (inT nw (ss.take (k + 1)))) ex) := Lib.hid (by rw [inT_take HJ.out, if_neg (by simp only; omega), List.append_nil]; exact Hex.out)
            clear ho
            go_wp2_with fail
            go_quiet (fail)
            have B3 := Lib.hid (fun a => below_drewN B2.out a)
            clear B2 d0 d1 d2 d3 d4 K2 c0 c1 c2 c3 c4 c5 c6 c7 g0 g1 g2 g3 g4 g5 g6 g7 e0 e1 e2 e3 e4 y0 y1 y2 y3 y4
            go_wp2_with fail
            go_roundw
            case rel => exact ⟨k + 1, q, ex, by omega, by go_num, rfl, rfl, HX, HY, Lib.hid (B3.out _)⟩
            case measure => simp [intOf]; omega
      · have hdn : nw < td1 := by omega
        rcases Hex.out with ⟨ho, rfl⟩ | ⟨q, t', ho, rfl, hq⟩
        · have HX : Hid (Spot ss (minBy Tsk.td (inT nw (ss.take (k + 1)))) k) := Lib.hid (by rw [inT_take HJ.out, if_pos hdn, minBy_snoc, ho]; exact .inr ⟨k, _, rfl, rfl, HJ.out⟩)
          have HY : Hid (Spot ss (minBy Tsk.tb (oldT nw (ss.take (k + 1)))) lx) := Lib.hid (by rw [oldT_take HJ.out, if_neg (by simp only; omega), List.append_nil]; exact Hlx.out)
          clear ho
          go_wp2_with fail
          go_quiet (fail)
          have B3 := Lib.hid (fun a => below_drewN B2.out a)
          clear B2 d0 d1 d2 d3 d4 K2 c0 c1 c2 c3 c4 c5 c6 c7 g0 g1 g2 g3 g4 g5 g6 g7 e0 e1 e2 e3 e4
          go_wp2_with fail
          go_roundw
          case rel => exact ⟨k + 1, lx, k, by omega, by go_num, rfl, rfl, HY, HX, Lib.hid (B3.out _)⟩
          case measure => simp [intOf]; omega
        · obtain ⟨b', off', ti2, ta2, td2, tb2, A2', n2', p2', xs2, eA, hbs2, hj2, hat2⟩ := (HRB.out _ B2.out).at (show q < n by have := (List.getElem?_eq_some_iff.1 hq).1; have := HL0.out; omega)
          cases eA
          rw [hq] at hj2
          cases hj2
          obtain ⟨y0, y1, y2, y3, y4⟩ := hat2.cells
          have hqn : (q : Int) < (n : Int) := by have := (List.getElem?_eq_some_iff.1 hq).1; have := HL0.out; omega
          have HQ := Lib.hid hq
          clear hat2 hbs2 hq
          by_cases hlt2 : td1 < td2
          · have HX : Hid (Spot ss (minBy Tsk.td (inT nw (ss.take (k + 1)))) k) := Lib.hid (by rw [inT_take HJ.out, if_pos hdn, minBy_snoc, ho]; simp only [minF]; rw [if_pos hlt2]; exact .inr ⟨k, _, rfl, rfl, HJ.out⟩)
            have HY : Hid (Spot ss (minBy Tsk.tb (oldT nw (ss.take (k + 1)))) lx) := Lib.hid (by rw [oldT_take HJ.out, if_neg (by simp only; omega), List.append_nil]; exact Hlx.out)
            clear ho
            go_wp2_with fail
            go_quiet (fail)
            have B3 := Lib.hid (fun a => below_drewN B2.out a)
            clear B2 d0 d1 d2 d3 d4 K2 c0 c1 c2 c3 c4 c5 c6 c7 g0 g1 g2 g3 g4 g5 g6 g7 e0 e1 e2 e3 e4 y0 y1 y2 y3 y4
            go_wp2_with fail
            go_roundw
            case rel => exact ⟨k + 1, lx, k, by omega, by go_num, rfl, rfl, HY, HX, Lib.hid (B3.out _)⟩
            case measure => simp [intOf]; omega
          · have HX : Hid (Spot ss (minBy Tsk.td (inT nw (ss.take (k + 1)))) q) := Lib.hid (by rw [inT_take HJ.out, if_pos hdn, minBy_snoc, ho]; simp only [minF]; rw [if_neg hlt2]; exact .inr ⟨q, _, rfl, rfl, HQ.out⟩)
            have HY : Hid (Spot ss (minBy Tsk.tb (oldT nw (ss.take (k + 1)))) lx) := Lib.hid (by rw [oldT_take HJ.out, if_neg (by simp only; omega), List.append_nil]; exact Hlx.out)
            clear ho
            go_wp2_with fail
            go_quiet (fail)
            have B3 := Lib.hid (fun a => below_drewN B2.out a)
            clear B2 d0 d1 d2 d3 d4 K2 c0 c1 c2 c3 c4 c5 c6 c7 g0 g1 g2 g3 g4 g5 g6 g7 e0 e1 e2 e3 e4 y0 y1 y2 y3 y4
            go_wp2_with fail
            go_roundw
            case rel => exact ⟨k + 1, lx, q, by omega, by go_num, rfl, rfl, HY, HX, Lib.hid (B3.out _)⟩
            case measure => simp [intOf]; omega
    · obtain rfl : k = n := by omega
      have hol := Hlx.out
      have hex := Hex.out
      rw [List.take_of_length_le (by have := HL0.out; omega)] at hol hex
      have htu : 0 ≤ tu := (inB_iff.1 (headB_iff.1 (schB_iff.1 HRR.out).1).2.1).1
      have hag : 0 ≤ ag := (inB_iff.1 (headB_iff.1 (schB_iff.1 HRR.out).1).2.2.2.1).1
      obtain ⟨o1, ho1⟩ : ∃ o, minBy Tsk.tb (oldT nw ss) = o := ⟨_, rfl⟩
      obtain ⟨o2, ho2⟩ : ∃ o, minBy Tsk.td (inT nw ss) = o := ⟨_, rfl⟩
      rw [ho1] at hol
      rw [ho2] at hex
      have HPK : Hid (V = ti? (if turnB ag tu then o1.or o2 else o2.or o1)) := Lib.hid (by rw [HVL.out, pickL, ho1, ho2])
      clear ho1 ho2 Hlx Hex
      rcases hol with ⟨rfl, rfl⟩ | ⟨q1, t1, rfl, rfl, hq1⟩
      · rcases hex with ⟨rfl, rfl⟩ | ⟨q2, t2, rfl, rfl, hq2⟩
        · obtain rfl : V = 0 := by rw [HPK.out]; simp [ti?]
          clear HPK HVL
          go_wp2_with fail
          go_ret
          exact ⟨rfl, HBW.out _ HB.out⟩
        · skip
          obtain ⟨bky, offy, iy, tay, tdy, tby, Ay, ny, py, xsy, eAy, hbsy, hjy, haty⟩ := (HRB.out _ HB.out).at (show q2 < k by have := (List.getElem?_eq_some_iff.1 hq2).1; have := HL0.out; omega)
          rw [hq2] at hjy
          cases hjy
          have y0 := haty.cells.1
          have yn : (q2 : Int) < (k : Int) := by have := (List.getElem?_eq_some_iff.1 hq2).1; have := HL0.out; omega
          clear haty hbsy
          subst eAy
          obtain rfl : V = iy := by rw [HPK.out]; simp [ti?]
          clear HPK HVL
          go_wp2_with fail
          go_ret
          exact ⟨rfl, HBW.out _ HB.out⟩
      · rcases hex with ⟨rfl, rfl⟩ | ⟨q2, t2, rfl, rfl, hq2⟩
        · skip
          obtain ⟨bky, offy, iy, tay, tdy, tby, Ay, ny, py, xsy, eAy, hbsy, hjy, haty⟩ := (HRB.out _ HB.out).at (show q1 < k by have := (List.getElem?_eq_some_iff.1 hq1).1; have := HL0.out; omega)
          rw [hq1] at hjy
          cases hjy
          have y0 := haty.cells.1
          have yn : (q1 : Int) < (k : Int) := by have := (List.getElem?_eq_some_iff.1 hq1).1; have := HL0.out; omega
          clear haty hbsy
          subst eAy
          obtain rfl : V = iy := by rw [HPK.out]; simp [ti?]
          clear HPK HVL
          go_wp2_with fail
          go_ret
          exact ⟨rfl, HBW.out _ HB.out⟩
        · skip
          obtain ⟨bky, offy, iy, tay, tdy, tby, Ay, ny, py, xsy, eAy, hbsy, hjy, haty⟩ := (HRB.out _ HB.out).at (show q1 < k by have := (List.getElem?_eq_some_iff.1 hq1).1; have := HL0.out; omega)
          rw [hq1] at hjy
          cases hjy
          have y0 := haty.cells.1
          have yn : (q1 : Int) < (k : Int) := by have := (List.getElem?_eq_some_iff.1 hq1).1; have := HL0.out; omega
          clear haty hbsy
          obtain ⟨bkz, offz, iz, taz, tdz, tbz, Az, nz, pz, xsz, eAz, hbsz, hjz, hatz⟩ := (HRB.out _ HB.out).at (show q2 < k by have := (List.getElem?_eq_some_iff.1 hq2).1; have := HL0.out; omega)
          rw [hq2] at hjz
          cases hjz
          have z0 := hatz.cells.1
          have zn : (q2 : Int) < (k : Int) := by have := (List.getElem?_eq_some_iff.1 hq2).1; have := HL0.out; omega
          clear hatz hbsz
          subst eAy
          cases eAz
          by_cases h1 : 0 < ag
          · by_cases h2 : tu % ag = 0
            · obtain rfl : V = iy := by rw [HPK.out]; simp [ti?, turnB, h1, h2]
              have h3 : (tu % ag == 0) = true := by simpa using h2
              have h4 : ¬ ag = 0 := by omega
              clear HPK HVL h2
              go_wp2_with fail
              go_ret
              exact ⟨rfl, HBW.out _ HB.out⟩
            · obtain rfl : V = iz := by rw [HPK.out]; simp [ti?, turnB, h1, h2]
              have h3 : (tu % ag == 0) = false := by simpa using h2
              have h4 : ¬ ag = 0 := by omega
              clear HPK HVL h2
              go_wp2_with fail
              go_ret
              exact ⟨rfl, HBW.out _ HB.out⟩
          · obtain rfl : V = iz := by rw [HPK.out]; simp [ti?, turnB, h1]
            clear HPK HVL
            go_wp2_with fail
            go_ret
            exact ⟨rfl, HBW.out _ HB.out⟩
end Qt
end Go.Proofs.Ytihnpfcjnfkfjaa
