/- What FitsIn (of the program and of its model) gives when it is called. Conditions: the slice of tasks reads as the list that is named, each slice of costs has room for what it holds; the task under way is an int. -/
import Derived.Test.YtihnpfcjnfkfjaaFitMath
import Derived.Test.YtihnpfcjnfkfjaaDemand
import Derived.Test.YtihnpfcjnfkfjaaLateS
namespace Go.Proofs.Ytihnpfcjnfkfjaa
open Go.RowKit Go.Sort
set_option linter.unusedSimpArgs false
set_option linter.unusedVariables false
namespace Qt
set_option maxRecDepth 100000 in
set_option maxHeartbeats 2000000 in
theorem fitsS (nw sk ag : Int) (A : Option Addr) (n p : Nat) (ss : List Tsk) (rn lf tu nx : Int) (W : World) (hrc : RdC W A n ss) (hn : n + bigTsk ss ≤ 1048576) (hw : (Lit.int .i64 rn).wf = true) :
    Calls Try.prog 33 #[.agg #[.int .i64 nw, .int .i64 sk, .int .i64 ag, .slice A n p, .int .i64 rn, .int .i64 lf, .int .i64 tu, .int .i64 nx]] W fun e W' => e = .returned (.bool (fitW nw sk ag ss rn lf tu nx)) ∧ Below W.heap.size W W' := by
  have b0 := (Below.refl _ W).alloc (Nat.le_refl _) (.cells #[.int .i64 nw, .int .i64 sk, .int .i64 ag, .slice A n p, .int .i64 rn, .int .i64 lf, .int .i64 tu, .int .i64 nx] 29)
  have K := Lib.hid (Bk.new W 29 #[.int .i64 nw, .int .i64 sk, .int .i64 ag, .slice A n p, .int .i64 rn, .int .i64 lf, .int .i64 tu, .int .i64 nx])
  have HR0 := Lib.hid (hrc.of_below b0)
  have Bl := Lib.hid b0
  have HL := Lib.hid hrc.1.1
  have hn1 : (n : Int) ≤ 1048576 := by omega
  obtain ⟨R, hR⟩ : ∃ R, schB nw sk ag ss rn lf tu nx = R := ⟨_, rfl⟩
  obtain ⟨V, hV⟩ : ∃ V, V = fitW nw sk ag ss rn lf tu nx := ⟨_, rfl⟩
  rw [← hV]
  have HR := Lib.hid hR
  have HV := Lib.hid hV
  have HSO := Lib.hid (fun w h => schedOkS nw sk ag A n p ss rn lf tu nx w h hn)
  rw [hR] at HSO
  have HLT := Lib.hid (fun w h => lateS nw sk ag A n p ss rn lf tu nx w h hn)
  have HDM := Lib.hid (fun d w h => demandAtS nw sk ag A n p ss rn lf tu nx d w h hn hw)
  have HBK := Lib.hid (fun d w h => blockAtS nw sk ag A n p ss rn lf tu nx d w h hn hw)
  clear hrc b0 hR hV hn hw
  go_enter Try.func33, Try.ntmps33
  go_wp2_with fail
  generalize W.alloc (.cells #[.int .i64 nw, .int .i64 sk, .int .i64 ag, .slice A n p, .int .i64 rn, .int .i64 lf, .int .i64 tu, .int .i64 nx] 29) = v at K HR0 Bl ⊢
  generalize W.heap.size = g at K ⊢
  refine (HSO.out v HR0.out.1).mono ?_
  rintro e w1 ⟨rfl, bb⟩
  replace K := Lib.hid (K.out.below bb)
  replace HR0 := Lib.hid (HR0.out.of_below bb)
  replace Bl := Lib.hid (Bl.out.trans (bb.mono Bl.out.size))
  clear bb HSO
  rcases R with _ | _
  · obtain rfl : V = false := by rw [HV.out, fitW, HR.out]; rfl
    go_wp2_with fail
    go_ret
    exact ⟨rfl, Bl.out⟩
  have hVb : V = fitV nw sk ss rn lf := by rw [HV.out, fitW, HR.out]; rfl
  have HVB := Lib.hid hVb
  have h12 : ss.length ≤ 12 := (schB_iff.1 HR.out).2.1
  have HLW : Hid (lateW nw sk ag ss rn lf tu nx = lateL nw ss) := Lib.hid (by rw [lateW, HR.out]; rfl)
  rw [HLW.out] at HLT
  clear hVb HV
  have c0 := K.out.cell 0 rfl
  have c1 := K.out.cell 1 rfl
  have c2 := K.out.cell 2 rfl
  have c3 := K.out.cell 3 rfl
  have c4 := K.out.cell 4 rfl
  have c5 := K.out.cell 5 rfl
  have c6 := K.out.cell 6 rfl
  have c7 := K.out.cell 7 rfl
  go_wp2_with fail
  clear c0 c1 c2 c3 c4 c5 c6 c7
  refine (HLT.out w1 HR0.out.1).mono ?_
  rintro e w2 ⟨A2, cap2, rfl, _, bb⟩
  replace K := Lib.hid (K.out.below bb)
  replace HR0 := Lib.hid (HR0.out.of_below bb)
  replace Bl := Lib.hid (Bl.out.trans (bb.mono Bl.out.size))
  have hll := lateL_len nw ss
  by_cases hll0 : 0 < (lateL nw ss).length
  · obtain ⟨t, ht, hlt⟩ := lateL_some hll0
    obtain rfl : V = false := by rw [HVB.out]; exact late_unfit HR.out ht hlt
    clear ht hlt bb HLT
    generalize (lateL nw ss).length = L at hll hll0 ⊢
    have hl1 : 0 < (L : Int) := by omega
    go_wp2_with fail
    go_ret
    exact ⟨rfl, Bl.out⟩
  obtain ⟨L, hL⟩ : ∃ L, (lateL nw ss).length = L := ⟨_, rfl⟩
  rw [hL] at hll0 ⊢
  obtain rfl : L = 0 := by omega
  clear hll hll0 bb HLT hL
  have hfb := fit_bd HR.out
  go_wp2_with fail
  go_loopw [3] (fun i wr => ∃ k : Nat, k ≤ n ∧ i = .int .i64 k ∧ Hid (∀ (j : Nat) (s : Tsk), j < k → ss[j]? = some s → fitC nw sk ss rn lf s.td = true) ∧ Hid (RdC wr A n ss) ∧ Hid (Bk wr g 29 #[.int .i64 nw, .int .i64 sk, .int .i64 ag, .slice A n p, .int .i64 rn, .int .i64 lf, .int .i64 tu, .int .i64 nx]) ∧ Hid (Below W.heap.size W wr)) (fun i _ => n - (intOf i).toNat)
  case atStart => exact ⟨0, Nat.zero_le _, rfl, Lib.hid (fun j s hj => absurd hj (Nat.not_lt_zero _)), HR0, K, Bl⟩
  case round =>
    clear HR0 K Bl
    obtain ⟨k, hk, rfl, HP, HR0, K, Bl⟩ := hrel
    have c0 := K.out.cell 0 rfl
    have c1 := K.out.cell 1 rfl
    have c2 := K.out.cell 2 rfl
    have c3 := K.out.cell 3 rfl
    have c4 := K.out.cell 4 rfl
    have c5 := K.out.cell 5 rfl
    have c6 := K.out.cell 6 rfl
    have c7 := K.out.cell 7 rfl
    by_cases hlt : k < n
    · obtain ⟨b, off, ti1, ta1, td1, tb1, A', n', p', xs, rfl, hbs, hj, ht⟩ := HR0.out.1.at hlt
      obtain ⟨e0, e1, e2, e3, e4⟩ := ht.cells
      have hmem := List.mem_of_getElem? hj
      have HJ := Lib.hid hj
      have HMEM := Lib.hid hmem
      have hdue := due_ge HR.out hmem
      simp only at hdue
      have hdb := demV_bd (demT_bd HR.out td1)
      have hbb := block_bd HR.out td1
      have hDMg : Hid (∀ w, Below wr.heap.size wr w → Calls Try.prog 29 #[.agg #[.int .i64 nw, .int .i64 sk, .int .i64 ag, .slice (some ⟨b, off, none⟩) n p, .int .i64 rn, .int .i64 lf, .int .i64 tu, .int .i64 nx], .int .i64 td1] w fun e W' => e = .returned (.int .i64 (demV rn lf td1 ss)) ∧ Below w.heap.size w W') := Lib.hid (fun w hb => by
        have := HDM.out td1 w (HR0.out.of_below hb)
        rw [demW_yes HR.out] at this
        exact this)
      have hBKg : Hid (∀ w, Below wr.heap.size wr w → Calls Try.prog 31 #[.agg #[.int .i64 nw, .int .i64 sk, .int .i64 ag, .slice (some ⟨b, off, none⟩) n p, .int .i64 rn, .int .i64 lf, .int .i64 tu, .int .i64 nx], .int .i64 td1] w fun e W' => e = .returned (.int .i64 (blockV ss rn lf td1)) ∧ Below w.heap.size w W') := Lib.hid (fun w hb => by
        have := HBK.out td1 w (HR0.out.of_below hb).1
        rw [show blockW nw sk ag ss rn lf tu nx td1 = blockV ss rn lf td1 from by simp [blockW, HR.out]] at this
        exact this)
      have HF : Hid (fitC nw sk ss rn lf td1 = decide (demV rn lf td1 ss + blockV ss rn lf td1 + sk ≤ td1 - nw)) := Lib.hid rfl
      generalize demV rn lf td1 ss = D at hdb hDMg HF
      generalize blockV ss rn lf td1 = Q at hbb hBKg HF
      have hD1 : -12000 ≤ D ∧ D ≤ 84000 := by omega
      clear hdb ht hj hmem hbs
      have hi : (k : Int) < (n : Int) := by omega
      have hwa : IntKind.i64.wrap (D + Q) = D + Q := IntWalk.i64_in _ (by omega)
      have hwb : IntKind.i64.wrap (D + Q + sk) = D + Q + sk := IntWalk.i64_in _ (by omega)
      have hwc : IntKind.i64.wrap (td1 - nw) = td1 - nw := IntWalk.i64_in _ (by omega)
      have HPN : D + Q + sk ≤ td1 - nw → Hid (∀ (j : Nat) (s : Tsk), j < k + 1 → ss[j]? = some s → fitC nw sk ss rn lf s.td = true) := fun hf => Lib.hid (fun j s hjk hs => by
        by_cases e : j < k
        · exact HP.out j s e hs
        · have : j = k := by omega
          subst this
          rw [HJ.out] at hs
          cases hs
          rw [HF.out]
          simpa using hf)
      have HVN : ¬ D + Q + sk ≤ td1 - nw → Hid (V = false) := fun hf => Lib.hid (by rw [HVB.out]; exact fit_no HMEM.out (by rw [HF.out]; simpa using hf))
      clear HP HF HJ HMEM
      go_wp2_with fail
      replace c0 := cell_regrown c0
      replace c1 := cell_regrown c1
      replace c2 := cell_regrown c2
      replace c3 := cell_regrown c3
      replace c4 := cell_regrown c4
      replace c5 := cell_regrown c5
      replace c6 := cell_regrown c6
      replace c7 := cell_regrown c7
      clear e0 e1 e2 e3 e4
      have q0 := Lib.hid (fun dd os => Calls.regrown_of (hDMg.out (grow (redrawn wr dd) os) (below_regrown wr dd os)))
      have q1 := Lib.hid (fun dd os => Calls.regrown_of (hBKg.out (grow (redrawn wr dd) os) (below_regrown wr dd os)))
      clear hDMg hBKg HDM HBK
      refine wp_region_quiet_below mixed (by kernel_rfl) ?_
      repeat (go_big_quiet_step (first | with_reducible exact q0.out _ _ | with_reducible exact q1.out _ _))
      refine wpQuiet_nil ?_
      intro _ hw'
      obtain ⟨⟨dq, osq⟩, rfl⟩ := hw'
      have HR3 := Lib.hid (HR0.out.of_below (below_regrown wr dq osq))
      have K3 := Lib.hid (K.out.below (below_regrown wr dq osq))
      have HB3 := Lib.hid (Bl.out.trans ((below_regrown wr dq osq).mono Bl.out.size))
      clear c0 c1 c2 c3 c4 c5 c6 c7 q0 q1 hwa hwb hwc
      generalize grow (redrawn wr dq) osq = u9 at HR3 K3 HB3 ⊢
      by_cases hf : D + Q + sk ≤ td1 - nw
      · have HX := HPN hf
        clear HPN HVN
        go_wp2_with fail
        go_roundw
        case rel => exact ⟨k + 1, by omega, by go_num, HX, HR3, K3, HB3⟩
        case measure => simp [intOf]; omega
      · obtain rfl : V = false := (HVN (by omega)).out
        clear HPN HVN
        go_wp2_with fail
        go_ret
        exact ⟨rfl, HB3.out⟩
    · obtain rfl : k = n := by omega
      obtain rfl : V = true := by
        rw [HVB.out]
        exact fit_yes (fun t ht => by
          obtain ⟨i, hi, e⟩ := List.getElem_of_mem ht
          exact HP.out i t (by have := HL.out; omega) (by rw [List.getElem?_eq_getElem hi, e]))
      go_wp2_with fail
      go_ret
      exact ⟨rfl, Bl.out⟩
set_option maxRecDepth 100000 in
set_option maxHeartbeats 2000000 in
theorem rosterFitsI (nw sk ag rn lf tu nx : Int) (b m : Nat) (ss : List Tsk) (es : List (Int × Value)) (W : World) (hm : W.ownsMap Try.prog 3 asV b m (mapOf es)) (he : Ent W ss es) (hce : CapE ss es) (hs : schB nw sk ag ss rn lf tu nx = true) (hw : (Lit.int .i64 rn).wf = true) :
    Calls Try.prog 60 #[.agg #[.int .i64 nw, .int .i64 sk, .int .i64 ag, .slice none 0 0, .int .i64 rn, .int .i64 lf, .int .i64 tu, .int .i64 nx, .map (some b)]] W fun e W' => e = .returned (.bool (fitV nw sk ss rn lf)) ∧ Below W.heap.size W W' := by
  have bl := (Below.refl _ W).alloc (Nat.le_refl _) (.cells #[.int .i64 nw, .int .i64 sk, .int .i64 ag, .slice none 0 0, .int .i64 rn, .int .i64 lf, .int .i64 tu, .int .i64 nx, .map (some b)] 58)
  have K := Lib.hid (Bk.new W 58 #[.int .i64 nw, .int .i64 sk, .int .i64 ag, .slice none 0 0, .int .i64 rn, .int .i64 lf, .int .i64 tu, .int .i64 nx, .map (some b)])
  have HM := Lib.hid (ownsMap_below hm bl)
  have HMW := Lib.hid hm
  have HE := Lib.hid he
  have HCE := Lib.hid hce
  have HS := Lib.hid hs
  have HW := Lib.hid hw
  have Bl := Lib.hid bl
  obtain ⟨V, hV⟩ : ∃ V, V = fitV nw sk ss rn lf := ⟨_, rfl⟩
  rw [← hV]
  have HV := Lib.hid hV
  have HDM : Hid (∀ d w, Below W.heap.size W w → Calls Try.prog 58 #[.agg #[.int .i64 nw, .int .i64 sk, .int .i64 ag, .slice none 0 0, .int .i64 rn, .int .i64 lf, .int .i64 tu, .int .i64 nx, .map (some b)], .int .i64 d] w fun e W' => e = .returned (.int .i64 (demV rn lf d ss)) ∧ Below w.heap.size w W') := Lib.hid (fun d w h => demandI nw sk ag rn lf tu nx d b m ss es w (ownsMap_below HMW.out h) (HE.out.of_below h) HCE.out HS.out)
  have HBK : Hid (∀ d w, Below W.heap.size W w → Calls Try.prog 59 #[.agg #[.int .i64 nw, .int .i64 sk, .int .i64 ag, .slice none 0 0, .int .i64 rn, .int .i64 lf, .int .i64 tu, .int .i64 nx, .map (some b)], .int .i64 d] w fun e W' => e = .returned (.int .i64 (blockV ss rn lf d)) ∧ Below w.heap.size w W') := Lib.hid (fun d w h => blockI nw sk ag rn lf tu nx d b m ss es w (ownsMap_below HMW.out h) (HE.out.of_below h) (sch_facts HS.out).1 HW.out)
  have hfb := fit_bd hs
  clear hm he hce hs bl hw hV HMW HW
  go_enter Try.func60, Try.ntmps60
  go_wp2_with (first
    | (at_range; refine wpList_range_own _ rfl _ 56 rfl 3 53 keyI Try.underlying56 asV b m _ rfl HM.out ?_; intro w0 hrg0 hg0 hs0)
    | fail)
  go_frame
  have HRG := Lib.hid hrg0
  have K0 := Lib.hid (K.out.grown hg0 (by simp))
  have hsz : (W.alloc (.cells #[.int .i64 nw, .int .i64 sk, .int .i64 ag, .slice none 0 0, .int .i64 rn, .int .i64 lf, .int .i64 tu, .int .i64 nx, .map (some b)] 58)).heap.size = W.heap.size + 1 := by simp
  have B0 := Lib.hid (Bl.out.grown hg0 Bl.out.size (fun r hr => by cases hr))
  rw [hsz] at HRG ⊢
  have HRG := Lib.hid HRG.out
  obtain ⟨r, hr⟩ : ∃ r, r = W.heap.size + 1 := ⟨_, rfl⟩
  rw [← hr] at HRG ⊢
  have HRW : Hid (W.heap.size < r) := Lib.hid (by omega)
  generalize hg : W.heap.size = g at K0 ⊢
  have HG := Lib.hid hg
  clear hrg0 hg0 hs0 hsz hr hg HM K Bl
  go_loopw [] (fun wr => ∃ (left : Lit → Bool) (cnt : Nat), Hid (∀ t ∈ ss, left (.int .i64 t.ti) = false → fitC nw sk ss rn lf t.td = true) ∧ Hid (wr.ranges Try.prog 3 asV b r m (mapOf es) left cnt) ∧ Hid (∀ kl, left kl = true → Maps.has (mapOf es) kl = true) ∧ Hid (Bk wr g 58 #[.int .i64 nw, .int .i64 sk, .int .i64 ag, .slice none 0 0, .int .i64 rn, .int .i64 lf, .int .i64 tu, .int .i64 nx, .map (some b)]) ∧ Hid (Below W.heap.size W wr)) (fun wr => wr.rangeLeft b r)
  case atStart =>
    refine ⟨_, _, Lib.hid (fun t ht h0 => ?_), HRG, Lib.hid (fun _ h => h), K0, B0⟩
    obtain ⟨i, hi, e⟩ := List.getElem_of_mem ht
    have hi' : ss[i]? = some t := by rw [List.getElem?_eq_getElem hi, e]
    obtain ⟨P, hes, _⟩ := HE.out.2 i t hi'
    have := (mapOf_hit (HE.out.apart (sch_facts HS.out).1) (List.mem_of_getElem? hes)).1
    rw [this] at h0
    cases h0
  case round =>
    clear HRG K0 B0
    obtain ⟨left, cnt, HP, HRG, HLF, K, Bl⟩ := hrel
    go_wp2_with (first
      | (at_next; refine wpList_next_ranges _ rfl _ rfl 3 keyI asV (Value.int .i64) (fun c : Value => c) (fun key kl hkey => by obtain ⟨x, rfl, _⟩ := Maps.keyOf_int_inv Try.underlying3 hkey; exact ⟨x, rfl⟩) (fun v y _ => ⟨v, rfl⟩) b r m _ _ _ rfl HRG.out ?_ ?_)
      | fail)
    · intro _ hl0
      obtain rfl : V = true := by rw [HV.out]; exact fit_yes (fun t ht => HP.out t ht (by rw [hl0]))
      clear hl0
      go_wp2_with fail
      go_ret
      exact ⟨rfl, Bl.out⟩
    · intro x c kl ya yb w1 cnt1 hkey hlx hy hat hrg1 hlt hg1 hs1 hen
      obtain ⟨x', ex, rfl, hwx⟩ := Maps.keyOf_int_inv Try.underlying3 hkey
      cases ex
      have hyc : ya = .held c := by simp [asV] at hy; exact hy.1.symm
      subst hyc
      have B1 := Bl.out.grown hg1 Bl.out.size (fun q hq => by cases hq; have := HRW.out; omega)
      obtain ⟨bx, ox, n1, p1, j, td1, tb1, xs, hmem, hc, hrd, hcap, hj1, hn6, hall, hrf⟩ := entry_task HS.out (HE.out.of_below B1) HCE.out (HLF.out _ hlx) hat
      subst hc
      have HLF2 : Hid (∀ kl, (left kl && !kl.sameKey (.int .i64 x)) = true → Maps.has (mapOf es) kl = true) := Lib.hid (fun kl h => HLF.out kl (by simp only [Bool.and_eq_true] at h; exact h.1))
      have HPX : Hid (∀ t ∈ ss, (left (.int .i64 t.ti) && !(Lit.int .i64 t.ti).sameKey (.int .i64 x)) = false → t.ti ≠ x → fitC nw sk ss rn lf t.td = true) := Lib.hid (fun t ht h h2 => HP.out t ht (by simpa [Lit.sameKey, h2] using h))
      have HUN : Hid (∀ t ∈ ss, t.ti = x → t = ⟨x, j, td1, tb1, xs⟩) := Lib.hid (fun t ht e => by
        have h1 := find_own HS.out ht
        have h2 := find_own HS.out hmem
        simp only at h2
        rw [e, h2] at h1
        cases h1
        rfl)
      have hdue := due_ge HS.out hmem
      simp only at hdue
      have HMEM := Lib.hid hmem
      have hdb := demV_bd (demT_bd HS.out td1)
      have hbb := block_bd HS.out td1
      have h12 : ss.length ≤ 12 := (schB_iff.1 HS.out).2.1
      have K1 := K.out.grown hg1 (by intro e; cases e; have := HRW.out; have := HG.out; omega)
      have b7 := (Below.refl _ w1).alloc (Nat.le_refl _) (.cells #[.int .i64 x, .slice (some ⟨bx, ox, none⟩) n1 p1, .int .i64 (j : Nat), .int .i64 td1, .int .i64 tb1] 53)
      have K2 := Lib.hid (K1.below b7)
      have HRG2 := Lib.hid (ranges_below hrg1 b7)
      have Bl2 := Lib.hid (B1.trans (b7.mono B1.size))
      have KT := Lib.hid (Bk.new w1 53 #[.int .i64 x, .slice (some ⟨bx, ox, none⟩) n1 p1, .int .i64 (j : Nat), .int .i64 td1, .int .i64 tb1])
      have HCN := Lib.hid (show cnt1 < cnt from hlt)
      have HLE := Lib.hid HRG.out.left_eq
      have HDG : Hid (∀ w, Below W.heap.size W w → Calls Try.prog 58 #[.agg #[.int .i64 nw, .int .i64 sk, .int .i64 ag, .slice none 0 0, .int .i64 rn, .int .i64 lf, .int .i64 tu, .int .i64 nx, .map (some b)], .int .i64 td1] w fun e W' => e = .returned (.int .i64 (demV rn lf td1 ss)) ∧ Below w.heap.size w W') := Lib.hid (fun w h => HDM.out td1 w h)
      have HBG : Hid (∀ w, Below W.heap.size W w → Calls Try.prog 59 #[.agg #[.int .i64 nw, .int .i64 sk, .int .i64 ag, .slice none 0 0, .int .i64 rn, .int .i64 lf, .int .i64 tu, .int .i64 nx, .map (some b)], .int .i64 td1] w fun e W' => e = .returned (.int .i64 (blockV ss rn lf td1)) ∧ Below w.heap.size w W') := Lib.hid (fun w h => HBK.out td1 w h)
      have HF : Hid (fitC nw sk ss rn lf td1 = decide (demV rn lf td1 ss + blockV ss rn lf td1 + sk ≤ td1 - nw)) := Lib.hid rfl
      generalize demV rn lf td1 ss = D at hdb HDG HF
      generalize blockV ss rn lf td1 = Q at hbb HBG HF
      have hD1 : -12000 ≤ D ∧ D ≤ 84000 := by omega
      have hwa : IntKind.i64.wrap (D + Q) = D + Q := IntWalk.i64_in _ (by omega)
      have hwb : IntKind.i64.wrap (D + Q + sk) = D + Q + sk := IntWalk.i64_in _ (by omega)
      have hwc : IntKind.i64.wrap (td1 - nw) = td1 - nw := IntWalk.i64_in _ (by omega)
      have HPN : D + Q + sk ≤ td1 - nw → Hid (∀ t ∈ ss, (left (.int .i64 t.ti) && !(Lit.int .i64 t.ti).sameKey (.int .i64 x)) = false → fitC nw sk ss rn lf t.td = true) := fun hf => Lib.hid (fun t ht h => by
        by_cases e : t.ti = x
        · rw [HUN.out t ht e]
          rw [HF.out]
          simpa using hf
        · exact HPX.out t ht h e)
      have HVN : td1 - nw < D + Q + sk → Hid (V = false) := fun hf => Lib.hid (by rw [HV.out]; exact fit_no HMEM.out (by rw [HF.out]; simpa using hf))
      clear hkey hlx hy hat hrg1 hlt hg1 hs1 hmem hrd hcap hj1 hn6 hall hrf hwx K1 B1 b7 HRG HLF K Bl HP HPX HUN HF HMEM hdb
      have c0 := K2.out.cell 0 rfl
      have c1 := K2.out.cell 1 rfl
      have c2 := K2.out.cell 2 rfl
      have c3 := K2.out.cell 3 rfl
      have c4 := K2.out.cell 4 rfl
      have c5 := K2.out.cell 5 rfl
      have c6 := K2.out.cell 6 rfl
      have c7 := K2.out.cell 7 rfl
      have c8 := K2.out.cell 8 rfl
      have e0 := KT.out.cell 0 rfl
      have e1 := KT.out.cell 1 rfl
      have e2 := KT.out.cell 2 rfl
      have e3 := KT.out.cell 3 rfl
      have e4 := KT.out.cell 4 rfl
      go_wp2_with fail
      generalize w1.alloc (.cells #[.int .i64 x, .slice (some ⟨bx, ox, none⟩) n1 p1, .int .i64 (j : Nat), .int .i64 td1, .int .i64 tb1] 53) = v1 at K2 HRG2 Bl2 KT c0 c1 c2 c3 c4 c5 c6 c7 c8 e0 e1 e2 e3 e4 ⊢
      clear hen KT HDM HBK
      replace c0 := cell_regrown c0
      replace c1 := cell_regrown c1
      replace c2 := cell_regrown c2
      replace c3 := cell_regrown c3
      replace c4 := cell_regrown c4
      replace c5 := cell_regrown c5
      replace c6 := cell_regrown c6
      replace c7 := cell_regrown c7
      replace c8 := cell_regrown c8
      replace e0 := cell_regrown e0
      replace e1 := cell_regrown e1
      replace e2 := cell_regrown e2
      replace e3 := cell_regrown e3
      replace e4 := cell_regrown e4
      have q0 := Lib.hid (fun dd os => Calls.regrown_of (HDG.out (grow (redrawn v1 dd) os) (Bl2.out.trans ((below_regrown v1 dd os).mono Bl2.out.size))))
      have q1 := Lib.hid (fun dd os => Calls.regrown_of (HBG.out (grow (redrawn v1 dd) os) (Bl2.out.trans ((below_regrown v1 dd os).mono Bl2.out.size))))
      clear HDG HBG
      refine wp_region_quiet_below mixed (by kernel_rfl) ?_
      repeat (go_big_quiet_step (first | with_reducible exact q0.out _ _ | with_reducible exact q1.out _ _))
      refine wpQuiet_nil ?_
      intro _ hw'
      obtain ⟨⟨dq, osq⟩, rfl⟩ := hw'
      have K3 := Lib.hid (K2.out.below (below_regrown v1 dq osq))
      have HRG3 := Lib.hid (ranges_below HRG2.out (below_regrown v1 dq osq))
      have Bl3 := Lib.hid (Bl2.out.trans ((below_regrown v1 dq osq).mono Bl2.out.size))
      clear c0 c1 c2 c3 c4 c5 c6 c7 c8 e0 e1 e2 e3 e4 q0 q1 hwa hwb hwc HRG2 K2 Bl2
      generalize grow (redrawn v1 dq) osq = u9 at HRG3 K3 Bl3 ⊢
      by_cases hf : D + Q + sk ≤ td1 - nw
      · have HX := HPN hf
        clear HPN HVN
        go_wp2_with fail
        go_roundw
        case rel => exact ⟨_, cnt1, HX, HRG3, HLF2, K3, Bl3⟩
        case measure => rw [HRG3.out.left_eq, HLE.out]; exact HCN.out
      · obtain rfl : V = false := (HVN (by omega)).out
        clear HPN HVN
        go_wp2_with fail
        go_ret
        exact ⟨rfl, Bl3.out⟩
set_option maxRecDepth 100000 in
set_option maxHeartbeats 1000000 in
theorem fitsI (nw sk ag : Int) (A : Option Addr) (n p : Nat) (ss : List Tsk) (rn lf tu nx : Int) (W : World) (hrc : RdC W A n ss) (hn : n + bigTsk ss ≤ 1048576) (hw : (Lit.int .i64 rn).wf = true) :
    Calls Try.prog 34 #[.agg #[.int .i64 nw, .int .i64 sk, .int .i64 ag, .slice A n p, .int .i64 rn, .int .i64 lf, .int .i64 tu, .int .i64 nx]] W fun e W' => e = .returned (.bool (fitW nw sk ag ss rn lf tu nx)) ∧ Below W.heap.size W W' := by
  have hr := hrc.1
  have b0 := (Below.refl _ W).alloc (Nat.le_refl _) (.cells #[.int .i64 nw, .int .i64 sk, .int .i64 ag, .slice A n p, .int .i64 rn, .int .i64 lf, .int .i64 tu, .int .i64 nx] 29)
  have HRO := Lib.hid (rosterI nw sk ag A n p ss rn lf tu nx _ (hr.of_below b0) hn hw)
  have HCAP := Lib.hid (hrc.of_below b0).2
  have Bl := Lib.hid b0
  have HW := Lib.hid hw
  clear hr hn b0 hw hrc
  obtain ⟨R, hR⟩ : ∃ R, schB nw sk ag ss rn lf tu nx = R := ⟨_, rfl⟩
  obtain ⟨V, hV⟩ : ∃ V, V = fitW nw sk ag ss rn lf tu nx := ⟨_, rfl⟩
  rw [← hV]
  have HR := Lib.hid hR
  have HV := Lib.hid hV
  rw [hR] at HRO
  clear hR hV
  go_enter Try.func34, Try.ntmps34
  go_wp2_with fail
  refine HRO.out.mono ?_
  intro e w1 hc
  rcases R with _ | _
  · obtain ⟨rfl, bb⟩ := hc
    obtain rfl : V = false := by rw [HV.out, fitW, HR.out]; rfl
    have Bl2 := Lib.hid (Bl.out.trans (bb.mono Bl.out.size))
    clear bb HRO
    go_wp2_with fail
    go_ret
    exact ⟨rfl, Bl2.out.alloc Bl2.out.size _⟩
  · obtain ⟨b, es, rfl, _, hm, he, hce, bb⟩ := hc
    have ba := (Below.refl _ w1).alloc (Nat.le_refl _) (.cells #[.int .i64 nw, .int .i64 sk, .int .i64 ag, .slice none 0 0, .int .i64 rn, .int .i64 lf, .int .i64 tu, .int .i64 nx, .map (some b)] 58)
    have Bl2 := Lib.hid ((Bl.out.trans (bb.mono Bl.out.size)).trans (ba.mono (Nat.le_trans Bl.out.size bb.size)))
    have hVb : V = fitV nw sk ss rn lf := by rw [HV.out, fitW, HR.out]; rfl
    have HC := rosterFitsI nw sk ag rn lf tu nx b _ ss es _ (ownsMap_below hm ba) (he.of_below ba) (hce HCAP.out) HR.out HW.out
    rw [← hVb] at HC
    have HC := Lib.hid HC
    clear bb ba hm he hVb HRO hce
    go_wp2_with fail
    refine HC.out.mono ?_
    rintro e w2 ⟨rfl, bb⟩
    have Bl3 := Lib.hid (Bl2.out.trans (bb.mono Bl2.out.size))
    clear bb HC
    go_wp2_with fail
    go_ret
    exact ⟨rfl, Bl3.out⟩
end Qt
end Go.Proofs.Ytihnpfcjnfkfjaa
