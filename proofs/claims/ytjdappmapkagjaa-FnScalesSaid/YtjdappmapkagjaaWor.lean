/- What WorstError (of the program and of its model) gives when it is called. Conditions: the slice reads as the list that is named. -/
import Derived.Test.YtjdappmapkagjaaCal
namespace Go.Proofs.Ytjdappmapkagjaa
open Go.RowKit Go.Sort
set_option linter.unusedSimpArgs false
set_option linter.unusedVariables false
namespace Qt
theorem sizeTI (x : Int) (hx : -3000000000 ≤ x ∧ x ≤ 3000000000) (w : World) : Calls Try.prog 94 #[.int .i64 x] w fun e w' => e = .returned (.int .i64 (max x (-x))) ∧ w = w' := by
  have hmax := fun ts ty w0 => run_max2 (P := Try.prog) ts ty x (-x) w0
  go_enter Try.func94, Try.ntmps94
  go_wp2_with fail
  go_ret
  exact ⟨rfl, rfl⟩
set_option maxHeartbeats 1000000 in
theorem errI (x n z : Int) (hn : 1 ≤ n ∧ n ≤ 1000000000) (hz : -128 ≤ z ∧ z ≤ 127) (hx : realB x = true) (W : World) :
    Calls Try.prog 63 #[.int .i64 x, .agg #[.int .i64 n, .int .i64 z]] W fun e W' => e = .returned (.int .i64 (errR x n z)) ∧ Below W.heap.size W W' := by
  obtain ⟨c0, c1⟩ := new2 W 27 (.int .i64 n) (.int .i64 z)
  have bl := (Below.refl _ W).alloc (Nat.le_refl _) (.cells #[.int .i64 n, .int .i64 z] 27)
  have Bl := Lib.hid bl
  clear bl
  have hb := backR_bd (inSc x n z) n z
  have hx2 := inB_iff.1 hx
  have HE : errR x n z = max (x - backR (inSc x n z) n z) (-(x - backR (inSc x n z) n z)) := rfl
  rw [HE]
  clear HE
  have HI : Hid (∀ w, Calls Try.prog 66 #[.int .i64 x, .agg #[.int .i64 n, .int .i64 z]] w fun e W' => e = .returned (.int .i8 (inSc x n z)) ∧ Below w.heap.size w W') := Lib.hid (fun w => inI x n z hn hz hx w)
  have HB : Hid (∀ w, Calls Try.prog 67 #[.agg #[.int .i64 n, .int .i64 z], .int .i8 (inSc x n z)] w fun e W' => e = .returned (.int .i64 (backR (inSc x n z) n z)) ∧ Below w.heap.size w W') := Lib.hid (fun w => backI n z (inSc x n z) hn hz (sat8_bd _) w)
  generalize backR (inSc x n z) n z = b at *
  generalize inSc x n z = q at *
  clear hx
  go_enter Try.func63, Try.ntmps63
  go_wp2_with fail
  generalize W.alloc (.cells #[.int .i64 n, .int .i64 z] 27) = v at c0 c1 Bl ⊢
  have hw : IntKind.i64.wrap (x - b) = x - b := IntWalk.i64_in _ (by omega)
  have d0 := cell_regrown c0
  have d1 := cell_regrown c1
  have p0 := Lib.hid (fun dd os => Calls.regrown_of (HI.out (grow (redrawn v dd) os)))
  have p1 := Lib.hid (fun dd os => Calls.regrown_of (HB.out (grow (redrawn v dd) os)))
  have p2 := Lib.hid (fun dd os => Calls.regrown_of (below_of_drewN0 (sizeTI (x - b) (by omega) (grow (redrawn v dd) os))))
  clear HI HB
  refine wp_region_quiet_below mixed (by kernel_rfl) ?_
  repeat (go_big_quiet_step (first | with_reducible exact p0.out _ _ | with_reducible exact p1.out _ _ | with_reducible exact p2.out _ _))
  refine wpQuiet_nil ?_
  intro _ hw'
  obtain ⟨⟨dq, osq⟩, rfl⟩ := hw'
  have HB2 := Lib.hid (Bl.out.trans ((below_regrown v dq osq).mono Bl.out.size))
  clear d0 d1 p0 p1 p2 c0 c1
  generalize grow (redrawn v dq) osq = u9 at HB2 ⊢
  go_wp2_with fail
  go_ret
  exact ⟨rfl, HB2.out⟩
theorem worstA_a {xs : List Int} {n z : Int} (h : rngB xs = false) : worstA xs n z = -1 := by simp [worstA, h]
theorem worstA_b {xs : List Int} {n z : Int} (h : scB n z = false) : worstA xs n z = -1 := by simp [worstA, h]
theorem worstA_c {xs : List Int} {n z : Int} (h : rngB xs = true) (h2 : scB n z = true) : worstA xs n z = worstR xs n z := by simp [worstA, h, h2]
theorem real_at {xs : List Int} (h : rngB xs = true) {j : Nat} (hj : j < xs.length) : realB (xs[j]?.getD 0) = true := by
  rw [List.getElem?_eq_getElem hj, Option.getD_some]
  exact inB_iff.2 (allR_mem (rngB_yes h).2 _ (List.getElem_mem hj))
theorem worst_take {xs : List Int} (h : rngB xs = true) (k : Nat) (n z : Int) : 0 ≤ worstR (xs.take k) n z ∧ worstR (xs.take k) n z ≤ 2000000000 :=
  worstR_bd _ n z (fun x hx => inB_iff.2 (allR_mem (rngB_yes h).2 x (List.mem_of_mem_take hx)))
set_option maxHeartbeats 1000000 in
theorem worstI (A : Option Addr) (m p : Nat) (xs : List Int) (n z : Int) (W : World) (hr : RdI W A m xs) (hm : m ≤ 1048576) :
    Calls Try.prog 20 #[.slice A m p, .agg #[.int .i64 n, .int .i64 z]] W fun e W' => e = .returned (.int .i64 (worstA xs n z)) ∧ Below W.heap.size W W' := by
  obtain ⟨R, hR⟩ : ∃ R, R = worstA xs n z := ⟨_, rfl⟩
  rw [← hR]
  have HR := Lib.hid hR
  have kS := Bk.new W 27 #[.int .i64 n, .int .i64 z]
  have bl := (Below.refl _ W).alloc (Nat.le_refl _) (.cells #[.int .i64 n, .int .i64 z] 27)
  have RA := Lib.hid (hr.of_below bl)
  have Bl := Lib.hid bl
  have HM := Lib.hid hm
  have HLN := Lib.hid hr.1
  obtain ⟨c0, c1⟩ := kS.cell2
  clear hR hr bl hm kS
  go_enter Try.func20, Try.ntmps20
  go_wp2_with fail
  generalize W.alloc (.cells #[.int .i64 n, .int .i64 z] 27) = v at c0 c1 RA Bl ⊢
  generalize W.heap.size = S at c0 c1 ⊢
  refine (endsI A m p xs v RA.out HM.out).mono ?_
  rintro e w1 ⟨rfl, b1⟩
  replace RA := Lib.hid (RA.out.of_below b1)
  replace Bl := Lib.hid (Bl.out.trans (b1.mono Bl.out.size))
  replace c0 := keep b1 c0
  replace c1 := keep b1 c1
  clear b1
  rcases h : rngB xs with _ | _
  · obtain rfl : R = -1 := by rw [HR.out]; exact worstA_a h
    clear h
    go_wp2_with fail
    go_ret
    exact ⟨rfl, Bl.out⟩
  have HH := Lib.hid h
  clear h
  go_wp2_with fail
  rcases h : scB n z with _ | _
  · obtain rfl : R = -1 := by rw [HR.out]; exact worstA_b h
    refine (scaleOkI n z false h _).mono ?_
    clear h
    rintro e w2 ⟨rfl, b2⟩
    replace Bl := Lib.hid (Bl.out.trans (b2.mono Bl.out.size))
    clear b2 c0 c1
    go_wp2_with fail
    go_ret
    exact ⟨rfl, Bl.out⟩
  obtain rfl : R = worstR xs n z := by rw [HR.out]; exact worstA_c HH.out h
  obtain ⟨h1, h2, h3, h4⟩ := scB_iff.1 h
  refine (scaleOkI n z true h _).mono ?_
  clear h HR
  rintro e w2 ⟨rfl, b2⟩
  replace RA := Lib.hid (RA.out.of_below b2)
  replace Bl := Lib.hid (Bl.out.trans (b2.mono Bl.out.size))
  replace c0 := keep b2 c0
  replace c1 := keep b2 c1
  clear b2
  go_wp2_with fail
  have HC0 := Lib.hid c0
  have HC1 := Lib.hid c1
  clear c0 c1
  generalize FlI (rngL xs) = fl
  generalize FlI (rngM xs) = fm
  go_loopw [7, 24] (fun v i wr => ∃ k : Nat, k ≤ m ∧ i = .int .i64 k ∧ v = .int .i64 (worstR (xs.take k) n z) ∧ Hid (Below w2.heap.size w2 wr)) (fun _ i _ => m - (intOf i).toNat)
  case atStart => exact ⟨0, Nat.zero_le _, rfl, rfl, Lib.hid (Below.refl _ _)⟩
  case round =>
    have hm1 : (m : Int) ≤ 1048576 := by have := HM.out; omega
    obtain ⟨k, hk, rfl, rfl, HW⟩ := hrel
    have hwb := worst_take HH.out k n z
    by_cases hlt : k < m
    · obtain ⟨b', off, rfl, hbl, hcell⟩ := RA.out.2 (by omega)
      have hc1 := (HW.out.cell (p := ⟨b', off + k, none⟩) hbl).trans (hcell k hlt)
      have hx1 : xs.getD k 0 = xs[k]?.getD 0 := List.getD_eq_getElem?_getD ..
      rw [hx1] at hc1
      have hkl : k < xs.length := by rw [HLN.out]; exact hlt
      have HS1 := Lib.hid (worstR_snoc xs k hkl n z)
      have hra := real_at HH.out hkl
      generalize xs[k]?.getD 0 = x at hc1 HS1 hra
      have heb := errR_bd (n := n) (z := z) hra
      have c0 := keep HW.out HC0.out
      have c1 := keep HW.out HC1.out
      have HE := Lib.hid (fun w => errI x n z ⟨h1, h2⟩ ⟨h3, h4⟩ hra w)
      generalize errR x n z = er at HS1 heb HE
      generalize worstR (xs.take k) n z = q at hwb HS1 ⊢
      have hmax := fun ts ty w0 => run_max2 (P := Try.prog) ts ty q er w0
      have hi1 : (k : Int) < (m : Int) := by omega
      clear hcell hbl hx1 hkl hra
      go_wp2_with fail
      clear hc1
      refine (HE.out _).mono ?_
      rintro e w3 ⟨rfl, b3⟩
      replace HW := Lib.hid (HW.out.trans (b3.mono HW.out.size))
      clear b3 HE c0 c1
      go_wp2_with fail
      go_roundw
      case rel => exact ⟨k + 1, by omega, by go_num, by rw [HS1.out], HW⟩
      case measure => simp [intOf]; omega
    · obtain rfl : k = m := by omega
      have ht : xs.take k = xs := List.take_of_length_le (by rw [HLN.out]; exact Nat.le_refl _)
      rw [ht] at hwb ⊢
      clear ht
      go_wp2_with fail
      go_ret
      exact ⟨rfl, Bl.out.trans (HW.out.mono Bl.out.size)⟩
set_option maxHeartbeats 1000000 in
theorem worstS (A : Option Addr) (m p : Nat) (xs : List Int) (n z : Int) (W : World) (hr : RdI W A m xs) (hm : m ≤ 1048576) :
    Calls Try.prog 53 #[.slice A m p, .agg #[.int .i64 n, .int .i64 z]] W fun e W' => e = .returned (.int .i64 (worstA xs n z)) ∧ Below W.heap.size W W' := by
  obtain ⟨R, hR⟩ : ∃ R, R = worstA xs n z := ⟨_, rfl⟩
  rw [← hR]
  have HR := Lib.hid hR
  have kS := Bk.new W 27 #[.int .i64 n, .int .i64 z]
  have bl := (Below.refl _ W).alloc (Nat.le_refl _) (.cells #[.int .i64 n, .int .i64 z] 27)
  have RA := Lib.hid (hr.of_below bl)
  have Bl := Lib.hid bl
  have HM := Lib.hid hm
  have HLN := Lib.hid hr.1
  obtain ⟨c0, c1⟩ := kS.cell2
  clear hR hr bl hm kS
  go_enter Try.func53, Try.ntmps53
  go_wp2_with fail
  generalize W.alloc (.cells #[.int .i64 n, .int .i64 z] 27) = v at c0 c1 RA Bl ⊢
  generalize W.heap.size = S at c0 c1 ⊢
  refine (rngSB A m p xs v RA.out HM.out).mono ?_
  rintro e w1 ⟨rfl, b1⟩
  replace RA := Lib.hid (RA.out.of_below b1)
  replace Bl := Lib.hid (Bl.out.trans (b1.mono Bl.out.size))
  replace c0 := keep b1 c0
  replace c1 := keep b1 c1
  clear b1
  rcases h : rngB xs with _ | _
  · obtain rfl : R = -1 := by rw [HR.out]; exact worstA_a h
    clear h
    go_wp2_with fail
    go_ret
    exact ⟨rfl, Bl.out⟩
  have HH := Lib.hid h
  clear h
  go_wp2_with fail
  rcases h : scB n z with _ | _
  · obtain rfl : R = -1 := by rw [HR.out]; exact worstA_b h
    refine (scaleOkS n z false h _).mono ?_
    clear h
    rintro e w2 ⟨rfl, b2⟩
    replace Bl := Lib.hid (Bl.out.trans (b2.mono Bl.out.size))
    clear b2 c0 c1
    go_wp2_with fail
    go_ret
    exact ⟨rfl, Bl.out⟩
  obtain rfl : R = worstR xs n z := by rw [HR.out]; exact worstA_c HH.out h
  obtain ⟨h1, h2, h3, h4⟩ := scB_iff.1 h
  refine (scaleOkS n z true h _).mono ?_
  clear h HR
  rintro e w2 ⟨rfl, b2⟩
  replace RA := Lib.hid (RA.out.of_below b2)
  replace Bl := Lib.hid (Bl.out.trans (b2.mono Bl.out.size))
  replace c0 := keep b2 c0
  replace c1 := keep b2 c1
  clear b2
  go_wp2_with fail
  have HC0 := Lib.hid c0
  have HC1 := Lib.hid c1
  clear c0 c1
  generalize rngL xs = fl
  generalize rngM xs = fm
  go_loopw [8, 9] (fun v i wr => ∃ k : Nat, k ≤ m ∧ i = .int .i64 k ∧ v = .int .i64 (worstR (xs.take k) n z) ∧ Hid (Below w2.heap.size w2 wr)) (fun _ i _ => m - (intOf i).toNat)
  case atStart => exact ⟨0, Nat.zero_le _, rfl, rfl, Lib.hid (Below.refl _ _)⟩
  case round =>
    have hm1 : (m : Int) ≤ 1048576 := by have := HM.out; omega
    obtain ⟨k, hk, rfl, rfl, HW⟩ := hrel
    have hwb := worst_take HH.out k n z
    by_cases hlt : k < m
    · obtain ⟨b', off, rfl, hbl, hcell⟩ := RA.out.2 (by omega)
      have hc1 := (HW.out.cell (p := ⟨b', off + k, none⟩) hbl).trans (hcell k hlt)
      have hx1 : xs.getD k 0 = xs[k]?.getD 0 := List.getD_eq_getElem?_getD ..
      rw [hx1] at hc1
      have hkl : k < xs.length := by rw [HLN.out]; exact hlt
      have HS1 := Lib.hid (worstR_snoc xs k hkl n z)
      have hra := real_at HH.out hkl
      generalize xs[k]?.getD 0 = x at hc1 HS1 hra
      have hx2 := inB_iff.1 hra
      have hqq := sat8_bd (near x n true + z)
      have HT : Hid (∀ w, Calls Try.prog 43 #[.int .i64 x, .agg #[.int .i64 n, .int .i64 z]] w fun e W' => e = .returned (.int .i64 (inSc x n z)) ∧ Below w.heap.size w W') := Lib.hid (fun w => by have h := toInt8S x n z w; rw [toI8_c hra (scB_iff.2 ⟨h1, h2, h3, h4⟩)] at h; exact h)
      have HF : Hid (∀ w, Calls Try.prog 44 #[.int .i64 (inSc x n z), .agg #[.int .i64 n, .int .i64 z]] w fun e W' => e = .returned (.int .i64 (backR (inSc x n z) n z)) ∧ Below w.heap.size w W') := Lib.hid (fun w => by have h := fromInt8S (inSc x n z) n z w; rw [fromI8_b (scB_iff.2 ⟨h1, h2, h3, h4⟩), show sat8 (inSc x n z) = inSc x n z from sat8_id (sat8_bd _)] at h; exact h)
      have hb := backR_bd (inSc x n z) n z
      have HER : Hid (errR x n z = max (x - backR (inSc x n z) n z) (-(x - backR (inSc x n z) n z))) := Lib.hid rfl
      generalize backR (inSc x n z) n z = bk at HF hb HER
      generalize inSc x n z = qi at HT HF
      generalize errR x n z = er at HS1 HER
      generalize worstR (xs.take k) n z = q at hwb HS1 ⊢
      have hi1 : (k : Int) < (m : Int) := by omega
      have hx3 : -3000000000 ≤ x - bk ∧ x - bk ≤ 3000000000 := by omega
      have hw : IntKind.i64.wrap (x - bk) = x - bk := IntWalk.i64_in _ (by omega)
      clear hcell hbl hx1 hkl hra hqq
      go_wp2_with fail
      have c0 := cell_regrown (keep HW.out HC0.out)
      have c1 := cell_regrown (keep HW.out HC1.out)
      have hc2 := cell_regrown hc1
      have p0 := Lib.hid (fun dd os => Calls.regrown_of (HT.out (grow (redrawn wr dd) os)))
      have p1 := Lib.hid (fun dd os => Calls.regrown_of (HF.out (grow (redrawn wr dd) os)))
      clear HT HF hc1
      refine wp_region_quiet_below mixed (by kernel_rfl) ?_
      repeat (go_big_quiet_step (first | with_reducible exact p0.out _ _ | with_reducible exact p1.out _ _))
      refine wpQuiet_nil ?_
      intro _ hw'
      obtain ⟨⟨dq, osq⟩, rfl⟩ := hw'
      replace HW := Lib.hid (HW.out.trans ((below_regrown wr dq osq).mono HW.out.size))
      clear c0 c1 hc2 p0 p1 hw
      generalize grow (redrawn wr dq) osq = u9 at HW ⊢
      by_cases hng : x - bk < 0
      all_goals (
        first
          | (have he : er = -(x - bk) := by have := HER.out; omega)
          | (have he : er = x - bk := by have := HER.out; omega)
        by_cases hgt : q < er)
      all_goals
        subst he
        go_wp2_with fail
        go_roundw
        case rel => exact ⟨k + 1, by omega, by go_num, by rw [HS1.out]; congr 1; omega, HW⟩
        case measure => simp [intOf]; omega
    · obtain rfl : k = m := by omega
      have ht : xs.take k = xs := List.take_of_length_le (by rw [HLN.out]; exact Nat.le_refl _)
      rw [ht] at hwb ⊢
      clear ht
      go_wp2_with fail
      go_ret
      exact ⟨rfl, Bl.out.trans (HW.out.mono Bl.out.size)⟩
end Qt
end Go.Proofs.Ytjdappmapkagjaa
