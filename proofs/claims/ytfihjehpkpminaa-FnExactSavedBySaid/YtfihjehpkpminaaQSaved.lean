/- What SavedBy (of the program and of its model) gives when it is called. Conditions: the slices read as the lists that are named. -/
import Derived.Test.YtfihjehpkpminaaQBatchC
namespace Go.Proofs.Ytfihjehpkpminaa
open Go.RowKit Go.Sort
set_option linter.unusedSimpArgs false
set_option linter.unusedVariables false
namespace Qt
def svB (s : Sh) (ls : List Lay) (xs : List Int) : Bool := xs.all fun x => decide (0 ≤ batchM s ls x)
def svS (s : Sh) (ls : List Lay) (xs : List Int) : Int := xs.foldl (fun a x => a + tcM s ls * x - batchM s ls x) 0
def savedM (s : Sh) (ls : List Lay) (xs : List Int) : Int := if decide (xs.length ≤ 300) && svB s ls xs then svS s ls xs else -1
theorem savedM_a {s : Sh} {ls : List Lay} {xs : List Int} (h : ¬ xs.length ≤ 300) : savedM s ls xs = -1 := by simp [savedM, h]
theorem savedM_b {s : Sh} {ls : List Lay} {xs : List Int} {k : Nat} (hk : k < xs.length) (h : batchM s ls (xs[k]?.getD 0) < 0) : savedM s ls xs = -1 := by
  have : svB s ls xs = false := by
    unfold svB
    rw [List.all_eq_false]
    refine ⟨xs[k], List.getElem_mem hk, ?_⟩
    rw [List.getElem?_eq_getElem hk, Option.getD_some] at h
    simp; omega
  simp [savedM, this]
theorem savedM_c {s : Sh} {ls : List Lay} {xs : List Int} (h : xs.length ≤ 300) (h2 : ∀ j, j < xs.length → 0 ≤ batchM s ls (xs[j]?.getD 0)) : savedM s ls xs = svS s ls xs := by
  have : svB s ls xs = true := by
    unfold svB
    rw [List.all_eq_true]
    intro x hx
    obtain ⟨j, hj, rfl⟩ := List.mem_iff_getElem.1 hx
    have := h2 j hj
    rw [List.getElem?_eq_getElem hj, Option.getD_some] at this
    simpa using this
  simp [savedM, this, h]
theorem svS_snoc (s : Sh) (ls : List Lay) (xs : List Int) (k : Nat) (hk : k < xs.length) : svS s ls (xs.take (k + 1)) = svS s ls (xs.take k) + tcM s ls * (xs[k]?.getD 0) - batchM s ls (xs[k]?.getD 0) := by
  unfold svS
  rw [List.take_succ_eq_append_getElem hk, List.foldl_append, List.getElem?_eq_getElem hk]; rfl
/-- One size that is right: its product and its cost. -/
theorem batch_pos {s : Sh} {ls : List Lay} {x : Int} (h : 0 ≤ batchM s ls x) : 0 ≤ tcM s ls * x ∧ tcM s ls * x ≤ 14400000 ∧ batchM s ls x ≤ 8100000 := by
  have ht := tcM_bd s ls
  rcases ho : okM s ls with _ | _
  · rw [batchM_a ho] at h; omega
  rcases hi : inB 0 8 x with _ | _
  · rw [batchM_b hi] at h; omega
  have hi2 := inB_iff.1 hi
  have hp : 0 ≤ tcM s ls * x ∧ tcM s ls * x ≤ 1800000 * 8 := ⟨Int.mul_nonneg (by omega) (by omega), Int.mul_le_mul (by omega) (by omega) (by omega) (by omega)⟩
  refine ⟨hp.1, by omega, ?_⟩
  by_cases hx : x = 0
  · subst hx; rw [batchM_c ho]; omega
  · rw [batchM_d ho hi hx]
    have := batch_mul (x := x) (t := tcM s ls) (by omega) ht
    omega
theorem svS_bd (s : Sh) (ls : List Lay) (xs : List Int) (h2 : ∀ j, j < xs.length → 0 ≤ batchM s ls (xs[j]?.getD 0)) : ∀ k : Nat, k ≤ xs.length → -8100000 * (k : Int) ≤ svS s ls (xs.take k) ∧ svS s ls (xs.take k) ≤ 14400000 * (k : Int) := by
  intro k
  induction k with
  | zero => intro _; simp [svS]
  | succ k ih =>
    intro hk
    have h1 := ih (by omega)
    have h3 := batch_pos (h2 k (by omega))
    have h4 := h2 k (by omega)
    rw [svS_snoc s ls xs k (by omega)]
    omega
theorem sv_take (xs : List Int) (k : Nat) {s : Sh} {ls : List Lay} (h : ∀ j, j < k → 0 ≤ batchM s ls (xs[j]?.getD 0)) (hk : k ≤ xs.length) (hl : xs.length ≤ 300) : -2430000000 ≤ svS s ls (xs.take k) ∧ svS s ls (xs.take k) ≤ 4320000000 := by
  have := svS_bd s ls (xs.take k) (fun j hj => by
    rw [List.length_take] at hj
    rw [List.getElem?_take_of_lt (by omega)]
    exact h j (by omega)) k (by rw [List.length_take]; omega)
  rw [List.take_take, Nat.min_self] at this
  omega
set_option maxHeartbeats 2000000 in
set_option maxRecDepth 10000 in
theorem savedI (h w c : Int) (A : Option Addr) (n p : Nat) (ls : List Lay) (B : Option Addr) (m q : Nat) (xs : List Int) (W : World) (hr : RdL W A n ls) (hn : n + big ls ≤ 1048576) (hs : RdI W B m xs) (hm : m ≤ 1048576) :
    Calls Try.prog 48 #[.agg #[.int .i64 h, .int .i64 w, .int .i64 c, .slice A n p], .slice B m q] W fun e W' => e = .returned (.int .i64 (savedM (h, w, c) ls xs)) ∧ Below W.heap.size W W' := by
  obtain ⟨R, hR⟩ : ∃ R, R = savedM (h, w, c) ls xs := ⟨_, rfl⟩
  rw [← hR]
  have HR := Lib.hid hR
  have KM := Lib.hid (Bk.new W 50 #[.int .i64 h, .int .i64 w, .int .i64 c, .slice A n p])
  have bl := (Below.refl _ W).alloc (Nat.le_refl _) (.cells #[.int .i64 h, .int .i64 w, .int .i64 c, .slice A n p] 50)
  have RA := Lib.hid (hr.of_below bl)
  have RS := Lib.hid (hs.of_below bl)
  have HLN := Lib.hid hs.1
  have Bl := Lib.hid bl
  have HN := Lib.hid hn
  obtain ⟨k0, k1, k2, k3⟩ := KM.out.cell4
  have hm1 : (m : Int) ≤ 1048576 := by omega
  clear hR hr bl hn hs
  go_enter Try.func48, Try.ntmps48
  by_cases hl : m ≤ 300
  case neg =>
    obtain rfl : R = -1 := by rw [HR.out]; exact savedM_a (by rw [HLN.out]; exact hl)
    have hl2 : (300 : Int) < (m : Int) := by omega
    clear hl
    go_wp2_with fail
    go_ret
    exact ⟨rfl, Bl.out⟩
  have hl2 : (m : Int) ≤ 300 := by omega
  go_wp2_with fail
  clear k0 k1 k2 k3
  generalize W.alloc (.cells #[.int .i64 h, .int .i64 w, .int .i64 c, .slice A n p] 50) = v at KM RA RS Bl ⊢
  generalize W.heap.size = gM at KM ⊢
  have HT : Hid (∀ w0, RdL w0 A n ls → Calls Try.prog 80 #[.agg #[.int .i64 h, .int .i64 w, .int .i64 c, .slice A n p]] w0 fun e W' => e = .returned (.int .i64 (tcM (h, w, c) ls)) ∧ Below w0.heap.size w0 W') := Lib.hid (fun w0 hr => totalI h w c A n p ls w0 hr HN.out)
  have htc := tcM_bd (h, w, c) ls
  refine (HT.out _ RA.out).mono ?_
  rintro e w1 ⟨rfl, bb⟩
  replace RA := Lib.hid (RA.out.of_below bb)
  replace RS := Lib.hid (RS.out.of_below bb)
  replace KM := Lib.hid (KM.out.below bb)
  replace Bl := Lib.hid (Bl.out.trans (bb.mono Bl.out.size))
  clear bb HT
  obtain ⟨T, hT⟩ : ∃ T, T = tcM (h, w, c) ls := ⟨_, rfl⟩
  rw [← hT] at htc ⊢
  have HTT := Lib.hid hT
  clear hT
  go_wp2_with fail
  have HKM := Lib.hid KM.out
  go_loopw [6, 17] (fun sv i wr => ∃ k : Nat, k ≤ m ∧ i = .int .i64 k ∧ sv = .int .i64 (svS (h, w, c) ls (xs.take k)) ∧ Hid (∀ j, j < k → 0 ≤ batchM (h, w, c) ls (xs[j]?.getD 0)) ∧ Hid (Below w1.heap.size w1 wr)) (fun _ i _ => m - (intOf i).toNat)
  case atStart => exact ⟨0, Nat.zero_le _, rfl, rfl, Lib.hid (fun j hj => absurd hj (Nat.not_lt_zero _)), Lib.hid (Below.refl _ _)⟩
  case round =>
    obtain ⟨k, hk, rfl, rfl, HP, HW⟩ := hrel
    have hsv := sv_take xs k HP.out (by rw [HLN.out]; exact hk) (by rw [HLN.out]; exact hl)
    by_cases hlt : k < m
    · obtain ⟨b', off, rfl, hbl, hcell⟩ := RS.out.2 (by omega)
      have hc1 := (HW.out.cell (p := ⟨b', off + k, none⟩) hbl).trans (hcell k hlt)
      have hx1 : xs.getD k 0 = xs[k]?.getD 0 := List.getD_eq_getElem?_getD ..
      rw [hx1] at hc1
      have HKL : Hid (k < xs.length) := Lib.hid (by rw [HLN.out]; exact hlt)
      have HS1 := Lib.hid (svS_snoc (h, w, c) ls xs k HKL.out)
      obtain ⟨x, hx⟩ : ∃ x, x = xs[k]?.getD 0 := ⟨_, rfl⟩
      rw [← hx] at hc1 HS1
      have HX := Lib.hid hx
      have hi1 : (k : Int) < (m : Int) := by omega
      obtain ⟨k0, k1, k2, k3⟩ := (KM.out.below HW.out).cell4
      clear hcell hbl hx1 hx
      go_wp2_with fail
      clear hc1 k0 k1 k2 k3
      refine (batchI h w c A n p ls x _ (RA.out.of_below HW.out) HN.out).mono ?_
      rintro e w2 ⟨rfl, bb⟩
      replace HW := Lib.hid (HW.out.trans (bb.mono HW.out.size))
      clear bb
      rcases Int.lt_or_le (batchM (h, w, c) ls x) 0 with hneg | hpos
      · obtain rfl : R = -1 := by rw [HR.out]; exact savedM_b HKL.out (by rw [← HX.out]; exact hneg)
        generalize batchM (h, w, c) ls x = bx at *
        clear hsv
        go_wp2_with fail
        go_ret
        exact ⟨rfl, Bl.out.trans (HW.out.mono Bl.out.size)⟩
      obtain ⟨t1, t2, t3⟩ := batch_pos hpos
      have HP2 : Hid (∀ j, j < k + 1 → 0 ≤ batchM (h, w, c) ls (xs[j]?.getD 0)) := Lib.hid (fun j hj => by
        rcases (by omega : j < k ∨ j = k) with h1 | rfl
        · exact HP.out j h1
        · rw [← HX.out]; exact hpos)
      have hS1 := HS1.out
      rw [← HTT.out] at t1 t2 hS1
      have HS1 := Lib.hid hS1
      clear hS1
      generalize hM : T * x = M at *
      generalize hQ : svS (h, w, c) ls (xs.take k) = Q at *
      generalize hbx : batchM (h, w, c) ls x = bx at *
      clear hQ hbx
      go_wp2_with fail
      go_roundw
      case rel =>
        exact ⟨k + 1, by omega, by go_num, by rw [HS1.out]; congr 1; omega, HP2, HW⟩
      case measure => simp [intOf]; omega
    · obtain rfl : k = m := by omega
      have hR := savedM_c (s := (h, w, c)) (ls := ls) (xs := xs) (by rw [HLN.out]; exact hl) (fun j hj => HP.out j (by rw [HLN.out] at hj; exact hj))
      have ht : xs.take k = xs := List.take_of_length_le (by rw [HLN.out]; exact Nat.le_refl _)
      rw [ht] at hsv ⊢
      have HRR := Lib.hid (HR.out.trans hR)
      clear ht hR
      go_wp2_with fail
      go_ret
      exact ⟨ret_int HRR.out.symm, Bl.out.trans (HW.out.mono Bl.out.size)⟩
set_option maxHeartbeats 2000000 in
set_option maxRecDepth 10000 in
theorem savedS (h w c : Int) (A : Option Addr) (n p : Nat) (ls : List Lay) (B : Option Addr) (m q : Nat) (xs : List Int) (W : World) (hr : RdL W A n ls) (hn : n + big ls ≤ 1048576) (hs : RdI W B m xs) (hm : m ≤ 1048576) :
    Calls Try.prog 47 #[.agg #[.int .i64 h, .int .i64 w, .int .i64 c, .slice A n p], .slice B m q] W fun e W' => e = .returned (.int .i64 (savedM (h, w, c) ls xs)) ∧ Below W.heap.size W W' := by
  obtain ⟨R, hR⟩ : ∃ R, R = savedM (h, w, c) ls xs := ⟨_, rfl⟩
  rw [← hR]
  have HR := Lib.hid hR
  have KM := Lib.hid (Bk.new W 50 #[.int .i64 h, .int .i64 w, .int .i64 c, .slice A n p])
  have bl := (Below.refl _ W).alloc (Nat.le_refl _) (.cells #[.int .i64 h, .int .i64 w, .int .i64 c, .slice A n p] 50)
  have RA := Lib.hid (hr.of_below bl)
  have RS := Lib.hid (hs.of_below bl)
  have HLN := Lib.hid hs.1
  have Bl := Lib.hid bl
  have HN := Lib.hid hn
  obtain ⟨k0, k1, k2, k3⟩ := KM.out.cell4
  have hm1 : (m : Int) ≤ 1048576 := by omega
  clear hR hr bl hn hs
  go_enter Try.func47, Try.ntmps47
  by_cases hl : m ≤ 300
  case neg =>
    obtain rfl : R = -1 := by rw [HR.out]; exact savedM_a (by rw [HLN.out]; exact hl)
    have hl2 : (300 : Int) < (m : Int) := by omega
    clear hl
    go_wp2_with fail
    go_ret
    exact ⟨rfl, Bl.out⟩
  have hl2 : (m : Int) ≤ 300 := by omega
  go_wp2_with fail
  clear k0 k1 k2 k3
  generalize W.alloc (.cells #[.int .i64 h, .int .i64 w, .int .i64 c, .slice A n p] 50) = v at KM RA RS Bl ⊢
  generalize W.heap.size = gM at KM ⊢
  have HKM := Lib.hid KM.out
  go_loopw [5, 6] (fun sv i wr => ∃ k : Nat, k ≤ m ∧ i = .int .i64 k ∧ sv = .int .i64 (svS (h, w, c) ls (xs.take k)) ∧ Hid (∀ j, j < k → 0 ≤ batchM (h, w, c) ls (xs[j]?.getD 0)) ∧ Hid (Below v.heap.size v wr)) (fun _ i _ => m - (intOf i).toNat)
  case atStart => exact ⟨0, Nat.zero_le _, rfl, rfl, Lib.hid (fun j hj => absurd hj (Nat.not_lt_zero _)), Lib.hid (Below.refl _ _)⟩
  case round =>
    obtain ⟨k, hk, rfl, rfl, HP, HW⟩ := hrel
    have hsv := sv_take xs k HP.out (by rw [HLN.out]; exact hk) (by rw [HLN.out]; exact hl)
    by_cases hlt : k < m
    · obtain ⟨b', off, rfl, hbl, hcell⟩ := RS.out.2 (by omega)
      have hc1 := (HW.out.cell (p := ⟨b', off + k, none⟩) hbl).trans (hcell k hlt)
      have hx1 : xs.getD k 0 = xs[k]?.getD 0 := List.getD_eq_getElem?_getD ..
      rw [hx1] at hc1
      have HKL : Hid (k < xs.length) := Lib.hid (by rw [HLN.out]; exact hlt)
      have HS1 := Lib.hid (svS_snoc (h, w, c) ls xs k HKL.out)
      obtain ⟨x, hx⟩ : ∃ x, x = xs[k]?.getD 0 := ⟨_, rfl⟩
      rw [← hx] at hc1 HS1
      have HX := Lib.hid hx
      have hi1 : (k : Int) < (m : Int) := by omega
      obtain ⟨k0, k1, k2, k3⟩ := (KM.out.below HW.out).cell4
      clear hcell hbl hx1 hx
      have HB : Hid (∀ w0, RdL w0 A n ls → Calls Try.prog 41 #[.agg #[.int .i64 h, .int .i64 w, .int .i64 c, .slice A n p], .int .i64 x] w0 fun e W' => e = .returned (.int .i64 (batchM (h, w, c) ls x)) ∧ Below w0.heap.size w0 W') := Lib.hid (fun w0 hr => batchS h w c A n p ls x w0 hr HN.out)
      have HT : Hid (∀ w0, RdL w0 A n ls → Calls Try.prog 76 #[.agg #[.int .i64 h, .int .i64 w, .int .i64 c, .slice A n p]] w0 fun e W' => e = .returned (.int .i64 (tcM (h, w, c) ls)) ∧ Below w0.heap.size w0 W') := Lib.hid (fun w0 hr => totalS h w c A n p ls w0 hr HN.out)
      have RW := Lib.hid (RA.out.of_below HW.out)
      have KW := Lib.hid (KM.out.below HW.out)
      have hcb := hc1
      go_wp2_with fail
      replace k0 := cell_regrown k0
      replace k1 := cell_regrown k1
      replace k2 := cell_regrown k2
      replace k3 := cell_regrown k3
      replace hc1 := cell_regrown hc1
      have p0 := Lib.hid (fun dd os => Calls.regrown_of (HB.out (grow (redrawn wr dd) os) (RW.out.of_below (below_regrown wr dd os))))
      refine wp_region_quiet_below mixed (by kernel_rfl) ?_
      repeat (go_big_quiet_step (with_reducible exact p0.out _ _))
      refine wpQuiet_nil ?_
      intro _ hw'
      obtain ⟨⟨dq, osq⟩, rfl⟩ := hw'
      have bq := below_regrown wr dq osq
      replace HW := Lib.hid (HW.out.trans (bq.mono HW.out.size))
      have RV := Lib.hid (RW.out.of_below bq)
      have KV := Lib.hid (KW.out.below bq)
      have hc2 := keep bq hcb
      clear k0 k1 k2 k3 hc1 p0 bq hcb RW KW HB
      generalize grow (redrawn wr dq) osq = u9 at HW RV KV hc2 ⊢
      rcases Int.lt_or_le (batchM (h, w, c) ls x) 0 with hneg | hpos
      · obtain rfl : R = -1 := by rw [HR.out]; exact savedM_b HKL.out (by rw [← HX.out]; exact hneg)
        generalize batchM (h, w, c) ls x = bx at *
        clear hsv
        go_wp2_with fail
        go_ret
        exact ⟨rfl, Bl.out.trans (HW.out.mono Bl.out.size)⟩
      obtain ⟨t1, t2, t3⟩ := batch_pos hpos
      have HP2 : Hid (∀ j, j < k + 1 → 0 ≤ batchM (h, w, c) ls (xs[j]?.getD 0)) := Lib.hid (fun j hj => by
        rcases (by omega : j < k ∨ j = k) with h1 | rfl
        · exact HP.out j h1
        · rw [← HX.out]; exact hpos)
      obtain ⟨k0, k1, k2, k3⟩ := KV.out.cell4
      generalize hT : tcM (h, w, c) ls = T at *
      generalize hM : T * x = M at *
      generalize hQ : svS (h, w, c) ls (xs.take k) = Q at *
      generalize hbx : batchM (h, w, c) ls x = bx at *
      clear hT hQ hbx
      have q3 : IntKind.i64.wrap (T * x) = M := by rw [hM]; exact IntWalk.i64_in _ (by omega)
      have q4 : IntKind.i64.wrap (Q + M) = Q + M := IntWalk.i64_in _ (by omega)
      have q5 : IntKind.i64.wrap (Q + M - bx) = Q + M - bx := IntWalk.i64_in _ (by omega)
      clear hM
      go_wp2_with fail
      replace k0 := cell_regrown k0
      replace k1 := cell_regrown k1
      replace k2 := cell_regrown k2
      replace k3 := cell_regrown k3
      replace hc2 := cell_regrown hc2
      have p0 := Lib.hid (fun dd os => Calls.regrown_of (HT.out (grow (redrawn u9 dd) os) (RV.out.of_below (below_regrown u9 dd os))))
      refine wp_region_quiet_below mixed (by kernel_rfl) ?_
      repeat (go_big_quiet_step (with_reducible exact p0.out _ _))
      refine wpQuiet_nil ?_
      intro _ hw'
      obtain ⟨⟨dq, osq⟩, rfl⟩ := hw'
      replace HW := Lib.hid (HW.out.trans ((below_regrown u9 dq osq).mono HW.out.size))
      clear k0 k1 k2 k3 hc2 p0 q3 q4 q5 RV KV HT
      generalize grow (redrawn u9 dq) osq = u8 at HW ⊢
      go_wp2_with fail
      go_roundw
      case rel =>
        exact ⟨k + 1, by omega, by go_num, by rw [HS1.out], HP2, HW⟩
      case measure => simp [intOf]; omega
    · obtain rfl : k = m := by omega
      have hR := savedM_c (s := (h, w, c)) (ls := ls) (xs := xs) (by rw [HLN.out]; exact hl) (fun j hj => HP.out j (by rw [HLN.out] at hj; exact hj))
      have ht : xs.take k = xs := List.take_of_length_le (by rw [HLN.out]; exact Nat.le_refl _)
      rw [ht] at hsv ⊢
      have HRR := Lib.hid (HR.out.trans hR)
      clear ht hR
      go_wp2_with fail
      go_ret
      exact ⟨ret_int HRR.out.symm, Bl.out.trans (HW.out.mono Bl.out.size)⟩
end Qt
end Go.Proofs.Ytfihjehpkpminaa
