/- What BatchCost (of the program and of its model) gives when it is called, and its law. Conditions: the slice of layers reads as the list that is named. -/
import Derived.Test.YtfihjehpkpminaaQBaseE
import Derived.Test.YtfihjehpkpminaaQBaseD
import Derived.Test.YtfihjehpkpminaaQSca
namespace Go.Proofs.Ytfihjehpkpminaa
open Go.RowKit Go.Sort
set_option linter.unusedSimpArgs false
set_option linter.unusedVariables false
namespace Qt
def tcM (s : Sh) (ls : List Lay) : Int := tot (costM s ls) (costM s ls).length
def batchM (s : Sh) (ls : List Lay) (x : Int) : Int := if okM s ls && inB 0 8 x then (if x = 0 then 0 else tcM s ls + (x - 1) * (tcM s ls / 2)) else -1
theorem tcM_bd (s : Sh) (ls : List Lay) : 0 ≤ tcM s ls ∧ tcM s ls ≤ 1800000 := by
  have h1 := tot_bd (xs := costM s ls) (fun j x hx => costM_bd hx) (costM s ls).length
  have h2 := costM_len s ls
  unfold tcM; omega
theorem batchM_a {s : Sh} {ls : List Lay} {x : Int} (h : okM s ls = false) : batchM s ls x = -1 := by simp [batchM, h]
theorem batchM_b {s : Sh} {ls : List Lay} {x : Int} (h : inB 0 8 x = false) : batchM s ls x = -1 := by simp [batchM, h]
theorem batchM_c {s : Sh} {ls : List Lay} (h : okM s ls = true) : batchM s ls 0 = 0 := by simp [batchM, h, inB]
theorem batchM_d {s : Sh} {ls : List Lay} {x : Int} (h : okM s ls = true) (h2 : inB 0 8 x = true) (h3 : ¬ x = 0) : batchM s ls x = tcM s ls + (x - 1) * (tcM s ls / 2) := by simp [batchM, h, h2, h3]
theorem batch_mul {x t : Int} (hx : 1 ≤ x ∧ x ≤ 8) (ht : 0 ≤ t ∧ t ≤ 1800000) : 0 ≤ (x - 1) * (t / 2) ∧ (x - 1) * (t / 2) ≤ 7 * 900000 :=
  ⟨Int.mul_nonneg (by omega) (by omega), Int.mul_le_mul (by omega) (by omega) (by omega) (by omega)⟩
set_option maxHeartbeats 1000000 in
set_option maxRecDepth 10000 in
theorem batchS (h w c : Int) (A : Option Addr) (n p : Nat) (ls : List Lay) (x : Int) (W : World) (hr : RdL W A n ls) (hn : n + big ls ≤ 1048576) :
    Calls Try.prog 41 #[.agg #[.int .i64 h, .int .i64 w, .int .i64 c, .slice A n p], .int .i64 x] W fun e W' => e = .returned (.int .i64 (batchM (h, w, c) ls x)) ∧ Below W.heap.size W W' := by
  obtain ⟨R, hR⟩ : ∃ R, R = batchM (h, w, c) ls x := ⟨_, rfl⟩
  rw [← hR]
  have HR := Lib.hid hR
  have KM := Lib.hid (Bk.new W 50 #[.int .i64 h, .int .i64 w, .int .i64 c, .slice A n p])
  have bl := (Below.refl _ W).alloc (Nat.le_refl _) (.cells #[.int .i64 h, .int .i64 w, .int .i64 c, .slice A n p] 50)
  have RA := Lib.hid (hr.of_below bl)
  have Bl := Lib.hid bl
  have HN := Lib.hid hn
  obtain ⟨k0, k1, k2, k3⟩ := KM.out.cell4
  clear hR hr bl hn
  go_enter Try.func41, Try.ntmps41
  go_wp2_with fail
  clear k0 k1 k2 k3
  generalize W.alloc (.cells #[.int .i64 h, .int .i64 w, .int .i64 c, .slice A n p] 50) = v at KM RA Bl ⊢
  generalize W.heap.size = gM at KM ⊢
  refine (modelOkS h w c A n p ls _ RA.out HN.out).mono ?_
  rintro e w1 ⟨rfl, bb⟩
  replace RA := Lib.hid (RA.out.of_below bb)
  replace KM := Lib.hid (KM.out.below bb)
  replace Bl := Lib.hid (Bl.out.trans (bb.mono Bl.out.size))
  clear bb
  rcases ho : okM (h, w, c) ls with _ | _
  · obtain rfl : R = -1 := by rw [HR.out]; exact batchM_a ho
    clear ho
    go_wp2_with fail
    go_ret
    exact ⟨rfl, Bl.out⟩
  have HO := Lib.hid ho
  clear ho
  go_wp2_with fail
  refine (inS 0 8 x _).mono ?_
  rintro e w2 ⟨rfl, rfl⟩
  rcases hi : inB 0 8 x with _ | _
  · obtain rfl : R = -1 := by rw [HR.out]; exact batchM_b hi
    clear hi
    go_wp2_with fail
    go_ret
    exact ⟨rfl, Bl.out⟩
  by_cases hx : x = 0
  · subst hx
    obtain rfl : R = 0 := by rw [HR.out]; exact batchM_c HO.out
    clear hi
    go_wp2_with fail
    go_ret
    exact ⟨rfl, Bl.out⟩
  have HRR := Lib.hid (HR.out.trans (batchM_d HO.out hi hx))
  have hi2 := inB_iff.1 hi
  have hxb : (x == 0) = false := by simpa using hx
  have htc := tcM_bd (h, w, c) ls
  have hmul := batch_mul (x := x) (t := tcM (h, w, c) ls) (by omega) htc
  obtain ⟨k0, k1, k2, k3⟩ := KM.out.cell4
  have HT : Hid (∀ w0, RdL w0 A n ls → Calls Try.prog 76 #[.agg #[.int .i64 h, .int .i64 w, .int .i64 c, .slice A n p]] w0 fun e W' => e = .returned (.int .i64 (tcM (h, w, c) ls)) ∧ Below w0.heap.size w0 W') := Lib.hid (fun w0 hr => totalS h w c A n p ls w0 hr HN.out)
  generalize tcM (h, w, c) ls = T at *
  generalize hM : (x - 1) * (T / 2) = M at *
  go_wp2_with fail
  replace k0 := cell_regrown k0
  replace k1 := cell_regrown k1
  replace k2 := cell_regrown k2
  replace k3 := cell_regrown k3
  have p0 := Lib.hid (fun dd os => Calls.regrown_of (HT.out (grow (redrawn w1 dd) os) (RA.out.of_below (below_regrown w1 dd os))))
  have q1 : IntKind.i64.wrap (x - 1) = x - 1 := IntWalk.i64_in _ (by omega)
  have q2 : IntKind.i64.wrap (T.tdiv 2) = T / 2 := IntWalk.i64_quo _ _ (by omega)
  have q3 : IntKind.i64.wrap ((x - 1) * (T / 2)) = M := by rw [hM]; exact IntWalk.i64_in _ (by omega)
  have q4 : IntKind.i64.wrap (T + M) = T + M := IntWalk.i64_in _ (by omega)
  clear HT hM hx hi
  refine wp_region_quiet_below mixed (by kernel_rfl) ?_
  repeat (go_big_quiet_step (with_reducible exact p0.out _ _))
  refine wpQuiet_nil ?_
  intro _ hw'
  obtain ⟨⟨dq, osq⟩, rfl⟩ := hw'
  replace Bl := Lib.hid (Bl.out.trans ((below_regrown w1 dq osq).mono Bl.out.size))
  clear k0 k1 k2 k3 p0 q1 q2 q3 q4
  generalize grow (redrawn w1 dq) osq = u9 at Bl ⊢
  go_wp2_with fail
  go_ret
  exact ⟨ret_int HRR.out.symm, Bl.out⟩
set_option maxHeartbeats 1000000 in
set_option maxRecDepth 10000 in
theorem batchI (h w c : Int) (A : Option Addr) (n p : Nat) (ls : List Lay) (x : Int) (W : World) (hr : RdL W A n ls) (hn : n + big ls ≤ 1048576) :
    Calls Try.prog 43 #[.agg #[.int .i64 h, .int .i64 w, .int .i64 c, .slice A n p], .int .i64 x] W fun e W' => e = .returned (.int .i64 (batchM (h, w, c) ls x)) ∧ Below W.heap.size W W' := by
  obtain ⟨R, hR⟩ : ∃ R, R = batchM (h, w, c) ls x := ⟨_, rfl⟩
  rw [← hR]
  have HR := Lib.hid hR
  have KM := Lib.hid (Bk.new W 50 #[.int .i64 h, .int .i64 w, .int .i64 c, .slice A n p])
  have bl := (Below.refl _ W).alloc (Nat.le_refl _) (.cells #[.int .i64 h, .int .i64 w, .int .i64 c, .slice A n p] 50)
  have RA := Lib.hid (hr.of_below bl)
  have Bl := Lib.hid bl
  have HN := Lib.hid hn
  obtain ⟨k0, k1, k2, k3⟩ := KM.out.cell4
  clear hR hr bl hn
  go_enter Try.func43, Try.ntmps43
  go_wp2_with fail
  clear k0 k1 k2 k3
  generalize W.alloc (.cells #[.int .i64 h, .int .i64 w, .int .i64 c, .slice A n p] 50) = v at KM RA Bl ⊢
  generalize W.heap.size = gM at KM ⊢
  refine (modelOkI h w c A n p ls _ RA.out HN.out).mono ?_
  rintro e w1 ⟨rfl, bb⟩
  replace RA := Lib.hid (RA.out.of_below bb)
  replace KM := Lib.hid (KM.out.below bb)
  replace Bl := Lib.hid (Bl.out.trans (bb.mono Bl.out.size))
  clear bb
  rcases ho : okM (h, w, c) ls with _ | _
  · obtain rfl : R = -1 := by rw [HR.out]; exact batchM_a ho
    clear ho
    go_wp2_with fail
    go_ret
    exact ⟨rfl, Bl.out⟩
  have HO := Lib.hid ho
  clear ho
  go_wp2_with fail
  refine (inside1I 0 8 x _ _ _ (Bk.new w1 3 #[.int .i64 x])).mono ?_
  rintro e w2 ⟨rfl, b2⟩
  have bb := after1 b2
  clear b2
  replace RA := Lib.hid (RA.out.of_below bb)
  replace KM := Lib.hid (KM.out.below bb)
  replace Bl := Lib.hid (Bl.out.trans (bb.mono Bl.out.size))
  clear bb
  rcases hi : inB 0 8 x with _ | _
  · obtain rfl : R = -1 := by rw [HR.out]; exact batchM_b hi
    clear hi
    go_wp2_with fail
    go_ret
    exact ⟨rfl, Bl.out⟩
  by_cases hx : x = 0
  · subst hx
    obtain rfl : R = 0 := by rw [HR.out]; exact batchM_c HO.out
    clear hi
    go_wp2_with fail
    go_ret
    exact ⟨rfl, Bl.out⟩
  have HRR := Lib.hid (HR.out.trans (batchM_d HO.out hi hx))
  have hi2 := inB_iff.1 hi
  have hxb : (x == 0) = false := by simpa using hx
  have htc := tcM_bd (h, w, c) ls
  have hmul := batch_mul (x := x) (t := tcM (h, w, c) ls) (by omega) htc
  obtain ⟨k0, k1, k2, k3⟩ := KM.out.cell4
  have HT : Hid (∀ w0, RdL w0 A n ls → Calls Try.prog 80 #[.agg #[.int .i64 h, .int .i64 w, .int .i64 c, .slice A n p]] w0 fun e W' => e = .returned (.int .i64 (tcM (h, w, c) ls)) ∧ Below w0.heap.size w0 W') := Lib.hid (fun w0 hr => totalI h w c A n p ls w0 hr HN.out)
  generalize tcM (h, w, c) ls = T at *
  generalize hM : (x - 1) * (T / 2) = M at *
  clear hx hi
  go_wp2_with fail
  refine (HT.out _ RA.out).mono ?_
  rintro e w3 ⟨rfl, bb⟩
  replace Bl := Lib.hid (Bl.out.trans (bb.mono Bl.out.size))
  clear bb k0 k1 k2 k3 HT
  have hM2 : (x - 1) * (T / 2) = M := hM
  go_wp2_with fail
  go_ret
  exact ⟨ret_int HRR.out.symm, Bl.out⟩
end Qt
end Go.Proofs.Ytfihjehpkpminaa
