/- What RemainOf (of the program and of its model) gives when it is called. Conditions: the slice of tasks reads as the list that is named, and each slice of costs has room for what it holds; the task under way and the Id are ints. -/
import Derived.Test.YtihnpfcjnfkfjaaQBlockAt
import Derived.Test.YtihnpfcjnfkfjaaQSumUp
namespace Go.Proofs.Ytihnpfcjnfkfjaa
open Go.RowKit Go.Sort
set_option linter.unusedSimpArgs false
set_option linter.unusedVariables false
namespace Qt
theorem RdI.dropI {w : World} {b off n : Nat} {xs : List Int} (h : RdI w (some ⟨b, off, none⟩) n xs) {j : Nat} (hj : j ≤ n) : RdI w (some ⟨b, off + j, none⟩) (n - j) (xs.drop j) := by
  refine ⟨by rw [List.length_drop, h.1], fun h0 => ?_⟩
  obtain ⟨b', off', e, hlt, hc⟩ := h.2 (by omega)
  cases e
  refine ⟨b, off + j, rfl, hlt, fun i hi => ?_⟩
  rw [show off + j + i = off + (j + i) by omega, hc (j + i) (by omega)]
  simp [List.getD_eq_getElem?_getD]
def remV (t : Tsk) (rn lf : Int) : Int := sumL (t.xs.drop t.ta.toNat) + (if rn = t.ti then lf - t.xs.getD t.ta.toNat 0 else 0)
def remW (nw sk ag : Int) (ss : List Tsk) (rn lf tu nx id : Int) : Int := if schB nw sk ag ss rn lf tu nx then (match findT ss id with | some t => remV t rn lf | none => -1) else -1
theorem sum_costs {xs : List Int} (h : allIn 1 1000 xs = true) (hl : xs.length ≤ 6) (j k : Nat) : 0 ≤ sumL ((xs.drop j).take k) ∧ sumL ((xs.drop j).take k) ≤ 6000 := by
  have h1 := sumL_bd ((xs.drop j).take k) 1 1000 (fun x hx => by
    have h2 := List.all_eq_true.1 h x (List.mem_of_mem_drop (List.mem_of_mem_take hx))
    have := inB_iff.1 h2
    omega)
  have h2 : ((xs.drop j).take k).length ≤ 6 := by rw [List.length_take, List.length_drop]; omega
  omega
theorem cost_bd {xs : List Int} (h : allIn 1 1000 xs = true) {j : Nat} (hj : j < xs.length) : 1 ≤ xs.getD j 0 ∧ xs.getD j 0 ≤ 1000 := by
  have h2 := List.all_eq_true.1 h (xs[j]'hj) (List.getElem_mem hj)
  have := inB_iff.1 h2
  rw [List.getD_eq_getElem?_getD, List.getElem?_eq_getElem hj]
  simpa using this
set_option maxRecDepth 100000 in
set_option maxHeartbeats 1000000 in
theorem remainI (nw sk ag rn lf tu nx : Int) (b : Nat) (ti1 : Int) (bx ox n1 p1 j : Nat) (td1 tb1 : Int) (xs : List Int) (W : World) (hr : RdI W (some ⟨bx, ox, none⟩) n1 xs) (hp : n1 ≤ p1) (hj : j < n1) (hl : n1 ≤ 6) (ha : allIn 1 1000 xs = true) (hf : rn = ti1 → 0 ≤ lf ∧ lf ≤ 1000) :
    Calls Try.prog 53 #[.agg #[.int .i64 nw, .int .i64 sk, .int .i64 ag, .slice none 0 0, .int .i64 rn, .int .i64 lf, .int .i64 tu, .int .i64 nx, .map (some b)], .agg #[.int .i64 ti1, .slice (some ⟨bx, ox, none⟩) n1 p1, .int .i64 (j : Nat), .int .i64 td1, .int .i64 tb1]] W fun e W' => e = .returned (.int .i64 (remV ⟨ti1, j, td1, tb1, xs⟩ rn lf)) ∧ Below W.heap.size W W' := by
  have b0 := ((Below.refl _ W).alloc (Nat.le_refl _) (.cells #[.int .i64 nw, .int .i64 sk, .int .i64 ag, .slice none 0 0, .int .i64 rn, .int .i64 lf, .int .i64 tu, .int .i64 nx, .map (some b)] 58)).alloc (by simp) (.cells #[.int .i64 ti1, .slice (some ⟨bx, ox, none⟩) n1 p1, .int .i64 (j : Nat), .int .i64 td1, .int .i64 tb1] 53)
  have KR := Lib.hid ((Bk.new W 58 #[.int .i64 nw, .int .i64 sk, .int .i64 ag, .slice none 0 0, .int .i64 rn, .int .i64 lf, .int .i64 tu, .int .i64 nx, .map (some b)]).alloc (.cells #[.int .i64 ti1, .slice (some ⟨bx, ox, none⟩) n1 p1, .int .i64 (j : Nat), .int .i64 td1, .int .i64 tb1] 53))
  have kT := Bk.new (W.alloc (.cells #[.int .i64 nw, .int .i64 sk, .int .i64 ag, .slice none 0 0, .int .i64 rn, .int .i64 lf, .int .i64 tu, .int .i64 nx, .map (some b)] 58)) 53 #[.int .i64 ti1, .slice (some ⟨bx, ox, none⟩) n1 p1, .int .i64 (j : Nat), .int .i64 td1, .int .i64 tb1]
  simp only [World.size_alloc] at kT
  have KT := Lib.hid kT
  have Bl := Lib.hid b0
  have HR := Lib.hid (hr.of_below b0)
  have hx6 : xs.length ≤ 6 := by rw [hr.1]; exact hl
  have hsum := sum_costs ha hx6 j 100
  rw [List.take_of_length_le (by rw [List.length_drop]; omega)] at hsum
  have HSB := Lib.hid (sum_costs ha hx6 j)
  obtain ⟨z, hz⟩ : ∃ z, z = xs.getD j 0 := ⟨_, rfl⟩
  have hzb := cost_bd ha (j := j) (by rw [hr.1]; exact hj)
  rw [← hz] at hzb
  have hcz := (hr.of_below b0).2 (by omega)
  obtain ⟨bx', ox', e', hbx, hcx⟩ := hcz
  cases e'
  have hcz := hcx j hj
  rw [← hz] at hcz
  have HCZ := Lib.hid hcz
  have HBX := Lib.hid hbx
  obtain ⟨V, hV⟩ : ∃ V, V = remV ⟨ti1, j, td1, tb1, xs⟩ rn lf := ⟨_, rfl⟩
  rw [← hV]
  have HV : Hid (V = sumL (xs.drop j) + (if rn = ti1 then lf - z else 0)) := Lib.hid (by rw [hV, hz]; simp [remV])
  have h1 : (j : Int) < (n1 : Int) := by omega
  have h2 : (n1 : Int) ≤ (p1 : Int) := by omega
  have h3 : (n1 : Int) ≤ 6 := by omega
  have h4 : (j : Int) ≤ (n1 : Int) := by omega
  have HA := Lib.hid (fun w h => addUpI (some ⟨bx, ox + j, none⟩) (n1 - j) (p1 - j) (xs.drop j) w h (by omega) (fun k => by have := HSB.out k; omega))
  generalize sumL (xs.drop j) = S at hsum HV HA
  clear hr b0 kT ha hx6 hcz hbx hcx hz hV
  go_enter Try.func53, Try.ntmps53
  go_wp2_with fail
  generalize (W.alloc (.cells #[.int .i64 nw, .int .i64 sk, .int .i64 ag, .slice none 0 0, .int .i64 rn, .int .i64 lf, .int .i64 tu, .int .i64 nx, .map (some b)] 58)).alloc (.cells #[.int .i64 ti1, .slice (some ⟨bx, ox, none⟩) n1 p1, .int .i64 (j : Nat), .int .i64 td1, .int .i64 tb1] 53) = v at KR KT Bl HR HCZ HBX ⊢
  generalize W.heap.size + 1 = g4 at KT ⊢
  generalize W.heap.size = g at KR ⊢
  refine (HA.out v (HR.out.dropI (Nat.le_of_lt hj))).mono ?_
  rintro e w2 ⟨rfl, bb⟩
  have hcz := (bb.cell (p := ⟨bx, ox + j, none⟩) HBX.out).trans HCZ.out
  replace KR := Lib.hid (KR.out.below bb)
  replace KT := Lib.hid (KT.out.below bb)
  replace Bl := Lib.hid (Bl.out.trans (bb.mono Bl.out.size))
  clear bb HA HR HCZ HBX
  have c0 := KR.out.cell 0 rfl
  have c1 := KR.out.cell 1 rfl
  have c2 := KR.out.cell 2 rfl
  have c3 := KR.out.cell 3 rfl
  have c4 := KR.out.cell 4 rfl
  have c5 := KR.out.cell 5 rfl
  have c6 := KR.out.cell 6 rfl
  have c7 := KR.out.cell 7 rfl
  have c8 := KR.out.cell 8 rfl
  have t0 := KT.out.cell 0 rfl
  have t1 := KT.out.cell 1 rfl
  have t2 := KT.out.cell 2 rfl
  have t3 := KT.out.cell 3 rfl
  have t4 := KT.out.cell 4 rfl
  by_cases hid : rn = ti1
  · subst hid
    obtain ⟨hf1, hf2⟩ := hf rfl
    obtain rfl : V = S + (lf - z) := by rw [HV.out, if_pos rfl]
    clear hf
    go_wp2_with fail
    go_region
    go_wp2_with fail
    go_ret
    exact ⟨rfl, Bl.out.drew⟩
  · obtain rfl : V = S := by rw [HV.out, if_neg hid, Int.add_zero]
    have hid2 : ¬ ti1 = rn := fun e => hid e.symm
    clear hf
    go_wp2_with fail
    go_ret
    exact ⟨rfl, Bl.out⟩
/-- What is known of a right schedule's task under way, and of each task. -/
theorem run_facts {nw sk ag : Int} {ss : List Tsk} {rn lf tu nx : Int} (h : schB nw sk ag ss rn lf tu nx = true) {id : Int} {t : Tsk} (hf : findT ss id = some t) (hr : rn = t.ti) : 0 ≤ lf ∧ lf ≤ 1000 := by
  have hm : t ∈ ss := List.mem_of_find?_eq_some hf
  have hti : t.ti = id := by simpa using List.find?_some hf
  obtain ⟨_, _, h1, h2⟩ := schB_iff.1 h
  have hok := taskB_iff.1 (tsksB_all h1 t hm).1
  have h3 := inB_iff.1 hok.1
  have hne : rn ≠ 0 := by omega
  rw [hr, hti] at h2
  unfold runB at h2
  rw [if_neg (by omega), hf] at h2
  have h4 := inB_iff.1 h2
  have h5 := inB_iff.1 hok.2.2.2.1
  have h6 := cost_bd hok.2.2.1 (j := t.ta.toNat) (by omega)
  omega
set_option maxRecDepth 100000 in
set_option maxHeartbeats 1000000 in
theorem remainOfI (nw sk ag : Int) (A : Option Addr) (n p : Nat) (ss : List Tsk) (rn lf tu nx id : Int) (W : World) (hrc : RdC W A n ss) (hn : n + bigTsk ss ≤ 1048576) (hw : (Lit.int .i64 rn).wf = true) (hwi : (Lit.int .i64 id).wf = true) :
    Calls Try.prog 20 #[.agg #[.int .i64 nw, .int .i64 sk, .int .i64 ag, .slice A n p, .int .i64 rn, .int .i64 lf, .int .i64 tu, .int .i64 nx], .int .i64 id] W fun e W' => e = .returned (.int .i64 (remW nw sk ag ss rn lf tu nx id)) ∧ Below W.heap.size W W' := by
  have hr := hrc.1
  have b0 := (Below.refl _ W).alloc (Nat.le_refl _) (.cells #[.int .i64 nw, .int .i64 sk, .int .i64 ag, .slice A n p, .int .i64 rn, .int .i64 lf, .int .i64 tu, .int .i64 nx] 29)
  have HRO := Lib.hid (rosterI nw sk ag A n p ss rn lf tu nx _ (hr.of_below b0) hn hw)
  have HCAP := Lib.hid (hrc.of_below b0).2
  have Bl := Lib.hid b0
  have HW := Lib.hid hwi
  clear hr hn b0 hw hrc hwi
  obtain ⟨R, hR⟩ : ∃ R, schB nw sk ag ss rn lf tu nx = R := ⟨_, rfl⟩
  obtain ⟨V, hV⟩ : ∃ V, V = remW nw sk ag ss rn lf tu nx id := ⟨_, rfl⟩
  rw [← hV]
  have HR := Lib.hid hR
  have HV := Lib.hid hV
  rw [hR] at HRO
  clear hR hV
  go_enter Try.func20, Try.ntmps20
  go_wp2_with fail
  refine HRO.out.mono ?_
  intro e w1 hc
  rcases R with _ | _
  · obtain ⟨rfl, bb⟩ := hc
    obtain rfl : V = -1 := by rw [HV.out]; simp [remW, HR.out]
    have ba := (Below.refl _ w1).alloc (Nat.le_refl _) (.cells #[.int .i64 0, .int .i64 0, .int .i64 0, .slice none 0 0, .int .i64 0, .int .i64 0, .int .i64 0, .int .i64 0, .map none] 58)
    have Bl2 := Lib.hid ((Bl.out.trans (bb.mono Bl.out.size)).trans (ba.mono (Nat.le_trans Bl.out.size bb.size)))
    have hrun := fun w => look_none (w := w) HW.out
    simp only [zeroTk] at hrun
    clear bb ba HRO
    go_wp2_with fail
    go_ret
    exact ⟨rfl, Bl2.out.alloc Bl2.out.size _⟩
  · obtain ⟨b, es, rfl, _, hm, he, hce, bb⟩ := hc
    have ba := (Below.refl _ w1).alloc (Nat.le_refl _) (.cells #[.int .i64 nw, .int .i64 sk, .int .i64 ag, .slice none 0 0, .int .i64 rn, .int .i64 lf, .int .i64 tu, .int .i64 nx, .map (some b)] 58)
    have Bl2 := Lib.hid ((Bl.out.trans (bb.mono Bl.out.size)).trans (ba.mono (Nat.le_trans Bl.out.size bb.size)))
    have hsf := sch_facts HR.out
    have hce := hce HCAP.out
    have hm2 := ownsMap_below hm ba
    have he2 := he.of_below ba
    rcases at_cases ss id with ⟨i, u, hu, hui, hat, hfi⟩ | ⟨hat, hfi⟩
    · obtain ⟨P, hes, hcap⟩ := hce i u hu
      obtain ⟨P', hes', hrd⟩ := he2.2 i u hu
      rw [hes] at hes'
      have hPP : P = P' := by
        obtain ⟨a1, a2, a3⟩ := P
        obtain ⟨b1, b2, b3⟩ := P'
        simpa [TV] using hes'
      subst hPP
      have hrun := look_hit hm2 (he2.apart hsf.1) (List.mem_of_getElem? (hui ▸ hes)) HW.out
      have hok := taskB_iff.1 (hsf.2 u (List.mem_of_getElem? hu))
      have hta := inB_iff.1 hok.2.2.2.1
      have hn16 := inB_iff.1 hok.2.1
      have hall := hok.2.2.1
      have hrf : rn = u.ti → 0 ≤ lf ∧ lf ≤ 1000 := fun e => run_facts HR.out hfi e
      obtain ⟨ti1, ta1, td1, tb1, xs⟩ := u
      obtain ⟨A1, n1, p1⟩ := P
      simp only [TV] at hta hn16 hui hrd hcap hall hrf hrun
      obtain ⟨j, rfl⟩ : ∃ j : Nat, ta1 = j := ⟨ta1.toNat, by omega⟩
      have hlen := hrd.1
      obtain ⟨bx, ox, rfl, _⟩ := hrd.2 (by omega)
      have hVb : V = remV ⟨ti1, j, td1, tb1, xs⟩ rn lf := by rw [HV.out]; simp [remW, HR.out, hfi]
      have b3 := (Below.refl _ (w1.alloc (.cells #[.int .i64 nw, .int .i64 sk, .int .i64 ag, .slice none 0 0, .int .i64 rn, .int .i64 lf, .int .i64 tu, .int .i64 nx, .map (some b)] 58))).alloc (Nat.le_refl _) (.cells #[.int .i64 ti1, .slice (some ⟨bx, ox, none⟩) n1 p1, .int .i64 (j : Nat), .int .i64 td1, .int .i64 tb1] 53)
      have HC := remainI nw sk ag rn lf tu nx b ti1 bx ox n1 p1 j td1 tb1 xs _ (hrd.of_below b3) hcap (by omega) (by omega) hall hrf
      rw [← hVb] at HC
      have HC := Lib.hid HC
      have Bl3 := Lib.hid (Bl2.out.trans (b3.mono Bl2.out.size))
      clear bb ba hm he hVb HRO hce hsf hm2 he2 hu hui hat hfi hes hes' hrd hcap hok hta hn16 hall hrf hlen b3
      go_wp2_with fail
      refine HC.out.mono ?_
      rintro e w2 ⟨rfl, bb⟩
      have Bl4 := Lib.hid (Bl3.out.trans (bb.mono Bl3.out.size))
      clear bb HC
      go_wp2_with fail
      go_ret
      exact ⟨rfl, Bl4.out⟩
    · obtain rfl : V = -1 := by rw [HV.out]; simp [remW, HR.out, hfi]
      have hrun := look_miss hm2 (id := id) (fun q hq e => by
        obtain ⟨t, ht, h1⟩ := he2.mem hq
        rw [findT, List.find?_eq_none] at hfi
        have := hfi t ht
        simp [← h1, e] at this) HW.out
      unfold zeroTk at hrun
      clear bb ba hm he HRO hce hsf hm2 he2 hat hfi
      go_wp2_with fail
      go_ret
      exact ⟨rfl, Bl2.out.alloc Bl2.out.size _⟩
set_option maxRecDepth 100000 in
set_option maxHeartbeats 2000000 in
theorem remainOfS (nw sk ag : Int) (A : Option Addr) (n p : Nat) (ss : List Tsk) (rn lf tu nx id : Int) (W : World) (hrc : RdC W A n ss) (hn : n + bigTsk ss ≤ 1048576) (_ : (Lit.int .i64 rn).wf = true) (_ : (Lit.int .i64 id).wf = true) :
    Calls Try.prog 19 #[.agg #[.int .i64 nw, .int .i64 sk, .int .i64 ag, .slice A n p, .int .i64 rn, .int .i64 lf, .int .i64 tu, .int .i64 nx], .int .i64 id] W fun e W' => e = .returned (.int .i64 (remW nw sk ag ss rn lf tu nx id)) ∧ Below W.heap.size W W' := by
  have hr := hrc.1
  have b0 := (Below.refl _ W).alloc (Nat.le_refl _) (.cells #[.int .i64 nw, .int .i64 sk, .int .i64 ag, .slice A n p, .int .i64 rn, .int .i64 lf, .int .i64 tu, .int .i64 nx] 29)
  have K := Lib.hid (Bk.new W 29 #[.int .i64 nw, .int .i64 sk, .int .i64 ag, .slice A n p, .int .i64 rn, .int .i64 lf, .int .i64 tu, .int .i64 nx])
  have HR0 := Lib.hid (hr.of_below b0)
  have Bl := Lib.hid b0
  have HN := Lib.hid hn
  have HL := Lib.hid hr.1
  have hn1 : (n : Int) ≤ 1048576 := by omega
  obtain ⟨R, hR⟩ : ∃ R, schB nw sk ag ss rn lf tu nx = R := ⟨_, rfl⟩
  obtain ⟨V, hV⟩ : ∃ V, V = remW nw sk ag ss rn lf tu nx id := ⟨_, rfl⟩
  rw [← hV]
  have HR := Lib.hid hR
  have HV := Lib.hid hV
  have HAT := Lib.hid (fun w h => atS nw sk ag A n p ss rn lf tu nx id w h (by omega))
  have HSO := Lib.hid (fun w h => schedOkS nw sk ag A n p ss rn lf tu nx w h hn)
  rw [hR] at HSO
  clear hr hrc b0 hR hV hn
  go_enter Try.func19, Try.ntmps19
  go_wp2_with fail
  generalize W.alloc (.cells #[.int .i64 nw, .int .i64 sk, .int .i64 ag, .slice A n p, .int .i64 rn, .int .i64 lf, .int .i64 tu, .int .i64 nx] 29) = v at K HR0 Bl ⊢
  generalize W.heap.size = g at K ⊢
  refine (HAT.out v HR0.out).mono ?_
  rintro e w1 ⟨rfl, bb⟩
  replace K := Lib.hid (K.out.below bb)
  replace HR0 := Lib.hid (HR0.out.of_below bb)
  replace Bl := Lib.hid (Bl.out.trans (bb.mono Bl.out.size))
  clear bb HAT
  have c0 := K.out.cell 0 rfl
  have c1 := K.out.cell 1 rfl
  have c2 := K.out.cell 2 rfl
  have c3 := K.out.cell 3 rfl
  have c4 := K.out.cell 4 rfl
  have c5 := K.out.cell 5 rfl
  have c6 := K.out.cell 6 rfl
  have c7 := K.out.cell 7 rfl
  go_wp2_with fail
  clear c0 c1 c2 c3 c4 c5 c6 c7
  refine (HSO.out w1 HR0.out).mono ?_
  rintro e w2 ⟨rfl, bb⟩
  replace K := Lib.hid (K.out.below bb)
  replace HR0 := Lib.hid (HR0.out.of_below bb)
  replace Bl := Lib.hid (Bl.out.trans (bb.mono Bl.out.size))
  clear bb HSO
  rcases R with _ | _
  · obtain rfl : V = -1 := by rw [HV.out]; simp [remW, HR.out]
    go_wp2_with fail
    go_ret
    exact ⟨rfl, Bl.out⟩
  rcases at_cases ss id with ⟨i, u, hu, hui, hat, hfi⟩ | ⟨hat, hfi⟩
  case inr =>
    obtain rfl : V = -1 := by rw [HV.out]; simp [remW, HR.out, hfi]
    rw [hat]
    clear hat hfi
    go_wp2_with fail
    go_ret
    exact ⟨rfl, Bl.out⟩
  rw [hat]
  have hik : i < n := by have := (List.getElem?_eq_some_iff.1 hu).1; have := HL.out; omega
  obtain ⟨b, off, ti1, ta1, td1, tb1, A', n', p', xs, rfl, hbs, hj, ht⟩ := HR0.out.at hik
  have hjj := hj
  rw [hu] at hjj
  cases hjj
  have hok := taskB_iff.1 ((sch_facts HR.out).2 _ (List.mem_of_getElem? hu))
  have hta := inB_iff.1 hok.2.2.2.1
  have hn16 := inB_iff.1 hok.2.1
  have hall := hok.2.2.1
  have hrf := fun e => run_facts HR.out hfi e
  simp only at hta hn16 hall hui hrf
  obtain ⟨j, rfl⟩ : ∃ j : Nat, ta1 = j := ⟨ta1.toNat, by omega⟩
  have hlen := ht.lens
  have RX := Lib.hid ht.rds
  obtain ⟨e0, e1, e2, e3, e4⟩ := ht.cells
  have HVV : Hid (V = sumL (xs.drop j) + (if rn = ti1 then lf - xs.getD j 0 else 0)) := Lib.hid (by rw [HV.out]; simp [remW, HR.out, hfi, remV])
  have HALL := Lib.hid hall
  have HLX := Lib.hid hlen
  have hn6 : 1 ≤ (n' : Int) ∧ (n' : Int) ≤ 6 := by omega
  have hjn : (j : Int) < (n' : Int) := by omega
  have ba := (Below.refl _ w2).alloc (Nat.le_refl _) (.cells #[.int .i64 ti1, .slice A' n' p', .int .i64 j, .int .i64 td1, .int .i64 tb1] 53)
  have K6 := Lib.hid (Bk.new w2 53 #[.int .i64 ti1, .slice A' n' p', .int .i64 j, .int .i64 td1, .int .i64 tb1])
  have K2 := Lib.hid (K.out.below ba)
  have RX2 := Lib.hid (RX.out.of_below ba)
  have Bl2 := Lib.hid (Bl.out.trans (ba.mono Bl.out.size))
  have hik2 : (i : Int) < (n : Int) := by omega
  have hi0 : (0 : Int) ≤ (i : Int) := by omega
  have HIU := Lib.hid (show ti1 = id from hui)
  have c0 := K.out.cell 0 rfl
  have c1 := K.out.cell 1 rfl
  have c2 := K.out.cell 2 rfl
  have c3 := K.out.cell 3 rfl
  have c4 := K.out.cell 4 rfl
  have c5 := K.out.cell 5 rfl
  have c6 := K.out.cell 6 rfl
  have c7 := K.out.cell 7 rfl
  clear hat hfi hu hj ht hok hta hn16 hall hui hlen ba RX HR0 HV
  go_wp2_with fail
  clear c0 c1 c2 c3 c4 c5 c6 c7
  clear e0 e1 e2 e3 e4
  generalize w2.alloc (.cells #[.int .i64 ti1, .slice A' n' p', .int .i64 j, .int .i64 td1, .int .i64 tb1] 53) = x2 at K6 K2 RX2 Bl2 ⊢
  generalize w2.heap.size = g6 at K6 ⊢
  have t0 := K6.out.cell 0 rfl
  have t1 := K6.out.cell 1 rfl
  have t2 := K6.out.cell 2 rfl
  have t3 := K6.out.cell 3 rfl
  have t4 := K6.out.cell 4 rfl
  have hx6 : xs.length ≤ 6 := by have := HLX.out; omega
  have HSB := Lib.hid (sum_costs HALL.out hx6 j)
  go_loopw [7, 8] (fun q i wr => ∃ k : Nat, j + k ≤ n' ∧ i = .int .i64 ((j + k : Nat) : Int) ∧ q = .int .i64 (sumL ((xs.drop j).take k)) ∧ x2 = wr) (fun _ i _ => n' - (intOf i).toNat)
  case atStart => exact ⟨0, by omega, by simp, rfl, rfl⟩
  case round =>
    obtain ⟨k, hk, rfl, rfl, rfl⟩ := hrel
    have hsb := HSB.out k
    by_cases hlt : j + k < n'
    · obtain ⟨bx, ox, rfl, hbx, hcx⟩ := RX2.out.2 (by omega)
      have hcz := hcx (j + k) hlt
      have hgd : xs.getD (j + k) 0 = (xs.drop j)[k]?.getD 0 := by simp [List.getD_eq_getElem?_getD, List.getElem?_drop]
      rw [hgd] at hcz
      have hsn := sumL_snoc (xs.drop j) k (by rw [List.length_drop]; have := HLX.out; omega)
      have hb2 := cost_bd HALL.out (j := j + k) (by have := HLX.out; omega)
      rw [hgd] at hb2
      have HSN := Lib.hid hsn
      generalize (xs.drop j)[k]?.getD 0 = z at hcz HSN hb2
      generalize sumL ((xs.drop j).take k) = S at hsb HSN ⊢
      have hlt2 : ((j + k : Nat) : Int) < (n' : Int) := by omega
      clear hcx hbx hgd hsn
      obtain ⟨jk, hjk⟩ : ∃ jk, jk = j + k := ⟨_, rfl⟩
      rw [← hjk] at hcz hlt2 hlt ⊢
      have HJK := Lib.hid hjk
      clear hjk
      go_wp2_with fail
      go_roundw
      case rel => exact ⟨k + 1, by have := HJK.out; omega, by rw [HJK.out]; go_num, by rw [HSN.out], trivial⟩
      case measure => simp [intOf]; omega
    · have hke : (xs.drop j).take k = xs.drop j := List.take_of_length_le (by rw [List.length_drop]; have := HLX.out; omega)
      rw [hke] at hsb ⊢
      have hgz := cost_bd HALL.out (j := j) (by have := HLX.out; omega)
      obtain ⟨bx, ox, rfl, hbx, hcx⟩ := RX2.out.2 (by omega)
      have hcz := hcx j (by omega)
      generalize xs.getD j 0 = z at hcz hgz HVV
      generalize sumL (xs.drop j) = S at hsb HVV ⊢
      have hjke : j + k = n' := by omega
      have HJK := Lib.hid hjke
      have hnl : ¬ ((j + k : Nat) : Int) < (n' : Int) := by omega
      obtain ⟨jk, hjk⟩ : ∃ jk, jk = j + k := ⟨_, rfl⟩
      rw [← hjk] at hnl ⊢
      have c0 := K2.out.cell 0 rfl
      have c1 := K2.out.cell 1 rfl
      have c2 := K2.out.cell 2 rfl
      have c3 := K2.out.cell 3 rfl
      have c4 := K2.out.cell 4 rfl
      have c5 := K2.out.cell 5 rfl
      have c6 := K2.out.cell 6 rfl
      have c7 := K2.out.cell 7 rfl
      clear hcx hbx hke hjke hjk
      by_cases hrn : rn = id
      · have hl2 := hrf (by rw [HIU.out]; exact hrn)
        obtain rfl : V = S + (lf - z) := by rw [HVV.out, if_pos (by rw [HIU.out]; exact hrn)]
        have heq : S - z + lf = S + (lf - z) := by omega
        have HEQ := Lib.hid heq
        subst hrn
        clear heq hrf
        go_wp2_with fail
        go_region
        rw [HEQ.out]
        go_wp2_with fail
        go_ret
        exact ⟨rfl, Bl2.out.drew⟩
      · obtain rfl : V = S := by rw [HVV.out, if_neg (by rw [HIU.out]; exact hrn), Int.add_zero]
        clear hrf
        go_wp2_with fail
        go_ret
        exact ⟨rfl, Bl2.out⟩
end Qt
end Go.Proofs.Ytihnpfcjnfkfjaa
