/- What DemandAt and WorkLeft (of the program and of its model) give when they are called. Conditions: the slice of tasks reads as the list that is named, and each slice of costs has room for what it holds; the task under way is an int. -/
import Derived.Test.YtihnpfcjnfkfjaaDemMath
import Derived.Lib.QuietBelow
namespace Go.Proofs.Ytihnpfcjnfkfjaa
open Go.RowKit Go.Sort
set_option linter.unusedSimpArgs false
set_option linter.unusedVariables false
namespace Qt
theorem grown_of_below {w w' : World} (hb : Below w.heap.size w w') : w.grownBy w' none := ⟨hb.os, hb.tape, hb.output, hb.size, fun i hi _ => hb.block i hi⟩
theorem ranges_below {w w' : World} {b r m cnt : Nat} {D : DataW Value} {left : Lit → Bool} (h : w.ranges Try.prog 3 asV b r m D left cnt) (hb : Below w.heap.size w w') : w'.ranges Try.prog 3 asV b r m D left cnt := h.kept (grown_of_below hb) (by simp) (by simp)
/-- An entry that comes from the map: a task. -/
theorem entry_task {nw sk ag : Int} {ss : List Tsk} {rn lf tu nx : Int} (h : schB nw sk ag ss rn lf tu nx = true) {w : World} {es : List (Int × Value)} (he : Ent w ss es) (hce : CapE ss es) {x : Int} {c : Value} (hhas : Maps.has (mapOf es) (.int .i64 x) = true) (hat : ∀ zd, (mapOf es).atKey (.int .i64 x) zd = .held c) :
    ∃ (bx ox n1 p1 j : Nat) (td1 tb1 : Int) (xs : List Int), (⟨x, j, td1, tb1, xs⟩ : Tsk) ∈ ss ∧ c = .agg #[.int .i64 x, .slice (some ⟨bx, ox, none⟩) n1 p1, .int .i64 (j : Nat), .int .i64 td1, .int .i64 tb1] ∧ RdI w (some ⟨bx, ox, none⟩) n1 xs ∧ n1 ≤ p1 ∧ j < n1 ∧ n1 ≤ 6 ∧ allIn 1 1000 xs = true ∧ (rn = x → 0 ≤ lf ∧ lf ≤ 1000) := by
  have hex : ∃ p ∈ es, p.1 = x := by
    apply Classical.byContradiction
    intro hno
    have := (mapOf_miss (es := es) (id := x) (fun p hp e => hno ⟨p, hp, e⟩)).1
    rw [hhas] at this
    cases this
  obtain ⟨p, hp, rfl⟩ := hex
  obtain ⟨t, ht, hti⟩ := he.mem hp
  obtain ⟨i, hi, e⟩ := List.getElem_of_mem ht
  have hi' : ss[i]? = some t := by rw [List.getElem?_eq_getElem hi, e]
  obtain ⟨P, hes, hcap⟩ := hce i t hi'
  obtain ⟨P', hes', hrd⟩ := he.2 i t hi'
  rw [hes] at hes'
  have hPP : P = P' := by
    obtain ⟨a1, a2, a3⟩ := P
    obtain ⟨b1, b2, b3⟩ := P'
    simpa [TV] using hes'
  subst hPP
  have hhit := (mapOf_hit (he.apart (sch_facts h).1) (List.mem_of_getElem? hes)).2 .nil
  rw [← hti, hat] at hhit
  have hc : c = TV t P := by simpa using hhit
  have hok := taskB_iff.1 ((sch_facts h).2 t ht)
  have hta := inB_iff.1 hok.2.2.2.1
  have hn16 := inB_iff.1 hok.2.1
  have hrf : rn = t.ti → 0 ≤ lf ∧ lf ≤ 1000 := fun e => run_facts h (find_own h ht) e
  have hall := hok.2.2.1
  rw [hti]
  obtain ⟨ti1, ta1, td1, tb1, xs⟩ := t
  obtain ⟨A1, n1, p1⟩ := P
  simp only [TV] at hta hn16 hrd hcap hall hrf hc
  obtain ⟨j, rfl⟩ : ∃ j : Nat, ta1 = j := ⟨ta1.toNat, by omega⟩
  have hlen := hrd.1
  obtain ⟨bx, ox, rfl, _⟩ := hrd.2 (by omega)
  exact ⟨bx, ox, n1, p1, j, td1, tb1, xs, ht, hc, hrd, hcap, by omega, by omega, hall, hrf⟩
set_option maxRecDepth 100000 in
set_option maxHeartbeats 2000000 in
theorem demandI (nw sk ag rn lf tu nx d : Int) (b m : Nat) (ss : List Tsk) (es : List (Int × Value)) (W : World) (hm : W.ownsMap Try.prog 3 asV b m (mapOf es)) (he : Ent W ss es) (hce : CapE ss es) (hs : schB nw sk ag ss rn lf tu nx = true) :
    Calls Try.prog 58 #[.agg #[.int .i64 nw, .int .i64 sk, .int .i64 ag, .slice none 0 0, .int .i64 rn, .int .i64 lf, .int .i64 tu, .int .i64 nx, .map (some b)], .int .i64 d] W fun e W' => e = .returned (.int .i64 (demV rn lf d ss)) ∧ Below W.heap.size W W' := by
  have bl := (Below.refl _ W).alloc (Nat.le_refl _) (.cells #[.int .i64 nw, .int .i64 sk, .int .i64 ag, .slice none 0 0, .int .i64 rn, .int .i64 lf, .int .i64 tu, .int .i64 nx, .map (some b)] 58)
  have K := Lib.hid (Bk.new W 58 #[.int .i64 nw, .int .i64 sk, .int .i64 ag, .slice none 0 0, .int .i64 rn, .int .i64 lf, .int .i64 tu, .int .i64 nx, .map (some b)])
  have HM := Lib.hid (ownsMap_below hm bl)
  have HE := Lib.hid he
  have HCE := Lib.hid hce
  have HS := Lib.hid hs
  have Bl := Lib.hid bl
  have h12 : ss.length ≤ 12 := (schB_iff.1 hs).2.1
  have HBD := Lib.hid (fun sel => demS_bd (sel := sel) (demT_bd hs d))
  clear hm he hce hs bl
  go_enter Try.func58, Try.ntmps58
  go_wp2_with (first
    | (at_range; refine wpList_range_own _ rfl _ 56 rfl 3 53 keyI Try.underlying56 asV b m _ rfl HM.out ?_; intro w0 hrg0 hg0 hs0)
    | fail)
  go_frame
  have HRG := Lib.hid hrg0
  have K0 := Lib.hid (K.out.grown hg0 (by simp))
  have hsz : (W.alloc (.cells #[.int .i64 nw, .int .i64 sk, .int .i64 ag, .slice none 0 0, .int .i64 rn, .int .i64 lf, .int .i64 tu, .int .i64 nx, .map (some b)] 58)).heap.size = W.heap.size + 1 := by simp
  have B0 := Lib.hid (Bl.out.grown hg0 Bl.out.size (fun r hr => by cases hr))
  rw [hsz] at HRG ⊢
  have HRG := Lib.hid HRG.out
  obtain ⟨r, hr⟩ : ∃ r, r = W.heap.size + 1 := ⟨_, rfl⟩
  rw [← hr] at HRG ⊢
  have HRW : Hid (W.heap.size < r) := Lib.hid (by omega)
  generalize hg : W.heap.size = g at K0 ⊢
  have HG := Lib.hid hg
  have HM0 : Hid (∀ t ∈ ss, Maps.has (mapOf es) (.int .i64 t.ti) = true) := Lib.hid (fun t ht => by
    obtain ⟨i, hi, e⟩ := List.getElem_of_mem ht
    have hi' : ss[i]? = some t := by rw [List.getElem?_eq_getElem hi, e]
    obtain ⟨P, hes, _⟩ := HE.out.2 i t hi'
    exact (mapOf_hit (HE.out.apart (sch_facts HS.out).1) (List.mem_of_getElem? hes)).1)
  clear hrg0 hg0 hs0 hsz hr hg HM K Bl
  go_loopw [5] (fun q wr => ∃ (left : Lit → Bool) (cnt : Nat), q = .int .i64 (demS rn lf d (fun x => !(left (.int .i64 x))) ss) ∧ Hid (wr.ranges Try.prog 3 asV b r m (mapOf es) left cnt) ∧ Hid (∀ kl, left kl = true → Maps.has (mapOf es) kl = true) ∧ Hid (Bk wr g 58 #[.int .i64 nw, .int .i64 sk, .int .i64 ag, .slice none 0 0, .int .i64 rn, .int .i64 lf, .int .i64 tu, .int .i64 nx, .map (some b)]) ∧ Hid (Below W.heap.size W wr)) (fun _ wr => wr.rangeLeft b r)
  case atStart => exact ⟨_, _, by rw [demS_none (fun t ht => by rw [HM0.out t ht]; rfl)], HRG, Lib.hid (fun _ h => h), K0, B0⟩
  case round =>
    clear HRG K0 B0
    obtain ⟨left, cnt, rfl, HRG, HLF, K, Bl⟩ := hrel
    have hbd := HBD.out (fun x => !(left (.int .i64 x)))
    generalize hS : demS rn lf d (fun x => !(left (.int .i64 x))) ss = S at hbd ⊢
    have HSS := Lib.hid hS
    clear hS
    go_wp2_with (first
      | (at_next; refine wpList_next_ranges _ rfl _ rfl 3 keyI asV (Value.int .i64) (fun c : Value => c) (fun key kl hkey => by obtain ⟨x, rfl, _⟩ := Maps.keyOf_int_inv Try.underlying3 hkey; exact ⟨x, rfl⟩) (fun v y _ => ⟨v, rfl⟩) b r m _ _ _ rfl HRG.out ?_ ?_)
      | fail)
    · intro _ hl0
      have hV : S = demV rn lf d ss := by rw [← HSS.out]; exact demS_all (fun t _ => by rw [hl0]; rfl)
      subst hV
      clear hl0
      go_wp2_with fail
      go_ret
      exact ⟨rfl, Bl.out⟩
    · intro x c kl ya yb w1 cnt1 hkey hlx hy hat hrg1 hlt hg1 hs1 hen
      obtain ⟨x', ex, rfl, hwx⟩ := Maps.keyOf_int_inv Try.underlying3 hkey
      cases ex
      have hyc : ya = .held c := by simp [asV] at hy; exact hy.1.symm
      subst hyc
      have B1 := Bl.out.grown hg1 Bl.out.size (fun q hq => by cases hq; have := HRW.out; omega)
      obtain ⟨bx, ox, n1, p1, j, td1, tb1, xs, hmem, hc, hrd, hcap, hj1, hn6, hall, hrf⟩ := entry_task HS.out (HE.out.of_below B1) HCE.out (HLF.out _ hlx) hat
      subst hc
      have hsw := demS_switch (rn := rn) (lf := lf) (d := d) (sel := fun z => !(left (.int .i64 z))) (sel' := fun z => !((fun q : Lit => left q && !q.sameKey (.int .i64 x)) (.int .i64 z))) (sch_facts HS.out).1 hmem (by simp only [hlx]; rfl) (by simp [Lit.sameKey]) (fun z hz => by simp [Lit.sameKey, hz])
      rw [HSS.out] at hsw
      have HSW := Lib.hid hsw
      have HLF2 : Hid (∀ kl, (left kl && !kl.sameKey (.int .i64 x)) = true → Maps.has (mapOf es) kl = true) := Lib.hid (fun kl h => HLF.out kl (by simp only [Bool.and_eq_true] at h; exact h.1))
      have hbv := task_rem HS.out hmem
      have HME := Lib.hid (show (remV ⟨x, j, td1, tb1, xs⟩ rn lf) = remV ⟨x, j, td1, tb1, xs⟩ rn lf from rfl)
      have K1 := K.out.grown hg1 (by intro e; cases e; have := HRW.out; have := HG.out; omega)
      have b7 := (Below.refl _ w1).alloc (Nat.le_refl _) (.cells #[.int .i64 x, .slice (some ⟨bx, ox, none⟩) n1 p1, .int .i64 (j : Nat), .int .i64 td1, .int .i64 tb1] 53)
      have K2 := Lib.hid (K1.below b7)
      have HRG2 := Lib.hid (ranges_below hrg1 b7)
      have Bl2 := Lib.hid (B1.trans (b7.mono B1.size))
      have HCN := Lib.hid (show cnt1 < cnt from hlt)
      have HLE := Lib.hid HRG.out.left_eq
      have HRE := Lib.hid (fun w h => remainI nw sk ag rn lf tu nx b x bx ox n1 p1 j td1 tb1 xs w h hcap hj1 hn6 hall hrf)
      have HRX := Lib.hid (hrd.of_below b7)
      generalize hv : remV ⟨x, j, td1, tb1, xs⟩ rn lf = v at hbv HRE
      have hT : demT rn lf d ⟨x, j, td1, tb1, xs⟩ = if td1 ≤ d then v else 0 := by rw [← hv]; rfl
      rw [hT] at hsw
      replace HSW := Lib.hid hsw
      clear hsw hT hv HME hkey hlx hy hat hrg1 hlt hg1 hs1 hmem hrd hcap hj1 hn6 hall hrf hwx K1 B1 b7 HRG HLF K Bl
      by_cases hdd : td1 ≤ d
      case neg =>
        rw [if_neg hdd, Int.add_zero] at HSW
        have HSW := Lib.hid HSW.out
        go_wp2_with fail
        go_roundw
        case rel => exact ⟨_, cnt1, by rw [HSW.out], HRG2, HLF2, K2, Bl2⟩
        case measure => rw [HRG2.out.left_eq, HLE.out]; exact HCN.out
      rw [if_pos hdd] at HSW
      have HSW := Lib.hid HSW.out
      have c0 := K2.out.cell 0 rfl
      have c1 := K2.out.cell 1 rfl
      have c2 := K2.out.cell 2 rfl
      have c3 := K2.out.cell 3 rfl
      have c4 := K2.out.cell 4 rfl
      have c5 := K2.out.cell 5 rfl
      have c6 := K2.out.cell 6 rfl
      have c7 := K2.out.cell 7 rfl
      have c8 := K2.out.cell 8 rfl
      go_wp2_with fail
      clear c0 c1 c2 c3 c4 c5 c6 c7 c8
      refine (HRE.out _ HRX.out).mono ?_
      rintro e w3 ⟨rfl, bb⟩
      have K3 := Lib.hid (K2.out.below bb)
      have HRG3 := Lib.hid (ranges_below HRG2.out bb)
      have Bl3 := Lib.hid (Bl2.out.trans (bb.mono Bl2.out.size))
      clear bb HRE HRX hen
      go_wp2_with fail
      go_roundw
      case rel => exact ⟨_, cnt1, by rw [HSW.out], HRG3, HLF2, K3, Bl3⟩
      case measure => rw [HRG3.out.left_eq, HLE.out]; exact HCN.out
theorem demW_yes {nw sk ag : Int} {ss : List Tsk} {rn lf tu nx d : Int} (h : schB nw sk ag ss rn lf tu nx = true) : demW nw sk ag ss rn lf tu nx d = demV rn lf d ss := by unfold demW; rw [h]; rfl
theorem demW_no {nw sk ag : Int} {ss : List Tsk} {rn lf tu nx d : Int} (h : schB nw sk ag ss rn lf tu nx = false) : demW nw sk ag ss rn lf tu nx d = -1 := by unfold demW; rw [h]; rfl
set_option maxRecDepth 100000 in
set_option maxHeartbeats 1000000 in
theorem demandAtI (nw sk ag : Int) (A : Option Addr) (n p : Nat) (ss : List Tsk) (rn lf tu nx d : Int) (W : World) (hrc : RdC W A n ss) (hn : n + bigTsk ss ≤ 1048576) (hw : (Lit.int .i64 rn).wf = true) :
    Calls Try.prog 30 #[.agg #[.int .i64 nw, .int .i64 sk, .int .i64 ag, .slice A n p, .int .i64 rn, .int .i64 lf, .int .i64 tu, .int .i64 nx], .int .i64 d] W fun e W' => e = .returned (.int .i64 (demW nw sk ag ss rn lf tu nx d)) ∧ Below W.heap.size W W' := by
  have hr := hrc.1
  have b0 := (Below.refl _ W).alloc (Nat.le_refl _) (.cells #[.int .i64 nw, .int .i64 sk, .int .i64 ag, .slice A n p, .int .i64 rn, .int .i64 lf, .int .i64 tu, .int .i64 nx] 29)
  have HRO := Lib.hid (rosterI nw sk ag A n p ss rn lf tu nx _ (hr.of_below b0) hn hw)
  have HCAP := Lib.hid (hrc.of_below b0).2
  have Bl := Lib.hid b0
  clear hr hn b0 hw hrc
  obtain ⟨R, hR⟩ : ∃ R, schB nw sk ag ss rn lf tu nx = R := ⟨_, rfl⟩
  obtain ⟨V, hV⟩ : ∃ V, V = demW nw sk ag ss rn lf tu nx d := ⟨_, rfl⟩
  rw [← hV]
  have HR := Lib.hid hR
  have HV := Lib.hid hV
  rw [hR] at HRO
  clear hR hV
  go_enter Try.func30, Try.ntmps30
  go_wp2_with fail
  refine HRO.out.mono ?_
  intro e w1 hc
  rcases R with _ | _
  · obtain ⟨rfl, bb⟩ := hc
    obtain rfl : V = -1 := by rw [HV.out, demW_no HR.out]
    have Bl2 := Lib.hid (Bl.out.trans (bb.mono Bl.out.size))
    clear bb HRO
    go_wp2_with fail
    go_ret
    exact ⟨rfl, Bl2.out.alloc Bl2.out.size _⟩
  · obtain ⟨b, es, rfl, _, hm, he, hce, bb⟩ := hc
    have ba := (Below.refl _ w1).alloc (Nat.le_refl _) (.cells #[.int .i64 nw, .int .i64 sk, .int .i64 ag, .slice none 0 0, .int .i64 rn, .int .i64 lf, .int .i64 tu, .int .i64 nx, .map (some b)] 58)
    have Bl2 := Lib.hid ((Bl.out.trans (bb.mono Bl.out.size)).trans (ba.mono (Nat.le_trans Bl.out.size bb.size)))
    have hVb : V = demV rn lf d ss := by rw [HV.out, demW_yes HR.out]
    have HC := demandI nw sk ag rn lf tu nx d b _ ss es _ (ownsMap_below hm ba) (he.of_below ba) (hce HCAP.out) HR.out
    rw [← hVb] at HC
    have HC := Lib.hid HC
    clear bb ba hm he hVb HRO hce
    go_wp2_with fail
    refine HC.out.mono ?_
    rintro e w2 ⟨rfl, bb⟩
    have Bl3 := Lib.hid (Bl2.out.trans (bb.mono Bl2.out.size))
    clear bb HC
    go_wp2_with fail
    go_ret
    exact ⟨rfl, Bl3.out⟩
theorem workLeftI (nw sk ag : Int) (A : Option Addr) (n p : Nat) (ss : List Tsk) (rn lf tu nx : Int) (W : World) (hrc : RdC W A n ss) (hn : n + bigTsk ss ≤ 1048576) (hw : (Lit.int .i64 rn).wf = true) :
    Calls Try.prog 36 #[.agg #[.int .i64 nw, .int .i64 sk, .int .i64 ag, .slice A n p, .int .i64 rn, .int .i64 lf, .int .i64 tu, .int .i64 nx]] W fun e W' => e = .returned (.int .i64 (demW nw sk ag ss rn lf tu nx 1000000)) ∧ Below W.heap.size W W' := by
  have b0 := (Below.refl _ W).alloc (Nat.le_refl _) (.cells #[.int .i64 nw, .int .i64 sk, .int .i64 ag, .slice A n p, .int .i64 rn, .int .i64 lf, .int .i64 tu, .int .i64 nx] 29)
  have HC := Lib.hid (demandAtI nw sk ag A n p ss rn lf tu nx 1000000 _ (hrc.of_below b0) hn hw)
  have Bl := Lib.hid b0
  generalize demW nw sk ag ss rn lf tu nx 1000000 = V at HC ⊢
  clear hrc hn b0 hw
  go_enter Try.func36, Try.ntmps36
  go_wp2_with fail
  refine HC.out.mono ?_
  rintro e w2 ⟨rfl, bb⟩
  have Bl3 := Lib.hid (Bl.out.trans (bb.mono Bl.out.size))
  clear bb HC
  go_wp2_with fail
  go_ret
  exact ⟨rfl, Bl3.out⟩
theorem due_le {nw sk ag : Int} {ss : List Tsk} {rn lf tu nx : Int} (h : schB nw sk ag ss rn lf tu nx = true) {t : Tsk} (ht : t ∈ ss) : t.td ≤ 1000000 :=
  (inB_iff.1 (taskB_iff.1 ((sch_facts h).2 t ht)).2.2.2.2.1).2
set_option maxRecDepth 100000 in
set_option maxHeartbeats 2000000 in
theorem demandAtS (nw sk ag : Int) (A : Option Addr) (n p : Nat) (ss : List Tsk) (rn lf tu nx d : Int) (W : World) (hrc : RdC W A n ss) (hn : n + bigTsk ss ≤ 1048576) (hw : (Lit.int .i64 rn).wf = true) :
    Calls Try.prog 29 #[.agg #[.int .i64 nw, .int .i64 sk, .int .i64 ag, .slice A n p, .int .i64 rn, .int .i64 lf, .int .i64 tu, .int .i64 nx], .int .i64 d] W fun e W' => e = .returned (.int .i64 (demW nw sk ag ss rn lf tu nx d)) ∧ Below W.heap.size W W' := by
  have b0 := (Below.refl _ W).alloc (Nat.le_refl _) (.cells #[.int .i64 nw, .int .i64 sk, .int .i64 ag, .slice A n p, .int .i64 rn, .int .i64 lf, .int .i64 tu, .int .i64 nx] 29)
  have K := Lib.hid (Bk.new W 29 #[.int .i64 nw, .int .i64 sk, .int .i64 ag, .slice A n p, .int .i64 rn, .int .i64 lf, .int .i64 tu, .int .i64 nx])
  have HR0 := Lib.hid (hrc.of_below b0)
  have Bl := Lib.hid b0
  have HL := Lib.hid hrc.1.1
  have hn1 : (n : Int) ≤ 1048576 := by omega
  obtain ⟨R, hR⟩ : ∃ R, schB nw sk ag ss rn lf tu nx = R := ⟨_, rfl⟩
  obtain ⟨V, hV⟩ : ∃ V, V = demW nw sk ag ss rn lf tu nx d := ⟨_, rfl⟩
  rw [← hV]
  have HR := Lib.hid hR
  have HV := Lib.hid hV
  have HSO := Lib.hid (fun w h => schedOkS nw sk ag A n p ss rn lf tu nx w h hn)
  rw [hR] at HSO
  have HRM := Lib.hid (fun id w h hwi => remainOfS nw sk ag A n p ss rn lf tu nx id w h hn hw hwi)
  clear hrc b0 hR hV hn hw
  go_enter Try.func29, Try.ntmps29
  go_wp2_with fail
  generalize W.alloc (.cells #[.int .i64 nw, .int .i64 sk, .int .i64 ag, .slice A n p, .int .i64 rn, .int .i64 lf, .int .i64 tu, .int .i64 nx] 29) = v at K HR0 Bl ⊢
  generalize W.heap.size = g at K ⊢
  refine (HSO.out v HR0.out.1).mono ?_
  rintro e w1 ⟨rfl, bb⟩
  replace K := Lib.hid (K.out.below bb)
  replace HR0 := Lib.hid (HR0.out.of_below bb)
  replace Bl := Lib.hid (Bl.out.trans (bb.mono Bl.out.size))
  clear bb HSO
  rcases R with _ | _
  · obtain rfl : V = -1 := by rw [HV.out, demW_no HR.out]
    go_wp2_with fail
    go_ret
    exact ⟨rfl, Bl.out⟩
  have hVb : V = demV rn lf d ss := by rw [HV.out, demW_yes HR.out]
  have HVB := Lib.hid hVb
  have h12 : ss.length ≤ 12 := (schB_iff.1 HR.out).2.1
  have HBT := Lib.hid (demT_bd HR.out d)
  clear hVb HV
  go_wp2_with fail
  go_loopw [5, 6] (fun q i wr => ∃ k : Nat, k ≤ n ∧ i = .int .i64 k ∧ q = .int .i64 (demV rn lf d (ss.take k)) ∧ Hid (RdC wr A n ss) ∧ Hid (Bk wr g 29 #[.int .i64 nw, .int .i64 sk, .int .i64 ag, .slice A n p, .int .i64 rn, .int .i64 lf, .int .i64 tu, .int .i64 nx]) ∧ Hid (Below W.heap.size W wr)) (fun _ i _ => n - (intOf i).toNat)
  case atStart => exact ⟨0, Nat.zero_le _, rfl, rfl, HR0, K, Bl⟩
  case round =>
    clear HR0 K Bl
    obtain ⟨k, hk, rfl, rfl, HR0, K, Bl⟩ := hrel
    have c0 := K.out.cell 0 rfl
    have c1 := K.out.cell 1 rfl
    have c2 := K.out.cell 2 rfl
    have c3 := K.out.cell 3 rfl
    have c4 := K.out.cell 4 rfl
    have c5 := K.out.cell 5 rfl
    have c6 := K.out.cell 6 rfl
    have c7 := K.out.cell 7 rfl
    by_cases hlt : k < n
    · obtain ⟨b, off, ti1, ta1, td1, tb1, A', n', p', xs, rfl, hbs, hj, ht⟩ := HR0.out.1.at hlt
      obtain ⟨e0, e1, e2, e3, e4⟩ := ht.cells
      have hmem := List.mem_of_getElem? hj
      have hrm := HRM.out ti1 _ HR0.out (wf_small (by have := inB_iff.1 (taskB_iff.1 ((sch_facts HR.out).2 _ hmem)).1; simp only at this; omega))
      have hfo := find_own HR.out hmem
      have hval : remW nw sk ag ss rn lf tu nx ti1 = remV ⟨ti1, ta1, td1, tb1, xs⟩ rn lf := by
        unfold remW
        rw [HR.out]
        simp only at hfo
        simp [hfo]
      have hbv := task_rem HR.out hmem
      have hsb := demV_bd (fun t (h : t ∈ ss.take k) => HBT.out t (List.mem_of_mem_take h))
      have hlk : (ss.take k).length ≤ k := List.length_take_le _ _
      have hdt := demV_take (rn := rn) (lf := lf) (d := d) hj
      have hdue := due_le HR.out hmem
      simp only at hdue
      have hk12 : k ≤ 12 := by have := HL.out; omega
      have hRMg : Hid (∀ w, Below wr.heap.size wr w → Calls Try.prog 19 #[.agg #[.int .i64 nw, .int .i64 sk, .int .i64 ag, .slice (some ⟨b, off, none⟩) n p, .int .i64 rn, .int .i64 lf, .int .i64 tu, .int .i64 nx], .int .i64 ti1] w fun e W' => e = .returned (.int .i64 (remV ⟨ti1, ta1, td1, tb1, xs⟩ rn lf)) ∧ Below w.heap.size w W') := Lib.hid (fun w hb => by
        have := HRM.out ti1 w (HR0.out.of_below hb) (wf_small (by have := inB_iff.1 (taskB_iff.1 ((sch_facts HR.out).2 _ hmem)).1; simp only at this; omega))
        rw [hval] at this
        exact this)
      generalize hvv : remV ⟨ti1, ta1, td1, tb1, xs⟩ rn lf = v1 at hbv hRMg
      have hT : demT rn lf d ⟨ti1, ta1, td1, tb1, xs⟩ = if td1 ≤ d then v1 else 0 := by rw [← hvv]; rfl
      rw [hT] at hdt
      have HDT := Lib.hid hdt
      generalize demV rn lf d (ss.take k) = S at hsb HDT ⊢
      clear ht hj hmem hrm hfo hval hdt hT hvv hbs
      have hi : (k : Int) < (n : Int) := by omega
      have hS1 : -12000 ≤ S ∧ S ≤ 84000 := by omega
      clear hsb
      by_cases hdd : td1 ≤ d
      case neg =>
        have HX : Hid (demV rn lf d (ss.take (k + 1)) = S) := Lib.hid (by rw [HDT.out, if_neg hdd, Int.add_zero])
        go_wp2_with fail
        go_roundw
        case rel => exact ⟨k + 1, by omega, by go_num, by rw [HX.out], HR0, K, Bl⟩
        case measure => simp [intOf]; omega
      have HX : Hid (demV rn lf d (ss.take (k + 1)) = S + v1) := Lib.hid (by rw [HDT.out, if_pos hdd])
      have hwr : IntKind.i64.wrap (S + v1) = S + v1 := IntWalk.i64_in _ (by omega)
      go_wp2_with fail
      replace c0 := cell_regrown c0
      replace c1 := cell_regrown c1
      replace c2 := cell_regrown c2
      replace c3 := cell_regrown c3
      replace c4 := cell_regrown c4
      replace c5 := cell_regrown c5
      replace c6 := cell_regrown c6
      replace c7 := cell_regrown c7
      replace e0 := cell_regrown e0
      replace e1 := cell_regrown e1
      replace e2 := cell_regrown e2
      replace e3 := cell_regrown e3
      replace e4 := cell_regrown e4
      have q0 := Lib.hid (fun dd os => Calls.regrown_of (hRMg.out (grow (redrawn wr dd) os) (below_regrown wr dd os)))
      refine wp_region_quiet_below mixed (by kernel_rfl) ?_
      repeat (go_big_quiet_step (first | with_reducible exact q0.out _ _))
      refine wpQuiet_nil ?_
      intro _ hw'
      obtain ⟨⟨dq, osq⟩, rfl⟩ := hw'
      have HR3 := Lib.hid (HR0.out.of_below (below_regrown wr dq osq))
      have K3 := Lib.hid (K.out.below (below_regrown wr dq osq))
      have HB3 := Lib.hid (Bl.out.trans ((below_regrown wr dq osq).mono Bl.out.size))
      clear c0 c1 c2 c3 c4 c5 c6 c7 e0 e1 e2 e3 e4 q0 hwr hRMg
      generalize grow (redrawn wr dq) osq = u9 at HR3 K3 HB3 ⊢
      go_wp2_with fail
      go_roundw
      case rel => exact ⟨k + 1, by omega, by go_num, by rw [HX.out], HR3, K3, HB3⟩
      case measure => simp [intOf]; omega
    · obtain rfl : k = n := by omega
      have hte : ss.take k = ss := List.take_of_length_le (by rw [HL.out]; exact Nat.le_refl _)
      rw [hte, ← HVB.out]
      clear hte
      go_wp2_with fail
      go_ret
      exact ⟨rfl, Bl.out⟩
set_option maxRecDepth 100000 in
set_option maxHeartbeats 2000000 in
theorem workLeftS (nw sk ag : Int) (A : Option Addr) (n p : Nat) (ss : List Tsk) (rn lf tu nx : Int) (W : World) (hrc : RdC W A n ss) (hn : n + bigTsk ss ≤ 1048576) (hw : (Lit.int .i64 rn).wf = true) :
    Calls Try.prog 35 #[.agg #[.int .i64 nw, .int .i64 sk, .int .i64 ag, .slice A n p, .int .i64 rn, .int .i64 lf, .int .i64 tu, .int .i64 nx]] W fun e W' => e = .returned (.int .i64 (demW nw sk ag ss rn lf tu nx 1000000)) ∧ Below W.heap.size W W' := by
  have b0 := (Below.refl _ W).alloc (Nat.le_refl _) (.cells #[.int .i64 nw, .int .i64 sk, .int .i64 ag, .slice A n p, .int .i64 rn, .int .i64 lf, .int .i64 tu, .int .i64 nx] 29)
  have K := Lib.hid (Bk.new W 29 #[.int .i64 nw, .int .i64 sk, .int .i64 ag, .slice A n p, .int .i64 rn, .int .i64 lf, .int .i64 tu, .int .i64 nx])
  have HR0 := Lib.hid (hrc.of_below b0)
  have Bl := Lib.hid b0
  have HL := Lib.hid hrc.1.1
  have hn1 : (n : Int) ≤ 1048576 := by omega
  obtain ⟨R, hR⟩ : ∃ R, schB nw sk ag ss rn lf tu nx = R := ⟨_, rfl⟩
  obtain ⟨V, hV⟩ : ∃ V, V = demW nw sk ag ss rn lf tu nx 1000000 := ⟨_, rfl⟩
  rw [← hV]
  have HR := Lib.hid hR
  have HV := Lib.hid hV
  have HSO := Lib.hid (fun w h => schedOkS nw sk ag A n p ss rn lf tu nx w h hn)
  rw [hR] at HSO
  have HRM := Lib.hid (fun id w h hwi => remainOfS nw sk ag A n p ss rn lf tu nx id w h hn hw hwi)
  clear hrc b0 hR hV hn hw
  go_enter Try.func35, Try.ntmps35
  go_wp2_with fail
  generalize W.alloc (.cells #[.int .i64 nw, .int .i64 sk, .int .i64 ag, .slice A n p, .int .i64 rn, .int .i64 lf, .int .i64 tu, .int .i64 nx] 29) = v at K HR0 Bl ⊢
  generalize W.heap.size = g at K ⊢
  refine (HSO.out v HR0.out.1).mono ?_
  rintro e w1 ⟨rfl, bb⟩
  replace K := Lib.hid (K.out.below bb)
  replace HR0 := Lib.hid (HR0.out.of_below bb)
  replace Bl := Lib.hid (Bl.out.trans (bb.mono Bl.out.size))
  clear bb HSO
  rcases R with _ | _
  · obtain rfl : V = -1 := by rw [HV.out, demW_no HR.out]
    go_wp2_with fail
    go_ret
    exact ⟨rfl, Bl.out⟩
  have hVb : V = demV rn lf 1000000 ss := by rw [HV.out, demW_yes HR.out]
  have HVB := Lib.hid hVb
  have h12 : ss.length ≤ 12 := (schB_iff.1 HR.out).2.1
  have HBT := Lib.hid (demT_bd HR.out 1000000)
  clear hVb HV
  go_wp2_with fail
  go_loopw [3, 4] (fun q i wr => ∃ k : Nat, k ≤ n ∧ i = .int .i64 k ∧ q = .int .i64 (demV rn lf 1000000 (ss.take k)) ∧ Hid (RdC wr A n ss) ∧ Hid (Bk wr g 29 #[.int .i64 nw, .int .i64 sk, .int .i64 ag, .slice A n p, .int .i64 rn, .int .i64 lf, .int .i64 tu, .int .i64 nx]) ∧ Hid (Below W.heap.size W wr)) (fun _ i _ => n - (intOf i).toNat)
  case atStart => exact ⟨0, Nat.zero_le _, rfl, rfl, HR0, K, Bl⟩
  case round =>
    clear HR0 K Bl
    obtain ⟨k, hk, rfl, rfl, HR0, K, Bl⟩ := hrel
    have c0 := K.out.cell 0 rfl
    have c1 := K.out.cell 1 rfl
    have c2 := K.out.cell 2 rfl
    have c3 := K.out.cell 3 rfl
    have c4 := K.out.cell 4 rfl
    have c5 := K.out.cell 5 rfl
    have c6 := K.out.cell 6 rfl
    have c7 := K.out.cell 7 rfl
    by_cases hlt : k < n
    · obtain ⟨b, off, ti1, ta1, td1, tb1, A', n', p', xs, rfl, hbs, hj, ht⟩ := HR0.out.1.at hlt
      obtain ⟨e0, e1, e2, e3, e4⟩ := ht.cells
      have hmem := List.mem_of_getElem? hj
      have hrm := HRM.out ti1 _ HR0.out (wf_small (by have := inB_iff.1 (taskB_iff.1 ((sch_facts HR.out).2 _ hmem)).1; simp only at this; omega))
      have hfo := find_own HR.out hmem
      have hval : remW nw sk ag ss rn lf tu nx ti1 = remV ⟨ti1, ta1, td1, tb1, xs⟩ rn lf := by
        unfold remW
        rw [HR.out]
        simp only at hfo
        simp [hfo]
      have hbv := task_rem HR.out hmem
      have hsb := demV_bd (fun t (h : t ∈ ss.take k) => HBT.out t (List.mem_of_mem_take h))
      have hlk : (ss.take k).length ≤ k := List.length_take_le _ _
      have hdt := demV_take (rn := rn) (lf := lf) (d := 1000000) hj
      have hdue := due_le HR.out hmem
      simp only at hdue
      have hk12 : k ≤ 12 := by have := HL.out; omega
      have hRMg : Hid (∀ w, Below wr.heap.size wr w → Calls Try.prog 19 #[.agg #[.int .i64 nw, .int .i64 sk, .int .i64 ag, .slice (some ⟨b, off, none⟩) n p, .int .i64 rn, .int .i64 lf, .int .i64 tu, .int .i64 nx], .int .i64 ti1] w fun e W' => e = .returned (.int .i64 (remV ⟨ti1, ta1, td1, tb1, xs⟩ rn lf)) ∧ Below w.heap.size w W') := Lib.hid (fun w hb => by
        have := HRM.out ti1 w (HR0.out.of_below hb) (wf_small (by have := inB_iff.1 (taskB_iff.1 ((sch_facts HR.out).2 _ hmem)).1; simp only at this; omega))
        rw [hval] at this
        exact this)
      generalize hvv : remV ⟨ti1, ta1, td1, tb1, xs⟩ rn lf = v1 at hbv hRMg
      have hT : demT rn lf 1000000 ⟨ti1, ta1, td1, tb1, xs⟩ = if td1 ≤ 1000000 then v1 else 0 := by rw [← hvv]; rfl
      rw [hT] at hdt
      have HDT := Lib.hid hdt
      generalize demV rn lf 1000000 (ss.take k) = S at hsb HDT ⊢
      clear ht hj hmem hrm hfo hval hdt hT hvv hbs
      have hi : (k : Int) < (n : Int) := by omega
      have hS1 : -12000 ≤ S ∧ S ≤ 84000 := by omega
      clear hsb
      have HX : Hid (demV rn lf 1000000 (ss.take (k + 1)) = S + v1) := Lib.hid (by rw [HDT.out, if_pos hdue])
      have hwr : IntKind.i64.wrap (S + v1) = S + v1 := IntWalk.i64_in _ (by omega)
      go_wp2_with fail
      replace c0 := cell_regrown c0
      replace c1 := cell_regrown c1
      replace c2 := cell_regrown c2
      replace c3 := cell_regrown c3
      replace c4 := cell_regrown c4
      replace c5 := cell_regrown c5
      replace c6 := cell_regrown c6
      replace c7 := cell_regrown c7
      replace e0 := cell_regrown e0
      replace e1 := cell_regrown e1
      replace e2 := cell_regrown e2
      replace e3 := cell_regrown e3
      replace e4 := cell_regrown e4
      have q0 := Lib.hid (fun dd os => Calls.regrown_of (hRMg.out (grow (redrawn wr dd) os) (below_regrown wr dd os)))
      refine wp_region_quiet_below mixed (by kernel_rfl) ?_
      repeat (go_big_quiet_step (first | with_reducible exact q0.out _ _))
      refine wpQuiet_nil ?_
      intro _ hw'
      obtain ⟨⟨dq, osq⟩, rfl⟩ := hw'
      have HR3 := Lib.hid (HR0.out.of_below (below_regrown wr dq osq))
      have K3 := Lib.hid (K.out.below (below_regrown wr dq osq))
      have HB3 := Lib.hid (Bl.out.trans ((below_regrown wr dq osq).mono Bl.out.size))
      clear c0 c1 c2 c3 c4 c5 c6 c7 e0 e1 e2 e3 e4 q0 hwr hRMg
      generalize grow (redrawn wr dq) osq = u9 at HR3 K3 HB3 ⊢
      go_wp2_with fail
      go_roundw
      case rel => exact ⟨k + 1, by omega, by go_num, by rw [HX.out], HR3, K3, HB3⟩
      case measure => simp [intOf]; omega
    · obtain rfl : k = n := by omega
      have hte : ss.take k = ss := List.take_of_length_le (by rw [HL.out]; exact Nat.le_refl _)
      rw [hte, ← HVB.out]
      clear hte
      go_wp2_with fail
      go_ret
      exact ⟨rfl, Bl.out⟩
end Qt
end Go.Proofs.Ytihnpfcjnfkfjaa
