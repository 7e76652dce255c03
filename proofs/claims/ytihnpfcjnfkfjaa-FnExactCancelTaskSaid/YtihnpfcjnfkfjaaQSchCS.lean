/- What l07Copy of the model gives when it is called: a schedule in memory of the call's own. Conditions: the slice of tasks reads as the list that is named. -/
import Derived.Test.YtihnpfcjnfkfjaaQSchCopy
namespace Go.Proofs.Ytihnpfcjnfkfjaa
open Go.RowKit Go.Sort
set_option linter.unusedSimpArgs false
set_option linter.unusedVariables false
namespace Qt
set_option maxRecDepth 100000 in
set_option maxHeartbeats 6000000 in
theorem copySchS (nw sk ag : Int) (A : Option Addr) (n p : Nat) (ss : List Tsk) (rn lf tu nx : Int) (W : World) (hr : RdTsk W A n ss) (hn : n + bigTsk ss ≤ 1048576) :
    Calls Try.prog 61 #[.agg #[.int .i64 nw, .int .i64 sk, .int .i64 ag, .slice A n p, .int .i64 rn, .int .i64 lf, .int .i64 tu, .int .i64 nx]] W (SchR W nw sk ag ss rn lf tu nx) := by
  obtain ⟨i0, hi, hz0, hz1, hz2⟩ := info_parts infoTk
  have b1 := (((Below.refl _ W).alloc (Nat.le_refl _) (.cells #[.int .i64 nw, .int .i64 sk, .int .i64 ag, .slice A n p, .int .i64 rn, .int .i64 lf, .int .i64 tu, .int .i64 nx] 29)).alloc (by simp) (.cells #[.int .i64 0, .int .i64 0, .int .i64 0, .slice none 0 0, .int .i64 0, .int .i64 0, .int .i64 0, .int .i64 0] 29)).alloc (by simp only [World.size_alloc]; omega) (.cells #[.int .i64 nw, .int .i64 sk, .int .i64 ag, .slice none 0 0, .int .i64 rn, .int .i64 lf, .int .i64 tu, .int .i64 nx] 29)
  have kr := ((Bk.new W 29 #[.int .i64 nw, .int .i64 sk, .int .i64 ag, .slice A n p, .int .i64 rn, .int .i64 lf, .int .i64 tu, .int .i64 nx]).alloc (.cells #[.int .i64 0, .int .i64 0, .int .i64 0, .slice none 0 0, .int .i64 0, .int .i64 0, .int .i64 0, .int .i64 0] 29)).alloc (.cells #[.int .i64 nw, .int .i64 sk, .int .i64 ag, .slice none 0 0, .int .i64 rn, .int .i64 lf, .int .i64 tu, .int .i64 nx] 29)
  have ko := (Bk.new (W.alloc (.cells #[.int .i64 nw, .int .i64 sk, .int .i64 ag, .slice A n p, .int .i64 rn, .int .i64 lf, .int .i64 tu, .int .i64 nx] 29)) 29 #[.int .i64 0, .int .i64 0, .int .i64 0, .slice none 0 0, .int .i64 0, .int .i64 0, .int .i64 0, .int .i64 0]).alloc (.cells #[.int .i64 nw, .int .i64 sk, .int .i64 ag, .slice none 0 0, .int .i64 rn, .int .i64 lf, .int .i64 tu, .int .i64 nx] 29)
  have ks := Bk.new ((W.alloc (.cells #[.int .i64 nw, .int .i64 sk, .int .i64 ag, .slice A n p, .int .i64 rn, .int .i64 lf, .int .i64 tu, .int .i64 nx] 29)).alloc (.cells #[.int .i64 0, .int .i64 0, .int .i64 0, .slice none 0 0, .int .i64 0, .int .i64 0, .int .i64 0, .int .i64 0] 29)) 29 #[.int .i64 nw, .int .i64 sk, .int .i64 ag, .slice none 0 0, .int .i64 rn, .int .i64 lf, .int .i64 tu, .int .i64 nx]
  simp only [World.size_alloc] at ko ks
  have B1 := Lib.hid b1
  have KR := Lib.hid kr
  have KO := Lib.hid ko
  have KS := Lib.hid ks
  have HG := Lib.hid (show W.heap.size < W.heap.size + 1 ∧ W.heap.size + 1 < W.heap.size + 1 + 1 by omega)
  have HR := Lib.hid hr
  have HL := Lib.hid hr.1
  have HN := Lib.hid hn
  have hnb : (n : Int) ≤ 1048576 := by omega
  clear b1 kr ko ks hr hn
  go_enter Try.func61, Try.ntmps61
  go_wp2_with fail
  generalize ((W.alloc (.cells #[.int .i64 nw, .int .i64 sk, .int .i64 ag, .slice A n p, .int .i64 rn, .int .i64 lf, .int .i64 tu, .int .i64 nx] 29)).alloc (.cells #[.int .i64 0, .int .i64 0, .int .i64 0, .slice none 0 0, .int .i64 0, .int .i64 0, .int .i64 0, .int .i64 0] 29)).alloc (.cells #[.int .i64 nw, .int .i64 sk, .int .i64 ag, .slice none 0 0, .int .i64 rn, .int .i64 lf, .int .i64 tu, .int .i64 nx] 29) = v at B1 KR KO KS ⊢
  generalize W.heap.size + 1 + 1 = gs at KS HG ⊢
  generalize W.heap.size + 1 = go at KO HG ⊢
  generalize hgr : W.heap.size = gr at KR HG ⊢
  have HGR := Lib.hid hgr
  clear hgr
  have HSG := Lib.hid (show gs < v.heap.size from KS.out.lt)
  have HWW := Lib.hid B1.out.size
  go_loopw [4] (fun i wr => ∃ (k : Nat) (V : Value) (Ps : List TskP), k ≤ n ∧ i = .int .i64 k ∧ Hid (GrTsk v.heap.size wr V (ss.take k) Ps) ∧ Hid (Bk wr gs 29 #[.int .i64 nw, .int .i64 sk, .int .i64 ag, V, .int .i64 rn, .int .i64 lf, .int .i64 tu, .int .i64 nx]) ∧ Hid (Touch gs (gs + 1) v wr)) (fun i _ => n - (intOf i).toNat)
  case atStart => exact ⟨0, _, [], Nat.zero_le _, rfl, Lib.hid (GrTsk.nil _ _), KS, Lib.hid (Touch.refl _ _ _)⟩
  case round =>
    clear KS
    obtain ⟨k, V, Ps, hk, rfl, HGR1, KS, HT⟩ := hrel
    have hg := HG.out
    have hsg := HSG.out
    have hgr := HGR.out
    have hbl : Below W.heap.size W wr := B1.out.trans ((HT.out.isBelow (Nat.le_of_lt hsg)).mono (by omega))
    have Bl := Lib.hid hbl
    have KRr := Lib.hid (HT.out.bk KR.out (.inl (by omega)))
    have KOr := Lib.hid (HT.out.bk KO.out (.inl (by omega)))
    have hsw := HT.out.size
    have HSW := Lib.hid hsw
    clear hbl
    have r3 := KRr.out.cell 3 rfl
    by_cases hlt : k < n
    · obtain ⟨b, off, ti1, ta1, td1, tb1, A1, n1, p1, xs, rfl, hbs, hj, hat⟩ := (HR.out.of_below Bl.out).at hlt
      obtain ⟨e0, e1, e2, e3, e4⟩ := hat.cells
      have hrd := hat.rds
      have HTK : Hid (ss.take (k + 1) = ss.take k ++ [⟨ti1, ta1, td1, tb1, xs⟩]) := Lib.hid (by rw [List.take_add_one, hj]; rfl)
      have hxl := bigTsk_at1 hj
      have HXL : Hid (n1 ≤ 1048576) := Lib.hid (by have h1 := hrd.1; have h2 := HN.out; omega)
      have HRD := Lib.hid hrd
      have HLT : Hid ((ss.take k).length = k) := Lib.hid (by rw [List.length_take]; have := HL.out; omega)
      have hi' : (k : Int) < (n : Int) := by omega
      have ba := (Below.refl wr.heap.size wr).alloc (Nat.le_refl _) (.cells #[.int .i64 ti1, .slice A1 n1 p1, .int .i64 ta1, .int .i64 td1, .int .i64 tb1] 53)
      have KT := Lib.hid (Bk.new wr 53 #[.int .i64 ti1, .slice A1 n1 p1, .int .i64 ta1, .int .i64 td1, .int .i64 tb1])
      have BA := Lib.hid ba
      clear hj hat hrd hxl hbs ba
      go_wp2_with fail
      clear e0 e1 e2 e3 e4
      generalize wr.alloc (.cells #[.int .i64 ti1, .slice A1 n1 p1, .int .i64 ta1, .int .i64 td1, .int .i64 tb1] 53) = w3 at KT BA ⊢
      obtain ⟨gt, hgtd⟩ : ∃ gt, wr.heap.size = gt := ⟨_, rfl⟩
      rw [hgtd] at KT
      try rw [hgtd]
      have KT := Lib.hid KT.out
      have HGTD := Lib.hid hgtd
      clear hgtd
      with_reducible refine (copyS A1 n1 p1 xs _ (HRD.out.of_below BA.out) HXL.out).mono ?_
      rintro e w4 ⟨A', cap', rfl, ho, bb⟩
      have HB4 := Lib.hid (BA.out.trans (bb.mono BA.out.size))
      have HO4 := Lib.hid ho
      have KT4 := Lib.hid (KT.out.below bb)
      have KS4 := Lib.hid (KS.out.below HB4.out)
      have HSA := Lib.hid (show wr.heap.size ≤ w3.heap.size from BA.out.size)
      clear bb ho
      have z0 := KT4.out.cell 0 rfl
      have z1 := KT4.out.cell 1 rfl
      have z2 := KT4.out.cell 2 rfl
      have z3 := KT4.out.cell 3 rfl
      have z4 := KT4.out.cell 4 rfl
      have y0 := KT4.out.frozen 0
      have y1 := KT4.out.frozen 1
      have y2 := KT4.out.frozen 2
      have y3 := KT4.out.frozen 3
      have y4 := KT4.out.frozen 4
      have s3 := KS4.out.cell 3 rfl
      have s3f := KS4.out.frozen 3
      have hne : gs ≠ gt := by have := HGTD.out; omega
      -- the world with the copy laid into the task
      have KT5 := Lib.hid (KT4.out.set 1 (.slice A' n1 cap'))
      have KS5 := Lib.hid (KS4.out.far (p := ⟨gt, 1, none⟩) hne (.slice A' n1 cap'))
      have HO5 := Lib.hid (HO4.out.lowR (p := ⟨gt, 1, none⟩) (by have := KT.out.lt; exact this) (.slice A' n1 cap'))
      have hlow : Below wr.heap.size wr (w4.setCell ⟨gt, 1, none⟩ (.slice A' n1 cap')) := HB4.out.setCell (p := ⟨gt, 1, none⟩) (by have := HGTD.out; simp only; omega) _
      have HB5 := Lib.hid hlow
      clear hlow
      have H63 : Hid (k + 1 ≤ maxLen ∧ (k + 1) * 56 ≤ 140737488355328) := Lib.hid ⟨by unfold maxLen; omega, by omega⟩
      have HRW := Lib.hid (show (w4.setCell ⟨gt, 1, none⟩ (.slice A' n1 cap')).ownsRow v.heap.size 53 5 V k (celTsk (ss.take k) Ps) by have h := (HGR1.out.of_below HB5.out).row; rw [HLT.out] at h; exact h)
      have HVB := Lib.hid (fun g e => HGR1.out.lt (g := g) e)
      have HWB : Hid (v.heap.size ≤ w4.heap.size) := Lib.hid (by have h1 := HSA.out; have h2 := HB4.out.size; omega)
      have hrs := r3
      clear r3
      have r3 := (KRr.out.below HB4.out).cell 3 rfl
      go_wp2_with (at_builtin; go_loud (refine wpList_append_lies _ rfl _ _ _ rfl v.heap.size 53 i0 (.agg #[.int .i64 0, .slice none 0 0, .int .i64 0, .int .i64 0, .int .i64 0]) 5 56 Try.underlying27 hi hz0 hz1 hz2 rfl (by omega) V k (celTsk (ss.take k) Ps) rfl (HRW.out.alloc _) ⟨w4.heap.size, 0, none⟩ 1 1 [.int .i64 ti1, .slice A' n1 cap', .int .i64 ta1, .int .i64 td1, .int .i64 tb1] rfl rfl ?c1 ?c2 (by omega) H63.out.1 H63.out.2 ?c5 (w4.heap.size + 1) ?c6 ?_))
      case c1 =>
        have hn := Bk.new (w4.setCell ⟨gt, 1, none⟩ (.slice A' n1 cap')) 53 #[.int .i64 ti1, .slice A' n1 cap', .int .i64 ta1, .int .i64 td1, .int .i64 tb1]
        rw [World.size_setCell] at hn
        exact World.news_of_block hn
      case c2 => simp [Value.oneCell']
      case c5 => simp; exact Nat.le_trans HWB.out (Nat.le_succ _)
      case c6 => simp
      intro gg cap w6 hown3 hgrow hat hlt3
      have hb6 : Below wr.heap.size wr ((w4.setCell ⟨gt, 1, none⟩ (.slice A' n1 cap')).alloc (.cells #[.int .i64 ti1, .slice A' n1 cap', .int .i64 ta1, .int .i64 td1, .int .i64 tb1] 53)) := HB5.out.alloc HB5.out.size _
      have KS6 := Lib.hid ((KS.out.below hb6).grown hgrow (fun e => by have := (HVB.out gs e.symm).1; omega))
      have gr3 := (GrTsk.snoc (V' := (.slice (some ⟨gg, 0, none⟩) (k + 1) cap)) (s := ⟨ti1, ta1, td1, tb1, xs⟩) (P := ⟨A', n1, cap'⟩) HGR1.out HB5.out hsw (HO5.out.base HSA.out) ((Below.refl _ _).alloc (Nat.le_refl _) _) (by rw [HLT.out]; exact hown3) hgrow (hat.elim (fun e => .inl e.symm) (fun e => .inr (by rw [e]; simp [Value.ownBlock])))).low (p := ⟨gs, 3, none⟩) hsg (.slice (some ⟨gg, 0, none⟩) (k + 1) cap)
      have ks3 := KS6.out.set 3 (.slice (some ⟨gg, 0, none⟩) (k + 1) cap)
      have ht3 := ((HT.out.below hb6).grownN hgrow (fun g e => (HVB.out g e).1)).setCell (g := gs) (i := 3) (Nat.le_refl _) (Nat.lt_succ_self _) (.slice (some ⟨gg, 0, none⟩) (k + 1) cap)
      simp only [List.setIfInBounds_toArray, List.set_cons_zero, List.set_cons_succ] at ks3
      have GR3 := Lib.hid gr3
      have KSN := Lib.hid ks3
      have HT3 := Lib.hid ht3
      have s6 := KS6.out.cell 3 rfl
      have s6f := KS6.out.frozen 3
      clear gr3 ks3 ht3 hown3 hgrow hat hlt3 hb6 s3 s3f z0 z1 z2 z3 z4 y0 y1 y2 y3 y4
      go_wp2_with fail
      go_roundw
      case rel => exact ⟨k + 1, _, _, by omega, by go_num, by rw [HTK.out]; exact GR3, KSN, HT3⟩
      case measure => simp [intOf]; omega
    · obtain rfl : k = n := by omega
      have hl := HL.out
      subst hl
      have hgr1 := HGR1.out
      rw [List.take_of_length_le (Nat.le_refl _)] at hgr1
      have HGF := Lib.hid hgr1
      clear hgr1 HGR1
      have KR := KRr
      have KO := KOr
      have c0 := KS.out.cell 0 rfl
      have c1 := KS.out.cell 1 rfl
      have c2 := KS.out.cell 2 rfl
      have c3 := KS.out.cell 3 rfl
      have c4 := KS.out.cell 4 rfl
      have c5 := KS.out.cell 5 rfl
      have c6 := KS.out.cell 6 rfl
      have c7 := KS.out.cell 7 rfl
      have d0 := KO.out.cell 0 rfl
      have d1 := KO.out.cell 1 rfl
      have d2 := KO.out.cell 2 rfl
      have d3 := KO.out.cell 3 rfl
      have d4 := KO.out.cell 4 rfl
      have d5 := KO.out.cell 5 rfl
      have d6 := KO.out.cell 6 rfl
      have d7 := KO.out.cell 7 rfl
      have f0 := KO.out.frozen 0
      have f1 := KO.out.frozen 1
      have f2 := KO.out.frozen 2
      have f3 := KO.out.frozen 3
      have f4 := KO.out.frozen 4
      have f5 := KO.out.frozen 5
      have f6 := KO.out.frozen 6
      have f7 := KO.out.frozen 7
      obtain ⟨A9, cap9, rfl, _⟩ := HGF.out.value
      have hgo : go < v.heap.size := by have := HG.out; have := HSG.out; omega
      have k9 := (((((((KO.out.set 0 (.int .i64 nw)).set 1 (.int .i64 sk)).set 2 (.int .i64 ag)).set 3 (.slice A9 ss.length cap9)).set 4 (.int .i64 rn)).set 5 (.int .i64 lf)).set 6 (.int .i64 tu)).set 7 (.int .i64 nx)
      have g9 := (((((((HGF.out.low (p := ⟨go, 0, none⟩) hgo (.int .i64 nw)).low (p := ⟨go, 1, none⟩) hgo (.int .i64 sk)).low (p := ⟨go, 2, none⟩) hgo (.int .i64 ag)).low (p := ⟨go, 3, none⟩) hgo (.slice A9 ss.length cap9)).low (p := ⟨go, 4, none⟩) hgo (.int .i64 rn)).low (p := ⟨go, 5, none⟩) hgo (.int .i64 lf)).low (p := ⟨go, 6, none⟩) hgo (.int .i64 tu)).low (p := ⟨go, 7, none⟩) hgo (.int .i64 nx)
      have hgw : W.heap.size ≤ go := by omega
      have b9 := (((((((Bl.out.setCell (p := ⟨go, 0, none⟩) hgw (.int .i64 nw)).setCell (p := ⟨go, 1, none⟩) hgw (.int .i64 sk)).setCell (p := ⟨go, 2, none⟩) hgw (.int .i64 ag)).setCell (p := ⟨go, 3, none⟩) hgw (.slice A9 ss.length cap9)).setCell (p := ⟨go, 4, none⟩) hgw (.int .i64 rn)).setCell (p := ⟨go, 5, none⟩) hgw (.int .i64 lf)).setCell (p := ⟨go, 6, none⟩) hgw (.int .i64 tu)).setCell (p := ⟨go, 7, none⟩) hgw (.int .i64 nx)
      simp only [List.setIfInBounds_toArray, List.set_cons_zero, List.set_cons_succ] at k9
      have K9 := Lib.hid k9
      have R9 : Hid (SchR W nw sk ag ss rn lf tu nx (.returned (.agg #[.int .i64 nw, .int .i64 sk, .int .i64 ag, .slice A9 ss.length cap9, .int .i64 rn, .int .i64 lf, .int .i64 tu, .int .i64 nx])) _) := Lib.hid ⟨_, Ps, rfl, g9.base HWW.out, b9⟩
      clear k9 g9 b9 hgw hgo
      go_wp2_with fail
      have z0 := K9.out.cell 0 rfl
      have z1 := K9.out.cell 1 rfl
      have z2 := K9.out.cell 2 rfl
      have z3 := K9.out.cell 3 rfl
      have z4 := K9.out.cell 4 rfl
      have z5 := K9.out.cell 5 rfl
      have z6 := K9.out.cell 6 rfl
      have z7 := K9.out.cell 7 rfl
      refine bodyPost_ret (v := .agg #[.int .i64 nw, .int .i64 sk, .int .i64 ag, .slice A9 ss.length cap9, .int .i64 rn, .int .i64 lf, .int .i64 tu, .int .i64 nx]) ?_ rfl R9.out
      clear R9
      simp [results, Try.results61, go_sem, z0, z1, z2, z3, z4, z5, z6, z7]
end Qt
end Go.Proofs.Ytihnpfcjnfkfjaa
