/- What a roster's sched gives when it is called: a schedule whose tasks are the map's, by Id, in memory of the call's own. Conditions: the map is one of the call's own and reads as the tasks, their Ids rise. -/
import Derived.Test.YtihnpfcjnfkfjaaQMT
import Derived.Test.YtihnpfcjnfkfjaaQTskGr
import Derived.Test.YtihnpfcjnfkfjaaQCloneI
import Derived.Test.YtihnpfcjnfkfjaaQLateI
import Derived.Deep.AppendLies
import Derived.Deep.RegionLaw
import Derived.Deep.RegionHeld3
namespace Go.Proofs.Ytihnpfcjnfkfjaa
open Go.RowKit Go.Sort
set_option linter.unusedSimpArgs false
set_option linter.unusedVariables false
namespace Qt
theorem infoTk : (Try.prog.info? 53).map (fun i => (i.zero, i.size, i.bytes)) = some (some (.agg #[.int .i64 0, .slice none 0 0, .int .i64 0, .int .i64 0, .int .i64 0]), 5, 56) := by kernel_rfl
/-- A schedule in memory of the call's own. -/
def SchR (W : World) (nw sk ag : Int) (ss : List Tsk) (rn lf tu nx : Int) (e : Ending) (W' : World) : Prop :=
  ∃ V Ps, e = .returned (.agg #[.int .i64 nw, .int .i64 sk, .int .i64 ag, V, .int .i64 rn, .int .i64 lf, .int .i64 tu, .int .i64 nx]) ∧ GrTsk W.heap.size W' V ss Ps ∧ Below W.heap.size W W'
theorem SchS3 {w : World} {gs gr : Nat} {V : Value} {b : Nat} {ti1 : Int} {T : Value} {cs ds : Array Value} {t1 t2 : TypeId} (hs : Bk w gs t1 cs) (hr : Bk w gr t2 ds) (hl : (Instr.lookup 56 (.map (some b)) (.int .i64 ti1) false).run Try.prog w = .ok T w) (h3 : cs[3]? = some V := by rfl) (h8 : ds[8]? = some (.map (some b)) := by rfl) :
    w.cell? ⟨gs, 3, none⟩ = some V ∧ w.cell? ⟨gr, 8, none⟩ = some (.map (some b)) ∧ (Instr.lookup 56 (.map (some b)) (.int .i64 ti1) false).run Try.prog w = .ok T w := ⟨hs.cell 3 h3, hr.cell 8 h8, hl⟩
theorem Touch.grownN {B C : Nat} {w w' w'' : World} (h : Touch B C w w') {row : Option Nat} (hg : w'.grownBy w'' row) (hne : ∀ g, row = some g → w.heap.size ≤ g) : Touch B C w w'' :=
  ⟨hg.os.trans h.os, hg.tape.trans h.tape, hg.output.trans h.output, Nat.le_trans h.size hg.size, fun k hk hc => (hg.block k (Nat.lt_of_lt_of_le hk h.size) (fun e => by have := hne k e.symm; omega)).trans (h.block k hk hc)⟩
set_option maxRecDepth 100000 in
set_option maxHeartbeats 4000000 in
theorem schedI (nw sk ag rn lf tu nx : Int) (b m : Nat) (ss : List Tsk) (D : DataW Value) (W : World) (hm : W.ownsMap Try.prog 3 asV b m D) (he : MT W D ss) (hd : ss.Pairwise (fun s t => s.ti < t.ti)) (hwf : ∀ t ∈ ss, (Lit.int .i64 t.ti).wf = true) (h12 : ss.length ≤ 1000) (hmm : m ≤ 1000) (hbig : bigTsk ss ≤ 1048576) :
    Calls Try.prog 65 #[.agg #[.int .i64 nw, .int .i64 sk, .int .i64 ag, .slice none 0 0, .int .i64 rn, .int .i64 lf, .int .i64 tu, .int .i64 nx, .map (some b)]] W (SchR W nw sk ag ss rn lf tu nx) := by
  obtain ⟨i0, hi, hz0, hz1, hz2⟩ := info_parts infoTk
  have b1 := (((Below.refl _ W).alloc (Nat.le_refl _) (.cells #[.int .i64 nw, .int .i64 sk, .int .i64 ag, .slice none 0 0, .int .i64 rn, .int .i64 lf, .int .i64 tu, .int .i64 nx, .map (some b)] 58)).alloc (by simp) (.cells #[.int .i64 0, .int .i64 0, .int .i64 0, .slice none 0 0, .int .i64 0, .int .i64 0, .int .i64 0, .int .i64 0] 29)).alloc (by simp only [World.size_alloc]; omega) (.cells #[.int .i64 nw, .int .i64 sk, .int .i64 ag, .slice none 0 0, .int .i64 rn, .int .i64 lf, .int .i64 tu, .int .i64 nx] 29)
  have kr := ((Bk.new W 58 #[.int .i64 nw, .int .i64 sk, .int .i64 ag, .slice none 0 0, .int .i64 rn, .int .i64 lf, .int .i64 tu, .int .i64 nx, .map (some b)]).alloc (.cells #[.int .i64 0, .int .i64 0, .int .i64 0, .slice none 0 0, .int .i64 0, .int .i64 0, .int .i64 0, .int .i64 0] 29)).alloc (.cells #[.int .i64 nw, .int .i64 sk, .int .i64 ag, .slice none 0 0, .int .i64 rn, .int .i64 lf, .int .i64 tu, .int .i64 nx] 29)
  have ko := (Bk.new (W.alloc (.cells #[.int .i64 nw, .int .i64 sk, .int .i64 ag, .slice none 0 0, .int .i64 rn, .int .i64 lf, .int .i64 tu, .int .i64 nx, .map (some b)] 58)) 29 #[.int .i64 0, .int .i64 0, .int .i64 0, .slice none 0 0, .int .i64 0, .int .i64 0, .int .i64 0, .int .i64 0]).alloc (.cells #[.int .i64 nw, .int .i64 sk, .int .i64 ag, .slice none 0 0, .int .i64 rn, .int .i64 lf, .int .i64 tu, .int .i64 nx] 29)
  have ks := Bk.new ((W.alloc (.cells #[.int .i64 nw, .int .i64 sk, .int .i64 ag, .slice none 0 0, .int .i64 rn, .int .i64 lf, .int .i64 tu, .int .i64 nx, .map (some b)] 58)).alloc (.cells #[.int .i64 0, .int .i64 0, .int .i64 0, .slice none 0 0, .int .i64 0, .int .i64 0, .int .i64 0, .int .i64 0] 29)) 29 #[.int .i64 nw, .int .i64 sk, .int .i64 ag, .slice none 0 0, .int .i64 rn, .int .i64 lf, .int .i64 tu, .int .i64 nx]
  simp only [World.size_alloc] at ko ks
  have B1 := Lib.hid b1
  have KR := Lib.hid kr
  have KO := Lib.hid ko
  have KS := Lib.hid ks
  have HG := Lib.hid (show W.heap.size < W.heap.size + 1 ∧ W.heap.size + 1 < W.heap.size + 1 + 1 by omega)
  have HM := Lib.hid hm
  have HE := Lib.hid he
  have HD := Lib.hid hd
  have HWF := Lib.hid hwf
  have HB := Lib.hid hbig
  clear b1 kr ko ks hm he hd hwf hbig
  go_enter Try.func65, Try.ntmps65
  go_wp2_with fail
  generalize ((W.alloc (.cells #[.int .i64 nw, .int .i64 sk, .int .i64 ag, .slice none 0 0, .int .i64 rn, .int .i64 lf, .int .i64 tu, .int .i64 nx, .map (some b)] 58)).alloc (.cells #[.int .i64 0, .int .i64 0, .int .i64 0, .slice none 0 0, .int .i64 0, .int .i64 0, .int .i64 0, .int .i64 0] 29)).alloc (.cells #[.int .i64 nw, .int .i64 sk, .int .i64 ag, .slice none 0 0, .int .i64 rn, .int .i64 lf, .int .i64 tu, .int .i64 nx] 29) = v at B1 KR KO KS ⊢
  generalize W.heap.size + 1 + 1 = gs at KS HG ⊢
  generalize W.heap.size + 1 = go at KO HG ⊢
  generalize hgr : W.heap.size = gr at KR HG ⊢
  have HGR := Lib.hid hgr
  clear hgr
  refine (keyP (some b) v).mono ?_
  rintro e u ⟨rfl, rfl⟩
  have HSO := Lib.hid (idsM (ownsMap_below HM.out B1.out) HE.out HD.out hmm)
  go_wp2_with fail
  refine HSO.out.mono ?_
  rintro e w1 ⟨VI, rfl, hrow, hb⟩
  have hbw : Below v.heap.size v w1 := ((Below.refl v.heap.size v).alloc (Nat.le_refl _) (.cells #[.map (some b)] 56)).trans (hb.mono (Nat.le_succ _))
  obtain ⟨A2, cap2, eA, hO, _⟩ := AnsI.of_own (W := v.alloc (.cells #[.map (some b)] 56)) (xs := ss.map Tsk.ti) (by simpa using hrow) (by simpa using hb)
  rw [List.length_map] at eA hO
  cases eA
  have HO := Lib.hid hO
  have KR1 := Lib.hid (KR.out.below hbw)
  have KO1 := Lib.hid (KO.out.below hbw)
  have KS1 := Lib.hid (KS.out.below hbw)
  have Bl1 := Lib.hid (B1.out.trans (hbw.mono B1.out.size))
  have HSG := Lib.hid (show gs < w1.heap.size from KS1.out.lt)
  have KSV := Lib.hid (show gs < v.heap.size from KS.out.lt)
  have HWW := Lib.hid Bl1.out.size
  clear hrow hb hO hbw KR KO KS HSO B1
  go_wp2_with fail
  go_loopw [13] (fun i wr => ∃ (k : Nat) (V : Value) (Ps : List TskP), k ≤ ss.length ∧ i = .int .i64 k ∧ Hid (GrTsk w1.heap.size wr V (ss.take k) Ps) ∧ Hid (Bk wr gs 29 #[.int .i64 nw, .int .i64 sk, .int .i64 ag, V, .int .i64 rn, .int .i64 lf, .int .i64 tu, .int .i64 nx]) ∧ Hid (Touch gs (gs + 1) w1 wr)) (fun i _ => ss.length - (intOf i).toNat)
  case atStart => exact ⟨0, _, [], Nat.zero_le _, rfl, Lib.hid (GrTsk.nil _ _), KS1, Lib.hid (Touch.refl _ _ _)⟩
  case round =>
    clear KS1
    obtain ⟨k, V, Ps, hk, rfl, HGR1, KS, HT⟩ := hrel
    have hg := HG.out
    have hsg := HSG.out
    have hgr := HGR.out
    have hbl : Below W.heap.size W wr := Bl1.out.trans ((HT.out.isBelow (Nat.le_of_lt hsg)).mono (by omega))
    have Bl := Lib.hid hbl
    have KR := Lib.hid (HT.out.bk KR1.out (.inl (by omega)))
    have KO := Lib.hid (HT.out.bk KO1.out (.inl (by omega)))
    have hsw := HT.out.size
    have HSW := Lib.hid hsw
    clear hbl
    by_cases hlt : k < ss.length
    · obtain ⟨t, hj⟩ : ∃ t, ss[k]? = some t := ⟨_, List.getElem?_eq_getElem hlt⟩
      have hmem := List.mem_of_getElem? hj
      obtain ⟨_, P, hat, hrd, _⟩ := (HE.out.of_below Bl.out).hit t hmem
      have hwf := HWF.out t hmem
      have HLK := Lib.hid (fun w (hb : Below W.heap.size W w) => lookM (ownsMap_below HM.out hb) hat hwf)
      have hids := HT.out.ownI HO.out (fun a h0 e => .inr (by
        obtain ⟨g, e2, hB, _⟩ := HO.out.2 h0
        rw [e] at e2
        cases e2
        have h5 := KSV.out
        simp only [World.size_alloc] at hB
        simp only
        omega))
      obtain ⟨gi, eg, _, _, hci⟩ := hids.2 (by omega)
      have hck := (hci k hlt).1
      have hgd : (ss.map Tsk.ti).getD k 0 = t.ti := by rw [List.getD_eq_getElem?_getD, List.getElem?_map, hj]; rfl
      rw [hgd] at hck
      subst eg
      have HTK : Hid (ss.take (k + 1) = ss.take k ++ [t]) := Lib.hid (by rw [List.take_add_one, hj]; rfl)
      have hxl := bigTsk_at hj
      have HXL : Hid (P.n ≤ 1048576) := Lib.hid (by have h1 := hrd.1; have h2 := HB.out; omega)
      have HRD := Lib.hid hrd
      have HLT : Hid ((ss.take k).length = k) := Lib.hid (by rw [List.length_take]; omega)
      obtain ⟨ti1, ta1, td1, tb1, xs⟩ := t
      obtain ⟨A1, n1, p1⟩ := P
      simp only [TV] at hck HLK HXL HRD
      have hi' : (k : Int) < (ss.length : Int) := by omega
      clear hj hmem hat hrd hwf hci hids hgd hxl
      go_wp2_with fail
      clear hck
      have hGd := HGR1.out.of_below (Below.refl _ wr).drew
      have HGD := Lib.hid hGd
      have c3 := KS.out.cell 3 rfl
      have c8 := KR.out.cell 8 rfl
      have SS0 : wr.drew.cell? ⟨gs, 3, none⟩ = some V ∧ wr.drew.cell? ⟨gr, 8, none⟩ = some (.map (some b)) ∧ (Instr.lookup 56 (.map (some b)) (.int .i64 ti1) false).run Try.prog wr.drew = .ok (.agg #[.int .i64 ti1, .slice A1 n1 p1, .int .i64 ta1, .int .i64 td1, .int .i64 tb1]) wr.drew := ⟨c3, c8, HLK.out _ Bl.out.drew⟩
      clear hGd
      have H63 : Hid ((ss.take k).length + 1 ≤ maxLen ∧ ((ss.take k).length + 1) * 56 ≤ 140737488355328) := Lib.hid (by have := HLT.out; exact ⟨by unfold maxLen; omega, by omega⟩)
      have HBS : Hid (∀ (w2 : World), wr.heap.size ≤ w2.heap.size → ∀ o, w1.heap.size ≤ (w2.alloc o).heap.size) := Lib.hid (fun w2 h o => by simp; omega)
      have HGNE : Hid (V.ownBlock ≠ some gs) := Lib.hid (fun e => by have := (HGR1.out.lt e).1; omega)
      have HGNR : Hid (V.ownBlock ≠ some gr) := Lib.hid (fun e => by have := (HGR1.out.lt e).1; omega)
      obtain ⟨d3, d8, dl⟩ := SS0
      go_region_law (first
          | (refine step_append_lies _ (by rfl) _ _ _ (by rfl) w1.heap.size 53 i0 (.agg #[.int .i64 0, .slice none 0 0, .int .i64 0, .int .i64 0, .int .i64 0]) 5 56 Try.underlying27 hi hz0 hz1 hz2 rfl (by omega) V (ss.take k).length (celTsk (ss.take k) Ps) (by rfl) (HRW.out.alloc _) ⟨w2.heap.size, 0, none⟩ 1 1 [.int .i64 ti1, .slice A' n1 cap', .int .i64 ta1, .int .i64 td1, .int .i64 tb1] (by rfl) (by rfl) (World.news_of_block (cs := #[.int .i64 ti1, .slice A' n1 cap', .int .i64 ta1, .int .i64 td1, .int .i64 tb1]) (t := 53) (fr := (0, 0)) (heap_alloc_new w2 _)) (by simp [Value.oneCell']) (by omega) H63.out.1 H63.out.2 (HBS.out w2 HB2.out.size _) (w2.heap.size + 1) (by simp) ?_; intro gg cap w3 hown3 hgrow hat hlt3; have HB3 : Hid (Below W.heap.size W w3) := Lib.hid ((HBW.out.alloc HBW.out.size _).grown hgrow (Nat.le_trans HBW.out.size (by simp)) (fun r hr => Nat.le_trans HWW.out (HRW.out.lt r hr).1)); have KS3 := Lib.hid ((KS.out.below (HB2.out.alloc HB2.out.size _)).grown hgrow (fun e => HGNE.out e.symm)); have f3 := KS3.out.frozen 3; have SS3 := SchS3 (V := V) (b := b) KS3.out ((KR.out.below (HB2.out.alloc HB2.out.size _)).grown hgrow (fun e => HGNR.out e.symm)) (HLK.out _ HB3.out))
          | (go_simp; go_at_call 83; (with_reducible refine (ownTaskI ti1 A1 n1 p1 ta1 td1 tb1 xs _ (HRD.out.of_below (Below.refl _ wr).drew) HXL.out).mono ?_); rintro e w2 ⟨A', cap', rfl, ho, bb⟩; have hb2 : Below wr.heap.size wr w2 := ((Below.refl wr.heap.size wr).drew).trans bb; have HB2 := Lib.hid hb2; have HO2 := Lib.hid ho; have HBB := Lib.hid bb; have HBW := Lib.hid (Bl.out.trans (hb2.mono Bl.out.size)); have SSa := fun o => SchS3 (V := V) (b := b) (KS.out.below (hb2.alloc hb2.size o)) (KR.out.below (hb2.alloc hb2.size o)) (HLK.out _ (HBW.out.alloc HBW.out.size o)); have SS2 := SchS3 (V := V) (b := b) (KS.out.below hb2) (KR.out.below hb2) (HLK.out _ HBW.out); have HRW := Lib.hid (HGD.out.of_below bb).row; clear bb hb2 ho))
      all_goals
        have gr3 := (GrTsk.snoc (s := ⟨ti1, ta1, td1, tb1, xs⟩) (P := ⟨A', n1, cap'⟩) HGD.out HBB.out (Nat.le_trans hsw (Nat.le_refl _)) HO2.out ((Below.refl w2.heap.size w2).alloc (Nat.le_refl _) _) hown3 hgrow (hat.elim (fun e => .inl e.symm) (fun e => .inr (by simp [Value.ownBlock, e])))).low (p := ⟨gs, 3, none⟩) hsg (.slice (some ⟨gg, 0, none⟩) ((ss.take k).length + 1) cap)
        have ks3 := KS3.out.set 3 (.slice (some ⟨gg, 0, none⟩) ((ss.take k).length + 1) cap)
        have ht3 := ((((HT.out.below (HB2.out)).below ((Below.refl w2.heap.size w2).alloc (Nat.le_refl _) _)).grownN hgrow (fun g e => (HRW.out.lt g e).1)).setCell (g := gs) (i := 3) (Nat.le_refl _) (Nat.lt_succ_self _) (.slice (some ⟨gg, 0, none⟩) ((ss.take k).length + 1) cap))
        simp only [HLT.out] at gr3 ks3 ht3
        simp only [List.setIfInBounds_toArray, List.set_cons_zero, List.set_cons_succ] at ks3
        have GR3 := Lib.hid gr3
        have KSN := Lib.hid ks3
        have HT3 := Lib.hid ht3
        clear f3 gr3 ks3 ht3 hown3 hgrow hat hlt3 SS3 SS2 SSa d3 d8 dl c3 c8
        go_wp2_with fail
        go_roundw
        case rel => exact ⟨k + 1, _, _, by omega, by go_num, by rw [HTK.out]; exact GR3, KSN, HT3⟩
        case measure => simp [intOf]; omega
    · obtain rfl : k = ss.length := by omega
      have hgr1 := HGR1.out
      rw [List.take_of_length_le (Nat.le_refl _)] at hgr1
      have HGF := Lib.hid hgr1
      clear hgr1 HGR1
      have c0 := KS.out.cell 0 rfl
      have c1 := KS.out.cell 1 rfl
      have c2 := KS.out.cell 2 rfl
      have c3 := KS.out.cell 3 rfl
      have c4 := KS.out.cell 4 rfl
      have c5 := KS.out.cell 5 rfl
      have c6 := KS.out.cell 6 rfl
      have c7 := KS.out.cell 7 rfl
      have d0 := KO.out.cell 0 rfl
      have d1 := KO.out.cell 1 rfl
      have d2 := KO.out.cell 2 rfl
      have d3 := KO.out.cell 3 rfl
      have d4 := KO.out.cell 4 rfl
      have d5 := KO.out.cell 5 rfl
      have d6 := KO.out.cell 6 rfl
      have d7 := KO.out.cell 7 rfl
      have f0 := KO.out.frozen 0
      have f1 := KO.out.frozen 1
      have f2 := KO.out.frozen 2
      have f3 := KO.out.frozen 3
      have f4 := KO.out.frozen 4
      have f5 := KO.out.frozen 5
      have f6 := KO.out.frozen 6
      have f7 := KO.out.frozen 7
      obtain ⟨A9, cap9, rfl, _⟩ := HGF.out.value
      have hgo : go < w1.heap.size := KO1.out.lt
      have k9 := (((((((KO.out.set 0 (.int .i64 nw)).set 1 (.int .i64 sk)).set 2 (.int .i64 ag)).set 3 (.slice A9 ss.length cap9)).set 4 (.int .i64 rn)).set 5 (.int .i64 lf)).set 6 (.int .i64 tu)).set 7 (.int .i64 nx)
      have g9 := (((((((HGF.out.low (p := ⟨go, 0, none⟩) hgo (.int .i64 nw)).low (p := ⟨go, 1, none⟩) hgo (.int .i64 sk)).low (p := ⟨go, 2, none⟩) hgo (.int .i64 ag)).low (p := ⟨go, 3, none⟩) hgo (.slice A9 ss.length cap9)).low (p := ⟨go, 4, none⟩) hgo (.int .i64 rn)).low (p := ⟨go, 5, none⟩) hgo (.int .i64 lf)).low (p := ⟨go, 6, none⟩) hgo (.int .i64 tu)).low (p := ⟨go, 7, none⟩) hgo (.int .i64 nx)
      have hgw : W.heap.size ≤ go := by omega
      have b9 := (((((((Bl.out.setCell (p := ⟨go, 0, none⟩) hgw (.int .i64 nw)).setCell (p := ⟨go, 1, none⟩) hgw (.int .i64 sk)).setCell (p := ⟨go, 2, none⟩) hgw (.int .i64 ag)).setCell (p := ⟨go, 3, none⟩) hgw (.slice A9 ss.length cap9)).setCell (p := ⟨go, 4, none⟩) hgw (.int .i64 rn)).setCell (p := ⟨go, 5, none⟩) hgw (.int .i64 lf)).setCell (p := ⟨go, 6, none⟩) hgw (.int .i64 tu)).setCell (p := ⟨go, 7, none⟩) hgw (.int .i64 nx)
      simp only [List.setIfInBounds_toArray, List.set_cons_zero, List.set_cons_succ] at k9
      have K9 := Lib.hid k9
      have R9 : Hid (SchR W nw sk ag ss rn lf tu nx (.returned (.agg #[.int .i64 nw, .int .i64 sk, .int .i64 ag, .slice A9 ss.length cap9, .int .i64 rn, .int .i64 lf, .int .i64 tu, .int .i64 nx])) _) := Lib.hid ⟨_, Ps, rfl, g9.base HWW.out, b9⟩
      clear k9 g9 b9 hgw hgo
      go_wp2_with fail
      have z0 := K9.out.cell 0 rfl
      have z1 := K9.out.cell 1 rfl
      have z2 := K9.out.cell 2 rfl
      have z3 := K9.out.cell 3 rfl
      have z4 := K9.out.cell 4 rfl
      have z5 := K9.out.cell 5 rfl
      have z6 := K9.out.cell 6 rfl
      have z7 := K9.out.cell 7 rfl
      refine bodyPost_ret (v := .agg #[.int .i64 nw, .int .i64 sk, .int .i64 ag, .slice A9 ss.length cap9, .int .i64 rn, .int .i64 lf, .int .i64 tu, .int .i64 nx]) ?_ rfl R9.out
      clear R9
      simp [results, Try.results65, go_sem, z0, z1, z2, z3, z4, z5, z6, z7]
end Qt
end Go.Proofs.Ytihnpfcjnfkfjaa
