/- What CancelTask (of the program and of its model) gives when it is called. Conditions: the slice of tasks reads as the list that is named, and each slice of costs has room for what it holds; the task under way and the Id are ints. -/
import Derived.Test.YtihnpfcjnfkfjaaQSchOff
import Derived.Test.YtihnpfcjnfkfjaaQRostI
namespace Go.Proofs.Ytihnpfcjnfkfjaa
open Go.RowKit Go.Sort
set_option linter.unusedSimpArgs false
set_option linter.unusedVariables false
namespace Qt
def canB (nw sk ag : Int) (ss : List Tsk) (rn lf tu nx id : Int) : Bool := schB nw sk ag ss rn lf tu nx && ss.any (fun t => t.ti == id)
def canT (nw sk ag : Int) (ss : List Tsk) (rn lf tu nx id : Int) : List Tsk := if canB nw sk ag ss rn lf tu nx id then offT id ss else ss
def canR (nw sk ag : Int) (ss : List Tsk) (rn lf tu nx id : Int) : Int := if canB nw sk ag ss rn lf tu nx id then rnC id rn else rn
def canL (nw sk ag : Int) (ss : List Tsk) (rn lf tu nx id : Int) : Int := if canB nw sk ag ss rn lf tu nx id then lfC id rn lf else lf
/-- An answer: a schedule in memory of the call's own, and whether. -/
def SchB (W : World) (nw sk ag : Int) (ss : List Tsk) (rn lf tu nx : Int) (B : Bool) (e : Ending) (W' : World) : Prop :=
  ∃ V Ps, e = .returned (.tuple #[.agg #[.int .i64 nw, .int .i64 sk, .int .i64 ag, V, .int .i64 rn, .int .i64 lf, .int .i64 tu, .int .i64 nx], .bool B]) ∧ GrTsk W.heap.size W' V ss Ps ∧ Below W.heap.size W W'
set_option maxRecDepth 100000 in
set_option maxHeartbeats 4000000 in
theorem cancelI (nw sk ag : Int) (A : Option Addr) (n p : Nat) (ss : List Tsk) (rn lf tu nx id : Int) (W : World) (hr : RdC W A n ss) (hn : n + bigTsk ss ≤ 1048576) (hw : (Lit.int .i64 rn).wf = true) (hwi : (Lit.int .i64 id).wf = true) :
    Calls Try.prog 38 #[.agg #[.int .i64 nw, .int .i64 sk, .int .i64 ag, .slice A n p, .int .i64 rn, .int .i64 lf, .int .i64 tu, .int .i64 nx], .int .i64 id] W (SchB W nw sk ag (canT nw sk ag ss rn lf tu nx id) (canR nw sk ag ss rn lf tu nx id) (canL nw sk ag ss rn lf tu nx id) tu nx (canB nw sk ag ss rn lf tu nx id)) := by
  have b0 := ((Below.refl _ W).alloc (Nat.le_refl _) (.cells #[.int .i64 nw, .int .i64 sk, .int .i64 ag, .slice A n p, .int .i64 rn, .int .i64 lf, .int .i64 tu, .int .i64 nx] 29)).alloc (by simp) (.cells #[.int .i64 0, .int .i64 0, .int .i64 0, .slice none 0 0, .int .i64 0, .int .i64 0, .int .i64 0, .int .i64 0] 29)
  have ks := (Bk.new W 29 #[.int .i64 nw, .int .i64 sk, .int .i64 ag, .slice A n p, .int .i64 rn, .int .i64 lf, .int .i64 tu, .int .i64 nx]).alloc (.cells #[.int .i64 0, .int .i64 0, .int .i64 0, .slice none 0 0, .int .i64 0, .int .i64 0, .int .i64 0, .int .i64 0] 29)
  have ko := Bk.new (W.alloc (.cells #[.int .i64 nw, .int .i64 sk, .int .i64 ag, .slice A n p, .int .i64 rn, .int .i64 lf, .int .i64 tu, .int .i64 nx] 29)) 29 #[.int .i64 0, .int .i64 0, .int .i64 0, .slice none 0 0, .int .i64 0, .int .i64 0, .int .i64 0, .int .i64 0]
  simp only [World.size_alloc] at ko
  have hr0 := hr.of_below b0
  have HRO := Lib.hid (rosterI nw sk ag A n p ss rn lf tu nx _ hr0.rd hn hw)
  have HCAP := Lib.hid hr0.2
  have HRD := Lib.hid (fun w (h : Below W.heap.size W w) => copySchedI nw sk ag A n p ss rn lf tu nx w (hr.1.of_below h) hn)
  have Bl := Lib.hid b0
  have KS := Lib.hid ks
  have KO := Lib.hid ko
  have HL := Lib.hid hr.1.1
  have HN := Lib.hid hn
  have HG := Lib.hid (show W.heap.size ≤ W.heap.size + 1 by omega)
  clear hr hn b0 hw ks ko hr0
  obtain ⟨R, hR⟩ : ∃ R, schB nw sk ag ss rn lf tu nx = R := ⟨_, rfl⟩
  rw [hR] at HRO
  obtain ⟨C, hC⟩ : ∃ C, ss.any (fun t => t.ti == id) = C := ⟨_, rfl⟩
  have hB : canB nw sk ag ss rn lf tu nx id = (R && C) := by rw [canB, hR, hC]
  have hT : canT nw sk ag ss rn lf tu nx id = if (R && C) then offT id ss else ss := by rw [canT, hB]
  have hX : canR nw sk ag ss rn lf tu nx id = if (R && C) then rnC id rn else rn := by rw [canR, hB]
  have hY : canL nw sk ag ss rn lf tu nx id = if (R && C) then lfC id rn lf else lf := by rw [canL, hB]
  generalize canT nw sk ag ss rn lf tu nx id = TT at hT ⊢
  generalize canR nw sk ag ss rn lf tu nx id = RR at hX ⊢
  generalize canL nw sk ag ss rn lf tu nx id = LL at hY ⊢
  generalize canB nw sk ag ss rn lf tu nx id = BB at hB ⊢
  have HB := Lib.hid hB
  have HT := Lib.hid hT
  have HX := Lib.hid hX
  have HY := Lib.hid hY
  have HR := Lib.hid hR
  have HC := Lib.hid hC
  clear hB hT hX hY hR hC
  go_enter Try.func38, Try.ntmps38
  go_wp2_with fail
  generalize (W.alloc (.cells #[.int .i64 nw, .int .i64 sk, .int .i64 ag, .slice A n p, .int .i64 rn, .int .i64 lf, .int .i64 tu, .int .i64 nx] 29)).alloc (.cells #[.int .i64 0, .int .i64 0, .int .i64 0, .slice none 0 0, .int .i64 0, .int .i64 0, .int .i64 0, .int .i64 0] 29) = v at Bl KS KO HRO HCAP ⊢
  generalize W.heap.size + 1 = go at KO HG ⊢
  generalize hgs : W.heap.size = gs at KS ⊢
  have HGS := Lib.hid hgs
  clear hgs
  have KOV := Lib.hid (show go < v.heap.size from KO.out.lt)
  refine HRO.out.mono ?_
  clear HRO
  intro e w1 hc
  rcases R with _ | _
  · obtain ⟨rfl, bb⟩ := hc
    obtain rfl : BB = false := by rw [HB.out]; simp
    obtain rfl : TT = ss := by rw [HT.out]; simp
    obtain rfl : RR = rn := by rw [HX.out]; simp
    obtain rfl : LL = lf := by rw [HY.out]; simp
    have hlk : ∀ w : World, (Instr.lookup 56 (.map none) (.int .i64 id) true).run Try.prog w = .ok (.tuple #[.agg #[.int .i64 0, .slice none 0 0, .int .i64 0, .int .i64 0, .int .i64 0], .bool false]) w := fun w => look_none (w := w) hwi
    have ba := ((Below.refl w1.heap.size w1).alloc (Nat.le_refl _) (.cells #[.int .i64 0, .int .i64 0, .int .i64 0, .slice none 0 0, .int .i64 0, .int .i64 0, .int .i64 0, .int .i64 0, .map none] 58)).alloc (by simp) (.cells #[.int .i64 0, .slice none 0 0, .int .i64 0, .int .i64 0, .int .i64 0] 53)
    have bb := bb.trans (ba.mono bb.size)
    replace KS := Lib.hid (KS.out.below bb)
    replace KO := Lib.hid (KO.out.below bb)
    replace Bl := Lib.hid (Bl.out.trans (bb.mono Bl.out.size))
    have KO0 := Lib.hid KO.out.lt
    have hlk2 := hlk
    clear ba bb hlk2
    have HCS := Lib.hid (HRD.out _ Bl.out)
    have c0 := KS.out.cell 0 rfl
    have c1 := KS.out.cell 1 rfl
    have c2 := KS.out.cell 2 rfl
    have c3 := KS.out.cell 3 rfl
    have c4 := KS.out.cell 4 rfl
    have c5 := KS.out.cell 5 rfl
    have c6 := KS.out.cell 6 rfl
    have c7 := KS.out.cell 7 rfl
    go_wp2_with fail
    refine HCS.out.mono ?_
    rintro e w5 ⟨V5, Ps5, rfl, hg5, bb5⟩
    clear HCS c0 c1 c2 c3 c4 c5 c6 c7
    have hgo := KO.out.lt
    replace KO := Lib.hid (KO.out.below bb5)
    obtain ⟨A9, cap9, rfl, -⟩ := hg5.value
    have HG9 := Lib.hid hg5
    have hBz := Bl.out.size
    replace Bl := Lib.hid (Bl.out.trans (bb5.mono Bl.out.size))
    have hgw : W.heap.size ≤ go := by have h1 := HG.out; have h2 := HGS.out; omega
    clear hg5 bb5 KS
    have d0 := KO.out.cell 0 rfl
    have d1 := KO.out.cell 1 rfl
    have d2 := KO.out.cell 2 rfl
    have d3 := KO.out.cell 3 rfl
    have d4 := KO.out.cell 4 rfl
    have d5 := KO.out.cell 5 rfl
    have d6 := KO.out.cell 6 rfl
    have d7 := KO.out.cell 7 rfl
    have f0 := KO.out.frozen 0
    have f1 := KO.out.frozen 1
    have f2 := KO.out.frozen 2
    have f3 := KO.out.frozen 3
    have f4 := KO.out.frozen 4
    have f5 := KO.out.frozen 5
    have f6 := KO.out.frozen 6
    have f7 := KO.out.frozen 7
    have k9 := ((((((((KO.out.set 0 (.int .i64 nw)).set 1 (.int .i64 sk)).set 2 (.int .i64 ag)).set 3 (.slice A9 TT.length cap9)).set 4 (.int .i64 RR)).set 5 (.int .i64 LL)).set 6 (.int .i64 tu)).set 7 (.int .i64 nx))
    have g9 := ((((((((HG9.out.low (p := ⟨go, 0, none⟩) hgo (.int .i64 nw)).low (p := ⟨go, 1, none⟩) hgo (.int .i64 sk)).low (p := ⟨go, 2, none⟩) hgo (.int .i64 ag)).low (p := ⟨go, 3, none⟩) hgo (.slice A9 TT.length cap9)).low (p := ⟨go, 4, none⟩) hgo (.int .i64 RR)).low (p := ⟨go, 5, none⟩) hgo (.int .i64 LL)).low (p := ⟨go, 6, none⟩) hgo (.int .i64 tu)).low (p := ⟨go, 7, none⟩) hgo (.int .i64 nx))
    have b9 := ((((((((Bl.out.setCell (p := ⟨go, 0, none⟩) hgw (.int .i64 nw)).setCell (p := ⟨go, 1, none⟩) hgw (.int .i64 sk)).setCell (p := ⟨go, 2, none⟩) hgw (.int .i64 ag)).setCell (p := ⟨go, 3, none⟩) hgw (.slice A9 TT.length cap9)).setCell (p := ⟨go, 4, none⟩) hgw (.int .i64 RR)).setCell (p := ⟨go, 5, none⟩) hgw (.int .i64 LL)).setCell (p := ⟨go, 6, none⟩) hgw (.int .i64 tu)).setCell (p := ⟨go, 7, none⟩) hgw (.int .i64 nx))
    simp only [List.setIfInBounds_toArray, List.set_cons_zero, List.set_cons_succ] at k9
    have K9 := Lib.hid k9
    have G9 := Lib.hid (g9.base hBz)
    have B9 := Lib.hid b9
    clear k9 g9 b9 hgw hgo hBz
    go_wp2_with fail
    have z0 := K9.out.cell 0 rfl
    have z1 := K9.out.cell 1 rfl
    have z2 := K9.out.cell 2 rfl
    have z3 := K9.out.cell 3 rfl
    have z4 := K9.out.cell 4 rfl
    have z5 := K9.out.cell 5 rfl
    have z6 := K9.out.cell 6 rfl
    have z7 := K9.out.cell 7 rfl
    refine bodyPost_ret (v := .tuple #[.agg #[.int .i64 nw, .int .i64 sk, .int .i64 ag, .slice A9 TT.length cap9, .int .i64 RR, .int .i64 LL, .int .i64 tu, .int .i64 nx], .bool false]) ?_ rfl ⟨_, _, rfl, G9.out, B9.out⟩
    simp [results, Try.results38, go_sem, z0, z1, z2, z3, z4, z5, z6, z7]
  · obtain ⟨b, es, rfl, hbW, hm, he, hce, bb⟩ := hc
    have hsc := HR.out
    have hd := (sch_facts hsc).1
    have hce := hce HCAP.out
    have hap := he.apart hd
    have ba := (Below.refl w1.heap.size w1).alloc (Nat.le_refl _) (.cells #[.int .i64 nw, .int .i64 sk, .int .i64 ag, .slice none 0 0, .int .i64 rn, .int .i64 lf, .int .i64 tu, .int .i64 nx, .map (some b)] 58)
    have KG := Lib.hid (Bk.new w1 58 #[.int .i64 nw, .int .i64 sk, .int .i64 ag, .slice none 0 0, .int .i64 rn, .int .i64 lf, .int .i64 tu, .int .i64 nx, .map (some b)])
    have HM1 := Lib.hid hm
    have HE1 := Lib.hid he
    have BA1 := Lib.hid ba
    have HM := Lib.hid (ownsMap_below hm ba)
    have HE := Lib.hid (he.of_below ba)
    have HCE := Lib.hid hce
    have HBW := Lib.hid hbW
    have hw12 : w1.heap.size ≤ (w1.alloc (.cells #[.int .i64 nw, .int .i64 sk, .int .i64 ag, .slice none 0 0, .int .i64 rn, .int .i64 lf, .int .i64 tu, .int .i64 nx, .map (some b)] 58)).heap.size := ba.size
    have bb2 := bb.trans (ba.mono bb.size)
    replace KS := Lib.hid (KS.out.below bb2)
    replace KO := Lib.hid (KO.out.below bb2)
    have Bl2 := Lib.hid (Bl.out.trans (bb2.mono Bl.out.size))
    have HVW := Lib.hid (show v.heap.size ≤ w1.heap.size from bb.size)
    have HWV := Lib.hid Bl.out.size
    have HGOV := Lib.hid KOV.out
    clear bb bb2 ba hm he hce hbW Bl
    have Bl := Bl2
    rcases C with _ | _
    · obtain rfl : BB = false := by rw [HB.out]; simp
      obtain rfl : TT = ss := by rw [HT.out]; simp
      obtain rfl : RR = rn := by rw [HX.out]; simp
      obtain rfl : LL = lf := by rw [HY.out]; simp
      have hno : ∀ t ∈ TT, t.ti ≠ id := fun t ht e => by
        have := HC.out
        rw [List.any_eq_false] at this
        exact this t ht (by simp [e])
      have hlk : (Instr.lookup 56 (.map (some b)) (.int .i64 id) true).run Try.prog (w1.alloc (.cells #[.int .i64 nw, .int .i64 sk, .int .i64 ag, .slice none 0 0, .int .i64 RR, .int .i64 LL, .int .i64 tu, .int .i64 nx, .map (some b)] 58)) = .ok (.tuple #[.agg #[.int .i64 0, .slice none 0 0, .int .i64 0, .int .i64 0, .int .i64 0], .bool false]) (w1.alloc (.cells #[.int .i64 nw, .int .i64 sk, .int .i64 ag, .slice none 0 0, .int .i64 RR, .int .i64 LL, .int .i64 tu, .int .i64 nx, .map (some b)] 58)) := look_miss HM.out (fun p hp e => by
        obtain ⟨t, ht, h2⟩ := HE.out.mem hp
        exact hno t ht (by rw [← h2, e])) hwi
      have ba2 := (Below.refl (w1.alloc (.cells #[.int .i64 nw, .int .i64 sk, .int .i64 ag, .slice none 0 0, .int .i64 RR, .int .i64 LL, .int .i64 tu, .int .i64 nx, .map (some b)] 58)).heap.size (w1.alloc (.cells #[.int .i64 nw, .int .i64 sk, .int .i64 ag, .slice none 0 0, .int .i64 RR, .int .i64 LL, .int .i64 tu, .int .i64 nx, .map (some b)] 58))).alloc (Nat.le_refl _) (.cells #[.int .i64 0, .slice none 0 0, .int .i64 0, .int .i64 0, .int .i64 0] 53)
      replace KS := Lib.hid (KS.out.below ba2)
      replace KO := Lib.hid (KO.out.below ba2)
      replace Bl := Lib.hid (Bl.out.trans (ba2.mono Bl.out.size))
      clear ba2 hno hap
      have HCS := Lib.hid (HRD.out _ Bl.out)
      have c0 := KS.out.cell 0 rfl
      have c1 := KS.out.cell 1 rfl
      have c2 := KS.out.cell 2 rfl
      have c3 := KS.out.cell 3 rfl
      have c4 := KS.out.cell 4 rfl
      have c5 := KS.out.cell 5 rfl
      have c6 := KS.out.cell 6 rfl
      have c7 := KS.out.cell 7 rfl
      go_wp2_with fail
      refine HCS.out.mono ?_
      rintro e w5 ⟨V5, Ps5, rfl, hg5, bb5⟩
      clear HCS c0 c1 c2 c3 c4 c5 c6 c7
      have hgo := KO.out.lt
      replace KO := Lib.hid (KO.out.below bb5)
      obtain ⟨A9, cap9, rfl, -⟩ := hg5.value
      have HG9 := Lib.hid hg5
      have hBz := Bl.out.size
      replace Bl := Lib.hid (Bl.out.trans (bb5.mono Bl.out.size))
      have hgw : W.heap.size ≤ go := by have h1 := HG.out; have h2 := HGS.out; omega
      clear hg5 bb5 KS
      have d0 := KO.out.cell 0 rfl
      have d1 := KO.out.cell 1 rfl
      have d2 := KO.out.cell 2 rfl
      have d3 := KO.out.cell 3 rfl
      have d4 := KO.out.cell 4 rfl
      have d5 := KO.out.cell 5 rfl
      have d6 := KO.out.cell 6 rfl
      have d7 := KO.out.cell 7 rfl
      have f0 := KO.out.frozen 0
      have f1 := KO.out.frozen 1
      have f2 := KO.out.frozen 2
      have f3 := KO.out.frozen 3
      have f4 := KO.out.frozen 4
      have f5 := KO.out.frozen 5
      have f6 := KO.out.frozen 6
      have f7 := KO.out.frozen 7
      have k9 := ((((((((KO.out.set 0 (.int .i64 nw)).set 1 (.int .i64 sk)).set 2 (.int .i64 ag)).set 3 (.slice A9 TT.length cap9)).set 4 (.int .i64 RR)).set 5 (.int .i64 LL)).set 6 (.int .i64 tu)).set 7 (.int .i64 nx))
      have g9 := ((((((((HG9.out.low (p := ⟨go, 0, none⟩) hgo (.int .i64 nw)).low (p := ⟨go, 1, none⟩) hgo (.int .i64 sk)).low (p := ⟨go, 2, none⟩) hgo (.int .i64 ag)).low (p := ⟨go, 3, none⟩) hgo (.slice A9 TT.length cap9)).low (p := ⟨go, 4, none⟩) hgo (.int .i64 RR)).low (p := ⟨go, 5, none⟩) hgo (.int .i64 LL)).low (p := ⟨go, 6, none⟩) hgo (.int .i64 tu)).low (p := ⟨go, 7, none⟩) hgo (.int .i64 nx))
      have b9 := ((((((((Bl.out.setCell (p := ⟨go, 0, none⟩) hgw (.int .i64 nw)).setCell (p := ⟨go, 1, none⟩) hgw (.int .i64 sk)).setCell (p := ⟨go, 2, none⟩) hgw (.int .i64 ag)).setCell (p := ⟨go, 3, none⟩) hgw (.slice A9 TT.length cap9)).setCell (p := ⟨go, 4, none⟩) hgw (.int .i64 RR)).setCell (p := ⟨go, 5, none⟩) hgw (.int .i64 LL)).setCell (p := ⟨go, 6, none⟩) hgw (.int .i64 tu)).setCell (p := ⟨go, 7, none⟩) hgw (.int .i64 nx))
      simp only [List.setIfInBounds_toArray, List.set_cons_zero, List.set_cons_succ] at k9
      have K9 := Lib.hid k9
      have G9 := Lib.hid (g9.base hBz)
      have B9 := Lib.hid b9
      clear k9 g9 b9 hgw hgo hBz
      go_wp2_with fail
      have z0 := K9.out.cell 0 rfl
      have z1 := K9.out.cell 1 rfl
      have z2 := K9.out.cell 2 rfl
      have z3 := K9.out.cell 3 rfl
      have z4 := K9.out.cell 4 rfl
      have z5 := K9.out.cell 5 rfl
      have z6 := K9.out.cell 6 rfl
      have z7 := K9.out.cell 7 rfl
      refine bodyPost_ret (v := .tuple #[.agg #[.int .i64 nw, .int .i64 sk, .int .i64 ag, .slice A9 TT.length cap9, .int .i64 RR, .int .i64 LL, .int .i64 tu, .int .i64 nx], .bool false]) ?_ rfl ⟨_, _, rfl, G9.out, B9.out⟩
      simp [results, Try.results38, go_sem, z0, z1, z2, z3, z4, z5, z6, z7]
    · obtain rfl : BB = true := by rw [HB.out]; simp
      obtain rfl : TT = offT id ss := by rw [HT.out]; simp
      obtain rfl : RR = rnC id rn := by rw [HX.out]; simp
      obtain rfl : LL = lfC id rn lf := by rw [HY.out]; simp
      obtain ⟨t, htm, hti⟩ : ∃ t ∈ ss, t.ti = id := by
        have := HC.out
        rw [List.any_eq_true] at this
        obtain ⟨t, ht, h⟩ := this
        exact ⟨t, ht, by simpa using h⟩
      obtain ⟨k, hk, e⟩ := List.getElem_of_mem htm
      obtain ⟨P, hes, _⟩ := HE.out.2 k t (by rw [List.getElem?_eq_getElem hk, e])
      rw [hti] at hes
      have hlk := look_hit HM.out hap (List.mem_of_getElem? hes) hwi
      obtain ⟨ti1, ta1, td1, tb1, xs⟩ := t
      obtain ⟨A1, n1, p1⟩ := P
      simp only at hti
      subst hti
      simp only [TV] at hlk
      have hmt := (MT.of_ent HE1.out HCE.out hd).del ti1
      have hoff : ss.filter (fun t => decide (t.ti ≠ ti1)) = offT ti1 ss := rfl
      rw [hoff] at hmt
      have HMT := Lib.hid hmt
      have hds := hd.filter (fun t => decide (t.ti ≠ ti1))
      have HDS := Lib.hid (show (offT ti1 ss).Pairwise (fun s t => s.ti < t.ti) from hds)
      have HSC := Lib.hid hsc
      clear hds
      have ba2 := (Below.refl (w1.alloc (.cells #[.int .i64 nw, .int .i64 sk, .int .i64 ag, .slice none 0 0, .int .i64 rn, .int .i64 lf, .int .i64 tu, .int .i64 nx, .map (some b)] 58)).heap.size (w1.alloc (.cells #[.int .i64 nw, .int .i64 sk, .int .i64 ag, .slice none 0 0, .int .i64 rn, .int .i64 lf, .int .i64 tu, .int .i64 nx, .map (some b)] 58))).alloc (Nat.le_refl _) (.cells #[.int .i64 ti1, .slice A1 n1 p1, .int .i64 ta1, .int .i64 td1, .int .i64 tb1] 53)
      have BA2 := Lib.hid ba2
      replace KS := Lib.hid (KS.out.below ba2)
      replace KO := Lib.hid (KO.out.below ba2)
      replace Bl := Lib.hid (Bl.out.trans (ba2.mono Bl.out.size))
      have hdr := dropI nw sk ag rn lf tu nx ti1 w1.heap.size b _ (mapOf es) _ (KG.out.below ba2) (ownsMap_below HM.out ba2) hwi
      have HDR := Lib.hid hdr
      clear ba2 hdr hmt hoff htm e hes hk hap
      go_wp2_with fail
      refine HDR.out.mono ?_
      rintro e w3 ⟨rfl, kg, hm3, tw⟩
      have hg1 := HG.out
      have hg2 := HGS.out
      have hv1 := HVW.out
      have hv2 := HBW.out
      have hv3 := HWV.out
      have hgl := HGOV.out
      have hmt3 := HMT.out.after HM1.out (BA1.out.trans (BA2.out.mono BA1.out.size)) tw (Nat.le_refl _)
      have b3 := Bl.out.trans (tw.isBelow (by omega) (by omega) Bl.out.size)
      have ko3 := KO.out.two tw (by omega) (by omega)
      have h12 : ss.length ≤ 12 := (schB_iff.1 HSC.out).2.1
      have hsi := schedI nw sk ag (rnC ti1 rn) (lfC ti1 rn lf) tu nx b _ (offT ti1 ss) _ w3 hm3 hmt3 HDS.out (fun t ht => wf_small (by have := inB_iff.1 (taskB_iff.1 ((sch_facts HSC.out).2 t (List.mem_filter.1 ht).1)).1; omega)) (by have := off_len ti1 ss; omega) (by omega) (by have h1 := big_off ti1 ss; have h2 := HN.out; omega)
      have HSI := Lib.hid hsi
      replace KO := Lib.hid ko3
      replace Bl := Lib.hid b3
      have KG3 := Lib.hid kg
      clear hsi ko3 b3 hmt3 tw hm3 kg HDR HMT HM1 KG KS BA2 BA1 HE HE1 HCE HM h12 hg1 hg2 hv1 hv2 hv3 hgl
      have c0 := KG3.out.cell 0 rfl
      have c1 := KG3.out.cell 1 rfl
      have c2 := KG3.out.cell 2 rfl
      have c3 := KG3.out.cell 3 rfl
      have c4 := KG3.out.cell 4 rfl
      have c5 := KG3.out.cell 5 rfl
      have c6 := KG3.out.cell 6 rfl
      have c7 := KG3.out.cell 7 rfl
      have c8 := KG3.out.cell 8 rfl
      go_wp2_with fail
      refine HSI.out.mono ?_
      rintro e w5 ⟨V5, Ps5, rfl, hg5, bb5⟩
      clear HSI c0 c1 c2 c3 c4 c5 c6 c7 c8
      have hgo := KO.out.lt
      replace KO := Lib.hid (KO.out.below bb5)
      obtain ⟨A9, cap9, rfl, -⟩ := hg5.value
      have HG9 := Lib.hid hg5
      have hBz := Bl.out.size
      replace Bl := Lib.hid (Bl.out.trans (bb5.mono Bl.out.size))
      have hgw : W.heap.size ≤ go := by have h1 := HG.out; have h2 := HGS.out; omega
      clear hg5 bb5 KG3
      have d0 := KO.out.cell 0 rfl
      have d1 := KO.out.cell 1 rfl
      have d2 := KO.out.cell 2 rfl
      have d3 := KO.out.cell 3 rfl
      have d4 := KO.out.cell 4 rfl
      have d5 := KO.out.cell 5 rfl
      have d6 := KO.out.cell 6 rfl
      have d7 := KO.out.cell 7 rfl
      have f0 := KO.out.frozen 0
      have f1 := KO.out.frozen 1
      have f2 := KO.out.frozen 2
      have f3 := KO.out.frozen 3
      have f4 := KO.out.frozen 4
      have f5 := KO.out.frozen 5
      have f6 := KO.out.frozen 6
      have f7 := KO.out.frozen 7
      have k9 := ((((((((KO.out.set 0 (.int .i64 nw)).set 1 (.int .i64 sk)).set 2 (.int .i64 ag)).set 3 (.slice A9 (offT ti1 ss).length cap9)).set 4 (.int .i64 (rnC ti1 rn))).set 5 (.int .i64 (lfC ti1 rn lf))).set 6 (.int .i64 tu)).set 7 (.int .i64 nx))
      have g9 := ((((((((HG9.out.low (p := ⟨go, 0, none⟩) hgo (.int .i64 nw)).low (p := ⟨go, 1, none⟩) hgo (.int .i64 sk)).low (p := ⟨go, 2, none⟩) hgo (.int .i64 ag)).low (p := ⟨go, 3, none⟩) hgo (.slice A9 (offT ti1 ss).length cap9)).low (p := ⟨go, 4, none⟩) hgo (.int .i64 (rnC ti1 rn))).low (p := ⟨go, 5, none⟩) hgo (.int .i64 (lfC ti1 rn lf))).low (p := ⟨go, 6, none⟩) hgo (.int .i64 tu)).low (p := ⟨go, 7, none⟩) hgo (.int .i64 nx))
      have b9 := ((((((((Bl.out.setCell (p := ⟨go, 0, none⟩) hgw (.int .i64 nw)).setCell (p := ⟨go, 1, none⟩) hgw (.int .i64 sk)).setCell (p := ⟨go, 2, none⟩) hgw (.int .i64 ag)).setCell (p := ⟨go, 3, none⟩) hgw (.slice A9 (offT ti1 ss).length cap9)).setCell (p := ⟨go, 4, none⟩) hgw (.int .i64 (rnC ti1 rn))).setCell (p := ⟨go, 5, none⟩) hgw (.int .i64 (lfC ti1 rn lf))).setCell (p := ⟨go, 6, none⟩) hgw (.int .i64 tu)).setCell (p := ⟨go, 7, none⟩) hgw (.int .i64 nx))
      simp only [List.setIfInBounds_toArray, List.set_cons_zero, List.set_cons_succ] at k9
      have K9 := Lib.hid k9
      have G9 := Lib.hid (g9.base hBz)
      have B9 := Lib.hid b9
      clear k9 g9 b9 hgw hgo hBz
      go_wp2_with fail
      have z0 := K9.out.cell 0 rfl
      have z1 := K9.out.cell 1 rfl
      have z2 := K9.out.cell 2 rfl
      have z3 := K9.out.cell 3 rfl
      have z4 := K9.out.cell 4 rfl
      have z5 := K9.out.cell 5 rfl
      have z6 := K9.out.cell 6 rfl
      have z7 := K9.out.cell 7 rfl
      refine bodyPost_ret (v := .tuple #[.agg #[.int .i64 nw, .int .i64 sk, .int .i64 ag, .slice A9 (offT ti1 ss).length cap9, .int .i64 (rnC ti1 rn), .int .i64 (lfC ti1 rn lf), .int .i64 tu, .int .i64 nx], .bool true]) ?_ rfl ⟨_, _, rfl, G9.out, B9.out⟩
      simp [results, Try.results38, go_sem, z0, z1, z2, z3, z4, z5, z6, z7]
set_option maxRecDepth 100000 in
set_option maxHeartbeats 4000000 in
theorem cancelS (nw sk ag : Int) (A : Option Addr) (n p : Nat) (ss : List Tsk) (rn lf tu nx id : Int) (W : World) (hr : RdTsk W A n ss) (hn : n + bigTsk ss ≤ 1048576) :
    Calls Try.prog 37 #[.agg #[.int .i64 nw, .int .i64 sk, .int .i64 ag, .slice A n p, .int .i64 rn, .int .i64 lf, .int .i64 tu, .int .i64 nx], .int .i64 id] W (SchB W nw sk ag (canT nw sk ag ss rn lf tu nx id) (canR nw sk ag ss rn lf tu nx id) (canL nw sk ag ss rn lf tu nx id) tu nx (canB nw sk ag ss rn lf tu nx id)) := by
  have b0 := ((Below.refl _ W).alloc (Nat.le_refl _) (.cells #[.int .i64 nw, .int .i64 sk, .int .i64 ag, .slice A n p, .int .i64 rn, .int .i64 lf, .int .i64 tu, .int .i64 nx] 29)).alloc (by simp) (.cells #[.int .i64 0, .int .i64 0, .int .i64 0, .slice none 0 0, .int .i64 0, .int .i64 0, .int .i64 0, .int .i64 0] 29)
  have ks := (Bk.new W 29 #[.int .i64 nw, .int .i64 sk, .int .i64 ag, .slice A n p, .int .i64 rn, .int .i64 lf, .int .i64 tu, .int .i64 nx]).alloc (.cells #[.int .i64 0, .int .i64 0, .int .i64 0, .slice none 0 0, .int .i64 0, .int .i64 0, .int .i64 0, .int .i64 0] 29)
  have ko := Bk.new (W.alloc (.cells #[.int .i64 nw, .int .i64 sk, .int .i64 ag, .slice A n p, .int .i64 rn, .int .i64 lf, .int .i64 tu, .int .i64 nx] 29)) 29 #[.int .i64 0, .int .i64 0, .int .i64 0, .slice none 0 0, .int .i64 0, .int .i64 0, .int .i64 0, .int .i64 0]
  simp only [World.size_alloc] at ko
  have HRD := Lib.hid (fun w (h : Below W.heap.size W w) => copySchS nw sk ag A n p ss rn lf tu nx w (hr.of_below h) hn)
  have HSO := fun w (h : Below W.heap.size W w) => schedOkS nw sk ag A n p ss rn lf tu nx w (hr.of_below h) hn
  have HAT := fun w (h : Below W.heap.size W w) => atS nw sk ag A n p ss rn lf tu nx id w (hr.of_below h) (by omega)
  have Bl := Lib.hid b0
  have KS := Lib.hid ks
  have KO := Lib.hid ko
  have HL := Lib.hid hr.1
  have HN := Lib.hid hn
  have HG := Lib.hid (show W.heap.size ≤ W.heap.size + 1 by omega)
  clear hr hn b0 ks ko
  obtain ⟨R, hR⟩ : ∃ R, schB nw sk ag ss rn lf tu nx = R := ⟨_, rfl⟩
  rw [hR] at HSO
  obtain ⟨C, hC⟩ : ∃ C, ss.any (fun t => t.ti == id) = C := ⟨_, rfl⟩
  have hB : canB nw sk ag ss rn lf tu nx id = (R && C) := by rw [canB, hR, hC]
  have hT : canT nw sk ag ss rn lf tu nx id = if (R && C) then offT id ss else ss := by rw [canT, hB]
  have hX : canR nw sk ag ss rn lf tu nx id = if (R && C) then rnC id rn else rn := by rw [canR, hB]
  have hY : canL nw sk ag ss rn lf tu nx id = if (R && C) then lfC id rn lf else lf := by rw [canL, hB]
  generalize canT nw sk ag ss rn lf tu nx id = TT at hT ⊢
  generalize canR nw sk ag ss rn lf tu nx id = RR at hX ⊢
  generalize canL nw sk ag ss rn lf tu nx id = LL at hY ⊢
  generalize canB nw sk ag ss rn lf tu nx id = BB at hB ⊢
  obtain ⟨V0, hV0⟩ : ∃ x, atV ss id = x := ⟨_, rfl⟩
  rw [hV0] at HAT
  have HV0 : Hid ((0 ≤ V0 ∧ C = true) ∨ (V0 < 0 ∧ C = false)) := Lib.hid (by
    rcases at_cases ss id with ⟨k, t, hk, ht, h1, _⟩ | ⟨h1, h2⟩
    · left
      rw [h1] at hV0
      refine ⟨by omega, ?_⟩
      rw [← hC, List.any_eq_true]
      exact ⟨t, List.mem_of_getElem? hk, by simp [ht]⟩
    · right
      rw [h1] at hV0
      refine ⟨by omega, ?_⟩
      rw [← hC, List.any_eq_false]
      intro t ht he
      unfold findT at h2
      rw [List.find?_eq_none] at h2
      exact h2 t ht (by simpa using he))
  replace HAT := Lib.hid HAT
  replace HSO := Lib.hid HSO
  have HB := Lib.hid hB
  have HT := Lib.hid hT
  have HX := Lib.hid hX
  have HY := Lib.hid hY
  clear hB hT hX hY hR hC hV0
  have HCS := Lib.hid (HRD.out _ Bl.out)
  have HGO := Lib.hid (show W.heap.size + 1 < ((W.alloc (.cells #[.int .i64 nw, .int .i64 sk, .int .i64 ag, .slice A n p, .int .i64 rn, .int .i64 lf, .int .i64 tu, .int .i64 nx] 29)).alloc (.cells #[.int .i64 0, .int .i64 0, .int .i64 0, .slice none 0 0, .int .i64 0, .int .i64 0, .int .i64 0, .int .i64 0] 29)).heap.size by simp)
  clear HRD
  go_enter Try.func37, Try.ntmps37
  go_wp2_with fail
  generalize (W.alloc (.cells #[.int .i64 nw, .int .i64 sk, .int .i64 ag, .slice A n p, .int .i64 rn, .int .i64 lf, .int .i64 tu, .int .i64 nx] 29)).alloc (.cells #[.int .i64 0, .int .i64 0, .int .i64 0, .slice none 0 0, .int .i64 0, .int .i64 0, .int .i64 0, .int .i64 0] 29) = v at Bl KS KO HCS HGO ⊢
  generalize W.heap.size + 1 = go at KO HG HGO ⊢
  generalize hgs : W.heap.size = gs at KS ⊢
  have HGS := Lib.hid hgs
  clear hgs
  refine HCS.out.mono ?_
  clear HCS
  rintro e w1 ⟨V, Ps, rfl, hg1, bb⟩
  obtain ⟨A1, cap1, rfl, -⟩ := hg1.value
  have ba := (Below.refl w1.heap.size w1).alloc (Nat.le_refl _) (.cells #[.int .i64 nw, .int .i64 sk, .int .i64 ag, .slice A1 ss.length cap1, .int .i64 rn, .int .i64 lf, .int .i64 tu, .int .i64 nx] 29)
  have KX := Lib.hid (Bk.new w1 29 #[.int .i64 nw, .int .i64 sk, .int .i64 ag, .slice A1 ss.length cap1, .int .i64 rn, .int .i64 lf, .int .i64 tu, .int .i64 nx])
  have HGX := Lib.hid (hg1.of_below ba)
  have HLS := Lib.hid (show ∀ P ∈ Ps, 0 < P.n → ∀ a, P.A = some a → a.block ≠ w1.heap.size from fun P hP hn a hA => Nat.ne_of_lt (hg1.lists P hP hn a hA).2)
  have HRX : Hid ((Value.slice A1 ss.length cap1).ownBlock ≠ some w1.heap.size) := Lib.hid (fun e => by have := (hg1.lt e).2; omega)
  have HVW := Lib.hid bb.size
  have bb := bb.trans (ba.mono bb.size)
  replace KS := Lib.hid (KS.out.below bb)
  replace KO := Lib.hid (KO.out.below bb)
  replace Bl := Lib.hid (Bl.out.trans (bb.mono Bl.out.size))
  have HWV := Lib.hid (show W.heap.size ≤ v.heap.size by have h1 := HGS.out; have h2 := HG.out; have h3 := HGO.out; omega)
  clear bb ba hg1
  have c0 := KS.out.cell 0 rfl
  have c1 := KS.out.cell 1 rfl
  have c2 := KS.out.cell 2 rfl
  have c3 := KS.out.cell 3 rfl
  have c4 := KS.out.cell 4 rfl
  have c5 := KS.out.cell 5 rfl
  have c6 := KS.out.cell 6 rfl
  have c7 := KS.out.cell 7 rfl
  go_wp2_with fail
  generalize hgx : w1.heap.size = gx at KX HLS HRX ⊢
  have HGXE := Lib.hid hgx
  clear hgx
  refine (HSO.out _ Bl.out).mono ?_
  clear HSO
  rintro e w2 ⟨rfl, bb⟩
  replace KS := Lib.hid (KS.out.below bb)
  replace KO := Lib.hid (KO.out.below bb)
  replace KX := Lib.hid (KX.out.below bb)
  replace HGX := Lib.hid (HGX.out.of_below bb)
  replace Bl := Lib.hid (Bl.out.trans (bb.mono Bl.out.size))
  clear bb
  clear c0 c1 c2 c3 c4 c5 c6 c7
  rcases R with _ | _
  · obtain rfl : BB = false := by rw [HB.out]; simp
    obtain rfl : TT = ss := by rw [HT.out]; simp
    obtain rfl : RR = rn := by rw [HX.out]; simp
    obtain rfl : LL = lf := by rw [HY.out]; simp
    have hgo : go < v.heap.size := HGO.out
    have hgw : W.heap.size ≤ go := by have h1 := HG.out; have h2 := HGS.out; omega
    have hBz := HWV.out
    have HG9 := HGX
    have x0 := KX.out.cell 0 rfl
    have x1 := KX.out.cell 1 rfl
    have x2 := KX.out.cell 2 rfl
    have x3 := KX.out.cell 3 rfl
    have x4 := KX.out.cell 4 rfl
    have x5 := KX.out.cell 5 rfl
    have x6 := KX.out.cell 6 rfl
    have x7 := KX.out.cell 7 rfl
    have d0 := KO.out.cell 0 rfl
    have d1 := KO.out.cell 1 rfl
    have d2 := KO.out.cell 2 rfl
    have d3 := KO.out.cell 3 rfl
    have d4 := KO.out.cell 4 rfl
    have d5 := KO.out.cell 5 rfl
    have d6 := KO.out.cell 6 rfl
    have d7 := KO.out.cell 7 rfl
    have f0 := KO.out.frozen 0
    have f1 := KO.out.frozen 1
    have f2 := KO.out.frozen 2
    have f3 := KO.out.frozen 3
    have f4 := KO.out.frozen 4
    have f5 := KO.out.frozen 5
    have f6 := KO.out.frozen 6
    have f7 := KO.out.frozen 7
    have k9 := ((((((((KO.out.set 0 (.int .i64 nw)).set 1 (.int .i64 sk)).set 2 (.int .i64 ag)).set 3 (.slice A1 TT.length cap1)).set 4 (.int .i64 RR)).set 5 (.int .i64 LL)).set 6 (.int .i64 tu)).set 7 (.int .i64 nx))
    have g9 := ((((((((HG9.out.low (p := ⟨go, 0, none⟩) hgo (.int .i64 nw)).low (p := ⟨go, 1, none⟩) hgo (.int .i64 sk)).low (p := ⟨go, 2, none⟩) hgo (.int .i64 ag)).low (p := ⟨go, 3, none⟩) hgo (.slice A1 TT.length cap1)).low (p := ⟨go, 4, none⟩) hgo (.int .i64 RR)).low (p := ⟨go, 5, none⟩) hgo (.int .i64 LL)).low (p := ⟨go, 6, none⟩) hgo (.int .i64 tu)).low (p := ⟨go, 7, none⟩) hgo (.int .i64 nx))
    have b9 := ((((((((Bl.out.setCell (p := ⟨go, 0, none⟩) hgw (.int .i64 nw)).setCell (p := ⟨go, 1, none⟩) hgw (.int .i64 sk)).setCell (p := ⟨go, 2, none⟩) hgw (.int .i64 ag)).setCell (p := ⟨go, 3, none⟩) hgw (.slice A1 TT.length cap1)).setCell (p := ⟨go, 4, none⟩) hgw (.int .i64 RR)).setCell (p := ⟨go, 5, none⟩) hgw (.int .i64 LL)).setCell (p := ⟨go, 6, none⟩) hgw (.int .i64 tu)).setCell (p := ⟨go, 7, none⟩) hgw (.int .i64 nx))
    simp only [List.setIfInBounds_toArray, List.set_cons_zero, List.set_cons_succ] at k9
    have K9 := Lib.hid k9
    have G9 := Lib.hid (g9.base hBz)
    have B9 := Lib.hid b9
    clear k9 g9 b9 hgw hgo hBz
    go_wp2_with fail
    have z0 := K9.out.cell 0 rfl
    have z1 := K9.out.cell 1 rfl
    have z2 := K9.out.cell 2 rfl
    have z3 := K9.out.cell 3 rfl
    have z4 := K9.out.cell 4 rfl
    have z5 := K9.out.cell 5 rfl
    have z6 := K9.out.cell 6 rfl
    have z7 := K9.out.cell 7 rfl
    refine bodyPost_ret (v := .tuple #[.agg #[.int .i64 nw, .int .i64 sk, .int .i64 ag, .slice A1 TT.length cap1, .int .i64 RR, .int .i64 LL, .int .i64 tu, .int .i64 nx], .bool false]) ?_ rfl ⟨_, _, rfl, G9.out, B9.out⟩
    simp [results, Try.results37, go_sem, z0, z1, z2, z3, z4, z5, z6, z7]
  · skip
    have c0 := KS.out.cell 0 rfl
    have c1 := KS.out.cell 1 rfl
    have c2 := KS.out.cell 2 rfl
    have c3 := KS.out.cell 3 rfl
    have c4 := KS.out.cell 4 rfl
    have c5 := KS.out.cell 5 rfl
    have c6 := KS.out.cell 6 rfl
    have c7 := KS.out.cell 7 rfl
    go_wp2_with fail
    refine (HAT.out _ Bl.out).mono ?_
    clear HAT
    rintro e w3 ⟨rfl, bb⟩
    replace KS := Lib.hid (KS.out.below bb)
    replace KO := Lib.hid (KO.out.below bb)
    replace KX := Lib.hid (KX.out.below bb)
    replace HGX := Lib.hid (HGX.out.of_below bb)
    replace Bl := Lib.hid (Bl.out.trans (bb.mono Bl.out.size))
    clear bb
    clear c0 c1 c2 c3 c4 c5 c6 c7
    rcases HV0.out with ⟨hv0, rfl⟩ | ⟨hv0, rfl⟩
    · have hv1 : ¬ V0 < 0 := by omega
      obtain rfl : BB = true := by rw [HB.out]; simp
      obtain rfl : TT = offT id ss := by rw [HT.out]; simp
      obtain rfl : RR = rnC id rn := by rw [HX.out]; simp
      obtain rfl : LL = lfC id rn lf := by rw [HY.out]; simp
      have hoff := l07OffS nw sk ag rn lf tu nx id gx v.heap.size _ ss Ps _ KX.out HGX.out (by have h1 := Bl.out.size; have h2 := HVW.out; have h3 := HGXE.out; have h4 := KX.out.lt; omega) HLS.out (by have h1 := HL.out; have h2 := HN.out; omega)
      have HOFF := Lib.hid hoff
      clear hoff
      go_wp2_with fail
      refine HOFF.out.mono ?_
      clear HOFF
      rintro e w4 ⟨rfl, V4, Ps4, k4, g4, t4, r4, l4⟩
      have hgxo : go < gx := by have h1 := HGO.out; have h2 := HVW.out; have h3 := HGXE.out; omega
      have hgw : W.heap.size ≤ go := by have h1 := HG.out; have h2 := HGS.out; omega
      replace KO := Lib.hid (t4.bk KO.out (.inl hgxo))
      replace Bl := Lib.hid (Bl.out.trans ((t4.isBelow (by have := KX.out.lt; omega)).mono (by omega)))
      obtain ⟨A9, cap9, rfl, -⟩ := g4.value
      have KX4 := Lib.hid k4
      have HG4 := Lib.hid g4
      have HR4 := Lib.hid r4
      have HL4 := Lib.hid l4
      have hgo : go < v.heap.size := HGO.out
      have hBz := HWV.out
      have HGXO := Lib.hid hgxo
      clear k4 g4 t4 r4 l4 KX HGX KS hv0 hv1 hgxo
      have x4 := KX4.out.cell 4 rfl
      by_cases hc : rn = id
      · have hR1 : rnC id rn = 0 := if_pos hc
        have hR2 : lfC id rn lf = 0 := if_pos hc
        have HR1 := Lib.hid hR1
        have HR2 := Lib.hid hR2
        clear hR1 hR2
        have hc2 : (rn == id) = true := by simpa using hc
        have q4 := KX4.out.frozen 4
        have q5 := KX4.out.frozen 5
        have x5 := KX4.out.cell 5 rfl
        have k5 := (KX4.out.set 4 (.int .i64 0)).set 5 (.int .i64 0)
        simp only [List.setIfInBounds_toArray, List.set_cons_zero, List.set_cons_succ] at k5
        have g5 := (HG4.out.far (p := ⟨gx, 4, none⟩) HR4.out HL4.out (.int .i64 0)).far (p := ⟨gx, 5, none⟩) HR4.out HL4.out (.int .i64 0)
        have o5 := (KO.out.far (p := ⟨gx, 4, none⟩) (by have := HGXO.out; simp only; omega) (.int .i64 0)).far (p := ⟨gx, 5, none⟩) (by have := HGXO.out; simp only; omega) (.int .i64 0)
        have b5 := (Bl.out.setCell (p := ⟨gx, 4, none⟩) (by have := HGXO.out; simp only; omega) (.int .i64 0)).setCell (p := ⟨gx, 5, none⟩) (by have := HGXO.out; simp only; omega) (.int .i64 0)
        have KX := Lib.hid k5
        have HG9 := Lib.hid g5
        replace KO := Lib.hid o5
        replace Bl := Lib.hid b5
        clear k5 g5 o5 b5
        have x0 := KX.out.cell 0 rfl
        have x1 := KX.out.cell 1 rfl
        have x2 := KX.out.cell 2 rfl
        have x3 := KX.out.cell 3 rfl
        have x4 := KX.out.cell 4 rfl
        have x5 := KX.out.cell 5 rfl
        have x6 := KX.out.cell 6 rfl
        have x7 := KX.out.cell 7 rfl
        have d0 := KO.out.cell 0 rfl
        have d1 := KO.out.cell 1 rfl
        have d2 := KO.out.cell 2 rfl
        have d3 := KO.out.cell 3 rfl
        have d4 := KO.out.cell 4 rfl
        have d5 := KO.out.cell 5 rfl
        have d6 := KO.out.cell 6 rfl
        have d7 := KO.out.cell 7 rfl
        have f0 := KO.out.frozen 0
        have f1 := KO.out.frozen 1
        have f2 := KO.out.frozen 2
        have f3 := KO.out.frozen 3
        have f4 := KO.out.frozen 4
        have f5 := KO.out.frozen 5
        have f6 := KO.out.frozen 6
        have f7 := KO.out.frozen 7
        have k9 := ((((((((KO.out.set 0 (.int .i64 nw)).set 1 (.int .i64 sk)).set 2 (.int .i64 ag)).set 3 (.slice A9 (offT id ss).length cap9)).set 4 (.int .i64 0)).set 5 (.int .i64 0)).set 6 (.int .i64 tu)).set 7 (.int .i64 nx))
        have g9 := ((((((((HG9.out.low (p := ⟨go, 0, none⟩) hgo (.int .i64 nw)).low (p := ⟨go, 1, none⟩) hgo (.int .i64 sk)).low (p := ⟨go, 2, none⟩) hgo (.int .i64 ag)).low (p := ⟨go, 3, none⟩) hgo (.slice A9 (offT id ss).length cap9)).low (p := ⟨go, 4, none⟩) hgo (.int .i64 0)).low (p := ⟨go, 5, none⟩) hgo (.int .i64 0)).low (p := ⟨go, 6, none⟩) hgo (.int .i64 tu)).low (p := ⟨go, 7, none⟩) hgo (.int .i64 nx))
        have b9 := ((((((((Bl.out.setCell (p := ⟨go, 0, none⟩) hgw (.int .i64 nw)).setCell (p := ⟨go, 1, none⟩) hgw (.int .i64 sk)).setCell (p := ⟨go, 2, none⟩) hgw (.int .i64 ag)).setCell (p := ⟨go, 3, none⟩) hgw (.slice A9 (offT id ss).length cap9)).setCell (p := ⟨go, 4, none⟩) hgw (.int .i64 0)).setCell (p := ⟨go, 5, none⟩) hgw (.int .i64 0)).setCell (p := ⟨go, 6, none⟩) hgw (.int .i64 tu)).setCell (p := ⟨go, 7, none⟩) hgw (.int .i64 nx))
        simp only [List.setIfInBounds_toArray, List.set_cons_zero, List.set_cons_succ] at k9
        have K9 := Lib.hid k9
        have G9 := Lib.hid (g9.base hBz)
        have B9 := Lib.hid b9
        clear k9 g9 b9 hgw hgo hBz
        go_wp2_with fail
        have z0 := K9.out.cell 0 rfl
        have z1 := K9.out.cell 1 rfl
        have z2 := K9.out.cell 2 rfl
        have z3 := K9.out.cell 3 rfl
        have z4 := K9.out.cell 4 rfl
        have z5 := K9.out.cell 5 rfl
        have z6 := K9.out.cell 6 rfl
        have z7 := K9.out.cell 7 rfl
        refine bodyPost_ret (v := .tuple #[.agg #[.int .i64 nw, .int .i64 sk, .int .i64 ag, .slice A9 (offT id ss).length cap9, .int .i64 0, .int .i64 0, .int .i64 tu, .int .i64 nx], .bool true]) ?_ rfl ⟨_, _, by rw [HR1.out, HR2.out], G9.out, B9.out⟩
        simp [results, Try.results37, go_sem, z0, z1, z2, z3, z4, z5, z6, z7]
      · have hR1 : rnC id rn = rn := if_neg hc
        have hR2 : lfC id rn lf = lf := if_neg hc
        have HR1 := Lib.hid hR1
        have HR2 := Lib.hid hR2
        clear hR1 hR2 x4
        have hc2 : (rn == id) = false := by simpa using hc
        have KX := KX4
        have HG9 := HG4
        have x0 := KX.out.cell 0 rfl
        have x1 := KX.out.cell 1 rfl
        have x2 := KX.out.cell 2 rfl
        have x3 := KX.out.cell 3 rfl
        have x4 := KX.out.cell 4 rfl
        have x5 := KX.out.cell 5 rfl
        have x6 := KX.out.cell 6 rfl
        have x7 := KX.out.cell 7 rfl
        have d0 := KO.out.cell 0 rfl
        have d1 := KO.out.cell 1 rfl
        have d2 := KO.out.cell 2 rfl
        have d3 := KO.out.cell 3 rfl
        have d4 := KO.out.cell 4 rfl
        have d5 := KO.out.cell 5 rfl
        have d6 := KO.out.cell 6 rfl
        have d7 := KO.out.cell 7 rfl
        have f0 := KO.out.frozen 0
        have f1 := KO.out.frozen 1
        have f2 := KO.out.frozen 2
        have f3 := KO.out.frozen 3
        have f4 := KO.out.frozen 4
        have f5 := KO.out.frozen 5
        have f6 := KO.out.frozen 6
        have f7 := KO.out.frozen 7
        have k9 := ((((((((KO.out.set 0 (.int .i64 nw)).set 1 (.int .i64 sk)).set 2 (.int .i64 ag)).set 3 (.slice A9 (offT id ss).length cap9)).set 4 (.int .i64 rn)).set 5 (.int .i64 lf)).set 6 (.int .i64 tu)).set 7 (.int .i64 nx))
        have g9 := ((((((((HG9.out.low (p := ⟨go, 0, none⟩) hgo (.int .i64 nw)).low (p := ⟨go, 1, none⟩) hgo (.int .i64 sk)).low (p := ⟨go, 2, none⟩) hgo (.int .i64 ag)).low (p := ⟨go, 3, none⟩) hgo (.slice A9 (offT id ss).length cap9)).low (p := ⟨go, 4, none⟩) hgo (.int .i64 rn)).low (p := ⟨go, 5, none⟩) hgo (.int .i64 lf)).low (p := ⟨go, 6, none⟩) hgo (.int .i64 tu)).low (p := ⟨go, 7, none⟩) hgo (.int .i64 nx))
        have b9 := ((((((((Bl.out.setCell (p := ⟨go, 0, none⟩) hgw (.int .i64 nw)).setCell (p := ⟨go, 1, none⟩) hgw (.int .i64 sk)).setCell (p := ⟨go, 2, none⟩) hgw (.int .i64 ag)).setCell (p := ⟨go, 3, none⟩) hgw (.slice A9 (offT id ss).length cap9)).setCell (p := ⟨go, 4, none⟩) hgw (.int .i64 rn)).setCell (p := ⟨go, 5, none⟩) hgw (.int .i64 lf)).setCell (p := ⟨go, 6, none⟩) hgw (.int .i64 tu)).setCell (p := ⟨go, 7, none⟩) hgw (.int .i64 nx))
        simp only [List.setIfInBounds_toArray, List.set_cons_zero, List.set_cons_succ] at k9
        have K9 := Lib.hid k9
        have G9 := Lib.hid (g9.base hBz)
        have B9 := Lib.hid b9
        clear k9 g9 b9 hgw hgo hBz
        go_wp2_with fail
        have z0 := K9.out.cell 0 rfl
        have z1 := K9.out.cell 1 rfl
        have z2 := K9.out.cell 2 rfl
        have z3 := K9.out.cell 3 rfl
        have z4 := K9.out.cell 4 rfl
        have z5 := K9.out.cell 5 rfl
        have z6 := K9.out.cell 6 rfl
        have z7 := K9.out.cell 7 rfl
        refine bodyPost_ret (v := .tuple #[.agg #[.int .i64 nw, .int .i64 sk, .int .i64 ag, .slice A9 (offT id ss).length cap9, .int .i64 rn, .int .i64 lf, .int .i64 tu, .int .i64 nx], .bool true]) ?_ rfl ⟨_, _, by rw [HR1.out, HR2.out], G9.out, B9.out⟩
        simp [results, Try.results37, go_sem, z0, z1, z2, z3, z4, z5, z6, z7]
    · obtain rfl : BB = false := by rw [HB.out]; simp
      obtain rfl : TT = ss := by rw [HT.out]; simp
      obtain rfl : RR = rn := by rw [HX.out]; simp
      obtain rfl : LL = lf := by rw [HY.out]; simp
      have hgo : go < v.heap.size := HGO.out
      have hgw : W.heap.size ≤ go := by have h1 := HG.out; have h2 := HGS.out; omega
      have hBz := HWV.out
      have HG9 := HGX
      have x0 := KX.out.cell 0 rfl
      have x1 := KX.out.cell 1 rfl
      have x2 := KX.out.cell 2 rfl
      have x3 := KX.out.cell 3 rfl
      have x4 := KX.out.cell 4 rfl
      have x5 := KX.out.cell 5 rfl
      have x6 := KX.out.cell 6 rfl
      have x7 := KX.out.cell 7 rfl
      have d0 := KO.out.cell 0 rfl
      have d1 := KO.out.cell 1 rfl
      have d2 := KO.out.cell 2 rfl
      have d3 := KO.out.cell 3 rfl
      have d4 := KO.out.cell 4 rfl
      have d5 := KO.out.cell 5 rfl
      have d6 := KO.out.cell 6 rfl
      have d7 := KO.out.cell 7 rfl
      have f0 := KO.out.frozen 0
      have f1 := KO.out.frozen 1
      have f2 := KO.out.frozen 2
      have f3 := KO.out.frozen 3
      have f4 := KO.out.frozen 4
      have f5 := KO.out.frozen 5
      have f6 := KO.out.frozen 6
      have f7 := KO.out.frozen 7
      have k9 := ((((((((KO.out.set 0 (.int .i64 nw)).set 1 (.int .i64 sk)).set 2 (.int .i64 ag)).set 3 (.slice A1 TT.length cap1)).set 4 (.int .i64 RR)).set 5 (.int .i64 LL)).set 6 (.int .i64 tu)).set 7 (.int .i64 nx))
      have g9 := ((((((((HG9.out.low (p := ⟨go, 0, none⟩) hgo (.int .i64 nw)).low (p := ⟨go, 1, none⟩) hgo (.int .i64 sk)).low (p := ⟨go, 2, none⟩) hgo (.int .i64 ag)).low (p := ⟨go, 3, none⟩) hgo (.slice A1 TT.length cap1)).low (p := ⟨go, 4, none⟩) hgo (.int .i64 RR)).low (p := ⟨go, 5, none⟩) hgo (.int .i64 LL)).low (p := ⟨go, 6, none⟩) hgo (.int .i64 tu)).low (p := ⟨go, 7, none⟩) hgo (.int .i64 nx))
      have b9 := ((((((((Bl.out.setCell (p := ⟨go, 0, none⟩) hgw (.int .i64 nw)).setCell (p := ⟨go, 1, none⟩) hgw (.int .i64 sk)).setCell (p := ⟨go, 2, none⟩) hgw (.int .i64 ag)).setCell (p := ⟨go, 3, none⟩) hgw (.slice A1 TT.length cap1)).setCell (p := ⟨go, 4, none⟩) hgw (.int .i64 RR)).setCell (p := ⟨go, 5, none⟩) hgw (.int .i64 LL)).setCell (p := ⟨go, 6, none⟩) hgw (.int .i64 tu)).setCell (p := ⟨go, 7, none⟩) hgw (.int .i64 nx))
      simp only [List.setIfInBounds_toArray, List.set_cons_zero, List.set_cons_succ] at k9
      have K9 := Lib.hid k9
      have G9 := Lib.hid (g9.base hBz)
      have B9 := Lib.hid b9
      clear k9 g9 b9 hgw hgo hBz
      go_wp2_with fail
      have z0 := K9.out.cell 0 rfl
      have z1 := K9.out.cell 1 rfl
      have z2 := K9.out.cell 2 rfl
      have z3 := K9.out.cell 3 rfl
      have z4 := K9.out.cell 4 rfl
      have z5 := K9.out.cell 5 rfl
      have z6 := K9.out.cell 6 rfl
      have z7 := K9.out.cell 7 rfl
      refine bodyPost_ret (v := .tuple #[.agg #[.int .i64 nw, .int .i64 sk, .int .i64 ag, .slice A1 TT.length cap1, .int .i64 RR, .int .i64 LL, .int .i64 tu, .int .i64 nx], .bool false]) ?_ rfl ⟨_, _, rfl, G9.out, B9.out⟩
      simp [results, Try.results37, go_sem, z0, z1, z2, z3, z4, z5, z6, z7]
end Qt
end Go.Proofs.Ytihnpfcjnfkfjaa
