/- What headOk and runOk of the program give when they are called. Conditions: the map stands for the tasks. -/
import Derived.Test.YtihnpfcjnfkfjaaQSchC
import Derived.Test.YtihnpfcjnfkfjaaQNewS
import Derived.Deep.RegionHeld3
namespace Go.Proofs.Ytihnpfcjnfkfjaa
open Go.RowKit Go.Sort
set_option linter.unusedSimpArgs false
set_option linter.unusedVariables false
namespace Qt
set_option maxHeartbeats 1000000 in
theorem headOkI (nw sk ag : Int) (A : Option Addr) (n p : Nat) (rn lf tu nx : Int) (W : World) :
    Calls Try.prog 72 #[.agg #[.int .i64 nw, .int .i64 sk, .int .i64 ag, .slice A n p, .int .i64 rn, .int .i64 lf, .int .i64 tu, .int .i64 nx]] W fun e W' => e = .returned (.bool (headB nw sk ag tu nx)) ∧ Below W.heap.size W W' := by
  obtain ⟨R, hR⟩ : ∃ R, R = headB nw sk ag tu nx := ⟨_, rfl⟩
  rw [← hR]
  have HR := Lib.hid hR
  have K := Lib.hid (Bk.new W 29 #[.int .i64 nw, .int .i64 sk, .int .i64 ag, .slice A n p, .int .i64 rn, .int .i64 lf, .int .i64 tu, .int .i64 nx])
  have Bl := Lib.hid ((Below.refl _ W).alloc (Nat.le_refl _) (.cells #[.int .i64 nw, .int .i64 sk, .int .i64 ag, .slice A n p, .int .i64 rn, .int .i64 lf, .int .i64 tu, .int .i64 nx] 29))
  clear hR
  go_enter Try.func72, Try.ntmps72
  go_wp2_with fail
  have hv : (W.alloc (.cells #[.int .i64 nw, .int .i64 sk, .int .i64 ag, .slice A n p, .int .i64 rn, .int .i64 lf, .int .i64 tu, .int .i64 nx] 29)).heap.size = W.heap.size + 1 := by simp
  generalize W.alloc (.cells #[.int .i64 nw, .int .i64 sk, .int .i64 ag, .slice A n p, .int .i64 rn, .int .i64 lf, .int .i64 tu, .int .i64 nx] 29) = v0 at K Bl hv ⊢
  rw [← hv]
  clear hv
  generalize hgT : W.heap.size = gT at K ⊢
  clear hgT
  refine (inside2I 0 1000000 nw tu _ _ _ (Bk.new v0 3 #[.int .i64 nw, .int .i64 tu])).mono ?_
  rintro e w1 ⟨rfl, bb⟩
  replace bb := after1 bb
  replace K := Lib.hid (K.out.below bb)
  replace Bl := Lib.hid (Bl.out.trans (bb.mono Bl.out.size))
  clear bb
  rcases h1 : (inB 0 1000000 nw && inB 0 1000000 tu) with _ | _
  · obtain rfl : R = false := by
      rw [HR.out]
      rcases (Bool.and_eq_false_iff.1 h1) with h | h
      · exact headB_no (.inl h)
      · exact headB_no (.inr (.inl h))
    go_wp2_with fail
    go_ret
    exact ⟨rfl, Bl.out⟩
  have H1 := Lib.hid (Bool.and_eq_true_iff.1 h1)
  clear h1
  have c0 := K.out.cell 0 rfl
  have c1 := K.out.cell 1 rfl
  have c2 := K.out.cell 2 rfl
  have c3 := K.out.cell 3 rfl
  have c4 := K.out.cell 4 rfl
  have c5 := K.out.cell 5 rfl
  have c6 := K.out.cell 6 rfl
  have c7 := K.out.cell 7 rfl
  go_wp2_with fail
  clear c0 c1 c2 c3 c4 c5 c6 c7
  refine (inside1I 0 1000 sk _ _ _ (Bk.new w1 3 #[.int .i64 sk])).mono ?_
  rintro e w2 ⟨rfl, bb⟩
  replace bb := after1 bb
  replace K := Lib.hid (K.out.below bb)
  replace Bl := Lib.hid (Bl.out.trans (bb.mono Bl.out.size))
  clear bb
  rcases h2 : inB 0 1000 sk with _ | _
  · obtain rfl : R = false := by rw [HR.out]; exact headB_no (.inr (.inr (.inl h2)))
    go_wp2_with fail
    go_ret
    exact ⟨rfl, Bl.out⟩
  have H2 := Lib.hid h2
  clear h2
  have c0 := K.out.cell 0 rfl
  have c1 := K.out.cell 1 rfl
  have c2 := K.out.cell 2 rfl
  have c3 := K.out.cell 3 rfl
  have c4 := K.out.cell 4 rfl
  have c5 := K.out.cell 5 rfl
  have c6 := K.out.cell 6 rfl
  have c7 := K.out.cell 7 rfl
  go_wp2_with fail
  clear c0 c1 c2 c3 c4 c5 c6 c7
  refine (inside1I 0 20 ag _ _ _ (Bk.new w2 3 #[.int .i64 ag])).mono ?_
  rintro e w3 ⟨rfl, bb⟩
  replace bb := after1 bb
  replace K := Lib.hid (K.out.below bb)
  replace Bl := Lib.hid (Bl.out.trans (bb.mono Bl.out.size))
  clear bb
  rcases h2 : inB 0 20 ag with _ | _
  · obtain rfl : R = false := by rw [HR.out]; exact headB_no (.inr (.inr (.inr (.inl h2))))
    go_wp2_with fail
    go_ret
    exact ⟨rfl, Bl.out⟩
  have H3 := Lib.hid h2
  clear h2
  have c0 := K.out.cell 0 rfl
  have c1 := K.out.cell 1 rfl
  have c2 := K.out.cell 2 rfl
  have c3 := K.out.cell 3 rfl
  have c4 := K.out.cell 4 rfl
  have c5 := K.out.cell 5 rfl
  have c6 := K.out.cell 6 rfl
  have c7 := K.out.cell 7 rfl
  go_wp2_with fail
  clear c0 c1 c2 c3 c4 c5 c6 c7
  have hRx : R = inB 1 1000000 nx := by rw [HR.out]; simp [headB, H1.out.1, H1.out.2, H2.out, H3.out]
  have HI := inside1I 1 1000000 nx _ _ _ (Bk.new w3 3 #[.int .i64 nx])
  rw [← hRx] at HI
  clear hRx
  refine HI.mono ?_
  rintro e w4 ⟨rfl, bb⟩
  replace bb := after1 bb
  replace Bl := Lib.hid (Bl.out.trans (bb.mono Bl.out.size))
  clear bb HI
  go_wp2_with fail
  go_ret
  exact ⟨rfl, Bl.out⟩
/-- A roster as a value: a schedule but for its tasks, and the map of these. -/
abbrev RosV (nw sk ag rn lf tu nx : Int) (b : Nat) : Value := .agg #[.int .i64 nw, .int .i64 sk, .int .i64 ag, .slice none 0 0, .int .i64 rn, .int .i64 lf, .int .i64 tu, .int .i64 nx, .map (some b)]
set_option maxRecDepth 100000 in
set_option maxHeartbeats 1000000 in
theorem runOkI (nw sk ag rn lf tu nx : Int) (b m : Nat) (ss : List Tsk) (es : List (Int × Value)) (W : World) (hm : W.ownsMap Try.prog 3 asV b m (mapOf es)) (he : Ent W ss es) (hd : ss.Pairwise (fun s t => s.ti < t.ti)) (hok : ∀ t ∈ ss, tkB t = true) (hw : (Lit.int .i64 rn).wf = true) :
    Calls Try.prog 74 #[.agg #[.int .i64 nw, .int .i64 sk, .int .i64 ag, .slice none 0 0, .int .i64 rn, .int .i64 lf, .int .i64 tu, .int .i64 nx, .map (some b)]] W fun e W' => e = .returned (.bool (runB ss rn lf)) ∧ Below W.heap.size W W' := by
  obtain ⟨R, hR⟩ : ∃ R, R = runB ss rn lf := ⟨_, rfl⟩
  rw [← hR]
  have HR := Lib.hid hR
  have bl := (Below.refl _ W).alloc (Nat.le_refl _) (.cells #[.int .i64 nw, .int .i64 sk, .int .i64 ag, .slice none 0 0, .int .i64 rn, .int .i64 lf, .int .i64 tu, .int .i64 nx, .map (some b)] 58)
  have K := Lib.hid (Bk.new W 58 #[.int .i64 nw, .int .i64 sk, .int .i64 ag, .slice none 0 0, .int .i64 rn, .int .i64 lf, .int .i64 tu, .int .i64 nx, .map (some b)])
  have HM := Lib.hid (ownsMap_below hm bl)
  have HE := Lib.hid (he.of_below bl)
  have HP := Lib.hid (he.apart hd)
  have HD := Lib.hid hd
  have HOK := Lib.hid hok
  have HW := Lib.hid hw
  have Bl := Lib.hid bl
  clear hm he hd hok hR bl hw
  by_cases hr0 : rn = 0
  · subst hr0
    by_cases hl0 : lf = 0
    · subst hl0
      obtain rfl : R = true := by rw [HR.out]; rfl
      go_enter Try.func74, Try.ntmps74
      go_wp2_with fail
      go_ret
      exact ⟨rfl, Bl.out⟩
    · obtain rfl : R = false := by rw [HR.out]; simp [runB, hl0]
      go_enter Try.func74, Try.ntmps74
      go_wp2_with fail
      go_ret
      exact ⟨by simp [hl0], Bl.out⟩
  rcases at_cases ss rn with ⟨i, u, hu, hui, hat, hfi⟩ | ⟨hat, hfi⟩
  case inr =>
    obtain rfl : R = false := by rw [HR.out]; simp [runB, hr0, hfi]
    have hrun := look_miss HM.out (id := rn) (fun q hq e => by
      obtain ⟨t, ht, h1⟩ := HE.out.mem hq
      rw [findT, List.find?_eq_none] at hfi
      have := hfi t ht
      simp [← h1, e] at this) HW.out
    clear hat hfi
    unfold zeroTk at hrun
    go_enter Try.func74, Try.ntmps74
    go_wp2_with fail
    have Bl2 := Lib.hid (Bl.out.alloc Bl.out.size (.cells #[.int .i64 0, .slice none 0 0, .int .i64 0, .int .i64 0, .int .i64 0] 53))
    generalize (W.alloc (.cells #[.int .i64 nw, .int .i64 sk, .int .i64 ag, .slice none 0 0, .int .i64 rn, .int .i64 lf, .int .i64 tu, .int .i64 nx, .map (some b)] 58)).alloc (.cells #[.int .i64 0, .slice none 0 0, .int .i64 0, .int .i64 0, .int .i64 0] 53) = x2 at Bl2 ⊢
    refine wp_region_quiet_below mixed (by kernel_rfl) ?_
    repeat (go_big_quiet_step (fail))
    refine wpQuiet_nil ?_
    intro _ hw'
    obtain ⟨⟨dq, osq⟩, rfl⟩ := hw'
    have HB3 := Lib.hid (Bl2.out.trans ((below_regrown x2 dq osq).mono Bl2.out.size))
    generalize grow (redrawn x2 dq) osq = u9 at HB3 ⊢
    go_wp2_with fail
    go_ret
    exact ⟨rfl, HB3.out⟩
  obtain ⟨P, hes, hrd⟩ := HE.out.2 i u hu
  have hrun := look_hit HM.out HP.out (List.mem_of_getElem? (hui ▸ hes)) HW.out
  have hok := taskB_iff.1 (HOK.out u (List.mem_of_getElem? hu))
  have hta := inB_iff.1 hok.2.2.2.1
  have hn16 := inB_iff.1 hok.2.1
  obtain ⟨ti1, ta1, td1, tb1, xs⟩ := u
  obtain ⟨A', n', p'⟩ := P
  simp only at hta hn16 hui hrd
  obtain ⟨j, rfl⟩ : ∃ j : Nat, ta1 = j := ⟨ta1.toNat, by omega⟩
  have hlen := hrd.1
  have hjn : j < n' := by omega
  obtain ⟨bx, ox, rfl, hbx, hcx⟩ := hrd.2 (by omega)
  obtain ⟨z, hz⟩ : ∃ z, z = xs.getD j 0 := ⟨_, rfl⟩
  have hcz := hcx j hjn
  rw [← hz] at hcz
  have HRV : Hid (R = inB 1 z lf) := Lib.hid (by rw [HR.out]; simp only [runB, hr0, if_false, hfi]; rw [Int.toNat_natCast, ← hz])
  have HCZ := Lib.hid hcz
  have HBX := Lib.hid hbx
  have hjn2 : (j : Int) < (n' : Int) := by omega
  simp only [TV] at hrun
  clear hat hfi hu hok hta hcx hcz hz hes hrd hui hbx hlen hn16 HR
  go_enter Try.func74, Try.ntmps74
  go_wp2_with fail
  have ba := (Below.refl _ (W.alloc (.cells #[.int .i64 nw, .int .i64 sk, .int .i64 ag, .slice none 0 0, .int .i64 rn, .int .i64 lf, .int .i64 tu, .int .i64 nx, .map (some b)] 58))).alloc (Nat.le_refl _) (.cells #[.int .i64 ti1, .slice (some ⟨bx, ox, none⟩) n' p', .int .i64 j, .int .i64 td1, .int .i64 tb1] 53)
  have KT := Lib.hid (Bk.new (W.alloc (.cells #[.int .i64 nw, .int .i64 sk, .int .i64 ag, .slice none 0 0, .int .i64 rn, .int .i64 lf, .int .i64 tu, .int .i64 nx, .map (some b)] 58)) 53 #[.int .i64 ti1, .slice (some ⟨bx, ox, none⟩) n' p', .int .i64 j, .int .i64 td1, .int .i64 tb1])
  have Bl2 := Lib.hid (Bl.out.trans (ba.mono Bl.out.size))
  have K2 := Lib.hid (K.out.below ba)
  have HC2 := Lib.hid ((ba.cell (p := ⟨bx, ox + j, none⟩) HBX.out).trans HCZ.out)
  simp only [World.size_alloc] at KT
  clear ba HCZ HBX hrun
  generalize (W.alloc (.cells #[.int .i64 nw, .int .i64 sk, .int .i64 ag, .slice none 0 0, .int .i64 rn, .int .i64 lf, .int .i64 tu, .int .i64 nx, .map (some b)] 58)).alloc (.cells #[.int .i64 ti1, .slice (some ⟨bx, ox, none⟩) n' p', .int .i64 j, .int .i64 td1, .int .i64 tb1] 53) = x2 at Bl2 K2 KT HC2 ⊢
  generalize W.heap.size + 1 = g4 at KT ⊢
  generalize W.heap.size = g at K2 ⊢
  have y1 := KT.out.cell 1 rfl
  have y2 := KT.out.cell 2 rfl
  have y3 := HC2.out
  have y5 := K2.out.cell 5 rfl
  have l1 := KT.out.lt
  have l2 := World.block_lt_of_cell? x2 _ y3
  have l3 := K2.out.lt
  simp only at l2
  have bd : Below x2.heap.size x2 (x2.alloc (.cells #[.int .i64 lf] 3)).drew := ((Below.refl _ x2).alloc (Nat.le_refl _) (.cells #[.int .i64 lf] 3)).drew
  have hbk : Bk (x2.alloc (.cells #[.int .i64 lf] 3)).drew x2.heap.size 3 #[.int .i64 lf] := Bk.new x2 3 #[.int .i64 lf]
  have HIN := inside1I 1 z lf _ _ _ hbk
  rw [← HRV.out] at HIN
  have HIN := Lib.hid HIN
  have HKP : Hid (∀ uq, Below ((x2.alloc (.cells #[.int .i64 lf] 3)).drew).heap.size (x2.alloc (.cells #[.int .i64 lf] 3)).drew uq → uq.cell? ⟨g4, 1, none⟩ = some (.slice (some ⟨bx, ox, none⟩) n' p') ∧ uq.cell? ⟨g4, 2, none⟩ = some (.int .i64 j) ∧ uq.cell? ⟨bx, ox + j, none⟩ = some (.int .i64 z) ∧ uq.cell? ⟨g, 5, none⟩ = some (.int .i64 lf)) := Lib.hid (fun uq bb => by
    have b2 := bd.trans (bb.mono bd.size)
    exact ⟨(b2.cell (p := ⟨g4, 1, none⟩) l1).trans y1, (b2.cell (p := ⟨g4, 2, none⟩) l1).trans y2, (b2.cell (p := ⟨bx, ox + j, none⟩) l2).trans y3, (b2.cell (p := ⟨g, 5, none⟩) l3).trans y5⟩)
  have BD := Lib.hid bd
  clear bd hbk
  go_region_held3 (fun w' => w'.cell? ⟨g4, 1, none⟩ = some (.slice (some ⟨bx, ox, none⟩) n' p') ∧ w'.cell? ⟨g4, 2, none⟩ = some (.int .i64 j) ∧ w'.cell? ⟨bx, ox + j, none⟩ = some (.int .i64 z) ∧ w'.cell? ⟨g, 5, none⟩ = some (.int .i64 lf))
    (first
      | with_reducible exact SS
      | go_keep)
    (first
      | (go_at_call 86; (with_reducible refine HIN.out.mono ?_); rintro e uq ⟨rfl, bb⟩; have SS := HKP.out uq bb; have BB := Lib.hid bb)
      | fail)
  have HF := Lib.hid (Bl2.out.trans ((BD.out.trans (BB.out.mono BD.out.size)).mono Bl2.out.size))
  clear BB BD HKP HIN
  go_wp2_with fail
  go_ret
  exact ⟨rfl, HF.out⟩
end Qt
end Go.Proofs.Ytihnpfcjnfkfjaa
