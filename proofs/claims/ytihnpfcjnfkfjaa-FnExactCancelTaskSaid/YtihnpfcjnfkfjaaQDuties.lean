/- What the program's duties give when they are called with late: those tasks that are late, by Id. Conditions: the map reads as the list of tasks, the Ids rise; what the sorted keys give is a premise. -/
import Derived.Test.YtihnpfcjnfkfjaaQSchC
namespace Go.Proofs.Ytihnpfcjnfkfjaa
open Go.RowKit Go.Sort
set_option linter.unusedSimpArgs false
set_option linter.unusedVariables false
namespace Qt
theorem infoDu : (Try.prog.info? 68).map (fun i => (i.zero, i.size, i.bytes)) = some (some (.agg #[.int .i64 0, .int .i64 0, .int .i64 0, .int .i64 0]), 4, 32) := by kernel_rfl
def lateT (nw : Int) (ss : List Tsk) : List Tsk := ss.filter (fun t => decide (t.td ≤ nw))
def duC : List Tsk → List Value
  | [] => []
  | t :: r => [.int .i64 t.ti, .int .i64 t.ta, .int .i64 t.td, .int .i64 t.tb] ++ duC r
theorem duC_append (a b : List Tsk) : duC (a ++ b) = duC a ++ duC b := by
  induction a with
  | nil => rfl
  | cons s r ih => simp only [List.cons_append, duC, ih, List.append_assoc]
theorem lateT_take {nw : Int} {ss : List Tsk} {j : Nat} {s : Tsk} (h : ss[j]? = some s) : lateT nw (ss.take (j + 1)) = lateT nw (ss.take j) ++ (if s.td ≤ nw then [s] else []) := by
  rw [List.take_add_one, h, lateT, List.filter_append]
  congr 1
  by_cases hs : s.td ≤ nw <;> simp [hs]
set_option maxRecDepth 100000 in
set_option maxHeartbeats 2000000 in
theorem dutiesLateI (hkey : ∀ (mb : Option Nat) (W : World), Calls Try.prog 78 #[.map mb] W fun e w' => e = .returned (.func (.func 89) #[] #[.pointer (some ⟨W.heap.size, 0, none⟩)]) ∧ w' = W.alloc (.cells #[.map mb] 56))
    (nw sk ag rn lf tu nx : Int) (b m : Nat) (ss : List Tsk) (es : List (Int × Value)) (W : World) (hm : W.ownsMap Try.prog 3 asV b m (mapOf es)) (he : Ent W ss es) (hd : ss.Pairwise (fun s t => s.ti < t.ti)) (hids : ∀ t ∈ ss, (Lit.int .i64 t.ti).wf = true) (h12 : ss.length ≤ 12)
    (hsort : ∀ w, Below W.heap.size W w → Calls Try.prog 77 #[.func (.func 89) #[] #[.pointer (some ⟨w.heap.size, 0, none⟩)]] (w.alloc (.cells #[.map (some b)] 56)) fun e w' => ∃ v : Value, e = .returned v ∧
      w'.ownsRow (w.heap.size + 1) 3 1 v ss.length ((ss.map Tsk.ti).map (Value.int .i64)) ∧ Below (w.heap.size + 1) (w.alloc (.cells #[.map (some b)] 56)) w') :
    Calls Try.prog 54 #[.agg #[.int .i64 nw, .int .i64 sk, .int .i64 ag, .slice none 0 0, .int .i64 rn, .int .i64 lf, .int .i64 tu, .int .i64 nx, .map (some b)], .func (.func 55) #[.agg #[.int .i64 nw, .int .i64 sk, .int .i64 ag, .slice none 0 0, .int .i64 rn, .int .i64 lf, .int .i64 tu, .int .i64 nx, .map (some b)]] #[]] W fun e W' => ∃ V, e = .returned V ∧ W'.ownsRow W.heap.size 68 4 V (lateT nw ss).length (duC (lateT nw ss)) ∧ Below W.heap.size W W' := by
  obtain ⟨i0, hi, hz0, hz1, hz2⟩ := info_parts infoDu
  have bl := (Below.refl _ W).alloc (Nat.le_refl _) (.cells #[.int .i64 nw, .int .i64 sk, .int .i64 ag, .slice none 0 0, .int .i64 rn, .int .i64 lf, .int .i64 tu, .int .i64 nx, .map (some b)] 58)
  have K := Lib.hid (Bk.new W 58 #[.int .i64 nw, .int .i64 sk, .int .i64 ag, .slice none 0 0, .int .i64 rn, .int .i64 lf, .int .i64 tu, .int .i64 nx, .map (some b)])
  have HMW := Lib.hid hm
  have HE := Lib.hid he
  have HD := Lib.hid hd
  have HI := Lib.hid hids
  have HK := Lib.hid hkey
  have HSO := Lib.hid (hsort _ bl)
  have Bl := Lib.hid bl
  clear hm he hd hids hkey hsort bl
  go_enter Try.func54, Try.ntmps54
  go_wp2_with fail
  generalize W.alloc (.cells #[.int .i64 nw, .int .i64 sk, .int .i64 ag, .slice none 0 0, .int .i64 rn, .int .i64 lf, .int .i64 tu, .int .i64 nx, .map (some b)] 58) = v at K HSO Bl ⊢
  generalize W.heap.size = g at K ⊢
  refine (HK.out (some b) v).mono ?_
  rintro e u ⟨rfl, rfl⟩
  go_wp2_with fail
  refine HSO.out.mono ?_
  rintro e w1 ⟨VI, rfl, hrow, hb⟩
  have hbw : Below v.heap.size v w1 := ((Below.refl v.heap.size v).alloc (Nat.le_refl _) (.cells #[.map (some b)] 56)).trans (hb.mono (Nat.le_succ _))
  obtain ⟨A2, cap2, eA, hO, _⟩ := AnsI.of_own (W := v.alloc (.cells #[.map (some b)] 56)) (xs := ss.map Tsk.ti) (by simpa using hrow) (by simpa using hb)
  rw [List.length_map] at eA hO
  cases eA
  have HO := Lib.hid hO
  have K1 := Lib.hid (K.out.below hbw)
  have Bl1 := Lib.hid (Bl.out.trans (hbw.mono Bl.out.size))
  clear hrow hb hO hbw K Bl HK HSO
  go_wp2_with fail
  go_loopw [5, 14] (fun q i wr => ∃ k : Nat, k ≤ ss.length ∧ i = .int .i64 k ∧ Hid (wr.ownsRow w1.heap.size 68 4 q (lateT nw (ss.take k)).length (duC (lateT nw (ss.take k)))) ∧ Hid (Below w1.heap.size w1 wr)) (fun _ i _ => ss.length - (intOf i).toNat)
  case atStart => exact ⟨0, Nat.zero_le _, rfl, Lib.hid (World.ownsRow_nil _ _ _ _), Lib.hid (Below.refl _ _)⟩
  case round =>
    obtain ⟨k, hk, rfl, HR, HB⟩ := hrel
    by_cases hlt : k < ss.length
    · obtain ⟨t, hj⟩ : ∃ t, ss[k]? = some t := ⟨_, List.getElem?_eq_getElem hlt⟩
      obtain ⟨P, hes, _⟩ := HE.out.2 k t hj
      have hmem := List.mem_of_getElem? hj
      have hwf := HI.out t hmem
      have hrun := look1_hit (w := wr) (ownsMap_below (ownsMap_below HMW.out Bl1.out) HB.out) (HE.out.apart HD.out) (List.mem_of_getElem? hes) hwf
      obtain ⟨gi, eg, _, _, hci⟩ := (HO.out.of_below HB.out).2 (by omega)
      have hck := (hci k hlt).1
      have hgd : (ss.map Tsk.ti).getD k 0 = t.ti := by rw [List.getD_eq_getElem?_getD, List.getElem?_map, hj]; rfl
      rw [hgd] at hck
      have HT := Lib.hid (lateT_take (nw := nw) hj)
      have hle : (lateT nw (ss.take k)).length ≤ k := Nat.le_trans (List.length_filter_le _ _) (List.length_take_le _ _)
      obtain ⟨ti1, ta1, td1, tb1, xs⟩ := t
      obtain ⟨A1, n1, p1⟩ := P
      simp only [TV] at hrun hck HT
      have K2 := Lib.hid (K1.out.below HB.out)
      have c0 := K2.out.cell 0 rfl
      have c1 := K2.out.cell 1 rfl
      have c2 := K2.out.cell 2 rfl
      have c3 := K2.out.cell 3 rfl
      have c4 := K2.out.cell 4 rfl
      have c5 := K2.out.cell 5 rfl
      have c6 := K2.out.cell 6 rfl
      have c7 := K2.out.cell 7 rfl
      have c8 := K2.out.cell 8 rfl
      clear hci hmem hwf hes hj hgd
      subst eg
      generalize hY : lateT nw (ss.take k) = ys at HT HR hle
      clear hY
      have hi' : (k : Int) < (ss.length : Int) := by omega
      go_wp2_with fail
      refine (dutyOfI ti1 A1 n1 p1 ta1 td1 tb1 wr).mono ?_
      rintro e w2 ⟨rfl, bb⟩
      replace HR := Lib.hid (ownsRow_below HR.out bb)
      replace HB := Lib.hid (HB.out.trans (bb.mono HB.out.size))
      clear bb hrun hck c0 c1 c2 c3 c4 c5 c6 c7 c8 K2
      have ba := (Below.refl _ w2).alloc (Nat.le_refl _) (.cells #[.int .i64 ti1, .int .i64 ta1, .int .i64 td1, .int .i64 tb1] 68)
      have KD := Lib.hid (Bk.new w2 68 #[.int .i64 ti1, .int .i64 ta1, .int .i64 td1, .int .i64 tb1])
      replace HR := Lib.hid (ownsRow_below HR.out ba)
      replace HB := Lib.hid (HB.out.trans (ba.mono HB.out.size))
      clear ba
      obtain ⟨z0, z1, z2, z3⟩ := KD.out.cell4
      go_wp2_with fail
      generalize w2.alloc (.cells #[.int .i64 ti1, .int .i64 ta1, .int .i64 td1, .int .i64 tb1] 68) = w3 at HR HB KD z0 z1 z2 z3 ⊢
      generalize w2.heap.size = gd at KD z0 z1 z2 z3 ⊢
      refine (lateI nw sk ag rn lf tu nx (some b) ti1 ta1 td1 tb1 w3).mono ?_
      rintro e w4 ⟨rfl, bb⟩
      replace HR := Lib.hid (ownsRow_below HR.out bb)
      replace HB := Lib.hid (HB.out.trans (bb.mono HB.out.size))
      replace KD := Lib.hid (KD.out.below bb)
      clear bb z0 z1 z2 z3
      obtain ⟨z0, z1, z2, z3⟩ := KD.out.cell4
      by_cases hdd : td1 ≤ nw
      case neg =>
        have HX : Hid (lateT nw (ss.take (k + 1)) = ys) := Lib.hid (by rw [HT.out, if_neg hdd, List.append_nil])
        go_wp2_with fail
        go_roundw
        case rel => exact ⟨k + 1, by omega, by go_num, by rw [HX.out]; exact HR, HB⟩
        case measure => simp [intOf]; omega
      have HX : Hid (lateT nw (ss.take (k + 1)) = ys ++ [⟨ti1, ta1, td1, tb1, xs⟩]) := Lib.hid (by rw [HT.out, if_pos hdd])
      go_wp2_with (at_builtin; go_loud (refine wpList_append_own _ rfl _ _ 64 rfl w1.heap.size 68 i0 (.agg #[.int .i64 0, .int .i64 0, .int .i64 0, .int .i64 0]) 4 32 Try.underlying64 hi hz0 hz1 hz2 rfl (by decide) _ _ _ rfl (HR.out.alloc _) ⟨w4.heap.size, 0, none⟩ 1 1 [.int .i64 ti1, .int .i64 ta1, .int .i64 td1, .int .i64 tb1] rfl rfl ?p1 ?p2 ?p3 ?p4 ?p5 ?_))
      case p1 =>
        intro j u hj
        match j, hj with
        | 0, hj => simp at hj; subst hj; simp [Addr.add]
        | 1, hj => simp at hj; subst hj; simp [Addr.add]
        | 2, hj => simp at hj; subst hj; simp [Addr.add]
        | 3, hj => simp at hj; subst hj; simp [Addr.add]
      case p2 =>
        intro u hu
        simp at hu
        rcases hu with rfl | rfl | rfl | rfl <;> rfl
      case p3 => unfold maxLen; omega
      case p4 => omega
      case p5 => have := HB.out.size; (try simp only [World.size_alloc] at this ⊢); omega
      · intro v' w5 hown' hgrow _
        have hold := HR.out
        have hB1 : Below w1.heap.size w1 w5 := (HB.out.alloc HB.out.size _).grown hgrow (by have := HB.out.size; (try simp only [World.size_alloc] at this ⊢); omega) (fun r hr => (hold.lt r hr).1)
        have hts : duC ys ++ [.int .i64 ti1, .int .i64 ta1, .int .i64 td1, .int .i64 tb1] = duC (ys ++ [⟨ti1, ta1, td1, tb1, xs⟩]) := by rw [duC_append]; rfl
        rw [hts] at hown'
        have HO1 := Lib.hid hown'
        have HB1 := Lib.hid hB1
        clear hown' hgrow hB1 hold hts
        go_wp2_with fail
        go_roundw
        case rel => exact ⟨k + 1, by omega, by go_num, by rw [HX.out, List.length_append]; exact HO1, HB1⟩
        case measure => simp [intOf]; omega
    · obtain rfl : k = ss.length := by omega
      have hR := HR.out
      rw [List.take_of_length_le (Nat.le_refl _)] at hR
      have HC := Lib.hid (ownsRow_base hR Bl1.out.size)
      have HBF := Lib.hid (Bl1.out.trans (HB.out.mono Bl1.out.size))
      clear hR HR
      go_wp2_with fail
      go_ret
      exact ⟨_, rfl, HC.out, HBF.out⟩
end Qt
end Go.Proofs.Ytihnpfcjnfkfjaa
