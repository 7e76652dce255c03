/- What LateOf of the program gives when it is called: the Ids of those tasks that are late. Conditions: the slice of tasks reads as the list that is named; the task under way is an int. -/
import Derived.Test.YtihnpfcjnfkfjaaQDuties
import Derived.Test.YtihnpfcjnfkfjaaQSorted
import Derived.Test.YtihnpfcjnfkfjaaQLateS
import Derived.Test.YtihnpfcjnfkfjaaQRostI
namespace Go.Proofs.Ytihnpfcjnfkfjaa
open Go.RowKit Go.Sort
set_option linter.unusedSimpArgs false
set_option linter.unusedVariables false
namespace Qt
theorem duC_get : ∀ {ys : List Tsk} {k : Nat} {t : Tsk}, ys[k]? = some t → ∀ i < 4, (duC ys)[k * 4 + i]? = ([.int .i64 t.ti, .int .i64 t.ta, .int .i64 t.td, .int .i64 t.tb] : List Value)[i]? := by
  intro ys
  induction ys with
  | nil => intro k t h; simp at h
  | cons s r ih =>
    intro k t h i hi
    cases k with
    | zero =>
      simp at h
      subst h
      rw [duC, Nat.zero_mul, Nat.zero_add, List.getElem?_append_left (by simpa using hi)]
    | succ k =>
      have := ih (k := k) (t := t) (by simpa using h) i hi
      rw [duC, List.getElem?_append_right (by simp; omega)]
      rw [← this]
      congr 1
      simp
      omega
theorem lateT_ids (nw : Int) (ss : List Tsk) : (lateT nw ss).map Tsk.ti = lateL nw ss := by
  induction ss with
  | nil => rfl
  | cons s r ih =>
    rw [lateL, ← ih, lateT, List.filter_cons]
    by_cases h : s.td ≤ nw <;> simp [h, lateT]
/-- The cells of a row of duties. -/
theorem du_cells {w : World} {B : Nat} {V : Value} {ys : List Tsk} (h : w.ownsRow B 68 4 V ys.length (duC ys)) : ∃ A cap, V = .slice A ys.length cap ∧ (0 < ys.length → ∃ g, A = some ⟨g, 0, none⟩ ∧ g < w.heap.size ∧ ∀ (k : Nat) (t : Tsk), ys[k]? = some t → w.cell? ⟨g, k * 4, none⟩ = some (.int .i64 t.ti) ∧ w.cell? ⟨g, k * 4 + 1, none⟩ = some (.int .i64 t.ta) ∧ w.cell? ⟨g, k * 4 + 2, none⟩ = some (.int .i64 t.td) ∧ w.cell? ⟨g, k * 4 + 3, none⟩ = some (.int .i64 t.tb)) := by
  have hl := h.lt
  rcases h.2 with ⟨rfl, h0⟩ | ⟨g, cap, cur, rfl, hB, hblk, hlen, hmx, hsz, htk⟩
  · exact ⟨none, 0, by rw [h0], fun h => by omega⟩
  · refine ⟨_, _, rfl, fun _ => ⟨g, rfl, (hl g rfl).2, fun k t ht => ?_⟩⟩
    have hk : k < ys.length := (List.getElem?_eq_some_iff.1 ht).1
    have key : ∀ i < 4, w.cell? ⟨g, k * 4 + i, none⟩ = ([.int .i64 t.ti, .int .i64 t.ta, .int .i64 t.td, .int .i64 t.tb] : List Value)[i]? := by
      intro i hi
      rw [cell_of_row w g (k * 4 + i) cur _ _ hblk, ← duC_get ht i hi, ← htk, List.getElem?_take_of_lt (by omega), Array.getElem?_toList]
    exact ⟨key 0 (by omega), key 1 (by omega), key 2 (by omega), key 3 (by omega)⟩
def KeyP : Prop := ∀ (mb : Option Nat) (W : World), Calls Try.prog 78 #[.map mb] W fun e w' => e = .returned (.func (.func 89) #[] #[.pointer (some ⟨W.heap.size, 0, none⟩)]) ∧ w' = W.alloc (.cells #[.map mb] 56)
def SortP : Prop := ∀ (b n : Nat) (ss : List Tsk) (es : List (Int × Value)) (w w0 : World), w.ownsMap Try.prog 3 asV b n (mapOf es) → Ent w0 ss es → ss.Pairwise (fun s t => s.ti < t.ti) → n ≤ 1000 → Calls Try.prog 77 #[.func (.func 89) #[] #[.pointer (some ⟨w.heap.size, 0, none⟩)]] (w.alloc (.cells #[.map (some b)] 56)) fun e w' => ∃ v : Value, e = .returned v ∧
      w'.ownsRow (w.heap.size + 1) 3 1 v ss.length ((ss.map Tsk.ti).map (Value.int .i64)) ∧ Below (w.heap.size + 1) (w.alloc (.cells #[.map (some b)] 56)) w'
def NilP : Prop := ∀ w : World, Calls Try.prog 77 #[.func (.func 89) #[] #[.pointer (some ⟨w.heap.size, 0, none⟩)]] (w.alloc (.cells #[.map none] 56)) fun e w' => e = .returned (.slice none 0 0) ∧ Below (w.heap.size + 1) (w.alloc (.cells #[.map none] 56)) w'
set_option maxRecDepth 100000 in
set_option maxHeartbeats 2000000 in
theorem dutiesNilI (hkey : KeyP) (hnil : NilP) (W : World) :
    Calls Try.prog 54 #[.agg #[.int .i64 0, .int .i64 0, .int .i64 0, .slice none 0 0, .int .i64 0, .int .i64 0, .int .i64 0, .int .i64 0, .map none], .func (.func 55) #[.agg #[.int .i64 0, .int .i64 0, .int .i64 0, .slice none 0 0, .int .i64 0, .int .i64 0, .int .i64 0, .int .i64 0, .map none]] #[]] W fun e W' => e = .returned (.slice none 0 0) ∧ Below W.heap.size W W' := by
  have bl := (Below.refl _ W).alloc (Nat.le_refl _) (.cells #[.int .i64 0, .int .i64 0, .int .i64 0, .slice none 0 0, .int .i64 0, .int .i64 0, .int .i64 0, .int .i64 0, .map none] 58)
  have HK := Lib.hid hkey
  have HN := Lib.hid hnil
  have Bl := Lib.hid bl
  clear hkey hnil bl
  go_enter Try.func54, Try.ntmps54
  go_wp2_with fail
  generalize W.alloc (.cells #[.int .i64 0, .int .i64 0, .int .i64 0, .slice none 0 0, .int .i64 0, .int .i64 0, .int .i64 0, .int .i64 0, .map none] 58) = v at Bl ⊢
  refine (HK.out none v).mono ?_
  rintro e u ⟨rfl, rfl⟩
  go_wp2_with fail
  refine (HN.out v).mono ?_
  rintro e w1 ⟨rfl, hb⟩
  have Bl1 := Lib.hid (Bl.out.trans ((((Below.refl v.heap.size v).alloc (Nat.le_refl _) (.cells #[.map none] 56)).trans (hb.mono (Nat.le_succ _))).mono Bl.out.size))
  clear hb Bl HK HN
  go_wp2_with fail
  go_loopw [5, 14] (fun q i wr => q = .slice none 0 0 ∧ i = .int .i64 0 ∧ w1 = wr) (fun _ _ _ => 0)
  case atStart => exact ⟨rfl, rfl, rfl⟩
  case round =>
    obtain ⟨rfl, rfl, rfl⟩ := hrel
    go_wp2_with fail
    go_ret
    exact ⟨rfl, Bl1.out⟩
set_option maxRecDepth 100000 in
set_option maxHeartbeats 2000000 in
theorem lateOfI (hkey : KeyP) (hsort : SortP) (hnil : NilP) (nw sk ag : Int) (A : Option Addr) (n p : Nat) (ss : List Tsk) (rn lf tu nx : Int) (W : World) (hr : RdTsk W A n ss) (hn : n + bigTsk ss ≤ 1048576) (hw : (Lit.int .i64 rn).wf = true) :
    Calls Try.prog 22 #[.agg #[.int .i64 nw, .int .i64 sk, .int .i64 ag, .slice A n p, .int .i64 rn, .int .i64 lf, .int .i64 tu, .int .i64 nx]] W (AnsI W (lateW nw sk ag ss rn lf tu nx).length (lateW nw sk ag ss rn lf tu nx)) := by
  obtain ⟨i0, hi, hz0, hz1, hz2⟩ := info_parts info3
  have b0 := (Below.refl _ W).alloc (Nat.le_refl _) (.cells #[.int .i64 nw, .int .i64 sk, .int .i64 ag, .slice A n p, .int .i64 rn, .int .i64 lf, .int .i64 tu, .int .i64 nx] 29)
  have HRO := Lib.hid (rosterI nw sk ag A n p ss rn lf tu nx _ (hr.of_below b0) hn hw)
  have Bl := Lib.hid b0
  have HK := Lib.hid hkey
  have HS := Lib.hid hsort
  have HN := Lib.hid hnil
  clear hr hn b0 hw hkey hsort hnil
  obtain ⟨R, hR⟩ : ∃ R, schB nw sk ag ss rn lf tu nx = R := ⟨_, rfl⟩
  obtain ⟨V, hV⟩ : ∃ V, V = lateW nw sk ag ss rn lf tu nx := ⟨_, rfl⟩
  rw [← hV]
  have HR := Lib.hid hR
  have HV := Lib.hid hV
  rw [hR] at HRO
  clear hR hV
  go_enter Try.func22, Try.ntmps22
  go_wp2_with fail
  refine HRO.out.mono ?_
  intro e w1 hc
  rcases R with _ | _
  · obtain ⟨rfl, bb⟩ := hc
    obtain rfl : V = [] := by rw [HV.out, lateW, HR.out]; rfl
    have ba := (Below.refl _ w1).alloc (Nat.le_refl _) (.cells #[.int .i64 0, .int .i64 0, .int .i64 0, .slice none 0 0, .int .i64 0, .int .i64 0, .int .i64 0, .int .i64 0, .map none] 58)
    have Bl2 := Lib.hid ((Bl.out.trans (bb.mono Bl.out.size)).trans (ba.mono (Nat.le_trans Bl.out.size bb.size)))
    clear bb HRO ba
    go_wp2_with fail
    refine (dutiesNilI HK.out HN.out _).mono ?_
    rintro e w2 ⟨rfl, bb⟩
    have Bl3 := Lib.hid (Bl2.out.trans (bb.mono Bl2.out.size))
    clear bb Bl2 Bl
    go_wp2_with fail
    go_loopw [5, 18] (fun q i wr => q = .slice none 0 0 ∧ i = .int .i64 0 ∧ w2 = wr) (fun _ _ _ => 0)
    case atStart => exact ⟨rfl, rfl, rfl⟩
    case round =>
      obtain ⟨rfl, rfl, rfl⟩ := hrel
      go_wp2_with fail
      go_ret
      exact ⟨none, 0, rfl, ⟨rfl, fun h => by simp at h⟩, Bl3.out⟩
  · obtain ⟨b, es, rfl, _, hm, he, _, bb⟩ := hc
    have ba := (Below.refl _ w1).alloc (Nat.le_refl _) (.cells #[.int .i64 nw, .int .i64 sk, .int .i64 ag, .slice none 0 0, .int .i64 rn, .int .i64 lf, .int .i64 tu, .int .i64 nx, .map (some b)] 58)
    have Bl2 := Lib.hid ((Bl.out.trans (bb.mono Bl.out.size)).trans (ba.mono (Nat.le_trans Bl.out.size bb.size)))
    have hVb : V = lateL nw ss := by rw [HV.out, lateW, HR.out]; rfl
    have h12 : ss.length ≤ 12 := (schB_iff.1 HR.out).2.1
    have hma := ownsMap_below hm ba
    have hea := he.of_below ba
    have hd := (sch_facts HR.out).1
    have HC := Lib.hid (dutiesLateI HK.out nw sk ag rn lf tu nx b _ ss es _ hma hea hd (fun t ht => wf_small (by have := inB_iff.1 (taskB_iff.1 ((sch_facts HR.out).2 t ht)).1; omega)) h12 (fun w h => HS.out b _ ss es w _ (ownsMap_below hma h) hea hd (by omega)))
    have HVB := Lib.hid hVb
    clear bb ba hm he hVb HRO hma hea hd HK HS HN HV
    go_wp2_with fail
    refine HC.out.mono ?_
    rintro e w2 ⟨VD, rfl, hrow, bb⟩
    have Bl3 := Lib.hid (Bl2.out.trans (bb.mono Bl2.out.size))
    have hT : (lateT nw ss).length ≤ 12 := Nat.le_trans (List.length_filter_le _ _) h12
    have HTI := Lib.hid (lateT_ids nw ss)
    obtain ⟨A3, cap3, rfl, hcl⟩ := du_cells hrow
    generalize lateT nw ss = T at hcl hT HTI ⊢
    have HCL := Lib.hid hcl
    clear bb HC hrow Bl2 Bl hcl
    go_wp2_with fail
    go_loopw [5, 18] (fun q i wr => ∃ k : Nat, k ≤ T.length ∧ i = .int .i64 k ∧ Hid (wr.ownsRow w2.heap.size 3 1 q (T.take k).length (((T.take k).map Tsk.ti).map (Value.int .i64))) ∧ Hid (Below w2.heap.size w2 wr)) (fun _ i _ => T.length - (intOf i).toNat)
    case atStart => exact ⟨0, Nat.zero_le _, rfl, Lib.hid (World.ownsRow_nil _ _ _ _), Lib.hid (Below.refl _ _)⟩
    case round =>
      obtain ⟨k, hk, rfl, HO, HB⟩ := hrel
      by_cases hlt : k < T.length
      · obtain ⟨t, hj⟩ : ∃ t, T[k]? = some t := ⟨_, List.getElem?_eq_getElem hlt⟩
        obtain ⟨gd, ed, hgd, hce⟩ := HCL.out (by omega)
        obtain ⟨z0, z1, z2, z3⟩ := hce k t hj
        have HX : Hid ((T.take (k + 1)).map Tsk.ti = (T.take k).map Tsk.ti ++ [t.ti]) := Lib.hid (by rw [List.take_add_one, hj]; simp)
        have HXL : Hid ((T.take (k + 1)).length = (T.take k).length + 1) := Lib.hid (by rw [List.length_take, List.length_take]; omega)
        have hle : (T.take k).length ≤ k := List.length_take_le _ _
        subst ed
        obtain ⟨ti1, ta1, td1, tb1, xs⟩ := t
        simp only at z0 z1 z2 z3 HX
        rw [← HB.out.cell (p := ⟨gd, _, none⟩) hgd] at z0 z1 z2 z3
        clear hce hj hgd
        generalize (T.take k).length = L at HO HXL hle
        generalize (T.take k).map Tsk.ti = ys at HO HX
        have hi' : (k : Int) < (T.length : Int) := by omega
        go_wp2_with (at_builtin; go_loud (refine wpList_append_own _ rfl _ _ 35 rfl w2.heap.size 3 i0 (.int .i64 0) 1 8 Try.underlying35 hi hz0 hz1 hz2 rfl (by decide) _ _ _ rfl ((HO.out.alloc _).alloc _) ⟨wr.heap.size + 1, 0, none⟩ 1 1 [.int .i64 ti1] rfl rfl ?p1 ?p2 ?p3 ?p4 ?p5 ?_))
        case p1 =>
          intro j u hj
          match j, hj with
          | 0, hj =>
            simp at hj
            subst hj
            have hn := Bk.new (wr.alloc (.cells #[.int .i64 ti1, .int .i64 ta1, .int .i64 td1, .int .i64 tb1] 68)) 3 #[.int .i64 ti1]
            simp only [World.size_alloc] at hn
            exact hn.cell 0 rfl
        case p2 => intro v hv; simp at hv; subst hv; rfl
        case p3 => unfold maxLen; omega
        case p4 => omega
        case p5 => have := HB.out.size; (try simp only [World.size_alloc] at this ⊢); omega
        · intro v' w5 hown' hgrow _
          have hold := HO.out
          have hB1 : Below w2.heap.size w2 w5 := ((HB.out.alloc HB.out.size _).alloc (by have := HB.out.size; simp; omega) _).grown hgrow (by have := HB.out.size; (try simp only [World.size_alloc] at this ⊢); omega) (fun r hr => (hold.lt r hr).1)
          have hts : ys.map (Value.int .i64) ++ [.int .i64 ti1] = (ys ++ [ti1]).map (Value.int .i64) := by simp
          rw [hts] at hown'
          have HO1 := Lib.hid hown'
          have HB1 := Lib.hid hB1
          clear hown' hgrow hB1 hold hts
          go_wp2_with fail
          go_roundw
          case rel => exact ⟨k + 1, by omega, by go_num, by rw [HX.out, HXL.out]; exact HO1, HB1⟩
          case measure => simp [intOf]; omega
      · obtain rfl : k = T.length := by omega
        have hO := HO.out
        rw [List.take_of_length_le (Nat.le_refl _), HTI.out, ← HVB.out] at hO
        have hl : T.length = V.length := by rw [HVB.out, ← HTI.out, List.length_map]
        have HC := Lib.hid (AnsI.of_own (ownsRow_base hO Bl3.out.size) (Bl3.out.trans (HB.out.mono Bl3.out.size)))
        clear hO HO
        go_wp2_with fail
        go_ret
        exact HC.out
theorem keyP : KeyP := keysC
theorem sortP : SortP := fun b n ss es w w0 hm he hd hn => idsC hm he hd hn
theorem nilP : NilP := nilC
theorem lateOfIw (nw sk ag : Int) (A : Option Addr) (n p : Nat) (ss : List Tsk) (rn lf tu nx : Int) (W : World) (hr : RdTsk W A n ss) (hn : n + bigTsk ss ≤ 1048576) (hw : (Lit.int .i64 rn).wf = true) :
    Calls Try.prog 22 #[.agg #[.int .i64 nw, .int .i64 sk, .int .i64 ag, .slice A n p, .int .i64 rn, .int .i64 lf, .int .i64 tu, .int .i64 nx]] W (AnsI W (lateW nw sk ag ss rn lf tu nx).length (lateW nw sk ag ss rn lf tu nx)) := lateOfI keyP sortP nilP nw sk ag A n p ss rn lf tu nx W hr hn hw
end Qt
end Go.Proofs.Ytihnpfcjnfkfjaa
