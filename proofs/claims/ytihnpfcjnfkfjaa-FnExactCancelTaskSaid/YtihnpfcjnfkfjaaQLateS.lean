/- What LateOf of the model gives when it is called. Conditions: the slice of tasks reads as the list that is named. -/
import Derived.Test.YtihnpfcjnfkfjaaQFitMath
import Derived.Test.YtihnpfcjnfkfjaaQSchS
import Derived.Test.YtihnpfcjnfkfjaaQSchC
namespace Go.Proofs.Ytihnpfcjnfkfjaa
open Go.RowKit Go.Sort
set_option linter.unusedSimpArgs false
set_option linter.unusedVariables false
namespace Qt
def lateW (nw sk ag : Int) (ss : List Tsk) (rn lf tu nx : Int) : List Int := if schB nw sk ag ss rn lf tu nx then lateL nw ss else []
set_option maxRecDepth 100000 in
set_option maxHeartbeats 2000000 in
theorem lateS (nw sk ag : Int) (A : Option Addr) (n p : Nat) (ss : List Tsk) (rn lf tu nx : Int) (W : World) (hr : RdTsk W A n ss) (hn : n + bigTsk ss ≤ 1048576) :
    Calls Try.prog 21 #[.agg #[.int .i64 nw, .int .i64 sk, .int .i64 ag, .slice A n p, .int .i64 rn, .int .i64 lf, .int .i64 tu, .int .i64 nx]] W (AnsI W (lateW nw sk ag ss rn lf tu nx).length (lateW nw sk ag ss rn lf tu nx)) := by
  obtain ⟨i0, hi, hz0, hz1, hz2⟩ := info_parts info3
  have b0 := (Below.refl _ W).alloc (Nat.le_refl _) (.cells #[.int .i64 nw, .int .i64 sk, .int .i64 ag, .slice A n p, .int .i64 rn, .int .i64 lf, .int .i64 tu, .int .i64 nx] 29)
  have K := Lib.hid (Bk.new W 29 #[.int .i64 nw, .int .i64 sk, .int .i64 ag, .slice A n p, .int .i64 rn, .int .i64 lf, .int .i64 tu, .int .i64 nx])
  have HR := Lib.hid (hr.of_below b0)
  have Bl := Lib.hid b0
  have HL := Lib.hid hr.1
  have hn1 : (n : Int) ≤ 1048576 := by omega
  have HSO := fun w h => schedOkS nw sk ag A n p ss rn lf tu nx w h hn
  obtain ⟨R, hR⟩ : ∃ R, schB nw sk ag ss rn lf tu nx = R := ⟨_, rfl⟩
  rw [hR] at HSO
  have HSO := Lib.hid HSO
  obtain ⟨V, hV⟩ : ∃ V, V = lateW nw sk ag ss rn lf tu nx := ⟨_, rfl⟩
  rw [← hV]
  have HV := Lib.hid hV
  have HRR := Lib.hid hR
  clear hr hn b0 hR hV
  go_enter Try.func21, Try.ntmps21
  go_wp2_with fail
  have hvs : (W.alloc (.cells #[.int .i64 nw, .int .i64 sk, .int .i64 ag, .slice A n p, .int .i64 rn, .int .i64 lf, .int .i64 tu, .int .i64 nx] 29)).heap.size = W.heap.size + 1 := by simp
  generalize W.alloc (.cells #[.int .i64 nw, .int .i64 sk, .int .i64 ag, .slice A n p, .int .i64 rn, .int .i64 lf, .int .i64 tu, .int .i64 nx] 29) = v at K HR Bl hvs ⊢
  obtain ⟨g, hg⟩ : ∃ g, W.heap.size = g := ⟨_, rfl⟩
  rw [hg] at hvs
  have K : Hid (Bk v g 29 #[.int .i64 nw, .int .i64 sk, .int .i64 ag, .slice A n p, .int .i64 rn, .int .i64 lf, .int .i64 tu, .int .i64 nx]) := Lib.hid (hg ▸ K.out)
  try rw [hg]
  have HGW : Hid (W.heap.size ≤ g + 1) := Lib.hid (by omega)
  clear hg
  have O0 : Hid ((v.alloc (.cells #[] 3)).ownsRow (g + 1) 3 1 (.slice (some ⟨g + 1, 0, none⟩) 0 0) ([] : List Int).length (([] : List Int).map (Value.int .i64))) := Lib.hid (by have h := World.ownsRow_lit (base := g + 1) (e := 3) (size := 1) v #[] 0 (by omega) (by decide) rfl; rw [hvs] at h; exact h)
  have B0 := Lib.hid ((Below.refl (g + 1) v).alloc (by omega) (.cells #[] 3))
  have HRB : Hid (∀ wr, Below (g + 1) v wr → RdTsk wr A n ss) := Lib.hid (fun wr h => HR.out.of_below (by rw [hvs]; exact h))
  have HBW : Hid (∀ wr, Below (g + 1) v wr → Below W.heap.size W wr) := Lib.hid (fun wr h => by
    rw [← hvs] at h
    exact Bl.out.trans (h.mono Bl.out.size))
  clear HR Bl
  generalize v.alloc (.cells #[] 3) = v1 at O0 B0 ⊢
  refine (HSO.out v1 (HRB.out _ B0.out)).mono ?_
  rintro e w1 ⟨rfl, bb⟩
  have O1 := Lib.hid (ownsRow_below O0.out bb)
  have B1 := Lib.hid (B0.out.trans (bb.mono (by have := B0.out.size; omega)))
  clear bb HSO O0 B0
  rcases R with _ | _
  · obtain rfl : V = [] := by rw [HV.out, lateW, HRR.out]; rfl
    go_wp2_with fail
    go_ret
    exact ⟨none, 0, rfl, ⟨rfl, fun h => by simp at h⟩, HBW.out _ B1.out⟩
  have HVL : Hid (V = lateL nw ss) := Lib.hid (by rw [HV.out, lateW, HRR.out]; rfl)
  have h12 : ss.length ≤ 12 := (schB_iff.1 HRR.out).2.1
  go_wp2_with fail
  go_loopw [3, 4] (fun q i wr => ∃ k : Nat, k ≤ n ∧ i = .int .i64 k ∧ Hid (wr.ownsRow (g + 1) 3 1 q (lateL nw (ss.take k)).length ((lateL nw (ss.take k)).map (Value.int .i64))) ∧ Hid (Below (g + 1) v wr)) (fun _ i _ => n - (intOf i).toNat)
  case atStart => exact ⟨0, Nat.zero_le _, rfl, O1, B1⟩
  case round =>
    clear O1 B1
    obtain ⟨k, hk, rfl, HO, HB⟩ := hrel
    have KK : Hid (Bk wr g 29 #[.int .i64 nw, .int .i64 sk, .int .i64 ag, .slice A n p, .int .i64 rn, .int .i64 lf, .int .i64 tu, .int .i64 nx]) := Lib.hid (K.out.belowN HB.out (Nat.lt_succ_self g))
    have c0 := KK.out.cell 0 rfl
    have c1 := KK.out.cell 1 rfl
    have c2 := KK.out.cell 2 rfl
    have c3 := KK.out.cell 3 rfl
    have c4 := KK.out.cell 4 rfl
    have c5 := KK.out.cell 5 rfl
    have c6 := KK.out.cell 6 rfl
    have c7 := KK.out.cell 7 rfl
    by_cases hlt : k < n
    · obtain ⟨b, off, ti1, ta1, td1, tb1, A', n', p', xs, rfl, hbs, hj, hat⟩ := (HRB.out _ HB.out).at hlt
      obtain ⟨e0, e1, e2, e3, e4⟩ := hat.cells
      have hT := lateL_take (nw := nw) hj
      have hle := lateL_len nw (ss.take k)
      have hlk : (ss.take k).length ≤ k := List.length_take_le _ _
      have HT := Lib.hid hT
      have hk12 : k ≤ 12 := by have := HL.out; omega
      have HJ := Lib.hid hj
      clear hat hj hT
      generalize hY : lateL nw (ss.take k) = ys at HT HO hle
      clear hY
      have hi' : (k : Int) < (n : Int) := by omega
      by_cases hdd : td1 ≤ nw
      case neg =>
        have HX : Hid (lateL nw (ss.take (k + 1)) = ys) := Lib.hid (by rw [HT.out, if_neg hdd, List.append_nil])
        go_wp2_with fail
        go_region
        have HO2 := Lib.hid HO.out.drew
        have HB2 := Lib.hid HB.out.drew
        go_wp2_with fail
        go_roundw
        case rel => exact ⟨k + 1, by omega, by go_num, by rw [HX.out]; exact HO2, HB2⟩
        case measure => simp [intOf]; omega
      have HX : Hid (lateL nw (ss.take (k + 1)) = ys ++ [ti1]) := Lib.hid (by rw [HT.out, if_pos hdd])
      go_wp2_with fail
      go_region
      have HO2 := Lib.hid HO.out.drew
      have HB2 := Lib.hid HB.out.drew
      clear HO HB
      generalize wr.drew = wd at HO2 HB2 ⊢
      have KK2 : Hid (Bk wd g 29 _) := Lib.hid (K.out.belowN HB2.out (Nat.lt_succ_self g))
      obtain ⟨b', off', ti', ta', td', tb', A'', n'', p'', xs', eA, hbs', hj', hat'⟩ := (HRB.out _ HB2.out).at hlt
      cases eA
      rw [HJ.out] at hj'
      cases hj'
      obtain ⟨e0, e1, e2, e3, e4⟩ := hat'.cells
      have c0 := KK2.out.cell 0 rfl
      have c1 := KK2.out.cell 1 rfl
      have c2 := KK2.out.cell 2 rfl
      have c3 := KK2.out.cell 3 rfl
      have c4 := KK2.out.cell 4 rfl
      have c5 := KK2.out.cell 5 rfl
      have c6 := KK2.out.cell 6 rfl
      have c7 := KK2.out.cell 7 rfl
      clear hat'
      go_wp2_with (at_builtin; go_loud (refine wpList_append_own _ rfl _ _ 35 rfl (g + 1) 3 i0 (.int .i64 0) 1 8 Try.underlying35 hi hz0 hz1 hz2 rfl (by decide) _ _ _ rfl (HO2.out.alloc _) ⟨wd.heap.size, 0, none⟩ 1 1 [.int .i64 ti1] rfl rfl ?p1 ?p2 ?p3 ?p4 ?p5 ?_))
      case p1 =>
        intro j v hj
        match j, hj with
        | 0, hj => simp at hj; subst hj; simp [Addr.add]
      case p2 => intro v hv; simp at hv; subst hv; rfl
      case p3 => unfold maxLen; omega
      case p4 => omega
      case p5 => have := HB2.out.size; (try simp only [World.size_alloc] at this ⊢); omega
      · intro v' w2 hown' hgrow _
        have hold := HO2.out
        have hB1 : Below (g + 1) v w2 := (HB2.out.alloc (by have := HB2.out.size; omega) _).grown hgrow (by have := HB2.out.size; (try simp only [World.size_alloc] at this ⊢); omega) (fun r hr => (hold.lt r hr).1)
        have hts : ys.map (Value.int .i64) ++ [.int .i64 ti1] = (ys ++ [ti1]).map (Value.int .i64) := by simp
        rw [hts] at hown'
        have HO1 := Lib.hid hown'
        have HB1 := Lib.hid hB1
        clear hown' hgrow hB1 hold hts
        go_wp2_with fail
        go_roundw
        case rel => exact ⟨k + 1, by omega, by go_num, by rw [HX.out, List.length_append]; exact HO1, HB1⟩
        case measure => simp [intOf]; omega
    · obtain rfl : k = n := by omega
      have hO := HO.out
      rw [show ss.take k = ss from List.take_of_length_le (by have := HL.out; omega), ← HVL.out] at hO
      have HC := Lib.hid (AnsI.of_own (ownsRow_base hO HGW.out) (HBW.out _ HB.out))
      clear hO HO
      go_wp2_with fail
      go_ret
      exact HC.out
end Qt
end Go.Proofs.Ytihnpfcjnfkfjaa
