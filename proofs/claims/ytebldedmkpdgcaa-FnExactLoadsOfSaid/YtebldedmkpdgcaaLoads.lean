/- What LoadsOf (of the program and of its model) gives when it is called: how much each worker has. Conditions: the slice reads as the list that is named. -/
import Derived.Test.YtebldedmkpdgcaaSltMark
import Derived.Test.YtebldedmkpdgcaaAns
import Derived.Test.YtebldedmkpdgcaaJobsL
import Derived.RegionTactic
namespace Go.Proofs.Ytebldedmkpdgcaa
open Go.RowKit Go.Sort
set_option linter.unusedSimpArgs false
set_option linter.unusedVariables false
namespace Qt
def ldW (y t f : Int) : Int := wrap64 (wrap64 (y + t) - f)
def ldV (m : Nat) (xs : List Int) (s : Slt) : List Int := if inB 0 ((m : Int) - 1) s.wk then xs.set s.wk.toNat (ldW (xs.getD s.wk.toNat 0) s.te s.fr) else xs
def ldL (m : Nat) (ss : List Slt) : List Int := ss.foldl (ldV m) (List.replicate m 0)
def loadsL (wk : Int) (ss : List Slt) : List Int := if inB 1 6 wk then ldL wk.toNat ss else []
theorem ldW_s {y t f z : Int} (h : z = ldW y t f) : wrap64 (wrap64 (y + t) - f) = z := h.symm
theorem ldW_i {y t f z : Int} (h : z = ldW y t f) : wrap64 (y + wrap64 (t - f)) = z := by
  rw [h]
  unfold ldW wrap64
  omega
theorem ldL_take {m : Nat} {ss : List Slt} {j : Nat} {s : Slt} (h : ss[j]? = some s) : ldL m (ss.take (j + 1)) = ldV m (ldL m (ss.take j)) s := by
  rw [List.take_add_one, h]
  simp [ldL, List.foldl_append]
theorem ldV_out {m : Nat} {xs : List Int} {s : Slt} (h : inB 0 ((m : Int) - 1) s.wk = false) : ldV m xs s = xs := by
  unfold ldV
  rw [h]
  rfl
theorem ldV_in {m : Nat} {xs : List Int} {s : Slt} (h2 : inB 0 ((m : Int) - 1) s.wk = true) : ldV m xs s = xs.set s.wk.toNat (ldW (xs.getD s.wk.toNat 0) s.te s.fr) := if_pos h2
theorem ldL_len1 (m : Nat) (ss : List Slt) (xs : List Int) : (ss.foldl (ldV m) xs).length = xs.length := by
  induction ss generalizing xs with
  | nil => rfl
  | cons s r ih =>
    rw [List.foldl_cons, ih]
    unfold ldV
    split
    · rw [List.length_set]
    · rfl
theorem loadsL_no {wk : Int} {ss : List Slt} (h : inB 1 6 wk = false) : loadsL wk ss = [] := by unfold loadsL; rw [h]; rfl
theorem loadsL_yes {m : Nat} {ss : List Slt} (h : inB 1 6 (m : Int) = true) : loadsL m ss = ldL m ss := by unfold loadsL; rw [h]; rfl
theorem loadsL_len {m : Nat} {ss : List Slt} (h : inB 1 6 (m : Int) = true) : (loadsL m ss).length = m := by
  rw [loadsL_yes h, ldL, ldL_len1, List.length_replicate]
theorem loadsL_le (wk : Int) (ss : List Slt) : (loadsL wk ss).length ≤ 6 := by
  rcases h : inB 1 6 wk with _ | _
  · rw [loadsL_no h]; simp
  · have := inB_iff.1 h
    obtain ⟨m, rfl⟩ : ∃ m : Nat, wk = m := ⟨wk.toNat, by omega⟩
    rw [loadsL_len h]
    omega
set_option maxRecDepth 10000 in
set_option maxHeartbeats 1000000 in
theorem loadsS (A : Option Addr) (n p : Nat) (ss : List Slt) (wk : Int) (W : World) (hr : RdSlt W A n ss) (hn : n + bigSlt ss ≤ 1048576) :
    Calls Try.prog 15 #[.slice A n p, .int .i64 wk] W (AnsI W (loadsL wk ss).length (loadsL wk ss)) := by
  obtain ⟨i0, hi, hz0, hz1, hz2⟩ := info_parts info3
  have HR := Lib.hid hr
  have HL := Lib.hid hr.1
  have hn1 : (n : Int) ≤ 1048576 := by omega
  clear hr hn
  rcases hw : inB 1 6 wk with _ | _
  · rw [loadsL_no hw]
    have HWK := Lib.hid hw
    clear hw
    go_enter Try.func15, Try.ntmps15
    go_wp2_with fail
    refine (inS 1 6 wk _).mono ?_
    rintro e w1 ⟨rfl, rfl⟩
    rw [HWK.out]
    go_wp2_with fail
    go_ret
    exact ⟨none, 0, rfl, ⟨rfl, fun h => by omega⟩, Below.refl _ _⟩
  obtain ⟨m, rfl⟩ : ∃ m : Nat, wk = m := ⟨wk.toNat, by have := inB_iff.1 hw; omega⟩
  have hm6 : 1 ≤ (m : Int) ∧ (m : Int) ≤ 6 := inB_iff.1 hw
  obtain ⟨hm1, hm2⟩ := hm6
  rw [loadsL_len hw]
  have HWK := Lib.hid hw
  clear hw
  go_enter Try.func15, Try.ntmps15
  go_wp2_with fail
  refine (inS 1 6 m _).mono ?_
  rintro e w1 ⟨rfl, rfl⟩
  rw [HWK.out]
  have bw : Below W.heap.size W W := Below.refl _ _
  have HBW := Lib.hid bw
  clear bw
  go_wp2_with (at_make; refine wpList_make_full _ rfl _ _ 24 rfl W.heap.size 3 i0 (.int .i64 0) 1 Try.underlying24 hi hz0 hz1 .i64 .i64 _ _ m rfl rfl rfl rfl (by rw [hz2]; omega) (by unfold maxLen; omega) (Nat.le_refl _) ?_; intro w0 hown hg)
  obtain ⟨g, hgd⟩ : ∃ g, g = W.heap.size := ⟨_, rfl⟩
  rw [← hgd] at hown ⊢
  have hown0 : w0.ownsRow g 3 1 (.slice (some ⟨g, 0, none⟩) m m) m ((ldL m []).map (Value.int .i64)) := by
    simpa [toList_madeCells_one, Value.cells, ldL] using hown
  have O0 := Lib.hid (OwnI.of_own hown0)
  have hb0 : Hid (Below W.heap.size W w0) := Lib.hid (HBW.out.trans ((Below.refl W.heap.size W).grown hg (Nat.le_refl _) (fun k hk => by cases hk)|>.mono HBW.out.size))
  have HG : Hid (W.heap.size ≤ g) := Lib.hid (hgd ▸ HBW.out.size)
  clear hown hg hgd hown0
  go_loopw [6] (fun i wr => ∃ k : Nat, k ≤ n ∧ i = .int .i64 k ∧ Hid (OwnI g wr (some ⟨g, 0, none⟩) m (ldL m (ss.take k))) ∧ Hid (Below W.heap.size W wr)) (fun i _ => n - (intOf i).toNat)
  case atStart => exact ⟨0, Nat.zero_le _, rfl, O0, hb0⟩
  case round =>
    clear O0 hb0
    obtain ⟨k, hk, rfl, HO, HB⟩ := hrel
    by_cases hlt : k < n
    · obtain ⟨b, off, jb1, wk1, fr1, te1, P', rfl, hbs, hj, hat⟩ := (HR.out.of_below HB.out).at hlt
      obtain ⟨e0, e1, e2, e3⟩ := hat.cells
      have hT := ldL_take (m := m) hj
      have HT := Lib.hid hT
      clear hat hj hT
      generalize hY : ldL m (ss.take k) = ys at HT HO
      clear hY
      have hi' : (k : Int) < (n : Int) := by omega
      go_wp2_with fail
      refine (inS 0 ((m : Int) - 1) wk1 _).mono ?_
      rintro e w2 ⟨rfl, rfl⟩
      rcases hin : inB 0 ((m : Int) - 1) wk1 with _ | _
      · have HX : Hid (ldL m (ss.take (k + 1)) = ys) := Lib.hid (by rw [HT.out]; exact ldV_out hin)
        go_wp2_with fail
        go_roundw
        case rel => exact ⟨k + 1, by omega, by go_num, by rw [HX.out]; exact HO, HB⟩
        case measure => simp [intOf]; omega
      obtain ⟨j, rfl⟩ : ∃ j : Nat, wk1 = j := ⟨wk1.toNat, by have := inB_iff.1 hin; omega⟩
      have hj9 : j < m := by have := inB_iff.1 hin; omega
      obtain ⟨y, hy⟩ : ∃ y, y = ys.getD j 0 := ⟨_, rfl⟩
      obtain ⟨z, hz⟩ : ∃ z, z = ldW y te1 fr1 := ⟨_, rfl⟩
      have HX : Hid (ldL m (ss.take (k + 1)) = ys.set j z) := Lib.hid (by rw [HT.out, ldV_in hin, hz, hy, Int.toNat_natCast])
      obtain ⟨g', e', hB', hl', hc'⟩ := HO.out.2 (by omega)
      cases e'
      obtain ⟨hgc, hgf⟩ := hc' j hj9
      rw [← hy] at hgc
      have HO2 := Lib.hid (HO.out.set hj9 z)
      have HB2 := Lib.hid (HB.out.setCell (p := ⟨g, j, none⟩) HG.out (.int .i64 z))
      have hj9' : (j : Int) < (m : Int) := by omega
      have HWZ := Lib.hid (ldW_s hz)
      clear hy hB' hc' hin hz
      go_wp2_with fail
      go_region
      rw [HWZ.out]
      replace HO2 := Lib.hid (HO2.out.of_below (Below.refl _ _).drew)
      replace HB2 := Lib.hid HB2.out.drew
      generalize (wr.setCell ⟨g, j, none⟩ (.int .i64 z)).drew = w3 at HO2 HB2 ⊢
      go_wp2_with fail
      go_roundw
      case rel => exact ⟨k + 1, by omega, by go_num, by rw [HX.out]; exact HO2, HB2⟩
      case measure => simp [intOf]; omega
    · obtain rfl : k = n := by omega
      have hO := HO.out
      rw [show ss.take k = ss from List.take_of_length_le (by have := HL.out; omega), ← loadsL_yes HWK.out] at hO
      have HC : Hid (AnsI W m (loadsL m ss) (.returned (.slice (some ⟨g, 0, none⟩) m m)) wr) := Lib.hid ⟨_, _, rfl, hO.base HG.out, HB.out⟩
      clear hO HO
      go_wp2_with fail
      go_ret
      exact HC.out
set_option maxRecDepth 10000 in
set_option maxHeartbeats 1000000 in
theorem loadsI (A : Option Addr) (n p : Nat) (ss : List Slt) (wk : Int) (W : World) (hr : RdSlt W A n ss) (hn : n + bigSlt ss ≤ 1048576) :
    Calls Try.prog 17 #[.slice A n p, .int .i64 wk] W (AnsI W (loadsL wk ss).length (loadsL wk ss)) := by
  obtain ⟨i0, hi, hz0, hz1, hz2⟩ := info_parts info3
  have HR := Lib.hid hr
  have HL := Lib.hid hr.1
  have hn1 : (n : Int) ≤ 1048576 := by omega
  clear hr hn
  rcases hw : inB 1 6 wk with _ | _
  · rw [loadsL_no hw]
    have HWK := Lib.hid hw
    clear hw
    go_enter Try.func17, Try.ntmps17
    go_wp2_with fail
    refine (workersOkI wk _).mono ?_
    rintro e w1 ⟨rfl, bw⟩
    rw [HWK.out]
    go_wp2_with fail
    go_ret
    exact ⟨none, 0, rfl, ⟨rfl, fun h => by omega⟩, bw⟩
  obtain ⟨m, rfl⟩ : ∃ m : Nat, wk = m := ⟨wk.toNat, by have := inB_iff.1 hw; omega⟩
  have hm6 : 1 ≤ (m : Int) ∧ (m : Int) ≤ 6 := inB_iff.1 hw
  obtain ⟨hm1, hm2⟩ := hm6
  rw [loadsL_len hw]
  have HWK := Lib.hid hw
  clear hw
  go_enter Try.func17, Try.ntmps17
  go_wp2_with fail
  refine (workersOkI m _).mono ?_
  rintro e w1 ⟨rfl, bw⟩
  rw [HWK.out]
  have HBW := Lib.hid bw
  clear bw
  go_wp2_with (at_make; refine wpList_make_full _ rfl _ _ 24 rfl w1.heap.size 3 i0 (.int .i64 0) 1 Try.underlying24 hi hz0 hz1 .i64 .i64 _ _ m rfl rfl rfl rfl (by rw [hz2]; omega) (by unfold maxLen; omega) (Nat.le_refl _) ?_; intro w0 hown hg)
  obtain ⟨g, hgd⟩ : ∃ g, g = w1.heap.size := ⟨_, rfl⟩
  rw [← hgd] at hown ⊢
  have hown0 : w0.ownsRow g 3 1 (.slice (some ⟨g, 0, none⟩) m m) m ((ldL m []).map (Value.int .i64)) := by
    simpa [toList_madeCells_one, Value.cells, ldL] using hown
  have O0 := Lib.hid (OwnI.of_own hown0)
  have hb0 : Hid (Below W.heap.size W w0) := Lib.hid (HBW.out.trans ((Below.refl w1.heap.size w1).grown hg (Nat.le_refl _) (fun k hk => by cases hk)|>.mono HBW.out.size))
  have HG : Hid (W.heap.size ≤ g) := Lib.hid (hgd ▸ HBW.out.size)
  clear hown hg hgd hown0
  go_loopw [15] (fun i wr => ∃ k : Nat, k ≤ n ∧ i = .int .i64 k ∧ Hid (OwnI g wr (some ⟨g, 0, none⟩) m (ldL m (ss.take k))) ∧ Hid (Below W.heap.size W wr)) (fun i _ => n - (intOf i).toNat)
  case atStart => exact ⟨0, Nat.zero_le _, rfl, O0, hb0⟩
  case round =>
    clear O0 hb0
    obtain ⟨k, hk, rfl, HO, HB⟩ := hrel
    by_cases hlt : k < n
    · obtain ⟨b, off, jb1, wk1, fr1, te1, P', rfl, hbs, hj, hat⟩ := (HR.out.of_below HB.out).at hlt
      obtain ⟨e0, e1, e2, e3⟩ := hat.cells
      have hT := ldL_take (m := m) hj
      have HT := Lib.hid hT
      clear hat hj hT
      generalize hY : ldL m (ss.take k) = ys at HT HO
      clear hY
      have hi' : (k : Int) < (n : Int) := by omega
      have K := Lib.hid (Bk.new wr 92 #[.int .i64 jb1, .int .i64 wk1, .int .i64 fr1, .int .i64 te1])
      have ba := (Below.refl _ wr).alloc (Nat.le_refl _) (.cells #[.int .i64 jb1, .int .i64 wk1, .int .i64 fr1, .int .i64 te1] 92)
      replace HO := Lib.hid (HO.out.of_below ba)
      replace HB := Lib.hid (HB.out.trans (ba.mono HB.out.size))
      clear ba
      go_wp2_with fail
      have hv : (wr.alloc (.cells #[.int .i64 jb1, .int .i64 wk1, .int .i64 fr1, .int .i64 te1] 92)).heap.size = wr.heap.size + 1 := by simp
      generalize wr.alloc (.cells #[.int .i64 jb1, .int .i64 wk1, .int .i64 fr1, .int .i64 te1] 92) = v at K HO HB hv ⊢
      rw [← hv]
      generalize wr.heap.size = gx at K ⊢
      clear hv
      refine (inside1I 0 ((m : Int) - 1) wk1 _ _ _ (Bk.new v 3 #[.int .i64 wk1])).mono ?_
      rintro e w2 ⟨rfl, bb⟩
      have bv := after1 bb
      replace K := Lib.hid (K.out.below bv)
      replace HO := Lib.hid (HO.out.of_below bv)
      replace HB := Lib.hid (HB.out.trans (bv.mono HB.out.size))
      clear bb bv
      have d1 := K.out.cell 1 rfl
      have d2 := K.out.cell 2 rfl
      have d3 := K.out.cell 3 rfl
      rcases hin : inB 0 ((m : Int) - 1) wk1 with _ | _
      · have HX : Hid (ldL m (ss.take (k + 1)) = ys) := Lib.hid (by rw [HT.out]; exact ldV_out hin)
        go_wp2_with fail
        go_roundw
        case rel => exact ⟨k + 1, by omega, by go_num, by rw [HX.out]; exact HO, HB⟩
        case measure => simp [intOf]; omega
      obtain ⟨j, rfl⟩ : ∃ j : Nat, wk1 = j := ⟨wk1.toNat, by have := inB_iff.1 hin; omega⟩
      have hj9 : j < m := by have := inB_iff.1 hin; omega
      obtain ⟨y, hy⟩ : ∃ y, y = ys.getD j 0 := ⟨_, rfl⟩
      obtain ⟨z, hz⟩ : ∃ z, z = ldW y te1 fr1 := ⟨_, rfl⟩
      have HX : Hid (ldL m (ss.take (k + 1)) = ys.set j z) := Lib.hid (by rw [HT.out, ldV_in hin, hz, hy, Int.toNat_natCast])
      obtain ⟨g', e', hB', hl', hc'⟩ := HO.out.2 (by omega)
      cases e'
      obtain ⟨hgc, hgf⟩ := hc' j hj9
      rw [← hy] at hgc
      have HO2 := Lib.hid (HO.out.set hj9 z)
      have HB2 := Lib.hid (HB.out.setCell (p := ⟨g, j, none⟩) HG.out (.int .i64 z))
      have hj9' : (j : Int) < (m : Int) := by omega
      have HWZ := Lib.hid (ldW_i hz)
      clear hy hB' hc' hin hz
      go_wp2_with fail
      go_region
      rw [HWZ.out]
      replace HO2 := Lib.hid (HO2.out.of_below (Below.refl _ _).drew)
      replace HB2 := Lib.hid HB2.out.drew
      generalize (w2.setCell ⟨g, j, none⟩ (.int .i64 z)).drew = w3 at HO2 HB2 ⊢
      go_wp2_with fail
      go_roundw
      case rel => exact ⟨k + 1, by omega, by go_num, by rw [HX.out]; exact HO2, HB2⟩
      case measure => simp [intOf]; omega
    · obtain rfl : k = n := by omega
      have hO := HO.out
      rw [show ss.take k = ss from List.take_of_length_le (by have := HL.out; omega), ← loadsL_yes HWK.out] at hO
      have HC : Hid (AnsI W m (loadsL m ss) (.returned (.slice (some ⟨g, 0, none⟩) m m)) wr) := Lib.hid ⟨_, _, rfl, hO.base HG.out, HB.out⟩
      clear hO HO
      go_wp2_with fail
      go_ret
      exact HC.out
end Qt
end Go.Proofs.Ytebldedmkpdgcaa
