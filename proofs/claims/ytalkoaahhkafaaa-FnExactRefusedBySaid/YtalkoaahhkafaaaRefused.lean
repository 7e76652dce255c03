/- What RefusedBy (of the program and of its model) gives when it is called: how many were refused by each code. Conditions: the slice reads as the list that is named. -/
import Derived.Test.YtalkoaahhkafaaaEvtMark
import Derived.Test.YtalkoaahhkafaaaAns
import Derived.Test.YtalkoaahhkafaaaTaskOk
import Derived.RegionTactic
namespace Go.Proofs.Ytalkoaahhkafaaa
open Go.RowKit Go.Sort
set_option linter.unusedSimpArgs false
set_option linter.unusedVariables false
namespace Qt
def refV (xs : List Int) (s : Evt) : List Int := if s.k = 5 then (if inB 0 8 s.b then xs.set s.b.toNat (xs.getD s.b.toNat 0 + 1) else xs) else xs
def refL (ss : List Evt) : List Int := ss.foldl refV [0, 0, 0, 0, 0, 0, 0, 0, 0]
theorem refL_take {ss : List Evt} {j : Nat} {s : Evt} (h : ss[j]? = some s) : refL (ss.take (j + 1)) = refV (refL (ss.take j)) s := by
  rw [List.take_add_one, h]
  simp [refL, List.foldl_append]
theorem refV_kind {xs : List Int} {s : Evt} (h : ¬ s.k = 5) : refV xs s = xs := if_neg h
theorem refV_out {xs : List Int} {s : Evt} (h : inB 0 8 s.b = false) : refV xs s = xs := by
  unfold refV
  rw [h]
  split <;> rfl
theorem refV_in {xs : List Int} {s : Evt} (h : s.k = 5) (h2 : inB 0 8 s.b = true) : refV xs s = xs.set s.b.toNat (xs.getD s.b.toNat 0 + 1) := by
  unfold refV
  rw [if_pos h, if_pos h2]
theorem getD_set_le {xs : List Int} {i : Nat} {v : Int} (j : Nat) {m : Int} (h : ∀ j, 0 ≤ xs.getD j 0 ∧ xs.getD j 0 ≤ m) (h0 : 0 ≤ v) (hv : v ≤ m + 1) : 0 ≤ (xs.set i v).getD j 0 ∧ (xs.set i v).getD j 0 ≤ m + 1 := by
  have := h j
  simp only [List.getD_eq_getElem?_getD] at this ⊢
  by_cases e : i = j
  · subst e
    by_cases hl : i < xs.length
    · simp [List.getElem?_set, hl]; omega
    · simp [List.getElem?_set, hl]; omega
  · simp [List.getElem?_set, e]; omega
theorem refL_bd1 (ss : List Evt) (xs : List Int) (m : Int) (hm : 0 ≤ m) (h : ∀ j, 0 ≤ xs.getD j 0 ∧ xs.getD j 0 ≤ m) (j : Nat) : 0 ≤ (ss.foldl refV xs).getD j 0 ∧ (ss.foldl refV xs).getD j 0 ≤ m + ss.length := by
  induction ss generalizing xs m with
  | nil => have := h j; simp only [List.foldl_nil, List.length_nil]; omega
  | cons s r ih =>
    rw [List.foldl_cons, List.length_cons]
    have h2 : ∀ j, 0 ≤ (refV xs s).getD j 0 ∧ (refV xs s).getD j 0 ≤ m + 1 := fun j => by
      unfold refV
      split
      · split
        · have := h s.b.toNat
          exact getD_set_le j h (by omega) (by omega)
        · have := h j; omega
      · have := h j; omega
    have := ih (refV xs s) (m + 1) (by omega) h2
    omega
theorem refL_bd (ss : List Evt) (j : Nat) : 0 ≤ (refL ss).getD j 0 ∧ (refL ss).getD j 0 ≤ ss.length := by
  have := refL_bd1 ss [0, 0, 0, 0, 0, 0, 0, 0, 0] 0 (by omega) (fun j => by
    match j with
    | 0 | 1 | 2 | 3 | 4 | 5 | 6 | 7 | 8 => simp
    | j + 9 => simp) j
  unfold refL
  omega
theorem refL_len1 (ss : List Evt) (xs : List Int) : (ss.foldl refV xs).length = xs.length := by
  induction ss generalizing xs with
  | nil => rfl
  | cons s r ih =>
    rw [List.foldl_cons, ih]
    unfold refV
    split
    · split
      · rw [List.length_set]
      · rfl
    · rfl
theorem refL_len (ss : List Evt) : (refL ss).length = 9 := refL_len1 ss _
set_option maxRecDepth 10000 in
set_option maxHeartbeats 1000000 in
theorem refusedS (A : Option Addr) (n p : Nat) (ss : List Evt) (W : World) (hr : RdEvt W A n ss) (hn : n + bigEvt ss ≤ 1048576) :
    Calls Try.prog 18 #[.slice A n p] W (AnsI W 9 (refL ss)) := by
  obtain ⟨i0, hi, hz0, hz1, hz2⟩ := info_parts info3
  have HR := Lib.hid hr
  have HL := Lib.hid hr.1
  have hn1 : (n : Int) ≤ 1048576 := by omega
  clear hr hn
  go_enter Try.func18, Try.ntmps18
  go_wp2_with (at_make; refine wpList_make_full _ rfl _ _ 31 rfl W.heap.size 3 i0 (.int .i64 0) 1 Try.underlying31 hi hz0 hz1 .i64 .i64 _ _ 9 rfl rfl rfl rfl (by rw [hz2]; omega) (by unfold maxLen; omega) (Nat.le_refl _) ?_; intro w0 hown hg)
  obtain ⟨g, hgd⟩ : ∃ g, g = W.heap.size := ⟨_, rfl⟩
  rw [← hgd] at hown ⊢
  have hown0 : w0.ownsRow g 3 1 (.slice (some ⟨g, 0, none⟩) 9 9) 9 ((refL []).map (Value.int .i64)) := by
    simpa [toList_madeCells_one, Value.cells, refL] using hown
  have O0 := Lib.hid (OwnI.of_own hown0)
  have hb0 : Hid (Below g W w0) := Lib.hid (hgd ▸ (Below.refl W.heap.size W).grown hg (Nat.le_refl _) (fun k hk => by cases hk))
  have HG := Lib.hid hgd
  clear hown hg hgd hown0
  go_loopw [4] (fun i wr => ∃ k : Nat, k ≤ n ∧ i = .int .i64 k ∧ Hid (OwnI g wr (some ⟨g, 0, none⟩) 9 (refL (ss.take k))) ∧ Hid (Below g W wr)) (fun i _ => n - (intOf i).toNat)
  case atStart => exact ⟨0, Nat.zero_le _, rfl, O0, hb0⟩
  case round =>
    clear O0 hb0
    obtain ⟨k, hk, rfl, HO, HB⟩ := hrel
    by_cases hlt : k < n
    · obtain ⟨b, off, k1, a1, b1, h1, w1, c1, A', n', p', xs, rfl, hbs, hj, hat⟩ := (HR.out.of_below (HG.out ▸ HB.out)).at hlt
      obtain ⟨e0, e1, e2, e3, e4, e5, e6⟩ := hat.cells
      have hT := refL_take hj
      have hbd := refL_bd (ss.take k)
      have hlk : (ss.take k).length ≤ k := List.length_take_le _ _
      have HT := Lib.hid hT
      clear hat hj hT
      generalize hY : refL (ss.take k) = ys at HT HO hbd
      clear hY
      have HBD := Lib.hid hbd
      clear hbd
      have hi' : (k : Int) < (n : Int) := by omega
      by_cases h5 : k1 = 5
      case neg =>
        have HX : Hid (refL (ss.take (k + 1)) = ys) := Lib.hid (by rw [HT.out]; exact refV_kind h5)
        go_wp2_with fail
        go_roundw
        case rel => exact ⟨k + 1, by omega, by go_num, by rw [HX.out]; exact HO, HB⟩
        case measure => simp [intOf]; omega
      subst h5
      go_wp2_with fail
      refine (inS 0 8 b1 _).mono ?_
      rintro e w2 ⟨rfl, rfl⟩
      rcases hin : inB 0 8 b1 with _ | _
      · have HX : Hid (refL (ss.take (k + 1)) = ys) := Lib.hid (by rw [HT.out]; exact refV_out hin)
        go_wp2_with fail
        go_roundw
        case rel => exact ⟨k + 1, by omega, by go_num, by rw [HX.out]; exact HO, HB⟩
        case measure => simp [intOf]; omega
      obtain ⟨j, rfl⟩ : ∃ j : Nat, b1 = j := ⟨b1.toNat, by have := inB_iff.1 hin; omega⟩
      have hj9 : j < 9 := by have := inB_iff.1 hin; omega
      obtain ⟨y, hy⟩ : ∃ y, y = ys.getD j 0 := ⟨_, rfl⟩
      have HX : Hid (refL (ss.take (k + 1)) = ys.set j (y + 1)) := Lib.hid (by rw [HT.out, refV_in rfl hin, hy, Int.toNat_natCast])
      have hyb := HBD.out j
      rw [← hy] at hyb
      obtain ⟨g', e', hB', hl', hc'⟩ := HO.out.2 (by omega)
      cases e'
      obtain ⟨hgc, hgf⟩ := hc' j hj9
      rw [← hy] at hgc
      have HO2 := Lib.hid (HO.out.set hj9 (y + 1))
      have HB2 := Lib.hid (HB.out.setCell (p := ⟨g, j, none⟩) (Nat.le_refl _) (.int .i64 (y + 1)))
      have hj9' : (j : Int) < 9 := by omega
      clear hy hB' hc' hin
      go_wp2_with fail
      go_region
      replace HO2 := Lib.hid (HO2.out.of_below (Below.refl _ _).drew)
      replace HB2 := Lib.hid HB2.out.drew
      generalize (wr.setCell ⟨g, j, none⟩ (.int .i64 (y + 1))).drew = w3 at HO2 HB2 ⊢
      go_wp2_with fail
      go_roundw
      case rel => exact ⟨k + 1, by omega, by go_num, by rw [HX.out]; exact HO2, HB2⟩
      case measure => simp [intOf]; omega
    · obtain rfl : k = n := by omega
      have hO := HO.out
      rw [show ss.take k = ss from List.take_of_length_le (by have := HL.out; omega)] at hO
      have HC : Hid (AnsI W 9 (refL ss) (.returned (.slice (some ⟨g, 0, none⟩) 9 9)) wr) := Lib.hid ⟨_, _, rfl, HG.out ▸ hO, HG.out ▸ HB.out⟩
      clear hO HO
      go_wp2_with fail
      go_ret
      exact HC.out
set_option maxRecDepth 10000 in
set_option maxHeartbeats 1000000 in
theorem refusedI (A : Option Addr) (n p : Nat) (ss : List Evt) (W : World) (hr : RdEvt W A n ss) (hn : n + bigEvt ss ≤ 1048576) :
    Calls Try.prog 20 #[.slice A n p] W (AnsI W 9 (refL ss)) := by
  obtain ⟨i0, hi, hz0, hz1, hz2⟩ := info_parts info3
  have HR := Lib.hid hr
  have HL := Lib.hid hr.1
  have hn1 : (n : Int) ≤ 1048576 := by omega
  clear hr hn
  go_enter Try.func20, Try.ntmps20
  go_wp2_with (at_make; refine wpList_make_full _ rfl _ _ 31 rfl W.heap.size 3 i0 (.int .i64 0) 1 Try.underlying31 hi hz0 hz1 .i64 .i64 _ _ 9 rfl rfl rfl rfl (by rw [hz2]; omega) (by unfold maxLen; omega) (Nat.le_refl _) ?_; intro w0 hown hg)
  obtain ⟨g, hgd⟩ : ∃ g, g = W.heap.size := ⟨_, rfl⟩
  rw [← hgd] at hown ⊢
  have hown0 : w0.ownsRow g 3 1 (.slice (some ⟨g, 0, none⟩) 9 9) 9 ((refL []).map (Value.int .i64)) := by
    simpa [toList_madeCells_one, Value.cells, refL] using hown
  have O0 := Lib.hid (OwnI.of_own hown0)
  have hb0 : Hid (Below g W w0) := Lib.hid (hgd ▸ (Below.refl W.heap.size W).grown hg (Nat.le_refl _) (fun k hk => by cases hk))
  have HG := Lib.hid hgd
  clear hown hg hgd hown0
  go_loopw [9] (fun i wr => ∃ k : Nat, k ≤ n ∧ i = .int .i64 k ∧ Hid (OwnI g wr (some ⟨g, 0, none⟩) 9 (refL (ss.take k))) ∧ Hid (Below g W wr)) (fun i _ => n - (intOf i).toNat)
  case atStart => exact ⟨0, Nat.zero_le _, rfl, O0, hb0⟩
  case round =>
    clear O0 hb0
    obtain ⟨k, hk, rfl, HO, HB⟩ := hrel
    by_cases hlt : k < n
    · obtain ⟨b, off, k1, a1, b1, h1, w1, c1, A', n', p', xs, rfl, hbs, hj, hat⟩ := (HR.out.of_below (HG.out ▸ HB.out)).at hlt
      obtain ⟨e0, e1, e2, e3, e4, e5, e6⟩ := hat.cells
      have hT := refL_take hj
      have hbd := refL_bd (ss.take k)
      have hlk : (ss.take k).length ≤ k := List.length_take_le _ _
      have HT := Lib.hid hT
      clear hat hj hT
      generalize hY : refL (ss.take k) = ys at HT HO hbd
      clear hY
      have HBD := Lib.hid hbd
      clear hbd
      have hi' : (k : Int) < (n : Int) := by omega
      have K := Lib.hid (Bk.new wr 79 #[.int .i64 k1, .int .i64 a1, .int .i64 b1, .int .i64 h1, .int .i64 w1, .int .i64 c1, .slice A' n' p'])
      have ba := (Below.refl _ wr).alloc (Nat.le_refl _) (.cells #[.int .i64 k1, .int .i64 a1, .int .i64 b1, .int .i64 h1, .int .i64 w1, .int .i64 c1, .slice A' n' p'] 79)
      replace HO := Lib.hid (HO.out.of_below ba)
      replace HB := Lib.hid (HB.out.trans (ba.mono (by have h1 := HG.out; have h2 := HB.out.size; omega)))
      clear ba
      by_cases h5 : k1 = 5
      case neg =>
        have HX : Hid (refL (ss.take (k + 1)) = ys) := Lib.hid (by rw [HT.out]; exact refV_kind h5)
        go_wp2_with fail
        go_roundw
        case rel => exact ⟨k + 1, by omega, by go_num, by rw [HX.out]; exact HO, HB⟩
        case measure => simp [intOf]; omega
      subst h5
      go_wp2_with fail
      have hv : (wr.alloc (.cells #[.int .i64 5, .int .i64 a1, .int .i64 b1, .int .i64 h1, .int .i64 w1, .int .i64 c1, .slice A' n' p'] 79)).heap.size = wr.heap.size + 1 := by simp
      generalize wr.alloc (.cells #[.int .i64 5, .int .i64 a1, .int .i64 b1, .int .i64 h1, .int .i64 w1, .int .i64 c1, .slice A' n' p'] 79) = v at K HO HB hv ⊢
      rw [← hv]
      generalize wr.heap.size = gx at K ⊢
      clear hv
      refine (inside1I 0 8 b1 _ _ _ (Bk.new v 3 #[.int .i64 b1])).mono ?_
      rintro e w2 ⟨rfl, bb⟩
      have bv := after1 bb
      replace K := Lib.hid (K.out.below bv)
      replace HO := Lib.hid (HO.out.of_below bv)
      replace HB := Lib.hid (HB.out.trans (bv.mono (by have h2 := HO.out.2 (by omega); obtain ⟨_, e', _, hl', _⟩ := h2; cases e'; have := bv.size; have hk := K.out.lt; have := HG.out; have := HB.out.size; omega)))
      clear bb bv
      have d2 := K.out.cell 2 rfl
      rcases hin : inB 0 8 b1 with _ | _
      · have HX : Hid (refL (ss.take (k + 1)) = ys) := Lib.hid (by rw [HT.out]; exact refV_out hin)
        go_wp2_with fail
        go_roundw
        case rel => exact ⟨k + 1, by omega, by go_num, by rw [HX.out]; exact HO, HB⟩
        case measure => simp [intOf]; omega
      obtain ⟨j, rfl⟩ : ∃ j : Nat, b1 = j := ⟨b1.toNat, by have := inB_iff.1 hin; omega⟩
      have hj9 : j < 9 := by have := inB_iff.1 hin; omega
      obtain ⟨y, hy⟩ : ∃ y, y = ys.getD j 0 := ⟨_, rfl⟩
      have HX : Hid (refL (ss.take (k + 1)) = ys.set j (y + 1)) := Lib.hid (by rw [HT.out, refV_in rfl hin, hy, Int.toNat_natCast])
      have hyb := HBD.out j
      rw [← hy] at hyb
      obtain ⟨g', e', hB', hl', hc'⟩ := HO.out.2 (by omega)
      cases e'
      obtain ⟨hgc, hgf⟩ := hc' j hj9
      rw [← hy] at hgc
      have HO2 := Lib.hid (HO.out.set hj9 (y + 1))
      have HB2 := Lib.hid (HB.out.setCell (p := ⟨g, j, none⟩) (Nat.le_refl _) (.int .i64 (y + 1)))
      have hj9' : (j : Int) < 9 := by omega
      clear hy hB' hc' hin
      go_wp2_with fail
      go_roundw
      case rel => exact ⟨k + 1, by omega, by go_num, by rw [HX.out]; exact HO2, HB2⟩
      case measure => simp [intOf]; omega
    · obtain rfl : k = n := by omega
      have hO := HO.out
      rw [show ss.take k = ss from List.take_of_length_le (by have := HL.out; omega)] at hO
      have HC : Hid (AnsI W 9 (refL ss) (.returned (.slice (some ⟨g, 0, none⟩) 9 9)) wr) := Lib.hid ⟨_, _, rfl, HG.out ▸ hO, HG.out ▸ HB.out⟩
      clear hO HO
      go_wp2_with fail
      go_ret
      exact HC.out
theorem refusedSn (A : Option Addr) (n p : Nat) (ss : List Evt) (W : World) (hr : RdEvt W A n ss) (hn : n + bigEvt ss ≤ 1048576) :
    Calls Try.prog 18 #[.slice A n p] W (AnsI W (refL ss).length (refL ss)) := by rw [refL_len]; exact refusedS A n p ss W hr hn
theorem refusedIn (A : Option Addr) (n p : Nat) (ss : List Evt) (W : World) (hr : RdEvt W A n ss) (hn : n + bigEvt ss ≤ 1048576) :
    Calls Try.prog 20 #[.slice A n p] W (AnsI W (refL ss).length (refL ss)) := by rw [refL_len]; exact refusedI A n p ss W hr hn
end Qt
end Go.Proofs.Ytalkoaahhkafaaa
