/- What l12Best of the model gives when it is called: the least span. Conditions: the slices read as the lists that are named, the loads that have something come first. -/
import Derived.Test.YtfihjehpkpminaaBestI
import Derived.Test.YtfihjehpkpminaaCopies
namespace Go.Proofs.Ytfihjehpkpminaa
open Go.RowKit Go.Sort
set_option linter.unusedSimpArgs false
set_option linter.unusedVariables false
namespace Qt
theorem mxL_le {L : List Int} {B : Int} (h : capL L B) (hB : 0 ≤ B) : mxL L ≤ B := by
  have : ∀ (L : List Int) (a : Int), a ≤ B → (∀ x ∈ L, 0 ≤ x ∧ x ≤ B) → L.foldl max a ≤ B := by
    intro L
    induction L with
    | nil => intro a ha _; exact ha
    | cons x t ih => intro a ha hx; exact ih _ (by have := hx x (List.mem_cons_self ..); omega) (fun y hy => hx y (List.mem_cons_of_mem _ hy))
  exact this L 0 hB h
theorem bspan_le {xs L : List Int} {B : Int} (h : capL L B) (hB : 0 ≤ B) (hB2 : B ≤ BIG) : bspan xs L ≤ BIG := by
  cases xs with
  | nil => have := mxL_le h hB; show mxL L ≤ BIG; omega
  | cons x xs => exact minU_le _
/-- The bspan so far: -1 ahead of the first worker. -/
def soFar (f : Nat → Int) (k : Nat) : Int := if k = 0 then -1 else minU f k
theorem soFar_zero (f : Nat → Int) : soFar f 0 = -1 := rfl
theorem soFar_next {f : Nat → Int} (h : ∀ w, 0 ≤ f w) (hb : ∀ w, f w ≤ BIG) (k : Nat) : soFar f (k + 1) = (if soFar f k < 0 ∨ f k < soFar f k then f k else soFar f k) := by
  have h0 := h k
  have hb0 := hb k
  have hm := minU_nonneg h k
  unfold soFar
  rw [if_neg (by omega)]
  show min (minU f k) (f k) = _
  by_cases hk : k = 0
  · subst hk
    rw [if_pos rfl, if_pos (Or.inl (by omega))]
    show min BIG (f 0) = f 0
    omega
  · rw [if_neg hk]
    split <;> omega
theorem soFar_pos {f : Nat → Int} {k : Nat} (hk : 0 < k) : soFar f k = minU f k := by unfold soFar; rw [if_neg (by omega)]
set_option maxHeartbeats 2000000 in
theorem bestS : ∀ (m : Nat) (xs : List Int) (a : Nat) (A : Option Addr) (N p : Nat) (C : Option Addr) (n q : Nat) (L : List Int) (B : Int) (W : World), RdI W A N xs → a + m = N → N ≤ 8 → (∀ x ∈ xs, 1 ≤ x ∧ x ≤ 1000) → RdI W C n L → 1 ≤ n ∧ n ≤ 3 → goodL L → capL L B → 0 ≤ B ∧ B + 1000 * (m : Int) ≤ 1000000 →
    Calls Try.prog 69 #[.slice A N p, .int .i64 a, .slice C n q] W fun e W' => e = .returned (.int .i64 (bspan (xs.drop a) L)) ∧ Below W.heap.size W W' := by
  intro m
  induction m with
  | zero =>
    intro xs a A N p C n q L B W hr ham hN hx hc hn hg hcp hB
    obtain rfl : a = N := by omega
    have hd : xs.drop a = [] := List.drop_of_length_le (by rw [hr.1]; exact Nat.le_refl _)
    rw [hd]
    have e0 : bspan [] L = mxL L := rfl
    rw [e0]
    have HC := Lib.hid hc
    have HS : Hid (∀ k, k < L.length → mxL (L.take (k + 1)) = max (mxL (L.take k)) (L[k]?.getD 0)) := Lib.hid (fun k hk => foldR_snoc L k hk 0)
    have hn3 : (n : Int) ≤ 3 := by omega
    clear hr hx hd e0 hc hg hcp hB
    go_enter Try.func69, Try.ntmps69
    go_wp2_with fail
    go_loopw [7, 8] (fun mv i wr => ∃ k : Nat, k ≤ n ∧ i = .int .i64 k ∧ mv = .int .i64 (mxL (L.take k)) ∧ W = wr) (fun _ i _ => n - (intOf i).toNat)
    case atStart => exact ⟨0, Nat.zero_le _, rfl, rfl, rfl⟩
    case round =>
      obtain ⟨k, hk, rfl, rfl, rfl⟩ := hrel
      by_cases hlt : k < n
      · obtain ⟨b', off, rfl, hbl, hcell⟩ := HC.out.2 (by omega)
        have hc1 := hcell k hlt
        have hx1 : L.getD k 0 = L[k]?.getD 0 := List.getD_eq_getElem?_getD ..
        rw [hx1] at hc1
        have HS1 := Lib.hid (HS.out k (by rw [HC.out.1]; exact hlt))
        generalize L[k]?.getD 0 = x at *
        generalize mxL (L.take k) = y at *
        have hi1 : (k : Int) < (n : Int) := by omega
        clear hcell hbl hx1
        by_cases hgt : y < x
        all_goals
          go_wp2_with fail
          go_roundw
          case rel => exact ⟨k + 1, by omega, by go_num, by rw [HS1.out]; congr 1; omega, trivial⟩
          case measure => simp [intOf]; omega
      · obtain rfl : k = n := by omega
        have ht : L.take k = L := List.take_of_length_le (by rw [HC.out.1]; exact Nat.le_refl _)
        rw [ht]
        clear ht
        go_wp2_with fail
        go_ret
        exact ⟨rfl, Below.refl _ _⟩
  | succ m ih =>
    intro xs a A N p C n q L B W hr ham hN hx hc hn hg hcp hB
    have halt : a < xs.length := by rw [hr.1]; omega
    have hd : xs.drop a = (xs[a]?.getD 0) :: xs.drop (a + 1) := by
      rw [List.getElem?_eq_getElem halt, Option.getD_some]; exact List.drop_eq_getElem_cons halt
    have hx1 : 1 ≤ xs[a]?.getD 0 ∧ xs[a]?.getD 0 ≤ 1000 := by
      rw [List.getElem?_eq_getElem halt, Option.getD_some]; exact hx _ (List.getElem_mem halt)
    obtain ⟨x, hxd⟩ : ∃ x, x = xs[a]?.getD 0 := ⟨_, rfl⟩
    rw [← hxd] at hd hx1
    rw [hd]
    have HD := Lib.hid hd
    have HXD := Lib.hid hxd
    have HR := Lib.hid hr
    have HC := Lib.hid hc
    have HG := Lib.hid hg
    have HCP := Lib.hid hcp
    have HX := Lib.hid hx
    have HIH := Lib.hid ih
    have hn3 : (n : Int) ≤ 3 := by omega
    have hn1 : 1 ≤ (n : Int) := by omega
    have haN : (a : Int) < (N : Int) := by omega
    have hN8 : (N : Int) ≤ 8 := by omega
    have hae : ((a : Int) == (N : Int)) = false := by simp; omega
    have hbk := bspan_cons x (xs.drop (a + 1)) L
    rw [hc.1] at hbk
    obtain ⟨F, hF⟩ : ∃ F : Nat → Int, F = fun w => bspan (xs.drop (a + 1)) (addAt L w x) := ⟨_, rfl⟩
    rw [← hF] at hbk
    have HF := Lib.hid hF
    have HBK := Lib.hid hbk
    have HF0 : Hid (∀ w, 0 ≤ F w) := Lib.hid (fun w => by rw [hF]; exact bspan_nonneg _ _)
    have HFB : Hid (∀ w, F w ≤ BIG) := Lib.hid (fun w => by rw [hF]; exact bspan_le (capL_add hcp (by omega) hB.1 w) (by omega) (by unfold BIG; omega))
    clear hr hc hg hcp hx ih hd hxd hbk hF halt
    generalize bspan (x :: xs.drop (a + 1)) L = R at *
    go_enter Try.func69, Try.ntmps69
    go_wp2_with fail
    go_loopw [9, 10] (fun bv i wr => ∃ k : Nat, k ≤ n ∧ i = .int .i64 k ∧ bv = .int .i64 (soFar F k) ∧ Hid (∀ j, j < k → L.getD j 0 ≠ 0) ∧ Hid (Below W.heap.size W wr)) (fun _ i _ => n - (intOf i).toNat)
    case atStart => exact ⟨0, Nat.zero_le _, rfl, rfl, Lib.hid (fun j hj => absurd hj (Nat.not_lt_zero _)), Lib.hid (Below.refl _ _)⟩
    case round =>
      obtain ⟨k, hk, rfl, rfl, HP, HW⟩ := hrel
      by_cases hlt : k < n
      · have hi1 : (k : Int) < (n : Int) := by omega
        go_wp2_with fail
        refine (copyS C n q L _ (HC.out.of_below HW.out) (by omega)).mono ?_
        rintro e w2 ⟨D, cap, rfl, ho, b2⟩
        obtain ⟨g, rfl, hgB, hgl, hgc⟩ := ho.2 (by omega)
        have HO := Lib.hid ho
        have HW2 := Lib.hid (HW.out.trans (b2.mono HW.out.size))
        have HGB : Hid (W.heap.size ≤ g) := Lib.hid (Nat.le_trans HW.out.size hgB)
        have hgk := (hgc k hlt).1
        have hgf := (hgc k hlt).2
        obtain ⟨y, hy⟩ : ∃ y, y = L.getD k 0 := ⟨_, rfl⟩
        rw [← hy] at hgk
        have HY := Lib.hid hy
        have hyb := capL_at HCP.out k hB.1
        rw [← hy] at hyb
        obtain ⟨b', off, rfl, hbl, hcell⟩ := HR.out.2 (by omega)
        have hja := (HW2.out.cell (p := ⟨b', off + a, none⟩) hbl).trans (hcell a (by omega))
        rw [show xs.getD a 0 = x by rw [HXD.out, List.getD_eq_getElem?_getD]] at hja
        clear ho b2 hgB hgc hcell hbl hy
        have HI : Hid (∀ (w1 : World) (cap' : Nat), RdI w1 (some ⟨b', off, none⟩) N xs → RdI w1 (some ⟨g, 0, none⟩) n (addAt L k x) →
            Calls Try.prog 69 #[.slice (some ⟨b', off, none⟩) N p, .int .i64 ((a : Int) + 1), .slice (some ⟨g, 0, none⟩) n cap'] w1 fun e w' => e = .returned (.int .i64 (F k)) ∧ Below w1.heap.size w1 w') := Lib.hid (fun w1 cap' h1 h2 => by
          have h := HIH.out xs (a + 1) (some ⟨b', off, none⟩) N p (some ⟨g, 0, none⟩) n cap' (addAt L k x) (B + 1000) w1 h1 (by omega) hN HX.out h2 hn
            (goodL_add (by rw [HC.out.1]; exact hn) HG.out hx1.1 (by rw [HC.out.1]; exact hlt) HP.out) (capL_add HCP.out (by omega) hB.1 k) (by omega)
          rw [HF.out]
          exact h)
        have HA : Hid (addAt L k x = L.set k (y + x)) := Lib.hid (by rw [HY.out]; rfl)
        have HO2 : Hid (RdI (w2.setCell ⟨g, k, none⟩ (.int .i64 (y + x))).drew (some ⟨g, 0, none⟩) n (addAt L k x)) := Lib.hid (by rw [HA.out]; exact (HO.out.set hlt (y + x)).rdI)
        have HW3 : Hid (Below W.heap.size W (w2.setCell ⟨g, k, none⟩ (.int .i64 (y + x))).drew) := Lib.hid (HW2.out.setCell (p := ⟨g, k, none⟩) HGB.out _).drew
        clear HO
        go_wp2_with fail
        go_region
        clear hgk hgf hja
        generalize (w2.setCell ⟨g, k, none⟩ (.int .i64 (y + x))).drew = w3 at HO2 HW3 ⊢
        go_wp2_with fail
        refine (HI.out _ _ (HR.out.of_below HW3.out) HO2.out).mono ?_
        rintro e w4 ⟨rfl, bb⟩
        have HW4 := Lib.hid (HW3.out.trans (bb.mono HW3.out.size))
        clear bb HI HO2 HW3 HW2
        obtain ⟨b2, off2, rfl, hbl2, hcell2⟩ := HC.out.2 (by omega)
        have hck := (HW4.out.cell (p := ⟨b2, off2 + k, none⟩) hbl2).trans (hcell2 k hlt)
        rw [← HY.out] at hck
        have hN2 := soFar_next HF0.out HFB.out k
        have hst : y = 0 → soFar F (k + 1) = R := fun h0 => by
          rw [soFar_pos (by omega), HF.out, HBK.out, HF.out]
          have := bspan_stop (xs := xs.drop (a + 1)) (x := x) (by rw [HC.out.1]; exact hn) HG.out (by rw [HC.out.1]; exact hlt) (by rw [← HY.out]; exact h0)
          rw [this, bspan_cons, HC.out.1]
        have HST := Lib.hid hst
        have HN2 := Lib.hid hN2
        clear hbl2 hcell2 hst hN2
        obtain ⟨s, hs⟩ : ∃ s, s = soFar F k := ⟨_, rfl⟩
        obtain ⟨f, hf⟩ : ∃ f, f = F k := ⟨_, rfl⟩
        rw [← hs]
        rw [← hf]
        have HS := Lib.hid hs
        have HFF := Lib.hid hf
        clear hs hf
        clear hyb
        rcases (by omega : s < 0 ∨ (¬ s < 0 ∧ f < s) ∨ (¬ s < 0 ∧ ¬ f < s)) with c1 | ⟨c1, c2⟩ | ⟨c1, c2⟩
        · skip
          have HE : Hid (soFar F (k + 1) = f) := Lib.hid (by have := HN2.out; rw [← HS.out, ← HFF.out] at this; rw [this]; split <;> omega)
          by_cases hy0 : y = 0
          · subst hy0
            have HR1 : Hid (R = f) := Lib.hid (by rw [← HE.out]; exact (HST.out rfl).symm)
            go_wp2_with fail
            go_ret
            exact ⟨ret_int HR1.out.symm, HW4.out⟩
          · have hyb2 : (y == 0) = false := by simpa using hy0
            have HP2 : Hid (∀ j, j < k + 1 → L.getD j 0 ≠ 0) := Lib.hid (fun j hj => by
              rcases (by omega : j < k ∨ j = k) with h1 | rfl
              · exact HP.out j h1
              · rw [← HY.out]; exact hy0)
            clear hy0
            go_wp2_with fail
            go_roundw
            case rel => exact ⟨k + 1, by omega, by go_num, by rw [HE.out], HP2, HW4⟩
            case measure => simp [intOf]; omega
        · skip
          have HE : Hid (soFar F (k + 1) = f) := Lib.hid (by have := HN2.out; rw [← HS.out, ← HFF.out] at this; rw [this]; split <;> omega)
          by_cases hy0 : y = 0
          · subst hy0
            have HR1 : Hid (R = f) := Lib.hid (by rw [← HE.out]; exact (HST.out rfl).symm)
            go_wp2_with fail
            go_ret
            exact ⟨ret_int HR1.out.symm, HW4.out⟩
          · have hyb2 : (y == 0) = false := by simpa using hy0
            have HP2 : Hid (∀ j, j < k + 1 → L.getD j 0 ≠ 0) := Lib.hid (fun j hj => by
              rcases (by omega : j < k ∨ j = k) with h1 | rfl
              · exact HP.out j h1
              · rw [← HY.out]; exact hy0)
            clear hy0
            go_wp2_with fail
            go_roundw
            case rel => exact ⟨k + 1, by omega, by go_num, by rw [HE.out], HP2, HW4⟩
            case measure => simp [intOf]; omega
        · skip
          have HE : Hid (soFar F (k + 1) = s) := Lib.hid (by have := HN2.out; rw [← HS.out, ← HFF.out] at this; rw [this]; split <;> omega)
          by_cases hy0 : y = 0
          · subst hy0
            have HR1 : Hid (R = s) := Lib.hid (by rw [← HE.out]; exact (HST.out rfl).symm)
            go_wp2_with fail
            go_ret
            exact ⟨ret_int HR1.out.symm, HW4.out⟩
          · have hyb2 : (y == 0) = false := by simpa using hy0
            have HP2 : Hid (∀ j, j < k + 1 → L.getD j 0 ≠ 0) := Lib.hid (fun j hj => by
              rcases (by omega : j < k ∨ j = k) with h1 | rfl
              · exact HP.out j h1
              · rw [← HY.out]; exact hy0)
            clear hy0
            go_wp2_with fail
            go_roundw
            case rel => exact ⟨k + 1, by omega, by go_num, by rw [HE.out], HP2, HW4⟩
            case measure => simp [intOf]; omega
      · obtain rfl : k = n := by omega
        have HR1 : Hid (R = soFar F k) := Lib.hid (by rw [soFar_pos (by omega)]; exact HBK.out)
        go_wp2_with fail
        go_ret
        exact ⟨ret_int HR1.out.symm, HW.out⟩
end Qt
end Go.Proofs.Ytfihjehpkpminaa
