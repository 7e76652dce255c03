/- TakeWide of the program and of its model: both the same number and the same end. Conditions: the slice reads as the list of bytes that is named. -/
import Derived.Test.YtodjackfolaifaaPutW
import Derived.Test.YtodjackfolaifaaTakeMath
namespace Go.Proofs.Ytodjackfolaifaa
open Go.RowKit
namespace Qt
theorem retW_int {k : IntKind} {x y : Int} (h : x = y) : Ending.returned (.int k x) = .returned (.int k y) := by rw [h]
theorem retW_two {k l : IntKind} {x y a b : Int} (h : x = y) (h2 : a = b) : Ending.returned (.tuple #[.int k x, .int l a]) = .returned (.tuple #[.int k y, .int l b]) := by rw [h, h2]
theorem negW {u : Int} (h : 0 ≤ u) : (-(u + 1)).tdiv 2 = -((u + 1) / 2) := by rw [Int.neg_tdiv, Int.tdiv_eq_ediv_of_nonneg (by omega)]
theorem negW2 {u : Int} (h : 0 ≤ u) (h2 : u ≤ 4398046511104) : wrap64 (-(u + 1).tdiv 2) = -((u + 1) / 2) := by rw [Int.tdiv_eq_ediv_of_nonneg (by omega)]; unfold wrap64; omega
theorem negW3 {x T : Int} (h : x = T) (h2 : 0 ≤ T) : (-(x + 1)).tdiv 2 = -((T + 1) / 2) := by subst h; exact negW h2
theorem negW4 {x T : Int} (h : x = T) (h2 : 0 ≤ T) (h3 : T ≤ 4398046511104) : wrap64 (-(x + 1).tdiv 2) = -((T + 1) / 2) := by subst h; exact negW2 h2 h3
theorem unfW_odd {u : Int} (h : u % 2 = 1) : unfW u = -((u + 1) / 2) := if_pos h
theorem unfW_even {u : Int} (h : ¬ u % 2 = 1) : unfW u = u / 2 := if_neg h
theorem six {i : Nat} (h : i < 6) : i = 0 ∨ i = 1 ∨ i = 2 ∨ i = 3 ∨ i = 4 ∨ i = 5 := by omega
theorem pow6 : powW 0 = 1 ∧ powW 1 = 128 ∧ powW 2 = 16384 ∧ powW 3 = 2097152 ∧ powW 4 = 268435456 ∧ powW 5 = 34359738368 ∧ powW 6 = 4398046511104 := by decide
theorem unfoldI (u : Int) (h : 0 ≤ u ∧ u ≤ 4398046511104) (w : World) : Calls Try.prog 33 #[.int .i64 u] w fun e w' => e = .returned (.int .i64 (unfW u)) ∧ w = w' := by
  obtain ⟨h1, h2⟩ := h
  unfold unfW
  by_cases h3 : u % 2 = 1
  · rw [if_pos h3]
    go_enter Try.func33, Try.ntmps33
    go_wp2
    go_ret
    exact ⟨retW_int (by
      have e : (-(u+1)).tdiv 2 = -((u+1)/2) := by rw [Int.neg_tdiv, Int.tdiv_eq_ediv_of_nonneg (by omega)]
      first | (rw [e]; unfold wrap64; omega) | (rw [Int.tdiv_eq_ediv_of_nonneg (by omega)]; unfold wrap64; omega)), rfl⟩
  · rw [if_neg h3]
    go_enter Try.func33, Try.ntmps33
    go_wp2
    go_ret
    exact ⟨retW_int (by omega), rfl⟩
set_option maxHeartbeats 4000000 in
set_option maxRecDepth 100000 in
theorem takeS (A : Option Addr) (n p : Nat) (xs : List Int) (t : Int) (W : World) (hr : RdB8 W A n xs) (hx : ByY xs) (hn : n ≤ 1048576) :
    Calls Try.prog 14 #[.slice A n p, .int .i64 t] W fun e W' => e = .returned (.tuple #[.int .i64 (takeW xs t).1, .int .i64 (takeW xs t).2]) ∧ ∃ m, W' = W.drewN m := by
  have hn1 : (n : Int) ≤ 1048576 := by omega
  by_cases ho : t < 0 ∨ (n : Int) ≤ t
  · have hl := hr.1
    rw [takeW_out (by omega)]
    clear hr hx hl
    by_cases h2 : t < 0
    · go_enter Try.func14, Try.ntmps14
      go_wp2
      refine wp_loop_rounds 1 ?_
      rw [rounds_succ]
      go_wp2
      go_ret2
      exact ⟨rfl, 0, rfl⟩
    · go_enter Try.func14, Try.ntmps14
      go_wp2
      refine wp_loop_rounds 1 ?_
      rw [rounds_succ]
      go_wp2
      go_ret2
      exact ⟨rfl, 0, rfl⟩
  · obtain ⟨a, rfl⟩ : ∃ a : Nat, t = a := ⟨t.toNat, by omega⟩
    obtain ⟨R, hR⟩ : ∃ R, R = takeW xs a := ⟨_, rfl⟩
    have HL := Lib.hid hr.1
    have H0 : Hid (R = resW a (tkW ((restW xs a).drop 0) 0 0)) := Lib.hid (by rw [hR, takeW_in (by have := hr.1; omega)]; rfl)
    rw [← hR]
    have HR := Lib.hid hr
    have HX := Lib.hid hx
    clear hr hx hR
    go_enter Try.func14, Try.ntmps14
    go_wp2
    go_loopw [6, 7] (fun q x wr => ∃ (i : Nat) (u : Int), i ≤ 6 ∧ x = .int .i64 i ∧ q = .int .i64 u ∧ 0 ≤ u ∧ u ≤ 4398046511104 ∧ Hid (u < powW i) ∧ Hid (R = resW a (tkW ((restW xs a).drop i) i u)) ∧ ∃ m, wr = W.drewN m) (fun _ x _ => 6 - (intOf x).toNat)
    case atStart => exact ⟨0, 0, by omega, rfl, rfl, by omega, by omega, Lib.hid (powW_pos 0), H0, 0, rfl⟩
    case round =>
      obtain ⟨i, u, hi, rfl, rfl, hu0, hu1, HU, HQ, m, rfl⟩ := hrel
      by_cases h6 : i < 6
      · by_cases hlt : a + i < n
        · obtain ⟨b, off, rfl, _, hcc⟩ := HR.out.2 (by omega)
          have hc1 := hcc (a + i) hlt
          have hv := HX.out.at (a + i)
          have hcons := restW_cons xs a i h6 (by have := HL.out; omega)
          clear hcc
          have hcx : W.cell? ⟨b, off + (a + i), none⟩ = some (.int .u8 (xs[a + i]?.getD 0)) := by simpa [List.getD_eq_getElem?_getD] using hc1
          have hQ := HQ.out
          rw [hcons] at hQ
          generalize xs[a + i]?.getD 0 = v at hcx hv hQ
          obtain ⟨hv0, hv1⟩ := hv
          have hU := HU.out
          have hnext := powW_next hu0 hU hv0
          have hik : (a : Int) + (i : Int) < (n : Int) := by omega
          obtain ⟨pw, hpw⟩ : ∃ pw, powW i = pw := ⟨_, rfl⟩
          by_cases hm : 128 ≤ v
          · rw [tkW_more _ _ _ hm] at hQ
            have HQ1 := Lib.hid hQ
            have HN := Lib.hid hnext
            clear hQ hU HQ hcons hnext hc1 hpw
            rcases six h6 with rfl | rfl | rfl | rfl | rfl | rfl
            all_goals
              have hn2 := HN.out
              try simp only [Nat.add_zero] at hcx
              simp only [Nat.reduceAdd, Nat.zero_add, pow6.1, pow6.2.1, pow6.2.2.1, pow6.2.2.2.1, pow6.2.2.2.2.1, pow6.2.2.2.2.2.1, pow6.2.2.2.2.2.2] at hn2
              go_wp2
              go_roundw
              case rel =>
                refine ⟨_, u + v % 128 * powW _, (by omega : _ + 1 ≤ 6), rfl, ?_, HN.out.1, ?_, Lib.hid HN.out.2, HQ1, _, rfl⟩
                · exact congrArg (Value.int .i64) (by simp only [pow6.1, pow6.2.1, pow6.2.2.1, pow6.2.2.2.1, pow6.2.2.2.2.1, pow6.2.2.2.2.2.1] <;> omega)
                · have := HN.out.2; simp only [Nat.reduceAdd, Nat.zero_add, pow6.1, pow6.2.1, pow6.2.2.1, pow6.2.2.2.1, pow6.2.2.2.2.1, pow6.2.2.2.2.2.1, pow6.2.2.2.2.2.2] at this ⊢; omega
              case measure => simp [intOf]
          · have hcase : (v = 0 ∧ 0 < i ∧ R = (0, -1)) ∨ (¬ (v = 0 ∧ 0 < i) ∧ 2199023255551 < u + v * powW i ∧ R = (0, -1)) ∨ (¬ (v = 0 ∧ 0 < i) ∧ ∃ T, T = u + v * powW i ∧ T ≤ 2199023255551 ∧ (T % 2 = 1 ∨ ¬ T % 2 = 1) ∧ R = (unfW T, (a : Int) + ((i + 1 : Nat) : Int))) := by
              by_cases h1 : v = 0 ∧ 0 < i
              · left; refine ⟨h1.1, h1.2, ?_⟩; rw [hQ, tkW_bad _ _ _ (by omega) (Or.inl h1)]; rfl
              · right; by_cases h2 : 2199023255551 < u + v * powW i
                · left; exact ⟨h1, h2, by rw [hQ, tkW_bad _ _ _ (by omega) (Or.inr h2)]; rfl⟩
                · right; exact ⟨h1, _, rfl, by omega, Classical.em _, by rw [hQ, tkW_good _ _ _ (by omega) (fun h => h.elim h1 h2)]; rfl⟩
            clear hQ HQ hcons hc1 hpw hnext hU HU
            rcases six h6 with rfl | rfl | rfl | rfl | rfl | rfl
            all_goals (
              try simp only [Nat.add_zero] at hcx
              simp only [pow6.1, pow6.2.1, pow6.2.2.1, pow6.2.2.2.1, pow6.2.2.2.2.1, pow6.2.2.2.2.2.1] at hcase
              rcases hcase with ⟨h3, h0, hR⟩ | ⟨h1, h2, hR⟩ | ⟨h1, T, hT, h2, hp | hp, hR⟩
              · first
                  | (exfalso; omega)
                  | (subst h3; have HRR := Lib.hid hR; clear hR; go_wp2; go_ret2; rw [HRR.out]; exact ⟨rfl, _, rfl⟩)
              · rcases Classical.em (v = 0) with hz | hz
                · first
                    | (exfalso; omega)
                    | (subst hz; have HRR := Lib.hid hR; clear hR; go_wp2; go_ret2; rw [HRR.out]; exact ⟨rfl, _, rfl⟩)
                · have HRR := Lib.hid hR; clear hR; go_wp2; go_ret2; rw [HRR.out]; exact ⟨rfl, _, rfl⟩
              · rcases Classical.em (v = 0) with hz | hz
                · first
                    | (exfalso; omega)
                    | (subst hz; have HRR := Lib.hid hR; clear hR; go_wp2; go_ret2; rw [HRR.out]; exact ⟨retW_two (by rw [unfW_odd hp]; first | exact negW3 (by omega) (by omega) | exact negW4 (by omega) (by omega) (by omega)) (by omega), _, rfl⟩)
                · have HRR := Lib.hid hR; clear hR; go_wp2; go_ret2; rw [HRR.out]; exact ⟨retW_two (by rw [unfW_odd hp]; first | exact negW3 (by omega) (by omega) | exact negW4 (by omega) (by omega) (by omega)) (by omega), _, rfl⟩
              · rcases Classical.em (v = 0) with hz | hz
                · first
                    | (exfalso; omega)
                    | (subst hz; have HRR := Lib.hid hR; clear hR; go_wp2; go_ret2; rw [HRR.out]; exact ⟨retW_two (by rw [unfW_even hp]; omega) (by omega), _, rfl⟩)
                · have HRR := Lib.hid hR; clear hR; go_wp2; go_ret2; rw [HRR.out]; exact ⟨retW_two (by rw [unfW_even hp]; omega) (by omega), _, rfl⟩)
        · have hQ := HQ.out
          rw [restW_end xs a i (Or.inr (by have := HL.out; omega))] at hQ
          have hR0 : Hid (R = (0, -1)) := Lib.hid hQ
          clear hQ
          go_wp2
          go_ret2
          rw [hR0.out]
          exact ⟨rfl, _, rfl⟩
      · have hQ := HQ.out
        rw [restW_end xs a i (Or.inl (by omega))] at hQ
        have hR0 : Hid (R = (0, -1)) := Lib.hid hQ
        clear hQ
        go_wp2
        go_ret2
        rw [hR0.out]
        exact ⟨rfl, _, rfl⟩
end Qt
end Go.Proofs.Ytodjackfolaifaa
