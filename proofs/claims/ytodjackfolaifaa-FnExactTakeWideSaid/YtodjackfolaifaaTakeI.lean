/- TakeWide of the program: the number and the end that the plain mathematics says. Conditions: the slice reads as the list of bytes that is named. -/
import Derived.Test.YtodjackfolaifaaTakeW
namespace Go.Proofs.Ytodjackfolaifaa
open Go.RowKit
namespace Qt
theorem run_min2 {P : Program} (ts : Array TypeId) (t : TypeId) (x y : Int) (w : World) : (Builtin.min_ ts t #[.int .i64 x, .int .i64 y]).run P w = .ok (.int .i64 (min x y)) w := by
  have h : min x y = if y < x then y else x := by repeat' split <;> omega
  rw [h]
  simp [Builtin.min_, Builtin.min2]
theorem unfoldT (x T : Int) (h : x = T) (h2 : 0 ≤ T ∧ T ≤ 4398046511104) (w : World) : Calls Try.prog 33 #[.int .i64 x] w fun e w' => e = .returned (.int .i64 (unfW T)) ∧ w = w' := by
  subst h; exact unfoldI x h2 w
set_option maxHeartbeats 4000000 in
set_option maxRecDepth 100000 in
theorem takeI (A : Option Addr) (n p : Nat) (xs : List Int) (t : Int) (W : World) (hr : RdB8 W A n xs) (hx : ByY xs) (hn : n ≤ 1048576) (hp : n ≤ p) :
    Calls Try.prog 16 #[.slice A n p, .int .i64 t] W fun e W' => e = .returned (.tuple #[.int .i64 (takeW xs t).1, .int .i64 (takeW xs t).2]) ∧ Below W.heap.size W W' := by
  have hn1 : (n : Int) ≤ 1048576 := by omega
  by_cases ho : t < 0 ∨ (n : Int) ≤ t
  · have hl := hr.1
    rw [takeW_out (by omega)]
    clear hr hx hl
    by_cases h2 : t < 0
    · go_enter Try.func16, Try.ntmps16
      go_wp2
      go_ret2
      exact ⟨rfl, Below.refl _ _⟩
    · go_enter Try.func16, Try.ntmps16
      go_wp2
      go_ret2
      exact ⟨rfl, Below.refl _ _⟩
  · obtain ⟨a, rfl⟩ : ∃ a : Nat, t = a := ⟨t.toNat, by omega⟩
    obtain ⟨R, hR⟩ : ∃ R, R = takeW xs a := ⟨_, rfl⟩
    have HL := Lib.hid hr.1
    have H0 : Hid (R = resW a (tkW ((restW xs a).drop 0) 0 0)) := Lib.hid (by rw [hR, takeW_in (by have := hr.1; omega)]; rfl)
    rw [← hR]
    obtain ⟨b, off, rfl, hbl, hcc⟩ := hr.2 (by omega)
    have HC := Lib.hid hcc
    have HX := Lib.hid hx
    obtain ⟨N, hN⟩ : ∃ N : Nat, N = min (n - a) 6 := ⟨_, rfl⟩
    obtain ⟨M, hM⟩ : ∃ M : Nat, M = a + N := ⟨_, rfl⟩
    have hMin : ∀ ts ty w0, (Builtin.min_ ts ty #[.int .i64 (n : Int), .int .i64 ((a : Int) + 6)]).run Try.prog w0 = .ok (.int .i64 (M : Int)) w0 := fun ts ty w0 => by
      rw [run_min2, show min (n : Int) ((a : Int) + 6) = (M : Int) by omega]
    have hMN : M - a = N := by omega
    have hM1 : a ≤ M := by omega
    have hM2 : M ≤ n := by omega
    have hN6 : N ≤ 6 := by omega
    have HN := Lib.hid hN
    have HMN := Lib.hid hMN
    clear hr hx hR hcc hN hM hMN
    go_enter Try.func16, Try.ntmps16
    go_wp2_with fail
    clear hMin
    rw [HMN.out]
    go_loopw [6, 27] (fun q x wr => ∃ (i : Nat) (u : Int), i ≤ N ∧ x = .int .i64 i ∧ q = .int .i64 u ∧ 0 ≤ u ∧ u ≤ 4398046511104 ∧ Hid (u < powW i) ∧ Hid (R = resW a (tkW ((restW xs a).drop i) i u)) ∧ ∃ m, wr = W.drewN m) (fun _ x _ => N - (intOf x).toNat)
    case atStart => exact ⟨0, 0, by omega, rfl, rfl, by omega, by omega, Lib.hid (powW_pos 0), H0, 0, rfl⟩
    case round =>
      obtain ⟨i, u, hi, rfl, rfl, hu0, hu1, HU, HQ, m, rfl⟩ := hrel
      by_cases hlt : i < N
      · have h6 : i < 6 := by omega
        have hcx : W.cell? ⟨b, off + a + i, none⟩ = some (.int .u8 (xs[a + i]?.getD 0)) := by
          have := HC.out (a + i) (by have := HN.out; omega)
          rw [← Nat.add_assoc] at this
          simpa [List.getD_eq_getElem?_getD] using this
        have hv := HX.out.at (a + i)
        have hQ := HQ.out
        rw [restW_cons xs a i h6 (by have := HL.out; have := HN.out; omega)] at hQ
        generalize xs[a + i]?.getD 0 = v at hcx hv hQ
        obtain ⟨hv0, hv1⟩ := hv
        have hU := HU.out
        have hnext := powW_next hu0 hU hv0
        have hik : (i : Int) < (N : Int) := by omega
        by_cases hm : 128 ≤ v
        · rw [tkW_more _ _ _ hm] at hQ
          have HQ1 := Lib.hid hQ
          have HX1 := Lib.hid hnext
          clear hQ hU HQ hnext
          rcases six h6 with rfl | rfl | rfl | rfl | rfl | rfl
          all_goals
            have hn2 := HX1.out
            try simp only [Nat.add_zero] at hcx
            simp only [Nat.reduceAdd, Nat.zero_add, pow6.1, pow6.2.1, pow6.2.2.1, pow6.2.2.2.1, pow6.2.2.2.2.1, pow6.2.2.2.2.2.1, pow6.2.2.2.2.2.2] at hn2
            go_wp2
            go_roundw
            case rel =>
              refine ⟨_, u + v % 128 * powW _, (by omega : _ + 1 ≤ N), rfl, ?_, HX1.out.1, ?_, Lib.hid HX1.out.2, HQ1, _, rfl⟩
              · exact congrArg (Value.int .i64) (by simp only [pow6.1, pow6.2.1, pow6.2.2.1, pow6.2.2.2.1, pow6.2.2.2.2.1, pow6.2.2.2.2.2.1] <;> omega)
              · have := HX1.out.2; simp only [Nat.reduceAdd, Nat.zero_add, pow6.1, pow6.2.1, pow6.2.2.1, pow6.2.2.2.1, pow6.2.2.2.2.1, pow6.2.2.2.2.2.1, pow6.2.2.2.2.2.2] at this ⊢; omega
            case measure => simp [intOf]; try omega
        · have hag := putW_again (i := i) (by omega) hu0 hU hv0 (by omega)
          have hcase : ∃ T, T = u + v * powW i ∧ 0 ≤ T ∧ T ≤ 4398046511104 ∧ Hid (((putW (unfW T)).length ≠ i + 1 ∧ R = (0, -1)) ∨ ((putW (unfW T)).length = i + 1 ∧ R = (unfW T, (a : Int) + ((i + 1 : Nat) : Int)))) := by
            rw [Int.emod_eq_of_lt hv0 (by omega)] at hnext
            refine ⟨_, rfl, hnext.1, ?_, Lib.hid ?_⟩
            · have := hnext.2
              rcases six h6 with rfl | rfl | rfl | rfl | rfl | rfl <;> simp only [Nat.reduceAdd, Nat.zero_add, pow6.1, pow6.2.1, pow6.2.2.1, pow6.2.2.2.1, pow6.2.2.2.2.1, pow6.2.2.2.2.2.1, pow6.2.2.2.2.2.2] at this ⊢ <;> omega
            · by_cases h1 : v = 0 ∧ 0 < i ∨ 2199023255551 < u + v * powW i
              · left; exact ⟨fun h => (hag.1 h) h1, by rw [hQ, tkW_bad _ _ _ (by omega) h1]; rfl⟩
              · right; exact ⟨hag.2 h1, by rw [hQ, tkW_good _ _ _ (by omega) h1]; rfl⟩
          obtain ⟨T, hT, hT0, hT1, HCS⟩ := hcase
          clear hQ HQ hU HU hag hnext
          rcases six h6 with rfl | rfl | rfl | rfl | rfl | rfl
          all_goals (
            try simp only [Nat.add_zero] at hcx
            simp only [pow6.1, pow6.2.1, pow6.2.2.1, pow6.2.2.2.1, pow6.2.2.2.2.1, pow6.2.2.2.2.2.1] at hT
            have HT := Lib.hid hT
            clear hT
            go_wp2_with (first
              | (go_at_call 33; refine (unfoldT _ T (by have := HT.out; omega) ⟨hT0, hT1⟩ _).mono ?_; rintro e w' ⟨rfl, rfl⟩))
            refine (putI _ _).mono ?_
            rintro e w2 ⟨A2, n2, cap2, rfl, ho2, hb2⟩
            have HB2 := Lib.hid hb2
            have hn2 := ho2.1
            clear ho2 hb2
            rcases HCS.out with ⟨h1, hR⟩ | ⟨h1, hR⟩
            · have hne : n2 ≠ _ := fun h => h1 (hn2.trans h)
              have HRR := Lib.hid hR
              clear hR h1 hn2
              go_wp2
              go_ret2
              rw [HRR.out]
              exact ⟨rfl, (below_drewN (Below.refl _ _) _).trans HB2.out⟩
            · have hne : n2 = _ := hn2.symm.trans h1
              have HRR := Lib.hid hR
              clear hR h1 hn2
              go_wp2
              go_ret2
              rw [HRR.out]
              exact ⟨retW_two rfl (by omega), (below_drewN (Below.refl _ _) _).trans HB2.out⟩)
      · have hQ := HQ.out
        rw [restW_end xs a i (by have := HL.out; have := HN.out; omega)] at hQ
        have hR0 : Hid (R = (0, -1)) := Lib.hid hQ
        clear hQ
        go_wp2
        go_ret2
        rw [hR0.out]
        exact ⟨rfl, below_drewN (Below.refl _ _) _⟩
end Qt
end Go.Proofs.Ytodjackfolaifaa
