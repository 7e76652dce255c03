/- Two slices of whole numbers compared: l03Same of the model and slices.Equal of ints. Conditions: the slices read as the lists that are named. -/
import Derived.Test.YthkjmdboflngaaaSame
namespace Go.Proofs.Ythkjmdboflngaaa
open Go.RowKit Go.Sort
namespace Qt
theorem sameInt (A A2 : Option Addr) (n n2 p p2 : Nat) (xs ys : List Int) (W : World) (hr : RdI W A n xs) (hr2 : RdI W A2 n2 ys) (hn : n ≤ 1048576) (hn2 : n2 ≤ 1048576) :
    Calls Try.prog 65 #[.slice A n p, .slice A2 n2 p2] W fun e W' => e = .returned (.bool (decide (xs = ys))) ∧ ∃ m, W' = W.drewN m := by
  have R0 := Lib.hid hr
  have R1 := Lib.hid hr2
  have hn0 : (0 : Int) ≤ n := Int.natCast_nonneg n
  have hn1 : (n : Int) ≤ 1048576 := by omega
  have hn3 : (0 : Int) ≤ n2 := Int.natCast_nonneg n2
  have hn4 : (n2 : Int) ≤ 1048576 := by omega
  obtain ⟨r, hrr⟩ : ∃ r, decide (xs = ys) = r := ⟨_, rfl⟩
  rw [hrr]
  have HRR := Lib.hid hrr
  clear hr hr2 hn hn2 hrr
  by_cases hne : n2 = n
  case neg =>
    obtain rfl : r = false := by
      rw [← HRR.out, decide_eq_false_iff_not]; rintro rfl
      have h1 := R0.out.1; have h2 := R1.out.1; omega
    have hne2 : (n : Int) ≠ (n2 : Int) := by omega
    go_enter Try.func65, Try.ntmps65
    go_wp2
    go_ret
    exact ⟨rfl, 0, rfl⟩
  subst hne
  go_enter Try.func65, Try.ntmps65
  go_wp2
  go_loopw [5] (fun x wr => ∃ k : Nat, k ≤ n2 ∧ x = .int .i64 k ∧ (∃ m, wr = W.drewN m) ∧ Hid (∀ j, j < k → xs[j]?.getD 0 = ys[j]?.getD 0)) (fun x _ => n2 - (intOf x).toNat)
  case atStart => exact ⟨0, Nat.zero_le _, rfl, ⟨0, rfl⟩, Lib.hid (fun j hj => absurd hj (Nat.not_lt_zero _))⟩
  case round =>
    obtain ⟨k, hk, rfl, ⟨m, rfl⟩, HQ⟩ := hrel
    by_cases hlt : k < n2
    · obtain ⟨b', off, rfl, hbl, hcell⟩ := R0.out.2 (by omega)
      obtain ⟨b2', off2, rfl, hbl2, hcell2⟩ := R1.out.2 (by omega)
      have hc1 := hcell k hlt
      have hc2 := hcell2 k hlt
      have hi : (k : Int) < (n2 : Int) := by omega
      clear hcell hcell2 hbl hbl2
      rcases hx : (xs[k]?.getD 0 != ys[k]?.getD 0) with _ | _
      · go_wp2
        go_quiet (fail)
        go_wp2
        go_round
        case rel =>
          refine ⟨k + 1, by omega, by go_num, ⟨_, rfl⟩, Lib.hid (fun j hj => ?_)⟩
          rcases (by omega : j < k ∨ j = k) with h1 | rfl
          · exact HQ.out j h1
          · simpa using hx
        case measure => simp [intOf]; omega
      · obtain rfl : r = false := by rw [← HRR.out]; exact list_ne hx
        go_wp2
        go_quiet (fail)
        go_wp2
        go_ret
        exact ⟨rfl, _, World.drewN_drewN ..⟩
    · obtain rfl : k = n2 := by omega
      obtain rfl : r = true := by rw [← HRR.out]; exact list_eq R0.out.1 R1.out.1 HQ.out
      go_wp2
      go_ret
      exact ⟨rfl, _, rfl⟩

theorem equalInt (A A2 : Option Addr) (n n2 p p2 : Nat) (xs ys : List Int) (W : World) (hr : RdI W A n xs) (hr2 : RdI W A2 n2 ys) (hn : n ≤ 1048576) (hn2 : n2 ≤ 1048576) :
    Calls Try.prog 67 #[.slice A n p, .slice A2 n2 p2] W fun e W' => e = .returned (.bool (decide (xs = ys))) ∧ ∃ m, W' = W.drewN m := by
  have R0 := Lib.hid hr
  have R1 := Lib.hid hr2
  have hn0 : (0 : Int) ≤ n := Int.natCast_nonneg n
  have hn1 : (n : Int) ≤ 1048576 := by omega
  have hn3 : (0 : Int) ≤ n2 := Int.natCast_nonneg n2
  have hn4 : (n2 : Int) ≤ 1048576 := by omega
  obtain ⟨r, hrr⟩ : ∃ r, decide (xs = ys) = r := ⟨_, rfl⟩
  rw [hrr]
  have HRR := Lib.hid hrr
  clear hr hr2 hn hn2 hrr
  by_cases hne : n2 = n
  case neg =>
    obtain rfl : r = false := by
      rw [← HRR.out, decide_eq_false_iff_not]; rintro rfl
      have h1 := R0.out.1; have h2 := R1.out.1; omega
    have hne2 : (n : Int) ≠ (n2 : Int) := by omega
    go_enter Try.func67, Try.ntmps67
    go_wp2
    go_ret
    exact ⟨rfl, 0, rfl⟩
  subst hne
  go_enter Try.func67, Try.ntmps67
  go_wp2
  go_loopw [13] (fun x wr => ∃ k : Nat, k ≤ n2 ∧ x = .int .i64 k ∧ (∃ m, wr = W.drewN m) ∧ Hid (∀ j, j < k → xs[j]?.getD 0 = ys[j]?.getD 0)) (fun x _ => n2 - (intOf x).toNat)
  case atStart => exact ⟨0, Nat.zero_le _, rfl, ⟨0, rfl⟩, Lib.hid (fun j hj => absurd hj (Nat.not_lt_zero _))⟩
  case round =>
    obtain ⟨k, hk, rfl, ⟨m, rfl⟩, HQ⟩ := hrel
    by_cases hlt : k < n2
    · obtain ⟨b', off, rfl, hbl, hcell⟩ := R0.out.2 (by omega)
      obtain ⟨b2', off2, rfl, hbl2, hcell2⟩ := R1.out.2 (by omega)
      have hc1 := hcell k hlt
      have hc2 := hcell2 k hlt
      have hi : (k : Int) < (n2 : Int) := by omega
      clear hcell hcell2 hbl hbl2
      rcases hx : (xs[k]?.getD 0 != ys[k]?.getD 0) with _ | _
      · go_wp2
        go_quiet (fail)
        go_wp2
        go_round
        case rel =>
          refine ⟨k + 1, by omega, by go_num, ⟨_, rfl⟩, Lib.hid (fun j hj => ?_)⟩
          rcases (by omega : j < k ∨ j = k) with h1 | rfl
          · exact HQ.out j h1
          · simpa using hx
        case measure => simp [intOf]; omega
      · obtain rfl : r = false := by rw [← HRR.out]; exact list_ne hx
        go_wp2
        go_quiet (fail)
        go_wp2
        go_ret
        exact ⟨rfl, _, World.drewN_drewN ..⟩
    · obtain rfl : k = n2 := by omega
      obtain rfl : r = true := by rw [← HRR.out]; exact list_eq R0.out.1 R1.out.1 HQ.out
      go_wp2
      go_ret
      exact ⟨rfl, _, rfl⟩

end Qt
end Go.Proofs.Ythkjmdboflngaaa
