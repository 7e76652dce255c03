/- What MultFor (of the program and of its model) gives when it is called, each at every argument. No conditions but that an argument fits its kind. -/
import Derived.Test.YtebldedmkpdgcaaQuant
import Derived.Handy
import Derived.WalkSmall
namespace Go.Proofs.Ytebldedmkpdgcaa
open Go.RowKit
namespace Qt

theorem inS_yes (x lo hi : Int) (h : lo ≤ x) (h2 : x ≤ hi) (w : World) : Calls Try.prog 70 #[.int .i64 x, .int .i64 lo, .int .i64 hi] w fun e w' => e = .returned (.bool true) ∧ w = w' := by
  go_enter Try.func70, Try.ntmps70
  go_wp2
  go_ret
  exact ⟨rfl, rfl⟩
theorem inS_no (x lo hi : Int) (h : ¬ (lo ≤ x ∧ x ≤ hi)) (w : World) : Calls Try.prog 70 #[.int .i64 x, .int .i64 lo, .int .i64 hi] w fun e w' => e = .returned (.bool false) ∧ w = w' := by
  by_cases h1 : lo ≤ x
  · have h2 : decide (x ≤ hi) = false := by simp; omega
    clear h
    go_enter Try.func70, Try.ntmps70
    go_wp2
    go_ret
    exact ⟨rfl, rfl⟩
  · have h2 : x < lo := by omega
    clear h h1
    go_enter Try.func70, Try.ntmps70
    go_wp2
    go_ret
    exact ⟨rfl, rfl⟩
theorem multForI_no (num den : Int) (h : num ≤ 0 ∨ den ≤ num ∨ 1000000 < den) (w : World) :
    Calls Try.prog 125 #[.int .i64 num, .int .i64 den] w fun e w' => e = .returned (.tuple #[.int .i64 0, .int .i64 0, .bool false]) ∧ w = w' := by
  by_cases h1 : num ≤ 0
  · go_enter Try.func125, Try.ntmps125
    go_wp2
    go_ret3
    exact ⟨rfl, rfl⟩
  · by_cases h2 : den ≤ num
    · go_enter Try.func125, Try.ntmps125
      go_wp2
      go_ret3
      exact ⟨rfl, rfl⟩
    · have h3 : 1000000 < den := by omega
      go_enter Try.func125, Try.ntmps125
      go_wp2
      go_ret3
      exact ⟨rfl, rfl⟩
theorem ret_mult {num den : Int} {k : Nat} (h : shiftFrom num den 0 = k) : Ending.returned (.tuple #[.int .i64 (num * 2 ^ k * 2147483648 / den), .int .i64 k, .bool true]) = .returned (.tuple #[.int .i64 (multM num den), .int .i64 (multN num den), .bool true]) := by
  unfold multM multN; rw [h]
theorem multForI_yes (num den : Int) (h : 0 < num) (h2 : num < den) (h3 : den ≤ 1000000) (w : World) :
    Calls Try.prog 125 #[.int .i64 num, .int .i64 den] w fun e w' => e = .returned (.tuple #[.int .i64 (multM num den), .int .i64 (multN num den), .bool true]) ∧ w = w' := by
  go_enter Try.func125, Try.ntmps125
  go_wp2
  go_loop [7] (fun n => ∃ k : Nat, k ≤ 31 ∧ n = .int .i64 k ∧ Hid (num * 2 ^ k < den) ∧ Hid (shiftFrom num den 0 = shiftFrom num den k)) (fun n => 31 - (intOf n).toNat)
  case atStart => exact ⟨0, by omega, rfl, by unfold Hid; simpa using h2, rfl⟩
  case round =>
    obtain ⟨k, hk, rfl, HP, HN⟩ := hrel
    have a1 := mul_pow_pos h k
    have a2 : num * 2 ^ k < den := HP.out
    have a3 := mul_pow_pos h (k + 1)
    have a4 : num * 2 ^ (k + 1) ≤ 2000000 := by rw [mul_pow_succ]; omega
    by_cases hlt : k < 31
    · by_cases hd : num * 2 ^ (k + 1) < den
      · go_wp2
        go_round
        case rel => exact ⟨k + 1, by omega, by go_num, hd, HN.out.trans (shiftFrom_more hlt hd)⟩
        case measure => simp [intOf]; omega
      · go_wp2
        go_ret3
        exact ⟨ret_mult (HN.out.trans (shiftFrom_end (by omega))), rfl⟩
    · go_wp2
      go_ret3
      exact ⟨ret_mult (HN.out.trans (shiftFrom_end (by omega))), rfl⟩
theorem multForS_no (num den : Int) (h : num ≤ 0 ∨ den ≤ num ∨ 1000000 < den) (w : World) :
    Calls Try.prog 127 #[.int .i64 num, .int .i64 den] w fun e w' => e = .returned (.tuple #[.int .i64 0, .int .i64 0, .bool false]) ∧ w = w' := by
  by_cases h1 : 1 ≤ den ∧ den ≤ 1000000
  · obtain ⟨h1, h1'⟩ := h1
    have h5 : ¬ (1 ≤ num ∧ num ≤ den - 1) := by omega
    have H5 := Lib.hid h5
    clear h5 h
    go_enter Try.func127, Try.ntmps127
    go_wp2_with (first
      | (go_at_call 70; (with_reducible refine (inS_yes den 1 1000000 h1 h1' _).mono ?_); rintro e w' ⟨rfl, rfl⟩)
      | (go_at_call 70; refine (inS_no num 1 (den - 1) H5.out _).mono ?_; rintro e w' ⟨rfl, rfl⟩))
    go_ret3
    exact ⟨rfl, rfl⟩
  · have H1 := Lib.hid h1
    clear h1 h
    go_enter Try.func127, Try.ntmps127
    go_wp2_with (go_at_call 70; refine (inS_no den 1 1000000 H1.out _).mono ?_; rintro e w' ⟨rfl, rfl⟩)
    go_ret3
    exact ⟨rfl, rfl⟩
theorem multForS_yes (num den : Int) (h : 0 < num) (h2 : num < den) (h3 : den ≤ 1000000) (w : World) :
    Calls Try.prog 127 #[.int .i64 num, .int .i64 den] w fun e w' => e = .returned (.tuple #[.int .i64 (multM num den), .int .i64 (multN num den), .bool true]) ∧ w = w' := by
  have h4 : 1 ≤ den := by omega
  have h5 : 1 ≤ num := by omega
  have h6 : num ≤ den - 1 := by omega
  go_enter Try.func127, Try.ntmps127
  go_wp2_with (first
    | (go_at_call 70; (with_reducible refine (inS_yes den 1 1000000 h4 h3 _).mono ?_); rintro e w' ⟨rfl, rfl⟩)
    | (go_at_call 70; refine (inS_yes num 1 (den - 1) h5 h6 _).mono ?_; rintro e w' ⟨rfl, rfl⟩))
  go_loop [7] (fun n => ∃ k : Nat, k ≤ 31 ∧ n = .int .i64 k ∧ Hid (num * 2 ^ k < den) ∧ Hid (shiftFrom num den 0 = shiftFrom num den k)) (fun n => 31 - (intOf n).toNat)
  case atStart => exact ⟨0, by omega, rfl, by unfold Hid; simpa using h2, rfl⟩
  case round =>
    obtain ⟨k, hk, rfl, HP, HN⟩ := hrel
    have a1 := mul_pow_pos h k
    have a2 : num * 2 ^ k < den := HP.out
    have a3 := mul_pow_pos h (k + 1)
    have a4 : num * 2 ^ (k + 1) ≤ 2000000 := by rw [mul_pow_succ]; omega
    by_cases hlt : k < 31
    · by_cases hd : num * 2 ^ (k + 1) < den
      · go_wp2
        go_round
        case rel => exact ⟨k + 1, by omega, by go_num, hd, HN.out.trans (shiftFrom_more hlt hd)⟩
        case measure => simp [intOf]; omega
      · go_wp2
        go_ret3
        exact ⟨ret_mult (HN.out.trans (shiftFrom_end (by omega))), rfl⟩
    · go_wp2
      go_ret3
      exact ⟨ret_mult (HN.out.trans (shiftFrom_end (by omega))), rfl⟩
end Qt
end Go.Proofs.Ytebldedmkpdgcaa
