/- What MultFor (of the program and of its model) gives when it is called, each at every argument. No conditions but that an argument fits its kind. -/
import Derived.Test.YtgdcggjkfmdobaaQuant
import Derived.Handy
import Derived.WalkSmall
namespace Go.Proofs.Ytgdcggjkfmdobaa
open Go.RowKit
namespace Qt

theorem multForI_no (num den : Int) (h : num ≤ 0 ∨ den ≤ num ∨ 1000000 < den) (w : World) :
    Calls Try.prog 13 #[.int .i64 num, .int .i64 den] w fun e w' => e = .returned (.tuple #[.int .i64 0, .int .i64 0, .bool false]) ∧ w = w' := by
  by_cases h1 : num ≤ 0
  · go_enter Try.func13, Try.ntmps13
    go_wp2
    go_ret3
    exact ⟨rfl, rfl⟩
  · by_cases h2 : den ≤ num
    · go_enter Try.func13, Try.ntmps13
      go_wp2
      go_ret3
      exact ⟨rfl, rfl⟩
    · have h3 : 1000000 < den := by omega
      go_enter Try.func13, Try.ntmps13
      go_wp2
      go_ret3
      exact ⟨rfl, rfl⟩
theorem ret_mult {num den : Int} {k : Nat} (h : shiftFrom num den 0 = k) : Ending.returned (.tuple #[.int .i64 (num * 2 ^ k * 2147483648 / den), .int .i64 k, .bool true]) = .returned (.tuple #[.int .i64 (multM num den), .int .i64 (multN num den), .bool true]) := by
  unfold multM multN; rw [h]
theorem multForI_yes (num den : Int) (h : 0 < num) (h2 : num < den) (h3 : den ≤ 1000000) (w : World) :
    Calls Try.prog 13 #[.int .i64 num, .int .i64 den] w fun e w' => e = .returned (.tuple #[.int .i64 (multM num den), .int .i64 (multN num den), .bool true]) ∧ w = w' := by
  go_enter Try.func13, Try.ntmps13
  go_wp2
  go_loop [7] (fun n => ∃ k : Nat, k ≤ 31 ∧ n = .int .i64 k ∧ Hid (num * 2 ^ k < den) ∧ Hid (shiftFrom num den 0 = shiftFrom num den k)) (fun n => 31 - (intOf n).toNat)
  case atStart => exact ⟨0, by omega, rfl, by unfold Hid; simpa using h2, rfl⟩
  case round =>
    obtain ⟨k, hk, rfl, HP, HN⟩ := hrel
    have a1 := mul_pow_pos h k
    have a2 : num * 2 ^ k < den := HP.out
    have a3 := mul_pow_pos h (k + 1)
    have a4 : num * 2 ^ (k + 1) ≤ 2000000 := by rw [mul_pow_succ]; omega
    by_cases hlt : k < 31
    · by_cases hd : num * 2 ^ (k + 1) < den
      · go_wp2
        go_round
        case rel => exact ⟨k + 1, by omega, by go_num, hd, HN.out.trans (shiftFrom_more hlt hd)⟩
        case measure => simp [intOf]; omega
      · go_wp2
        go_ret3
        exact ⟨ret_mult (HN.out.trans (shiftFrom_end (by omega))), rfl⟩
    · go_wp2
      go_ret3
      exact ⟨ret_mult (HN.out.trans (shiftFrom_end (by omega))), rfl⟩
end Qt
end Go.Proofs.Ytgdcggjkfmdobaa
