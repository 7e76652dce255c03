/- What MultFor (of the program and of its model) gives when it is called, each at every argument. No conditions but that an argument fits its kind. -/
import Derived.Test.YtihnpfcjnfkfjaaQuant
import Derived.Handy
import Derived.WalkSmall
namespace Go.Proofs.Ytihnpfcjnfkfjaa
open Go.RowKit
namespace Qt

theorem inS_yes (x lo hi : Int) (h : lo ≤ x) (h2 : x ≤ hi) (w : World) : Calls Try.prog 47 #[.int .i64 x, .int .i64 lo, .int .i64 hi] w fun e w' => e = .returned (.bool true) ∧ w = w' := by
  go_enter Try.func47, Try.ntmps47
  go_wp2
  go_ret
  exact ⟨rfl, rfl⟩
theorem inS_no (x lo hi : Int) (h : ¬ (lo ≤ x ∧ x ≤ hi)) (w : World) : Calls Try.prog 47 #[.int .i64 x, .int .i64 lo, .int .i64 hi] w fun e w' => e = .returned (.bool false) ∧ w = w' := by
  by_cases h1 : lo ≤ x
  · have h2 : decide (x ≤ hi) = false := by simp; omega
    clear h
    go_enter Try.func47, Try.ntmps47
    go_wp2
    go_ret
    exact ⟨rfl, rfl⟩
  · have h2 : x < lo := by omega
    clear h h1
    go_enter Try.func47, Try.ntmps47
    go_wp2
    go_ret
    exact ⟨rfl, rfl⟩
theorem ret_mult {num den : Int} {k : Nat} (h : shiftFrom num den 0 = k) : Ending.returned (.tuple #[.int .i64 (num * 2 ^ k * 2147483648 / den), .int .i64 k, .bool true]) = .returned (.tuple #[.int .i64 (multM num den), .int .i64 (multN num den), .bool true]) := by
  unfold multM multN; rw [h]
end Qt
end Go.Proofs.Ytihnpfcjnfkfjaa
