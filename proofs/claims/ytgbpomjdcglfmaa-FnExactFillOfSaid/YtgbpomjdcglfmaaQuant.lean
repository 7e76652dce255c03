/- What the functions of chapter 1 (and of the model of chapter 1) give when they are called, each at every argument. No conditions but that an argument fits its kind. -/
import Derived.Test.YtgbpomjdcglfmaaProg
import Derived.WalkKit
import Derived.ProofKit
import Derived.BigQuiet
import Derived.Deep.QuietTactic
import Derived.Below
import Derived.Lib.Hide
import Derived.Outline
import Derived.Test.YtgbpomjdcglfmaaMath
namespace Go.Proofs.Ytgbpomjdcglfmaa
open Go.RowKit
namespace Qt

theorem ret_int {k : IntKind} {a b : Int} (h : a = b) : Ending.returned (.int k a) = .returned (.int k b) := by rw [h]

theorem clampI (x lo hi : Int) (w : World) : Calls Try.prog 63 #[.int .i64 x, .int .i64 lo, .int .i64 hi] w fun e w' => e = .returned (.int .i64 (clamp x lo hi)) ∧ w = w' := by
  by_cases h1 : hi < lo
  · rw [clamp_over h1]
    go_enter Try.func63, Try.ntmps63
    go_wp2
    go_ret
    exact ⟨rfl, rfl⟩
  · by_cases h2 : x < lo
    · rw [clamp_lo h1 h2]
      go_enter Try.func63, Try.ntmps63
      go_wp2
      go_ret
      exact ⟨rfl, rfl⟩
    · by_cases h3 : hi < x
      · rw [clamp_hi h1 h2 h3]
        go_enter Try.func63, Try.ntmps63
        go_wp2
        go_ret
        exact ⟨rfl, rfl⟩
      · rw [clamp_in h1 h2 h3]
        go_enter Try.func63, Try.ntmps63
        go_wp2
        go_ret
        exact ⟨rfl, rfl⟩

theorem clampS (x lo hi : Int) (w : World) : Calls Try.prog 61 #[.int .i64 x, .int .i64 lo, .int .i64 hi] w fun e w' => e = .returned (.int .i64 (clamp x lo hi)) ∧ w = w' := by
  by_cases h1 : hi < lo
  · rw [clamp_over h1]
    by_cases h2 : x < lo
    all_goals
      go_enter Try.func61, Try.ntmps61
      go_wp2
      go_ret
      exact ⟨rfl, rfl⟩
  · by_cases h2 : x < lo
    · rw [clamp_lo h1 h2]
      go_enter Try.func61, Try.ntmps61
      go_wp2
      go_ret
      exact ⟨rfl, rfl⟩
    · by_cases h3 : hi < x
      · rw [clamp_hi h1 h2 h3]
        go_enter Try.func61, Try.ntmps61
        go_wp2
        go_ret
        exact ⟨rfl, rfl⟩
      · rw [clamp_in h1 h2 h3]
        go_enter Try.func61, Try.ntmps61
        go_wp2
        go_ret
        exact ⟨rfl, rfl⟩

theorem sat8S (x : Int) (w : World) : Calls Try.prog 50 #[.int .i64 x] w fun e w' => e = .returned (.int .i64 (sat8 x)) ∧ w = w' := by
  go_enter Try.func50, Try.ntmps50
  go_wp2_with (go_at_call 61; refine (clampS _ _ _ _).mono ?_; rintro e w' ⟨rfl, rfl⟩)
  go_ret
  exact ⟨rfl, rfl⟩
theorem smallOfI (x : Int) (w : World) : Calls Try.prog 52 #[.int .i64 x] w fun e w' => e = .returned (.int .i8 (sat8 x)) ∧ w = w' := by
  have hb := clamp_bd x (-128) 127 (by omega)
  go_enter Try.func52, Try.ntmps52
  go_wp2_with (go_at_call 63; refine (clampI x (-128) 127 _).mono ?_; rintro e w' ⟨rfl, rfl⟩)
  go_ret
  exact ⟨rfl, rfl⟩
theorem sat8I (x : Int) (w : World) : Calls Try.prog 60 #[.int .i64 x] w fun e w' => e = .returned (.int .i64 (sat8 x)) ∧ w = w' := by
  have hb := sat8_bd x
  go_enter Try.func60, Try.ntmps60
  go_wp2_with (go_at_call 52; refine (smallOfI _ _).mono ?_; rintro e w' ⟨rfl, rfl⟩)
  go_ret
  exact ⟨rfl, rfl⟩
end Qt
end Go.Proofs.Ytgbpomjdcglfmaa
