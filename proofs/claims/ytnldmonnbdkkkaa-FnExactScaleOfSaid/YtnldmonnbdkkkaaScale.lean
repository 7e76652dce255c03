/- What ScaleOf (of the program and of its model) gives when it is called, each at every argument. No conditions but that an argument fits its kind. -/
import Derived.Test.YtnldmonnbdkkkaaQuant
import Derived.Handy
import Derived.WalkSmall
namespace Go.Proofs.Ytnldmonnbdkkkaa
open Go.RowKit
namespace Qt

theorem scaleOfS (m s : Int) (w : World) :
    Calls Try.prog 37 #[.int .i64 m, .int .i64 s] w fun e w' => e = .returned (.tuple #[.int .i64 (multFloor m s), .int .i64 (noughts 9 (multFloor m s))]) ∧ w = w' := by
  have h1 := clamp_bd m 0 2147483647 (by omega)
  have h2 := clamp_bd s 0 31 (by omega)
  have h3 := multFloor_bd m s
  have h4 : clamp m 0 2147483647 * 1000000000 / 2147483648 / 2 ^ (clamp s 0 31).toNat = multFloor m s := rfl
  generalize multFloor m s = D at h3 h4
  go_enter Try.func37, Try.ntmps37
  go_wp2_with (go_at_call 34; refine (clampS _ _ _ _).mono ?_; rintro e w' ⟨rfl, rfl⟩)
  clear h4
  go_loop [7, 8] (fun z x => ∃ Z X : Int, 0 ≤ X ∧ X ≤ 1000000000 ∧ X - 2000000000 ≤ Z ∧ Z ≤ 9 ∧ z = .int .i64 Z ∧ x = .int .i64 X ∧ Hid (noughts 9 D = noughts Z X)) (fun _ x => (intOf x).toNat)
  case atStart => exact ⟨9, D, h3.1, h3.2, by omega, by omega, rfl, rfl, rfl⟩
  case round =>
    obtain ⟨Z, X, hX, hX2, hZ, hZ2, rfl, rfl, HN⟩ := hrel
    by_cases hx : 0 < X
    · go_wp2
      go_round
      case rel => exact ⟨Z - 1, X / 10, by omega, by omega, by omega, by omega, rfl, rfl, HN.out.trans (noughts_step hx)⟩
      case measure => simp [intOf]; omega
    · go_wp2
      go_ret2
      exact ⟨by rw [HN.out, noughts_end (by omega)]; rfl, rfl⟩
theorem scaleOfI (m s : Int) (w : World) :
    Calls Try.prog 38 #[.int .i64 m, .int .i64 s] w fun e w' => e = .returned (.tuple #[.int .i64 (multFloor m s), .int .i64 (noughts 9 (multFloor m s))]) ∧ w = w' := by
  have h1 := clamp_bd m 0 2147483647 (by omega)
  have h2 := clamp_bd s 0 31 (by omega)
  have h3 := multFloor_bd m s
  have h4 : clamp m 0 2147483647 * 1000000000 / 2147483648 / 2 ^ (clamp s 0 31).toNat = multFloor m s := rfl
  generalize multFloor m s = D at h3 h4
  go_enter Try.func38, Try.ntmps38
  go_wp2_with (go_at_call 20; refine (clampI _ _ _ _).mono ?_; rintro e w' ⟨rfl, rfl⟩)
  clear h4
  go_loop [7, 8] (fun z x => ∃ Z X : Int, 0 ≤ X ∧ X ≤ 1000000000 ∧ X - 2000000000 ≤ Z ∧ Z ≤ 9 ∧ z = .int .i64 Z ∧ x = .int .i64 X ∧ Hid (noughts 9 D = noughts Z X)) (fun _ x => (intOf x).toNat)
  case atStart => exact ⟨9, D, h3.1, h3.2, by omega, by omega, rfl, rfl, rfl⟩
  case round =>
    obtain ⟨Z, X, hX, hX2, hZ, hZ2, rfl, rfl, HN⟩ := hrel
    by_cases hx : 0 < X
    · go_wp2
      go_round
      case rel => exact ⟨Z - 1, X / 10, by omega, by omega, by omega, by omega, rfl, rfl, HN.out.trans (noughts_step hx)⟩
      case measure => simp [intOf]; omega
    · go_wp2
      go_ret2
      exact ⟨by rw [HN.out, noughts_end (by omega)]; rfl, rfl⟩
end Qt
end Go.Proofs.Ytnldmonnbdkkkaa
