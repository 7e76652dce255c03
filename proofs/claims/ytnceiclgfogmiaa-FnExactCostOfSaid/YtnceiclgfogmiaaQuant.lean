/- What the functions of chapter 1 (and of the model of chapter 1) give when they are called, each at every argument. No conditions but that an argument fits its kind. -/
import Derived.Test.YtnceiclgfogmiaaProg
import Derived.WalkKit
import Derived.ProofKit
import Derived.BigQuiet
import Derived.Deep.QuietTactic
import Derived.Below
import Derived.Lib.Hide
import Derived.Outline
import Derived.Test.YtnceiclgfogmiaaMath
namespace Go.Proofs.Ytnceiclgfogmiaa
open Go.RowKit
namespace Qt

theorem ret_int {k : IntKind} {a b : Int} (h : a = b) : Ending.returned (.int k a) = .returned (.int k b) := by rw [h]

theorem clampI (x lo hi : Int) (w : World) : Calls Try.prog 89 #[.int .i64 x, .int .i64 lo, .int .i64 hi] w fun e w' => e = .returned (.int .i64 (clamp x lo hi)) ∧ w = w' := by
  by_cases h1 : hi < lo
  · rw [clamp_over h1]
    go_enter Try.func89, Try.ntmps89
    go_wp2
    go_ret
    exact ⟨rfl, rfl⟩
  · by_cases h2 : x < lo
    · rw [clamp_lo h1 h2]
      go_enter Try.func89, Try.ntmps89
      go_wp2
      go_ret
      exact ⟨rfl, rfl⟩
    · by_cases h3 : hi < x
      · rw [clamp_hi h1 h2 h3]
        go_enter Try.func89, Try.ntmps89
        go_wp2
        go_ret
        exact ⟨rfl, rfl⟩
      · rw [clamp_in h1 h2 h3]
        go_enter Try.func89, Try.ntmps89
        go_wp2
        go_ret
        exact ⟨rfl, rfl⟩

theorem clampS (x lo hi : Int) (w : World) : Calls Try.prog 90 #[.int .i64 x, .int .i64 lo, .int .i64 hi] w fun e w' => e = .returned (.int .i64 (clamp x lo hi)) ∧ w = w' := by
  by_cases h1 : hi < lo
  · rw [clamp_over h1]
    by_cases h2 : x < lo
    all_goals
      go_enter Try.func90, Try.ntmps90
      go_wp2
      go_ret
      exact ⟨rfl, rfl⟩
  · by_cases h2 : x < lo
    · rw [clamp_lo h1 h2]
      go_enter Try.func90, Try.ntmps90
      go_wp2
      go_ret
      exact ⟨rfl, rfl⟩
    · by_cases h3 : hi < x
      · rw [clamp_hi h1 h2 h3]
        go_enter Try.func90, Try.ntmps90
        go_wp2
        go_ret
        exact ⟨rfl, rfl⟩
      · rw [clamp_in h1 h2 h3]
        go_enter Try.func90, Try.ntmps90
        go_wp2
        go_ret
        exact ⟨rfl, rfl⟩

theorem sat8S (x : Int) (w : World) : Calls Try.prog 80 #[.int .i64 x] w fun e w' => e = .returned (.int .i64 (sat8 x)) ∧ w = w' := by
  go_enter Try.func80, Try.ntmps80
  go_wp2_with (go_at_call 90; refine (clampS _ _ _ _).mono ?_; rintro e w' ⟨rfl, rfl⟩)
  go_ret
  exact ⟨rfl, rfl⟩
theorem sat32S (x : Int) (w : World) : Calls Try.prog 83 #[.int .i64 x] w fun e w' => e = .returned (.int .i64 (sat32 x)) ∧ w = w' := by
  go_enter Try.func83, Try.ntmps83
  go_wp2_with (go_at_call 90; refine (clampS _ _ _ _).mono ?_; rintro e w' ⟨rfl, rfl⟩)
  go_ret
  exact ⟨rfl, rfl⟩
theorem smallOfI (x : Int) (w : World) : Calls Try.prog 76 #[.int .i64 x] w fun e w' => e = .returned (.int .i8 (sat8 x)) ∧ w = w' := by
  have hb := clamp_bd x (-128) 127 (by omega)
  go_enter Try.func76, Try.ntmps76
  go_wp2_with (go_at_call 89; refine (clampI x (-128) 127 _).mono ?_; rintro e w' ⟨rfl, rfl⟩)
  go_ret
  exact ⟨rfl, rfl⟩
theorem wideOfI (x : Int) (w : World) : Calls Try.prog 119 #[.int .i64 x] w fun e w' => e = .returned (.int .i32 (sat32 x)) ∧ w = w' := by
  have hb := clamp_bd x (-2147483648) 2147483647 (by omega)
  go_enter Try.func119, Try.ntmps119
  go_wp2_with (go_at_call 89; refine (clampI x (-2147483648) 2147483647 _).mono ?_; rintro e w' ⟨rfl, rfl⟩)
  go_ret
  exact ⟨rfl, rfl⟩
theorem sat8I (x : Int) (w : World) : Calls Try.prog 75 #[.int .i64 x] w fun e w' => e = .returned (.int .i64 (sat8 x)) ∧ w = w' := by
  have hb := sat8_bd x
  go_enter Try.func75, Try.ntmps75
  go_wp2_with (go_at_call 76; refine (smallOfI _ _).mono ?_; rintro e w' ⟨rfl, rfl⟩)
  go_ret
  exact ⟨rfl, rfl⟩
theorem addSatS (a b : Int) (w : World) : Calls Try.prog 66 #[.int .i64 a, .int .i64 b] w fun e w' => e = .returned (.int .i64 (addSat a b)) ∧ w = w' := by
  have ha := sat32_bd a
  have hb := sat32_bd b
  go_enter Try.func66, Try.ntmps66
  go_wp2_with (go_at_call 83; refine (sat32S _ _).mono ?_; rintro e w' ⟨rfl, rfl⟩)
  go_ret
  exact ⟨rfl, rfl⟩
theorem widenI (x : Int) (h : -128 ≤ x ∧ x ≤ 127) (w : World) : Calls Try.prog 109 #[.int .i8 x] w fun e w' => e = .returned (.int .i32 x) ∧ w = w' := by
  go_enter Try.func109, Try.ntmps109
  go_wp2
  go_ret
  exact ⟨rfl, rfl⟩
theorem narrowI (x : Int) (h : -2147483648 ≤ x ∧ x ≤ 2147483647) (w : World) : Calls Try.prog 123 #[.int .i32 x] w fun e w' => e = .returned (.int .i8 (sat8 x)) ∧ w = w' := by
  go_enter Try.func123, Try.ntmps123
  go_wp2_with (go_at_call 76; refine (smallOfI _ _).mono ?_; rintro e w' ⟨rfl, rfl⟩)
  go_ret
  exact ⟨rfl, rfl⟩
theorem timesI (x y : Int) (h : -128 ≤ x ∧ x ≤ 127) (h2 : -128 ≤ y ∧ y ≤ 127) (h3 : -16384 ≤ x * y ∧ x * y ≤ 16384) (w : World) : Calls Try.prog 120 #[.int .i8 x, .int .i8 y] w fun e w' => e = .returned (.int .i32 (x * y)) ∧ w = w' := by
  go_enter Try.func120, Try.ntmps120
  go_wp2_with (go_at_call 109; refine (widenI _ (by omega) _).mono ?_; rintro e w' ⟨rfl, rfl⟩)
  go_ret
  exact ⟨rfl, rfl⟩

/-- nearest: x in 64 bits with room, d above 0; the tie is 0 (up) or 1 (away). -/
theorem nearestI (x d : Int) (t : Bool) (u : Int) (hu : u = if t then 1 else 0) (hd : 0 < d) (hd2 : d ≤ 2147483648) (hx : -4611686018427387904 ≤ x ∧ x ≤ 4611686018427387904) (w : World) :
    Calls Try.prog 92 #[.int .i64 x, .int .i64 d, .int .i64 u] w fun e w' => e = .returned (.int .i64 (near x d t)) ∧ ∃ n, w' = w.drewN n := by
  have hq := ediv_bd (B := 4611686018427387904) hd (by omega) hx.2 (by omega)
  by_cases h0 : 0 ≤ x
  · obtain ⟨e1, e2, e3⟩ := ediv_facts (x := x) hd
    have e4 : x / d * d + x % d = x := e3
    clear e3
    by_cases h1 : d - x % d < x % d
    · rw [near_over (by omega)]
      clear e4 hu
      go_enter Try.func92, Try.ntmps92
      go_wp2
      go_quiet (fail)
      go_wp2
      go_ret
      exact ⟨rfl, _, rfl⟩
    · by_cases h2 : x % d = d - x % d
      · have hz : 0 < x := by
          by_cases hz : x = 0
          · exfalso; subst hz; simp at h2; omega
          · omega
        rw [near_tie_pos (by omega) hz]
        clear e4
        have h2b : (x % d == d - x % d) = true := by simpa using h2
        clear h2
        cases t
        all_goals
          simp at hu
          subst hu
          go_enter Try.func92, Try.ntmps92
          go_wp2
          go_quiet (fail)
          go_wp2
          go_ret
          exact ⟨rfl, _, rfl⟩
      · rw [near_under (by omega)]
        clear e4 hu
        have h3 : x % d < d - x % d := by omega
        clear h1 h2
        go_enter Try.func92, Try.ntmps92
        go_wp2
        go_quiet (fail)
        go_wp2
        go_ret
        exact ⟨rfl, _, rfl⟩
  · have h0' : x < 0 := by omega
    obtain ⟨e1, e2, e3⟩ := tdiv_facts (x := x) hd h0'
    clear e3
    by_cases hm : x.tmod d < 0
    · obtain ⟨g1, g2⟩ := tneg_rest hd h0' hm
      by_cases h1 : d - (x.tmod d + d) < x.tmod d + d
      · rw [near_over (by omega), ← g1]
        have hq' : -4611686018427387904 ≤ x.tdiv d - 1 ∧ x.tdiv d - 1 ≤ 4611686018427387904 := by omega
        clear g1 g2 hq hu
        go_enter Try.func92, Try.ntmps92
        go_wp2
        go_quiet (fail)
        go_wp2
        go_ret
        exact ⟨ret_int (by omega), _, rfl⟩
      · by_cases h2 : x.tmod d + d = d - (x.tmod d + d)
        · have hq' : -4611686018427387904 ≤ x.tdiv d - 1 ∧ x.tdiv d - 1 ≤ 4611686018427387904 := by omega
          have h2b : (x.tmod d + d == d - (x.tmod d + d)) = true := by simpa using h2
          cases t
          · rw [near_tie_up (by omega), ← g1]
            simp at hu
            subst hu
            clear g1 g2 hq h2
            go_enter Try.func92, Try.ntmps92
            go_wp2
            go_quiet (fail)
            go_wp2
            go_ret
            exact ⟨ret_int (by omega), _, rfl⟩
          · rw [near_tie_neg (by omega) (by omega), ← g1]
            simp at hu
            subst hu
            clear g1 g2 hq h2
            go_enter Try.func92, Try.ntmps92
            go_wp2
            go_quiet (fail)
            go_wp2
            go_ret
            exact ⟨rfl, _, rfl⟩
        · rw [near_under (by omega), ← g1]
          have hq' : -4611686018427387904 ≤ x.tdiv d - 1 ∧ x.tdiv d - 1 ≤ 4611686018427387904 := by omega
          have h3 : x.tmod d + d < d - (x.tmod d + d) := by omega
          clear g1 g2 hq hu h1 h2
          go_enter Try.func92, Try.ntmps92
          go_wp2
          go_quiet (fail)
          go_wp2
          go_ret
          exact ⟨rfl, _, rfl⟩
    · obtain ⟨g1, g2⟩ := tneg_exact hd h0' hm
      rw [near_under (by omega), ← g1]
      have hq' : -4611686018427387904 ≤ x.tdiv d ∧ x.tdiv d ≤ 4611686018427387904 := by omega
      have h3 : x.tmod d < d - x.tmod d := by omega
      clear g1 g2 hq hu
      go_enter Try.func92, Try.ntmps92
      go_wp2
      go_quiet (fail)
      go_wp2
      go_ret
      exact ⟨rfl, _, rfl⟩
end Qt
end Go.Proofs.Ytnceiclgfogmiaa
