/- What the rounding functions of chapter 1 (and of its model) give when they are called, each at every argument. No conditions but that an argument fits its kind. -/
import Derived.Test.YtgdcggjkfmdobaaQuant
import Derived.Deep.DeepFit
import Derived.Handy
import Derived.WalkSmall
namespace Go.Proofs.Ytgdcggjkfmdobaa
open Go.RowKit
namespace Qt

theorem timesHighI (a b : Int) (ha : -2147483648 ≤ a ∧ a ≤ 2147483647) (hb : -2147483648 ≤ b ∧ b ≤ 2147483647) (w : World) :
    Calls Try.prog 21 #[.int .i32 a, .int .i32 b] w fun e w' => e = .returned (.int .i32 (sat32 (near (a * b) 2147483648 false))) ∧ ∃ n, w' = w.drewN n := by
  have hm := mul_bd ha hb
  go_enter Try.func21, Try.ntmps21
  go_wp2_with (first
    | (go_at_call 31; refine (nearestI (a * b) 2147483648 false 0 rfl (by omega) (by omega) hm _).mono ?_; rintro e w' ⟨rfl, n, rfl⟩)
    | (go_at_call 20; refine (wideOfI _ _).mono ?_; rintro e w' ⟨rfl, rfl⟩))
  go_ret
  exact ⟨rfl, _, rfl⟩
theorem mulHighI (a b : Int) (w : World) :
    Calls Try.prog 6 #[.int .i64 a, .int .i64 b] w fun e w' => e = .returned (.int .i64 (mulHigh a b)) ∧ ∃ n, w' = w.drewN n := by
  have ha := sat32_bd a
  have hb := sat32_bd b
  have hc := sat32_bd (near (sat32 a * sat32 b) 2147483648 false)
  go_enter Try.func6, Try.ntmps6
  go_wp2_with (first
    | (go_at_call 21; refine (timesHighI _ _ ha hb _).mono ?_; rintro e w' ⟨rfl, n, rfl⟩)
    | (go_at_call 20; refine (wideOfI _ _).mono ?_; rintro e w' ⟨rfl, rfl⟩))
  go_ret
  exact ⟨rfl, _, rfl⟩
theorem downS (x : Int) (h : -4611686018427387904 ≤ x ∧ x ≤ 4611686019501129728) (w : World) :
    Calls Try.prog 24 #[.int .i64 x, .int .i64 2147483648] w fun e w' => e = .returned (.int .i64 (x / 2147483648)) ∧ w = w' := by
  by_cases h0 : 0 ≤ x
  · go_enter Try.func24, Try.ntmps24
    go_wp2
    go_ret
    exact ⟨rfl, rfl⟩
  · obtain ⟨e1, e2, e3⟩ := tdiv_facts (x := x) (d := 2147483648) (by omega) (by omega)
    by_cases hm : x.tmod 2147483648 < 0
    · obtain ⟨g1, g2⟩ := tneg_rest (x := x) (d := 2147483648) (by omega) (by omega) hm
      have hb : -4611686018427387904 ≤ x.tdiv 2147483648 - 1 ∧ x.tdiv 2147483648 - 1 ≤ 4611686018427387904 := by omega
      rw [← g1]
      clear g1 g2 e3
      go_enter Try.func24, Try.ntmps24
      go_wp2
      go_ret
      exact ⟨rfl, rfl⟩
    · obtain ⟨g1, g2⟩ := tneg_exact (x := x) (d := 2147483648) (by omega) (by omega) hm
      rw [← g1]
      clear g1 g2 e3
      go_enter Try.func24, Try.ntmps24
      go_wp2
      go_ret
      exact ⟨rfl, rfl⟩
theorem mulHighS (a b : Int) (w : World) :
    Calls Try.prog 8 #[.int .i64 a, .int .i64 b] w fun e w' => e = .returned (.int .i64 (mulHigh a b)) ∧ w = w' := by
  have ha := sat32_bd a
  have hb := sat32_bd b
  have hm := mul_bd ha hb
  have HE := Lib.hid (near_up (sat32 a * sat32 b))
  go_enter Try.func8, Try.ntmps8
  go_wp2_with (first
    | (go_at_call 24; refine (downS _ (by omega) _).mono ?_; rintro e w' ⟨rfl, rfl⟩)
    | (go_at_call 23; refine (sat32S _ _).mono ?_; rintro e w' ⟨rfl, rfl⟩))
  go_ret
  exact ⟨ret_int (by unfold mulHigh; rw [HE.out]), rfl⟩

theorem wrap_pow2 (n : Int) : wrap64 (2 ^ (clamp n 0 31).toNat) = pow2 n := IntWalk.wrap64_in _ (by have := pow2_bd n; unfold pow2 at this; omega)
theorem shiftedI (x n : Int) (hx : -2147483648 ≤ x ∧ x ≤ 2147483647) (w : World) :
    Calls Try.prog 27 #[.int .i32 x, .int .i64 n] w fun e w' => e = .returned (.int .i32 (near x (pow2 n) true)) ∧ ∃ n, w' = w.drewN n := by
  have hp := pow2_bd n
  have hc := clamp_bd n 0 31 (by omega)
  have hn := near_lo (x := x) (d := pow2 n) (by omega) hx
  have hw := wrap_pow2 n
  go_enter Try.func27, Try.ntmps27
  go_wp2_with (first
    | (go_at_call 31; refine (nearestI x (pow2 n) true 1 rfl (by omega) (by omega) (by omega) _).mono ?_; rintro e w' ⟨rfl, n, rfl⟩)
    | (go_at_call 30; refine (clampI n 0 31 _).mono ?_; rintro e w' ⟨rfl, rfl⟩))
  go_ret
  exact ⟨rfl, _, rfl⟩
theorem cell_new0 {w : World} {x y : Value} {T b : Nat} (hb : b = w.heap.size) : (w.alloc (.cells #[x, y] T)).cell? ⟨b, 0, none⟩ = some x := by subst hb; simp [go_sem]
theorem cell_new1 {w : World} {x y : Value} {T b : Nat} (hb : b = w.heap.size) : (w.alloc (.cells #[x, y] T)).cell? ⟨b, 1, none⟩ = some y := by subst hb; simp [go_sem]
/-- sumOf of two terms that lie in memory. -/
theorem sumOf2I (x y : Int) (hx : -2147483648 ≤ x ∧ x ≤ 2147483647) (hy : -2147483648 ≤ y ∧ y ≤ 2147483647) (b : Nat) (w : World)
    (h0 : w.cell? ⟨b, 0, none⟩ = some (.int .i32 x)) (h1 : w.cell? ⟨b, 1, none⟩ = some (.int .i32 y)) :
    Calls Try.prog 22 #[.slice (some ⟨b, 0, none⟩) 2 2] w fun e w' => e = .returned (.int .i32 (addSat x y)) ∧ w = w' := by
  have hb := sat32_bd x
  go_enter Try.func22, Try.ntmps22
  go_wp2
  refine wp_loop_rounds 3 ?_
  rw [rounds_succ]
  go_wp2_with (go_at_call 20; refine (wideOfI _ _).mono ?_; rintro e w' ⟨rfl, rfl⟩)
  rw [rounds_succ]
  go_wp2_with (go_at_call 20; refine (wideOfI _ _).mono ?_; rintro e w' ⟨rfl, rfl⟩)
  rw [rounds_succ]
  go_wp2
  go_ret
  exact ⟨ret_int (by unfold addSat; rw [sat32_id hx, sat32_id hy]), rfl⟩
theorem addSatI (a b : Int) (w : World) : Calls Try.prog 7 #[.int .i64 a, .int .i64 b] w fun e w' => e = .returned (.int .i64 (addSat a b)) ∧ Below w.heap.size w w' := by
  have ha := sat32_bd a
  have hb := sat32_bd b
  have hc := addSat_bd (sat32 a) (sat32 b)
  have HE : Hid (addSat (sat32 a) (sat32 b) = addSat a b) := by unfold addSat; rw [sat32_sat32, sat32_sat32]; rfl
  go_enter Try.func7, Try.ntmps7
  go_wp2_with (first
    | (go_at_call 20; refine (wideOfI _ _).mono ?_; rintro e w' ⟨rfl, rfl⟩)
    | (go_at_call 22; refine (sumOf2I _ _ ha hb _ _ (cell_new0 rfl) (cell_new1 rfl)).mono ?_; rintro e w' ⟨rfl, rfl⟩))
  go_ret
  exact ⟨ret_int HE.out, by go_grown⟩
theorem requantI (a b c d : Int) (w : World) :
    Calls Try.prog 15 #[.int .i64 a, .int .i64 b, .int .i64 c, .int .i64 d] w fun e w' => e = .returned (.int .i64 (requant a b c d)) ∧ Below w.heap.size w w' := by
  have h1 : -2147483648 ≤ near (sat32 (near (sat32 a * sat32 b) 2147483648 false)) (pow2 c) true ∧ near (sat32 (near (sat32 a * sat32 b) 2147483648 false)) (pow2 c) true ≤ 2147483647 := near_lo (by have := pow2_bd c; omega) (sat32_bd _)
  have h2 := sat8_bd d
  have h3 := addSat_bd (near (sat32 (near (sat32 a * sat32 b) 2147483648 false)) (pow2 c) true) (sat8 d)
  have h4 := sat32_bd a
  have h5 := sat32_bd b
  have h6 := sat32_bd (near (sat32 a * sat32 b) 2147483648 false)
  have h7 := sat8_bd (addSat (near (sat32 (near (sat32 a * sat32 b) 2147483648 false)) (pow2 c) true) (sat8 d))
  have HE : Hid (sat8 (addSat (near (sat32 (near (sat32 a * sat32 b) 2147483648 false)) (pow2 c) true) (sat8 d)) = requant a b c d) := by
    unfold requant addSat roundShift mulHigh
    rw [sat8_sat32, sat32_sat32, sat32_id h1, sat32_id (x := sat8 d) (by omega)]; rfl
  go_enter Try.func15, Try.ntmps15
  go_wp2_with (first
    | (go_at_call 20; refine (wideOfI _ _).mono ?_; rintro e w' ⟨rfl, rfl⟩)
    | (go_at_call 25; refine (smallOfI _ _).mono ?_; rintro e w' ⟨rfl, rfl⟩)
    | (go_at_call 28; refine (widenI _ h2 _).mono ?_; rintro e w' ⟨rfl, rfl⟩)
    | (go_at_call 21; refine (timesHighI _ _ h4 h5 _).mono ?_; rintro e w' ⟨rfl, n1, rfl⟩)
    | (go_at_call 27; refine (shiftedI _ _ h6 _).mono ?_; rintro e w' ⟨rfl, n2, rfl⟩)
    | (go_at_call 29; refine (narrowI _ h3 _).mono ?_; rintro e w' ⟨rfl, rfl⟩)
    | (go_at_call 22; refine (sumOf2I _ _ h1 (by omega) _ _ (cell_new0 rfl) (cell_new1 rfl)).mono ?_; rintro e w' ⟨rfl, rfl⟩))
  go_ret
  exact ⟨ret_int HE.out, by first | (go_grown; done) | exact below_drewN (Below.alloc (Below.refl _ _) (Nat.le_refl _) _) _ | exact Below.alloc (below_drewN (Below.refl _ _) _) (by simp) _⟩
end Qt
end Go.Proofs.Ytgdcggjkfmdobaa
