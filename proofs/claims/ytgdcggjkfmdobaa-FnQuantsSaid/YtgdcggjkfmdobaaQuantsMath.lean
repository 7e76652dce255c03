/- Plain facts: what MultFor gives lies in its bounds, and Requant with it is off by one at most. -/
import Derived.Test.YtgdcggjkfmdobaaOdd
namespace Go.Proofs.Ytgdcggjkfmdobaa.Qt
theorem shiftFrom_prop (N D : Int) : ∀ (f n : Nat), 31 - n = f → N * 2 ^ n < D → N * 2 ^ (shiftFrom N D n) < D ∧ (shiftFrom N D n < 31 → D ≤ N * 2 ^ (shiftFrom N D n + 1)) := by
  intro f
  induction f with
  | zero =>
    intro n hf h
    rw [shiftFrom_end (by omega)]
    exact ⟨h, fun h2 => by omega⟩
  | succ f ih =>
    intro n hf h
    by_cases hm : n < 31 ∧ N * 2 ^ (n + 1) < D
    · rw [shiftFrom_more hm.1 hm.2]
      exact ih (n + 1) (by omega) hm.2
    · rw [shiftFrom_end hm]
      refine ⟨h, fun h2 => ?_⟩
      have : ¬ N * 2 ^ (n + 1) < D := fun h3 => hm ⟨h2, h3⟩
      omega
theorem shift_small {N D : Int} (h1 : 0 < N) (h3 : D ≤ 1000000) (k : Nat) (h : N * 2 ^ k < D) : k < 20 := by
  rcases Nat.lt_or_ge k 20 with hk | hk
  · exact hk
  · exfalso
    have h4 : (2 : Nat) ^ 20 ≤ 2 ^ k := Nat.pow_le_pow_right (by omega) hk
    have h5 : (2 : Int) ^ k = ((2 ^ k : Nat) : Int) := by simp
    have h6 : 1 * (2 : Int) ^ k ≤ N * 2 ^ k := Int.mul_le_mul_of_nonneg_right (by omega) (by rw [h5]; omega)
    rw [h5] at h h6
    have h7 : (1048576 : Int) ≤ ((2 ^ k : Nat) : Int) := by omega
    omega

/-- What MultFor gives, in plain facts on P, two to the shift. -/
theorem mult_facts {N D : Int} (h1 : 0 < N) (h2 : N < D) (h3 : D ≤ 1000000) :
    ∃ k : Nat, multN N D = k ∧ k < 20 ∧ N * 2 ^ k < D ∧ 1073741824 ≤ multM N D ∧ multM N D ≤ 2147483647 ∧ multM N D * D ≤ N * 2 ^ k * 2147483648 ∧ N * 2 ^ k * 2147483648 < multM N D * D + D := by
  obtain ⟨a, b⟩ := shiftFrom_prop N D 31 0 rfl (by simpa using h2)
  have hk := shift_small h1 h3 _ a
  have hb := b (by omega)
  rw [mul_pow_succ] at hb
  obtain ⟨c1, c2, c3⟩ := ediv_facts (x := N * 2 ^ (shiftFrom N D 0) * 2147483648) (d := D) (by omega)
  refine ⟨shiftFrom N D 0, rfl, hk, a, ?_, ?_, ?_, ?_⟩
  · exact (Int.le_ediv_iff_mul_le (by omega)).mpr (by omega)
  · have : multM N D < 2147483648 := Int.ediv_lt_of_lt_mul (by omega) (by omega)
    omega
  · show N * 2 ^ (shiftFrom N D 0) * 2147483648 / D * D ≤ _; omega
  · show _ < N * 2 ^ (shiftFrom N D 0) * 2147483648 / D * D + D; omega

theorem mul_range {A M B C : Int} (h1 : -B ≤ A) (h2 : A ≤ B) (h3 : 0 ≤ M) (h4 : M ≤ C) (hB : 0 ≤ B) : -(B * C) ≤ A * M ∧ A * M ≤ B * C := by
  have e1 : 0 ≤ (A + B) * M := Int.mul_nonneg (by omega) h3
  have e2 : 0 ≤ (B - A) * M := Int.mul_nonneg (by omega) h3
  have e3 : 0 ≤ B * (C - M) := Int.mul_nonneg hB (by omega)
  rw [Int.add_mul] at e1
  rw [Int.sub_mul] at e2
  rw [Int.mul_sub] at e3
  omega
theorem near_one {x : Int} {t : Bool} : near x 1 t = x := by
  unfold near
  rw [Int.emod_one, Int.ediv_one, if_neg (by omega)]

theorem expand {X r D A N P y M Q : Int} (hX : X = r * D - A * N) : X * P * Q = D * (r * P - y) * Q + D * (y * Q - A * M) + A * (M * D - N * P * Q) := by
  subst hX
  simp only [Int.sub_mul, Int.mul_sub]
  have e1 : r * D * P * Q = D * (r * P) * Q := by rw [Int.mul_comm r D, Int.mul_assoc D r P]
  have e2 : A * (N * P * Q) = A * N * P * Q := by rw [← Int.mul_assoc, ← Int.mul_assoc]
  have e3 : D * (y * Q) = D * y * Q := by rw [Int.mul_assoc]
  have e4 : D * (A * M) = A * (M * D) := by rw [Int.mul_left_comm, Int.mul_comm D M]
  omega

/-- The heart: r is y rounded by P, y is A times M rounded by two to the 31, M is N P two to the 31 by D. -/
theorem err_core {A N D P M y r : Int} (hA : -13000 ≤ A ∧ A ≤ 13000) (hD : 0 < D) (hP : P = 1 ∧ r = y ∨ 2 ≤ P) (hr : -P ≤ 2 * (r * P - y) ∧ 2 * (r * P - y) ≤ P)
    (hy : -2147483648 ≤ 2 * (y * 2147483648 - A * M) ∧ 2 * (y * 2147483648 - A * M) ≤ 2147483648) (hM : M * D ≤ N * P * 2147483648 ∧ N * P * 2147483648 < M * D + D) :
    -D ≤ r * D - A * N ∧ r * D - A * N ≤ D := by
  obtain ⟨X, hX⟩ : ∃ X, X = r * D - A * N := ⟨_, rfl⟩
  have he := expand (P := P) (y := y) (M := M) (Q := 2147483648) hX
  rw [← hX]
  have hv : -(D * 2147483648) ≤ 2 * (D * (y * 2147483648 - A * M)) ∧ 2 * (D * (y * 2147483648 - A * M)) ≤ D * 2147483648 := by
    have a1 : 0 ≤ D * (2147483648 - 2 * (y * 2147483648 - A * M)) := Int.mul_nonneg (by omega) (by omega)
    have a2 : 0 ≤ D * (2147483648 + 2 * (y * 2147483648 - A * M)) := Int.mul_nonneg (by omega) (by omega)
    rw [Int.mul_sub, Int.mul_left_comm] at a1
    rw [Int.mul_add, Int.mul_left_comm] at a2
    omega
  have ht : -(13000 * D) ≤ A * (M * D - N * P * 2147483648) ∧ A * (M * D - N * P * 2147483648) ≤ 13000 * D := by
    have := mul_range (A := A) (M := N * P * 2147483648 - M * D) (B := 13000) (C := D) hA.1 hA.2 (by omega) (by omega) (by omega)
    have e : A * (M * D - N * P * 2147483648) = -(A * (N * P * 2147483648 - M * D)) := by rw [← Int.mul_neg]; congr 1; omega
    rw [e]; omega
  rcases hP with ⟨rfl, rfl⟩ | hP
  · have hu : D * (r * 1 - r) = 0 := by rw [Int.mul_one, Int.sub_self, Int.mul_zero]
    rw [hu, Int.mul_one] at he
    omega
  · have hu : -(D * P) ≤ 2 * (D * (r * P - y)) ∧ 2 * (D * (r * P - y)) ≤ D * P := by
      have a1 : 0 ≤ D * (P - 2 * (r * P - y)) := Int.mul_nonneg (by omega) (by omega)
      have a2 : 0 ≤ D * (P + 2 * (r * P - y)) := Int.mul_nonneg (by omega) (by omega)
      rw [Int.mul_sub, Int.mul_left_comm] at a1
      rw [Int.mul_add, Int.mul_left_comm] at a2
      omega
    have hDP : D * 2 ≤ D * P := Int.mul_le_mul_of_nonneg_left hP (by omega)
    have hx : -(D * P) ≤ X * P ∧ X * P ≤ D * P := by omega
    refine ⟨?_, Int.le_of_mul_le_mul_right hx.2 (by omega)⟩
    have h : -D * P ≤ X * P := by rw [Int.neg_mul]; exact hx.1
    exact Int.le_of_mul_le_mul_right h (by omega)

theorem requant_err {A N D : Int} (hA : -13000 ≤ A ∧ A ≤ 13000) (h1 : 0 < N) (h2 : N < D) (h3 : D ≤ 1000000) (e1 : A * N ≤ 126 * D) (e2 : -127 * D ≤ A * N) :
    -D ≤ requant A (multM N D) (multN N D) 0 * D - A * N ∧ requant A (multM N D) (multN N D) 0 * D - A * N ≤ D := by
  obtain ⟨k, hk, hk20, hNP, hM1, hM2, hM3, hM4⟩ := mult_facts h1 h2 h3
  have hAM := mul_range (A := A) (M := multM N D) (B := 13000) (C := 2147483647) hA.1 hA.2 (by omega) hM2 (by omega)
  have hy := near_err (x := A * multM N D) (d := 2147483648) (t := false) (by omega)
  have hpow : pow2 (multN N D) = 2 ^ k := by rw [hk]; unfold pow2; rw [clamp_id (by omega) (by omega)]; rfl
  have hPp : (1 : Int) ≤ 2 ^ k := by have := pow2_bd (multN N D); rw [hpow] at this; exact this.1
  have hrq : requant A (multM N D) (multN N D) 0 = sat8 (near (near (A * multM N D) 2147483648 false) (2 ^ k) true) := by
    unfold requant roundShift mulHigh
    rw [hpow, sat32_sat32, sat32_id (x := A) (by omega), sat32_id (x := multM N D) (by omega), sat32_id (x := near (A * multM N D) 2147483648 false) (by omega)]
    have : sat8 0 = 0 := sat8_id (by omega)
    rw [this, Int.add_zero]
  generalize near (A * multM N D) 2147483648 false = y at hy hrq
  have hr := near_err (x := y) (d := 2 ^ k) (t := true) (by omega)
  have hP : (2 : Int) ^ k = 1 ∧ near y (2 ^ k) true = y ∨ 2 ≤ (2 : Int) ^ k := by
    by_cases h : (2 : Int) ^ k = 1
    · left; rw [h]; exact ⟨rfl, near_one⟩
    · right; omega
  generalize (2 : Int) ^ k = P at hr hP hrq hM3 hM4 hNP
  generalize near y P true = r at hr hP hrq
  have hc := err_core hA (by omega) hP hr hy ⟨hM3, hM4⟩
  have hs : sat8 r = r := by
    have b1 : r * D ≤ 127 * D := by omega
    have b2 : -128 * D ≤ r * D := by omega
    exact sat8_id ⟨Int.le_of_mul_le_mul_right b2 (by omega), Int.le_of_mul_le_mul_right b1 (by omega)⟩
  rw [hrq, hs]
  exact hc
end Go.Proofs.Ytgdcggjkfmdobaa.Qt
