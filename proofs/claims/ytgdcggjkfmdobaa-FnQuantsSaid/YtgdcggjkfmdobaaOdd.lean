/- Plain facts on rounding: it is odd, and off by a half at most; a list against none sums to nothing. No conditions. -/
import Derived.Test.YtgdcggjkfmdobaaMath
namespace Go.Proofs.Ytgdcggjkfmdobaa.Qt
theorem near_odd {x d : Int} (hd : 0 < d) : near (-x) d true = -near x d true := by
  by_cases h : x < 0
  · rw [near_away_neg hd h, near_away_pos hd (by omega)]; omega
  · by_cases h0 : x = 0
    · subst h0
      rw [show (-0 : Int) = 0 from rfl, near_away_pos hd (by omega), Int.zero_add]
      have : d / 2 / d = 0 := Int.ediv_eq_zero_of_lt (by omega) (by omega)
      omega
    · rw [near_away_neg hd (by omega), near_away_pos hd (by omega), Int.neg_neg]
theorem roundShift_odd {x n : Int} (h1 : -2147483648 < x) (h2 : x ≤ 2147483647) : roundShift (-x) n = -roundShift x n := by
  unfold roundShift
  rw [sat32_id (x := x) (by omega), sat32_id (x := -x) (by omega)]
  exact near_odd (by have := pow2_bd n; omega)
theorem near_err {x d : Int} {t : Bool} (hd : 0 < d) : -d ≤ 2 * (near x d t * d - x) ∧ 2 * (near x d t * d - x) ≤ d := by
  obtain ⟨a, b, c⟩ := ediv_facts (x := x) hd
  have ee : (x / d + 1) * d = x / d * d + d := by rw [Int.add_mul]; omega
  unfold near
  split
  · rename_i h; rw [ee]; omega
  · rename_i h; omega
theorem roundShift_err {x n : Int} (h1 : -2147483648 ≤ x) (h2 : x ≤ 2147483647) : -pow2 n ≤ 2 * (roundShift x n * pow2 n - x) ∧ 2 * (roundShift x n * pow2 n - x) ≤ pow2 n := by
  unfold roundShift
  rw [sat32_id (x := x) (by omega)]
  exact near_err (by have := pow2_bd n; omega)
theorem pow2_at {n : Int} (h1 : 0 ≤ n) (h2 : n ≤ 31) : (2 : Int) ^ n.toNat = pow2 n := by unfold pow2; rw [clamp_id h1 h2]
theorem dot_nil (xs : List Int) : dot xs [] = 0 := by simp [dot]
end Go.Proofs.Ytgdcggjkfmdobaa.Qt
