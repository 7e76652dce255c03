/- What TakeWide reads of a list of bytes, one group after the other: plain mathematics. No program here. -/
import Derived.Test.YtodjackfolaifaaWideMath
namespace Go.Proofs.Ytodjackfolaifaa
namespace Qt
/-- The groups that may stand from place a on. -/
def restW (xs : List Int) (a : Nat) : List Int := (xs.drop a).take 6
theorem restW_len (xs : List Int) (a : Nat) : (restW xs a).length = min 6 (xs.length - a) := by simp [restW]
theorem restW_cons (xs : List Int) (a i : Nat) (h : i < 6) (h2 : a + i < xs.length) : (restW xs a).drop i = xs[a + i]?.getD 0 :: (restW xs a).drop (i + 1) := by
  have hl : i < (restW xs a).length := by rw [restW_len]; omega
  rw [List.drop_eq_getElem_cons hl]
  congr 1
  simp [restW, List.getElem?_eq_getElem h2]
theorem restW_end (xs : List Int) (a i : Nat) (h : i = 6 ∨ xs.length ≤ a + i) : (restW xs a).drop i = [] := by
  rw [List.drop_eq_nil_of_le]; rw [restW_len]; omega
def resW (a : Int) : Option (Int × Nat) → Int × Int
  | none => (0, -1)
  | some (x, k) => (x, a + (k : Nat))
theorem takeW_out {xs : List Int} {a : Int} (h : a < 0 ∨ (xs.length : Int) ≤ a) : takeW xs a = (0, -1) := if_pos h
theorem takeW_in {xs : List Int} {a : Nat} (h : a < xs.length) : takeW xs a = resW a (tkW (restW xs a) 0 0) := by
  unfold takeW
  rw [if_neg (by omega)]
  rw [Int.toNat_natCast]
  unfold restW resW
  split <;> simp_all
theorem tkW_nil (i : Nat) (u : Int) : tkW [] i u = none := rfl
theorem tkW_more {v : Int} (vs : List Int) (i : Nat) (u : Int) (h : 128 ≤ v) : tkW (v :: vs) i u = tkW vs (i + 1) (u + v % 128 * powW i) := by rw [tkW, if_pos h]
theorem tkW_bad {v : Int} (vs : List Int) (i : Nat) (u : Int) (h : v < 128) (h2 : v = 0 ∧ 0 < i ∨ 2199023255551 < u + v * powW i) : tkW (v :: vs) i u = none := by rw [tkW, if_neg (by omega), if_pos h2]
theorem tkW_good {v : Int} (vs : List Int) (i : Nat) (u : Int) (h : v < 128) (h2 : ¬ (v = 0 ∧ 0 < i ∨ 2199023255551 < u + v * powW i)) : tkW (v :: vs) i u = some (unfW (u + v * powW i), i + 1) := by rw [tkW, if_neg (by omega), if_neg h2]
theorem powW_next {u v : Int} {i : Nat} (h0 : 0 ≤ u) (h : u < powW i) (_ : 0 ≤ v) : 0 ≤ u + v % 128 * powW i ∧ u + v % 128 * powW i < powW (i + 1) := by
  have hp := powW_pos i
  have h1 : 0 ≤ v % 128 * powW i := Int.mul_nonneg (by omega) (by omega)
  have h2 : v % 128 * powW i ≤ 127 * powW i := Int.mul_le_mul_of_nonneg_right (by omega) (by omega)
  rw [powW_succ]
  omega
/-- The place behind a number that is there: beyond its first byte, and within the list. -/
theorem tkW_bd {vs : List Int} {i : Nat} {u x : Int} {k : Nat} (h : tkW vs i u = some (x, k)) : i < k ∧ k ≤ i + vs.length := by
  induction vs generalizing i u with
  | nil => cases h
  | cons v vs ih =>
    rw [tkW] at h
    split at h
    · have := ih h; simp; omega
    · split at h
      · cases h
      · cases h; simp
theorem takeW_end (xs : List Int) (a : Int) : (takeW xs a).2 = -1 ∨ (0 ≤ a ∧ a < (takeW xs a).2 ∧ (takeW xs a).2 ≤ a + 6 ∧ (takeW xs a).2 ≤ xs.length) := by
  by_cases h : a < 0 ∨ (xs.length : Int) ≤ a
  · left; rw [takeW_out h]
  · obtain ⟨n, rfl⟩ : ∃ n : Nat, a = n := ⟨a.toNat, by omega⟩
    rw [takeW_in (by omega)]
    rcases hk : tkW (restW xs n) 0 0 with _ | ⟨x, k⟩
    · exact Or.inl rfl
    · have := tkW_bd hk
      rw [restW_len] at this
      right
      simp only [resW]
      omega
end Qt
end Go.Proofs.Ytodjackfolaifaa
