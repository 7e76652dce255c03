/- Plain facts on whole numbers that are cut, rounded and counted: what chapter 1's functions give, as functions on Int. No conditions. -/
import Derived.Test.YtihnpfcjnfkfjaaProg
import Derived.WalkKit
import Derived.ProofKit
import Derived.BigQuiet
import Derived.Deep.QuietTactic
import Derived.Below
import Derived.Lib.Hide
import Derived.Outline
import Derived.Handy
import Derived.WalkSmall
import Derived.StillTailTactics
import Derived.Laws.Rows
import Derived.Laws.OwnMore
import Derived.Lib.QuietBelow
import Derived.OwnWalk
namespace Go.Proofs.Ytihnpfcjnfkfjaa.Qt

def clamp (x lo hi : Int) : Int := if hi < lo then lo else if x < lo then lo else if hi < x then hi else x
theorem clamp_over {x lo hi : Int} (h : hi < lo) : clamp x lo hi = lo := by unfold clamp; rw [if_pos h]
theorem clamp_lo {x lo hi : Int} (h : ¬ hi < lo) (h2 : x < lo) : clamp x lo hi = lo := by unfold clamp; rw [if_neg h, if_pos h2]
theorem clamp_hi {x lo hi : Int} (h : ¬ hi < lo) (h2 : ¬ x < lo) (h3 : hi < x) : clamp x lo hi = hi := by unfold clamp; rw [if_neg h, if_neg h2, if_pos h3]
theorem clamp_in {x lo hi : Int} (h : ¬ hi < lo) (h2 : ¬ x < lo) (h3 : ¬ hi < x) : clamp x lo hi = x := by unfold clamp; rw [if_neg h, if_neg h2, if_neg h3]
theorem clamp_bd (x lo hi : Int) (h : lo ≤ hi) : lo ≤ clamp x lo hi ∧ clamp x lo hi ≤ hi := by unfold clamp; split <;> (try split) <;> (try split) <;> omega
theorem clamp_id {x lo hi : Int} (h1 : lo ≤ x) (h2 : x ≤ hi) : clamp x lo hi = x := clamp_in (by omega) (by omega) (by omega)

def sat8 (x : Int) : Int := clamp x (-128) 127
def sat32 (x : Int) : Int := clamp x (-2147483648) 2147483647
theorem sat8_bd (x : Int) : -128 ≤ sat8 x ∧ sat8 x ≤ 127 := clamp_bd _ _ _ (by omega)
theorem sat32_bd (x : Int) : -2147483648 ≤ sat32 x ∧ sat32 x ≤ 2147483647 := clamp_bd _ _ _ (by omega)
theorem sat32_id {x : Int} (h : -2147483648 ≤ x ∧ x ≤ 2147483647) : sat32 x = x := clamp_id h.1 h.2
theorem sat8_id {x : Int} (h : -128 ≤ x ∧ x ≤ 127) : sat8 x = x := clamp_id h.1 h.2
theorem sat32_sat32 (x : Int) : sat32 (sat32 x) = sat32 x := sat32_id (sat32_bd x)

def addSat (a b : Int) : Int := sat32 (sat32 a + sat32 b)
theorem addSat_bd (a b : Int) : -2147483648 ≤ addSat a b ∧ addSat a b ≤ 2147483647 := sat32_bd _
/-- The nearest whole number to x divided by d: of two that are as near the greater (away = false) or the one that is further from 0. -/
def near (x d : Int) (away : Bool) : Int := if d < 2 * (x % d) ∨ (d = 2 * (x % d) ∧ (away = false ∨ 0 < x)) then x / d + 1 else x / d

theorem div_of {d k s y : Int} (hd : 0 < d) (h : y = k * d + s) (h0 : 0 ≤ s) (h1 : s < d) : y / d = k := by
  have := (Int.ediv_emod_unique (a := y) (b := d) (r := s) (q := k) hd).mpr ⟨by rw [h, Int.mul_comm d k]; omega, h0, h1⟩
  exact this.1
theorem mod_of {d k s y : Int} (hd : 0 < d) (h : y = k * d + s) (h0 : 0 ≤ s) (h1 : s < d) : y % d = s := by
  have := (Int.ediv_emod_unique (a := y) (b := d) (r := s) (q := k) hd).mpr ⟨by rw [h, Int.mul_comm d k]; omega, h0, h1⟩
  exact this.2
/-- The facts on a truncated division below 0. -/
theorem tdiv_facts {x d : Int} (hd : 0 < d) (hx : x < 0) : -d < x.tmod d ∧ x.tmod d ≤ 0 ∧ x.tdiv d * d + x.tmod d = x := by
  have h1 := Int.tmod_add_mul_tdiv x d
  have h2 : (-x).tmod d = -(x.tmod d) := Int.neg_tmod _ _
  have h3 : 0 ≤ (-x).tmod d := Int.tmod_nonneg _ (by omega)
  have h4 : (-x).tmod d < d := Int.tmod_lt_of_pos _ hd
  rw [Int.mul_comm] at h1
  omega
theorem ediv_facts {x d : Int} (hd : 0 < d) : 0 ≤ x % d ∧ x % d < d ∧ x / d * d + x % d = x := by
  have h1 := Int.emod_add_mul_ediv x d
  rw [Int.mul_comm] at h1
  exact ⟨Int.emod_nonneg _ (by omega), Int.emod_lt_of_pos _ hd, by omega⟩
theorem tneg_exact {x d : Int} (hd : 0 < d) (hx : x < 0) (h : ¬ x.tmod d < 0) : x.tdiv d = x / d ∧ x.tmod d = x % d := by
  obtain ⟨a, b, c⟩ := tdiv_facts hd hx
  exact ⟨(div_of hd c.symm (by omega) (by omega)).symm, (mod_of hd c.symm (by omega) (by omega)).symm⟩
theorem tneg_rest {x d : Int} (hd : 0 < d) (hx : x < 0) (h : x.tmod d < 0) : x.tdiv d - 1 = x / d ∧ x.tmod d + d = x % d := by
  obtain ⟨a, b, c⟩ := tdiv_facts hd hx
  have e : x = (x.tdiv d - 1) * d + (x.tmod d + d) := by rw [Int.sub_mul]; omega
  exact ⟨(div_of hd e (by omega) (by omega)).symm, (mod_of hd e (by omega) (by omega)).symm⟩

theorem ediv_bd {x d B : Int} (hd : 0 < d) (h1 : -B ≤ x) (h2 : x ≤ B) (hB : 0 ≤ B) : -B ≤ x / d ∧ x / d ≤ B := by
  have hk : B * 1 ≤ B * d := Int.mul_le_mul_of_nonneg_left (by omega) hB
  have hn : -B * d = -(B * d) := Int.neg_mul _ _
  refine ⟨(Int.le_ediv_iff_mul_le hd).mpr (by omega), Int.ediv_le_of_le_mul hd (by omega)⟩
theorem near_over {x d : Int} {t : Bool} (h : d < 2 * (x % d)) : near x d t = x / d + 1 := by unfold near; rw [if_pos (Or.inl h)]
theorem near_under {x d : Int} {t : Bool} (h : 2 * (x % d) < d) : near x d t = x / d := by unfold near; rw [if_neg (by omega)]
theorem near_tie_up {x d : Int} (h : d = 2 * (x % d)) : near x d false = x / d + 1 := by unfold near; rw [if_pos (Or.inr ⟨h, Or.inl rfl⟩)]
theorem near_tie_pos {x d : Int} {t : Bool} (h : d = 2 * (x % d)) (hx : 0 < x) : near x d t = x / d + 1 := by unfold near; rw [if_pos (Or.inr ⟨h, Or.inr hx⟩)]
theorem near_tie_neg {x d : Int} (h : d = 2 * (x % d)) (hx : ¬ 0 < x) : near x d true = x / d := by unfold near; rw [if_neg (by rintro (h2 | ⟨_, h2 | h2⟩) <;> first | omega | (simp at h2))]

def mulHigh (a b : Int) : Int := sat32 (near (sat32 a * sat32 b) 2147483648 false)
theorem mulHigh_bd (a b : Int) : -2147483648 ≤ mulHigh a b ∧ mulHigh a b ≤ 2147483647 := sat32_bd _
theorem near_up (x : Int) : near x 2147483648 false = (x + 1073741824) / 2147483648 := by
  unfold near; simp only [true_or, and_true]; split <;> omega

theorem mul_bd {a b : Int} (ha : -2147483648 ≤ a ∧ a ≤ 2147483647) (hb : -2147483648 ≤ b ∧ b ≤ 2147483647) : -4611686018427387904 ≤ a * b ∧ a * b ≤ 4611686018427387904 := by
  have h1 : (a.natAbs : Int) * b.natAbs = (a * b).natAbs := by rw [Int.natAbs_mul]; exact (Int.natCast_mul _ _).symm
  have h2 : a.natAbs * b.natAbs ≤ 2147483648 * 2147483648 := Nat.mul_le_mul (by omega) (by omega)
  rw [Int.natAbs_mul] at h1
  have h3 : (a * b).natAbs ≤ 2147483648 * 2147483648 := by rw [Int.natAbs_mul]; exact h2
  omega

/-- RoundShift's rounding, as the document's two sides have it. -/
theorem near_away_pos {x d : Int} (hd : 0 < d) (hx : 0 ≤ x) : near x d true = (x + d / 2) / d := by
  obtain ⟨a, b, c⟩ := ediv_facts (x := x) hd
  have ee : (x / d + 1) * d = x / d * d + d := by rw [Int.add_mul]; omega
  unfold near
  split
  · rename_i h
    exact (div_of hd (s := x % d + d / 2 - d) (by rw [ee]; omega) (by omega) (by omega)).symm
  · rename_i h
    have : 2 * (x % d) < d := by
      by_cases e : d = 2 * (x % d)
      · exfalso; apply h; right; refine ⟨e, Or.inr ?_⟩
        by_cases hz : x = 0
        · subst hz; simp at e; omega
        · omega
      · omega
    exact (div_of hd (s := x % d + d / 2) (by omega) (by omega) (by omega)).symm
theorem near_away_neg {x d : Int} (hd : 0 < d) (hx : x < 0) : near x d true = -((-x + d / 2) / d) := by
  obtain ⟨a, b, c⟩ := ediv_facts (x := x) hd
  have ee : (-(x / d) - 1) * d = -(x / d * d) - d := by rw [Int.sub_mul, Int.neg_mul]; omega
  have e2 : (-(x / d)) * d = -(x / d * d) := by rw [Int.neg_mul]
  unfold near
  split
  · rename_i h
    have : d < 2 * (x % d) := by rcases h with h | ⟨_, h | h⟩ <;> first | exact h | (simp at h) | omega
    rw [div_of (y := -x + d / 2) (k := -(x / d) - 1) hd (s := d - x % d + d / 2) (by rw [ee]; omega) (by omega) (by omega)]; omega
  · rename_i h
    have : 2 * (x % d) ≤ d := by omega
    rw [div_of (y := -x + d / 2) (k := -(x / d)) hd (s := d / 2 - x % d) (by rw [e2]; omega) (by omega) (by omega)]; omega

def pow2 (n : Int) : Int := 2 ^ (clamp n 0 31).toNat
def roundShift (x n : Int) : Int := near (sat32 x) (pow2 n) true
theorem pow2_bd (n : Int) : 1 ≤ pow2 n ∧ pow2 n ≤ 2147483648 := by
  have h := clamp_bd n 0 31 (by omega)
  unfold pow2
  have h1 : (clamp n 0 31).toNat ≤ 31 := by omega
  have h2 : (2 : Nat) ^ (clamp n 0 31).toNat ≤ 2 ^ 31 := Nat.pow_le_pow_right (by omega) h1
  have h3 : 0 < (2 : Nat) ^ (clamp n 0 31).toNat := Nat.pow_pos (by omega)
  have h4 : (2 : Int) ^ (clamp n 0 31).toNat = ((2 ^ (clamp n 0 31).toNat : Nat) : Int) := by simp
  rw [h4]; omega
theorem near_bd {x d B : Int} (hd : 0 < d) (h1 : -B ≤ x) (h2 : x ≤ B) : -B ≤ near x d true ∧ near x d true ≤ B := by
  obtain ⟨a, b, c⟩ := ediv_facts (x := x) hd
  by_cases h0 : d = 1
  · subst h0; simp only [near, Int.emod_one, Int.ediv_one]; simp; omega
  have key : ∀ y : Int, 0 ≤ y → y ≤ B → 0 ≤ (y + d / 2) / d ∧ (y + d / 2) / d ≤ B := by
    intro y hy hyB
    refine ⟨Int.ediv_nonneg (by omega) (by omega), ?_⟩
    by_cases hz : y = 0
    · subst hz; rw [Int.ediv_eq_zero_of_lt (by omega) (by omega)]; omega
    have : (y + d / 2) / d ≤ y := by
      apply Int.ediv_le_of_le_mul (by omega)
      have h3 : 1 * (d - 1) ≤ y * (d - 1) := Int.mul_le_mul_of_nonneg_right (by omega) (by omega)
      have h4 : y * (d - 1) = y * d - y := by rw [Int.mul_sub]; omega
      have h5 : 0 ≤ y * d := Int.mul_nonneg hy (by omega)
      omega
    omega
  by_cases hx : 0 ≤ x
  · rw [near_away_pos hd hx]; have := key x hx h2; omega
  · rw [near_away_neg hd (by omega)]; have := key (-x) (by omega) (by omega); omega
theorem near_lo {x d : Int} (hd : 0 < d) (h1 : -2147483648 ≤ x ∧ x ≤ 2147483647) : -2147483648 ≤ near x d true ∧ near x d true ≤ 2147483647 := by
  by_cases hx : 0 ≤ x
  · have := near_bd (B := 2147483647) hd (by omega) h1.2; omega
  · have := near_bd (B := 2147483648) hd h1.1 (by omega)
    rw [near_away_neg hd (by omega)] at *
    have : 0 ≤ (-x + d / 2) / d := Int.ediv_nonneg (by omega) (by omega)
    omega
theorem roundShift_bd (x n : Int) : -2147483648 ≤ roundShift x n ∧ roundShift x n ≤ 2147483647 := near_lo (by have := pow2_bd n; omega) (sat32_bd x)

def requant (acc mult shift zero : Int) : Int := sat8 (roundShift (mulHigh acc mult) shift + sat8 zero)
theorem requant_bd (a b c d : Int) : -128 ≤ requant a b c d ∧ requant a b c d ≤ 127 := sat8_bd _
theorem sat8_sat32 (x : Int) : sat8 (sat32 x) = sat8 x := by
  unfold sat8 sat32 clamp; split <;> (try split) <;> (try split) <;> (try split) <;> (try split) <;> (try split) <;> (try split) <;> (try split) <;> omega

def dotStep (s : Int) (p : Int × Int) : Int := addSat s (sat8 p.1 * sat8 p.2)
def dot (a b : List Int) : Int := (a.zip b).foldl dotStep 0
theorem dotStep_bd (s : Int) (p : Int × Int) : -2147483648 ≤ dotStep s p ∧ dotStep s p ≤ 2147483647 := addSat_bd _ _
theorem fold_bd (l : List (Int × Int)) (s : Int) (h : -2147483648 ≤ s ∧ s ≤ 2147483647) : -2147483648 ≤ l.foldl dotStep s ∧ l.foldl dotStep s ≤ 2147483647 := by
  induction l generalizing s with
  | nil => exact h
  | cons p r ih => exact ih _ (dotStep_bd s p)
theorem dot_bd (a b : List Int) : -2147483648 ≤ dot a b ∧ dot a b ≤ 2147483647 := fold_bd _ _ (by omega)
theorem dot_comm (a b : List Int) : dot a b = dot b a := by
  unfold dot
  have : ∀ (a b : List Int) (s : Int), (a.zip b).foldl dotStep s = (b.zip a).foldl dotStep s := by
    intro a
    induction a with
    | nil => intro b s; cases b <;> rfl
    | cons x r ih =>
      intro b s
      cases b with
      | nil => rfl
      | cons y t => simp only [List.zip_cons_cons, List.foldl_cons]; rw [show dotStep s (x, y) = dotStep s (y, x) by simp only [dotStep, Int.mul_comm]]; exact ih t _
  exact this a b 0
theorem sat8_mul_bd (a b : Int) : -16256 ≤ sat8 a * sat8 b ∧ sat8 a * sat8 b ≤ 16384 := by
  have ha := sat8_bd a
  have hb := sat8_bd b
  have h1 : (sat8 a).natAbs * (sat8 b).natAbs ≤ 128 * 128 := Nat.mul_le_mul (by omega) (by omega)
  rw [← Int.natAbs_mul] at h1
  refine ⟨?_, by omega⟩
  by_cases hp : 0 ≤ sat8 a
  · have : sat8 a * (-128) ≤ sat8 a * sat8 b := Int.mul_le_mul_of_nonneg_left (by omega) hp
    omega
  · by_cases hq : 0 ≤ sat8 b
    · have : (-128) * sat8 b ≤ sat8 a * sat8 b := Int.mul_le_mul_of_nonneg_right (by omega) hq
      omega
    · have : 0 ≤ sat8 a * sat8 b := Int.mul_nonneg_of_nonpos_of_nonpos (by omega) (by omega)
      omega
theorem dot_take (a b : List Int) (k : Nat) (h1 : k < a.length) (h2 : k < b.length) : dot (a.take (k + 1)) (b.take (k + 1)) = addSat (dot (a.take k) (b.take k)) (sat8 (a.getD k 0) * sat8 (b.getD k 0)) := by
  unfold dot
  have e : ((a.take (k + 1)).zip (b.take (k + 1))) = (a.take k).zip (b.take k) ++ [(a.getD k 0, b.getD k 0)] := by
    rw [List.take_succ_eq_append_getElem h1, List.take_succ_eq_append_getElem h2, List.zip_append (by simp; omega)]
    simp [List.getD_eq_getElem?_getD, h1, h2]
  rw [e, List.foldl_append]; rfl

/-- How many noughts ahead: from z, one less for each digit of x. -/
def noughts (z x : Int) : Int := if 0 < x then noughts (z - 1) (x / 10) else z
termination_by x.toNat
decreasing_by omega
theorem noughts_step {z x : Int} (h : 0 < x) : noughts z x = noughts (z - 1) (x / 10) := by rw [noughts, if_pos h]
theorem noughts_end {z x : Int} (h : ¬ 0 < x) : noughts z x = z := by rw [noughts, if_neg h]

def multFloor (m s : Int) : Int := clamp m 0 2147483647 * 1000000000 / 2147483648 / 2 ^ (clamp s 0 31).toNat
theorem multFloor_bd (m s : Int) : 0 ≤ multFloor m s ∧ multFloor m s ≤ 1000000000 := by
  have h := clamp_bd m 0 2147483647 (by omega)
  unfold multFloor
  have h1 : 0 ≤ clamp m 0 2147483647 * 1000000000 / 2147483648 ∧ clamp m 0 2147483647 * 1000000000 / 2147483648 ≤ 1000000000 := by omega
  have h2 : (0 : Int) < 2 ^ (clamp s 0 31).toNat := Int.pow_pos (by omega)
  have h3 := ediv_bd (B := 1000000000) h2 (by omega) h1.2 (by omega)
  exact ⟨Int.ediv_nonneg h1.1 (by omega), h3.2⟩

def shiftFrom (num den : Int) (n : Nat) : Nat := if n < 31 ∧ num * 2 ^ (n + 1) < den then shiftFrom num den (n + 1) else n
termination_by 31 - n
decreasing_by omega
theorem shiftFrom_more {num den : Int} {n : Nat} (h : n < 31) (h2 : num * 2 ^ (n + 1) < den) : shiftFrom num den n = shiftFrom num den (n + 1) := by rw [shiftFrom, if_pos ⟨h, h2⟩]
theorem shiftFrom_end {num den : Int} {n : Nat} (h : ¬ (n < 31 ∧ num * 2 ^ (n + 1) < den)) : shiftFrom num den n = n := by rw [shiftFrom, if_neg h]
theorem mul_pow_succ (a : Int) (k : Nat) : a * 2 ^ (k + 1) = 2 * (a * 2 ^ k) := by rw [Int.pow_succ, ← Int.mul_assoc, Int.mul_comm]
theorem mul_pow_pos {a : Int} (h : 0 < a) (k : Nat) : 0 < a * 2 ^ k := Int.mul_pos h (Int.pow_pos (by omega))
def multN (num den : Int) : Int := (shiftFrom num den 0 : Nat)
def multM (num den : Int) : Int := num * 2 ^ (shiftFrom num den 0) * 2147483648 / den
def multGood (num den : Int) : Bool := decide (0 < num ∧ num < den ∧ den ≤ 1000000)
end Go.Proofs.Ytihnpfcjnfkfjaa.Qt

namespace Go.Proofs.Ytihnpfcjnfkfjaa
open Go.RowKit
namespace Qt

theorem ret_int {k : IntKind} {a b : Int} (h : a = b) : Ending.returned (.int k a) = .returned (.int k b) := by rw [h]

end Qt
end Go.Proofs.Ytihnpfcjnfkfjaa

namespace Go.Proofs.Ytihnpfcjnfkfjaa
open Go.RowKit
namespace Qt

theorem inS_yes (x lo hi : Int) (h : lo ≤ x) (h2 : x ≤ hi) (w : World) : Calls Try.prog 47 #[.int .i64 x, .int .i64 lo, .int .i64 hi] w fun e w' => e = .returned (.bool true) ∧ w = w' := by
  go_enter Try.func47, Try.ntmps47
  go_wp2
  go_ret
  exact ⟨rfl, rfl⟩
theorem inS_no (x lo hi : Int) (h : ¬ (lo ≤ x ∧ x ≤ hi)) (w : World) : Calls Try.prog 47 #[.int .i64 x, .int .i64 lo, .int .i64 hi] w fun e w' => e = .returned (.bool false) ∧ w = w' := by
  by_cases h1 : lo ≤ x
  · have h2 : decide (x ≤ hi) = false := by simp; omega
    clear h
    go_enter Try.func47, Try.ntmps47
    go_wp2
    go_ret
    exact ⟨rfl, rfl⟩
  · have h2 : x < lo := by omega
    clear h h1
    go_enter Try.func47, Try.ntmps47
    go_wp2
    go_ret
    exact ⟨rfl, rfl⟩
theorem ret_mult {num den : Int} {k : Nat} (h : shiftFrom num den 0 = k) : Ending.returned (.tuple #[.int .i64 (num * 2 ^ k * 2147483648 / den), .int .i64 k, .bool true]) = .returned (.tuple #[.int .i64 (multM num den), .int .i64 (multN num den), .bool true]) := by
  unfold multM multN; rw [h]
end Qt
end Go.Proofs.Ytihnpfcjnfkfjaa

namespace Go.Proofs.Ytihnpfcjnfkfjaa
open Go.RowKit
namespace Qt

def shOk (h w c : Int) : Bool := decide (1 ≤ h ∧ h ≤ 8 ∧ 1 ≤ w ∧ w ≤ 8 ∧ 1 ≤ c ∧ c ≤ 8)
def szOf (h w c : Int) : Int := if shOk h w c then h * w * c else 0
theorem shOk_iff {h w c : Int} : shOk h w c = true ↔ (1 ≤ h ∧ h ≤ 8 ∧ 1 ≤ w ∧ w ≤ 8 ∧ 1 ≤ c ∧ c ≤ 8) := by simp [shOk]
theorem shOk_not {h w c : Int} : shOk h w c = false ↔ ¬ (1 ≤ h ∧ h ≤ 8 ∧ 1 ≤ w ∧ w ≤ 8 ∧ 1 ≤ c ∧ c ≤ 8) := by simp [shOk]
theorem mulPos {a b m n : Int} (h1 : 1 ≤ a) (h2 : a ≤ m) (h3 : 1 ≤ b) (h4 : b ≤ n) : 1 ≤ a * b ∧ a * b ≤ m * n :=
  ⟨by have := Int.mul_le_mul h1 h3 (by omega) (by omega : (0:Int) ≤ a); omega, Int.mul_le_mul h2 h4 (by omega) (by omega)⟩
theorem szOf_yes {h w c : Int} (hs : shOk h w c = true) : szOf h w c = h * w * c ∧ 1 ≤ h * w ∧ h * w ≤ 64 ∧ 1 ≤ h * w * c ∧ h * w * c ≤ 512 := by
  obtain ⟨a1, a2, a3, a4, a5, a6⟩ := shOk_iff.1 hs
  have h1 := mulPos a1 a2 a3 a4
  have h2 := mulPos h1.1 h1.2 a5 a6
  refine ⟨by rw [szOf, if_pos hs], h1.1, by omega, h2.1, by omega⟩
theorem szOf_no {h w c : Int} (hs : shOk h w c = false) : szOf h w c = 0 := by rw [szOf, hs]; rfl
theorem szOf_bd (h w c : Int) : 0 ≤ szOf h w c ∧ szOf h w c ≤ 512 := by
  rcases hs : shOk h w c with _ | _
  · rw [szOf_no hs]; omega
  · have := szOf_yes hs; omega

end Qt
end Go.Proofs.Ytihnpfcjnfkfjaa

namespace Go.Proofs.Ytihnpfcjnfkfjaa
open Go.RowKit
namespace Qt

theorem keep {w1 w2 : World} (hb : Below w1.heap.size w1 w2) {p : Addr} {v : Value} (h : w1.cell? p = some v) : w2.cell? p = some v := (hb.cell (World.block_lt_of_cell? _ _ h)).trans h
theorem new3 (W : World) (t : TypeId) (x y z : Value) : (W.alloc (.cells #[x, y, z] t)).cell? ⟨W.heap.size, 0, none⟩ = some x ∧ (W.alloc (.cells #[x, y, z] t)).cell? ⟨W.heap.size, 1, none⟩ = some y ∧ (W.alloc (.cells #[x, y, z] t)).cell? ⟨W.heap.size, 2, none⟩ = some z := by
  refine ⟨?_, ?_, ?_⟩ <;> simp [go_sem]
theorem after1 {W : World} {o : Obj} {w1 : World} (b1 : Below (W.alloc o).heap.size (W.alloc o) w1) : Below W.heap.size W w1 := ((Below.refl _ W).alloc (Nat.le_refl _) _).trans (b1.mono (by simp))

end Qt
end Go.Proofs.Ytihnpfcjnfkfjaa

namespace Go.Proofs.Ytihnpfcjnfkfjaa
open Go.RowKit
namespace Qt

/-- The slice at A of n elements reads as xs. -/
def RdI (w : World) (A : Option Addr) (n : Nat) (xs : List Int) : Prop :=
  xs.length = n ∧ (0 < n → ∃ b off, A = some ⟨b, off, none⟩ ∧ b < w.heap.size ∧ ∀ j, j < n → w.cell? ⟨b, off + j, none⟩ = some (.int .i64 (xs.getD j 0)))
theorem RdI.nil (w : World) (A : Option Addr) : RdI w A 0 [] := ⟨rfl, fun h => absurd h (by omega)⟩
theorem RdI.of_below {w w' : World} {A : Option Addr} {n : Nat} {xs : List Int} (h : RdI w A n xs) (hb : Below w.heap.size w w') : RdI w' A n xs :=
  ⟨h.1, fun hn => by
    obtain ⟨b, off, e, hlt, hc⟩ := h.2 hn
    exact ⟨b, off, e, Nat.lt_of_lt_of_le hlt hb.size, fun j hj => (hb.cell (p := ⟨b, off + j, none⟩) hlt).trans (hc j hj)⟩⟩
theorem RdI.of_drewN {w : World} {A : Option Addr} {n : Nat} {xs : List Int} (h : RdI w A n xs) (m : Nat) : RdI (w.drewN m) A n xs := h
theorem RdI.of_own {w : World} {base c e n : Nat} {A : Option Addr} {xs : List Int} (h : w.ownsRow base e 1 (.slice A n c) n (xs.map (Value.int .i64))) : RdI w A n xs := by
  refine ⟨by simpa using h.1, fun hn => ?_⟩
  rcases h.2 with ⟨_, h0⟩ | ⟨g, cap, cur, hv, _, hg, _⟩
  · omega
  · injection hv with hA _ hc
    subst hA hc
    refine ⟨g, 0, rfl, ?_, fun j hj => ?_⟩
    · rcases Nat.lt_or_ge g w.heap.size with hlt | hge
      · exact hlt
      · rw [Array.getElem?_eq_none hge] at hg; cases hg
    · have := h.cellAt j (by omega)
      have hl : j < xs.length := by have := h.1; simp at this; omega
      rw [Nat.zero_add, this]; simp [List.getD_eq_getElem?_getD, hl]

def vals (xs : List Int) (n k : Nat) : List Int := xs.take k ++ List.replicate (n - k) 0
theorem vals_zero (xs : List Int) (n : Nat) : vals xs n 0 = List.replicate n 0 := by simp [vals]
theorem vals_all (xs : List Int) (n : Nat) (h : xs.length = n) : vals xs n n = xs := by simp [vals, ← h]
theorem vals_set (xs : List Int) (n k : Nat) (h : xs.length = n) (hk : k < n) : (vals xs n k).set k (xs.getD k 0) = vals xs n (k + 1) := by
  have e1 : (xs.take k).length = k := by rw [List.length_take]; omega
  obtain ⟨m, hm⟩ : ∃ m, n - k = m + 1 := ⟨n - k - 1, by omega⟩
  have hm2 : n - (k + 1) = m := by omega
  have hx : xs.getD k 0 = xs[k]'(by omega) := by rw [List.getD_eq_getElem?_getD, List.getElem?_eq_getElem (by omega)]; rfl
  unfold vals
  rw [List.set_append_right _ _ (by omega), e1, Nat.sub_self, hm, hm2, List.replicate_succ, List.set_cons_zero, List.take_succ_eq_append_getElem (by omega), List.append_assoc, hx]
  rfl
theorem vals_map_set (xs : List Int) (n k : Nat) (h : xs.length = n) (hk : k < n) : ((vals xs n k).map (Value.int .i64)).set k (.int .i64 (xs.getD k 0)) = (vals xs n (k + 1)).map (Value.int .i64) := by
  rw [← vals_set xs n k h hk, List.map_set]

theorem RdI.far {w : World} {b n : Nat} {xs : List Int} (h : RdI w (some ⟨b, 0, none⟩) n xs) {p : Addr} (hp : b ≠ p.block) (u : Value) : RdI (w.setCell p u) (some ⟨b, 0, none⟩) n xs :=
  ⟨h.1, fun hn => by
    obtain ⟨b', off, e, hlt, hc⟩ := h.2 hn
    cases e
    exact ⟨b, 0, rfl, by rw [World.size_setCell]; exact hlt, fun j hj => (World.cell?_setCell_other _ _ _ _ (fun e => hp (by subst e; rfl))).trans (hc j hj)⟩⟩

def NewF (w : World) (n : Nat) (xs : List Int) (e : Ending) (w' : World) : Prop := ∃ g, e = .returned (.slice (some ⟨g, 0, none⟩) n n) ∧ w.heap.size ≤ g ∧ g < w'.heap.size ∧ RdI w' (some ⟨g, 0, none⟩) n xs ∧ Below w.heap.size w w'
def NewI (w : World) (n : Nat) (xs : List Int) (e : Ending) (w' : World) : Prop := ∃ g, e = .returned (.slice (some ⟨g, 0, none⟩) n n) ∧ RdI w' (some ⟨g, 0, none⟩) n xs ∧ Below w.heap.size w w'

theorem info3 : (Try.prog.info? 3).map (fun i => (i.zero, i.size, i.bytes)) = some (some (.int .i64 0), 1, 8) := by kernel_rfl
theorem toIntS_fresh (A : Option Addr) (n c : Nat) (xs : List Int) (w : World) (h : RdI w A n xs) (hn : n ≤ 1048576) :
    Calls Try.prog 43 #[.slice A n c] w (NewF w n xs) := by
  obtain ⟨i0, hi, hz0, hz1, hz2⟩ := info_parts info3
  obtain ⟨hl, hc⟩ := h
  have HC := Lib.hid hc
  have HL := Lib.hid hl
  clear hc hl
  go_enter Try.func43, Try.ntmps43
  go_wp2_with (at_make; refine wpList_make_full _ rfl _ _ 35 rfl w.heap.size 3 i0 (.int .i64 0) 1 Try.underlying35 hi hz0 hz1 .i64 .i64 _ _ n rfl rfl rfl rfl (by rw [hz2]; omega) (by unfold maxLen; omega) (Nat.le_refl _) ?_; intro w1 hown hg)
  obtain ⟨g, hgd⟩ : ∃ g, g = w.heap.size := ⟨_, rfl⟩
  rw [← hgd] at hown
  rw [← hgd]
  have hown0 : w1.ownsRow g 3 1 (.slice (some ⟨g, 0, none⟩) n n) n ((vals xs n 0).map (Value.int .i64)) := by
    rw [vals_zero]; simpa [toList_madeCells_one, Value.cells] using hown
  have hb0 : Below g w w1 := hgd ▸ (Below.refl w.heap.size w).grown hg (Nat.le_refl _) (fun k hk => by cases hk)
  have hsz : g < w1.heap.size := (hown0.lt g rfl).2
  have HG := Lib.hid hgd
  clear hown hg hgd
  go_loopw [4] (fun i wr => ∃ k : Nat, k ≤ n ∧ i = .int .i64 k ∧ wr.ownsRow g 3 1 (.slice (some ⟨g, 0, none⟩) n n) n ((vals xs n k).map (Value.int .i64)) ∧ Below g w wr) (fun i _ => n - (intOf i).toNat)
  case atStart => exact ⟨0, Nat.zero_le _, rfl, hown0, hb0⟩
  case round =>
    clear hown0 hb0 hsz
    obtain ⟨k, hk, rfl, hown, hb⟩ := hrel
    by_cases hlt : k < n
    · obtain ⟨b, off, rfl, hbl, hcell⟩ := HC.out (by omega)
      have hcx : wr.cell? ⟨b, off + k, none⟩ = some (.int .i64 (xs.getD k 0)) := (hb.cell (p := ⟨b, off + k, none⟩) (by rw [HG.out]; exact hbl)).trans (hcell k hlt)
      have hgx : wr.cell? ⟨g, k, none⟩ = some (.int .i64 ((vals xs n k).getD k 0)) := by
        rw [hown.cellAt k (by omega)]
        have hl : k < (vals xs n k).length := by simpa using (show k < ((vals xs n k).map (Value.int .i64)).length by rw [hown.1]; omega)
        simp [List.getD_eq_getElem?_getD, hl]
      have hfr := hown.frozenAt k
      have hst := (hown.stored k (.int .i64 (xs.getD k 0))).1
      rw [vals_map_set xs n k HL.out hlt] at hst
      have HS := Lib.hid hst
      have HB := Lib.hid hb
      clear hst hcell hown hb
      go_wp2
      go_roundw
      case rel => exact ⟨k + 1, by omega, by go_num, HS.out, HB.out.setCell (Nat.le_refl _) _⟩
      case measure => simp [intOf]; omega
    · go_wp2
      go_ret
      obtain rfl : k = n := by omega
      rw [vals_all xs k HL.out] at hown
      exact ⟨g, rfl, Nat.le_of_eq HG.out.symm, (hown.lt g rfl).2, RdI.of_own hown, HG.out ▸ hb⟩
theorem toIntS_any (A : Option Addr) (n c : Nat) (xs : List Int) (w : World) (h : RdI w A n xs) (hn : n ≤ 1048576) :
    Calls Try.prog 43 #[.slice A n c] w (NewI w n xs) :=
  (toIntS_fresh A n c xs w h hn).mono fun _ _ ⟨g, he, _, _, hr, hb⟩ => ⟨g, he, hr, hb⟩

/-- eqIntS of two slices that read as one list: true. -/
theorem eqIntS_same (A A2 : Option Addr) (n c c2 : Nat) (xs : List Int) (w : World) (h : RdI w A n xs) (h2 : RdI w A2 n xs) (hn : n ≤ 1048576) :
    Calls Try.prog 23 #[.slice A n c, .slice A2 n c2] w fun e w' => e = .returned (.bool true) ∧ ∃ m, w' = w.drewN m := by
  obtain ⟨hl, hc⟩ := h
  have HC := Lib.hid hc
  have HC2 := Lib.hid h2.2
  clear hc hl h2
  go_enter Try.func23, Try.ntmps23
  go_wp2
  go_loopw [5] (fun i wr => ∃ k : Nat, k ≤ n ∧ i = .int .i64 k ∧ ∃ m, wr = w.drewN m) (fun i _ => n - (intOf i).toNat)
  case atStart => exact ⟨0, Nat.zero_le _, rfl, 0, rfl⟩
  case round =>
    obtain ⟨k, hk, rfl, m, rfl⟩ := hrel
    by_cases hlt : k < n
    · obtain ⟨b, off, rfl, hbl, hcell⟩ := HC.out (by omega)
      obtain ⟨b2, off2, rfl, hbl2, hcell2⟩ := HC2.out (by omega)
      have hc1 := hcell k hlt
      have hc2 := hcell2 k hlt
      clear hcell hcell2
      have hi : (k : Int) < (n : Int) := by omega
      go_wp2
      go_quiet (fail)
      go_wp2
      go_roundw
      case rel => exact ⟨k + 1, by omega, by go_num, _, rfl⟩
      case measure => simp [intOf]; omega
    · go_wp2
      go_ret
      exact ⟨rfl, _, rfl⟩
end Qt
end Go.Proofs.Ytihnpfcjnfkfjaa

namespace Go.Proofs.Ytihnpfcjnfkfjaa
open Go.RowKit
namespace Qt

/-- Block g is just these cells, none of them frozen. -/
def Bk (w : World) (g : Nat) (t : TypeId) (cs : Array Value) : Prop := w.heap[g]? = some (.cells cs t (0, 0))
section
variable {w w' : World} {g : Nat} {t : TypeId} {cs : Array Value}
theorem Bk.lt (h : Bk w g t cs) : g < w.heap.size := (Array.getElem?_eq_some_iff.1 h).1
theorem Bk.cell (h : Bk w g t cs) (i : Nat) {v : Value} (hv : cs[i]? = some v) : w.cell? ⟨g, i, none⟩ = some v := (cell_of_row w g i cs t (0, 0) h).trans hv
theorem Bk.frozen (h : Bk w g t cs) (i : Nat) : w.frozen? ⟨g, i, none⟩ = false := by
  have h' : w.heap[g]? = _ := h
  simp [World.frozen?, h']
theorem Bk.new (w : World) (t : TypeId) (cs : Array Value) : Bk (w.alloc (.cells cs t)) w.heap.size t cs := by unfold Bk; exact heap_alloc_new w _
theorem Bk.drewN (h : Bk w g t cs) (n : Nat) : Bk (w.drewN n) g t cs := h
theorem Bk.alloc (h : Bk w g t cs) (o : Obj) : Bk (w.alloc o) g t cs := (Below.heap_alloc w o g h.lt).trans h
theorem Bk.below (h : Bk w g t cs) (hb : Below w.heap.size w w') : Bk w' g t cs := (hb.block g h.lt).trans h
theorem Bk.belowN {B : Nat} (h : Bk w g t cs) (hb : Below B w w') (hg : g < B) : Bk w' g t cs := (hb.block g hg).trans h
theorem Bk.far (h : Bk w g t cs) {p : Addr} (hp : g ≠ p.block) (u : Value) : Bk (w.setCell p u) g t cs := (Below.heap_setCell w p u g hp).trans h
theorem Bk.set (h : Bk w g t cs) (i : Nat) (u : Value) : Bk (w.setCell ⟨g, i, none⟩ u) g t (cs.setIfInBounds i u) := by
  have h' : w.heap[g]? = _ := h
  unfold Bk
  simp [World.setCell, Array.getElem?_modify, h']
theorem Bk.set3 {a b c x y z : Value} (h : Bk w g t #[a, b, c]) : Bk (((w.setCell ⟨g, 0, none⟩ x).setCell ⟨g, 1, none⟩ y).setCell ⟨g, 2, none⟩ z) g t #[x, y, z] := ((h.set 0 x).set 1 y).set 2 z
theorem Bk.set4 {a b c d x y z u : Value} (h : Bk w g t #[a, b, c, d]) : Bk ((((w.setCell ⟨g, 0, none⟩ x).setCell ⟨g, 1, none⟩ y).setCell ⟨g, 2, none⟩ z).setCell ⟨g, 3, none⟩ u) g t #[x, y, z, u] := (((h.set 0 x).set 1 y).set 2 z).set 3 u
theorem Bk.far3 (h : Bk w g t cs) {b : Nat} (hb : g ≠ b) (x y z : Value) : Bk (((w.setCell ⟨b, 0, none⟩ x).setCell ⟨b, 1, none⟩ y).setCell ⟨b, 2, none⟩ z) g t cs := ((h.far (p := ⟨b, 0, none⟩) hb x).far (p := ⟨b, 1, none⟩) hb y).far (p := ⟨b, 2, none⟩) hb z
theorem Bk.far4 (h : Bk w g t cs) {b : Nat} (hb : g ≠ b) (x y z u : Value) : Bk ((((w.setCell ⟨b, 0, none⟩ x).setCell ⟨b, 1, none⟩ y).setCell ⟨b, 2, none⟩ z).setCell ⟨b, 3, none⟩ u) g t cs := (h.far3 hb x y z).far (p := ⟨b, 3, none⟩) hb u
theorem below_set3 {B : Nat} {W : World} (h : Below B W w) {b : Nat} (hb : B ≤ b) (x y z : Value) : Below B W (((w.setCell ⟨b, 0, none⟩ x).setCell ⟨b, 1, none⟩ y).setCell ⟨b, 2, none⟩ z) := ((h.setCell (p := ⟨b, 0, none⟩) hb x).setCell (p := ⟨b, 1, none⟩) hb y).setCell (p := ⟨b, 2, none⟩) hb z
theorem below_set4 {B : Nat} {W : World} (h : Below B W w) {b : Nat} (hb : B ≤ b) (x y z u : Value) : Below B W ((((w.setCell ⟨b, 0, none⟩ x).setCell ⟨b, 1, none⟩ y).setCell ⟨b, 2, none⟩ z).setCell ⟨b, 3, none⟩ u) := (below_set3 h hb x y z).setCell (p := ⟨b, 3, none⟩) hb u
theorem RdI.far4 {n : Nat} {xs : List Int} (h : RdI w (some ⟨g, 0, none⟩) n xs) {b : Nat} (hb : g ≠ b) (x y z u : Value) : RdI ((((w.setCell ⟨b, 0, none⟩ x).setCell ⟨b, 1, none⟩ y).setCell ⟨b, 2, none⟩ z).setCell ⟨b, 3, none⟩ u) (some ⟨g, 0, none⟩) n xs :=
  (((h.far (p := ⟨b, 0, none⟩) hb x).far (p := ⟨b, 1, none⟩) hb y).far (p := ⟨b, 2, none⟩) hb z).far (p := ⟨b, 3, none⟩) hb u
theorem Bk.cell3 {x y z : Value} (h : Bk w g t #[x, y, z]) : w.cell? ⟨g, 0, none⟩ = some x ∧ w.cell? ⟨g, 1, none⟩ = some y ∧ w.cell? ⟨g, 2, none⟩ = some z :=
  ⟨h.cell 0 rfl, h.cell 1 rfl, h.cell 2 rfl⟩
theorem Bk.cell4 {x y z u : Value} (h : Bk w g t #[x, y, z, u]) : w.cell? ⟨g, 0, none⟩ = some x ∧ w.cell? ⟨g, 1, none⟩ = some y ∧ w.cell? ⟨g, 2, none⟩ = some z ∧ w.cell? ⟨g, 3, none⟩ = some u :=
  ⟨h.cell 0 rfl, h.cell 1 rfl, h.cell 2 rfl, h.cell 3 rfl⟩
theorem Bk.free3 (h : Bk w g t cs) : w.frozen? ⟨g, 0, none⟩ = false ∧ w.frozen? ⟨g, 1, none⟩ = false ∧ w.frozen? ⟨g, 2, none⟩ = false := ⟨h.frozen 0, h.frozen 1, h.frozen 2⟩
theorem Bk.free4 (h : Bk w g t cs) : w.frozen? ⟨g, 0, none⟩ = false ∧ w.frozen? ⟨g, 1, none⟩ = false ∧ w.frozen? ⟨g, 2, none⟩ = false ∧ w.frozen? ⟨g, 3, none⟩ = false := ⟨h.frozen 0, h.frozen 1, h.frozen 2, h.frozen 3⟩
end
theorem keepB {W w1 w2 : World} (hb : Below w1.heap.size w1 w2) (h : Hid (Below W.heap.size W w1)) : Hid (Below W.heap.size W w2) := Lib.hid (h.out.trans (hb.mono h.out.size))
/-- What is said of a block of four cells while a statement's order is drawn. -/
theorem keep4 {W w1 w2 : World} {g : Nat} {x y z u : Value} (hb : Below w1.heap.size w1 w2)
    (h : w1.cell? ⟨g, 0, none⟩ = some x ∧ w1.cell? ⟨g, 1, none⟩ = some y ∧ w1.cell? ⟨g, 2, none⟩ = some z ∧ w1.cell? ⟨g, 3, none⟩ = some u ∧ Hid (Below W.heap.size W w1)) :
    w2.cell? ⟨g, 0, none⟩ = some x ∧ w2.cell? ⟨g, 1, none⟩ = some y ∧ w2.cell? ⟨g, 2, none⟩ = some z ∧ w2.cell? ⟨g, 3, none⟩ = some u ∧ Hid (Below W.heap.size W w2) :=
  ⟨keep hb h.1, keep hb h.2.1, keep hb h.2.2.1, keep hb h.2.2.2.1, keepB hb h.2.2.2.2⟩
end Qt
end Go.Proofs.Ytihnpfcjnfkfjaa

namespace Go.Proofs.Ytihnpfcjnfkfjaa
open Go.RowKit
namespace Qt
section
variable {w w' : World} {g : Nat} {t : TypeId} {cs : Array Value}
theorem Bk.cell9 {x0 x1 x2 x3 x4 x5 x6 x7 x8 : Value} (h : Bk w g t #[x0, x1, x2, x3, x4, x5, x6, x7, x8]) : w.cell? ⟨g, 0, none⟩ = some x0 ∧ w.cell? ⟨g, 1, none⟩ = some x1 ∧ w.cell? ⟨g, 2, none⟩ = some x2 ∧ w.cell? ⟨g, 3, none⟩ = some x3 ∧ w.cell? ⟨g, 4, none⟩ = some x4 ∧ w.cell? ⟨g, 5, none⟩ = some x5 ∧ w.cell? ⟨g, 6, none⟩ = some x6 ∧ w.cell? ⟨g, 7, none⟩ = some x7 ∧ w.cell? ⟨g, 8, none⟩ = some x8 :=
  ⟨h.cell 0 rfl, h.cell 1 rfl, h.cell 2 rfl, h.cell 3 rfl, h.cell 4 rfl, h.cell 5 rfl, h.cell 6 rfl, h.cell 7 rfl, h.cell 8 rfl⟩
theorem Bk.free9 (h : Bk w g t cs) : w.frozen? ⟨g, 0, none⟩ = false ∧ w.frozen? ⟨g, 1, none⟩ = false ∧ w.frozen? ⟨g, 2, none⟩ = false ∧ w.frozen? ⟨g, 3, none⟩ = false ∧ w.frozen? ⟨g, 4, none⟩ = false ∧ w.frozen? ⟨g, 5, none⟩ = false ∧ w.frozen? ⟨g, 6, none⟩ = false ∧ w.frozen? ⟨g, 7, none⟩ = false ∧ w.frozen? ⟨g, 8, none⟩ = false := ⟨h.frozen 0, h.frozen 1, h.frozen 2, h.frozen 3, h.frozen 4, h.frozen 5, h.frozen 6, h.frozen 7, h.frozen 8⟩
theorem Bk.set9 {x0 x1 x2 x3 x4 x5 x6 x7 x8 y0 y1 y2 y3 y4 y5 y6 y7 y8 : Value} (h : Bk w g t #[x0, x1, x2, x3, x4, x5, x6, x7, x8]) : Bk (((((((((w.setCell ⟨g, 0, none⟩ y0).setCell ⟨g, 1, none⟩ y1).setCell ⟨g, 2, none⟩ y2).setCell ⟨g, 3, none⟩ y3).setCell ⟨g, 4, none⟩ y4).setCell ⟨g, 5, none⟩ y5).setCell ⟨g, 6, none⟩ y6).setCell ⟨g, 7, none⟩ y7).setCell ⟨g, 8, none⟩ y8) g t #[y0, y1, y2, y3, y4, y5, y6, y7, y8] := by
  have h0 := h
  have h1 := h0.set 0 y0
  simp only [List.setIfInBounds_toArray, List.set_cons_zero] at h1
  have h2 := h1.set 1 y1
  simp only [List.setIfInBounds_toArray, List.set_cons_zero, List.set_cons_succ] at h2
  have h3 := h2.set 2 y2
  simp only [List.setIfInBounds_toArray, List.set_cons_zero, List.set_cons_succ] at h3
  have h4 := h3.set 3 y3
  simp only [List.setIfInBounds_toArray, List.set_cons_zero, List.set_cons_succ] at h4
  have h5 := h4.set 4 y4
  simp only [List.setIfInBounds_toArray, List.set_cons_zero, List.set_cons_succ] at h5
  have h6 := h5.set 5 y5
  simp only [List.setIfInBounds_toArray, List.set_cons_zero, List.set_cons_succ] at h6
  have h7 := h6.set 6 y6
  simp only [List.setIfInBounds_toArray, List.set_cons_zero, List.set_cons_succ] at h7
  have h8 := h7.set 7 y7
  simp only [List.setIfInBounds_toArray, List.set_cons_zero, List.set_cons_succ] at h8
  have h9 := h8.set 8 y8
  simp only [List.setIfInBounds_toArray, List.set_cons_zero, List.set_cons_succ] at h9
  exact h9
theorem Bk.set7 {x0 x1 x2 x3 x4 x5 x6 x7 x8 y0 y1 y2 y3 y4 y5 y6 : Value} (h : Bk w g t #[x0, x1, x2, x3, x4, x5, x6, x7, x8]) : Bk (((((((w.setCell ⟨g, 0, none⟩ y0).setCell ⟨g, 1, none⟩ y1).setCell ⟨g, 2, none⟩ y2).setCell ⟨g, 3, none⟩ y3).setCell ⟨g, 4, none⟩ y4).setCell ⟨g, 5, none⟩ y5).setCell ⟨g, 6, none⟩ y6) g t #[y0, y1, y2, y3, y4, y5, y6, x7, x8] := by
  have h0 := h
  have h1 := h0.set 0 y0
  simp only [List.setIfInBounds_toArray, List.set_cons_zero] at h1
  have h2 := h1.set 1 y1
  simp only [List.setIfInBounds_toArray, List.set_cons_zero, List.set_cons_succ] at h2
  have h3 := h2.set 2 y2
  simp only [List.setIfInBounds_toArray, List.set_cons_zero, List.set_cons_succ] at h3
  have h4 := h3.set 3 y3
  simp only [List.setIfInBounds_toArray, List.set_cons_zero, List.set_cons_succ] at h4
  have h5 := h4.set 4 y4
  simp only [List.setIfInBounds_toArray, List.set_cons_zero, List.set_cons_succ] at h5
  have h6 := h5.set 5 y5
  simp only [List.setIfInBounds_toArray, List.set_cons_zero, List.set_cons_succ] at h6
  have h7 := h6.set 6 y6
  simp only [List.setIfInBounds_toArray, List.set_cons_zero, List.set_cons_succ] at h7
  exact h7
theorem Bk.far7 (h : Bk w g t cs) {b : Nat} (hb : g ≠ b) (x0 x1 x2 x3 x4 x5 x6 : Value) : Bk (((((((w.setCell ⟨b, 0, none⟩ x0).setCell ⟨b, 1, none⟩ x1).setCell ⟨b, 2, none⟩ x2).setCell ⟨b, 3, none⟩ x3).setCell ⟨b, 4, none⟩ x4).setCell ⟨b, 5, none⟩ x5).setCell ⟨b, 6, none⟩ x6) g t cs := (((((((h.far (p := ⟨b, 0, none⟩) hb x0).far (p := ⟨b, 1, none⟩) hb x1).far (p := ⟨b, 2, none⟩) hb x2).far (p := ⟨b, 3, none⟩) hb x3).far (p := ⟨b, 4, none⟩) hb x4).far (p := ⟨b, 5, none⟩) hb x5).far (p := ⟨b, 6, none⟩) hb x6)
theorem below_set7 {B : Nat} {W : World} (h : Below B W w) {b : Nat} (hb : B ≤ b) (x0 x1 x2 x3 x4 x5 x6 : Value) : Below B W (((((((w.setCell ⟨b, 0, none⟩ x0).setCell ⟨b, 1, none⟩ x1).setCell ⟨b, 2, none⟩ x2).setCell ⟨b, 3, none⟩ x3).setCell ⟨b, 4, none⟩ x4).setCell ⟨b, 5, none⟩ x5).setCell ⟨b, 6, none⟩ x6) := (((((((h.setCell (p := ⟨b, 0, none⟩) hb x0).setCell (p := ⟨b, 1, none⟩) hb x1).setCell (p := ⟨b, 2, none⟩) hb x2).setCell (p := ⟨b, 3, none⟩) hb x3).setCell (p := ⟨b, 4, none⟩) hb x4).setCell (p := ⟨b, 5, none⟩) hb x5).setCell (p := ⟨b, 6, none⟩) hb x6)
theorem Bk.far9 (h : Bk w g t cs) {b : Nat} (hb : g ≠ b) (x0 x1 x2 x3 x4 x5 x6 x7 x8 : Value) : Bk (((((((((w.setCell ⟨b, 0, none⟩ x0).setCell ⟨b, 1, none⟩ x1).setCell ⟨b, 2, none⟩ x2).setCell ⟨b, 3, none⟩ x3).setCell ⟨b, 4, none⟩ x4).setCell ⟨b, 5, none⟩ x5).setCell ⟨b, 6, none⟩ x6).setCell ⟨b, 7, none⟩ x7).setCell ⟨b, 8, none⟩ x8) g t cs := (((((((((h.far (p := ⟨b, 0, none⟩) hb x0).far (p := ⟨b, 1, none⟩) hb x1).far (p := ⟨b, 2, none⟩) hb x2).far (p := ⟨b, 3, none⟩) hb x3).far (p := ⟨b, 4, none⟩) hb x4).far (p := ⟨b, 5, none⟩) hb x5).far (p := ⟨b, 6, none⟩) hb x6).far (p := ⟨b, 7, none⟩) hb x7).far (p := ⟨b, 8, none⟩) hb x8)
theorem below_set9 {B : Nat} {W : World} (h : Below B W w) {b : Nat} (hb : B ≤ b) (x0 x1 x2 x3 x4 x5 x6 x7 x8 : Value) : Below B W (((((((((w.setCell ⟨b, 0, none⟩ x0).setCell ⟨b, 1, none⟩ x1).setCell ⟨b, 2, none⟩ x2).setCell ⟨b, 3, none⟩ x3).setCell ⟨b, 4, none⟩ x4).setCell ⟨b, 5, none⟩ x5).setCell ⟨b, 6, none⟩ x6).setCell ⟨b, 7, none⟩ x7).setCell ⟨b, 8, none⟩ x8) := (((((((((h.setCell (p := ⟨b, 0, none⟩) hb x0).setCell (p := ⟨b, 1, none⟩) hb x1).setCell (p := ⟨b, 2, none⟩) hb x2).setCell (p := ⟨b, 3, none⟩) hb x3).setCell (p := ⟨b, 4, none⟩) hb x4).setCell (p := ⟨b, 5, none⟩) hb x5).setCell (p := ⟨b, 6, none⟩) hb x6).setCell (p := ⟨b, 7, none⟩) hb x7).setCell (p := ⟨b, 8, none⟩) hb x8)
theorem RdI.far9 {n : Nat} {xs : List Int} (h : RdI w (some ⟨g, 0, none⟩) n xs) {b : Nat} (hb : g ≠ b) (x0 x1 x2 x3 x4 x5 x6 x7 x8 : Value) : RdI (((((((((w.setCell ⟨b, 0, none⟩ x0).setCell ⟨b, 1, none⟩ x1).setCell ⟨b, 2, none⟩ x2).setCell ⟨b, 3, none⟩ x3).setCell ⟨b, 4, none⟩ x4).setCell ⟨b, 5, none⟩ x5).setCell ⟨b, 6, none⟩ x6).setCell ⟨b, 7, none⟩ x7).setCell ⟨b, 8, none⟩ x8) (some ⟨g, 0, none⟩) n xs := (((((((((h.far (p := ⟨b, 0, none⟩) hb x0).far (p := ⟨b, 1, none⟩) hb x1).far (p := ⟨b, 2, none⟩) hb x2).far (p := ⟨b, 3, none⟩) hb x3).far (p := ⟨b, 4, none⟩) hb x4).far (p := ⟨b, 5, none⟩) hb x5).far (p := ⟨b, 6, none⟩) hb x6).far (p := ⟨b, 7, none⟩) hb x7).far (p := ⟨b, 8, none⟩) hb x8)
end
end Qt
end Go.Proofs.Ytihnpfcjnfkfjaa

namespace Go.Proofs.Ytihnpfcjnfkfjaa
open Go.RowKit
namespace Qt

/-- A new tensor that holds these numbers. -/
def NewT (W : World) (h w c : Int) (n : Nat) (xs : List Int) (e : Ending) (W' : World) : Prop :=
  ∃ g, e = .returned (.agg #[.int .i64 h, .int .i64 w, .int .i64 c, .slice (some ⟨g, 0, none⟩) n n]) ∧ W.heap.size ≤ g ∧ RdI W' (some ⟨g, 0, none⟩) n xs ∧ Below W.heap.size W W'

end Qt
end Go.Proofs.Ytihnpfcjnfkfjaa

namespace Go.Proofs.Ytihnpfcjnfkfjaa
open Go.RowKit
namespace Qt

def plIn (h w c i j k : Int) : Bool := decide (0 ≤ i ∧ i < h ∧ 0 ≤ j ∧ j < w ∧ 0 ≤ k ∧ k < c)
def plOf (h w c i j k : Int) : Int := if shOk h w c && plIn h w c i j k then (i * w + j) * c + k else -1
theorem plOf_no {h w c i j k : Int} (hs : shOk h w c = false) : plOf h w c i j k = -1 := by rw [plOf, hs]; rfl
theorem plOf_out {h w c i j k : Int} (hp : ¬ (0 ≤ i ∧ i < h ∧ 0 ≤ j ∧ j < w ∧ 0 ≤ k ∧ k < c)) : plOf h w c i j k = -1 := by
  have : plIn h w c i j k = false := by simpa [plIn] using hp
  rw [plOf, this, Bool.and_false]; rfl
theorem plOf_in {h w c i j k : Int} (hs : shOk h w c = true) (h1 : 0 ≤ i) (h2 : i < h) (h3 : 0 ≤ j) (h4 : j < w) (h5 : 0 ≤ k) (h6 : k < c) :
    plOf h w c i j k = (i * w + j) * c + k ∧ 0 ≤ i * w ∧ i * w ≤ 56 ∧ i * w + j < h * w ∧ 0 ≤ (i * w + j) * c ∧ (i * w + j) * c ≤ 504 ∧ (i * w + j) * c + k < h * w * c := by
  obtain ⟨a1, a2, a3, a4, a5, a6⟩ := shOk_iff.1 hs
  have hp : plIn h w c i j k = true := by simp [plIn]; omega
  refine ⟨by rw [plOf, hs, hp]; rfl, ?_⟩
  have e1 : 0 ≤ i * w := Int.mul_nonneg h1 (by omega)
  have e2 : i * w ≤ (h - 1) * w := Int.mul_le_mul_of_nonneg_right (by omega) (by omega)
  have e3 : (h - 1) * w ≤ 7 * 8 := Int.mul_le_mul (by omega) (by omega) (by omega) (by omega)
  have e4 : (h - 1) * w = h * w - w := by rw [Int.sub_mul]; omega
  have e5 : 0 ≤ (i * w + j) * c := Int.mul_nonneg (by omega) (by omega)
  have e6 : (i * w + j) * c ≤ (h * w - 1) * c := Int.mul_le_mul_of_nonneg_right (by omega) (by omega)
  have e7 : (h * w - 1) * c = h * w * c - c := by rw [Int.sub_mul]; omega
  have e8 : (i * w + j) * c ≤ 63 * 8 := Int.mul_le_mul (by omega) (by omega) (by omega) (by omega)
  omega
theorem plOf_bd (h w c i j k : Int) : -1 ≤ plOf h w c i j k ∧ (plOf h w c i j k < 0 → plOf h w c i j k = -1) ∧ (0 ≤ plOf h w c i j k → plOf h w c i j k < szOf h w c) := by
  rcases hs : shOk h w c with _ | _
  · rw [plOf_no hs]; omega
  · by_cases hp : 0 ≤ i ∧ i < h ∧ 0 ≤ j ∧ j < w ∧ 0 ≤ k ∧ k < c
    · have := plOf_in hs hp.1 hp.2.1 hp.2.2.1 hp.2.2.2.1 hp.2.2.2.2.1 hp.2.2.2.2.2
      have := szOf_yes hs
      omega
    · rw [plOf_out hp]; omega

end Qt
end Go.Proofs.Ytihnpfcjnfkfjaa

namespace Go.Proofs.Ytihnpfcjnfkfjaa
open Go.RowKit Go.Sort
namespace Qt

def fit8 (x : Int) : Bool := decide (-128 ≤ x ∧ x ≤ 127)
def tOk (h w c : Int) (xs : List Int) : Bool := shOk h w c && (decide ((xs.length : Int) = szOf h w c) && xs.all fit8)
theorem tOk_iff {h w c : Int} {xs : List Int} : tOk h w c xs = true ↔ shOk h w c = true ∧ (xs.length : Int) = szOf h w c ∧ ∀ x ∈ xs, -128 ≤ x ∧ x ≤ 127 := by
  simp [tOk, fit8]
theorem tOk_no1 {h w c : Int} {xs : List Int} (hs : shOk h w c = false) : tOk h w c xs = false := by simp [tOk, hs]
theorem tOk_no2 {h w c : Int} {xs : List Int} (hs : (xs.length : Int) ≠ szOf h w c) : tOk h w c xs = false := by simp [tOk, hs]
theorem tOk_no3 {h w c : Int} {xs : List Int} {k : Nat} (hk : k < xs.length) (hx : ¬ (-128 ≤ xs.getD k 0 ∧ xs.getD k 0 ≤ 127)) : tOk h w c xs = false := by
  have e : xs.getD k 0 = xs[k] := by simp [List.getD_eq_getElem?_getD, hk]
  rw [e] at hx
  rcases hb : tOk h w c xs with _ | _
  · rfl
  · exact absurd ((tOk_iff.1 hb).2.2 _ (List.getElem_mem hk)) hx

theorem mixed : Try.prog.follows .mixedOrders = true := by kernel_rfl
end Qt
end Go.Proofs.Ytihnpfcjnfkfjaa

namespace Go.Proofs.Ytihnpfcjnfkfjaa
open Go.RowKit Go.Sort
namespace Qt
structure KJ (W : World) (J : World → Prop) (w : World) : Prop where
  st : ∀ w w', J w → Below w.heap.size w w' → J w'
  j : J w
  b : Below W.heap.size W w
/-- .. and a block besides, the first that was laid behind the world v. -/
structure KZ (W : World) (J : World → Prop) (v : World) (t : TypeId) (zs : Array Value) (w : World) : Prop where
  st : ∀ w w', J w → Below w.heap.size w w' → J w'
  j : J v
  b : Below W.heap.size W v
  n : Below v.heap.size v w
  z : Bk w v.heap.size t zs
/-- .. when that block is what it is to be. -/
structure KD (W : World) (J : World → Prop) (g : Nat) (t : TypeId) (zs : Array Value) (w : World) : Prop where
  k : KJ W J w
  z : Bk w g t zs
  le : W.heap.size ≤ g
section
variable {W v w w' : World} {J : World → Prop} {t : TypeId} {zs : Array Value} {g : Nat}
theorem KJ.below (h : Hid (KJ W J w)) (bb : Below w.heap.size w w') : Hid (KJ W J w') := Lib.hid ⟨h.out.st, h.out.st _ _ h.out.j bb, h.out.b.trans (bb.mono h.out.b.size)⟩
theorem KJ.drew (h : Hid (KJ W J w)) : Hid (KJ W J w.drew) := KJ.below h (Below.refl _ w).drew
theorem KJ.alloc (h : Hid (KJ W J w)) (o : Obj) : Hid (KJ W J (w.alloc o)) := KJ.below h ((Below.refl _ w).alloc (Nat.le_refl _) o)
theorem KJ.regrown (h : Hid (KJ W J w)) (d : Nat) (os : Array Obj) : Hid (KJ W J (grow (redrawn w d) os)) := KJ.below h (below_regrown w d os)
theorem KJ.lay (h : Hid (KJ W J w)) (t : TypeId) (zs : Array Value) : Hid (KZ W J w t zs (w.alloc (.cells zs t))) := Lib.hid ⟨h.out.st, h.out.j, h.out.b, (Below.refl _ w).alloc (Nat.le_refl _) _, Bk.new w t zs⟩
theorem KJ.laid (h : Hid (KJ W J w)) (t : TypeId) (zs : Array Value) : Hid (KD W J w.heap.size t zs (w.alloc (.cells zs t))) := Lib.hid ⟨(KJ.alloc h _).out, Bk.new w t zs, h.out.b.size⟩
theorem KZ.below (h : Hid (KZ W J v t zs w)) (bb : Below w.heap.size w w') : Hid (KZ W J v t zs w') := Lib.hid ⟨h.out.st, h.out.j, h.out.b, h.out.n.trans (bb.mono h.out.n.size), h.out.z.below bb⟩
theorem KZ.kj (h : Hid (KZ W J v t zs w)) : Hid (KJ W J w) := Lib.hid ⟨h.out.st, h.out.st _ _ h.out.j h.out.n, h.out.b.trans (h.out.n.mono h.out.b.size)⟩
theorem KZ.set (h : Hid (KZ W J v t zs w)) (i : Nat) (u : Value) : Hid (KZ W J v t (zs.setIfInBounds i u) (w.setCell ⟨v.heap.size, i, none⟩ u)) := Lib.hid ⟨h.out.st, h.out.j, h.out.b, h.out.n.setCell (Nat.le_refl _) u, h.out.z.set i u⟩
theorem KZ.done (h : Hid (KZ W J v t zs w)) : Hid (KD W J v.heap.size t zs w) := Lib.hid ⟨(KZ.kj h).out, h.out.z, h.out.b.size⟩
theorem KZ.done3 {a b c : Value} (h : Hid (KZ W J v t #[a, b, c] w)) (x y z : Value) : Hid (KD W J v.heap.size t #[x, y, z] (((w.setCell ⟨v.heap.size, 0, none⟩ x).setCell ⟨v.heap.size, 1, none⟩ y).setCell ⟨v.heap.size, 2, none⟩ z)) :=
  KZ.done (KZ.set (KZ.set (KZ.set h 0 x) 1 y) 2 z)
theorem KZ.kj3 {a b c : Value} (h : Hid (KZ W J v t #[a, b, c] w)) (x y z : Value) : Hid (KJ W J (((w.setCell ⟨v.heap.size, 0, none⟩ x).setCell ⟨v.heap.size, 1, none⟩ y).setCell ⟨v.heap.size, 2, none⟩ z)) :=
  KZ.kj (KZ.set (KZ.set (KZ.set h 0 x) 1 y) 2 z)
theorem KZ.zf {a b c : Value} (h : Hid (KZ W J v t #[a, b, c] w)) : w.cell? ⟨v.heap.size, 0, none⟩ = some a ∧ w.cell? ⟨v.heap.size, 1, none⟩ = some b ∧ w.cell? ⟨v.heap.size, 2, none⟩ = some c ∧ w.frozen? ⟨v.heap.size, 0, none⟩ = false ∧ w.frozen? ⟨v.heap.size, 1, none⟩ = false ∧ w.frozen? ⟨v.heap.size, 2, none⟩ = false :=
  ⟨h.out.z.cell 0 rfl, h.out.z.cell 1 rfl, h.out.z.cell 2 rfl, h.out.z.frozen 0, h.out.z.frozen 1, h.out.z.frozen 2⟩
theorem ownsRow_below {w w' : World} {base : Nat} {e : TypeId} {size : Nat} {V : Value} {n : Nat} {xs : List Value} (h : w.ownsRow base e size V n xs) (hb : Below w.heap.size w w') : w'.ownsRow base e size V n xs := by
  refine ⟨h.1, ?_⟩
  rcases h.2 with hn | ⟨g, cap, cur, rfl, hB, hg, rest⟩
  · exact .inl hn
  · exact .inr ⟨g, cap, cur, rfl, hB, (hb.block g (Array.getElem?_eq_some_iff.1 hg).1).trans hg, rest⟩
theorem ownsRow_base {w : World} {base b' : Nat} {e : TypeId} {size : Nat} {V : Value} {n : Nat} {xs : List Value} (h : w.ownsRow base e size V n xs) (hb : b' ≤ base) : w.ownsRow b' e size V n xs := by
  refine ⟨h.1, ?_⟩
  rcases h.2 with hn | ⟨g, cap, cur, rfl, hB, rest⟩
  · exact .inl hn
  · exact .inr ⟨g, cap, cur, rfl, by omega, rest⟩
theorem Bk.grown {w w' : World} {g : Nat} {t : TypeId} {cs : Array Value} {row : Option Nat} (h : Bk w g t cs) (hg : w.grownBy w' row) (hne : some g ≠ row) : Bk w' g t cs := (hg.block g h.lt hne).trans h
theorem ownsRow_some {w : World} {base : Nat} {e : TypeId} {size : Nat} {V : Value} {n : Nat} {xs : List Value} (h : w.ownsRow base e size V n xs) (hn : 0 < n) : ∃ g cap, V = .slice (some ⟨g, 0, none⟩) n cap ∧ base ≤ g ∧ g < w.heap.size := by
  rcases h.2 with ⟨_, h0⟩ | ⟨g, cap, cur, rfl, hB, hg, _⟩
  · omega
  · exact ⟨g, cap, rfl, hB, (Array.getElem?_eq_some_iff.1 hg).1⟩
end
end Qt
end Go.Proofs.Ytihnpfcjnfkfjaa

namespace Go.Proofs.Ytihnpfcjnfkfjaa
open Go.RowKit
namespace Qt

/-- A slice that reads as xs, in a block at or behind B, none of its cells frozen. -/
def OwnI (B : Nat) (w : World) (A : Option Addr) (n : Nat) (xs : List Int) : Prop :=
  xs.length = n ∧ (0 < n → ∃ g, A = some ⟨g, 0, none⟩ ∧ B ≤ g ∧ g < w.heap.size ∧ ∀ j, j < n → w.cell? ⟨g, j, none⟩ = some (.int .i64 (xs.getD j 0)) ∧ w.frozen? ⟨g, j, none⟩ = false)
section
variable {B B' : Nat} {w w' : World} {A : Option Addr} {n : Nat} {xs : List Int}
theorem OwnI.rdI (h : OwnI B w A n xs) : RdI w A n xs := ⟨h.1, fun hn => by
  obtain ⟨g, e, _, hl, hc⟩ := h.2 hn
  exact ⟨g, 0, e, hl, fun j hj => by rw [Nat.zero_add]; exact (hc j hj).1⟩⟩
theorem OwnI.base (h : OwnI B w A n xs) (hB : B' ≤ B) : OwnI B' w A n xs := ⟨h.1, fun hn => by
  obtain ⟨g, e, hb, r⟩ := h.2 hn
  exact ⟨g, e, Nat.le_trans hB hb, r⟩⟩
theorem OwnI.of_below (h : OwnI B w A n xs) (hb : Below w.heap.size w w') : OwnI B w' A n xs := ⟨h.1, fun hn => by
  obtain ⟨g, e, hB, hl, hc⟩ := h.2 hn
  exact ⟨g, e, hB, Nat.lt_of_lt_of_le hl hb.size, fun j hj => ⟨(hb.cell (p := ⟨g, j, none⟩) hl).trans (hc j hj).1, (hb.frozen (p := ⟨g, j, none⟩) hl).trans (hc j hj).2⟩⟩⟩
theorem OwnI.far {g : Nat} (h : OwnI B w (some ⟨g, 0, none⟩) n xs) {p : Addr} (hp : g ≠ p.block) (u : Value) : OwnI B (w.setCell p u) (some ⟨g, 0, none⟩) n xs := ⟨h.1, fun hn => by
  obtain ⟨g', e, hB, hl, hc⟩ := h.2 hn
  cases e
  exact ⟨g, rfl, hB, by rw [World.size_setCell]; exact hl, fun j hj => ⟨(World.cell?_setCell_other _ _ _ _ (fun e => hp (by subst e; rfl))).trans (hc j hj).1, by rw [World.frozen?_setCell]; exact (hc j hj).2⟩⟩⟩
theorem OwnI.far4 {g : Nat} (h : OwnI B w (some ⟨g, 0, none⟩) n xs) {b : Nat} (hb : g ≠ b) (x y z u : Value) : OwnI B ((((w.setCell ⟨b, 0, none⟩ x).setCell ⟨b, 1, none⟩ y).setCell ⟨b, 2, none⟩ z).setCell ⟨b, 3, none⟩ u) (some ⟨g, 0, none⟩) n xs :=
  (((h.far (p := ⟨b, 0, none⟩) hb x).far (p := ⟨b, 1, none⟩) hb y).far (p := ⟨b, 2, none⟩) hb z).far (p := ⟨b, 3, none⟩) hb u
theorem OwnI.of_own {base c e : Nat} (h : w.ownsRow base e 1 (.slice A n c) n (xs.map (Value.int .i64))) : OwnI base w A n xs := by
  refine ⟨by simpa using h.1, fun hn => ?_⟩
  rcases h.2 with ⟨_, h0⟩ | ⟨g, cap, cur, hv, hb, hg, _⟩
  · omega
  · injection hv with hA _ hc
    subst hA hc
    refine ⟨g, rfl, hb, (Array.getElem?_eq_some_iff.1 hg).1, fun j hj => ⟨?_, h.frozenAt j⟩⟩
    have := h.cellAt j (by omega)
    have hl : j < xs.length := by have := h.1; simp at this; omega
    rw [this]; simp [List.getD_eq_getElem?_getD, hl]
theorem OwnI.grown (h : OwnI B w A n xs) {g0 : Nat} (hg : w.grownBy w' (some g0)) (hne : ∀ g, 0 < n → A = some ⟨g, 0, none⟩ → g ≠ g0) : OwnI B w' A n xs := ⟨h.1, fun hn => by
  obtain ⟨g, e, hB, hl, hc⟩ := h.2 hn
  have hb := hg.block g hl (fun e' => hne g hn e (by cases e'; rfl))
  exact ⟨g, e, hB, Nat.lt_of_lt_of_le hl hg.size, fun j hj => ⟨(World.cell?_of_block hb).trans (hc j hj).1, by rw [← (hc j hj).2]; simp [World.frozen?, hb]⟩⟩⟩
end

def NewO (w : World) (n : Nat) (xs : List Int) (e : Ending) (w' : World) : Prop := ∃ g, e = .returned (.slice (some ⟨g, 0, none⟩) n n) ∧ w.heap.size ≤ g ∧ g < w'.heap.size ∧ OwnI w.heap.size w' (some ⟨g, 0, none⟩) n xs ∧ Below w.heap.size w w'
theorem toIntS_own (A : Option Addr) (n c : Nat) (xs : List Int) (w : World) (h : RdI w A n xs) (hn : n ≤ 1048576) :
    Calls Try.prog 43 #[.slice A n c] w (NewO w n xs) := by
  obtain ⟨i0, hi, hz0, hz1, hz2⟩ := info_parts info3
  obtain ⟨hl, hc⟩ := h
  have HC := Lib.hid hc
  have HL := Lib.hid hl
  clear hc hl
  go_enter Try.func43, Try.ntmps43
  go_wp2_with (at_make; refine wpList_make_full _ rfl _ _ 35 rfl w.heap.size 3 i0 (.int .i64 0) 1 Try.underlying35 hi hz0 hz1 .i64 .i64 _ _ n rfl rfl rfl rfl (by rw [hz2]; omega) (by unfold maxLen; omega) (Nat.le_refl _) ?_; intro w1 hown hg)
  obtain ⟨g, hgd⟩ : ∃ g, g = w.heap.size := ⟨_, rfl⟩
  rw [← hgd] at hown
  rw [← hgd]
  have hown0 : w1.ownsRow g 3 1 (.slice (some ⟨g, 0, none⟩) n n) n ((vals xs n 0).map (Value.int .i64)) := by
    rw [vals_zero]; simpa [toList_madeCells_one, Value.cells] using hown
  have hb0 : Below g w w1 := hgd ▸ (Below.refl w.heap.size w).grown hg (Nat.le_refl _) (fun k hk => by cases hk)
  have hsz : g < w1.heap.size := (hown0.lt g rfl).2
  have HG := Lib.hid hgd
  clear hown hg hgd
  go_loopw [4] (fun i wr => ∃ k : Nat, k ≤ n ∧ i = .int .i64 k ∧ wr.ownsRow g 3 1 (.slice (some ⟨g, 0, none⟩) n n) n ((vals xs n k).map (Value.int .i64)) ∧ Below g w wr) (fun i _ => n - (intOf i).toNat)
  case atStart => exact ⟨0, Nat.zero_le _, rfl, hown0, hb0⟩
  case round =>
    clear hown0 hb0 hsz
    obtain ⟨k, hk, rfl, hown, hb⟩ := hrel
    by_cases hlt : k < n
    · obtain ⟨b, off, rfl, hbl, hcell⟩ := HC.out (by omega)
      have hcx : wr.cell? ⟨b, off + k, none⟩ = some (.int .i64 (xs.getD k 0)) := (hb.cell (p := ⟨b, off + k, none⟩) (by rw [HG.out]; exact hbl)).trans (hcell k hlt)
      have hgx : wr.cell? ⟨g, k, none⟩ = some (.int .i64 ((vals xs n k).getD k 0)) := by
        rw [hown.cellAt k (by omega)]
        have hl : k < (vals xs n k).length := by simpa using (show k < ((vals xs n k).map (Value.int .i64)).length by rw [hown.1]; omega)
        simp [List.getD_eq_getElem?_getD, hl]
      have hfr := hown.frozenAt k
      have hst := (hown.stored k (.int .i64 (xs.getD k 0))).1
      rw [vals_map_set xs n k HL.out hlt] at hst
      have HS := Lib.hid hst
      have HB := Lib.hid hb
      clear hst hcell hown hb
      go_wp2
      go_roundw
      case rel => exact ⟨k + 1, by omega, by go_num, HS.out, HB.out.setCell (Nat.le_refl _) _⟩
      case measure => simp [intOf]; omega
    · go_wp2
      go_ret
      obtain rfl : k = n := by omega
      rw [vals_all xs k HL.out] at hown
      exact ⟨g, rfl, Nat.le_of_eq HG.out.symm, (hown.lt g rfl).2, HG.out ▸ OwnI.of_own hown, HG.out ▸ hb⟩

/-- The numbers from k on. -/
def upFrom (k : Int) (n : Nat) : List Int := (List.range n).map (fun j => k + (j : Nat))
theorem upFrom_get (k : Int) (n j : Nat) (hj : j < n) : (upFrom k n).getD j 0 = k + (j : Nat) := by simp [upFrom, List.getD_eq_getElem?_getD, hj]
theorem upFrom_len (k : Int) (n : Nat) : (upFrom k n).length = n := by simp [upFrom]

theorem grown_set (W : World) (b i : Nat) (v : Value) : W.grownBy (W.setCell ⟨b, i, none⟩ v) (some b) :=
  ⟨rfl, rfl, rfl, by rw [World.size_setCell]; exact Nat.le_refl _, fun k _ hk => Below.heap_setCell _ _ _ k (fun e => hk (by rw [e]))⟩
theorem grown_step {a b c : World} {row : Option Nat} (h : a.grownBy b row) (k : b.grownBy c row) : a.grownBy c row :=
  ⟨k.os.trans h.os, k.tape.trans h.tape, k.output.trans h.output, Nat.le_trans h.size k.size, fun i hi hne => (k.block i (Nat.lt_of_lt_of_le hi h.size) hne).trans (h.block i hi hne)⟩
theorem grown_refl (W : World) (row : Option Nat) : W.grownBy W row := ⟨rfl, rfl, rfl, Nat.le_refl _, fun _ _ _ => rfl⟩
theorem OwnI.set {B n i g : Nat} {w : World} {xs : List Int} (h : OwnI B w (some ⟨g, 0, none⟩) n xs) (hi : i < n) (v : Int) : OwnI B (w.setCell ⟨g, i, none⟩ (.int .i64 v)) (some ⟨g, 0, none⟩) n (xs.set i v) := by
  refine ⟨by rw [List.length_set]; exact h.1, fun hn => ?_⟩
  obtain ⟨g', e, hB, hl, hc⟩ := h.2 hn
  cases e
  refine ⟨g, rfl, hB, by rw [World.size_setCell]; exact hl, fun j hj => ⟨?_, by rw [World.frozen?_setCell]; exact (hc j hj).2⟩⟩
  by_cases hij : j = i
  · subst hij
    rw [World.cell?_setCell_same' _ _ _ (by rw [(hc j hj).1]; rfl)]
    have := h.1
    simp [List.getD_eq_getElem?_getD, show j < xs.length by omega]
  · rw [World.cell?_setCell_other _ _ _ _ (fun e => hij (by injection e with _ e2; exact e2.symm))]
    rw [(hc j hj).1]
    simp [List.getD_eq_getElem?_getD, Ne.symm hij]
/-- Marked up to i. -/
def part (k : Int) (xs : List Int) (i : Nat) : List Int := upFrom k i ++ xs.drop i
theorem part_zero (k : Int) (xs : List Int) : part k xs 0 = xs := by simp [part, upFrom]
theorem part_all (k : Int) (xs : List Int) (n : Nat) (h : xs.length = n) : part k xs n = upFrom k n := by simp [part, ← h]
theorem part_set (k : Int) (xs : List Int) (i : Nat) (h : i < xs.length) : (part k xs i).set i (k + (i : Nat)) = part k xs (i + 1) := by
  have e1 : (upFrom k i).length = i := upFrom_len k i
  unfold part
  rw [List.set_append_right _ _ (by omega), e1, Nat.sub_self, List.drop_eq_getElem_cons h, List.set_cons_zero]
  unfold upFrom
  rw [List.range_succ, List.map_append]
  simp

def Marked (W : World) (B : Nat) (A : Option Addr) (n : Nat) (k : Int) (g : Nat) (e : Ending) (W' : World) : Prop :=
  e = .returned (.int .i64 (k + (n : Nat))) ∧ OwnI B W' A n (upFrom k n) ∧ W.grownBy W' (some g)
theorem markIntS_own (A : Option Addr) (n p B g : Nat) (xs : List Int) (k : Int) (W : World) (hr : OwnI B W A n xs) (hA : 0 < n → A = some ⟨g, 0, none⟩) (hn : n ≤ 1048576) (hk : 0 ≤ k) (hk2 : k ≤ 2000000) :
    Calls Try.prog 25 #[.slice A n p, .int .i64 k] W (Marked W B A n k g) := by
  have hn1 : (n : Int) ≤ 1048576 := by omega
  have HL := Lib.hid hr.1
  have HA := Lib.hid hA
  have h0 := hr
  clear hr hA
  go_enter Try.func25, Try.ntmps25
  go_wp2
  go_loopw [1, 5] (fun q x wr => ∃ i : Nat, i ≤ n ∧ x = .int .i64 i ∧ q = .int .i64 (k + (i : Nat)) ∧ OwnI B wr A n (part k xs i) ∧ W.grownBy wr (some g)) (fun _ x _ => n - (intOf x).toNat)
  case atStart => exact ⟨0, Nat.zero_le _, rfl, by simp, by rw [part_zero]; exact h0, grown_refl _ _⟩
  case round =>
    clear h0
    obtain ⟨i, hi, rfl, rfl, ho, hg⟩ := hrel
    by_cases hlt : i < n
    · have hAg := HA.out (by omega)
      subst hAg
      have hc : wr.cell? ⟨g, i, none⟩ = some (.int .i64 ((part k xs i).getD i 0)) ∧ wr.frozen? ⟨g, i, none⟩ = false := by
        obtain ⟨g', e, _, _, hcc⟩ := ho.2 (by omega)
        cases e
        exact hcc i hlt
      obtain ⟨hc1, hf1⟩ := hc
      have hi2 : (i : Int) < (n : Int) := by omega
      have HO := Lib.hid (ho.set hlt (k + (i : Nat)))
      have HG := Lib.hid (grown_step hg (grown_set wr g i (.int .i64 (k + (i : Nat)))))
      clear ho hg
      go_wp2
      go_roundw
      case rel => exact ⟨i + 1, by omega, by go_num, by go_num, by rw [← part_set k xs i (by have := HL.out; omega)]; exact HO.out, HG.out⟩
      case measure => simp [intOf]; omega
    · obtain rfl : i = n := by omega
      rw [part_all k xs i HL.out] at ho
      have HO := Lib.hid ho
      have HG := Lib.hid hg
      clear ho hg
      go_wp2
      go_ret
      exact ⟨rfl, HO.out, HG.out⟩

theorem heldIntS_own (A : Option Addr) (n p B : Nat) (k : Int) (W : World) (hr : OwnI B W A n (upFrom k n)) (hn : n ≤ 1048576) (hk : 0 ≤ k) (hk2 : k ≤ 2000000) :
    Calls Try.prog 26 #[.slice A n p, .int .i64 k] W fun e W' => e = .returned (.int .i64 (k + (n : Nat))) ∧ Below W.heap.size W W' := by
  have hn1 : (n : Int) ≤ 1048576 := by omega
  have HO := Lib.hid hr
  clear hr
  go_enter Try.func26, Try.ntmps26
  go_wp2
  go_loopw [1, 5] (fun q x wr => ∃ i : Nat, i ≤ n ∧ x = .int .i64 i ∧ q = .int .i64 (k + (i : Nat)) ∧ ∃ m, wr = W.drewN m) (fun _ x _ => n - (intOf x).toNat)
  case atStart => exact ⟨0, Nat.zero_le _, rfl, by simp, 0, rfl⟩
  case round =>
    obtain ⟨i, hi, rfl, rfl, m, rfl⟩ := hrel
    by_cases hlt : i < n
    · obtain ⟨g, rfl, _, _, hcc⟩ := HO.out.2 (by omega)
      have hc1 := (hcc i hlt).1
      rw [upFrom_get k n i hlt] at hc1
      have hi2 : (i : Int) < (n : Int) := by omega
      clear hcc
      go_wp2
      try (go_quiet (fail); go_wp2)
      go_round
      case rel => exact ⟨i + 1, by omega, by go_num, by go_num, _, rfl⟩
      case measure => simp [intOf]; omega
    · obtain rfl : i = n := by omega
      go_wp2
      go_ret
      exact ⟨rfl, below_drewN (Below.refl _ _) _⟩

end Qt
end Go.Proofs.Ytihnpfcjnfkfjaa

namespace Go.Proofs.Ytihnpfcjnfkfjaa
open Go.RowKit Go.Sort
set_option linter.unusedSimpArgs false
set_option linter.unusedVariables false
namespace Qt
structure Tsk where
  (ti ta td tb : Int)
  (xs : List Int)
structure TskP where
  (A : Option Addr) (n p : Nat)
def tskC (s : Tsk) (P : TskP) : List Value := [.int .i64 s.ti, .slice P.A P.n P.p, .int .i64 s.ta, .int .i64 s.td, .int .i64 s.tb]
def RdTskY (w : World) (s : Tsk) (P : TskP) : Prop := RdI w P.A P.n s.xs
def TskAt (w : World) (b off : Nat) (s : Tsk) (P : TskP) : Prop := (∀ i v, (tskC s P)[i]? = some v → w.cell? ⟨b, off + i, none⟩ = some v) ∧ RdTskY w s P
/-- The slice at A of n elements reads as ss. -/
def RdTsk (w : World) (A : Option Addr) (n : Nat) (ss : List Tsk) : Prop :=
  ss.length = n ∧ (0 < n → ∃ b off, A = some ⟨b, off, none⟩ ∧ b < w.heap.size ∧ ∀ j s, ss[j]? = some s → ∃ P, TskAt w b (off + j * 5) s P)
def bigTsk : List Tsk → Nat
  | [] => 0
  | s :: r => s.xs.length + bigTsk r
theorem bigTsk_append (a b : List Tsk) : bigTsk (a ++ b) = bigTsk a + bigTsk b := by
  induction a with
  | nil => simp [bigTsk]
  | cons l r ih => simp [bigTsk, ih]; try omega
theorem bigTsk_at {ss : List Tsk} {j : Nat} {s : Tsk} (h : ss[j]? = some s) : s.xs.length ≤ bigTsk ss := by
  induction ss generalizing j with
  | nil => simp at h
  | cons a r ih =>
    cases j with
    | zero => simp at h; subst h; simp [bigTsk]
    | succ j => simp at h; have := ih h; simp [bigTsk]; try omega
theorem bigTsk_take {ss : List Tsk} {j : Nat} {s : Tsk} (h : ss[j]? = some s) : bigTsk (ss.take (j + 1)) = bigTsk (ss.take j) + s.xs.length := by
  rw [List.take_add_one, h, bigTsk_append]
  simp [bigTsk]
theorem bigTsk_take_le (ss : List Tsk) (j : Nat) : bigTsk (ss.take j) ≤ bigTsk ss := by
  conv => rhs; rw [← List.take_append_drop j ss, bigTsk_append]
  omega
section
variable {w w' : World} {b off : Nat} {s : Tsk} {P : TskP} {A : Option Addr} {n : Nat} {ss : List Tsk}
theorem RdTskY.of_below (h : RdTskY w s P) (hb : Below w.heap.size w w') : RdTskY w' s P := RdI.of_below h hb
theorem TskAt.of_below (h : TskAt w b off s P) (hlt : b < w.heap.size) (hb : Below w.heap.size w w') : TskAt w' b off s P :=
  ⟨fun i v hv => (hb.cell (p := ⟨b, off + i, none⟩) hlt).trans (h.1 i v hv), h.2.of_below hb⟩
theorem RdTsk.of_below (h : RdTsk w A n ss) (hb : Below w.heap.size w w') : RdTsk w' A n ss :=
  ⟨h.1, fun hn => by
    obtain ⟨b, off, e, hlt, hc⟩ := h.2 hn
    exact ⟨b, off, e, Nat.lt_of_lt_of_le hlt hb.size, fun j l hj => by
      obtain ⟨P, hP⟩ := hc j l hj
      exact ⟨P, hP.of_below hlt hb⟩⟩⟩
theorem RdTsk.nil (w : World) (A : Option Addr) : RdTsk w A 0 [] := ⟨rfl, fun h => absurd h (by omega)⟩
theorem TskAt.cells {ti1 ta1 td1 tb1 : Int} {xs : List Int} {A : Option Addr} {n p : Nat} (h : TskAt w b off ⟨ti1, ta1, td1, tb1, xs⟩ ⟨A, n, p⟩) : w.cell? ⟨b, off, none⟩ = some (.int .i64 ti1) ∧ w.cell? ⟨b, off + 1, none⟩ = some (.slice A n p) ∧ w.cell? ⟨b, off + 2, none⟩ = some (.int .i64 ta1) ∧ w.cell? ⟨b, off + 3, none⟩ = some (.int .i64 td1) ∧ w.cell? ⟨b, off + 4, none⟩ = some (.int .i64 tb1) :=
  ⟨h.1 0 _ rfl, h.1 1 _ rfl, h.1 2 _ rfl, h.1 3 _ rfl, h.1 4 _ rfl⟩
theorem TskAt.rds {ti1 ta1 td1 tb1 : Int} {xs : List Int} {A : Option Addr} {n p : Nat} (h : TskAt w b off ⟨ti1, ta1, td1, tb1, xs⟩ ⟨A, n, p⟩) : RdI w A n xs := h.2
theorem TskAt.lens {ti1 ta1 td1 tb1 : Int} {xs : List Int} {A : Option Addr} {n p : Nat} (h : TskAt w b off ⟨ti1, ta1, td1, tb1, xs⟩ ⟨A, n, p⟩) : xs.length = n := h.2.1
theorem bigTsk_at1 {ti1 ta1 td1 tb1 : Int} {xs : List Int} {j : Nat} (h : ss[j]? = some ⟨ti1, ta1, td1, tb1, xs⟩) : xs.length ≤ bigTsk ss := bigTsk_at h
/-- The element at place j, with its numbers by their names. -/
theorem RdTsk.at (h : RdTsk w A n ss) {j : Nat} (hj : j < n) : ∃ b off ti1 ta1 td1 tb1 A' n' p' xs, A = some ⟨b, off, none⟩ ∧ b < w.heap.size ∧ ss[j]? = some ⟨ti1, ta1, td1, tb1, xs⟩ ∧ TskAt w b (off + j * 5) ⟨ti1, ta1, td1, tb1, xs⟩ ⟨A', n', p'⟩ := by
  obtain ⟨b, off, e, hlt, hc⟩ := h.2 (by omega)
  have hl : ss[j]? = some (ss[j]'(by rw [h.1]; exact hj)) := List.getElem?_eq_getElem _
  obtain ⟨P, hP⟩ := hc j _ hl
  exact ⟨b, off, _, _, _, _, P.A, P.n, P.p, _, e, hlt, hl, hP⟩
end
end Qt
end Go.Proofs.Ytihnpfcjnfkfjaa
