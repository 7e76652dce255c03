/- Plain facts on whole numbers that are cut, rounded and counted: what chapter 1's functions give, as functions on Int. No conditions. -/
import Derived.Test.YtbmchpoffceehaaProg
import Derived.WalkKit
import Derived.ProofKit
import Derived.BigQuiet
import Derived.Deep.QuietTactic
import Derived.Below
import Derived.Lib.Hide
import Derived.Outline
import Derived.Handy
import Derived.WalkSmall
import Derived.StillTailTactics
import Derived.Laws.Rows
import Derived.Laws.OwnMore
import Derived.Lib.QuietBelow
import Derived.OpenShut
import Derived.Lib.SmallJoins
import Derived.Deep.RegionHeld3
namespace Go.Proofs.Ytbmchpoffceehaa.Qt

def clamp (x lo hi : Int) : Int := if hi < lo then lo else if x < lo then lo else if hi < x then hi else x
theorem clamp_over {x lo hi : Int} (h : hi < lo) : clamp x lo hi = lo := by unfold clamp; rw [if_pos h]
theorem clamp_lo {x lo hi : Int} (h : ¬ hi < lo) (h2 : x < lo) : clamp x lo hi = lo := by unfold clamp; rw [if_neg h, if_pos h2]
theorem clamp_hi {x lo hi : Int} (h : ¬ hi < lo) (h2 : ¬ x < lo) (h3 : hi < x) : clamp x lo hi = hi := by unfold clamp; rw [if_neg h, if_neg h2, if_pos h3]
theorem clamp_in {x lo hi : Int} (h : ¬ hi < lo) (h2 : ¬ x < lo) (h3 : ¬ hi < x) : clamp x lo hi = x := by unfold clamp; rw [if_neg h, if_neg h2, if_neg h3]
theorem clamp_bd (x lo hi : Int) (h : lo ≤ hi) : lo ≤ clamp x lo hi ∧ clamp x lo hi ≤ hi := by unfold clamp; split <;> (try split) <;> (try split) <;> omega
theorem clamp_id {x lo hi : Int} (h1 : lo ≤ x) (h2 : x ≤ hi) : clamp x lo hi = x := clamp_in (by omega) (by omega) (by omega)

def sat8 (x : Int) : Int := clamp x (-128) 127
def sat32 (x : Int) : Int := clamp x (-2147483648) 2147483647
theorem sat8_bd (x : Int) : -128 ≤ sat8 x ∧ sat8 x ≤ 127 := clamp_bd _ _ _ (by omega)
theorem sat32_bd (x : Int) : -2147483648 ≤ sat32 x ∧ sat32 x ≤ 2147483647 := clamp_bd _ _ _ (by omega)
theorem sat32_id {x : Int} (h : -2147483648 ≤ x ∧ x ≤ 2147483647) : sat32 x = x := clamp_id h.1 h.2
theorem sat8_id {x : Int} (h : -128 ≤ x ∧ x ≤ 127) : sat8 x = x := clamp_id h.1 h.2
theorem sat32_sat32 (x : Int) : sat32 (sat32 x) = sat32 x := sat32_id (sat32_bd x)

def addSat (a b : Int) : Int := sat32 (sat32 a + sat32 b)
theorem addSat_bd (a b : Int) : -2147483648 ≤ addSat a b ∧ addSat a b ≤ 2147483647 := sat32_bd _
/-- The nearest whole number to x divided by d: of two that are as near the greater (away = false) or the one that is further from 0. -/
def near (x d : Int) (away : Bool) : Int := if d < 2 * (x % d) ∨ (d = 2 * (x % d) ∧ (away = false ∨ 0 < x)) then x / d + 1 else x / d

theorem div_of {d k s y : Int} (hd : 0 < d) (h : y = k * d + s) (h0 : 0 ≤ s) (h1 : s < d) : y / d = k := by
  have := (Int.ediv_emod_unique (a := y) (b := d) (r := s) (q := k) hd).mpr ⟨by rw [h, Int.mul_comm d k]; omega, h0, h1⟩
  exact this.1
theorem mod_of {d k s y : Int} (hd : 0 < d) (h : y = k * d + s) (h0 : 0 ≤ s) (h1 : s < d) : y % d = s := by
  have := (Int.ediv_emod_unique (a := y) (b := d) (r := s) (q := k) hd).mpr ⟨by rw [h, Int.mul_comm d k]; omega, h0, h1⟩
  exact this.2
/-- The facts on a truncated division below 0. -/
theorem tdiv_facts {x d : Int} (hd : 0 < d) (hx : x < 0) : -d < x.tmod d ∧ x.tmod d ≤ 0 ∧ x.tdiv d * d + x.tmod d = x := by
  have h1 := Int.tmod_add_mul_tdiv x d
  have h2 : (-x).tmod d = -(x.tmod d) := Int.neg_tmod _ _
  have h3 : 0 ≤ (-x).tmod d := Int.tmod_nonneg _ (by omega)
  have h4 : (-x).tmod d < d := Int.tmod_lt_of_pos _ hd
  rw [Int.mul_comm] at h1
  omega
theorem ediv_facts {x d : Int} (hd : 0 < d) : 0 ≤ x % d ∧ x % d < d ∧ x / d * d + x % d = x := by
  have h1 := Int.emod_add_mul_ediv x d
  rw [Int.mul_comm] at h1
  exact ⟨Int.emod_nonneg _ (by omega), Int.emod_lt_of_pos _ hd, by omega⟩
theorem tneg_exact {x d : Int} (hd : 0 < d) (hx : x < 0) (h : ¬ x.tmod d < 0) : x.tdiv d = x / d ∧ x.tmod d = x % d := by
  obtain ⟨a, b, c⟩ := tdiv_facts hd hx
  exact ⟨(div_of hd c.symm (by omega) (by omega)).symm, (mod_of hd c.symm (by omega) (by omega)).symm⟩
theorem tneg_rest {x d : Int} (hd : 0 < d) (hx : x < 0) (h : x.tmod d < 0) : x.tdiv d - 1 = x / d ∧ x.tmod d + d = x % d := by
  obtain ⟨a, b, c⟩ := tdiv_facts hd hx
  have e : x = (x.tdiv d - 1) * d + (x.tmod d + d) := by rw [Int.sub_mul]; omega
  exact ⟨(div_of hd e (by omega) (by omega)).symm, (mod_of hd e (by omega) (by omega)).symm⟩

theorem ediv_bd {x d B : Int} (hd : 0 < d) (h1 : -B ≤ x) (h2 : x ≤ B) (hB : 0 ≤ B) : -B ≤ x / d ∧ x / d ≤ B := by
  have hk : B * 1 ≤ B * d := Int.mul_le_mul_of_nonneg_left (by omega) hB
  have hn : -B * d = -(B * d) := Int.neg_mul _ _
  refine ⟨(Int.le_ediv_iff_mul_le hd).mpr (by omega), Int.ediv_le_of_le_mul hd (by omega)⟩
theorem near_over {x d : Int} {t : Bool} (h : d < 2 * (x % d)) : near x d t = x / d + 1 := by unfold near; rw [if_pos (Or.inl h)]
theorem near_under {x d : Int} {t : Bool} (h : 2 * (x % d) < d) : near x d t = x / d := by unfold near; rw [if_neg (by omega)]
theorem near_tie_up {x d : Int} (h : d = 2 * (x % d)) : near x d false = x / d + 1 := by unfold near; rw [if_pos (Or.inr ⟨h, Or.inl rfl⟩)]
theorem near_tie_pos {x d : Int} {t : Bool} (h : d = 2 * (x % d)) (hx : 0 < x) : near x d t = x / d + 1 := by unfold near; rw [if_pos (Or.inr ⟨h, Or.inr hx⟩)]
theorem near_tie_neg {x d : Int} (h : d = 2 * (x % d)) (hx : ¬ 0 < x) : near x d true = x / d := by unfold near; rw [if_neg (by rintro (h2 | ⟨_, h2 | h2⟩) <;> first | omega | (simp at h2))]

def mulHigh (a b : Int) : Int := sat32 (near (sat32 a * sat32 b) 2147483648 false)
theorem mulHigh_bd (a b : Int) : -2147483648 ≤ mulHigh a b ∧ mulHigh a b ≤ 2147483647 := sat32_bd _
theorem near_up (x : Int) : near x 2147483648 false = (x + 1073741824) / 2147483648 := by
  unfold near; simp only [true_or, and_true]; split <;> omega

theorem mul_bd {a b : Int} (ha : -2147483648 ≤ a ∧ a ≤ 2147483647) (hb : -2147483648 ≤ b ∧ b ≤ 2147483647) : -4611686018427387904 ≤ a * b ∧ a * b ≤ 4611686018427387904 := by
  have h1 : (a.natAbs : Int) * b.natAbs = (a * b).natAbs := by rw [Int.natAbs_mul]; exact (Int.natCast_mul _ _).symm
  have h2 : a.natAbs * b.natAbs ≤ 2147483648 * 2147483648 := Nat.mul_le_mul (by omega) (by omega)
  rw [Int.natAbs_mul] at h1
  have h3 : (a * b).natAbs ≤ 2147483648 * 2147483648 := by rw [Int.natAbs_mul]; exact h2
  omega

/-- RoundShift's rounding, as the document's two sides have it. -/
theorem near_away_pos {x d : Int} (hd : 0 < d) (hx : 0 ≤ x) : near x d true = (x + d / 2) / d := by
  obtain ⟨a, b, c⟩ := ediv_facts (x := x) hd
  have ee : (x / d + 1) * d = x / d * d + d := by rw [Int.add_mul]; omega
  unfold near
  split
  · rename_i h
    exact (div_of hd (s := x % d + d / 2 - d) (by rw [ee]; omega) (by omega) (by omega)).symm
  · rename_i h
    have : 2 * (x % d) < d := by
      by_cases e : d = 2 * (x % d)
      · exfalso; apply h; right; refine ⟨e, Or.inr ?_⟩
        by_cases hz : x = 0
        · subst hz; simp at e; omega
        · omega
      · omega
    exact (div_of hd (s := x % d + d / 2) (by omega) (by omega) (by omega)).symm
theorem near_away_neg {x d : Int} (hd : 0 < d) (hx : x < 0) : near x d true = -((-x + d / 2) / d) := by
  obtain ⟨a, b, c⟩ := ediv_facts (x := x) hd
  have ee : (-(x / d) - 1) * d = -(x / d * d) - d := by rw [Int.sub_mul, Int.neg_mul]; omega
  have e2 : (-(x / d)) * d = -(x / d * d) := by rw [Int.neg_mul]
  unfold near
  split
  · rename_i h
    have : d < 2 * (x % d) := by rcases h with h | ⟨_, h | h⟩ <;> first | exact h | (simp at h) | omega
    rw [div_of (y := -x + d / 2) (k := -(x / d) - 1) hd (s := d - x % d + d / 2) (by rw [ee]; omega) (by omega) (by omega)]; omega
  · rename_i h
    have : 2 * (x % d) ≤ d := by omega
    rw [div_of (y := -x + d / 2) (k := -(x / d)) hd (s := d / 2 - x % d) (by rw [e2]; omega) (by omega) (by omega)]; omega

def pow2 (n : Int) : Int := 2 ^ (clamp n 0 31).toNat
def roundShift (x n : Int) : Int := near (sat32 x) (pow2 n) true
theorem pow2_bd (n : Int) : 1 ≤ pow2 n ∧ pow2 n ≤ 2147483648 := by
  have h := clamp_bd n 0 31 (by omega)
  unfold pow2
  have h1 : (clamp n 0 31).toNat ≤ 31 := by omega
  have h2 : (2 : Nat) ^ (clamp n 0 31).toNat ≤ 2 ^ 31 := Nat.pow_le_pow_right (by omega) h1
  have h3 : 0 < (2 : Nat) ^ (clamp n 0 31).toNat := Nat.pow_pos (by omega)
  have h4 : (2 : Int) ^ (clamp n 0 31).toNat = ((2 ^ (clamp n 0 31).toNat : Nat) : Int) := by simp
  rw [h4]; omega
theorem near_bd {x d B : Int} (hd : 0 < d) (h1 : -B ≤ x) (h2 : x ≤ B) : -B ≤ near x d true ∧ near x d true ≤ B := by
  obtain ⟨a, b, c⟩ := ediv_facts (x := x) hd
  by_cases h0 : d = 1
  · subst h0; simp only [near, Int.emod_one, Int.ediv_one]; simp; omega
  have key : ∀ y : Int, 0 ≤ y → y ≤ B → 0 ≤ (y + d / 2) / d ∧ (y + d / 2) / d ≤ B := by
    intro y hy hyB
    refine ⟨Int.ediv_nonneg (by omega) (by omega), ?_⟩
    by_cases hz : y = 0
    · subst hz; rw [Int.ediv_eq_zero_of_lt (by omega) (by omega)]; omega
    have : (y + d / 2) / d ≤ y := by
      apply Int.ediv_le_of_le_mul (by omega)
      have h3 : 1 * (d - 1) ≤ y * (d - 1) := Int.mul_le_mul_of_nonneg_right (by omega) (by omega)
      have h4 : y * (d - 1) = y * d - y := by rw [Int.mul_sub]; omega
      have h5 : 0 ≤ y * d := Int.mul_nonneg hy (by omega)
      omega
    omega
  by_cases hx : 0 ≤ x
  · rw [near_away_pos hd hx]; have := key x hx h2; omega
  · rw [near_away_neg hd (by omega)]; have := key (-x) (by omega) (by omega); omega
theorem near_lo {x d : Int} (hd : 0 < d) (h1 : -2147483648 ≤ x ∧ x ≤ 2147483647) : -2147483648 ≤ near x d true ∧ near x d true ≤ 2147483647 := by
  by_cases hx : 0 ≤ x
  · have := near_bd (B := 2147483647) hd (by omega) h1.2; omega
  · have := near_bd (B := 2147483648) hd h1.1 (by omega)
    rw [near_away_neg hd (by omega)] at *
    have : 0 ≤ (-x + d / 2) / d := Int.ediv_nonneg (by omega) (by omega)
    omega
theorem roundShift_bd (x n : Int) : -2147483648 ≤ roundShift x n ∧ roundShift x n ≤ 2147483647 := near_lo (by have := pow2_bd n; omega) (sat32_bd x)

def requant (acc mult shift zero : Int) : Int := sat8 (roundShift (mulHigh acc mult) shift + sat8 zero)
theorem requant_bd (a b c d : Int) : -128 ≤ requant a b c d ∧ requant a b c d ≤ 127 := sat8_bd _
theorem sat8_sat32 (x : Int) : sat8 (sat32 x) = sat8 x := by
  unfold sat8 sat32 clamp; split <;> (try split) <;> (try split) <;> (try split) <;> (try split) <;> (try split) <;> (try split) <;> (try split) <;> omega

def dotStep (s : Int) (p : Int × Int) : Int := addSat s (sat8 p.1 * sat8 p.2)
def dot (a b : List Int) : Int := (a.zip b).foldl dotStep 0
theorem dotStep_bd (s : Int) (p : Int × Int) : -2147483648 ≤ dotStep s p ∧ dotStep s p ≤ 2147483647 := addSat_bd _ _
theorem fold_bd (l : List (Int × Int)) (s : Int) (h : -2147483648 ≤ s ∧ s ≤ 2147483647) : -2147483648 ≤ l.foldl dotStep s ∧ l.foldl dotStep s ≤ 2147483647 := by
  induction l generalizing s with
  | nil => exact h
  | cons p r ih => exact ih _ (dotStep_bd s p)
theorem dot_bd (a b : List Int) : -2147483648 ≤ dot a b ∧ dot a b ≤ 2147483647 := fold_bd _ _ (by omega)
theorem dot_comm (a b : List Int) : dot a b = dot b a := by
  unfold dot
  have : ∀ (a b : List Int) (s : Int), (a.zip b).foldl dotStep s = (b.zip a).foldl dotStep s := by
    intro a
    induction a with
    | nil => intro b s; cases b <;> rfl
    | cons x r ih =>
      intro b s
      cases b with
      | nil => rfl
      | cons y t => simp only [List.zip_cons_cons, List.foldl_cons]; rw [show dotStep s (x, y) = dotStep s (y, x) by simp only [dotStep, Int.mul_comm]]; exact ih t _
  exact this a b 0
theorem sat8_mul_bd (a b : Int) : -16256 ≤ sat8 a * sat8 b ∧ sat8 a * sat8 b ≤ 16384 := by
  have ha := sat8_bd a
  have hb := sat8_bd b
  have h1 : (sat8 a).natAbs * (sat8 b).natAbs ≤ 128 * 128 := Nat.mul_le_mul (by omega) (by omega)
  rw [← Int.natAbs_mul] at h1
  refine ⟨?_, by omega⟩
  by_cases hp : 0 ≤ sat8 a
  · have : sat8 a * (-128) ≤ sat8 a * sat8 b := Int.mul_le_mul_of_nonneg_left (by omega) hp
    omega
  · by_cases hq : 0 ≤ sat8 b
    · have : (-128) * sat8 b ≤ sat8 a * sat8 b := Int.mul_le_mul_of_nonneg_right (by omega) hq
      omega
    · have : 0 ≤ sat8 a * sat8 b := Int.mul_nonneg_of_nonpos_of_nonpos (by omega) (by omega)
      omega
theorem dot_take (a b : List Int) (k : Nat) (h1 : k < a.length) (h2 : k < b.length) : dot (a.take (k + 1)) (b.take (k + 1)) = addSat (dot (a.take k) (b.take k)) (sat8 (a.getD k 0) * sat8 (b.getD k 0)) := by
  unfold dot
  have e : ((a.take (k + 1)).zip (b.take (k + 1))) = (a.take k).zip (b.take k) ++ [(a.getD k 0, b.getD k 0)] := by
    rw [List.take_succ_eq_append_getElem h1, List.take_succ_eq_append_getElem h2, List.zip_append (by simp; omega)]
    simp [List.getD_eq_getElem?_getD, h1, h2]
  rw [e, List.foldl_append]; rfl

/-- How many noughts ahead: from z, one less for each digit of x. -/
def noughts (z x : Int) : Int := if 0 < x then noughts (z - 1) (x / 10) else z
termination_by x.toNat
decreasing_by omega
theorem noughts_step {z x : Int} (h : 0 < x) : noughts z x = noughts (z - 1) (x / 10) := by rw [noughts, if_pos h]
theorem noughts_end {z x : Int} (h : ¬ 0 < x) : noughts z x = z := by rw [noughts, if_neg h]

def multFloor (m s : Int) : Int := clamp m 0 2147483647 * 1000000000 / 2147483648 / 2 ^ (clamp s 0 31).toNat
theorem multFloor_bd (m s : Int) : 0 ≤ multFloor m s ∧ multFloor m s ≤ 1000000000 := by
  have h := clamp_bd m 0 2147483647 (by omega)
  unfold multFloor
  have h1 : 0 ≤ clamp m 0 2147483647 * 1000000000 / 2147483648 ∧ clamp m 0 2147483647 * 1000000000 / 2147483648 ≤ 1000000000 := by omega
  have h2 : (0 : Int) < 2 ^ (clamp s 0 31).toNat := Int.pow_pos (by omega)
  have h3 := ediv_bd (B := 1000000000) h2 (by omega) h1.2 (by omega)
  exact ⟨Int.ediv_nonneg h1.1 (by omega), h3.2⟩

def shiftFrom (num den : Int) (n : Nat) : Nat := if n < 31 ∧ num * 2 ^ (n + 1) < den then shiftFrom num den (n + 1) else n
termination_by 31 - n
decreasing_by omega
theorem shiftFrom_more {num den : Int} {n : Nat} (h : n < 31) (h2 : num * 2 ^ (n + 1) < den) : shiftFrom num den n = shiftFrom num den (n + 1) := by rw [shiftFrom, if_pos ⟨h, h2⟩]
theorem shiftFrom_end {num den : Int} {n : Nat} (h : ¬ (n < 31 ∧ num * 2 ^ (n + 1) < den)) : shiftFrom num den n = n := by rw [shiftFrom, if_neg h]
theorem mul_pow_succ (a : Int) (k : Nat) : a * 2 ^ (k + 1) = 2 * (a * 2 ^ k) := by rw [Int.pow_succ, ← Int.mul_assoc, Int.mul_comm]
theorem mul_pow_pos {a : Int} (h : 0 < a) (k : Nat) : 0 < a * 2 ^ k := Int.mul_pos h (Int.pow_pos (by omega))
def multN (num den : Int) : Int := (shiftFrom num den 0 : Nat)
def multM (num den : Int) : Int := num * 2 ^ (shiftFrom num den 0) * 2147483648 / den
def multGood (num den : Int) : Bool := decide (0 < num ∧ num < den ∧ den ≤ 1000000)
end Go.Proofs.Ytbmchpoffceehaa.Qt

namespace Go.Proofs.Ytbmchpoffceehaa
open Go.RowKit
namespace Qt

theorem ret_int {k : IntKind} {a b : Int} (h : a = b) : Ending.returned (.int k a) = .returned (.int k b) := by rw [h]

theorem clampI (x lo hi : Int) (w : World) : Calls Try.prog 112 #[.int .i64 x, .int .i64 lo, .int .i64 hi] w fun e w' => e = .returned (.int .i64 (clamp x lo hi)) ∧ w = w' := by
  by_cases h1 : hi < lo
  · rw [clamp_over h1]
    go_enter Try.func112, Try.ntmps112
    go_wp2
    go_ret
    exact ⟨rfl, rfl⟩
  · by_cases h2 : x < lo
    · rw [clamp_lo h1 h2]
      go_enter Try.func112, Try.ntmps112
      go_wp2
      go_ret
      exact ⟨rfl, rfl⟩
    · by_cases h3 : hi < x
      · rw [clamp_hi h1 h2 h3]
        go_enter Try.func112, Try.ntmps112
        go_wp2
        go_ret
        exact ⟨rfl, rfl⟩
      · rw [clamp_in h1 h2 h3]
        go_enter Try.func112, Try.ntmps112
        go_wp2
        go_ret
        exact ⟨rfl, rfl⟩

theorem smallOfI (x : Int) (w : World) : Calls Try.prog 108 #[.int .i64 x] w fun e w' => e = .returned (.int .i8 (sat8 x)) ∧ w = w' := by
  have hb := clamp_bd x (-128) 127 (by omega)
  go_enter Try.func108, Try.ntmps108
  go_wp2_with (go_at_call 112; refine (clampI x (-128) 127 _).mono ?_; rintro e w' ⟨rfl, rfl⟩)
  go_ret
  exact ⟨rfl, rfl⟩
theorem sat8I (x : Int) (w : World) : Calls Try.prog 107 #[.int .i64 x] w fun e w' => e = .returned (.int .i64 (sat8 x)) ∧ w = w' := by
  have hb := sat8_bd x
  go_enter Try.func107, Try.ntmps107
  go_wp2_with (go_at_call 108; refine (smallOfI _ _).mono ?_; rintro e w' ⟨rfl, rfl⟩)
  go_ret
  exact ⟨rfl, rfl⟩
/-- nearest: x in 64 bits with room, d above 0; the tie is 0 (up) or 1 (away). -/
theorem nearestI (x d : Int) (t : Bool) (u : Int) (hu : u = if t then 1 else 0) (hd : 0 < d) (hd2 : d ≤ 2147483648) (hx : -4611686018427387904 ≤ x ∧ x ≤ 4611686018427387904) (w : World) :
    Calls Try.prog 119 #[.int .i64 x, .int .i64 d, .int .i64 u] w fun e w' => e = .returned (.int .i64 (near x d t)) ∧ ∃ n, w' = w.drewN n := by
  have hq := ediv_bd (B := 4611686018427387904) hd (by omega) hx.2 (by omega)
  by_cases h0 : 0 ≤ x
  · obtain ⟨e1, e2, e3⟩ := ediv_facts (x := x) hd
    have e4 : x / d * d + x % d = x := e3
    clear e3
    by_cases h1 : d - x % d < x % d
    · rw [near_over (by omega)]
      clear e4 hu
      go_enter Try.func119, Try.ntmps119
      go_wp2
      go_quiet (fail)
      go_wp2
      go_ret
      exact ⟨rfl, _, rfl⟩
    · by_cases h2 : x % d = d - x % d
      · have hz : 0 < x := by
          by_cases hz : x = 0
          · exfalso; subst hz; simp at h2; omega
          · omega
        rw [near_tie_pos (by omega) hz]
        clear e4
        have h2b : (x % d == d - x % d) = true := by simpa using h2
        clear h2
        cases t
        all_goals
          simp at hu
          subst hu
          go_enter Try.func119, Try.ntmps119
          go_wp2
          go_quiet (fail)
          go_wp2
          go_ret
          exact ⟨rfl, _, rfl⟩
      · rw [near_under (by omega)]
        clear e4 hu
        have h3 : x % d < d - x % d := by omega
        clear h1 h2
        go_enter Try.func119, Try.ntmps119
        go_wp2
        go_quiet (fail)
        go_wp2
        go_ret
        exact ⟨rfl, _, rfl⟩
  · have h0' : x < 0 := by omega
    obtain ⟨e1, e2, e3⟩ := tdiv_facts (x := x) hd h0'
    clear e3
    by_cases hm : x.tmod d < 0
    · obtain ⟨g1, g2⟩ := tneg_rest hd h0' hm
      by_cases h1 : d - (x.tmod d + d) < x.tmod d + d
      · rw [near_over (by omega), ← g1]
        have hq' : -4611686018427387904 ≤ x.tdiv d - 1 ∧ x.tdiv d - 1 ≤ 4611686018427387904 := by omega
        clear g1 g2 hq hu
        go_enter Try.func119, Try.ntmps119
        go_wp2
        go_quiet (fail)
        go_wp2
        go_ret
        exact ⟨ret_int (by omega), _, rfl⟩
      · by_cases h2 : x.tmod d + d = d - (x.tmod d + d)
        · have hq' : -4611686018427387904 ≤ x.tdiv d - 1 ∧ x.tdiv d - 1 ≤ 4611686018427387904 := by omega
          have h2b : (x.tmod d + d == d - (x.tmod d + d)) = true := by simpa using h2
          cases t
          · rw [near_tie_up (by omega), ← g1]
            simp at hu
            subst hu
            clear g1 g2 hq h2
            go_enter Try.func119, Try.ntmps119
            go_wp2
            go_quiet (fail)
            go_wp2
            go_ret
            exact ⟨ret_int (by omega), _, rfl⟩
          · rw [near_tie_neg (by omega) (by omega), ← g1]
            simp at hu
            subst hu
            clear g1 g2 hq h2
            go_enter Try.func119, Try.ntmps119
            go_wp2
            go_quiet (fail)
            go_wp2
            go_ret
            exact ⟨rfl, _, rfl⟩
        · rw [near_under (by omega), ← g1]
          have hq' : -4611686018427387904 ≤ x.tdiv d - 1 ∧ x.tdiv d - 1 ≤ 4611686018427387904 := by omega
          have h3 : x.tmod d + d < d - (x.tmod d + d) := by omega
          clear g1 g2 hq hu h1 h2
          go_enter Try.func119, Try.ntmps119
          go_wp2
          go_quiet (fail)
          go_wp2
          go_ret
          exact ⟨rfl, _, rfl⟩
    · obtain ⟨g1, g2⟩ := tneg_exact hd h0' hm
      rw [near_under (by omega), ← g1]
      have hq' : -4611686018427387904 ≤ x.tdiv d ∧ x.tdiv d ≤ 4611686018427387904 := by omega
      have h3 : x.tmod d < d - x.tmod d := by omega
      clear g1 g2 hq hu
      go_enter Try.func119, Try.ntmps119
      go_wp2
      go_quiet (fail)
      go_wp2
      go_ret
      exact ⟨rfl, _, rfl⟩
end Qt
end Go.Proofs.Ytbmchpoffceehaa

namespace Go.Proofs.Ytbmchpoffceehaa
open Go.RowKit
namespace Qt

/-- The slice at A of n elements reads as xs. -/
def RdI (w : World) (A : Option Addr) (n : Nat) (xs : List Int) : Prop :=
  xs.length = n ∧ (0 < n → ∃ b off, A = some ⟨b, off, none⟩ ∧ b < w.heap.size ∧ ∀ j, j < n → w.cell? ⟨b, off + j, none⟩ = some (.int .i64 (xs.getD j 0)))
theorem RdI.nil (w : World) (A : Option Addr) : RdI w A 0 [] := ⟨rfl, fun h => absurd h (by omega)⟩
theorem RdI.of_below {w w' : World} {A : Option Addr} {n : Nat} {xs : List Int} (h : RdI w A n xs) (hb : Below w.heap.size w w') : RdI w' A n xs :=
  ⟨h.1, fun hn => by
    obtain ⟨b, off, e, hlt, hc⟩ := h.2 hn
    exact ⟨b, off, e, Nat.lt_of_lt_of_le hlt hb.size, fun j hj => (hb.cell (p := ⟨b, off + j, none⟩) hlt).trans (hc j hj)⟩⟩
theorem RdI.of_drewN {w : World} {A : Option Addr} {n : Nat} {xs : List Int} (h : RdI w A n xs) (m : Nat) : RdI (w.drewN m) A n xs := h
theorem RdI.of_own {w : World} {base c e n : Nat} {A : Option Addr} {xs : List Int} (h : w.ownsRow base e 1 (.slice A n c) n (xs.map (Value.int .i64))) : RdI w A n xs := by
  refine ⟨by simpa using h.1, fun hn => ?_⟩
  rcases h.2 with ⟨_, h0⟩ | ⟨g, cap, cur, hv, _, hg, _⟩
  · omega
  · injection hv with hA _ hc
    subst hA hc
    refine ⟨g, 0, rfl, ?_, fun j hj => ?_⟩
    · rcases Nat.lt_or_ge g w.heap.size with hlt | hge
      · exact hlt
      · rw [Array.getElem?_eq_none hge] at hg; cases hg
    · have := h.cellAt j (by omega)
      have hl : j < xs.length := by have := h.1; simp at this; omega
      rw [Nat.zero_add, this]; simp [List.getD_eq_getElem?_getD, hl]

def vals (xs : List Int) (n k : Nat) : List Int := xs.take k ++ List.replicate (n - k) 0
theorem vals_zero (xs : List Int) (n : Nat) : vals xs n 0 = List.replicate n 0 := by simp [vals]
theorem vals_all (xs : List Int) (n : Nat) (h : xs.length = n) : vals xs n n = xs := by simp [vals, ← h]
theorem vals_set (xs : List Int) (n k : Nat) (h : xs.length = n) (hk : k < n) : (vals xs n k).set k (xs.getD k 0) = vals xs n (k + 1) := by
  have e1 : (xs.take k).length = k := by rw [List.length_take]; omega
  obtain ⟨m, hm⟩ : ∃ m, n - k = m + 1 := ⟨n - k - 1, by omega⟩
  have hm2 : n - (k + 1) = m := by omega
  have hx : xs.getD k 0 = xs[k]'(by omega) := by rw [List.getD_eq_getElem?_getD, List.getElem?_eq_getElem (by omega)]; rfl
  unfold vals
  rw [List.set_append_right _ _ (by omega), e1, Nat.sub_self, hm, hm2, List.replicate_succ, List.set_cons_zero, List.take_succ_eq_append_getElem (by omega), List.append_assoc, hx]
  rfl
theorem vals_map_set (xs : List Int) (n k : Nat) (h : xs.length = n) (hk : k < n) : ((vals xs n k).map (Value.int .i64)).set k (.int .i64 (xs.getD k 0)) = (vals xs n (k + 1)).map (Value.int .i64) := by
  rw [← vals_set xs n k h hk, List.map_set]

theorem RdI.far {w : World} {b n : Nat} {xs : List Int} (h : RdI w (some ⟨b, 0, none⟩) n xs) {p : Addr} (hp : b ≠ p.block) (u : Value) : RdI (w.setCell p u) (some ⟨b, 0, none⟩) n xs :=
  ⟨h.1, fun hn => by
    obtain ⟨b', off, e, hlt, hc⟩ := h.2 hn
    cases e
    exact ⟨b, 0, rfl, by rw [World.size_setCell]; exact hlt, fun j hj => (World.cell?_setCell_other _ _ _ _ (fun e => hp (by subst e; rfl))).trans (hc j hj)⟩⟩

def NewF (w : World) (n : Nat) (xs : List Int) (e : Ending) (w' : World) : Prop := ∃ g, e = .returned (.slice (some ⟨g, 0, none⟩) n n) ∧ w.heap.size ≤ g ∧ g < w'.heap.size ∧ RdI w' (some ⟨g, 0, none⟩) n xs ∧ Below w.heap.size w w'
def NewI (w : World) (n : Nat) (xs : List Int) (e : Ending) (w' : World) : Prop := ∃ g, e = .returned (.slice (some ⟨g, 0, none⟩) n n) ∧ RdI w' (some ⟨g, 0, none⟩) n xs ∧ Below w.heap.size w w'

theorem info3 : (Try.prog.info? 3).map (fun i => (i.zero, i.size, i.bytes)) = some (some (.int .i64 0), 1, 8) := by kernel_rfl
theorem toIntS_fresh (A : Option Addr) (n c : Nat) (xs : List Int) (w : World) (h : RdI w A n xs) (hn : n ≤ 1048576) :
    Calls Try.prog 74 #[.slice A n c] w (NewF w n xs) := by
  obtain ⟨i0, hi, hz0, hz1, hz2⟩ := info_parts info3
  obtain ⟨hl, hc⟩ := h
  have HC := Lib.hid hc
  have HL := Lib.hid hl
  clear hc hl
  go_enter Try.func74, Try.ntmps74
  go_wp2_with (at_make; refine wpList_make_full _ rfl _ _ 27 rfl w.heap.size 3 i0 (.int .i64 0) 1 Try.underlying27 hi hz0 hz1 .i64 .i64 _ _ n rfl rfl rfl rfl (by rw [hz2]; omega) (by unfold maxLen; omega) (Nat.le_refl _) ?_; intro w1 hown hg)
  obtain ⟨g, hgd⟩ : ∃ g, g = w.heap.size := ⟨_, rfl⟩
  rw [← hgd] at hown
  rw [← hgd]
  have hown0 : w1.ownsRow g 3 1 (.slice (some ⟨g, 0, none⟩) n n) n ((vals xs n 0).map (Value.int .i64)) := by
    rw [vals_zero]; simpa [toList_madeCells_one, Value.cells] using hown
  have hb0 : Below g w w1 := hgd ▸ (Below.refl w.heap.size w).grown hg (Nat.le_refl _) (fun k hk => by cases hk)
  have hsz : g < w1.heap.size := (hown0.lt g rfl).2
  have HG := Lib.hid hgd
  clear hown hg hgd
  go_loopw [4] (fun i wr => ∃ k : Nat, k ≤ n ∧ i = .int .i64 k ∧ wr.ownsRow g 3 1 (.slice (some ⟨g, 0, none⟩) n n) n ((vals xs n k).map (Value.int .i64)) ∧ Below g w wr) (fun i _ => n - (intOf i).toNat)
  case atStart => exact ⟨0, Nat.zero_le _, rfl, hown0, hb0⟩
  case round =>
    clear hown0 hb0 hsz
    obtain ⟨k, hk, rfl, hown, hb⟩ := hrel
    by_cases hlt : k < n
    · obtain ⟨b, off, rfl, hbl, hcell⟩ := HC.out (by omega)
      have hcx : wr.cell? ⟨b, off + k, none⟩ = some (.int .i64 (xs.getD k 0)) := (hb.cell (p := ⟨b, off + k, none⟩) (by rw [HG.out]; exact hbl)).trans (hcell k hlt)
      have hgx : wr.cell? ⟨g, k, none⟩ = some (.int .i64 ((vals xs n k).getD k 0)) := by
        rw [hown.cellAt k (by omega)]
        have hl : k < (vals xs n k).length := by simpa using (show k < ((vals xs n k).map (Value.int .i64)).length by rw [hown.1]; omega)
        simp [List.getD_eq_getElem?_getD, hl]
      have hfr := hown.frozenAt k
      have hst := (hown.stored k (.int .i64 (xs.getD k 0))).1
      rw [vals_map_set xs n k HL.out hlt] at hst
      have HS := Lib.hid hst
      have HB := Lib.hid hb
      clear hst hcell hown hb
      go_wp2
      go_roundw
      case rel => exact ⟨k + 1, by omega, by go_num, HS.out, HB.out.setCell (Nat.le_refl _) _⟩
      case measure => simp [intOf]; omega
    · go_wp2
      go_ret
      obtain rfl : k = n := by omega
      rw [vals_all xs k HL.out] at hown
      exact ⟨g, rfl, Nat.le_of_eq HG.out.symm, (hown.lt g rfl).2, RdI.of_own hown, HG.out ▸ hb⟩
theorem toIntS_any (A : Option Addr) (n c : Nat) (xs : List Int) (w : World) (h : RdI w A n xs) (hn : n ≤ 1048576) :
    Calls Try.prog 74 #[.slice A n c] w (NewI w n xs) :=
  (toIntS_fresh A n c xs w h hn).mono fun _ _ ⟨g, he, _, _, hr, hb⟩ => ⟨g, he, hr, hb⟩

/-- eqIntS of two slices that read as one list: true. -/
theorem eqIntS_same (A A2 : Option Addr) (n c c2 : Nat) (xs : List Int) (w : World) (h : RdI w A n xs) (h2 : RdI w A2 n xs) (hn : n ≤ 1048576) :
    Calls Try.prog 18 #[.slice A n c, .slice A2 n c2] w fun e w' => e = .returned (.bool true) ∧ ∃ m, w' = w.drewN m := by
  obtain ⟨hl, hc⟩ := h
  have HC := Lib.hid hc
  have HC2 := Lib.hid h2.2
  clear hc hl h2
  go_enter Try.func18, Try.ntmps18
  go_wp2
  go_loopw [5] (fun i wr => ∃ k : Nat, k ≤ n ∧ i = .int .i64 k ∧ ∃ m, wr = w.drewN m) (fun i _ => n - (intOf i).toNat)
  case atStart => exact ⟨0, Nat.zero_le _, rfl, 0, rfl⟩
  case round =>
    obtain ⟨k, hk, rfl, m, rfl⟩ := hrel
    by_cases hlt : k < n
    · obtain ⟨b, off, rfl, hbl, hcell⟩ := HC.out (by omega)
      obtain ⟨b2, off2, rfl, hbl2, hcell2⟩ := HC2.out (by omega)
      have hc1 := hcell k hlt
      have hc2 := hcell2 k hlt
      clear hcell hcell2
      have hi : (k : Int) < (n : Int) := by omega
      go_wp2
      go_quiet (fail)
      go_wp2
      go_roundw
      case rel => exact ⟨k + 1, by omega, by go_num, _, rfl⟩
      case measure => simp [intOf]; omega
    · go_wp2
      go_ret
      exact ⟨rfl, _, rfl⟩
end Qt
end Go.Proofs.Ytbmchpoffceehaa

namespace Go.Proofs.Ytbmchpoffceehaa
open Go.RowKit
namespace Qt

theorem inS_yes (x lo hi : Int) (h : lo ≤ x) (h2 : x ≤ hi) (w : World) : Calls Try.prog 51 #[.int .i64 x, .int .i64 lo, .int .i64 hi] w fun e w' => e = .returned (.bool true) ∧ w = w' := by
  go_enter Try.func51, Try.ntmps51
  go_wp2
  go_ret
  exact ⟨rfl, rfl⟩
theorem inS_no (x lo hi : Int) (h : ¬ (lo ≤ x ∧ x ≤ hi)) (w : World) : Calls Try.prog 51 #[.int .i64 x, .int .i64 lo, .int .i64 hi] w fun e w' => e = .returned (.bool false) ∧ w = w' := by
  by_cases h1 : lo ≤ x
  · have h2 : decide (x ≤ hi) = false := by simp; omega
    clear h
    go_enter Try.func51, Try.ntmps51
    go_wp2
    go_ret
    exact ⟨rfl, rfl⟩
  · have h2 : x < lo := by omega
    clear h h1
    go_enter Try.func51, Try.ntmps51
    go_wp2
    go_ret
    exact ⟨rfl, rfl⟩
theorem ret_mult {num den : Int} {k : Nat} (h : shiftFrom num den 0 = k) : Ending.returned (.tuple #[.int .i64 (num * 2 ^ k * 2147483648 / den), .int .i64 k, .bool true]) = .returned (.tuple #[.int .i64 (multM num den), .int .i64 (multN num den), .bool true]) := by
  unfold multM multN; rw [h]
end Qt
end Go.Proofs.Ytbmchpoffceehaa

namespace Go.Proofs.Ytbmchpoffceehaa
open Go.RowKit
namespace Qt

def shOk (h w c : Int) : Bool := decide (1 ≤ h ∧ h ≤ 8 ∧ 1 ≤ w ∧ w ≤ 8 ∧ 1 ≤ c ∧ c ≤ 8)
def szOf (h w c : Int) : Int := if shOk h w c then h * w * c else 0
theorem shOk_iff {h w c : Int} : shOk h w c = true ↔ (1 ≤ h ∧ h ≤ 8 ∧ 1 ≤ w ∧ w ≤ 8 ∧ 1 ≤ c ∧ c ≤ 8) := by simp [shOk]
theorem shOk_not {h w c : Int} : shOk h w c = false ↔ ¬ (1 ≤ h ∧ h ≤ 8 ∧ 1 ≤ w ∧ w ≤ 8 ∧ 1 ≤ c ∧ c ≤ 8) := by simp [shOk]
theorem mulPos {a b m n : Int} (h1 : 1 ≤ a) (h2 : a ≤ m) (h3 : 1 ≤ b) (h4 : b ≤ n) : 1 ≤ a * b ∧ a * b ≤ m * n :=
  ⟨by have := Int.mul_le_mul h1 h3 (by omega) (by omega : (0:Int) ≤ a); omega, Int.mul_le_mul h2 h4 (by omega) (by omega)⟩
theorem szOf_yes {h w c : Int} (hs : shOk h w c = true) : szOf h w c = h * w * c ∧ 1 ≤ h * w ∧ h * w ≤ 64 ∧ 1 ≤ h * w * c ∧ h * w * c ≤ 512 := by
  obtain ⟨a1, a2, a3, a4, a5, a6⟩ := shOk_iff.1 hs
  have h1 := mulPos a1 a2 a3 a4
  have h2 := mulPos h1.1 h1.2 a5 a6
  refine ⟨by rw [szOf, if_pos hs], h1.1, by omega, h2.1, by omega⟩
theorem szOf_no {h w c : Int} (hs : shOk h w c = false) : szOf h w c = 0 := by rw [szOf, hs]; rfl
theorem szOf_bd (h w c : Int) : 0 ≤ szOf h w c ∧ szOf h w c ≤ 512 := by
  rcases hs : shOk h w c with _ | _
  · rw [szOf_no hs]; omega
  · have := szOf_yes hs; omega

theorem toShapeL (h w c : Int) (W : World) :
    Calls Try.prog 54 #[.agg #[.int .i64 h, .int .i64 w, .int .i64 c]] W fun e W' => e = .returned (.agg #[.int .i64 h, .int .i64 w, .int .i64 c]) ∧ Below W.heap.size W W' := by
  go_enter Try.func54, Try.ntmps54
  go_wp2
  exact bodyPost_ret (v := .agg #[.int .i64 h, .int .i64 w, .int .i64 c]) (by simp [results, Try.results54, go_sem]) rfl ⟨rfl, (((Below.refl _ W).alloc (Nat.le_refl _) _).alloc (by simp) _).alloc (by simp only [World.size_alloc]; omega) _⟩

theorem sidesOfI (h w c : Int) (W : World) :
    Calls Try.prog 104 #[.agg #[.int .i64 h, .int .i64 w, .int .i64 c]] W fun e W' => e = .returned (.agg #[.int .i64 h, .int .i64 w, .int .i64 c]) ∧ Below W.heap.size W W' := by
  go_enter Try.func104, Try.ntmps104
  go_wp2
  exact bodyPost_ret (v := .agg #[.int .i64 h, .int .i64 w, .int .i64 c]) (by simp [results, Try.results104, go_sem]) rfl ⟨rfl, ((Below.refl _ W).alloc (Nat.le_refl _) _).alloc (by simp) _⟩

theorem shapeOkS (h w c : Int) (b : Bool) (hb : shOk h w c = b) (W : World) :
    Calls Try.prog 82 #[.agg #[.int .i64 h, .int .i64 w, .int .i64 c]] W fun e W' => e = .returned (.bool b) ∧ Below W.heap.size W W' := by
  cases b with
  | true =>
    obtain ⟨a1, a2, a3, a4, a5, a6⟩ := shOk_iff.1 hb
    clear hb
    go_enter Try.func82, Try.ntmps82
    go_wp2_with ((with_reducible refine (inS_yes _ _ _ (by omega) (by omega) _).mono ?_); rintro e w' ⟨rfl, rfl⟩)
    go_ret
    exact ⟨rfl, (Below.refl _ W).alloc (Nat.le_refl _) _⟩
  | false =>
    have hn := shOk_not.1 hb
    clear hb
    by_cases h1 : 1 ≤ h ∧ h ≤ 8
    · by_cases h2 : 1 ≤ w ∧ w ≤ 8
      · have h3 : ¬ (1 ≤ c ∧ c ≤ 8) := fun hc => hn ⟨h1.1, h1.2, h2.1, h2.2, hc.1, hc.2⟩
        clear hn
        obtain ⟨h11, h12⟩ := h1
        obtain ⟨h21, h22⟩ := h2
        have H3 := Lib.hid h3
        clear h3
        go_enter Try.func82, Try.ntmps82
        go_wp2_with (first
          | ((with_reducible refine (inS_no c _ _ H3.out _).mono ?_); rintro e w' ⟨rfl, rfl⟩)
          | ((with_reducible refine (inS_yes _ _ _ (by omega) (by omega) _).mono ?_); rintro e w' ⟨rfl, rfl⟩))
        go_ret
        exact ⟨rfl, (Below.refl _ W).alloc (Nat.le_refl _) _⟩
      · clear hn
        obtain ⟨h11, h12⟩ := h1
        have H2 := Lib.hid h2
        clear h2
        go_enter Try.func82, Try.ntmps82
        go_wp2_with (first
          | ((with_reducible refine (inS_no w _ _ H2.out _).mono ?_); rintro e w' ⟨rfl, rfl⟩)
          | ((with_reducible refine (inS_yes _ _ _ (by omega) (by omega) _).mono ?_); rintro e w' ⟨rfl, rfl⟩))
        go_ret
        exact ⟨rfl, (Below.refl _ W).alloc (Nat.le_refl _) _⟩
    · have H1 := Lib.hid h1
      clear h1 hn
      go_enter Try.func82, Try.ntmps82
      go_wp2_with ((with_reducible refine (inS_no h _ _ H1.out _).mono ?_); rintro e w' ⟨rfl, rfl⟩)
      go_ret
      exact ⟨rfl, (Below.refl _ W).alloc (Nat.le_refl _) _⟩
end Qt
end Go.Proofs.Ytbmchpoffceehaa

namespace Go.Proofs.Ytbmchpoffceehaa
open Go.RowKit
namespace Qt

theorem keep {w1 w2 : World} (hb : Below w1.heap.size w1 w2) {p : Addr} {v : Value} (h : w1.cell? p = some v) : w2.cell? p = some v := (hb.cell (World.block_lt_of_cell? _ _ h)).trans h
theorem new3 (W : World) (t : TypeId) (x y z : Value) : (W.alloc (.cells #[x, y, z] t)).cell? ⟨W.heap.size, 0, none⟩ = some x ∧ (W.alloc (.cells #[x, y, z] t)).cell? ⟨W.heap.size, 1, none⟩ = some y ∧ (W.alloc (.cells #[x, y, z] t)).cell? ⟨W.heap.size, 2, none⟩ = some z := by
  refine ⟨?_, ?_, ?_⟩ <;> simp [go_sem]
theorem after1 {W : World} {o : Obj} {w1 : World} (b1 : Below (W.alloc o).heap.size (W.alloc o) w1) : Below W.heap.size W w1 := ((Below.refl _ W).alloc (Nat.le_refl _) _).trans (b1.mono (by simp))

theorem sidesOkI (h w c : Int) (b : Bool) (hb : shOk h w c = b) (W : World) :
    Calls Try.prog 105 #[.agg #[.int .i64 h, .int .i64 w, .int .i64 c]] W fun e W' => e = .returned (.bool b) ∧ Below W.heap.size W W' := by
  have HB := Lib.hid hb
  clear hb
  have i0 : ∀ w0, (Instr.index 134 (.agg #[.int .i64 h, .int .i64 w, .int .i64 c]) (.int .i64 0)).run Try.prog w0 = .ok (.int .i64 h) w0 := fun _ => by kernel_rfl
  have i1 : ∀ w0, (Instr.index 134 (.agg #[.int .i64 h, .int .i64 w, .int .i64 c]) (.int .i64 1)).run Try.prog w0 = .ok (.int .i64 w) w0 := fun _ => by kernel_rfl
  have i2 : ∀ w0, (Instr.index 134 (.agg #[.int .i64 h, .int .i64 w, .int .i64 c]) (.int .i64 2)).run Try.prog w0 = .ok (.int .i64 c) w0 := fun _ => by kernel_rfl
  go_enter Try.func105, Try.ntmps105
  go_wp2
  go_loop [6] (fun i => ∃ k : Nat, k ≤ 3 ∧ i = .int .i64 k ∧ (0 < k → 1 ≤ h ∧ h ≤ 8) ∧ (1 < k → 1 ≤ w ∧ w ≤ 8) ∧ (2 < k → 1 ≤ c ∧ c ≤ 8)) (fun i => 3 - (intOf i).toNat)
  case atStart => exact ⟨0, by omega, rfl, by omega, by omega, by omega⟩
  case round =>
    obtain ⟨k, hk, rfl, q0, q1, q2⟩ := hrel
    have hB : Below W.heap.size W (W.alloc (.cells #[.int .i64 h, .int .i64 w, .int .i64 c] 134)) := (Below.refl _ W).alloc (Nat.le_refl _) _
    have HBel := Lib.hid hB
    clear hB
    rcases (by omega : k = 0 ∨ k = 1 ∨ k = 2 ∨ k = 3) with rfl | rfl | rfl | rfl
    · clear q0 q1 q2
      by_cases hs : 1 ≤ h ∧ h ≤ 8
      · obtain ⟨h1, h2⟩ := hs
        go_wp2
        go_round
        case rel => exact ⟨1, by omega, by go_num, fun _ => ⟨h1, h2⟩, by omega, by omega⟩
        case measure => simp [intOf]
      · obtain rfl : b = false := by rw [← HB.out]; exact shOk_not.2 (by omega)
        rcases (by omega : h < 1 ∨ (1 ≤ h ∧ 8 < h)) with hs | ⟨hs, hs2⟩
        all_goals
          go_wp2
          go_ret
          exact ⟨rfl, HBel.out⟩
    · obtain ⟨h1, h2⟩ := q0 (by omega)
      clear q0 q1 q2
      by_cases hs : 1 ≤ w ∧ w ≤ 8
      · obtain ⟨h3, h4⟩ := hs
        go_wp2
        go_round
        case rel => exact ⟨2, by omega, by go_num, fun _ => ⟨h1, h2⟩, fun _ => ⟨h3, h4⟩, by omega⟩
        case measure => simp [intOf]
      · obtain rfl : b = false := by rw [← HB.out]; exact shOk_not.2 (by omega)
        rcases (by omega : w < 1 ∨ (1 ≤ w ∧ 8 < w)) with hs | ⟨hs, hs2⟩
        all_goals
          go_wp2
          go_ret
          exact ⟨rfl, HBel.out⟩
    · obtain ⟨h1, h2⟩ := q0 (by omega)
      obtain ⟨h3, h4⟩ := q1 (by omega)
      clear q0 q1 q2
      by_cases hs : 1 ≤ c ∧ c ≤ 8
      · obtain ⟨h5, h6⟩ := hs
        go_wp2
        go_round
        case rel => exact ⟨3, by omega, by go_num, fun _ => ⟨h1, h2⟩, fun _ => ⟨h3, h4⟩, fun _ => ⟨h5, h6⟩⟩
        case measure => simp [intOf]
      · obtain rfl : b = false := by rw [← HB.out]; exact shOk_not.2 (by omega)
        rcases (by omega : c < 1 ∨ (1 ≤ c ∧ 8 < c)) with hs | ⟨hs, hs2⟩
        all_goals
          go_wp2
          go_ret
          exact ⟨rfl, HBel.out⟩
    · obtain ⟨h1, h2⟩ := q0 (by omega)
      obtain ⟨h3, h4⟩ := q1 (by omega)
      obtain ⟨h5, h6⟩ := q2 (by omega)
      clear q0 q1 q2
      obtain rfl : b = true := by rw [← HB.out]; exact shOk_iff.2 ⟨h1, h2, h3, h4, h5, h6⟩
      go_wp2
      go_ret
      exact ⟨rfl, HBel.out⟩

theorem shapeOkI (h w c : Int) (b : Bool) (hb : shOk h w c = b) (W : World) :
    Calls Try.prog 111 #[.agg #[.int .i64 h, .int .i64 w, .int .i64 c]] W fun e W' => e = .returned (.bool b) ∧ Below W.heap.size W W' := by
  have HB := Lib.hid hb
  clear hb
  go_enter Try.func111, Try.ntmps111
  go_wp2_with fail
  refine (sidesOfI h w c _).mono ?_
  rintro e w1 ⟨rfl, b1⟩
  have B1 := Lib.hid (((Below.refl _ W).alloc (Nat.le_refl _) _).trans (b1.mono (by simp)))
  clear b1
  go_wp2_with fail
  refine (sidesOkI h w c b HB.out _).mono ?_
  rintro e w2 ⟨rfl, b2⟩
  have B2 := Lib.hid (B1.out.trans (b2.mono B1.out.size))
  clear b2 B1
  go_wp2_with fail
  go_ret
  exact ⟨rfl, B2.out⟩

theorem sizeI (h w c : Int) (W : World) :
    Calls Try.prog 106 #[.agg #[.int .i64 h, .int .i64 w, .int .i64 c]] W fun e W' => e = .returned (.int .i64 (szOf h w c)) ∧ Below W.heap.size W W' := by
  rcases hs : shOk h w c with _ | _
  · rw [szOf_no hs]
    have HS := Lib.hid hs
    clear hs
    go_enter Try.func106, Try.ntmps106
    go_wp2_with fail
    refine (sidesOkI h w c false HS.out _).mono ?_
    rintro e w1 ⟨rfl, b1⟩
    have B1 := Lib.hid (after1 b1)
    clear b1
    go_wp2_with fail
    go_ret
    exact ⟨rfl, B1.out⟩
  · obtain ⟨e, m1, m2, m3, m4⟩ := szOf_yes hs
    rw [e]
    have HS := Lib.hid hs
    clear hs e
    go_enter Try.func106, Try.ntmps106
    go_wp2_with fail
    refine (sidesOkI h w c true HS.out _).mono ?_
    rintro e w1 ⟨rfl, b1⟩
    obtain ⟨n0, n1, n2⟩ := new3 W 134 (.int .i64 h) (.int .i64 w) (.int .i64 c)
    have c0 := keep b1 n0
    have c1 := keep b1 n1
    have c2 := keep b1 n2
    have B1 := Lib.hid (after1 b1)
    clear b1 n0 n1 n2
    go_wp2_with fail
    go_ret
    exact ⟨rfl, B1.out⟩

theorem sizeOfS (h w c : Int) (W : World) :
    Calls Try.prog 84 #[.agg #[.int .i64 h, .int .i64 w, .int .i64 c]] W fun e W' => e = .returned (.int .i64 (szOf h w c)) ∧ Below W.heap.size W W' := by
  rcases hs : shOk h w c with _ | _
  · rw [szOf_no hs]
    have HS := Lib.hid hs
    clear hs
    go_enter Try.func84, Try.ntmps84
    go_wp2_with fail
    refine (shapeOkS h w c false HS.out _).mono ?_
    rintro e w1 ⟨rfl, b1⟩
    have B1 := Lib.hid (after1 b1)
    clear b1
    go_wp2_with fail
    go_ret
    exact ⟨rfl, B1.out⟩
  · obtain ⟨e, m1, m2, m3, m4⟩ := szOf_yes hs
    rw [e]
    have HS := Lib.hid hs
    clear hs e
    go_enter Try.func84, Try.ntmps84
    go_wp2_with fail
    refine (shapeOkS h w c true HS.out _).mono ?_
    rintro e w1 ⟨rfl, b1⟩
    obtain ⟨n0, n1, n2⟩ := new3 W 34 (.int .i64 h) (.int .i64 w) (.int .i64 c)
    have c0 := keep b1 n0
    have c1 := keep b1 n1
    have c2 := keep b1 n2
    have B1 := Lib.hid (after1 b1)
    clear b1 n0 n1 n2
    go_wp2_with fail
    go_ret
    exact ⟨rfl, B1.out⟩

theorem sizeOfI (h w c : Int) (W : World) :
    Calls Try.prog 113 #[.agg #[.int .i64 h, .int .i64 w, .int .i64 c]] W fun e W' => e = .returned (.int .i64 (szOf h w c)) ∧ Below W.heap.size W W' := by
  go_enter Try.func113, Try.ntmps113
  go_wp2_with fail
  refine (sidesOfI h w c _).mono ?_
  rintro e w1 ⟨rfl, b1⟩
  have B1 := Lib.hid (after1 b1)
  clear b1
  go_wp2_with fail
  refine (sizeI h w c _).mono ?_
  rintro e w2 ⟨rfl, b2⟩
  have B2 := Lib.hid (B1.out.trans (b2.mono B1.out.size))
  clear b2 B1
  go_wp2_with fail
  go_ret
  exact ⟨rfl, B2.out⟩
end Qt
end Go.Proofs.Ytbmchpoffceehaa

namespace Go.Proofs.Ytbmchpoffceehaa
open Go.RowKit
namespace Qt

def plIn (h w c i j k : Int) : Bool := decide (0 ≤ i ∧ i < h ∧ 0 ≤ j ∧ j < w ∧ 0 ≤ k ∧ k < c)
def plOf (h w c i j k : Int) : Int := if shOk h w c && plIn h w c i j k then (i * w + j) * c + k else -1
theorem plOf_no {h w c i j k : Int} (hs : shOk h w c = false) : plOf h w c i j k = -1 := by rw [plOf, hs]; rfl
theorem plOf_out {h w c i j k : Int} (hp : ¬ (0 ≤ i ∧ i < h ∧ 0 ≤ j ∧ j < w ∧ 0 ≤ k ∧ k < c)) : plOf h w c i j k = -1 := by
  have : plIn h w c i j k = false := by simpa [plIn] using hp
  rw [plOf, this, Bool.and_false]; rfl
theorem plOf_in {h w c i j k : Int} (hs : shOk h w c = true) (h1 : 0 ≤ i) (h2 : i < h) (h3 : 0 ≤ j) (h4 : j < w) (h5 : 0 ≤ k) (h6 : k < c) :
    plOf h w c i j k = (i * w + j) * c + k ∧ 0 ≤ i * w ∧ i * w ≤ 56 ∧ i * w + j < h * w ∧ 0 ≤ (i * w + j) * c ∧ (i * w + j) * c ≤ 504 ∧ (i * w + j) * c + k < h * w * c := by
  obtain ⟨a1, a2, a3, a4, a5, a6⟩ := shOk_iff.1 hs
  have hp : plIn h w c i j k = true := by simp [plIn]; omega
  refine ⟨by rw [plOf, hs, hp]; rfl, ?_⟩
  have e1 : 0 ≤ i * w := Int.mul_nonneg h1 (by omega)
  have e2 : i * w ≤ (h - 1) * w := Int.mul_le_mul_of_nonneg_right (by omega) (by omega)
  have e3 : (h - 1) * w ≤ 7 * 8 := Int.mul_le_mul (by omega) (by omega) (by omega) (by omega)
  have e4 : (h - 1) * w = h * w - w := by rw [Int.sub_mul]; omega
  have e5 : 0 ≤ (i * w + j) * c := Int.mul_nonneg (by omega) (by omega)
  have e6 : (i * w + j) * c ≤ (h * w - 1) * c := Int.mul_le_mul_of_nonneg_right (by omega) (by omega)
  have e7 : (h * w - 1) * c = h * w * c - c := by rw [Int.sub_mul]; omega
  have e8 : (i * w + j) * c ≤ 63 * 8 := Int.mul_le_mul (by omega) (by omega) (by omega) (by omega)
  omega
theorem plOf_bd (h w c i j k : Int) : -1 ≤ plOf h w c i j k ∧ (plOf h w c i j k < 0 → plOf h w c i j k = -1) ∧ (0 ≤ plOf h w c i j k → plOf h w c i j k < szOf h w c) := by
  rcases hs : shOk h w c with _ | _
  · rw [plOf_no hs]; omega
  · by_cases hp : 0 ≤ i ∧ i < h ∧ 0 ≤ j ∧ j < w ∧ 0 ≤ k ∧ k < c
    · have := plOf_in hs hp.1 hp.2.1 hp.2.2.1 hp.2.2.2.1 hp.2.2.2.2.1 hp.2.2.2.2.2
      have := szOf_yes hs
      omega
    · rw [plOf_out hp]; omega

end Qt
end Go.Proofs.Ytbmchpoffceehaa

namespace Go.Proofs.Ytbmchpoffceehaa
open Go.RowKit
namespace Qt

/-- Block g is just these cells, none of them frozen. -/
def Bk (w : World) (g : Nat) (t : TypeId) (cs : Array Value) : Prop := w.heap[g]? = some (.cells cs t (0, 0))
section
variable {w w' : World} {g : Nat} {t : TypeId} {cs : Array Value}
theorem Bk.lt (h : Bk w g t cs) : g < w.heap.size := (Array.getElem?_eq_some_iff.1 h).1
theorem Bk.cell (h : Bk w g t cs) (i : Nat) {v : Value} (hv : cs[i]? = some v) : w.cell? ⟨g, i, none⟩ = some v := (cell_of_row w g i cs t (0, 0) h).trans hv
theorem Bk.frozen (h : Bk w g t cs) (i : Nat) : w.frozen? ⟨g, i, none⟩ = false := by
  have h' : w.heap[g]? = _ := h
  simp [World.frozen?, h']
theorem Bk.new (w : World) (t : TypeId) (cs : Array Value) : Bk (w.alloc (.cells cs t)) w.heap.size t cs := by unfold Bk; exact heap_alloc_new w _
theorem Bk.drewN (h : Bk w g t cs) (n : Nat) : Bk (w.drewN n) g t cs := h
theorem Bk.alloc (h : Bk w g t cs) (o : Obj) : Bk (w.alloc o) g t cs := (Below.heap_alloc w o g h.lt).trans h
theorem Bk.below (h : Bk w g t cs) (hb : Below w.heap.size w w') : Bk w' g t cs := (hb.block g h.lt).trans h
theorem Bk.belowN {B : Nat} (h : Bk w g t cs) (hb : Below B w w') (hg : g < B) : Bk w' g t cs := (hb.block g hg).trans h
theorem Bk.far (h : Bk w g t cs) {p : Addr} (hp : g ≠ p.block) (u : Value) : Bk (w.setCell p u) g t cs := (Below.heap_setCell w p u g hp).trans h
theorem Bk.set (h : Bk w g t cs) (i : Nat) (u : Value) : Bk (w.setCell ⟨g, i, none⟩ u) g t (cs.setIfInBounds i u) := by
  have h' : w.heap[g]? = _ := h
  unfold Bk
  simp [World.setCell, Array.getElem?_modify, h']
theorem Bk.set3 {a b c x y z : Value} (h : Bk w g t #[a, b, c]) : Bk (((w.setCell ⟨g, 0, none⟩ x).setCell ⟨g, 1, none⟩ y).setCell ⟨g, 2, none⟩ z) g t #[x, y, z] := ((h.set 0 x).set 1 y).set 2 z
theorem Bk.set4 {a b c d x y z u : Value} (h : Bk w g t #[a, b, c, d]) : Bk ((((w.setCell ⟨g, 0, none⟩ x).setCell ⟨g, 1, none⟩ y).setCell ⟨g, 2, none⟩ z).setCell ⟨g, 3, none⟩ u) g t #[x, y, z, u] := (((h.set 0 x).set 1 y).set 2 z).set 3 u
theorem Bk.far3 (h : Bk w g t cs) {b : Nat} (hb : g ≠ b) (x y z : Value) : Bk (((w.setCell ⟨b, 0, none⟩ x).setCell ⟨b, 1, none⟩ y).setCell ⟨b, 2, none⟩ z) g t cs := ((h.far (p := ⟨b, 0, none⟩) hb x).far (p := ⟨b, 1, none⟩) hb y).far (p := ⟨b, 2, none⟩) hb z
theorem Bk.far4 (h : Bk w g t cs) {b : Nat} (hb : g ≠ b) (x y z u : Value) : Bk ((((w.setCell ⟨b, 0, none⟩ x).setCell ⟨b, 1, none⟩ y).setCell ⟨b, 2, none⟩ z).setCell ⟨b, 3, none⟩ u) g t cs := (h.far3 hb x y z).far (p := ⟨b, 3, none⟩) hb u
theorem below_set3 {B : Nat} {W : World} (h : Below B W w) {b : Nat} (hb : B ≤ b) (x y z : Value) : Below B W (((w.setCell ⟨b, 0, none⟩ x).setCell ⟨b, 1, none⟩ y).setCell ⟨b, 2, none⟩ z) := ((h.setCell (p := ⟨b, 0, none⟩) hb x).setCell (p := ⟨b, 1, none⟩) hb y).setCell (p := ⟨b, 2, none⟩) hb z
theorem below_set4 {B : Nat} {W : World} (h : Below B W w) {b : Nat} (hb : B ≤ b) (x y z u : Value) : Below B W ((((w.setCell ⟨b, 0, none⟩ x).setCell ⟨b, 1, none⟩ y).setCell ⟨b, 2, none⟩ z).setCell ⟨b, 3, none⟩ u) := (below_set3 h hb x y z).setCell (p := ⟨b, 3, none⟩) hb u
theorem RdI.far4 {n : Nat} {xs : List Int} (h : RdI w (some ⟨g, 0, none⟩) n xs) {b : Nat} (hb : g ≠ b) (x y z u : Value) : RdI ((((w.setCell ⟨b, 0, none⟩ x).setCell ⟨b, 1, none⟩ y).setCell ⟨b, 2, none⟩ z).setCell ⟨b, 3, none⟩ u) (some ⟨g, 0, none⟩) n xs :=
  (((h.far (p := ⟨b, 0, none⟩) hb x).far (p := ⟨b, 1, none⟩) hb y).far (p := ⟨b, 2, none⟩) hb z).far (p := ⟨b, 3, none⟩) hb u
theorem Bk.cell3 {x y z : Value} (h : Bk w g t #[x, y, z]) : w.cell? ⟨g, 0, none⟩ = some x ∧ w.cell? ⟨g, 1, none⟩ = some y ∧ w.cell? ⟨g, 2, none⟩ = some z :=
  ⟨h.cell 0 rfl, h.cell 1 rfl, h.cell 2 rfl⟩
theorem Bk.cell4 {x y z u : Value} (h : Bk w g t #[x, y, z, u]) : w.cell? ⟨g, 0, none⟩ = some x ∧ w.cell? ⟨g, 1, none⟩ = some y ∧ w.cell? ⟨g, 2, none⟩ = some z ∧ w.cell? ⟨g, 3, none⟩ = some u :=
  ⟨h.cell 0 rfl, h.cell 1 rfl, h.cell 2 rfl, h.cell 3 rfl⟩
theorem Bk.free3 (h : Bk w g t cs) : w.frozen? ⟨g, 0, none⟩ = false ∧ w.frozen? ⟨g, 1, none⟩ = false ∧ w.frozen? ⟨g, 2, none⟩ = false := ⟨h.frozen 0, h.frozen 1, h.frozen 2⟩
theorem Bk.free4 (h : Bk w g t cs) : w.frozen? ⟨g, 0, none⟩ = false ∧ w.frozen? ⟨g, 1, none⟩ = false ∧ w.frozen? ⟨g, 2, none⟩ = false ∧ w.frozen? ⟨g, 3, none⟩ = false := ⟨h.frozen 0, h.frozen 1, h.frozen 2, h.frozen 3⟩
end
theorem keepB {W w1 w2 : World} (hb : Below w1.heap.size w1 w2) (h : Hid (Below W.heap.size W w1)) : Hid (Below W.heap.size W w2) := Lib.hid (h.out.trans (hb.mono h.out.size))
/-- What is said of a block of four cells while a statement's order is drawn. -/
theorem keep4 {W w1 w2 : World} {g : Nat} {x y z u : Value} (hb : Below w1.heap.size w1 w2)
    (h : w1.cell? ⟨g, 0, none⟩ = some x ∧ w1.cell? ⟨g, 1, none⟩ = some y ∧ w1.cell? ⟨g, 2, none⟩ = some z ∧ w1.cell? ⟨g, 3, none⟩ = some u ∧ Hid (Below W.heap.size W w1)) :
    w2.cell? ⟨g, 0, none⟩ = some x ∧ w2.cell? ⟨g, 1, none⟩ = some y ∧ w2.cell? ⟨g, 2, none⟩ = some z ∧ w2.cell? ⟨g, 3, none⟩ = some u ∧ Hid (Below W.heap.size W w2) :=
  ⟨keep hb h.1, keep hb h.2.1, keep hb h.2.2.1, keep hb h.2.2.2.1, keepB hb h.2.2.2.2⟩
end Qt
end Go.Proofs.Ytbmchpoffceehaa

namespace Go.Proofs.Ytbmchpoffceehaa
open Go.RowKit
namespace Qt
section
variable {w w' : World} {g : Nat} {t : TypeId} {cs : Array Value}
theorem Bk.cell9 {x0 x1 x2 x3 x4 x5 x6 x7 x8 : Value} (h : Bk w g t #[x0, x1, x2, x3, x4, x5, x6, x7, x8]) : w.cell? ⟨g, 0, none⟩ = some x0 ∧ w.cell? ⟨g, 1, none⟩ = some x1 ∧ w.cell? ⟨g, 2, none⟩ = some x2 ∧ w.cell? ⟨g, 3, none⟩ = some x3 ∧ w.cell? ⟨g, 4, none⟩ = some x4 ∧ w.cell? ⟨g, 5, none⟩ = some x5 ∧ w.cell? ⟨g, 6, none⟩ = some x6 ∧ w.cell? ⟨g, 7, none⟩ = some x7 ∧ w.cell? ⟨g, 8, none⟩ = some x8 :=
  ⟨h.cell 0 rfl, h.cell 1 rfl, h.cell 2 rfl, h.cell 3 rfl, h.cell 4 rfl, h.cell 5 rfl, h.cell 6 rfl, h.cell 7 rfl, h.cell 8 rfl⟩
theorem Bk.free9 (h : Bk w g t cs) : w.frozen? ⟨g, 0, none⟩ = false ∧ w.frozen? ⟨g, 1, none⟩ = false ∧ w.frozen? ⟨g, 2, none⟩ = false ∧ w.frozen? ⟨g, 3, none⟩ = false ∧ w.frozen? ⟨g, 4, none⟩ = false ∧ w.frozen? ⟨g, 5, none⟩ = false ∧ w.frozen? ⟨g, 6, none⟩ = false ∧ w.frozen? ⟨g, 7, none⟩ = false ∧ w.frozen? ⟨g, 8, none⟩ = false := ⟨h.frozen 0, h.frozen 1, h.frozen 2, h.frozen 3, h.frozen 4, h.frozen 5, h.frozen 6, h.frozen 7, h.frozen 8⟩
theorem Bk.set9 {x0 x1 x2 x3 x4 x5 x6 x7 x8 y0 y1 y2 y3 y4 y5 y6 y7 y8 : Value} (h : Bk w g t #[x0, x1, x2, x3, x4, x5, x6, x7, x8]) : Bk (((((((((w.setCell ⟨g, 0, none⟩ y0).setCell ⟨g, 1, none⟩ y1).setCell ⟨g, 2, none⟩ y2).setCell ⟨g, 3, none⟩ y3).setCell ⟨g, 4, none⟩ y4).setCell ⟨g, 5, none⟩ y5).setCell ⟨g, 6, none⟩ y6).setCell ⟨g, 7, none⟩ y7).setCell ⟨g, 8, none⟩ y8) g t #[y0, y1, y2, y3, y4, y5, y6, y7, y8] := by
  have h0 := h
  have h1 := h0.set 0 y0
  simp only [List.setIfInBounds_toArray, List.set_cons_zero] at h1
  have h2 := h1.set 1 y1
  simp only [List.setIfInBounds_toArray, List.set_cons_zero, List.set_cons_succ] at h2
  have h3 := h2.set 2 y2
  simp only [List.setIfInBounds_toArray, List.set_cons_zero, List.set_cons_succ] at h3
  have h4 := h3.set 3 y3
  simp only [List.setIfInBounds_toArray, List.set_cons_zero, List.set_cons_succ] at h4
  have h5 := h4.set 4 y4
  simp only [List.setIfInBounds_toArray, List.set_cons_zero, List.set_cons_succ] at h5
  have h6 := h5.set 5 y5
  simp only [List.setIfInBounds_toArray, List.set_cons_zero, List.set_cons_succ] at h6
  have h7 := h6.set 6 y6
  simp only [List.setIfInBounds_toArray, List.set_cons_zero, List.set_cons_succ] at h7
  have h8 := h7.set 7 y7
  simp only [List.setIfInBounds_toArray, List.set_cons_zero, List.set_cons_succ] at h8
  have h9 := h8.set 8 y8
  simp only [List.setIfInBounds_toArray, List.set_cons_zero, List.set_cons_succ] at h9
  exact h9
theorem Bk.set7 {x0 x1 x2 x3 x4 x5 x6 x7 x8 y0 y1 y2 y3 y4 y5 y6 : Value} (h : Bk w g t #[x0, x1, x2, x3, x4, x5, x6, x7, x8]) : Bk (((((((w.setCell ⟨g, 0, none⟩ y0).setCell ⟨g, 1, none⟩ y1).setCell ⟨g, 2, none⟩ y2).setCell ⟨g, 3, none⟩ y3).setCell ⟨g, 4, none⟩ y4).setCell ⟨g, 5, none⟩ y5).setCell ⟨g, 6, none⟩ y6) g t #[y0, y1, y2, y3, y4, y5, y6, x7, x8] := by
  have h0 := h
  have h1 := h0.set 0 y0
  simp only [List.setIfInBounds_toArray, List.set_cons_zero] at h1
  have h2 := h1.set 1 y1
  simp only [List.setIfInBounds_toArray, List.set_cons_zero, List.set_cons_succ] at h2
  have h3 := h2.set 2 y2
  simp only [List.setIfInBounds_toArray, List.set_cons_zero, List.set_cons_succ] at h3
  have h4 := h3.set 3 y3
  simp only [List.setIfInBounds_toArray, List.set_cons_zero, List.set_cons_succ] at h4
  have h5 := h4.set 4 y4
  simp only [List.setIfInBounds_toArray, List.set_cons_zero, List.set_cons_succ] at h5
  have h6 := h5.set 5 y5
  simp only [List.setIfInBounds_toArray, List.set_cons_zero, List.set_cons_succ] at h6
  have h7 := h6.set 6 y6
  simp only [List.setIfInBounds_toArray, List.set_cons_zero, List.set_cons_succ] at h7
  exact h7
theorem Bk.far7 (h : Bk w g t cs) {b : Nat} (hb : g ≠ b) (x0 x1 x2 x3 x4 x5 x6 : Value) : Bk (((((((w.setCell ⟨b, 0, none⟩ x0).setCell ⟨b, 1, none⟩ x1).setCell ⟨b, 2, none⟩ x2).setCell ⟨b, 3, none⟩ x3).setCell ⟨b, 4, none⟩ x4).setCell ⟨b, 5, none⟩ x5).setCell ⟨b, 6, none⟩ x6) g t cs := (((((((h.far (p := ⟨b, 0, none⟩) hb x0).far (p := ⟨b, 1, none⟩) hb x1).far (p := ⟨b, 2, none⟩) hb x2).far (p := ⟨b, 3, none⟩) hb x3).far (p := ⟨b, 4, none⟩) hb x4).far (p := ⟨b, 5, none⟩) hb x5).far (p := ⟨b, 6, none⟩) hb x6)
theorem below_set7 {B : Nat} {W : World} (h : Below B W w) {b : Nat} (hb : B ≤ b) (x0 x1 x2 x3 x4 x5 x6 : Value) : Below B W (((((((w.setCell ⟨b, 0, none⟩ x0).setCell ⟨b, 1, none⟩ x1).setCell ⟨b, 2, none⟩ x2).setCell ⟨b, 3, none⟩ x3).setCell ⟨b, 4, none⟩ x4).setCell ⟨b, 5, none⟩ x5).setCell ⟨b, 6, none⟩ x6) := (((((((h.setCell (p := ⟨b, 0, none⟩) hb x0).setCell (p := ⟨b, 1, none⟩) hb x1).setCell (p := ⟨b, 2, none⟩) hb x2).setCell (p := ⟨b, 3, none⟩) hb x3).setCell (p := ⟨b, 4, none⟩) hb x4).setCell (p := ⟨b, 5, none⟩) hb x5).setCell (p := ⟨b, 6, none⟩) hb x6)
theorem Bk.far9 (h : Bk w g t cs) {b : Nat} (hb : g ≠ b) (x0 x1 x2 x3 x4 x5 x6 x7 x8 : Value) : Bk (((((((((w.setCell ⟨b, 0, none⟩ x0).setCell ⟨b, 1, none⟩ x1).setCell ⟨b, 2, none⟩ x2).setCell ⟨b, 3, none⟩ x3).setCell ⟨b, 4, none⟩ x4).setCell ⟨b, 5, none⟩ x5).setCell ⟨b, 6, none⟩ x6).setCell ⟨b, 7, none⟩ x7).setCell ⟨b, 8, none⟩ x8) g t cs := (((((((((h.far (p := ⟨b, 0, none⟩) hb x0).far (p := ⟨b, 1, none⟩) hb x1).far (p := ⟨b, 2, none⟩) hb x2).far (p := ⟨b, 3, none⟩) hb x3).far (p := ⟨b, 4, none⟩) hb x4).far (p := ⟨b, 5, none⟩) hb x5).far (p := ⟨b, 6, none⟩) hb x6).far (p := ⟨b, 7, none⟩) hb x7).far (p := ⟨b, 8, none⟩) hb x8)
theorem below_set9 {B : Nat} {W : World} (h : Below B W w) {b : Nat} (hb : B ≤ b) (x0 x1 x2 x3 x4 x5 x6 x7 x8 : Value) : Below B W (((((((((w.setCell ⟨b, 0, none⟩ x0).setCell ⟨b, 1, none⟩ x1).setCell ⟨b, 2, none⟩ x2).setCell ⟨b, 3, none⟩ x3).setCell ⟨b, 4, none⟩ x4).setCell ⟨b, 5, none⟩ x5).setCell ⟨b, 6, none⟩ x6).setCell ⟨b, 7, none⟩ x7).setCell ⟨b, 8, none⟩ x8) := (((((((((h.setCell (p := ⟨b, 0, none⟩) hb x0).setCell (p := ⟨b, 1, none⟩) hb x1).setCell (p := ⟨b, 2, none⟩) hb x2).setCell (p := ⟨b, 3, none⟩) hb x3).setCell (p := ⟨b, 4, none⟩) hb x4).setCell (p := ⟨b, 5, none⟩) hb x5).setCell (p := ⟨b, 6, none⟩) hb x6).setCell (p := ⟨b, 7, none⟩) hb x7).setCell (p := ⟨b, 8, none⟩) hb x8)
theorem RdI.far9 {n : Nat} {xs : List Int} (h : RdI w (some ⟨g, 0, none⟩) n xs) {b : Nat} (hb : g ≠ b) (x0 x1 x2 x3 x4 x5 x6 x7 x8 : Value) : RdI (((((((((w.setCell ⟨b, 0, none⟩ x0).setCell ⟨b, 1, none⟩ x1).setCell ⟨b, 2, none⟩ x2).setCell ⟨b, 3, none⟩ x3).setCell ⟨b, 4, none⟩ x4).setCell ⟨b, 5, none⟩ x5).setCell ⟨b, 6, none⟩ x6).setCell ⟨b, 7, none⟩ x7).setCell ⟨b, 8, none⟩ x8) (some ⟨g, 0, none⟩) n xs := (((((((((h.far (p := ⟨b, 0, none⟩) hb x0).far (p := ⟨b, 1, none⟩) hb x1).far (p := ⟨b, 2, none⟩) hb x2).far (p := ⟨b, 3, none⟩) hb x3).far (p := ⟨b, 4, none⟩) hb x4).far (p := ⟨b, 5, none⟩) hb x5).far (p := ⟨b, 6, none⟩) hb x6).far (p := ⟨b, 7, none⟩) hb x7).far (p := ⟨b, 8, none⟩) hb x8)
end
end Qt
end Go.Proofs.Ytbmchpoffceehaa

namespace Go.Proofs.Ytbmchpoffceehaa
open Go.RowKit
namespace Qt

/-- A new tensor that holds these numbers. -/
def NewT (W : World) (h w c : Int) (n : Nat) (xs : List Int) (e : Ending) (W' : World) : Prop :=
  ∃ g, e = .returned (.agg #[.int .i64 h, .int .i64 w, .int .i64 c, .slice (some ⟨g, 0, none⟩) n n]) ∧ W.heap.size ≤ g ∧ RdI W' (some ⟨g, 0, none⟩) n xs ∧ Below W.heap.size W W'

theorem toTensorL (h w c : Int) (A : Option Addr) (n p : Nat) (xs : List Int) (W : World) (hr : RdI W A n xs) (hn : n ≤ 1048576) :
    Calls Try.prog 44 #[.agg #[.int .i64 h, .int .i64 w, .int .i64 c, .slice A n p]] W (NewT W h w c n xs) := by
  have HN := Lib.hid hn
  have HR := Lib.hid hr
  clear hn hr
  go_enter Try.func44, Try.ntmps44
  go_wp2_with fail
  refine (toShapeL h w c _).mono ?_
  rintro e w1 ⟨rfl, b1⟩
  have k0 := (((Bk.new W 29 #[.int .i64 h, .int .i64 w, .int .i64 c, .slice A n p]).alloc _).alloc _).below b1
  have k2 := ((Bk.new (W.alloc (.cells #[.int .i64 h, .int .i64 w, .int .i64 c, .slice A n p] 29)) 39 #[.int .i64 0, .int .i64 0, .int .i64 0, .slice none 0 0]).alloc _).below b1
  have k3 := (Bk.new ((W.alloc (.cells #[.int .i64 h, .int .i64 w, .int .i64 c, .slice A n p] 29)).alloc (.cells #[.int .i64 0, .int .i64 0, .int .i64 0, .slice none 0 0] 39)) 39 #[.int .i64 0, .int .i64 0, .int .i64 0, .slice none 0 0]).below b1
  have b0 : Below W.heap.size W w1 := (((Below.refl _ W).alloc (Nat.le_refl _) _).alloc (by simp) _).alloc (by simp only [World.size_alloc]; omega) _ |>.trans (b1.mono (by simp only [World.size_alloc]; omega))
  simp only [World.size_alloc] at k2 k3
  clear b1
  have G2 := Lib.hid (show W.heap.size ≤ W.heap.size + 1 by omega)
  have G3 := Lib.hid (show W.heap.size ≤ W.heap.size + 1 + 1 by omega)
  have N23 := Lib.hid (show W.heap.size + 1 ≠ W.heap.size + 1 + 1 by omega)
  generalize W.heap.size + 1 + 1 = g3 at k3 G3 N23 ⊢
  generalize W.heap.size + 1 = g2 at k2 G2 N23 ⊢
  obtain ⟨c0, c1, c2, c3⟩ := k0.cell4
  obtain ⟨d0, d1, d2, d3⟩ := k3.cell4
  obtain ⟨f0, f1, f2, f3⟩ := k3.free4
  have B1 := Lib.hid b0
  have K2 := Lib.hid k2
  have K3 := Lib.hid k3
  clear k0 k2 k3 b0
  go_wp2_with fail
  have b4 := below_set3 B1.out G3.out (.int .i64 h) (.int .i64 w) (.int .i64 c)
  have k3 := ((K3.out.set 0 (.int .i64 h)).set 1 (.int .i64 w)).set 2 (.int .i64 c)
  have k2 := K2.out.far3 N23.out (.int .i64 h) (.int .i64 w) (.int .i64 c)
  simp only [List.setIfInBounds_toArray, List.set_cons_zero, List.set_cons_succ] at k3
  clear c0 c1 c2 c3 d0 d1 d2 d3 f0 f1 f2 f3 B1 K2 K3
  generalize ((w1.setCell { block := g3, off := 0 } (.int .i64 h)).setCell { block := g3, off := 1 } (.int .i64 w)).setCell { block := g3, off := 2 } (.int .i64 c) = w4 at b4 k3 k2 ⊢
  refine (toIntS_fresh A n p xs _ (HR.out.of_below b4) HN.out).mono ?_
  rintro e w5 ⟨g, rfl, hg, hg5, r5, b5⟩
  have hg3 := k3.lt
  have hg2 := k2.lt
  have NG := Lib.hid (show g ≠ g3 ∧ g ≠ g2 by omega)
  have LG := Lib.hid (show W.heap.size ≤ g from Nat.le_trans b4.size hg)
  replace k3 := k3.below b5
  replace k2 := k2.below b5
  have B5 := Lib.hid (b4.trans (b5.mono b4.size))
  obtain ⟨d0, d1, d2, d3⟩ := k3.cell4
  obtain ⟨f0, f1, f2, f3⟩ := k3.free4
  obtain ⟨i0, i1, i2, i3⟩ := k2.cell4
  obtain ⟨j0, j1, j2, j3⟩ := k2.free4
  have R5 := Lib.hid r5
  have K2 := Lib.hid k2
  clear k2 k3 hg3 hg2 hg hg5 r5 b5 b4 HR HN
  have hne : g2 ≠ g3 := N23.out
  go_wp2_with fail
  have k9 := (K2.out.far (p := ⟨g3, 3, none⟩) N23.out (.slice (some ⟨g, 0, none⟩) n n)).set4 (x := .int .i64 h) (y := .int .i64 w) (z := .int .i64 c) (u := .slice (some ⟨g, 0, none⟩) n n)
  have r9 := (R5.out.far (p := ⟨g3, 3, none⟩) NG.out.1 (.slice (some ⟨g, 0, none⟩) n n)).far4 NG.out.2 (.int .i64 h) (.int .i64 w) (.int .i64 c) (.slice (some ⟨g, 0, none⟩) n n)
  have b9 := below_set4 (B5.out.setCell (p := ⟨g3, 3, none⟩) G3.out (.slice (some ⟨g, 0, none⟩) n n)) G2.out (.int .i64 h) (.int .i64 w) (.int .i64 c) (.slice (some ⟨g, 0, none⟩) n n)
  obtain ⟨z0, z1, z2, z3⟩ := k9.cell4
  refine bodyPost_ret (v := .agg #[.int .i64 h, .int .i64 w, .int .i64 c, .slice (some ⟨g, 0, none⟩) n n]) ?_ rfl ⟨g, rfl, LG.out, r9, b9⟩
  clear k9 r9 b9 d0 d1 d2 d3 f0 f1 f2 f3 i0 i1 i2 i3 j0 j1 j2 j3
  generalize ((((w5.setCell { block := g3, off := 3 } (.slice (some { block := g, off := 0 }) n n)).setCell { block := g2, off := 0 } (.int .i64 h)).setCell { block := g2, off := 1 } (.int .i64 w)).setCell { block := g2, off := 2 } (.int .i64 c)).setCell { block := g2, off := 3 } (.slice (some { block := g, off := 0 }) n n) = w9 at z0 z1 z2 z3 ⊢
  simp [results, Try.results44, go_sem, z0, z1, z2, z3]

theorem szTensor_yes (h w c : Int) (A : Option Addr) (n p : Nat) (left : Int) (W : World) (hn : (n : Int) ≤ left) (hl : left ≤ 1048576) :
    Calls Try.prog 43 #[.agg #[.int .i64 h, .int .i64 w, .int .i64 c, .slice A n p], .int .i64 left] W fun e W' => e = .returned (.int .i64 (left - n)) ∧ Below W.heap.size W W' := by
  have h0 : (0 : Int) ≤ n := Int.natCast_nonneg n
  go_enter Try.func43, Try.ntmps43
  go_wp2
  go_ret
  exact ⟨rfl, (Below.refl _ W).alloc (Nat.le_refl _) _⟩
theorem szTensor_no (h w c : Int) (A : Option Addr) (n p : Nat) (left : Int) (W : World) (hn : left < (n : Int)) (hl : 0 ≤ left) (hm : (n : Int) ≤ 9223372036854775807) :
    Calls Try.prog 43 #[.agg #[.int .i64 h, .int .i64 w, .int .i64 c, .slice A n p], .int .i64 left] W fun e W' => e = .returned (.int .i64 (-1)) ∧ Below W.heap.size W W' := by
  have h0 : (0 : Int) ≤ n := Int.natCast_nonneg n
  go_enter Try.func43, Try.ntmps43
  go_wp2
  go_ret
  exact ⟨rfl, (Below.refl _ W).alloc (Nat.le_refl _) _⟩

theorem eqShape_same (h w c : Int) (W : World) :
    Calls Try.prog 34 #[.agg #[.int .i64 h, .int .i64 w, .int .i64 c], .agg #[.int .i64 h, .int .i64 w, .int .i64 c]] W fun e W' => e = .returned (.bool true) ∧ Below W.heap.size W W' := by
  go_enter Try.func34, Try.ntmps34
  go_wp2
  go_ret
  exact ⟨rfl, ((Below.refl _ W).alloc (Nat.le_refl _) _).alloc (by simp) _⟩

theorem eqTensor_same (h w c : Int) (A A2 : Option Addr) (n p p2 : Nat) (xs : List Int) (W : World) (hr : RdI W A n xs) (hr2 : RdI W A2 n xs) (hn : n ≤ 1048576) :
    Calls Try.prog 47 #[.agg #[.int .i64 h, .int .i64 w, .int .i64 c, .slice A n p], .agg #[.int .i64 h, .int .i64 w, .int .i64 c, .slice A2 n p2]] W fun e W' => e = .returned (.bool true) ∧ Below W.heap.size W W' := by
  have HN := Lib.hid hn
  have HR := Lib.hid hr
  have HR2 := Lib.hid hr2
  clear hn hr hr2
  go_enter Try.func47, Try.ntmps47
  go_wp2_with fail
  refine (eqShape_same h w c _).mono ?_
  rintro e w1 ⟨rfl, b1⟩
  have k0 := ((Bk.new W 39 #[.int .i64 h, .int .i64 w, .int .i64 c, .slice A n p]).alloc _).below b1
  have k1 := (Bk.new (W.alloc (.cells #[.int .i64 h, .int .i64 w, .int .i64 c, .slice A n p] 39)) 39 #[.int .i64 h, .int .i64 w, .int .i64 c, .slice A2 n p2]).below b1
  simp only [World.size_alloc] at k1
  have B1 := Lib.hid (((Below.refl _ W).alloc (Nat.le_refl _) _).alloc (by simp) _ |>.trans (b1.mono (by simp only [World.size_alloc]; omega)))
  obtain ⟨c0, c1, c2, c3⟩ := k0.cell4
  obtain ⟨d0, d1, d2, d3⟩ := k1.cell4
  clear b1 k0 k1
  go_wp2_with fail
  refine (eqIntS_same A A2 n p p2 xs _ (HR.out.of_below B1.out) (HR2.out.of_below B1.out) HN.out).mono ?_
  rintro e w2 ⟨rfl, m, hm⟩
  have B2 := Lib.hid (show Below W.heap.size W w2 from hm ▸ below_drewN B1.out m)
  clear hm B1 HR HR2 HN
  go_wp2_with fail
  go_ret
  exact ⟨rfl, B2.out⟩
end Qt
end Go.Proofs.Ytbmchpoffceehaa

namespace Go.Proofs.Ytbmchpoffceehaa
open Go.RowKit Go.Sort
namespace Qt

def fit8 (x : Int) : Bool := decide (-128 ≤ x ∧ x ≤ 127)
def tOk (h w c : Int) (xs : List Int) : Bool := shOk h w c && (decide ((xs.length : Int) = szOf h w c) && xs.all fit8)
theorem tOk_iff {h w c : Int} {xs : List Int} : tOk h w c xs = true ↔ shOk h w c = true ∧ (xs.length : Int) = szOf h w c ∧ ∀ x ∈ xs, -128 ≤ x ∧ x ≤ 127 := by
  simp [tOk, fit8]
theorem tOk_no1 {h w c : Int} {xs : List Int} (hs : shOk h w c = false) : tOk h w c xs = false := by simp [tOk, hs]
theorem tOk_no2 {h w c : Int} {xs : List Int} (hs : (xs.length : Int) ≠ szOf h w c) : tOk h w c xs = false := by simp [tOk, hs]
theorem tOk_no3 {h w c : Int} {xs : List Int} {k : Nat} (hk : k < xs.length) (hx : ¬ (-128 ≤ xs.getD k 0 ∧ xs.getD k 0 ≤ 127)) : tOk h w c xs = false := by
  have e : xs.getD k 0 = xs[k] := by simp [List.getD_eq_getElem?_getD, hk]
  rw [e] at hx
  rcases hb : tOk h w c xs with _ | _
  · rfl
  · exact absurd ((tOk_iff.1 hb).2.2 _ (List.getElem_mem hk)) hx

theorem int8S (x : Int) (b : Bool) (hb : fit8 x = b) (W : World) : Calls Try.prog 85 #[.int .i64 x] W fun e W' => e = .returned (.bool b) ∧ W = W' := by
  cases b with
  | true =>
    have h1 : -128 ≤ x ∧ x ≤ 127 := by simpa [fit8] using hb
    obtain ⟨h1, h2⟩ := h1
    clear hb
    go_enter Try.func85, Try.ntmps85
    go_wp2_with ((with_reducible refine (inS_yes _ _ _ (by omega) (by omega) _).mono ?_); rintro e w' ⟨rfl, rfl⟩)
    go_ret
    exact ⟨rfl, rfl⟩
  | false =>
    have h1 : ¬ (-128 ≤ x ∧ x ≤ 127) := by simp [fit8] at hb; omega
    have H1 := Lib.hid h1
    clear hb h1
    go_enter Try.func85, Try.ntmps85
    go_wp2_with ((with_reducible refine (inS_no x _ _ H1.out _).mono ?_); rintro e w' ⟨rfl, rfl⟩)
    go_ret
    exact ⟨rfl, rfl⟩

theorem mixed : Try.prog.follows .mixedOrders = true := by kernel_rfl
theorem tensorOkS (h w c : Int) (A : Option Addr) (n p : Nat) (xs : List Int) (b : Bool) (hb : tOk h w c xs = b) (W : World) (hr : RdI W A n xs) (hn : n ≤ 1048576) :
    Calls Try.prog 52 #[.agg #[.int .i64 h, .int .i64 w, .int .i64 c, .slice A n p]] W fun e W' => e = .returned (.bool b) ∧ Below W.heap.size W W' := by
  have HN := Lib.hid hn
  have HR := Lib.hid hr
  have HL := Lib.hid hr.1
  have hk0 := (Bk.new W 39 #[.int .i64 h, .int .i64 w, .int .i64 c, .slice A n p])
  have HB := Lib.hid hb
  have B0 := Lib.hid ((Below.refl _ W).alloc (Nat.le_refl _) (.cells #[.int .i64 h, .int .i64 w, .int .i64 c, .slice A n p] 39))
  obtain ⟨c0, c1, c2, c3⟩ := hk0.cell4
  clear hn hr hk0 hb
  rcases hs : shOk h w c with _ | _
  · obtain rfl : b = false := by rw [← HB.out]; exact tOk_no1 hs
    go_enter Try.func52, Try.ntmps52
    go_wp2_with fail
    generalize W.alloc (.cells #[.int .i64 h, .int .i64 w, .int .i64 c, .slice A n p] 39) = v at c0 c1 c2 c3 B0 ⊢
    have q0 := Lib.hid (fun d os => Calls.regrown_of (shapeOkS h w c false hs (grow (redrawn v d) os)))
    clear hs
    have k0 := cell_regrown c0
    have k1 := cell_regrown c1
    have k2 := cell_regrown c2
    have k3 := cell_regrown c3
    clear c0 c1 c2 c3
    refine wp_region_quiet_below mixed (by kernel_rfl) ?_
    repeat (go_big_quiet_step (exact q0.out _ _))
    refine wpQuiet_nil ?_
    intro _ hw'
    obtain ⟨⟨dq, osq⟩, rfl⟩ := hw'
    have BF := Lib.hid (B0.out.trans ((below_regrown _ dq osq).mono B0.out.size))
    clear k0 k1 k2 k3 q0 B0
    go_wp2
    go_ret
    exact ⟨rfl, BF.out⟩
  · obtain ⟨e1, a1, a2, a3, a4⟩ := szOf_yes hs
    have hz := szOf_bd h w c
    have hn0 : (0 : Int) ≤ n := Int.natCast_nonneg n
    clear e1 a1 a2 a3 a4
    by_cases hlen : (n : Int) = szOf h w c
    · have hd : ((n : Int) != szOf h w c) = false := by simpa using hlen
      have HE := Lib.hid hlen
      have HS := Lib.hid hs
      clear hlen hs
      go_enter Try.func52, Try.ntmps52
      go_wp2_with fail
      generalize W.alloc (.cells #[.int .i64 h, .int .i64 w, .int .i64 c, .slice A n p] 39) = v at c0 c1 c2 c3 B0 ⊢
      have q0 := Lib.hid (fun d os => Calls.regrown_of (shapeOkS h w c true HS.out (grow (redrawn v d) os)))
      have q1 := Lib.hid (fun d os => Calls.regrown_of (sizeOfS h w c (grow (redrawn v d) os)))
      have k0 := cell_regrown c0
      have k1 := cell_regrown c1
      have k2 := cell_regrown c2
      have k3 := cell_regrown c3
      clear c0 c1 c2 c3
      refine wp_region_quiet_below mixed (by kernel_rfl) ?_
      repeat (go_big_quiet_step (first | exact q0.out _ _ | exact q1.out _ _))
      refine wpQuiet_nil ?_
      intro _ hw'
      obtain ⟨⟨dq, osq⟩, rfl⟩ := hw'
      have BF := Lib.hid (B0.out.trans ((below_regrown _ dq osq).mono B0.out.size))
      replace k0 := k0 dq osq
      replace k1 := k1 dq osq
      replace k2 := k2 dq osq
      replace k3 := k3 dq osq
      clear q0 q1 B0 hd hz
      generalize grow (redrawn v dq) osq = v2 at k0 k1 k2 k3 BF ⊢
      go_wp2
      go_loop [3] (fun x => ∃ k : Nat, k ≤ n ∧ x = .int .i64 k ∧ Hid (∀ j, j < k → -128 ≤ xs.getD j 0 ∧ xs.getD j 0 ≤ 127)) (fun x => n - (intOf x).toNat)
      case atStart => exact ⟨0, Nat.zero_le _, rfl, Lib.hid (fun j hj => absurd hj (Nat.not_lt_zero _))⟩
      case round =>
        obtain ⟨k, hk, rfl, HQ⟩ := hrel
        by_cases hlt : k < n
        · obtain ⟨b', off, rfl, hbl, hcell⟩ := (HR.out.of_below BF.out).2 (by omega)
          have hcx := hcell k hlt
          have hi : (k : Int) < (n : Int) := by omega
          have hn1 : (n : Int) ≤ 1048576 := by have := HN.out; omega
          clear hcell
          rcases hf : fit8 (xs[k]?.getD 0) with _ | _
          · obtain rfl : b = false := by rw [← HB.out]; exact tOk_no3 (k := k) (by have := HL.out; omega) (by simpa [fit8, List.getD_eq_getElem?_getD] using hf)
            have HF := Lib.hid hf
            clear hf
            go_wp2_with ((with_reducible refine (int8S _ false HF.out _).mono ?_); rintro e w' ⟨rfl, rfl⟩)
            go_ret
            exact ⟨rfl, BF.out⟩
          · have HF := Lib.hid hf
            clear hf
            go_wp2_with ((with_reducible refine (int8S _ true HF.out _).mono ?_); rintro e w' ⟨rfl, rfl⟩)
            go_round
            case rel =>
              refine ⟨k + 1, by omega, by go_num, Lib.hid (fun j hj => ?_)⟩
              rcases (by omega : j < k ∨ j = k) with h1 | rfl
              · exact HQ.out j h1
              · simpa [fit8, List.getD_eq_getElem?_getD] using HF.out
            case measure => simp [intOf]; omega
        · obtain rfl : k = n := by omega
          have hb2 : b = true := by
            rw [← HB.out]
            refine tOk_iff.2 ⟨HS.out, by have := HL.out; have := HE.out; omega, fun x hx => ?_⟩
            obtain ⟨j, hj, rfl⟩ := List.getElem_of_mem hx
            have := HQ.out j (by have := HL.out; omega)
            simpa [List.getD_eq_getElem?_getD, hj] using this
          subst hb2
          go_wp2
          go_ret
          exact ⟨rfl, BF.out⟩
    · obtain rfl : b = false := by rw [← HB.out]; exact tOk_no2 (by have := HL.out; omega)
      have hd : ((n : Int) != szOf h w c) = true := by simpa using hlen
      have HS := Lib.hid hs
      clear hlen hs
      go_enter Try.func52, Try.ntmps52
      go_wp2_with fail
      generalize W.alloc (.cells #[.int .i64 h, .int .i64 w, .int .i64 c, .slice A n p] 39) = v at c0 c1 c2 c3 B0 ⊢
      have q0 := Lib.hid (fun d os => Calls.regrown_of (shapeOkS h w c true HS.out (grow (redrawn v d) os)))
      have q1 := Lib.hid (fun d os => Calls.regrown_of (sizeOfS h w c (grow (redrawn v d) os)))
      have k0 := cell_regrown c0
      have k1 := cell_regrown c1
      have k2 := cell_regrown c2
      have k3 := cell_regrown c3
      clear c0 c1 c2 c3
      refine wp_region_quiet_below mixed (by kernel_rfl) ?_
      repeat (go_big_quiet_step (first | exact q0.out _ _ | exact q1.out _ _))
      refine wpQuiet_nil ?_
      intro _ hw'
      obtain ⟨⟨dq, osq⟩, rfl⟩ := hw'
      have BF := Lib.hid (B0.out.trans ((below_regrown _ dq osq).mono B0.out.size))
      clear k0 k1 k2 k3 q0 q1 B0
      go_wp2
      go_ret
      exact ⟨rfl, BF.out⟩
end Qt
end Go.Proofs.Ytbmchpoffceehaa

namespace Go.Proofs.Ytbmchpoffceehaa
open Go.ChangeShapes Go.WideShapes Go.ChangeAt Go.RowKit Go.Joins
namespace Qt

theorem cellsI : Try.prog.cellsOf 3 = 1 := by kernel_rfl
theorem cellsSh : Try.prog.cellsOf 23 = 3 := by kernel_rfl
theorem cellsSl : Try.prog.cellsOf 27 = 1 := by kernel_rfl
theorem cellsTe : Try.prog.cellsOf 29 = 4 := by kernel_rfl

/-- A slice that came in: it reads as xs, and is no longer than a slice can be. -/
def RdT (w : World) (A : Option Addr) (n : Nat) (xs : List Int) : Prop := RdI w A n xs ∧ (n : Int) ≤ 9223372036854775807
section
variable {H : Type} {enc : TypeId × Value → H} {w : World} {base : Nat} {spare : Nat → Bool} {held : Bool}
set_option maxRecDepth 10000 in
theorem trod_shape {n : Nat} {cs : List Value} {x : DataW H × List MemPlace} (h : DataW.trod enc Try.prog w base spare held n 23 cs = some x) :
    ∃ a b c : Int, cs = [.int .i64 a, .int .i64 b, .int .i64 c] := by
  obtain ⟨xs, m, rfl, _, hlen, hxl, hf⟩ := DataW.trod_struct Try.underlying23 h
  rw [cellsSh] at hlen
  match cs, hlen with
  | [c0, c1, c2], _ =>
    have hxl3 : xs.length = 3 := hxl
    match xs, hxl3 with
    | [y0, y1, y2], _ =>
      have f0 := hf 0 _ rfl
      have f1 := hf 1 _ rfl
      have f2 := hf 2 _ rfl
      simp [cellsI] at f0 f1 f2
      obtain ⟨a, e0, _, _⟩ := DataW.trod_int Try.underlying3 f0
      obtain ⟨b, e1, _, _⟩ := DataW.trod_int Try.underlying3 f1
      obtain ⟨c, e2, _, _⟩ := DataW.trod_int Try.underlying3 f2
      simp at e0 e1 e2
      exact ⟨a, b, c, by rw [e0, e1, e2]⟩

set_option maxRecDepth 10000 in
theorem open_shape {r : Reach} {b0 : Nat} {v : Value} {d : DataW H} {p : List MemPlace} (hv : Value.okWide Try.prog w r b0 23 v) (h : DataW.Trod enc Try.prog w base spare held 23 v d p) :
    ∃ a b c : Int, v = .agg #[.int .i64 a, .int .i64 b, .int .i64 c] := by
  obtain ⟨cs, rfl, hsz⟩ := okWide_struct Try.underlying23 hv
  obtain ⟨fuel, hf⟩ := h
  obtain ⟨a, b, c, e⟩ := trod_shape hf
  refine ⟨a, b, c, ?_⟩
  have : cs.toList = [.int .i64 a, .int .i64 b, .int .i64 c] := by simpa [Value.cells] using e
  rw [← Array.toArray_toList (xs := cs), this]

set_option maxRecDepth 10000 in
theorem open_tensor {r : Reach} {b0 : Nat} {v : Value} {d : DataW H} {p : List MemPlace} (hv : Value.okWide Try.prog w r b0 29 v) (h : DataW.Trod enc Try.prog w base (fun _ => true) held 29 v d p) :
    ∃ (a b c : Int) (A : Option Addr) (n cap : Nat) (xs : List Int), v = .agg #[.int .i64 a, .int .i64 b, .int .i64 c, .slice A n cap] ∧ RdT w A n xs := by
  obtain ⟨cs, rfl, hsz⟩ := okWide_struct Try.underlying29 hv
  obtain ⟨fuel, hf⟩ := h
  obtain ⟨xs, m, rfl, _, hlen, hxl, hg⟩ := DataW.trod_struct Try.underlying29 hf
  have hxl2 : xs.length = 2 := hxl
  have hlen4 : cs.toList.length = 4 := by rw [cellsTe] at hlen; simpa [Value.cells] using hlen
  obtain ⟨l⟩ := cs
  match l, hlen4 with
  | [c0, c1, c2, c3], _ =>
    match xs, hxl2 with
    | [y0, y1], _ =>
      have f0 := hg 0 _ rfl
      have f1 := hg 1 _ rfl
      simp [cellsSh, cellsSl, Value.cells] at f0 f1
      obtain ⟨a, b, c, e⟩ := trod_shape f0
      simp at e
      obtain ⟨rfl, rfl, rfl⟩ := e
      rcases open_ints Try.underlying27 Try.underlying3 cellsI f1 with ⟨hcs, _⟩ | ⟨x, l, cc, zs, hcs, _, hl, hm, hz, _, hcell, _⟩
      · simp at hcs
        subst hcs
        exact ⟨a, b, c, none, 0, 0, [], rfl, RdI.nil w _, by omega⟩
      · simp at hcs
        subst hcs
        refine ⟨a, b, c, some x, l, cc, zs.take l, rfl, ?_, by unfold maxLen at hm; omega⟩
        have hzl : zs.length = cc := by simpa using hz
        refine ⟨by rw [List.length_take]; omega, fun hn => ?_⟩
        obtain ⟨b', off, rfl, hcell'⟩ := ints_at hcell (by omega)
        refine ⟨b', off, rfl, World.block_lt_of_cell? w ⟨b', off + 0, none⟩ (hcell' 0 (by omega)), fun j hj => ?_⟩
        rw [hcell' j (by omega)]
        simp [List.getD_eq_getElem?_getD, hj]
end
end Qt
end Go.Proofs.Ytbmchpoffceehaa

namespace Go.Proofs.Ytbmchpoffceehaa
open Go.ChangeShapes Go.WideShapes Go.ChangeAt Go.RowKit Go.Joins
namespace Qt
theorem cellsLa : Try.prog.cellsOf 120 = 9 := by kernel_rfl
section
variable {H : Type} {enc : TypeId × Value → H} {w : World} {base : Nat} {spare : Nat → Bool} {held : Bool}
/-- A field that is a slice of whole numbers. -/
theorem open_sliceF {n : Nat} {v : Value} {x : DataW H × List MemPlace} (h : DataW.trod enc Try.prog w base (fun _ => true) held n 27 [v] = some x) :
    ∃ (A : Option Addr) (n cap : Nat) (xs : List Int), v = .slice A n cap ∧ RdT w A n xs := by
  rcases open_ints Try.underlying27 Try.underlying3 cellsI h with ⟨hcs, _⟩ | ⟨x, l, cc, zs, hcs, _, hl, hm, hz, _, hcell, _⟩
  · simp at hcs
    subst hcs
    exact ⟨none, 0, 0, [], rfl, RdI.nil w _, by omega⟩
  · simp at hcs
    subst hcs
    refine ⟨some x, l, cc, zs.take l, rfl, ?_, by unfold maxLen at hm; omega⟩
    have hzl : zs.length = cc := by simpa using hz
    refine ⟨by rw [List.length_take]; omega, fun hn => ?_⟩
    obtain ⟨b', off, rfl, hcell'⟩ := ints_at hcell (by omega)
    refine ⟨b', off, rfl, World.block_lt_of_cell? w ⟨b', off + 0, none⟩ (hcell' 0 (by omega)), fun j hj => ?_⟩
    rw [hcell' j (by omega)]
    simp [List.getD_eq_getElem?_getD, hj]
theorem open_intF {n : Nat} {v : Value} {x : DataW H × List MemPlace} (h : DataW.trod enc Try.prog w base spare held n 3 [v] = some x) : ∃ a : Int, v = .int .i64 a := by
  obtain ⟨a, e0, _, _⟩ := DataW.trod_int Try.underlying3 h
  simp at e0
  exact ⟨a, e0⟩
set_option maxRecDepth 20000 in
theorem open_layer {r : Reach} {b0 : Nat} {v : Value} {d : DataW H} {p : List MemPlace} (hv : Value.okWide Try.prog w r b0 120 v) (h : DataW.Trod enc Try.prog w base (fun _ => true) held 120 v d p) :
    ∃ (k o s t m f z : Int) (A : Option Addr) (n cap : Nat) (xs : List Int) (B : Option Addr) (nb cb : Nat) (ys : List Int),
      v = .agg #[.int .i64 k, .int .i64 o, .int .i64 s, .int .i64 t, .int .i64 m, .int .i64 f, .int .i64 z, .slice A n cap, .slice B nb cb] ∧ RdT w A n xs ∧ RdT w B nb ys := by
  obtain ⟨cs, rfl, hsz⟩ := okWide_struct Try.underlying120 hv
  obtain ⟨fuel, hf⟩ := h
  obtain ⟨xs, m, rfl, _, hlen, hxl, hg⟩ := DataW.trod_struct Try.underlying120 hf
  have hxl9 : xs.length = 9 := hxl
  have hlen9 : cs.toList.length = 9 := by rw [cellsLa] at hlen; simpa [Value.cells] using hlen
  obtain ⟨l⟩ := cs
  match l, hlen9 with
  | [c0, c1, c2, c3, c4, c5, c6, c7, c8], _ =>
    match xs, hxl9 with
    | [y0, y1, y2, y3, y4, y5, y6, y7, y8], _ =>
      have f0 := hg 0 _ rfl
      have f1 := hg 1 _ rfl
      have f2 := hg 2 _ rfl
      have f3 := hg 3 _ rfl
      have f4 := hg 4 _ rfl
      have f5 := hg 5 _ rfl
      have f6 := hg 6 _ rfl
      have f7 := hg 7 _ rfl
      have f8 := hg 8 _ rfl
      clear hg hf hv hsz
      simp [cellsI, cellsSl, Value.cells] at f0 f1 f2 f3 f4 f5 f6 f7 f8
      obtain ⟨a0, rfl⟩ := open_intF f0
      obtain ⟨a1, rfl⟩ := open_intF f1
      obtain ⟨a2, rfl⟩ := open_intF f2
      obtain ⟨a3, rfl⟩ := open_intF f3
      obtain ⟨a4, rfl⟩ := open_intF f4
      obtain ⟨a5, rfl⟩ := open_intF f5
      obtain ⟨a6, rfl⟩ := open_intF f6
      obtain ⟨A, n, cap, xs, rfl, r1⟩ := open_sliceF f7
      obtain ⟨B, nb, cb, ys, rfl, r2⟩ := open_sliceF f8
      exact ⟨a0, a1, a2, a3, a4, a5, a6, A, n, cap, xs, B, nb, cb, ys, rfl, r1, r2⟩
end
end Qt
end Go.Proofs.Ytbmchpoffceehaa

namespace Go.Proofs.Ytbmchpoffceehaa
open Go.RowKit
namespace Qt
theorem keep18 {v w1 w2 : World} {g g2 : Nat} {x0 x1 x2 x3 x4 x5 x6 x7 x8 y0 y1 y2 y3 y4 y5 y6 y7 y8 : Value} (hb : Below w1.heap.size w1 w2)
    (h : w1.cell? ⟨g, 0, none⟩ = some x0 ∧ w1.cell? ⟨g, 1, none⟩ = some x1 ∧ w1.cell? ⟨g, 2, none⟩ = some x2 ∧ w1.cell? ⟨g, 3, none⟩ = some x3 ∧ w1.cell? ⟨g, 4, none⟩ = some x4 ∧ w1.cell? ⟨g, 5, none⟩ = some x5 ∧ w1.cell? ⟨g, 6, none⟩ = some x6 ∧ w1.cell? ⟨g, 7, none⟩ = some x7 ∧ w1.cell? ⟨g, 8, none⟩ = some x8 ∧
      w1.cell? ⟨g2, 0, none⟩ = some y0 ∧ w1.cell? ⟨g2, 1, none⟩ = some y1 ∧ w1.cell? ⟨g2, 2, none⟩ = some y2 ∧ w1.cell? ⟨g2, 3, none⟩ = some y3 ∧ w1.cell? ⟨g2, 4, none⟩ = some y4 ∧ w1.cell? ⟨g2, 5, none⟩ = some y5 ∧ w1.cell? ⟨g2, 6, none⟩ = some y6 ∧ w1.cell? ⟨g2, 7, none⟩ = some y7 ∧ w1.cell? ⟨g2, 8, none⟩ = some y8 ∧ Hid (Below v.heap.size v w1)) :
      w2.cell? ⟨g, 0, none⟩ = some x0 ∧ w2.cell? ⟨g, 1, none⟩ = some x1 ∧ w2.cell? ⟨g, 2, none⟩ = some x2 ∧ w2.cell? ⟨g, 3, none⟩ = some x3 ∧ w2.cell? ⟨g, 4, none⟩ = some x4 ∧ w2.cell? ⟨g, 5, none⟩ = some x5 ∧ w2.cell? ⟨g, 6, none⟩ = some x6 ∧ w2.cell? ⟨g, 7, none⟩ = some x7 ∧ w2.cell? ⟨g, 8, none⟩ = some x8 ∧
      w2.cell? ⟨g2, 0, none⟩ = some y0 ∧ w2.cell? ⟨g2, 1, none⟩ = some y1 ∧ w2.cell? ⟨g2, 2, none⟩ = some y2 ∧ w2.cell? ⟨g2, 3, none⟩ = some y3 ∧ w2.cell? ⟨g2, 4, none⟩ = some y4 ∧ w2.cell? ⟨g2, 5, none⟩ = some y5 ∧ w2.cell? ⟨g2, 6, none⟩ = some y6 ∧ w2.cell? ⟨g2, 7, none⟩ = some y7 ∧ w2.cell? ⟨g2, 8, none⟩ = some y8 ∧ Hid (Below v.heap.size v w2) :=
  ⟨keep hb h.1, keep hb h.2.1, keep hb h.2.2.1, keep hb h.2.2.2.1, keep hb h.2.2.2.2.1, keep hb h.2.2.2.2.2.1, keep hb h.2.2.2.2.2.2.1, keep hb h.2.2.2.2.2.2.2.1, keep hb h.2.2.2.2.2.2.2.2.1, keep hb h.2.2.2.2.2.2.2.2.2.1, keep hb h.2.2.2.2.2.2.2.2.2.2.1, keep hb h.2.2.2.2.2.2.2.2.2.2.2.1, keep hb h.2.2.2.2.2.2.2.2.2.2.2.2.1, keep hb h.2.2.2.2.2.2.2.2.2.2.2.2.2.1, keep hb h.2.2.2.2.2.2.2.2.2.2.2.2.2.2.1, keep hb h.2.2.2.2.2.2.2.2.2.2.2.2.2.2.2.1, keep hb h.2.2.2.2.2.2.2.2.2.2.2.2.2.2.2.2.1, keep hb h.2.2.2.2.2.2.2.2.2.2.2.2.2.2.2.2.2.1, keepB hb h.2.2.2.2.2.2.2.2.2.2.2.2.2.2.2.2.2.2⟩
end Qt
end Go.Proofs.Ytbmchpoffceehaa

namespace Go.Proofs.Ytbmchpoffceehaa
open Go.RowKit
namespace Qt
theorem szIntSL (A : Option Addr) (n p : Nat) (left : Int) (W : World) (hl : 0 ≤ left) (hl2 : left ≤ 1048576) (hm : (n : Int) ≤ 9223372036854775807) :
    Calls Try.prog 73 #[.slice A n p, .int .i64 left] W fun e W' => e = .returned (.int .i64 (if (n : Int) ≤ left then left - n else -1)) ∧ W = W' := by
  have h0 : (0 : Int) ≤ n := Int.natCast_nonneg n
  by_cases hn : (n : Int) ≤ left
  · rw [if_pos hn]
    go_enter Try.func73, Try.ntmps73
    go_wp2
    go_ret
    exact ⟨rfl, rfl⟩
  · rw [if_neg hn]
    go_enter Try.func73, Try.ntmps73
    go_wp2
    go_ret
    exact ⟨rfl, rfl⟩

theorem szLayer_yes (k o s t m f z : Int) (A : Option Addr) (n p : Nat) (B : Option Addr) (q r : Nat) (left : Int) (W : World) (hn : (n : Int) + q ≤ left) (hl : left ≤ 1048576) :
    Calls Try.prog 86 #[.agg #[.int .i64 k, .int .i64 o, .int .i64 s, .int .i64 t, .int .i64 m, .int .i64 f, .int .i64 z, .slice A n p, .slice B q r], .int .i64 left] W fun e W' => e = .returned (.int .i64 (left - n - q)) ∧ Below W.heap.size W W' := by
  have h0 : (0 : Int) ≤ n := Int.natCast_nonneg n
  have h1 : (0 : Int) ≤ q := Int.natCast_nonneg q
  have H1 := Lib.hid (szIntSL A n p left)
  have H2 := Lib.hid (szIntSL B q r (left - n))
  go_enter Try.func86, Try.ntmps86
  go_wp2_with fail
  refine (H1.out _ (by omega) hl (by omega)).mono ?_
  rintro e w1 ⟨rfl, rfl⟩
  rw [if_pos (by omega)]
  go_wp2_with fail
  refine (H2.out _ (by omega) (by omega) (by omega)).mono ?_
  rintro e w1 ⟨rfl, rfl⟩
  rw [if_pos (by omega)]
  go_wp2_with fail
  go_ret
  exact ⟨rfl, (Below.refl _ W).alloc (Nat.le_refl _) _⟩
theorem szLayer_no (k o s t m f z : Int) (A : Option Addr) (n p : Nat) (B : Option Addr) (q r : Nat) (left : Int) (W : World) (hn : left < (n : Int) + q) (hl0 : 0 ≤ left) (hl : left ≤ 1048576) (hm : (n : Int) ≤ 9223372036854775807) (hm2 : (q : Int) ≤ 9223372036854775807) :
    Calls Try.prog 86 #[.agg #[.int .i64 k, .int .i64 o, .int .i64 s, .int .i64 t, .int .i64 m, .int .i64 f, .int .i64 z, .slice A n p, .slice B q r], .int .i64 left] W fun e W' => e = .returned (.int .i64 (-1)) ∧ Below W.heap.size W W' := by
  have h0 : (0 : Int) ≤ n := Int.natCast_nonneg n
  have h1 : (0 : Int) ≤ q := Int.natCast_nonneg q
  have H1 := Lib.hid (szIntSL A n p left)
  have H2 := Lib.hid (szIntSL B q r (left - n))
  go_enter Try.func86, Try.ntmps86
  go_wp2_with fail
  refine (H1.out _ (by omega) hl (by omega)).mono ?_
  rintro e w1 ⟨rfl, rfl⟩
  by_cases hx : (n : Int) ≤ left
  · rw [if_pos hx]
    go_wp2_with fail
    refine (H2.out _ (by omega) (by omega) (by omega)).mono ?_
    rintro e w1 ⟨rfl, rfl⟩
    rw [if_neg (by omega)]
    go_wp2_with fail
    go_ret
    exact ⟨rfl, (Below.refl _ W).alloc (Nat.le_refl _) _⟩
  · rw [if_neg hx]
    go_wp2_with fail
    go_ret
    exact ⟨rfl, (Below.refl _ W).alloc (Nat.le_refl _) _⟩
end Qt
end Go.Proofs.Ytbmchpoffceehaa

namespace Go.Proofs.Ytbmchpoffceehaa
open Go.RowKit
namespace Qt
/-- A new layer that holds these numbers, in two slices of its own. -/
def NewL (W : World) (k o s t m f z : Int) (n : Nat) (xs : List Int) (q : Nat) (ys : List Int) (e : Ending) (W' : World) : Prop :=
  ∃ g h, e = .returned (.agg #[.int .i64 k, .int .i64 o, .int .i64 s, .int .i64 t, .int .i64 m, .int .i64 f, .int .i64 z, .slice (some ⟨g, 0, none⟩) n n, .slice (some ⟨h, 0, none⟩) q q]) ∧ W.heap.size ≤ g ∧ g < h ∧ RdI W' (some ⟨g, 0, none⟩) n xs ∧ RdI W' (some ⟨h, 0, none⟩) q ys ∧ Below W.heap.size W W'

set_option maxRecDepth 10000 in
theorem toLayerL (k o s t m f z : Int) (A : Option Addr) (n p : Nat) (xs : List Int) (B : Option Addr) (q r : Nat) (ys : List Int) (W : World) (hr : RdI W A n xs) (hr2 : RdI W B q ys) (hn : n ≤ 1048576) (hq : q ≤ 1048576) :
    Calls Try.prog 87 #[.agg #[.int .i64 k, .int .i64 o, .int .i64 s, .int .i64 t, .int .i64 m, .int .i64 f, .int .i64 z, .slice A n p, .slice B q r]] W (NewL W k o s t m f z n xs q ys) := by
  have HN := Lib.hid hn
  have HR := Lib.hid hr
  have HQ := Lib.hid hq
  have HR2 := Lib.hid hr2
  clear hn hr hq hr2
  go_enter Try.func87, Try.ntmps87
  go_wp2_with fail
  have b1 : Below W.heap.size W (((W.alloc (.cells #[.int .i64 k, .int .i64 o, .int .i64 s, .int .i64 t, .int .i64 m, .int .i64 f, .int .i64 z, .slice A n p, .slice B q r] 120)).alloc (.cells #[.int .i64 0, .int .i64 0, .int .i64 0, .int .i64 0, .int .i64 0, .int .i64 0, .int .i64 0, .slice none 0 0, .slice none 0 0] 104)).alloc (.cells #[.int .i64 k, .int .i64 o, .int .i64 s, .int .i64 t, .int .i64 m, .int .i64 f, .int .i64 z, .slice none 0 0, .slice none 0 0] 104)) := ((Below.refl _ W).alloc (Nat.le_refl _) _).alloc (by simp) _ |>.alloc (by simp only [World.size_alloc]; omega) _
  have k1' : Bk (((W.alloc (.cells #[.int .i64 k, .int .i64 o, .int .i64 s, .int .i64 t, .int .i64 m, .int .i64 f, .int .i64 z, .slice A n p, .slice B q r] 120)).alloc (.cells #[.int .i64 0, .int .i64 0, .int .i64 0, .int .i64 0, .int .i64 0, .int .i64 0, .int .i64 0, .slice none 0 0, .slice none 0 0] 104)).alloc (.cells #[.int .i64 k, .int .i64 o, .int .i64 s, .int .i64 t, .int .i64 m, .int .i64 f, .int .i64 z, .slice none 0 0, .slice none 0 0] 104)) W.heap.size 120 #[.int .i64 k, .int .i64 o, .int .i64 s, .int .i64 t, .int .i64 m, .int .i64 f, .int .i64 z, .slice A n p, .slice B q r] := ((Bk.new W 120 #[.int .i64 k, .int .i64 o, .int .i64 s, .int .i64 t, .int .i64 m, .int .i64 f, .int .i64 z, .slice A n p, .slice B q r]).alloc _).alloc _
  have k2' : Bk (((W.alloc (.cells #[.int .i64 k, .int .i64 o, .int .i64 s, .int .i64 t, .int .i64 m, .int .i64 f, .int .i64 z, .slice A n p, .slice B q r] 120)).alloc (.cells #[.int .i64 0, .int .i64 0, .int .i64 0, .int .i64 0, .int .i64 0, .int .i64 0, .int .i64 0, .slice none 0 0, .slice none 0 0] 104)).alloc (.cells #[.int .i64 k, .int .i64 o, .int .i64 s, .int .i64 t, .int .i64 m, .int .i64 f, .int .i64 z, .slice none 0 0, .slice none 0 0] 104)) (W.heap.size + 1) 104 #[.int .i64 0, .int .i64 0, .int .i64 0, .int .i64 0, .int .i64 0, .int .i64 0, .int .i64 0, .slice none 0 0, .slice none 0 0] := by
    have := (Bk.new (W.alloc (.cells #[.int .i64 k, .int .i64 o, .int .i64 s, .int .i64 t, .int .i64 m, .int .i64 f, .int .i64 z, .slice A n p, .slice B q r] 120)) 104 #[.int .i64 0, .int .i64 0, .int .i64 0, .int .i64 0, .int .i64 0, .int .i64 0, .int .i64 0, .slice none 0 0, .slice none 0 0]).alloc (.cells #[.int .i64 k, .int .i64 o, .int .i64 s, .int .i64 t, .int .i64 m, .int .i64 f, .int .i64 z, .slice none 0 0, .slice none 0 0] 104)
    simpa only [World.size_alloc] using this
  have k3' : Bk (((W.alloc (.cells #[.int .i64 k, .int .i64 o, .int .i64 s, .int .i64 t, .int .i64 m, .int .i64 f, .int .i64 z, .slice A n p, .slice B q r] 120)).alloc (.cells #[.int .i64 0, .int .i64 0, .int .i64 0, .int .i64 0, .int .i64 0, .int .i64 0, .int .i64 0, .slice none 0 0, .slice none 0 0] 104)).alloc (.cells #[.int .i64 k, .int .i64 o, .int .i64 s, .int .i64 t, .int .i64 m, .int .i64 f, .int .i64 z, .slice none 0 0, .slice none 0 0] 104)) (W.heap.size + 1 + 1) 104 #[.int .i64 k, .int .i64 o, .int .i64 s, .int .i64 t, .int .i64 m, .int .i64 f, .int .i64 z, .slice none 0 0, .slice none 0 0] := by
    have := Bk.new ((W.alloc (.cells #[.int .i64 k, .int .i64 o, .int .i64 s, .int .i64 t, .int .i64 m, .int .i64 f, .int .i64 z, .slice A n p, .slice B q r] 120)).alloc (.cells #[.int .i64 0, .int .i64 0, .int .i64 0, .int .i64 0, .int .i64 0, .int .i64 0, .int .i64 0, .slice none 0 0, .slice none 0 0] 104)) 104 #[.int .i64 k, .int .i64 o, .int .i64 s, .int .i64 t, .int .i64 m, .int .i64 f, .int .i64 z, .slice none 0 0, .slice none 0 0]
    simpa only [World.size_alloc] using this
  have G2 := Lib.hid (show W.heap.size ≤ W.heap.size + 1 by omega)
  have G3 := Lib.hid (show W.heap.size ≤ W.heap.size + 1 + 1 by omega)
  have N13 := Lib.hid (show W.heap.size ≠ W.heap.size + 1 + 1 by omega)
  have N23 := Lib.hid (show W.heap.size + 1 ≠ W.heap.size + 1 + 1 by omega)
  generalize (((W.alloc (.cells #[.int .i64 k, .int .i64 o, .int .i64 s, .int .i64 t, .int .i64 m, .int .i64 f, .int .i64 z, .slice A n p, .slice B q r] 120)).alloc (.cells #[.int .i64 0, .int .i64 0, .int .i64 0, .int .i64 0, .int .i64 0, .int .i64 0, .int .i64 0, .slice none 0 0, .slice none 0 0] 104)).alloc (.cells #[.int .i64 k, .int .i64 o, .int .i64 s, .int .i64 t, .int .i64 m, .int .i64 f, .int .i64 z, .slice none 0 0, .slice none 0 0] 104)) = w4 at b1 k1' k2' k3' ⊢
  generalize W.heap.size + 1 + 1 = g3 at b1 k3' G3 N13 N23 ⊢
  generalize W.heap.size + 1 = g2 at b1 k2' G2 N23 ⊢
  refine (toIntS_fresh A n p xs _ (HR.out.of_below b1) HN.out).mono ?_
  rintro e w5 ⟨g, rfl, hg, hg5, r5, b5⟩
  have hg3 := k3'.lt
  have hg2 := k2'.lt
  have NG := Lib.hid (show g ≠ g3 ∧ g ≠ g2 by omega)
  have LG := Lib.hid (show W.heap.size ≤ g from Nat.le_trans b1.size hg)
  replace k1' := k1'.below b5
  replace k3' := k3'.below b5
  replace k2' := k2'.below b5
  have B5 := Lib.hid (b1.trans (b5.mono b1.size))
  obtain ⟨c0, c1, c2, c3, c4, c5, c6, c7, c8⟩ := k1'.cell9
  obtain ⟨f0, f1, f2, f3, f4, f5, f6, f7, f8⟩ := k3'.free9
  obtain ⟨d0, d1, d2, d3, d4, d5, d6, d7, d8⟩ := k3'.cell9
  have R5 := Lib.hid r5
  have GL := Lib.hid hg5
  have K1 := Lib.hid k1'
  have K2 := Lib.hid k2'
  have K3 := Lib.hid k3'
  clear k1' k2' k3' hg3 hg2 hg hg5 r5 b5 b1
  have hne : W.heap.size ≠ g3 := N13.out
  go_wp2_with fail
  clear c0 c1 c2 c3 c4 c5 c6 c7 c8 d0 d1 d2 d3 d4 d5 d6 d7 d8 f0 f1 f2 f3 f4 f5 f6 f7 f8 hne
  have k2 := K2.out.far (p := ⟨g3, 7, none⟩) N23.out (.slice (some ⟨g, 0, none⟩) n n)
  have k3 := K3.out.set 7 (.slice (some ⟨g, 0, none⟩) n n)
  simp only [List.setIfInBounds_toArray, List.set_cons_zero, List.set_cons_succ] at k3
  have r6 := R5.out.far (p := ⟨g3, 7, none⟩) NG.out.1 (.slice (some ⟨g, 0, none⟩) n n)
  have b6 := B5.out.setCell (p := ⟨g3, 7, none⟩) G3.out (.slice (some ⟨g, 0, none⟩) n n)
  have gl6 : g < (w5.setCell { block := g3, off := 7 } (.slice (some { block := g, off := 0 }) n n)).heap.size := by rw [World.size_setCell]; exact GL.out
  clear K1 K2 K3 R5 B5 GL
  generalize w5.setCell { block := g3, off := 7 } (.slice (some { block := g, off := 0 }) n n) = w6 at k2 k3 r6 b6 gl6 ⊢
  refine (toIntS_fresh B q r ys _ (HR2.out.of_below b6) HQ.out).mono ?_
  rintro e w7 ⟨h, rfl, hh, hh7, r7, b7⟩
  have hg3 := k3.lt
  have hg2 := k2.lt
  have NH := Lib.hid (show h ≠ g3 ∧ h ≠ g2 by omega)
  have LGH := Lib.hid (show g < h by omega)
  replace k3 := k3.below b7
  replace k2 := k2.below b7
  replace r6 := r6.of_below b7
  have b8 := b6.trans (b7.mono b6.size)
  have K2 := Lib.hid k2
  have R6 := Lib.hid r6
  have R7 := Lib.hid r7
  have B8 := Lib.hid b8
  obtain ⟨d0, d1, d2, d3, d4, d5, d6, d7, d8⟩ := k3.cell9
  obtain ⟨f0, f1, f2, f3, f4, f5, f6, f7, f8⟩ := k3.free9
  obtain ⟨j0, j1, j2, j3, j4, j5, j6, j7, j8⟩ := k2.free9
  obtain ⟨i0, i1, i2, i3, i4, i5, i6, i7, i8⟩ := k2.cell9
  clear k2 k3 r6 b6 hg3 hg2 hh hh7 r7 b7 b8 gl6 HR HN HQ HR2
  have hne : g2 ≠ g3 := N23.out
  go_wp2_with fail
  have k9 := (K2.out.far (p := ⟨g3, 8, none⟩) N23.out (.slice (some ⟨h, 0, none⟩) q q)).set9 (y0 := .int .i64 k) (y1 := .int .i64 o) (y2 := .int .i64 s) (y3 := .int .i64 t) (y4 := .int .i64 m) (y5 := .int .i64 f) (y6 := .int .i64 z) (y7 := .slice (some ⟨g, 0, none⟩) n n) (y8 := .slice (some ⟨h, 0, none⟩) q q)
  have r9 := (R6.out.far (p := ⟨g3, 8, none⟩) NG.out.1 (.slice (some ⟨h, 0, none⟩) q q)).far9 NG.out.2 (.int .i64 k) (.int .i64 o) (.int .i64 s) (.int .i64 t) (.int .i64 m) (.int .i64 f) (.int .i64 z) (.slice (some ⟨g, 0, none⟩) n n) (.slice (some ⟨h, 0, none⟩) q q)
  have s9 := (R7.out.far (p := ⟨g3, 8, none⟩) NH.out.1 (.slice (some ⟨h, 0, none⟩) q q)).far9 NH.out.2 (.int .i64 k) (.int .i64 o) (.int .i64 s) (.int .i64 t) (.int .i64 m) (.int .i64 f) (.int .i64 z) (.slice (some ⟨g, 0, none⟩) n n) (.slice (some ⟨h, 0, none⟩) q q)
  have b9 := below_set9 (B8.out.setCell (p := ⟨g3, 8, none⟩) G3.out (.slice (some ⟨h, 0, none⟩) q q)) G2.out (.int .i64 k) (.int .i64 o) (.int .i64 s) (.int .i64 t) (.int .i64 m) (.int .i64 f) (.int .i64 z) (.slice (some ⟨g, 0, none⟩) n n) (.slice (some ⟨h, 0, none⟩) q q)
  obtain ⟨z0, z1, z2, z3, z4, z5, z6, z7, z8⟩ := k9.cell9
  refine bodyPost_ret (v := .agg #[.int .i64 k, .int .i64 o, .int .i64 s, .int .i64 t, .int .i64 m, .int .i64 f, .int .i64 z, .slice (some ⟨g, 0, none⟩) n n, .slice (some ⟨h, 0, none⟩) q q]) ?_ rfl ⟨g, h, rfl, LG.out, LGH.out, r9, s9, b9⟩
  clear k9 r9 s9 b9 d0 d1 d2 d3 d4 d5 d6 d7 d8 f0 f1 f2 f3 f4 f5 f6 f7 f8 i0 i1 i2 i3 i4 i5 i6 i7 i8 j0 j1 j2 j3 j4 j5 j6 j7 j8
  generalize ((((((((((w7.setCell ⟨g3, 8, none⟩ (.slice (some ⟨h, 0, none⟩) q q)).setCell ⟨g2, 0, none⟩ (.int .i64 k)).setCell ⟨g2, 1, none⟩ (.int .i64 o)).setCell ⟨g2, 2, none⟩ (.int .i64 s)).setCell ⟨g2, 3, none⟩ (.int .i64 t)).setCell ⟨g2, 4, none⟩ (.int .i64 m)).setCell ⟨g2, 5, none⟩ (.int .i64 f)).setCell ⟨g2, 6, none⟩ (.int .i64 z)).setCell ⟨g2, 7, none⟩ (.slice (some ⟨g, 0, none⟩) n n)).setCell ⟨g2, 8, none⟩ (.slice (some ⟨h, 0, none⟩) q q)) = w9 at z0 z1 z2 z3 z4 z5 z6 z7 z8 ⊢
  simp [results, Try.results87, go_sem, z0, z1, z2, z3, z4, z5, z6, z7, z8]
end Qt
end Go.Proofs.Ytbmchpoffceehaa

namespace Go.Proofs.Ytbmchpoffceehaa
open Go.RowKit
namespace Qt
set_option maxRecDepth 10000 in
theorem eqLayer_same (k o s t m f z : Int) (A : Option Addr) (n p : Nat) (B : Option Addr) (q r : Nat) (A2 : Option Addr) (p2 : Nat) (B2 : Option Addr) (r2 : Nat) (xs ys : List Int) (W : World) (ha : RdI W A n xs) (hb : RdI W B q ys) (ha2 : RdI W A2 n xs) (hb2 : RdI W B2 q ys) (hn : n ≤ 1048576) (hq : q ≤ 1048576) :
    Calls Try.prog 90 #[.agg #[.int .i64 k, .int .i64 o, .int .i64 s, .int .i64 t, .int .i64 m, .int .i64 f, .int .i64 z, .slice A n p, .slice B q r], .agg #[.int .i64 k, .int .i64 o, .int .i64 s, .int .i64 t, .int .i64 m, .int .i64 f, .int .i64 z, .slice A2 n p2, .slice B2 q r2]] W fun e W' => e = .returned (.bool true) ∧ Below W.heap.size W W' := by
  have HN := Lib.hid hn
  have HA := Lib.hid ha
  have HB := Lib.hid hb
  have HA2 := Lib.hid ha2
  have HB2 := Lib.hid hb2
  have HQ := Lib.hid hq
  clear hn hq ha hb ha2 hb2
  go_enter Try.func90, Try.ntmps90
  go_wp2_with fail
  have b0 := ((Below.refl _ W).alloc (Nat.le_refl _) (.cells #[.int .i64 k, .int .i64 o, .int .i64 s, .int .i64 t, .int .i64 m, .int .i64 f, .int .i64 z, .slice A n p, .slice B q r] 104)).alloc (by simp) (.cells #[.int .i64 k, .int .i64 o, .int .i64 s, .int .i64 t, .int .i64 m, .int .i64 f, .int .i64 z, .slice A2 n p2, .slice B2 q r2] 104)
  have k1 := (Bk.new W 104 #[.int .i64 k, .int .i64 o, .int .i64 s, .int .i64 t, .int .i64 m, .int .i64 f, .int .i64 z, .slice A n p, .slice B q r]).alloc (.cells #[.int .i64 k, .int .i64 o, .int .i64 s, .int .i64 t, .int .i64 m, .int .i64 f, .int .i64 z, .slice A2 n p2, .slice B2 q r2] 104)
  have k2 := (Bk.new (W.alloc (.cells #[.int .i64 k, .int .i64 o, .int .i64 s, .int .i64 t, .int .i64 m, .int .i64 f, .int .i64 z, .slice A n p, .slice B q r] 104)) 104 #[.int .i64 k, .int .i64 o, .int .i64 s, .int .i64 t, .int .i64 m, .int .i64 f, .int .i64 z, .slice A2 n p2, .slice B2 q r2])
  simp only [World.size_alloc] at k2
  generalize (W.alloc (.cells #[.int .i64 k, .int .i64 o, .int .i64 s, .int .i64 t, .int .i64 m, .int .i64 f, .int .i64 z, .slice A n p, .slice B q r] 104)).alloc (.cells #[.int .i64 k, .int .i64 o, .int .i64 s, .int .i64 t, .int .i64 m, .int .i64 f, .int .i64 z, .slice A2 n p2, .slice B2 q r2] 104) = w1 at b0 k1 k2 ⊢
  have B0 := Lib.hid b0
  have K1 := Lib.hid k1
  have K2 := Lib.hid k2
  clear b0 k1 k2
  with_reducible refine (eqIntS_same A A2 n p p2 xs _ (HA.out.of_below B0.out) (HA2.out.of_below B0.out) HN.out).mono ?_
  rintro e w2 ⟨rfl, mm, rfl⟩
  have Bw := Lib.hid (below_drewN B0.out mm)
  obtain ⟨c0, c1, c2, c3, c4, c5, c6, c7, c8⟩ := (K1.out.drewN mm).cell9
  obtain ⟨d0, d1, d2, d3, d4, d5, d6, d7, d8⟩ := (K2.out.drewN mm).cell9
  go_wp2_with fail
  with_reducible refine (eqIntS_same B B2 q r r2 ys _ (HB.out.of_below Bw.out) (HB2.out.of_below Bw.out) HQ.out).mono ?_
  rintro e w3 ⟨rfl, m3, rfl⟩
  have B3 := Lib.hid (below_drewN B0.out (mm + m3))
  go_wp2_with fail
  go_ret
  exact ⟨rfl, B3.out⟩
end Qt
end Go.Proofs.Ytbmchpoffceehaa
