/- Plain facts on whole numbers that are cut, rounded and counted: what chapter 1's functions give, as functions on Int. No conditions. -/
namespace Go.Proofs.Ytihnpfcjnfkfjaa.Qt

def clamp (x lo hi : Int) : Int := if hi < lo then lo else if x < lo then lo else if hi < x then hi else x
theorem clamp_over {x lo hi : Int} (h : hi < lo) : clamp x lo hi = lo := by unfold clamp; rw [if_pos h]
theorem clamp_lo {x lo hi : Int} (h : ¬ hi < lo) (h2 : x < lo) : clamp x lo hi = lo := by unfold clamp; rw [if_neg h, if_pos h2]
theorem clamp_hi {x lo hi : Int} (h : ¬ hi < lo) (h2 : ¬ x < lo) (h3 : hi < x) : clamp x lo hi = hi := by unfold clamp; rw [if_neg h, if_neg h2, if_pos h3]
theorem clamp_in {x lo hi : Int} (h : ¬ hi < lo) (h2 : ¬ x < lo) (h3 : ¬ hi < x) : clamp x lo hi = x := by unfold clamp; rw [if_neg h, if_neg h2, if_neg h3]
theorem clamp_bd (x lo hi : Int) (h : lo ≤ hi) : lo ≤ clamp x lo hi ∧ clamp x lo hi ≤ hi := by unfold clamp; split <;> (try split) <;> (try split) <;> omega
theorem clamp_id {x lo hi : Int} (h1 : lo ≤ x) (h2 : x ≤ hi) : clamp x lo hi = x := clamp_in (by omega) (by omega) (by omega)

def sat8 (x : Int) : Int := clamp x (-128) 127
def sat32 (x : Int) : Int := clamp x (-2147483648) 2147483647
theorem sat8_bd (x : Int) : -128 ≤ sat8 x ∧ sat8 x ≤ 127 := clamp_bd _ _ _ (by omega)
theorem sat32_bd (x : Int) : -2147483648 ≤ sat32 x ∧ sat32 x ≤ 2147483647 := clamp_bd _ _ _ (by omega)
theorem sat32_id {x : Int} (h : -2147483648 ≤ x ∧ x ≤ 2147483647) : sat32 x = x := clamp_id h.1 h.2
theorem sat8_id {x : Int} (h : -128 ≤ x ∧ x ≤ 127) : sat8 x = x := clamp_id h.1 h.2
theorem sat32_sat32 (x : Int) : sat32 (sat32 x) = sat32 x := sat32_id (sat32_bd x)

def addSat (a b : Int) : Int := sat32 (sat32 a + sat32 b)
theorem addSat_bd (a b : Int) : -2147483648 ≤ addSat a b ∧ addSat a b ≤ 2147483647 := sat32_bd _
/-- The nearest whole number to x divided by d: of two that are as near the greater (away = false) or the one that is further from 0. -/
def near (x d : Int) (away : Bool) : Int := if d < 2 * (x % d) ∨ (d = 2 * (x % d) ∧ (away = false ∨ 0 < x)) then x / d + 1 else x / d

theorem div_of {d k s y : Int} (hd : 0 < d) (h : y = k * d + s) (h0 : 0 ≤ s) (h1 : s < d) : y / d = k := by
  have := (Int.ediv_emod_unique (a := y) (b := d) (r := s) (q := k) hd).mpr ⟨by rw [h, Int.mul_comm d k]; omega, h0, h1⟩
  exact this.1
theorem mod_of {d k s y : Int} (hd : 0 < d) (h : y = k * d + s) (h0 : 0 ≤ s) (h1 : s < d) : y % d = s := by
  have := (Int.ediv_emod_unique (a := y) (b := d) (r := s) (q := k) hd).mpr ⟨by rw [h, Int.mul_comm d k]; omega, h0, h1⟩
  exact this.2
/-- The facts on a truncated division below 0. -/
theorem tdiv_facts {x d : Int} (hd : 0 < d) (hx : x < 0) : -d < x.tmod d ∧ x.tmod d ≤ 0 ∧ x.tdiv d * d + x.tmod d = x := by
  have h1 := Int.tmod_add_mul_tdiv x d
  have h2 : (-x).tmod d = -(x.tmod d) := Int.neg_tmod _ _
  have h3 : 0 ≤ (-x).tmod d := Int.tmod_nonneg _ (by omega)
  have h4 : (-x).tmod d < d := Int.tmod_lt_of_pos _ hd
  rw [Int.mul_comm] at h1
  omega
theorem ediv_facts {x d : Int} (hd : 0 < d) : 0 ≤ x % d ∧ x % d < d ∧ x / d * d + x % d = x := by
  have h1 := Int.emod_add_mul_ediv x d
  rw [Int.mul_comm] at h1
  exact ⟨Int.emod_nonneg _ (by omega), Int.emod_lt_of_pos _ hd, by omega⟩
theorem tneg_exact {x d : Int} (hd : 0 < d) (hx : x < 0) (h : ¬ x.tmod d < 0) : x.tdiv d = x / d ∧ x.tmod d = x % d := by
  obtain ⟨a, b, c⟩ := tdiv_facts hd hx
  exact ⟨(div_of hd c.symm (by omega) (by omega)).symm, (mod_of hd c.symm (by omega) (by omega)).symm⟩
theorem tneg_rest {x d : Int} (hd : 0 < d) (hx : x < 0) (h : x.tmod d < 0) : x.tdiv d - 1 = x / d ∧ x.tmod d + d = x % d := by
  obtain ⟨a, b, c⟩ := tdiv_facts hd hx
  have e : x = (x.tdiv d - 1) * d + (x.tmod d + d) := by rw [Int.sub_mul]; omega
  exact ⟨(div_of hd e (by omega) (by omega)).symm, (mod_of hd e (by omega) (by omega)).symm⟩

theorem ediv_bd {x d B : Int} (hd : 0 < d) (h1 : -B ≤ x) (h2 : x ≤ B) (hB : 0 ≤ B) : -B ≤ x / d ∧ x / d ≤ B := by
  have hk : B * 1 ≤ B * d := Int.mul_le_mul_of_nonneg_left (by omega) hB
  have hn : -B * d = -(B * d) := Int.neg_mul _ _
  refine ⟨(Int.le_ediv_iff_mul_le hd).mpr (by omega), Int.ediv_le_of_le_mul hd (by omega)⟩
theorem near_over {x d : Int} {t : Bool} (h : d < 2 * (x % d)) : near x d t = x / d + 1 := by unfold near; rw [if_pos (Or.inl h)]
theorem near_under {x d : Int} {t : Bool} (h : 2 * (x % d) < d) : near x d t = x / d := by unfold near; rw [if_neg (by omega)]
theorem near_tie_up {x d : Int} (h : d = 2 * (x % d)) : near x d false = x / d + 1 := by unfold near; rw [if_pos (Or.inr ⟨h, Or.inl rfl⟩)]
theorem near_tie_pos {x d : Int} {t : Bool} (h : d = 2 * (x % d)) (hx : 0 < x) : near x d t = x / d + 1 := by unfold near; rw [if_pos (Or.inr ⟨h, Or.inr hx⟩)]
theorem near_tie_neg {x d : Int} (h : d = 2 * (x % d)) (hx : ¬ 0 < x) : near x d true = x / d := by unfold near; rw [if_neg (by rintro (h2 | ⟨_, h2 | h2⟩) <;> first | omega | (simp at h2))]

def mulHigh (a b : Int) : Int := sat32 (near (sat32 a * sat32 b) 2147483648 false)
theorem mulHigh_bd (a b : Int) : -2147483648 ≤ mulHigh a b ∧ mulHigh a b ≤ 2147483647 := sat32_bd _
theorem near_up (x : Int) : near x 2147483648 false = (x + 1073741824) / 2147483648 := by
  unfold near; simp only [true_or, and_true]; split <;> omega

theorem mul_bd {a b : Int} (ha : -2147483648 ≤ a ∧ a ≤ 2147483647) (hb : -2147483648 ≤ b ∧ b ≤ 2147483647) : -4611686018427387904 ≤ a * b ∧ a * b ≤ 4611686018427387904 := by
  have h1 : (a.natAbs : Int) * b.natAbs = (a * b).natAbs := by rw [Int.natAbs_mul]; exact (Int.natCast_mul _ _).symm
  have h2 : a.natAbs * b.natAbs ≤ 2147483648 * 2147483648 := Nat.mul_le_mul (by omega) (by omega)
  rw [Int.natAbs_mul] at h1
  have h3 : (a * b).natAbs ≤ 2147483648 * 2147483648 := by rw [Int.natAbs_mul]; exact h2
  omega

/-- RoundShift's rounding, as the document's two sides have it. -/
theorem near_away_pos {x d : Int} (hd : 0 < d) (hx : 0 ≤ x) : near x d true = (x + d / 2) / d := by
  obtain ⟨a, b, c⟩ := ediv_facts (x := x) hd
  have ee : (x / d + 1) * d = x / d * d + d := by rw [Int.add_mul]; omega
  unfold near
  split
  · rename_i h
    exact (div_of hd (s := x % d + d / 2 - d) (by rw [ee]; omega) (by omega) (by omega)).symm
  · rename_i h
    have : 2 * (x % d) < d := by
      by_cases e : d = 2 * (x % d)
      · exfalso; apply h; right; refine ⟨e, Or.inr ?_⟩
        by_cases hz : x = 0
        · subst hz; simp at e; omega
        · omega
      · omega
    exact (div_of hd (s := x % d + d / 2) (by omega) (by omega) (by omega)).symm
theorem near_away_neg {x d : Int} (hd : 0 < d) (hx : x < 0) : near x d true = -((-x + d / 2) / d) := by
  obtain ⟨a, b, c⟩ := ediv_facts (x := x) hd
  have ee : (-(x / d) - 1) * d = -(x / d * d) - d := by rw [Int.sub_mul, Int.neg_mul]; omega
  have e2 : (-(x / d)) * d = -(x / d * d) := by rw [Int.neg_mul]
  unfold near
  split
  · rename_i h
    have : d < 2 * (x % d) := by rcases h with h | ⟨_, h | h⟩ <;> first | exact h | (simp at h) | omega
    rw [div_of (y := -x + d / 2) (k := -(x / d) - 1) hd (s := d - x % d + d / 2) (by rw [ee]; omega) (by omega) (by omega)]; omega
  · rename_i h
    have : 2 * (x % d) ≤ d := by omega
    rw [div_of (y := -x + d / 2) (k := -(x / d)) hd (s := d / 2 - x % d) (by rw [e2]; omega) (by omega) (by omega)]; omega

def pow2 (n : Int) : Int := 2 ^ (clamp n 0 31).toNat
def roundShift (x n : Int) : Int := near (sat32 x) (pow2 n) true
theorem pow2_bd (n : Int) : 1 ≤ pow2 n ∧ pow2 n ≤ 2147483648 := by
  have h := clamp_bd n 0 31 (by omega)
  unfold pow2
  have h1 : (clamp n 0 31).toNat ≤ 31 := by omega
  have h2 : (2 : Nat) ^ (clamp n 0 31).toNat ≤ 2 ^ 31 := Nat.pow_le_pow_right (by omega) h1
  have h3 : 0 < (2 : Nat) ^ (clamp n 0 31).toNat := Nat.pow_pos (by omega)
  have h4 : (2 : Int) ^ (clamp n 0 31).toNat = ((2 ^ (clamp n 0 31).toNat : Nat) : Int) := by simp
  rw [h4]; omega
theorem near_bd {x d B : Int} (hd : 0 < d) (h1 : -B ≤ x) (h2 : x ≤ B) : -B ≤ near x d true ∧ near x d true ≤ B := by
  obtain ⟨a, b, c⟩ := ediv_facts (x := x) hd
  by_cases h0 : d = 1
  · subst h0; simp only [near, Int.emod_one, Int.ediv_one]; simp; omega
  have key : ∀ y : Int, 0 ≤ y → y ≤ B → 0 ≤ (y + d / 2) / d ∧ (y + d / 2) / d ≤ B := by
    intro y hy hyB
    refine ⟨Int.ediv_nonneg (by omega) (by omega), ?_⟩
    by_cases hz : y = 0
    · subst hz; rw [Int.ediv_eq_zero_of_lt (by omega) (by omega)]; omega
    have : (y + d / 2) / d ≤ y := by
      apply Int.ediv_le_of_le_mul (by omega)
      have h3 : 1 * (d - 1) ≤ y * (d - 1) := Int.mul_le_mul_of_nonneg_right (by omega) (by omega)
      have h4 : y * (d - 1) = y * d - y := by rw [Int.mul_sub]; omega
      have h5 : 0 ≤ y * d := Int.mul_nonneg hy (by omega)
      omega
    omega
  by_cases hx : 0 ≤ x
  · rw [near_away_pos hd hx]; have := key x hx h2; omega
  · rw [near_away_neg hd (by omega)]; have := key (-x) (by omega) (by omega); omega
theorem near_lo {x d : Int} (hd : 0 < d) (h1 : -2147483648 ≤ x ∧ x ≤ 2147483647) : -2147483648 ≤ near x d true ∧ near x d true ≤ 2147483647 := by
  by_cases hx : 0 ≤ x
  · have := near_bd (B := 2147483647) hd (by omega) h1.2; omega
  · have := near_bd (B := 2147483648) hd h1.1 (by omega)
    rw [near_away_neg hd (by omega)] at *
    have : 0 ≤ (-x + d / 2) / d := Int.ediv_nonneg (by omega) (by omega)
    omega
theorem roundShift_bd (x n : Int) : -2147483648 ≤ roundShift x n ∧ roundShift x n ≤ 2147483647 := near_lo (by have := pow2_bd n; omega) (sat32_bd x)

def requant (acc mult shift zero : Int) : Int := sat8 (roundShift (mulHigh acc mult) shift + sat8 zero)
theorem requant_bd (a b c d : Int) : -128 ≤ requant a b c d ∧ requant a b c d ≤ 127 := sat8_bd _
theorem sat8_sat32 (x : Int) : sat8 (sat32 x) = sat8 x := by
  unfold sat8 sat32 clamp; split <;> (try split) <;> (try split) <;> (try split) <;> (try split) <;> (try split) <;> (try split) <;> (try split) <;> omega

def dotStep (s : Int) (p : Int × Int) : Int := addSat s (sat8 p.1 * sat8 p.2)
def dot (a b : List Int) : Int := (a.zip b).foldl dotStep 0
theorem dotStep_bd (s : Int) (p : Int × Int) : -2147483648 ≤ dotStep s p ∧ dotStep s p ≤ 2147483647 := addSat_bd _ _
theorem fold_bd (l : List (Int × Int)) (s : Int) (h : -2147483648 ≤ s ∧ s ≤ 2147483647) : -2147483648 ≤ l.foldl dotStep s ∧ l.foldl dotStep s ≤ 2147483647 := by
  induction l generalizing s with
  | nil => exact h
  | cons p r ih => exact ih _ (dotStep_bd s p)
theorem dot_bd (a b : List Int) : -2147483648 ≤ dot a b ∧ dot a b ≤ 2147483647 := fold_bd _ _ (by omega)
theorem dot_comm (a b : List Int) : dot a b = dot b a := by
  unfold dot
  have : ∀ (a b : List Int) (s : Int), (a.zip b).foldl dotStep s = (b.zip a).foldl dotStep s := by
    intro a
    induction a with
    | nil => intro b s; cases b <;> rfl
    | cons x r ih =>
      intro b s
      cases b with
      | nil => rfl
      | cons y t => simp only [List.zip_cons_cons, List.foldl_cons]; rw [show dotStep s (x, y) = dotStep s (y, x) by simp only [dotStep, Int.mul_comm]]; exact ih t _
  exact this a b 0
theorem sat8_mul_bd (a b : Int) : -16256 ≤ sat8 a * sat8 b ∧ sat8 a * sat8 b ≤ 16384 := by
  have ha := sat8_bd a
  have hb := sat8_bd b
  have h1 : (sat8 a).natAbs * (sat8 b).natAbs ≤ 128 * 128 := Nat.mul_le_mul (by omega) (by omega)
  rw [← Int.natAbs_mul] at h1
  refine ⟨?_, by omega⟩
  by_cases hp : 0 ≤ sat8 a
  · have : sat8 a * (-128) ≤ sat8 a * sat8 b := Int.mul_le_mul_of_nonneg_left (by omega) hp
    omega
  · by_cases hq : 0 ≤ sat8 b
    · have : (-128) * sat8 b ≤ sat8 a * sat8 b := Int.mul_le_mul_of_nonneg_right (by omega) hq
      omega
    · have : 0 ≤ sat8 a * sat8 b := Int.mul_nonneg_of_nonpos_of_nonpos (by omega) (by omega)
      omega
theorem dot_take (a b : List Int) (k : Nat) (h1 : k < a.length) (h2 : k < b.length) : dot (a.take (k + 1)) (b.take (k + 1)) = addSat (dot (a.take k) (b.take k)) (sat8 (a.getD k 0) * sat8 (b.getD k 0)) := by
  unfold dot
  have e : ((a.take (k + 1)).zip (b.take (k + 1))) = (a.take k).zip (b.take k) ++ [(a.getD k 0, b.getD k 0)] := by
    rw [List.take_succ_eq_append_getElem h1, List.take_succ_eq_append_getElem h2, List.zip_append (by simp; omega)]
    simp [List.getD_eq_getElem?_getD, h1, h2]
  rw [e, List.foldl_append]; rfl

/-- How many noughts ahead: from z, one less for each digit of x. -/
def noughts (z x : Int) : Int := if 0 < x then noughts (z - 1) (x / 10) else z
termination_by x.toNat
decreasing_by omega
theorem noughts_step {z x : Int} (h : 0 < x) : noughts z x = noughts (z - 1) (x / 10) := by rw [noughts, if_pos h]
theorem noughts_end {z x : Int} (h : ¬ 0 < x) : noughts z x = z := by rw [noughts, if_neg h]

def multFloor (m s : Int) : Int := clamp m 0 2147483647 * 1000000000 / 2147483648 / 2 ^ (clamp s 0 31).toNat
theorem multFloor_bd (m s : Int) : 0 ≤ multFloor m s ∧ multFloor m s ≤ 1000000000 := by
  have h := clamp_bd m 0 2147483647 (by omega)
  unfold multFloor
  have h1 : 0 ≤ clamp m 0 2147483647 * 1000000000 / 2147483648 ∧ clamp m 0 2147483647 * 1000000000 / 2147483648 ≤ 1000000000 := by omega
  have h2 : (0 : Int) < 2 ^ (clamp s 0 31).toNat := Int.pow_pos (by omega)
  have h3 := ediv_bd (B := 1000000000) h2 (by omega) h1.2 (by omega)
  exact ⟨Int.ediv_nonneg h1.1 (by omega), h3.2⟩

def shiftFrom (num den : Int) (n : Nat) : Nat := if n < 31 ∧ num * 2 ^ (n + 1) < den then shiftFrom num den (n + 1) else n
termination_by 31 - n
decreasing_by omega
theorem shiftFrom_more {num den : Int} {n : Nat} (h : n < 31) (h2 : num * 2 ^ (n + 1) < den) : shiftFrom num den n = shiftFrom num den (n + 1) := by rw [shiftFrom, if_pos ⟨h, h2⟩]
theorem shiftFrom_end {num den : Int} {n : Nat} (h : ¬ (n < 31 ∧ num * 2 ^ (n + 1) < den)) : shiftFrom num den n = n := by rw [shiftFrom, if_neg h]
theorem mul_pow_succ (a : Int) (k : Nat) : a * 2 ^ (k + 1) = 2 * (a * 2 ^ k) := by rw [Int.pow_succ, ← Int.mul_assoc, Int.mul_comm]
theorem mul_pow_pos {a : Int} (h : 0 < a) (k : Nat) : 0 < a * 2 ^ k := Int.mul_pos h (Int.pow_pos (by omega))
def multN (num den : Int) : Int := (shiftFrom num den 0 : Nat)
def multM (num den : Int) : Int := num * 2 ^ (shiftFrom num den 0) * 2147483648 / den
def multGood (num den : Int) : Bool := decide (0 < num ∧ num < den ∧ den ≤ 1000000)
end Go.Proofs.Ytihnpfcjnfkfjaa.Qt
