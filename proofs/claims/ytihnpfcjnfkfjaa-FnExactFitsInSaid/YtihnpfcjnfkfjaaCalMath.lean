/- Plain numbers: reals in thousandths, scales, and what the functions of chapter 11 make of them. No conditions but those that are named. -/
import Derived.Test.YtihnpfcjnfkfjaaOutMath
namespace Go.Proofs.Ytihnpfcjnfkfjaa
namespace Qt
def realB (x : Int) : Bool := inB (-1000000000) 1000000000 x
def scB (n z : Int) : Bool := inB 1 1000000000 n && inB (-128) 127 z
theorem scB_iff {n z : Int} : scB n z = true ↔ (1 ≤ n ∧ n ≤ 1000000000 ∧ -128 ≤ z ∧ z ≤ 127) := by
  unfold scB; rw [Bool.and_eq_true, inB_iff, inB_iff, and_assoc]
theorem scB_no {n z : Int} (h : scB n z = false) : ¬ (1 ≤ n ∧ n ≤ 1000000000) ∨ ((1 ≤ n ∧ n ≤ 1000000000) ∧ ¬ (-128 ≤ z ∧ z ≤ 127)) := by
  by_cases h1 : 1 ≤ n ∧ n ≤ 1000000000
  · right; refine ⟨h1, fun h2 => ?_⟩
    have := scB_iff.2 ⟨h1.1, h1.2, h2.1, h2.2⟩
    rw [h] at this; cases this
  · exact Or.inl h1
/-- The eight-bit number that stands for x. -/
def inSc (x n z : Int) : Int := sat8 (near x n true + z)
def toI8 (x n z : Int) : Int := if realB x && scB n z then inSc x n z else 0
def backR (q n z : Int) : Int := clamp ((q - z) * n) (-1000000000) 1000000000
def fromI8 (q n z : Int) : Int := if scB n z then backR (sat8 q) n z else 0
theorem toI8_a {x n z : Int} (h : realB x = false) : toI8 x n z = 0 := by simp [toI8, h]
theorem toI8_b {x n z : Int} (h : scB n z = false) : toI8 x n z = 0 := by simp [toI8, h]
theorem toI8_c {x n z : Int} (h : realB x = true) (h2 : scB n z = true) : toI8 x n z = inSc x n z := by simp [toI8, h, h2]
theorem fromI8_a {q n z : Int} (h : scB n z = false) : fromI8 q n z = 0 := by simp [fromI8, h]
theorem fromI8_b {q n z : Int} (h : scB n z = true) : fromI8 q n z = backR (sat8 q) n z := by simp [fromI8, h]
theorem backR_bd (q n z : Int) : -1000000000 ≤ backR q n z ∧ backR q n z ≤ 1000000000 := clamp_bd _ _ _ (by omega)
theorem near_real {x n : Int} (hx : realB x = true) (h1 : 1 ≤ n) : -1000000000 ≤ near x n true ∧ near x n true ≤ 1000000000 := by
  have := inB_iff.1 hx
  exact near_bd (by omega) this.1 this.2
theorem prod_bd {q n z : Int} (hq : -128 ≤ q ∧ q ≤ 127) (hz : -128 ≤ z ∧ z ≤ 127) (hn : 1 ≤ n ∧ n ≤ 1000000000) : -255000000000 ≤ (q - z) * n ∧ (q - z) * n ≤ 255000000000 := by
  have h1 : -255 ≤ q - z := by omega
  have h2 : q - z ≤ 255 := by omega
  generalize q - z = d at h1 h2
  have a := Int.mul_le_mul_of_nonneg_right h1 (show 0 ≤ n by omega)
  have b := Int.mul_le_mul_of_nonneg_right h2 (show 0 ≤ n by omega)
  omega
theorem half_div (a b : Int) (hb : 0 < b) : (2 * a + b) / (2 * b) = (a + b / 2) / b := by
  have e1 := Int.emod_add_mul_ediv (a + b / 2) b
  have e2 := Int.emod_nonneg (a + b / 2) (Int.ne_of_gt hb)
  have e3 := Int.emod_lt_of_pos (a + b / 2) hb
  generalize hq : (a + b / 2) / b = q at *
  generalize (a + b / 2) % b = r at *
  have hp : 0 ≤ b % 2 := Int.emod_nonneg _ (by omega)
  have hp2 : b % 2 < 2 := Int.emod_lt_of_pos _ (by omega)
  have hb2 : b = 2 * (b / 2) + b % 2 := by omega
  have e : 2 * a + b = q * (2 * b) + (2 * r + b % 2) := by
    have : b * q * 2 = q * (2 * b) := by rw [Int.mul_comm b q, Int.mul_assoc, Int.mul_comm b 2]
    omega
  exact div_of (d := 2 * b) (k := q) (s := 2 * r + b % 2) (by omega) e (by omega) (by omega)
theorem near_pos {a b : Int} (hb : 0 < b) (ha : 0 ≤ a) : near a b true = (2 * a + b) / (2 * b) := by rw [near_away_pos hb ha, half_div a b hb]
theorem near_neg {a b : Int} (hb : 0 < b) (ha : a < 0) : near a b true = -((-2 * a + b) / (2 * b)) := by
  rw [near_away_neg hb ha, show -2 * a + b = 2 * (-a) + b by omega, half_div (-a) b hb]
/-- The least and the greatest of a list and 0. -/
def leastR (xs : List Int) : Int := xs.foldl min 0
def mostR (xs : List Int) : Int := xs.foldl max 0
theorem foldR_snoc {f : Int → Int → Int} (xs : List Int) (k : Nat) (hk : k < xs.length) (a : Int) : (xs.take (k + 1)).foldl f a = f ((xs.take k).foldl f a) (xs[k]?.getD 0) := by
  rw [List.take_succ_eq_append_getElem hk, List.foldl_append, List.getElem?_eq_getElem hk]; rfl
theorem leastR_snoc (xs : List Int) (k : Nat) (hk : k < xs.length) : leastR (xs.take (k + 1)) = min (leastR (xs.take k)) (xs[k]?.getD 0) := foldR_snoc xs k hk 0
theorem mostR_snoc (xs : List Int) (k : Nat) (hk : k < xs.length) : mostR (xs.take (k + 1)) = max (mostR (xs.take k)) (xs[k]?.getD 0) := foldR_snoc xs k hk 0
def allR (xs : List Int) : Bool := allIn (-1000000000) 1000000000 xs
theorem foldR_bd {f : Int → Int → Int} (hf : ∀ a b, f a b = a ∨ f a b = b) (lo hi : Int) (xs : List Int) : ∀ a, lo ≤ a ∧ a ≤ hi → (∀ x ∈ xs, lo ≤ x ∧ x ≤ hi) → lo ≤ xs.foldl f a ∧ xs.foldl f a ≤ hi := by
  induction xs with
  | nil => intro a h _; exact h
  | cons x t ih =>
    intro a h hx
    refine ih _ ?_ (fun y hy => hx y (List.mem_cons_of_mem _ hy))
    rcases hf a x with e | e <;> rw [e]
    · exact h
    · exact hx x (List.mem_cons_self ..)
theorem allR_mem {xs : List Int} (h : allR xs = true) : ∀ x ∈ xs, -1000000000 ≤ x ∧ x ≤ 1000000000 := by
  intro x hx
  unfold allR allIn at h
  exact inB_iff.1 (List.all_eq_true.1 h x hx)
theorem leastR_bd {xs : List Int} (h : ∀ x ∈ xs, -1000000000 ≤ x ∧ x ≤ 1000000000) : -1000000000 ≤ leastR xs ∧ leastR xs ≤ 0 := by
  refine ⟨(foldR_bd (f := min) (fun a b => by omega) (-1000000000) 1000000000 xs 0 (by omega) h).1, ?_⟩
  have : ∀ (xs : List Int) (a : Int), xs.foldl min a ≤ a := by
    intro xs; induction xs with
    | nil => intro a; exact Int.le_refl _
    | cons x t ih => intro a; have := ih (min a x); simp only [List.foldl_cons]; omega
  exact this xs 0
theorem mostR_bd {xs : List Int} (h : ∀ x ∈ xs, -1000000000 ≤ x ∧ x ≤ 1000000000) : 0 ≤ mostR xs ∧ mostR xs ≤ 1000000000 := by
  refine ⟨?_, (foldR_bd (f := max) (fun a b => by omega) (-1000000000) 1000000000 xs 0 (by omega) h).2⟩
  have : ∀ (xs : List Int) (a : Int), a ≤ xs.foldl max a := by
    intro xs; induction xs with
    | nil => intro a; exact Int.le_refl _
    | cons x t ih => intro a; have := ih (max a x); simp only [List.foldl_cons]; omega
  exact this xs 0
/-- RangeOfReals: are there 1 to 300 numbers, each a real? -/
def rngB (xs : List Int) : Bool := inB 1 300 (xs.length : Int) && allR xs
theorem rngB_yes {xs : List Int} (h : rngB xs = true) : (1 ≤ (xs.length : Int) ∧ (xs.length : Int) ≤ 300) ∧ allR xs = true := by
  unfold rngB at h; rw [Bool.and_eq_true, inB_iff] at h; exact h
/-- x divided by d, up. -/
def upD (x d : Int) : Int := (x + d - 1) / d
def numF (width steps : Int) : Int := max 1 (upD width steps)
theorem upD_neg (x d : Int) (hd : 0 < d) : upD x d = -((-x) / d) := by
  unfold upD
  have e1 := Int.emod_add_mul_ediv (-x) d
  have e2 := Int.emod_nonneg (-x) (Int.ne_of_gt hd)
  have e3 := Int.emod_lt_of_pos (-x) hd
  generalize (-x) / d = q at *
  generalize (-x) % d = r at *
  exact div_of (d := d) (k := -q) (s := d - 1 - r) hd (by rw [Int.neg_mul, Int.mul_comm q d]; omega) (by omega) (by omega)
theorem upD_bd {x d : Int} (hd : 0 < d) (h0 : 0 ≤ x) (h1 : x ≤ 2000000000) : 0 ≤ upD x d ∧ upD x d ≤ 2000000000 := by
  unfold upD
  refine ⟨Int.ediv_nonneg (by omega) (by omega), ?_⟩
  have : (x + d - 1) / d < 2000000001 := Int.ediv_lt_of_lt_mul hd (by
    have : 2000000000 * 1 ≤ 2000000000 * d := Int.mul_le_mul_of_nonneg_left (by omega) (by omega)
    omega)
  omega
def rngL (xs : List Int) : Int := if rngB xs then leastR xs else 0
def rngM (xs : List Int) : Int := if rngB xs then mostR xs else 0
def scNum (xs : List Int) : Int := if rngB xs then numF (mostR xs - leastR xs) 255 else 0
def scZero (xs : List Int) : Int := if rngB xs then sat8 (-128 + upD (-leastR xs) (numF (mostR xs - leastR xs) 255)) else 0
def symNum (xs : List Int) : Int := if rngB xs then numF (max (-leastR xs) (mostR xs)) 127 else 0
theorem numF_bd {w s : Int} (hs : 0 < s) (h0 : 0 ≤ w) (h1 : w ≤ 2000000000) : 1 ≤ numF w s ∧ numF w s ≤ 2000000000 := by
  have := upD_bd hs h0 h1; unfold numF; omega
theorem numF_le {w s B : Int} (hs : 0 < s) (h1 : w ≤ B * s) (hB : 1 ≤ B) : numF w s ≤ B := by
  have : upD w s < B + 1 := Int.ediv_lt_of_lt_mul hs (by rw [Int.add_mul]; omega)
  unfold numF; omega
def errR (x n z : Int) : Int := max (x - backR (inSc x n z) n z) (-(x - backR (inSc x n z) n z))
theorem errR_bd {x n z : Int} (h : realB x = true) : 0 ≤ errR x n z ∧ errR x n z ≤ 2000000000 := by
  have h1 := inB_iff.1 h
  have h2 := backR_bd (inSc x n z) n z
  unfold errR; omega
def worstR (xs : List Int) (n z : Int) : Int := xs.foldl (fun a x => max a (errR x n z)) 0
theorem worstR_snoc (xs : List Int) (k : Nat) (hk : k < xs.length) (n z : Int) : worstR (xs.take (k + 1)) n z = max (worstR (xs.take k) n z) (errR (xs[k]?.getD 0) n z) := by
  unfold worstR
  rw [List.take_succ_eq_append_getElem hk, List.foldl_append, List.getElem?_eq_getElem hk]; rfl
theorem worstR_bd (xs : List Int) (n z : Int) (h : ∀ x ∈ xs, realB x = true) : 0 ≤ worstR xs n z ∧ worstR xs n z ≤ 2000000000 := by
  have : ∀ (xs : List Int) (a : Int), (∀ x ∈ xs, realB x = true) → 0 ≤ a ∧ a ≤ 2000000000 → 0 ≤ xs.foldl (fun a x => max a (errR x n z)) a ∧ xs.foldl (fun a x => max a (errR x n z)) a ≤ 2000000000 := by
    intro xs; induction xs with
    | nil => intro a _ h; exact h
    | cons x t ih =>
      intro a hx h
      have := errR_bd (n := n) (z := z) (hx x (List.mem_cons_self ..))
      exact ih _ (fun y hy => hx y (List.mem_cons_of_mem _ hy)) (by dsimp only; omega)
  exact this xs 0 h (by omega)
def worstA (xs : List Int) (n z : Int) : Int := if rngB xs && scB n z then worstR xs n z else -1
theorem gcd_step {a b : Int} (hb : 0 < b) (ha : 0 ≤ a) : Nat.gcd b.toNat (a % b).toNat = Nat.gcd a.toNat b.toNat := by
  have : (a % b).toNat = a.toNat % b.toNat := by
    obtain ⟨m, rfl⟩ := Int.eq_ofNat_of_zero_le ha
    obtain ⟨n, rfl⟩ := Int.eq_ofNat_of_zero_le (by omega : 0 ≤ b)
    rfl
  rw [this, Nat.gcd_comm b.toNat, ← Nat.gcd_rec, Nat.gcd_comm]
end Qt
end Go.Proofs.Ytihnpfcjnfkfjaa
