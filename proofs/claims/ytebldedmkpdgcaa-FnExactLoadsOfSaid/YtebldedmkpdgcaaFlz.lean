/- Plain numbers: whole numbers up to 2 to the 41 as floats of 64 bits: they compare, have a least and a greatest, and come back as they are. No conditions but the bounds. -/
import Derived.Laws.FloatArith
import Derived.KernelRfl
import Derived.Lib.Hide
namespace Go.Proofs.Ytebldedmkpdgcaa
namespace Qt
open Ieee
/-- The bits of a whole number as a float. -/
def FlI (z : Int) : Nat := floatOfInt .f64 z
theorem flz_def (z : Int) : FlI z = Format.nearest double (decide (z < 0)) z.natAbs 0 := rfl
theorem flz_cut (neg : Bool) (x : Nat) : Toward.even.cut neg x 0 = x := by
  unfold Toward.cut
  have hm : min 0 (x.log2 + 2) = 0 := Nat.min_eq_left (Nat.zero_le _)
  simp only [hm, Nat.one_shiftLeft, Nat.pow_zero, Nat.mod_one, Nat.div_one]
  simp
theorem flz_log (n s : Nat) (hn : 0 < n) : (n * 2 ^ s).log2 = n.log2 + s := by
  have h0 : n * 2 ^ s ≠ 0 := Nat.ne_of_gt (Nat.mul_pos hn (Nat.two_pow_pos s))
  have h1 : 2 ^ n.log2 ≤ n := Nat.log2_self_le (Nat.ne_of_gt hn)
  have h2 : n < 2 ^ (n.log2 + 1) := Nat.lt_log2_self
  refine (Nat.log2_eq_iff h0).2 ⟨?_, ?_⟩
  · rw [Nat.pow_add]; exact Nat.mul_le_mul_right _ h1
  · rw [show n.log2 + s + 1 = (n.log2 + 1) + s by omega, Nat.pow_add 2 (n.log2 + 1) s]
    exact Nat.mul_lt_mul_of_pos_right h2 (Nat.two_pow_pos s)
theorem flz_nearest (neg : Bool) (n : Nat) (hn : 0 < n) (hl : n.log2 ≤ 40) : Format.nearest double neg n 0 = Format.word double neg (((n.log2 : Nat) + 1022) * 4503599627370496 + n * 2 ^ (52 - n.log2)) := by
  have hL : double.leastPlace = -1074 := by decide
  have hF : double.fractionBits = 52 := rfl
  have hB : double.binade = 4503599627370496 := by decide
  have hI : double.infRung = 9218868437227405312 := by decide
  unfold Format.nearest
  rw [if_neg (by omega)]
  simp only [hF, hL, hB, hI]
  have hlast : max ((0 : Int) + (n.log2 : Int) - ((52 : Nat) : Int)) (-1074) = (n.log2 : Int) - 52 := by omega
  rw [hlast, show ((0 : Int) - ((n.log2 : Int) - 52)).toNat = 52 - n.log2 by omega, show (((n.log2 : Int) - 52) - (0 : Int)).toNat = 0 by omega, Nat.shiftLeft_eq, flz_cut]
  have hb : n * 2 ^ (52 - n.log2) < 2 ^ 53 := by
    have : (n * 2 ^ (52 - n.log2)).log2 = 52 := by rw [flz_log _ _ hn]; omega
    have h2 := @Nat.lt_log2_self (n * 2 ^ (52 - n.log2))
    rw [this] at h2
    exact h2
  have h53 : (2 : Nat) ^ 53 = 9007199254740992 := by decide
  rw [h53] at hb
  generalize n * 2 ^ (52 - n.log2) = M at hb
  rw [show (((n.log2 : Int) - 52) - -1074).toNat = n.log2 + 1022 by omega, Nat.min_eq_left (by omega)]
theorem flz_read (neg : Bool) (n : Nat) (hn : 0 < n) (hl : n.log2 ≤ 40) : Format.read double (Format.nearest double neg n 0) = .number neg (n * 2 ^ (52 - n.log2)) ((n.log2 : Int) - 52) := by
  rw [flz_nearest neg n hn hl]
  have hW : double.signWeight = 9223372036854775808 := by decide
  have hL : double.leastPlace = -1074 := by decide
  have hB : double.binade = 4503599627370496 := by decide
  have hI : double.infRung = 9218868437227405312 := by decide
  have hM : 4503599627370496 ≤ n * 2 ^ (52 - n.log2) ∧ n * 2 ^ (52 - n.log2) < 9007199254740992 := by
    have e : (n * 2 ^ (52 - n.log2)).log2 = 52 := by rw [flz_log _ _ hn]; omega
    have h0 : n * 2 ^ (52 - n.log2) ≠ 0 := Nat.ne_of_gt (Nat.mul_pos hn (Nat.two_pow_pos _))
    have h1 := Nat.log2_self_le h0
    have h2 := @Nat.lt_log2_self (n * 2 ^ (52 - n.log2))
    rw [e] at h1 h2
    exact ⟨h1, h2⟩
  generalize n * 2 ^ (52 - n.log2) = M at hM
  obtain ⟨h1, h2⟩ := hM
  generalize n.log2 = L at hl
  have hw : Format.word double neg ((L + 1022) * 4503599627370496 + M) = (if neg then 9223372036854775808 else 0) + ((L + 1022) * 4503599627370496 + M) := by
    unfold Format.word; rw [hW]; cases neg <;> simp
  have hr : Format.word double neg ((L + 1022) * 4503599627370496 + M) % 9223372036854775808 = (L + 1022) * 4503599627370496 + M := by
    rw [hw]; cases neg <;> simp <;> omega
  have hs : (Format.word double neg ((L + 1022) * 4503599627370496 + M) / 9223372036854775808 % 2 == 1) = neg := by
    rw [hw]; cases neg
    · have : (((if false = true then 9223372036854775808 else 0) + ((L + 1022) * 4503599627370496 + M)) / 9223372036854775808 % 2) = 0 := by simp; omega
      rw [this]; rfl
    · have : (((if true = true then 9223372036854775808 else 0) + ((L + 1022) * 4503599627370496 + M)) / 9223372036854775808 % 2) = 1 := by simp; omega
      rw [this]; rfl
  unfold Format.read
  simp only [hW, hL, hB, hI, hr, hs]
  rw [if_neg (by omega), if_pos (by omega)]
  have e1 : 4503599627370496 + ((L + 1022) * 4503599627370496 + M) % 4503599627370496 = M := by omega
  have e2 : (-1074 : Int) + ((((L + 1022) * 4503599627370496 + M) / 4503599627370496 - 1 : Nat) : Int) = (L : Int) - 52 := by omega
  rw [e1, e2]
theorem flz_zero : Format.read double (FlI 0) = .number false 0 (-1074) := by decide +kernel
/-- What a float of a whole number stands for. -/
theorem flz_num (z : Int) (h : z.natAbs < 2199023255552) : ∃ s m i, Format.read double (FlI z) = .number s m i ∧ i ≤ -12 ∧ (∀ base : Int, base ≤ i → signed s m (i - base).toNat = z * 2 ^ (-base).toNat) := by
  rcases Nat.eq_zero_or_pos z.natAbs with h0 | hp
  · have : z = 0 := by omega
    subst this
    exact ⟨_, _, _, flz_zero, by omega, fun base _ => by simp [signed]⟩
  · have hl : z.natAbs.log2 ≤ 40 := by
      have := (Nat.log2_lt (n := z.natAbs) (k := 41) (by omega)).2 (by omega)
      omega
    refine ⟨_, _, _, flz_def z ▸ flz_read _ _ hp hl, by omega, fun base hb => ?_⟩
    have e : z.natAbs * 2 ^ (52 - z.natAbs.log2) * 2 ^ ((((z.natAbs.log2 : Nat) : Int) - 52) - base).toNat = z.natAbs * 2 ^ (-base).toNat := by
      rw [Nat.mul_assoc, ← Nat.pow_add]
      congr 2
      omega
    unfold signed
    simp only [Nat.shiftLeft_eq, e]
    have hc : ((z.natAbs * 2 ^ (-base).toNat : Nat) : Int) = (z.natAbs : Int) * 2 ^ (-base).toNat := by push_cast; rfl
    rw [hc]
    by_cases hz : z < 0
    · rw [if_pos (by simpa using hz), show (z.natAbs : Int) = -z by omega, Int.neg_mul, Int.neg_neg]
    · rw [if_neg (by simpa using hz), show (z.natAbs : Int) = z by omega]
theorem flz_order (a b : Int) (ha : a.natAbs < 2199023255552) (hb : b.natAbs < 2199023255552) : FloatKind.f64.format.order (FlI a) (FlI b) = some (compare a b) := by
  obtain ⟨s, m, i, e1, _, f1⟩ := flz_num a ha
  obtain ⟨t, n, j, e2, _, f2⟩ := flz_num b hb
  show (Format.read double (FlI a)).order (Format.read double (FlI b)) = _
  rw [e1, e2]
  simp only [Datum.order]
  rw [f1 _ (Int.min_le_left _ _), f2 _ (Int.min_le_right _ _)]
  have hp : (0 : Int) < 2 ^ (-min i j).toNat := Int.pow_pos (by omega)
  generalize (2 : Int) ^ (-min i j).toNat = q at hp
  congr 1
  rcases Int.lt_trichotomy a b with h | h | h
  · rw [Int.compare_eq_lt.2 h, Int.compare_eq_lt.2 (Int.mul_lt_mul_of_pos_right h hp)]
  · subst h; rw [Int.compare_eq_eq.2 rfl, Int.compare_eq_eq.2 rfl]
  · rw [Int.compare_eq_gt.2 h, Int.compare_eq_gt.2 (Int.mul_lt_mul_of_pos_right h hp)]
theorem flz_int (z : Int) (h : z.natAbs < 2199023255552) : floatToIntVal .f64 (FlI z) .i64 = some z := by
  have ht : (FloatKind.f64.decode (FlI z)).toInt .zero = some z := by
    show (Format.read double (FlI z)).toInt .zero = some z
    rcases Nat.eq_zero_or_pos z.natAbs with h0 | hp
    · have : z = 0 := by omega
      subst this
      rw [flz_zero]; decide
    · have hl : z.natAbs.log2 ≤ 40 := by
        have := (Nat.log2_lt (n := z.natAbs) (k := 41) (by omega)).2 (by omega)
        omega
      rw [flz_def, flz_read _ _ hp hl]
      simp only [Datum.toInt, Datum.integral]
      have e : Toward.zero.cut (decide (z < 0)) ((z.natAbs * 2 ^ (52 - z.natAbs.log2)) <<< (((z.natAbs.log2 : Nat) : Int) - 52).toNat) (-(((z.natAbs.log2 : Nat) : Int) - 52)).toNat = z.natAbs := by
        rw [show (((z.natAbs.log2 : Nat) : Int) - 52).toNat = 0 by omega, Nat.shiftLeft_zero, show (-(((z.natAbs.log2 : Nat) : Int) - 52)).toNat = 52 - z.natAbs.log2 by omega]
        unfold Toward.cut
        have hm : min (52 - z.natAbs.log2) ((z.natAbs * 2 ^ (52 - z.natAbs.log2)).log2 + 2) = 52 - z.natAbs.log2 := by
          rw [flz_log _ _ hp]; omega
        simp only [hm, Nat.one_shiftLeft, Nat.mul_div_cancel _ (Nat.two_pow_pos _)]
        simp
      rw [e]
      unfold signed
      simp only [Nat.shiftLeft_zero]
      by_cases hz : z < 0
      · rw [if_pos (by simpa using hz)]; congr 1; omega
      · rw [if_neg (by simpa using hz)]; congr 1; omega
  have hmin : IntKind.i64.min = -9223372036854775808 := by decide
  have hmax : IntKind.i64.max = 9223372036854775807 := by decide
  unfold floatToIntVal
  rw [ht]
  simp only [hmin, hmax]
  rw [if_pos (by omega)]
theorem run_minF {P : Program} (ts : Array TypeId) (t : TypeId) (a b : Int) (ha : a.natAbs < 2199023255552) (hb : b.natAbs < 2199023255552) (w : World) : (Builtin.min_ ts t #[.float .f64 (FlI a), .float .f64 (FlI b)]).run P w = .ok (.float .f64 (FlI (min a b))) w := by
  have h := flz_order a b ha hb
  rcases Int.lt_trichotomy a b with h1 | h1 | h1
  · rw [Int.compare_eq_lt.2 h1] at h
    rw [Int.min_eq_left (by omega)]
    simp [Builtin.min_, Builtin.min2, h]
  · subst h1
    rw [Int.compare_eq_eq.2 rfl] at h
    rw [Int.min_self]
    simp [Builtin.min_, Builtin.min2, h]
  · rw [Int.compare_eq_gt.2 h1] at h
    rw [Int.min_eq_right (by omega)]
    simp [Builtin.min_, Builtin.min2, h]
theorem run_maxF {P : Program} (ts : Array TypeId) (t : TypeId) (a b : Int) (ha : a.natAbs < 2199023255552) (hb : b.natAbs < 2199023255552) (w : World) : (Builtin.max_ ts t #[.float .f64 (FlI a), .float .f64 (FlI b)]).run P w = .ok (.float .f64 (FlI (max a b))) w := by
  have h := flz_order a b ha hb
  rcases Int.lt_trichotomy a b with h1 | h1 | h1
  · rw [Int.compare_eq_lt.2 h1] at h
    rw [Int.max_eq_right (by omega)]
    simp [Builtin.max_, Builtin.max2, h]
  · subst h1
    rw [Int.compare_eq_eq.2 rfl] at h
    rw [Int.max_self]
    simp [Builtin.max_, Builtin.max2, h]
  · rw [Int.compare_eq_gt.2 h1] at h
    rw [Int.max_eq_left (by omega)]
    simp [Builtin.max_, Builtin.max2, h]
end Qt
end Go.Proofs.Ytebldedmkpdgcaa
