/- Plain numbers: small whole numbers as floats of 64 bits: they add up, compare and come back as they are. No conditions but the bounds. -/
import Derived.Laws.FloatArith
import Derived.KernelRfl
import Derived.Lib.Hide
namespace Go.Proofs.Ytklefnmhknlilaa
namespace Qt
open Ieee
def Fl (n : Nat) : Nat := floatOfInt .f64 (n : Int)
theorem log2_shift (n s : Nat) (hn : 0 < n) : (n * 2 ^ s).log2 = n.log2 + s := by
  have h0 : n * 2 ^ s ≠ 0 := Nat.ne_of_gt (Nat.mul_pos hn (Nat.two_pow_pos s))
  have h1 : 2 ^ n.log2 ≤ n := Nat.log2_self_le (Nat.ne_of_gt hn)
  have h2 : n < 2 ^ (n.log2 + 1) := Nat.lt_log2_self
  refine (Nat.log2_eq_iff h0).2 ⟨?_, ?_⟩
  · rw [Nat.pow_add]; exact Nat.mul_le_mul_right _ h1
  · rw [show n.log2 + s + 1 = (n.log2 + 1) + s by omega, Nat.pow_add 2 (n.log2 + 1) s]
    exact Nat.mul_lt_mul_of_pos_right h2 (Nat.two_pow_pos s)
theorem cut_exact (neg : Bool) (x drop : Nat) (h : drop ≤ (x * 2 ^ drop).log2 + 2) : Toward.even.cut neg (x * 2 ^ drop) drop = x := by
  unfold Toward.cut
  have hm : min drop ((x * 2 ^ drop).log2 + 2) = drop := Nat.min_eq_left h
  simp only [hm, Nat.one_shiftLeft, Nat.mul_mod_left, Nat.mul_div_cancel _ (Nat.two_pow_pos drop)]
  have hp := Nat.two_pow_pos drop
  have e1 : decide (2 ^ drop < 2 * 0) = false := by simp
  have e2 : ((2 ^ drop : Nat) == 2 * 0) = false := by simp
  rw [e1, e2]
  simp
theorem nearest_scale (n s : Nat) (hn : 0 < n) (hl : n.log2 ≤ 20) : Format.nearest double false (n * 2 ^ s) (-(s : Int)) = Format.word double false (min ((((n.log2 : Int) - 52) - double.leastPlace).toNat * double.binade + n * 2 ^ (52 - n.log2)) double.infRung) := by
  have hL : double.leastPlace = -1074 := by decide
  have hF : double.fractionBits = 52 := rfl
  have h0 : n * 2 ^ s ≠ 0 := Nat.ne_of_gt (Nat.mul_pos hn (Nat.two_pow_pos s))
  unfold Format.nearest
  rw [if_neg h0]
  simp only [log2_shift n s hn, hF, hL]
  have hlast : max (-(s : Int) + ((n.log2 + s : Nat) : Int) - ((52 : Nat) : Int)) (-1074) = (n.log2 : Int) - 52 := by omega
  rw [hlast]
  have hk : Toward.even.cut false ((n * 2 ^ s) <<< (-(s : Int) - ((n.log2 : Int) - 52)).toNat) (((n.log2 : Int) - 52) - -(s : Int)).toNat = n * 2 ^ (52 - n.log2) := by
    by_cases hc : s + n.log2 ≤ 52
    · rw [show (((n.log2 : Int) - 52) - -(s : Int)).toNat = 0 by omega, Nat.shiftLeft_eq, Nat.mul_assoc, ← Nat.pow_add, show s + (-(s : Int) - ((n.log2 : Int) - 52)).toNat = 52 - n.log2 by omega]
      have := cut_exact false (n * 2 ^ (52 - n.log2)) 0 (by omega)
      simpa using this
    · rw [show (-(s : Int) - ((n.log2 : Int) - 52)).toNat = 0 by omega, Nat.shiftLeft_zero, show (((n.log2 : Int) - 52) - -(s : Int)).toNat = s + n.log2 - 52 by omega]
      have e : n * 2 ^ s = (n * 2 ^ (52 - n.log2)) * 2 ^ (s + n.log2 - 52) := by
        rw [Nat.mul_assoc, ← Nat.pow_add, show 52 - n.log2 + (s + n.log2 - 52) = s by omega]
      rw [e]
      refine cut_exact _ _ _ ?_
      rw [← e, log2_shift n s hn]
      omega
  rw [hk]
def ckRead (x : Nat) : Bool := decide ((Format.read double (Fl x)) = .number false (x * 2 ^ (52 - x.log2)) ((x.log2 : Int) - 52)) && decide (floatToIntVal .f64 (Fl x) .i64 = some (x : Int))
theorem allRead : ((List.range' 1 1024).all ckRead) = true := by decide +kernel
theorem fl_read {x : Nat} (h1 : 1 ≤ x) (h2 : x ≤ 1024) : Format.read double (Fl x) = .number false (x * 2 ^ (52 - x.log2)) ((x.log2 : Int) - 52) ∧ floatToIntVal .f64 (Fl x) .i64 = some (x : Int) := by
  have := List.all_eq_true.1 allRead x (by rw [List.mem_range']; exact ⟨x - 1, by omega, by omega⟩)
  simpa [ckRead] using this
theorem fl_zero : Fl 0 = 0 := by decide +kernel
theorem read_zero : Format.read double (Fl 0) = .number false 0 (-1074) := by decide +kernel
theorem fl_int {x : Nat} (h2 : x ≤ 1024) : floatToIntVal .f64 (Fl x) .i64 = some (x : Int) := by
  rcases Nat.eq_zero_or_pos x with rfl | h
  · decide +kernel
  · exact (fl_read h h2).2
theorem log2_small {x : Nat} (h : x ≤ 1024) : x.log2 ≤ 10 := by
  rcases Nat.eq_zero_or_pos x with rfl | h0
  · decide
  · have := (Nat.log2_lt (Nat.ne_of_gt h0) (k := 11)).2 (by omega)
    omega
theorem scale_eq (x : Nat) (hx : x.log2 ≤ 10) (base : Int) (hb : base ≤ (x.log2 : Int) - 52) (hb2 : base ≤ -42) : x * 2 ^ (52 - x.log2) * 2 ^ (((x.log2 : Int) - 52) - base).toNat = x * 2 ^ (-base).toNat := by
  rw [Nat.mul_assoc, ← Nat.pow_add]
  congr 2
  omega
theorem fl_add {a b : Nat} (ha : 1 ≤ a) (ha2 : a ≤ 512) (hb : 1 ≤ b) (hb2 : b ≤ 512) : FloatKind.f64.format.add (Fl a) (Fl b) = some (Fl (a + b)) := by
  have ra := (fl_read ha (by omega)).1
  have rb := (fl_read hb (by omega)).1
  have la := log2_small (x := a) (by omega)
  have lb := log2_small (x := b) (by omega)
  have lab := log2_small (x := a + b) (by omega)
  show ((Format.read double (Fl a)).sum (Format.read double (Fl b))).map double.write = _
  rw [ra, rb]
  obtain ⟨base, hbase⟩ : ∃ base : Int, base = min ((a.log2 : Int) - 52) ((b.log2 : Int) - 52) := ⟨_, rfl⟩
  have e1 := scale_eq a la base (by omega) (by omega)
  have e2 := scale_eq b lb base (by omega) (by omega)
  obtain ⟨s, hs⟩ : ∃ s : Nat, s = (-base).toNat := ⟨_, rfl⟩
  have hsb : base = -(s : Int) := by omega
  rw [← hs] at e1 e2
  have ht : signed false (a * 2 ^ (52 - a.log2)) (((a.log2 : Int) - 52) - base).toNat + signed false (b * 2 ^ (52 - b.log2)) (((b.log2 : Int) - 52) - base).toNat = (((a + b) * 2 ^ s : Nat) : Int) := by
    simp only [signed, Nat.shiftLeft_eq, e1, e2, Bool.false_eq_true, if_false]
    rw [Nat.add_mul]
    push_cast
    rfl
  have hpos : 0 < (a + b) * 2 ^ s := Nat.mul_pos (by omega) (Nat.two_pow_pos s)
  simp only [Datum.sum, ← hbase, ht, Option.map_some]
  have hz : ¬ ((((a + b) * 2 ^ s : Nat) : Int) = 0) := by omega
  rw [if_neg hz, show decide ((((a + b) * 2 ^ s : Nat) : Int) < 0) = false from decide_eq_false (Int.not_lt.2 (Int.natCast_nonneg _)), Int.natAbs_natCast]
  show some (Format.nearest double false _ _) = some (Format.nearest double (decide (((a + b : Nat) : Int) < 0)) ((a + b : Nat) : Int).natAbs 0)
  rw [show decide (((a + b : Nat) : Int) < 0) = false from decide_eq_false (Int.not_lt.2 (Int.natCast_nonneg _)), Int.natAbs_natCast, hsb, nearest_scale (a + b) s (by omega) (by omega)]
  have := nearest_scale (a + b) 0 (by omega) (by omega)
  simp only [Nat.pow_zero, Nat.mul_one, Int.natCast_zero, Int.neg_zero] at this
  rw [this]
theorem fl_add00 : FloatKind.f64.format.add (Fl 0) (Fl 0) = some (Fl 0) := by decide +kernel
theorem fl_gt {x y : Nat} (hx : 1 ≤ x) (hx2 : x ≤ 1024) (hy2 : y ≤ 1024) : (FloatKind.f64.format.order (Fl x) (Fl y) == some .gt) = decide (y < x) := by
  have rx := (fl_read hx hx2).1
  have lx := log2_small hx2
  have ly := log2_small hy2
  show ((Format.read double (Fl x)).order (Format.read double (Fl y)) == some .gt) = _
  rcases Nat.eq_zero_or_pos y with rfl | hy
  · rw [rx, read_zero]
    have hpos : 0 < x * 2 ^ (52 - x.log2) * 2 ^ (((x.log2 : Int) - 52) - min ((x.log2 : Int) - 52) (-1074)).toNat := Nat.mul_pos (Nat.mul_pos (by omega) (Nat.two_pow_pos _)) (Nat.two_pow_pos _)
    simp only [Datum.order, signed, Nat.shiftLeft_eq, Bool.false_eq_true, if_false, Nat.zero_mul]
    have : compare ((x * 2 ^ (52 - x.log2) * 2 ^ (((x.log2 : Int) - 52) - min ((x.log2 : Int) - 52) (-1074)).toNat : Nat) : Int) ((0 : Nat) : Int) = .gt := by
      rw [Int.compare_eq_gt]; omega
    rw [this]
    simp; omega
  · have ry := (fl_read hy hy2).1
    rw [rx, ry]
    obtain ⟨base, hbase⟩ : ∃ base : Int, base = min ((x.log2 : Int) - 52) ((y.log2 : Int) - 52) := ⟨_, rfl⟩
    have e1 := scale_eq x lx base (by omega) (by omega)
    have e2 := scale_eq y ly base (by omega) (by omega)
    simp only [Datum.order, signed, Nat.shiftLeft_eq, Bool.false_eq_true, if_false, ← hbase, e1, e2]
    have hp := Nat.two_pow_pos (-base).toNat
    generalize 2 ^ (-base).toNat = q at hp
    by_cases hlt : y < x
    · have h2 : y * q < x * q := Nat.mul_lt_mul_of_pos_right hlt hp
      have : compare ((x * q : Nat) : Int) ((y * q : Nat) : Int) = .gt := by rw [Int.compare_eq_gt]; omega
      rw [this]; simp [hlt]
    · have h2 : x * q ≤ y * q := Nat.mul_le_mul_right _ (by omega)
      have : compare ((x * q : Nat) : Int) ((y * q : Nat) : Int) ≠ .gt := by rw [Ne, Int.compare_eq_gt]; omega
      rw [decide_eq_false hlt]
      cases hcmp : compare ((x * q : Nat) : Int) ((y * q : Nat) : Int) with
      | gt => exact absurd hcmp this
      | lt => rfl
      | eq => rfl
end Qt
end Go.Proofs.Ytklefnmhknlilaa
