/- The groups of seven bits of a number: plain mathematics of the list of bytes that PutWide writes and of what TakeWide reads of a list. No program here. -/
import Derived.WalkKit
import Derived.ProofKit
namespace Go.Proofs.Ytodjackfolaifaa
namespace Qt
/-- A number folded to one from 0 on. -/
def foldW (x : Int) : Int := if x < 0 then -2 * x - 1 else 2 * x
def unfW (u : Int) : Int := if u % 2 = 1 then -((u + 1) / 2) else u / 2
theorem foldW_unfW (u : Int) (h : 0 ≤ u) : foldW (unfW u) = u := by
  unfold foldW unfW
  split <;> split <;> omega
theorem foldW_bd {x : Int} (h : -1099511627776 ≤ x ∧ x ≤ 1099511627775) : 0 ≤ foldW x ∧ foldW x < 2199023255552 := by
  unfold foldW; split <;> omega
theorem unfW_in {u : Int} (h : 0 ≤ u) : (-1099511627776 ≤ unfW u ∧ unfW u ≤ 1099511627775) ↔ u ≤ 2199023255551 := by
  unfold unfW; split <;> omega
/-- The groups of a number, k more of them at most. -/
def grW : Nat → Int → List Int
  | 0, u => [u]
  | k + 1, u => if u < 128 then [u] else (128 + u % 128) :: grW k (u / 128)
theorem grW_small (k : Nat) {u : Int} (h : u < 128) : grW k u = [u] := by cases k <;> simp [grW, h]
theorem grW_more (k : Nat) {u : Int} (h : 128 ≤ u) : grW (k + 1) u = (128 + u % 128) :: grW k (u / 128) := by
  rw [grW, if_neg (by omega)]
def inW (x : Int) : Prop := -1099511627776 ≤ x ∧ x ≤ 1099511627775
instance (x : Int) : Decidable (inW x) := by unfold inW; infer_instance
/-- The bytes of a number: none where it is out of its bounds. -/
def putW (x : Int) : List Int := if inW x then grW 5 (foldW x) else []
theorem putW_in {x : Int} (h : inW x) : putW x = grW 5 (foldW x) := if_pos h
theorem putW_out {x : Int} (h : ¬ inW x) : putW x = [] := if_neg h
/-- What is left of a number behind i groups stays below this. -/
def bdW (i : Nat) : Int := match i with | 0 => 2199023255552 | 1 => 17179869184 | 2 => 134217728 | 3 => 1048576 | 4 => 8192 | _ => 64
theorem bdW_step {i : Nat} {l : Int} (hi : i ≤ 5) (h : 128 ≤ l) (h2 : l < bdW i) : i < 5 ∧ l / 128 < bdW (i + 1) := by
  match i, hi with
  | 0, _ => simp only [bdW] at *; omega
  | 1, _ => simp only [bdW] at *; omega
  | 2, _ => simp only [bdW] at *; omega
  | 3, _ => simp only [bdW] at *; omega
  | 4, _ => simp only [bdW] at *; omega
  | 5, _ => simp only [bdW] at *; omega
theorem grW_len (k : Nat) (u : Int) : (grW k u).length ≤ k + 1 := by
  induction k generalizing u with
  | zero => simp [grW]
  | succ k ih =>
    rw [grW]; split
    · simp
    · have := ih (u / 128); simp; omega
theorem putW_len (x : Int) : (putW x).length ≤ 6 := by
  unfold putW; split
  · exact grW_len 5 _
  · simp
theorem grW_by (k : Nat) {u : Int} (h0 : 0 ≤ u) (hb : u < bdW (5 - k)) (hk : k ≤ 5) : ∀ x ∈ grW k u, 0 ≤ x ∧ x ≤ 255 := by
  induction k generalizing u with
  | zero => intro x hx; simp [grW] at hx; subst hx; have hb : x < 64 := hb; omega
  | succ k ih =>
    intro x hx
    by_cases h : u < 128
    · rw [grW_small _ h] at hx; simp at hx; omega
    · rw [grW_more _ (by omega)] at hx
      rcases List.mem_cons.1 hx with rfl | hx
      · omega
      · refine ih (by omega) ?_ (by omega) x hx
        have := (bdW_step (i := 5 - (k + 1)) (by omega) (by omega : 128 ≤ u) hb).2
        rwa [show 5 - (k + 1) + 1 = 5 - k by omega] at this
theorem putW_by (x : Int) : ∀ y ∈ putW x, 0 ≤ y ∧ y ≤ 255 := by
  by_cases h : inW x
  · rw [putW_in h]; have := foldW_bd h; exact grW_by 5 this.1 this.2 (by omega)
  · rw [putW_out h]; intro y hy; cases hy

def powW (i : Nat) : Int := 128 ^ i
theorem powW_succ (i : Nat) : powW (i + 1) = powW i * 128 := by unfold powW; rw [Int.pow_succ]
theorem powW_pos (i : Nat) : 0 < powW i := by induction i with | zero => decide | succ i ih => rw [powW_succ]; omega
theorem len1 (k : Nat) {u : Int} (h : u < 128) : (grW k u).length = 1 := by rw [grW_small k h]; rfl
theorem lenS (k : Nat) {u : Int} (h : 128 ≤ u) : (grW (k + 1) u).length = (grW k (u / 128)).length + 1 := by rw [grW_more k h]; rfl
/-- How many groups a number has. -/
theorem grW_count {u : Int} (_h0 : 0 ≤ u) (h : u < 2199023255552) : ∀ i : Nat, i ≤ 5 → ((grW 5 u).length = i + 1 ↔ ((i = 0 ∨ powW i ≤ u) ∧ u < powW (i + 1))) := by
  have e : powW 0 = 1 ∧ powW 1 = 128 ∧ powW 2 = 16384 ∧ powW 3 = 2097152 ∧ powW 4 = 268435456 ∧ powW 5 = 34359738368 ∧ powW 6 = 4398046511104 := by decide
  obtain ⟨e0, e1, e2, e3, e4, e5, e6⟩ := e
  have key : (u < 128 ∧ (grW 5 u).length = 1) ∨ (128 ≤ u ∧ u < 16384 ∧ (grW 5 u).length = 2) ∨ (16384 ≤ u ∧ u < 2097152 ∧ (grW 5 u).length = 3) ∨ (2097152 ≤ u ∧ u < 268435456 ∧ (grW 5 u).length = 4) ∨ (268435456 ≤ u ∧ u < 34359738368 ∧ (grW 5 u).length = 5) ∨ (34359738368 ≤ u ∧ (grW 5 u).length = 6) := by
    by_cases a1 : u < 128
    · rw [len1 _ a1]; omega
    rw [lenS _ (by omega)]
    by_cases a2 : u < 16384
    · rw [len1 _ (by omega)]; omega
    rw [lenS _ (by omega)]
    by_cases a3 : u < 2097152
    · rw [len1 _ (by omega)]; omega
    rw [lenS _ (by omega)]
    by_cases a4 : u < 268435456
    · rw [len1 _ (by omega)]; omega
    rw [lenS _ (by omega)]
    by_cases a5 : u < 34359738368
    · rw [len1 _ (by omega)]; omega
    rw [lenS _ (by omega)]
    rw [len1 _ (by omega)]; omega
  intro i hi
  generalize (grW 5 u).length = l at key ⊢
  obtain rfl | rfl | rfl | rfl | rfl | rfl : i = 0 ∨ i = 1 ∨ i = 2 ∨ i = 3 ∨ i = 4 ∨ i = 5 := by omega
  all_goals simp only [Nat.reduceAdd, Nat.zero_add, e0, e1, e2, e3, e4, e5, e6]
  all_goals (refine ⟨fun h => ?_, fun h => ?_⟩ <;> (try simp only [true_or, true_and] at h ⊢) <;> omega)
/-- Where the last group v stands behind i others that make u: as many bytes are written again, or it is none. -/
theorem putW_again {i : Nat} {u v : Int} (hi : i ≤ 5) (h0 : 0 ≤ u) (hu : u < powW i) (hv : 0 ≤ v) (hv2 : v < 128) :
    (putW (unfW (u + v * powW i))).length = i + 1 ↔ ¬ (v = 0 ∧ 0 < i ∨ 2199023255551 < u + v * powW i) := by
  have hp := powW_pos i
  have hm : 0 ≤ v * powW i := Int.mul_nonneg hv (by omega)
  have hs := powW_succ i
  have hm2 : v * powW i ≤ 127 * powW i := Int.mul_le_mul_of_nonneg_right (by omega) (by omega)
  by_cases hb : 2199023255551 < u + v * powW i
  · have : ¬ inW (unfW (u + v * powW i)) := fun h => by have := (unfW_in (u := u + v * powW i) (by omega)).1 h; omega
    rw [putW_out this]
    simp only [List.length_nil]
    constructor
    · intro h; omega
    · intro h; exact absurd (Or.inr hb) h
  · have : inW (unfW (u + v * powW i)) := (unfW_in (by omega)).2 (by omega)
    rw [putW_in this, foldW_unfW _ (by omega), grW_count (by omega) (by omega) i hi]
    constructor
    · rintro ⟨h1, h2⟩ (⟨rfl, h3⟩ | h3)
      · simp at h1; omega
      · omega
    · intro h
      refine ⟨?_, by omega⟩
      rcases Nat.eq_zero_or_pos i with h1 | h1
      · exact Or.inl h1
      · right
        have : v ≠ 0 := fun e => h (Or.inl ⟨e, h1⟩)
        have : 1 * powW i ≤ v * powW i := Int.mul_le_mul_of_nonneg_right (by omega) (by omega)
        omega
/-- What TakeWide makes of the groups from the i-th on, u being what stands ahead of them. -/
def tkW : List Int → Nat → Int → Option (Int × Nat)
  | [], _, _ => none
  | v :: vs, i, u => if 128 ≤ v then tkW vs (i + 1) (u + v % 128 * powW i) else if v = 0 ∧ 0 < i ∨ 2199023255551 < u + v * powW i then none else some (unfW (u + v * powW i), i + 1)
/-- The number that stands at a place, and where it ends; 0 and -1 where there is none. -/
def takeW (xs : List Int) (at_ : Int) : Int × Int :=
  if at_ < 0 ∨ (xs.length : Int) ≤ at_ then (0, -1) else match tkW ((xs.drop at_.toNat).take 6) 0 0 with
    | none => (0, -1)
    | some (x, k) => (x, at_ + (k : Nat))
end Qt
end Go.Proofs.Ytodjackfolaifaa
