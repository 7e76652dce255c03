/- Plain facts about the fields of a layer: what is within its bounds, and the shape behind it. No conditions but those that are named. -/
import Derived.Test.YtihnpfcjnfkfjaaTenOk
import Derived.Test.YtihnpfcjnfkfjaaBlk9
namespace Go.Proofs.Ytihnpfcjnfkfjaa
open Go.RowKit
namespace Qt
def inB (lo hi x : Int) : Bool := decide (lo ≤ x) && decide (x ≤ hi)
def allIn (lo hi : Int) (xs : List Int) : Bool := xs.all (inB lo hi)
theorem inB_yes {lo hi x : Int} (h : inB lo hi x = true) : lo ≤ x ∧ x ≤ hi := by simpa [inB] using h
theorem inB_iff {lo hi x : Int} : inB lo hi x = true ↔ (lo ≤ x ∧ x ≤ hi) := by simp [inB]
theorem inB_no {lo hi x : Int} (h : inB lo hi x = false) : ¬ (lo ≤ x ∧ x ≤ hi) := by
  intro h2; have := inB_iff.2 h2; rw [h] at this; cases this
theorem allIn_no {lo hi : Int} {xs : List Int} {k : Nat} (hk : k < xs.length) (h : inB lo hi (xs[k]?.getD 0) = false) : allIn lo hi xs = false := by
  rw [List.getElem?_eq_getElem hk, Option.getD_some] at h
  unfold allIn
  rw [List.all_eq_false]
  exact ⟨xs[k], List.getElem_mem hk, by simp [h]⟩
theorem allIn_yes {lo hi : Int} {xs : List Int} (h : ∀ j, j < xs.length → inB lo hi (xs[j]?.getD 0) = true) : allIn lo hi xs = true := by
  unfold allIn
  rw [List.all_eq_true]
  intro x hx
  obtain ⟨j, hj, rfl⟩ := List.mem_iff_getElem.1 hx
  have := h j hj
  rwa [List.getElem?_eq_getElem hj, Option.getD_some] at this
theorem allIn_at {lo hi : Int} {xs : List Int} (h : allIn lo hi xs = true) {j : Nat} (hj : j < xs.length) : lo ≤ xs[j]?.getD 0 ∧ xs[j]?.getD 0 ≤ hi := by
  unfold allIn at h
  rw [List.all_eq_true] at h
  rw [List.getElem?_eq_getElem hj, Option.getD_some]
  exact inB_yes (h _ (List.getElem_mem hj))
theorem allIn_one (lo hi x : Int) : allIn lo hi [x] = inB lo hi x := by simp [allIn]

def winB (s t : Int) : Bool := inB 1 3 s && inB 1 2 t
def emptyW (s t : Int) : Bool := decide (s = 0) && decide (t = 0)
def weighB (o m f z : Int) (xs ys : List Int) : Bool :=
  inB 1 8 o && (inB 0 2147483647 m && (inB 0 31 f && (inB (-128) 127 z && (decide ((ys.length : Int) = o) && (allIn (-1000000) 1000000 ys && allIn (-128) 127 xs)))))
def emptyF (o m f : Int) (xs ys : List Int) : Bool :=
  decide (o = 0) && (decide (m = 0) && (decide (f = 0) && (decide (xs.length = 0) && decide (ys.length = 0))))
def zeroB (k z : Int) : Bool := if k = 4 then inB (-128) 127 z else decide (z = 0)
def plainB (k o s t m f z : Int) (xs ys : List Int) (win weighs : Bool) : Bool :=
  (if win then winB s t else emptyW s t) && (if weighs then weighB o m f z xs ys else (emptyF o m f xs ys && zeroB k z))
/-- What filter.right of the program asks, with so many weights for each item. -/
def rightB (o m f z : Int) (xs ys : List Int) (each : Int) : Bool :=
  inB 1 8 o && (inB 0 2147483647 m && (inB 0 31 f && (inB (-128) 127 z && (decide ((xs.length : Int) = o * each) && (allIn (-128) 127 xs && (decide ((ys.length : Int) = o) && allIn (-1000000) 1000000 ys))))))
def fitsB (h w s t : Int) : Bool := inB 1 (min (min 3 h) w) s && inB 1 2 t
theorem rightB_eq (o m f z : Int) (xs ys : List Int) (each : Int) : rightB o m f z xs ys each = (weighB o m f z xs ys && decide ((xs.length : Int) = o * each)) := by
  unfold rightB weighB
  cases inB 1 8 o <;> cases inB 0 2147483647 m <;> cases inB 0 31 f <;> cases inB (-128) 127 z <;> cases allIn (-128) 127 xs <;> cases allIn (-1000000) 1000000 ys <;> cases decide ((xs.length : Int) = o * each) <;> cases decide ((ys.length : Int) = o) <;> rfl
theorem fitsB_eq (h w s t : Int) : fitsB h w s t = (winB s t && (decide (s ≤ h) && decide (s ≤ w))) := by
  rw [Bool.eq_iff_iff]
  simp only [fitsB, winB, Bool.and_eq_true, inB_iff, decide_eq_true_eq]
  omega

/-- The shape behind a layer, where there is one. -/
def outL (h w c k o s t m f z : Int) (xs ys : List Int) : Option (Int × Int × Int) :=
  if shOk h w c then
    if k = 0 then if emptyW s t && (decide (szOf h w c ≤ 64) && rightB o m f z xs ys (szOf h w c)) then some (1, 1, o) else none
    else if k = 1 then if fitsB h w s t && (rightB o m f z xs ys (s * s * c) && decide (xs.length ≤ 600)) then some ((h - s).tdiv t + 1, (w - s).tdiv t + 1, o) else none
    else if k = 2 ∨ k = 3 then if emptyF o m f xs ys && (decide (z = 0) && fitsB h w s t) then some ((h - s).tdiv t + 1, (w - s).tdiv t + 1, c) else none
    else if k = 4 then if emptyF o m f xs ys && (emptyW s t && inB (-128) 127 z) then some (h, w, c) else none
    else if k = 5 then if emptyF o m f xs ys && (emptyW s t && (decide (z = 0) && decide (szOf h w c ≤ 8))) then some (1, 1, szOf h w c) else none
    else none
  else none
def shV (r : Option (Int × Int × Int)) : Value := match r with
  | some (a, b, c) => .agg #[.int .i64 a, .int .i64 b, .int .i64 c]
  | none => .agg #[.int .i64 0, .int .i64 0, .int .i64 0]
def outV (r : Option (Int × Int × Int)) : Value := .tuple #[shV r, .bool r.isSome]

theorem tdiv_bd {a t : Int} (h0 : 0 ≤ a) (h1 : a ≤ 7) (h2 : 1 ≤ t) (h3 : t ≤ 2) : 0 ≤ a.tdiv t ∧ a.tdiv t ≤ 7 := by
  rw [Int.tdiv_eq_ediv_of_nonneg h0]
  obtain rfl | rfl : t = 1 ∨ t = 2 := by omega
  · omega
  · omega
theorem weigh_o {o m f z : Int} {xs ys : List Int} (h : weighB o m f z xs ys = true) : 1 ≤ o ∧ o ≤ 8 := by
  simp only [weighB, Bool.and_eq_true, inB_iff] at h; exact h.1
theorem mulBd {a b m n : Int} (h1 : 0 ≤ a) (h2 : a ≤ m) (h3 : 0 ≤ b) (h4 : b ≤ n) : 0 ≤ a * b ∧ a * b ≤ m * n :=
  ⟨Int.mul_nonneg h1 h3, Int.mul_le_mul h2 h4 h3 (by omega)⟩
theorem inS (lo hi x : Int) (W : World) : Calls Try.prog 47 #[.int .i64 x, .int .i64 lo, .int .i64 hi] W fun e W' => e = .returned (.bool (inB lo hi x)) ∧ W = W' := by
  rcases h : inB lo hi x with _ | _
  · exact inS_no x lo hi (inB_no h) W
  · exact inS_yes x lo hi (inB_yes h).1 (inB_yes h).2 W
end Qt
end Go.Proofs.Ytihnpfcjnfkfjaa
