/- Plain facts about the fields of a layer: what is within its bounds, and the shape behind it. No conditions but those that are named. -/
import Derived.Test.YtihnpfcjnfkfjaaQSchA
import Derived.Deep.DeepFit
import Derived.Handy
import Derived.WalkSmall
import Derived.Lib.QuietBelow
import Derived.Deep.QuietTactic
import Derived.BigQuiet
namespace Go.Proofs.Ytihnpfcjnfkfjaa
open Go.RowKit
namespace Qt
def inB (lo hi x : Int) : Bool := decide (lo ≤ x) && decide (x ≤ hi)
def allIn (lo hi : Int) (xs : List Int) : Bool := xs.all (inB lo hi)
theorem inB_yes {lo hi x : Int} (h : inB lo hi x = true) : lo ≤ x ∧ x ≤ hi := by simpa [inB] using h
theorem inB_iff {lo hi x : Int} : inB lo hi x = true ↔ (lo ≤ x ∧ x ≤ hi) := by simp [inB]
theorem inB_no {lo hi x : Int} (h : inB lo hi x = false) : ¬ (lo ≤ x ∧ x ≤ hi) := by
  intro h2; have := inB_iff.2 h2; rw [h] at this; cases this
theorem allIn_no {lo hi : Int} {xs : List Int} {k : Nat} (hk : k < xs.length) (h : inB lo hi (xs[k]?.getD 0) = false) : allIn lo hi xs = false := by
  rw [List.getElem?_eq_getElem hk, Option.getD_some] at h
  unfold allIn
  rw [List.all_eq_false]
  exact ⟨xs[k], List.getElem_mem hk, by simp [h]⟩
theorem allIn_yes {lo hi : Int} {xs : List Int} (h : ∀ j, j < xs.length → inB lo hi (xs[j]?.getD 0) = true) : allIn lo hi xs = true := by
  unfold allIn
  rw [List.all_eq_true]
  intro x hx
  obtain ⟨j, hj, rfl⟩ := List.mem_iff_getElem.1 hx
  have := h j hj
  rwa [List.getElem?_eq_getElem hj, Option.getD_some] at this
theorem allIn_at {lo hi : Int} {xs : List Int} (h : allIn lo hi xs = true) {j : Nat} (hj : j < xs.length) : lo ≤ xs[j]?.getD 0 ∧ xs[j]?.getD 0 ≤ hi := by
  unfold allIn at h
  rw [List.all_eq_true] at h
  rw [List.getElem?_eq_getElem hj, Option.getD_some]
  exact inB_yes (h _ (List.getElem_mem hj))
theorem allIn_one (lo hi x : Int) : allIn lo hi [x] = inB lo hi x := by simp [allIn]

def winB (s t : Int) : Bool := inB 1 3 s && inB 1 2 t
def emptyW (s t : Int) : Bool := decide (s = 0) && decide (t = 0)
def weighB (o m f z : Int) (xs ys : List Int) : Bool :=
  inB 1 8 o && (inB 0 2147483647 m && (inB 0 31 f && (inB (-128) 127 z && (decide ((ys.length : Int) = o) && (allIn (-1000000) 1000000 ys && allIn (-128) 127 xs)))))
def emptyF (o m f : Int) (xs ys : List Int) : Bool :=
  decide (o = 0) && (decide (m = 0) && (decide (f = 0) && (decide (xs.length = 0) && decide (ys.length = 0))))
def zeroB (k z : Int) : Bool := if k = 4 then inB (-128) 127 z else decide (z = 0)
def plainB (k o s t m f z : Int) (xs ys : List Int) (win weighs : Bool) : Bool :=
  (if win then winB s t else emptyW s t) && (if weighs then weighB o m f z xs ys else (emptyF o m f xs ys && zeroB k z))
/-- What filter.right of the program asks, with so many weights for each item. -/
def rightB (o m f z : Int) (xs ys : List Int) (each : Int) : Bool :=
  inB 1 8 o && (inB 0 2147483647 m && (inB 0 31 f && (inB (-128) 127 z && (decide ((xs.length : Int) = o * each) && (allIn (-128) 127 xs && (decide ((ys.length : Int) = o) && allIn (-1000000) 1000000 ys))))))
def fitsB (h w s t : Int) : Bool := inB 1 (min (min 3 h) w) s && inB 1 2 t
theorem rightB_eq (o m f z : Int) (xs ys : List Int) (each : Int) : rightB o m f z xs ys each = (weighB o m f z xs ys && decide ((xs.length : Int) = o * each)) := by
  unfold rightB weighB
  cases inB 1 8 o <;> cases inB 0 2147483647 m <;> cases inB 0 31 f <;> cases inB (-128) 127 z <;> cases allIn (-128) 127 xs <;> cases allIn (-1000000) 1000000 ys <;> cases decide ((xs.length : Int) = o * each) <;> cases decide ((ys.length : Int) = o) <;> rfl
theorem fitsB_eq (h w s t : Int) : fitsB h w s t = (winB s t && (decide (s ≤ h) && decide (s ≤ w))) := by
  rw [Bool.eq_iff_iff]
  simp only [fitsB, winB, Bool.and_eq_true, inB_iff, decide_eq_true_eq]
  omega

/-- The shape behind a layer, where there is one. -/
def outL (h w c k o s t m f z : Int) (xs ys : List Int) : Option (Int × Int × Int) :=
  if shOk h w c then
    if k = 0 then if emptyW s t && (decide (szOf h w c ≤ 64) && rightB o m f z xs ys (szOf h w c)) then some (1, 1, o) else none
    else if k = 1 then if fitsB h w s t && (rightB o m f z xs ys (s * s * c) && decide (xs.length ≤ 600)) then some ((h - s).tdiv t + 1, (w - s).tdiv t + 1, o) else none
    else if k = 2 ∨ k = 3 then if emptyF o m f xs ys && (decide (z = 0) && fitsB h w s t) then some ((h - s).tdiv t + 1, (w - s).tdiv t + 1, c) else none
    else if k = 4 then if emptyF o m f xs ys && (emptyW s t && inB (-128) 127 z) then some (h, w, c) else none
    else if k = 5 then if emptyF o m f xs ys && (emptyW s t && (decide (z = 0) && decide (szOf h w c ≤ 8))) then some (1, 1, szOf h w c) else none
    else none
  else none
def shV (r : Option (Int × Int × Int)) : Value := match r with
  | some (a, b, c) => .agg #[.int .i64 a, .int .i64 b, .int .i64 c]
  | none => .agg #[.int .i64 0, .int .i64 0, .int .i64 0]
def outV (r : Option (Int × Int × Int)) : Value := .tuple #[shV r, .bool r.isSome]

theorem tdiv_bd {a t : Int} (h0 : 0 ≤ a) (h1 : a ≤ 7) (h2 : 1 ≤ t) (h3 : t ≤ 2) : 0 ≤ a.tdiv t ∧ a.tdiv t ≤ 7 := by
  rw [Int.tdiv_eq_ediv_of_nonneg h0]
  obtain rfl | rfl : t = 1 ∨ t = 2 := by omega
  · omega
  · omega
theorem weigh_o {o m f z : Int} {xs ys : List Int} (h : weighB o m f z xs ys = true) : 1 ≤ o ∧ o ≤ 8 := by
  simp only [weighB, Bool.and_eq_true, inB_iff] at h; exact h.1
theorem mulBd {a b m n : Int} (h1 : 0 ≤ a) (h2 : a ≤ m) (h3 : 0 ≤ b) (h4 : b ≤ n) : 0 ≤ a * b ∧ a * b ≤ m * n :=
  ⟨Int.mul_nonneg h1 h3, Int.mul_le_mul h2 h4 h3 (by omega)⟩
theorem inS (lo hi x : Int) (W : World) : Calls Try.prog 47 #[.int .i64 x, .int .i64 lo, .int .i64 hi] W fun e W' => e = .returned (.bool (inB lo hi x)) ∧ W = W' := by
  rcases h : inB lo hi x with _ | _
  · exact inS_no x lo hi (inB_no h) W
  · exact inS_yes x lo hi (inB_yes h).1 (inB_yes h).2 W
end Qt
end Go.Proofs.Ytihnpfcjnfkfjaa

namespace Go.Proofs.Ytihnpfcjnfkfjaa
open Go.RowKit Go.Sort
namespace Qt
theorem insideI (lo hi : Int) (A : Option Addr) (n p : Nat) (xs : List Int) (W : World) (hr : RdI W A n xs) (hn : n ≤ 1048576) :
    Calls Try.prog 86 #[.int .i64 lo, .int .i64 hi, .slice A n p] W fun e W' => e = .returned (.bool (allIn lo hi xs)) ∧ ∃ m, W' = W.drewN m := by
  have RA := Lib.hid hr
  have hn0 : (0 : Int) ≤ n := Int.natCast_nonneg n
  have hn1 : (n : Int) ≤ 1048576 := by omega
  obtain ⟨b, hb⟩ : ∃ b, allIn lo hi xs = b := ⟨_, rfl⟩
  rw [hb]
  have HB := Lib.hid hb
  clear hb hr hn
  go_enter Try.func86, Try.ntmps86
  go_wp2
  go_loopw [11] (fun x wr => ∃ kk : Nat, kk ≤ n ∧ x = .int .i64 kk ∧ (∃ m, wr = W.drewN m) ∧ Hid (∀ j, j < kk → inB lo hi (xs[j]?.getD 0) = true)) (fun x _ => n - (intOf x).toNat)
  case atStart => exact ⟨0, Nat.zero_le _, rfl, ⟨0, rfl⟩, Lib.hid (fun j hj => absurd hj (Nat.not_lt_zero _))⟩
  case round =>
    obtain ⟨kk, hk, rfl, ⟨m, rfl⟩, HR⟩ := hrel
    by_cases hlt : kk < n
    · obtain ⟨b', off, rfl, hbl, hcell⟩ := RA.out.2 (by omega)
      have hc1 := hcell kk hlt
      have hi1 : (kk : Int) < (n : Int) := by omega
      clear hcell hbl
      rcases hx : inB lo hi (xs[kk]?.getD 0) with _ | _
      · obtain rfl : b = false := by rw [← HB.out]; exact allIn_no (by have := RA.out.1; omega) hx
        have hx1 := inB_no hx
        clear hx
        by_cases hl : xs[kk]?.getD 0 < lo
        · go_wp2
          go_ret
          exact ⟨rfl, _, rfl⟩
        · have hl2 : hi < xs[kk]?.getD 0 := by omega
          go_wp2
          go_ret
          exact ⟨rfl, _, rfl⟩
      · have HX := Lib.hid hx
        obtain ⟨hx1, hx2⟩ := inB_yes hx
        clear hx
        go_wp2
        go_roundw
        case rel =>
          refine ⟨kk + 1, by omega, by go_num, ⟨_, rfl⟩, Lib.hid (fun j hj => ?_)⟩
          rcases (by omega : j < kk ∨ j = kk) with h1 | rfl
          · exact HR.out j h1
          · exact HX.out
        case measure => simp [intOf]; omega
    · obtain rfl : n = kk := by omega
      obtain rfl : b = true := by rw [← HB.out]; exact allIn_yes (fun j hj => HR.out j (by have := RA.out.1; omega))
      clear HR
      go_wp2
      go_ret
      exact ⟨rfl, _, rfl⟩
end Qt
end Go.Proofs.Ytihnpfcjnfkfjaa

namespace Go.Proofs.Ytihnpfcjnfkfjaa
open Go.RowKit Go.Sort
set_option linter.unusedSimpArgs false
namespace Qt
theorem RdI.one (w : World) (x : Int) (t : TypeId) : RdI (w.alloc (.cells #[.int .i64 x] t)) (some ⟨w.heap.size, 0, none⟩) 1 [x] := by
  refine ⟨rfl, fun _ => ⟨w.heap.size, 0, rfl, by simp, fun j hj => ?_⟩⟩
  obtain rfl : j = 0 := by omega
  exact (Bk.new w t #[.int .i64 x]).cell 0 rfl
theorem Bk.cell6 {w : World} {g : Nat} {t : TypeId} {x0 x1 x2 x3 x4 x5 : Value} (h : Bk w g t #[x0, x1, x2, x3, x4, x5]) : w.cell? ⟨g, 0, none⟩ = some x0 ∧ w.cell? ⟨g, 1, none⟩ = some x1 ∧ w.cell? ⟨g, 2, none⟩ = some x2 ∧ w.cell? ⟨g, 3, none⟩ = some x3 ∧ w.cell? ⟨g, 4, none⟩ = some x4 ∧ w.cell? ⟨g, 5, none⟩ = some x5 :=
  ⟨h.cell 0 rfl, h.cell 1 rfl, h.cell 2 rfl, h.cell 3 rfl, h.cell 4 rfl, h.cell 5 rfl⟩
theorem Bk.cell2 {w : World} {g : Nat} {t : TypeId} {x0 x1 : Value} (h : Bk w g t #[x0, x1]) : w.cell? ⟨g, 0, none⟩ = some x0 ∧ w.cell? ⟨g, 1, none⟩ = some x1 :=
  ⟨h.cell 0 rfl, h.cell 1 rfl⟩
theorem run_min3 {P : Program} (ts : Array TypeId) (t : TypeId) (x y z : Int) (w : World) : (Builtin.min_ ts t #[.int .i64 x, .int .i64 y, .int .i64 z]).run P w = .ok (.int .i64 (min (min x y) z)) w := by
  have h : min (min x y) z = if z < (if y < x then y else x) then z else (if y < x then y else x) := by repeat' split <;> omega
  rw [h]
  simp [Builtin.min_, Builtin.min2]
theorem insideB (lo hi : Int) (A : Option Addr) (n p : Nat) (xs : List Int) (W : World) (hr : RdI W A n xs) (hn : n ≤ 1048576) :
    Calls Try.prog 86 #[.int .i64 lo, .int .i64 hi, .slice A n p] W fun e W' => e = .returned (.bool (allIn lo hi xs)) ∧ Below W.heap.size W W' :=
  (insideI lo hi A n p xs W hr hn).mono fun _ _ ⟨h1, m, h2⟩ => ⟨h1, h2 ▸ below_drewN (Below.refl _ _) m⟩
end Qt
end Go.Proofs.Ytihnpfcjnfkfjaa

namespace Go.Proofs.Ytihnpfcjnfkfjaa
open Go.RowKit
namespace Qt

theorem wrap_pow2 (n : Int) : wrap64 (2 ^ (clamp n 0 31).toNat) = pow2 n := IntWalk.wrap64_in _ (by have := pow2_bd n; unfold pow2 at this; omega)
theorem cell_new0 {w : World} {x y : Value} {T b : Nat} (hb : b = w.heap.size) : (w.alloc (.cells #[x, y] T)).cell? ⟨b, 0, none⟩ = some x := by subst hb; simp [go_sem]
theorem cell_new1 {w : World} {x y : Value} {T b : Nat} (hb : b = w.heap.size) : (w.alloc (.cells #[x, y] T)).cell? ⟨b, 1, none⟩ = some y := by subst hb; simp [go_sem]
end Qt
end Go.Proofs.Ytihnpfcjnfkfjaa

namespace Go.Proofs.Ytihnpfcjnfkfjaa
namespace Qt
def realB (x : Int) : Bool := inB (-1000000000) 1000000000 x
def scB (n z : Int) : Bool := inB 1 1000000000 n && inB (-128) 127 z
theorem scB_iff {n z : Int} : scB n z = true ↔ (1 ≤ n ∧ n ≤ 1000000000 ∧ -128 ≤ z ∧ z ≤ 127) := by
  unfold scB; rw [Bool.and_eq_true, inB_iff, inB_iff, and_assoc]
theorem scB_no {n z : Int} (h : scB n z = false) : ¬ (1 ≤ n ∧ n ≤ 1000000000) ∨ ((1 ≤ n ∧ n ≤ 1000000000) ∧ ¬ (-128 ≤ z ∧ z ≤ 127)) := by
  by_cases h1 : 1 ≤ n ∧ n ≤ 1000000000
  · right; refine ⟨h1, fun h2 => ?_⟩
    have := scB_iff.2 ⟨h1.1, h1.2, h2.1, h2.2⟩
    rw [h] at this; cases this
  · exact Or.inl h1
/-- The eight-bit number that stands for x. -/
def inSc (x n z : Int) : Int := sat8 (near x n true + z)
def toI8 (x n z : Int) : Int := if realB x && scB n z then inSc x n z else 0
def backR (q n z : Int) : Int := clamp ((q - z) * n) (-1000000000) 1000000000
def fromI8 (q n z : Int) : Int := if scB n z then backR (sat8 q) n z else 0
theorem toI8_a {x n z : Int} (h : realB x = false) : toI8 x n z = 0 := by simp [toI8, h]
theorem toI8_b {x n z : Int} (h : scB n z = false) : toI8 x n z = 0 := by simp [toI8, h]
theorem toI8_c {x n z : Int} (h : realB x = true) (h2 : scB n z = true) : toI8 x n z = inSc x n z := by simp [toI8, h, h2]
theorem fromI8_a {q n z : Int} (h : scB n z = false) : fromI8 q n z = 0 := by simp [fromI8, h]
theorem fromI8_b {q n z : Int} (h : scB n z = true) : fromI8 q n z = backR (sat8 q) n z := by simp [fromI8, h]
theorem backR_bd (q n z : Int) : -1000000000 ≤ backR q n z ∧ backR q n z ≤ 1000000000 := clamp_bd _ _ _ (by omega)
theorem near_real {x n : Int} (hx : realB x = true) (h1 : 1 ≤ n) : -1000000000 ≤ near x n true ∧ near x n true ≤ 1000000000 := by
  have := inB_iff.1 hx
  exact near_bd (by omega) this.1 this.2
theorem prod_bd {q n z : Int} (hq : -128 ≤ q ∧ q ≤ 127) (hz : -128 ≤ z ∧ z ≤ 127) (hn : 1 ≤ n ∧ n ≤ 1000000000) : -255000000000 ≤ (q - z) * n ∧ (q - z) * n ≤ 255000000000 := by
  have h1 : -255 ≤ q - z := by omega
  have h2 : q - z ≤ 255 := by omega
  generalize q - z = d at h1 h2
  have a := Int.mul_le_mul_of_nonneg_right h1 (show 0 ≤ n by omega)
  have b := Int.mul_le_mul_of_nonneg_right h2 (show 0 ≤ n by omega)
  omega
theorem half_div (a b : Int) (hb : 0 < b) : (2 * a + b) / (2 * b) = (a + b / 2) / b := by
  have e1 := Int.emod_add_mul_ediv (a + b / 2) b
  have e2 := Int.emod_nonneg (a + b / 2) (Int.ne_of_gt hb)
  have e3 := Int.emod_lt_of_pos (a + b / 2) hb
  generalize hq : (a + b / 2) / b = q at *
  generalize (a + b / 2) % b = r at *
  have hp : 0 ≤ b % 2 := Int.emod_nonneg _ (by omega)
  have hp2 : b % 2 < 2 := Int.emod_lt_of_pos _ (by omega)
  have hb2 : b = 2 * (b / 2) + b % 2 := by omega
  have e : 2 * a + b = q * (2 * b) + (2 * r + b % 2) := by
    have : b * q * 2 = q * (2 * b) := by rw [Int.mul_comm b q, Int.mul_assoc, Int.mul_comm b 2]
    omega
  exact div_of (d := 2 * b) (k := q) (s := 2 * r + b % 2) (by omega) e (by omega) (by omega)
theorem near_pos {a b : Int} (hb : 0 < b) (ha : 0 ≤ a) : near a b true = (2 * a + b) / (2 * b) := by rw [near_away_pos hb ha, half_div a b hb]
theorem near_neg {a b : Int} (hb : 0 < b) (ha : a < 0) : near a b true = -((-2 * a + b) / (2 * b)) := by
  rw [near_away_neg hb ha, show -2 * a + b = 2 * (-a) + b by omega, half_div (-a) b hb]
/-- The least and the greatest of a list and 0. -/
def leastR (xs : List Int) : Int := xs.foldl min 0
def mostR (xs : List Int) : Int := xs.foldl max 0
theorem foldR_snoc {f : Int → Int → Int} (xs : List Int) (k : Nat) (hk : k < xs.length) (a : Int) : (xs.take (k + 1)).foldl f a = f ((xs.take k).foldl f a) (xs[k]?.getD 0) := by
  rw [List.take_succ_eq_append_getElem hk, List.foldl_append, List.getElem?_eq_getElem hk]; rfl
theorem leastR_snoc (xs : List Int) (k : Nat) (hk : k < xs.length) : leastR (xs.take (k + 1)) = min (leastR (xs.take k)) (xs[k]?.getD 0) := foldR_snoc xs k hk 0
theorem mostR_snoc (xs : List Int) (k : Nat) (hk : k < xs.length) : mostR (xs.take (k + 1)) = max (mostR (xs.take k)) (xs[k]?.getD 0) := foldR_snoc xs k hk 0
def allR (xs : List Int) : Bool := allIn (-1000000000) 1000000000 xs
theorem foldR_bd {f : Int → Int → Int} (hf : ∀ a b, f a b = a ∨ f a b = b) (lo hi : Int) (xs : List Int) : ∀ a, lo ≤ a ∧ a ≤ hi → (∀ x ∈ xs, lo ≤ x ∧ x ≤ hi) → lo ≤ xs.foldl f a ∧ xs.foldl f a ≤ hi := by
  induction xs with
  | nil => intro a h _; exact h
  | cons x t ih =>
    intro a h hx
    refine ih _ ?_ (fun y hy => hx y (List.mem_cons_of_mem _ hy))
    rcases hf a x with e | e <;> rw [e]
    · exact h
    · exact hx x (List.mem_cons_self ..)
theorem allR_mem {xs : List Int} (h : allR xs = true) : ∀ x ∈ xs, -1000000000 ≤ x ∧ x ≤ 1000000000 := by
  intro x hx
  unfold allR allIn at h
  exact inB_iff.1 (List.all_eq_true.1 h x hx)
theorem leastR_bd {xs : List Int} (h : ∀ x ∈ xs, -1000000000 ≤ x ∧ x ≤ 1000000000) : -1000000000 ≤ leastR xs ∧ leastR xs ≤ 0 := by
  refine ⟨(foldR_bd (f := min) (fun a b => by omega) (-1000000000) 1000000000 xs 0 (by omega) h).1, ?_⟩
  have : ∀ (xs : List Int) (a : Int), xs.foldl min a ≤ a := by
    intro xs; induction xs with
    | nil => intro a; exact Int.le_refl _
    | cons x t ih => intro a; have := ih (min a x); simp only [List.foldl_cons]; omega
  exact this xs 0
theorem mostR_bd {xs : List Int} (h : ∀ x ∈ xs, -1000000000 ≤ x ∧ x ≤ 1000000000) : 0 ≤ mostR xs ∧ mostR xs ≤ 1000000000 := by
  refine ⟨?_, (foldR_bd (f := max) (fun a b => by omega) (-1000000000) 1000000000 xs 0 (by omega) h).2⟩
  have : ∀ (xs : List Int) (a : Int), a ≤ xs.foldl max a := by
    intro xs; induction xs with
    | nil => intro a; exact Int.le_refl _
    | cons x t ih => intro a; have := ih (max a x); simp only [List.foldl_cons]; omega
  exact this xs 0
/-- RangeOfReals: are there 1 to 300 numbers, each a real? -/
def rngB (xs : List Int) : Bool := inB 1 300 (xs.length : Int) && allR xs
theorem rngB_yes {xs : List Int} (h : rngB xs = true) : (1 ≤ (xs.length : Int) ∧ (xs.length : Int) ≤ 300) ∧ allR xs = true := by
  unfold rngB at h; rw [Bool.and_eq_true, inB_iff] at h; exact h
/-- x divided by d, up. -/
def upD (x d : Int) : Int := (x + d - 1) / d
def numF (width steps : Int) : Int := max 1 (upD width steps)
theorem upD_neg (x d : Int) (hd : 0 < d) : upD x d = -((-x) / d) := by
  unfold upD
  have e1 := Int.emod_add_mul_ediv (-x) d
  have e2 := Int.emod_nonneg (-x) (Int.ne_of_gt hd)
  have e3 := Int.emod_lt_of_pos (-x) hd
  generalize (-x) / d = q at *
  generalize (-x) % d = r at *
  exact div_of (d := d) (k := -q) (s := d - 1 - r) hd (by rw [Int.neg_mul, Int.mul_comm q d]; omega) (by omega) (by omega)
theorem upD_bd {x d : Int} (hd : 0 < d) (h0 : 0 ≤ x) (h1 : x ≤ 2000000000) : 0 ≤ upD x d ∧ upD x d ≤ 2000000000 := by
  unfold upD
  refine ⟨Int.ediv_nonneg (by omega) (by omega), ?_⟩
  have : (x + d - 1) / d < 2000000001 := Int.ediv_lt_of_lt_mul hd (by
    have : 2000000000 * 1 ≤ 2000000000 * d := Int.mul_le_mul_of_nonneg_left (by omega) (by omega)
    omega)
  omega
def rngL (xs : List Int) : Int := if rngB xs then leastR xs else 0
def rngM (xs : List Int) : Int := if rngB xs then mostR xs else 0
def scNum (xs : List Int) : Int := if rngB xs then numF (mostR xs - leastR xs) 255 else 0
def scZero (xs : List Int) : Int := if rngB xs then sat8 (-128 + upD (-leastR xs) (numF (mostR xs - leastR xs) 255)) else 0
def symNum (xs : List Int) : Int := if rngB xs then numF (max (-leastR xs) (mostR xs)) 127 else 0
theorem numF_bd {w s : Int} (hs : 0 < s) (h0 : 0 ≤ w) (h1 : w ≤ 2000000000) : 1 ≤ numF w s ∧ numF w s ≤ 2000000000 := by
  have := upD_bd hs h0 h1; unfold numF; omega
theorem numF_le {w s B : Int} (hs : 0 < s) (h1 : w ≤ B * s) (hB : 1 ≤ B) : numF w s ≤ B := by
  have : upD w s < B + 1 := Int.ediv_lt_of_lt_mul hs (by rw [Int.add_mul]; omega)
  unfold numF; omega
def errR (x n z : Int) : Int := max (x - backR (inSc x n z) n z) (-(x - backR (inSc x n z) n z))
theorem errR_bd {x n z : Int} (h : realB x = true) : 0 ≤ errR x n z ∧ errR x n z ≤ 2000000000 := by
  have h1 := inB_iff.1 h
  have h2 := backR_bd (inSc x n z) n z
  unfold errR; omega
def worstR (xs : List Int) (n z : Int) : Int := xs.foldl (fun a x => max a (errR x n z)) 0
theorem worstR_snoc (xs : List Int) (k : Nat) (hk : k < xs.length) (n z : Int) : worstR (xs.take (k + 1)) n z = max (worstR (xs.take k) n z) (errR (xs[k]?.getD 0) n z) := by
  unfold worstR
  rw [List.take_succ_eq_append_getElem hk, List.foldl_append, List.getElem?_eq_getElem hk]; rfl
theorem worstR_bd (xs : List Int) (n z : Int) (h : ∀ x ∈ xs, realB x = true) : 0 ≤ worstR xs n z ∧ worstR xs n z ≤ 2000000000 := by
  have : ∀ (xs : List Int) (a : Int), (∀ x ∈ xs, realB x = true) → 0 ≤ a ∧ a ≤ 2000000000 → 0 ≤ xs.foldl (fun a x => max a (errR x n z)) a ∧ xs.foldl (fun a x => max a (errR x n z)) a ≤ 2000000000 := by
    intro xs; induction xs with
    | nil => intro a _ h; exact h
    | cons x t ih =>
      intro a hx h
      have := errR_bd (n := n) (z := z) (hx x (List.mem_cons_self ..))
      exact ih _ (fun y hy => hx y (List.mem_cons_of_mem _ hy)) (by dsimp only; omega)
  exact this xs 0 h (by omega)
def worstA (xs : List Int) (n z : Int) : Int := if rngB xs && scB n z then worstR xs n z else -1
theorem gcd_step {a b : Int} (hb : 0 < b) (ha : 0 ≤ a) : Nat.gcd b.toNat (a % b).toNat = Nat.gcd a.toNat b.toNat := by
  have : (a % b).toNat = a.toNat % b.toNat := by
    obtain ⟨m, rfl⟩ := Int.eq_ofNat_of_zero_le ha
    obtain ⟨n, rfl⟩ := Int.eq_ofNat_of_zero_le (by omega : 0 ≤ b)
    rfl
  rw [this, Nat.gcd_comm b.toNat, ← Nat.gcd_rec, Nat.gcd_comm]
end Qt
end Go.Proofs.Ytihnpfcjnfkfjaa

namespace Go.Proofs.Ytihnpfcjnfkfjaa
open Go.RowKit Go.Sort
set_option linter.unusedSimpArgs false
set_option linter.unusedVariables false
namespace Qt
theorem new2 (W : World) (t : TypeId) (x y : Value) : (W.alloc (.cells #[x, y] t)).cell? ⟨W.heap.size, 0, none⟩ = some x ∧ (W.alloc (.cells #[x, y] t)).cell? ⟨W.heap.size, 1, none⟩ = some y :=
  ⟨(Bk.new W t #[x, y]).cell 0 rfl, (Bk.new W t #[x, y]).cell 1 rfl⟩
theorem flipv {P : Program} {f : FuncId} {args : Array Value} {w : World} {v : Value} (h : Calls P f args w fun e w' => e = .returned v ∧ w = w') : Calls P f args w fun e w' => e = .returned v ∧ w' = w :=
  h.mono fun _ _ ⟨he, hm⟩ => ⟨he, hm.symm⟩
theorem below_of_drewN0 {P : Program} {f : FuncId} {args : Array Value} {w : World} {v : Value} (h : Calls P f args w fun e w' => e = .returned v ∧ w = w') : Calls P f args w fun e w' => e = .returned v ∧ Below w.heap.size w w' :=
  h.mono fun _ _ ⟨he, hm⟩ => ⟨he, hm ▸ Below.refl _ _⟩
theorem inside1I (lo hi x : Int) (g : Nat) (t : TypeId) (W : World) (h : Bk W g t #[.int .i64 x]) :
    Calls Try.prog 86 #[.int .i64 lo, .int .i64 hi, .slice (some ⟨g, 0, none⟩) 1 1] W fun e W' => e = .returned (.bool (inB lo hi x)) ∧ Below W.heap.size W W' := by
  rw [← allIn_one]
  exact insideB lo hi _ 1 1 [x] W ⟨rfl, fun _ => ⟨g, 0, rfl, h.lt, fun j hj => by
    obtain rfl : j = 0 := by omega
    exact h.cell 0 rfl⟩⟩ (by omega)
end Qt
end Go.Proofs.Ytihnpfcjnfkfjaa

namespace Go.Proofs.Ytihnpfcjnfkfjaa
open Go.RowKit Go.Sort
set_option linter.unusedSimpArgs false
set_option linter.unusedVariables false
namespace Qt
section
variable {w w' : World} {g : Nat} {t : TypeId} {cs : Array Value}
theorem Bk.cell5 {a b c d e : Value} (h : Bk w g t #[a, b, c, d, e]) : w.cell? ⟨g, 0, none⟩ = some a ∧ w.cell? ⟨g, 1, none⟩ = some b ∧ w.cell? ⟨g, 2, none⟩ = some c ∧ w.cell? ⟨g, 3, none⟩ = some d ∧ w.cell? ⟨g, 4, none⟩ = some e :=
  ⟨h.cell 0 rfl, h.cell 1 rfl, h.cell 2 rfl, h.cell 3 rfl, h.cell 4 rfl⟩
theorem Bk.free5 (h : Bk w g t cs) : w.frozen? ⟨g, 0, none⟩ = false ∧ w.frozen? ⟨g, 1, none⟩ = false ∧ w.frozen? ⟨g, 2, none⟩ = false ∧ w.frozen? ⟨g, 3, none⟩ = false ∧ w.frozen? ⟨g, 4, none⟩ = false := ⟨h.frozen 0, h.frozen 1, h.frozen 2, h.frozen 3, h.frozen 4⟩
def wset5 (w : World) (g : Nat) (a b c d e : Value) : World := ((((w.setCell ⟨g, 0, none⟩ a).setCell ⟨g, 1, none⟩ b).setCell ⟨g, 2, none⟩ c).setCell ⟨g, 3, none⟩ d).setCell ⟨g, 4, none⟩ e
theorem Bk.set5 {a b c d e x y z u v : Value} (h : Bk w g t #[a, b, c, d, e]) : Bk (wset5 w g x y z u v) g t #[x, y, z, u, v] := ((((h.set 0 x).set 1 y).set 2 z).set 3 u).set 4 v
theorem RdI.set5 {n : Nat} {xs : List Int} {g' : Nat} (h : RdI w (some ⟨g', 0, none⟩) n xs) (hne : g' ≠ g) (x y z u v : Value) : RdI (wset5 w g x y z u v) (some ⟨g', 0, none⟩) n xs :=
  ((((h.far (p := ⟨g, 0, none⟩) hne x).far (p := ⟨g, 1, none⟩) hne y).far (p := ⟨g, 2, none⟩) hne z).far (p := ⟨g, 3, none⟩) hne u).far (p := ⟨g, 4, none⟩) hne v
theorem below_set5 {B : Nat} {W : World} (h : Below B W w) (hB : B ≤ g) (x y z u v : Value) : Below B W (wset5 w g x y z u v) :=
  ((((h.setCell (p := ⟨g, 0, none⟩) hB x).setCell (p := ⟨g, 1, none⟩) hB y).setCell (p := ⟨g, 2, none⟩) hB z).setCell (p := ⟨g, 3, none⟩) hB u).setCell (p := ⟨g, 4, none⟩) hB v
end
/-- A task as a value. -/
abbrev Tk (id : Int) (A : Option Addr) (n p : Nat) (a d b : Int) : Value := .agg #[.int .i64 id, .slice A n p, .int .i64 a, .int .i64 d, .int .i64 b]
def NewTk (W : World) (id a d b : Int) (n : Nat) (xs : List Int) (e : Ending) (W' : World) : Prop :=
  ∃ g, e = .returned (.agg #[.int .i64 id, .slice (some ⟨g, 0, none⟩) n n, .int .i64 a, .int .i64 d, .int .i64 b]) ∧ W.heap.size ≤ g ∧ RdI W' (some ⟨g, 0, none⟩) n xs ∧ Below W.heap.size W W'
set_option maxHeartbeats 1000000 in
theorem toTaskL (id : Int) (A : Option Addr) (n p : Nat) (xs : List Int) (a d b : Int) (W : World) (hr : RdI W A n xs) (hn : n ≤ 1048576) :
    Calls Try.prog 71 #[.agg #[.int .i64 id, .slice A n p, .int .i64 a, .int .i64 d, .int .i64 b]] W (NewTk W id a d b n xs) := by
  have HN := Lib.hid hn
  have k0 := ((Bk.new W 83 #[.int .i64 id, .slice A n p, .int .i64 a, .int .i64 d, .int .i64 b]).alloc (.cells #[.int .i64 0, .slice none 0 0, .int .i64 0, .int .i64 0, .int .i64 0] 53)).alloc (.cells #[.int .i64 id, .slice none 0 0, .int .i64 0, .int .i64 0, .int .i64 0] 53)
  have k2 := (Bk.new (W.alloc (.cells #[.int .i64 id, .slice A n p, .int .i64 a, .int .i64 d, .int .i64 b] 83)) 53 #[.int .i64 0, .slice none 0 0, .int .i64 0, .int .i64 0, .int .i64 0]).alloc (.cells #[.int .i64 id, .slice none 0 0, .int .i64 0, .int .i64 0, .int .i64 0] 53)
  have k3 := Bk.new ((W.alloc (.cells #[.int .i64 id, .slice A n p, .int .i64 a, .int .i64 d, .int .i64 b] 83)).alloc (.cells #[.int .i64 0, .slice none 0 0, .int .i64 0, .int .i64 0, .int .i64 0] 53)) 53 #[.int .i64 id, .slice none 0 0, .int .i64 0, .int .i64 0, .int .i64 0]
  have b0 : Below W.heap.size W (((W.alloc (.cells #[.int .i64 id, .slice A n p, .int .i64 a, .int .i64 d, .int .i64 b] 83)).alloc (.cells #[.int .i64 0, .slice none 0 0, .int .i64 0, .int .i64 0, .int .i64 0] 53)).alloc (.cells #[.int .i64 id, .slice none 0 0, .int .i64 0, .int .i64 0, .int .i64 0] 53)) := (((Below.refl _ W).alloc (Nat.le_refl _) _).alloc (by simp) _).alloc (by simp only [World.size_alloc]; omega) _
  simp only [World.size_alloc] at k2 k3
  have G2 := Lib.hid (show W.heap.size ≤ W.heap.size + 1 by omega)
  have G3 := Lib.hid (show W.heap.size ≤ W.heap.size + 1 + 1 by omega)
  have N02 := Lib.hid (show W.heap.size ≠ W.heap.size + 1 + 1 by omega)
  have N23 := Lib.hid (show W.heap.size + 1 ≠ W.heap.size + 1 + 1 by omega)
  have HR := Lib.hid (hr.of_below b0)
  have K0 := Lib.hid k0; have K2 := Lib.hid k2; have K3 := Lib.hid k3; have B1 := Lib.hid b0
  clear hn hr k0 k2 k3 b0
  go_enter Try.func71, Try.ntmps71
  go_wp2_with fail
  generalize ((W.alloc (.cells #[.int .i64 id, .slice A n p, .int .i64 a, .int .i64 d, .int .i64 b] 83)).alloc (.cells #[.int .i64 0, .slice none 0 0, .int .i64 0, .int .i64 0, .int .i64 0] 53)).alloc (.cells #[.int .i64 id, .slice none 0 0, .int .i64 0, .int .i64 0, .int .i64 0] 53) = w1 at K0 K2 K3 B1 HR ⊢
  generalize W.heap.size + 1 + 1 = g3 at K3 G3 N02 N23 ⊢
  generalize W.heap.size + 1 = g2 at K2 G2 N23 ⊢
  refine (toIntS_fresh A n p xs _ HR.out HN.out).mono ?_
  rintro e w5 ⟨g, rfl, hg, hg5, r5, b5⟩
  have hg3 := K3.out.lt
  have hg2 := K2.out.lt
  have NG := Lib.hid (show g ≠ g3 ∧ g ≠ g2 by omega)
  have LG := Lib.hid (show W.heap.size ≤ g from Nat.le_trans B1.out.size hg)
  replace K0 := Lib.hid (K0.out.below b5)
  replace K2 := Lib.hid (K2.out.below b5)
  replace K3 := Lib.hid (K3.out.below b5)
  have B5 := Lib.hid (B1.out.trans (b5.mono B1.out.size))
  have R5 := Lib.hid r5
  clear hg3 hg2 hg hg5 r5 b5 B1 HR HN
  obtain ⟨c0, c1, c2, c3, c4⟩ := K0.out.cell5
  obtain ⟨d0, d1, d2, d3, d4⟩ := K3.out.cell5
  obtain ⟨f0, f1, f2, f3, f4⟩ := K3.out.free5
  obtain ⟨i0, i1, i2, i3, i4⟩ := K2.out.cell5
  obtain ⟨j0, j1, j2, j3, j4⟩ := K2.out.free5
  have hne : g2 ≠ g3 := N23.out
  have hne0 : W.heap.size ≠ g3 := N02.out
  have l3 := K3.out.lt
  go_wp2_with fail
  have k9 : Bk (wset5 ((((w5.setCell ⟨g3, 1, none⟩ (.slice (some ⟨g, 0, none⟩) n n)).setCell ⟨g3, 2, none⟩ (.int .i64 a)).setCell ⟨g3, 3, none⟩ (.int .i64 d)).setCell ⟨g3, 4, none⟩ (.int .i64 b)) g2 (.int .i64 id) (.slice (some ⟨g, 0, none⟩) n n) (.int .i64 a) (.int .i64 d) (.int .i64 b)) g2 53 #[.int .i64 id, .slice (some ⟨g, 0, none⟩) n n, .int .i64 a, .int .i64 d, .int .i64 b] :=
    ((((K2.out.far (p := ⟨g3, 1, none⟩) hne (.slice (some ⟨g, 0, none⟩) n n)).far (p := ⟨g3, 2, none⟩) hne (.int .i64 a)).far (p := ⟨g3, 3, none⟩) hne (.int .i64 d)).far (p := ⟨g3, 4, none⟩) hne (.int .i64 b)).set5
  have r9 : RdI (wset5 ((((w5.setCell ⟨g3, 1, none⟩ (.slice (some ⟨g, 0, none⟩) n n)).setCell ⟨g3, 2, none⟩ (.int .i64 a)).setCell ⟨g3, 3, none⟩ (.int .i64 d)).setCell ⟨g3, 4, none⟩ (.int .i64 b)) g2 (.int .i64 id) (.slice (some ⟨g, 0, none⟩) n n) (.int .i64 a) (.int .i64 d) (.int .i64 b)) (some ⟨g, 0, none⟩) n xs :=
    ((((R5.out.far (p := ⟨g3, 1, none⟩) NG.out.1 (.slice (some ⟨g, 0, none⟩) n n)).far (p := ⟨g3, 2, none⟩) NG.out.1 (.int .i64 a)).far (p := ⟨g3, 3, none⟩) NG.out.1 (.int .i64 d)).far (p := ⟨g3, 4, none⟩) NG.out.1 (.int .i64 b)).set5 NG.out.2 _ _ _ _ _
  have b9 : Below W.heap.size W (wset5 ((((w5.setCell ⟨g3, 1, none⟩ (.slice (some ⟨g, 0, none⟩) n n)).setCell ⟨g3, 2, none⟩ (.int .i64 a)).setCell ⟨g3, 3, none⟩ (.int .i64 d)).setCell ⟨g3, 4, none⟩ (.int .i64 b)) g2 (.int .i64 id) (.slice (some ⟨g, 0, none⟩) n n) (.int .i64 a) (.int .i64 d) (.int .i64 b)) :=
    below_set5 ((((B5.out.setCell (p := ⟨g3, 1, none⟩) G3.out (.slice (some ⟨g, 0, none⟩) n n)).setCell (p := ⟨g3, 2, none⟩) G3.out (.int .i64 a)).setCell (p := ⟨g3, 3, none⟩) G3.out (.int .i64 d)).setCell (p := ⟨g3, 4, none⟩) G3.out (.int .i64 b)) G2.out _ _ _ _ _
  obtain ⟨z0, z1, z2, z3, z4⟩ := k9.cell5
  refine bodyPost_ret (v := .agg #[.int .i64 id, .slice (some ⟨g, 0, none⟩) n n, .int .i64 a, .int .i64 d, .int .i64 b]) ?_ rfl ⟨g, rfl, LG.out, r9, b9⟩
  change World.cell? (wset5 ((((w5.setCell ⟨g3, 1, none⟩ (.slice (some ⟨g, 0, none⟩) n n)).setCell ⟨g3, 2, none⟩ (.int .i64 a)).setCell ⟨g3, 3, none⟩ (.int .i64 d)).setCell ⟨g3, 4, none⟩ (.int .i64 b)) g2 (.int .i64 id) (.slice (some ⟨g, 0, none⟩) n n) (.int .i64 a) (.int .i64 d) (.int .i64 b)) _ = _ at z0
  clear k9 r9 b9 c0 c1 c2 c3 c4 d0 d1 d2 d3 d4 f0 f1 f2 f3 f4 i0 i1 i2 i3 i4 j0 j1 j2 j3 j4
  simp only [wset5] at z0 z1 z2 z3 z4
  generalize (((((((w5.setCell ⟨g3, 1, none⟩ (.slice (some ⟨g, 0, none⟩) n n)).setCell ⟨g3, 2, none⟩ (.int .i64 a)).setCell ⟨g3, 3, none⟩ (.int .i64 d)).setCell ⟨g3, 4, none⟩ (.int .i64 b)).setCell ⟨g2, 0, none⟩ (.int .i64 id)).setCell ⟨g2, 1, none⟩ (.slice (some ⟨g, 0, none⟩) n n)).setCell ⟨g2, 2, none⟩ (.int .i64 a)).setCell ⟨g2, 3, none⟩ (.int .i64 d) = w8 at z0 z1 z2 z3 z4 ⊢
  generalize w8.setCell ⟨g2, 4, none⟩ (.int .i64 b) = w9 at z0 z1 z2 z3 z4 ⊢
  simp [results, Try.results71, go_sem, z0, z1, z2, z3, z4]
/-- TaskOk. -/
def taskB (id : Int) (xs : List Int) (a d b : Int) : Bool :=
  inB 1 1000000 id && (inB 1 6 (xs.length : Int) && (allIn 1 1000 xs && (inB 0 ((xs.length : Int) - 1) a && (inB 0 1000000 d && inB 0 1000000 b))))
theorem szTask_yes (id : Int) (A : Option Addr) (n p : Nat) (a d b left : Int) (W : World) (hn : (n : Int) ≤ left) (hl : left ≤ 1048576) :
    Calls Try.prog 70 #[.agg #[.int .i64 id, .slice A n p, .int .i64 a, .int .i64 d, .int .i64 b], .int .i64 left] W fun e W' => e = .returned (.int .i64 (left - n)) ∧ Below W.heap.size W W' := by
  have h0 : (0 : Int) ≤ n := Int.natCast_nonneg n
  go_enter Try.func70, Try.ntmps70
  go_wp2
  go_ret
  exact ⟨rfl, (Below.refl _ W).alloc (Nat.le_refl _) _⟩
theorem szTask_no (id : Int) (A : Option Addr) (n p : Nat) (a d b left : Int) (W : World) (hn : left < (n : Int)) (hl : 0 ≤ left) (hm : (n : Int) ≤ 9223372036854775807) :
    Calls Try.prog 70 #[.agg #[.int .i64 id, .slice A n p, .int .i64 a, .int .i64 d, .int .i64 b], .int .i64 left] W fun e W' => e = .returned (.int .i64 (-1)) ∧ Below W.heap.size W W' := by
  have h0 : (0 : Int) ≤ n := Int.natCast_nonneg n
  go_enter Try.func70, Try.ntmps70
  go_wp2
  go_ret
  exact ⟨rfl, (Below.refl _ W).alloc (Nat.le_refl _) _⟩
theorem new5 (W : World) (t : TypeId) (x y z u v : Value) : (W.alloc (.cells #[x, y, z, u, v] t)).cell? ⟨W.heap.size, 0, none⟩ = some x ∧ (W.alloc (.cells #[x, y, z, u, v] t)).cell? ⟨W.heap.size, 1, none⟩ = some y ∧ (W.alloc (.cells #[x, y, z, u, v] t)).cell? ⟨W.heap.size, 2, none⟩ = some z ∧ (W.alloc (.cells #[x, y, z, u, v] t)).cell? ⟨W.heap.size, 3, none⟩ = some u ∧ (W.alloc (.cells #[x, y, z, u, v] t)).cell? ⟨W.heap.size, 4, none⟩ = some v := (Bk.new W t #[x, y, z, u, v]).cell5
set_option maxHeartbeats 1000000 in
theorem eqTask_same (id : Int) (A A2 : Option Addr) (n p p2 : Nat) (xs : List Int) (a d b : Int) (W : World) (hr : RdI W A n xs) (hr2 : RdI W A2 n xs) (hn : n ≤ 1048576) :
    Calls Try.prog 75 #[.agg #[.int .i64 id, .slice A n p, .int .i64 a, .int .i64 d, .int .i64 b], .agg #[.int .i64 id, .slice A2 n p2, .int .i64 a, .int .i64 d, .int .i64 b]] W fun e W' => e = .returned (.bool true) ∧ Below W.heap.size W W' := by
  have k0 := (Bk.new W 53 #[.int .i64 id, .slice A n p, .int .i64 a, .int .i64 d, .int .i64 b]).alloc (.cells #[.int .i64 id, .slice A2 n p2, .int .i64 a, .int .i64 d, .int .i64 b] 53)
  have k1 := Bk.new (W.alloc (.cells #[.int .i64 id, .slice A n p, .int .i64 a, .int .i64 d, .int .i64 b] 53)) 53 #[.int .i64 id, .slice A2 n p2, .int .i64 a, .int .i64 d, .int .i64 b]
  have b0 := ((Below.refl _ W).alloc (Nat.le_refl _) (.cells #[.int .i64 id, .slice A n p, .int .i64 a, .int .i64 d, .int .i64 b] 53)).alloc (by simp) (.cells #[.int .i64 id, .slice A2 n p2, .int .i64 a, .int .i64 d, .int .i64 b] 53)
  simp only [World.size_alloc] at k1
  have R1 := Lib.hid (hr.of_below b0)
  have R2 := Lib.hid (hr2.of_below b0)
  have HN := Lib.hid hn
  have K0 := Lib.hid k0; have K1 := Lib.hid k1; have Bl := Lib.hid b0
  obtain ⟨c0, c1, c2, c3, c4⟩ := k0.cell5
  obtain ⟨d0, d1, d2, d3, d4⟩ := k1.cell5
  clear hr hr2 hn k0 k1 b0
  go_enter Try.func75, Try.ntmps75
  go_wp2_with fail
  generalize (W.alloc (.cells #[.int .i64 id, .slice A n p, .int .i64 a, .int .i64 d, .int .i64 b] 53)).alloc (.cells #[.int .i64 id, .slice A2 n p2, .int .i64 a, .int .i64 d, .int .i64 b] 53) = v at R1 R2 K0 K1 Bl ⊢
  generalize W.heap.size + 1 = g1 at K1 ⊢
  refine (eqIntS_same _ _ _ _ _ xs _ R1.out R2.out HN.out).mono ?_
  rintro e w2 ⟨rfl, mm, hmm⟩
  have bb := below_drewN (Below.refl v.heap.size v) mm
  rw [← hmm] at bb
  replace K0 := Lib.hid (K0.out.below bb)
  replace K1 := Lib.hid (K1.out.below bb)
  replace Bl := Lib.hid (Bl.out.trans (bb.mono Bl.out.size))
  clear bb hmm c0 c1 c2 c3 c4 d0 d1 d2 d3 d4
  obtain ⟨c0, c1, c2, c3, c4⟩ := K0.out.cell5
  obtain ⟨d0, d1, d2, d3, d4⟩ := K1.out.cell5
  go_wp2_with fail
  go_ret
  exact ⟨rfl, Bl.out⟩
end Qt
end Go.Proofs.Ytihnpfcjnfkfjaa

namespace Go.Proofs.Ytihnpfcjnfkfjaa
open Go.RowKit Go.Sort
set_option linter.unusedSimpArgs false
set_option linter.unusedVariables false
namespace Qt
theorem taskB_iff {id a d b : Int} {xs : List Int} : taskB id xs a d b = true ↔ inB 1 1000000 id = true ∧ inB 1 6 (xs.length : Int) = true ∧ allIn 1 1000 xs = true ∧ inB 0 ((xs.length : Int) - 1) a = true ∧ inB 0 1000000 d = true ∧ inB 0 1000000 b = true := by
  simp only [taskB, Bool.and_eq_true]
theorem taskB_no {id a d b : Int} {xs : List Int} (h : inB 1 1000000 id = false ∨ inB 1 6 (xs.length : Int) = false ∨ allIn 1 1000 xs = false ∨ inB 0 ((xs.length : Int) - 1) a = false ∨ inB 0 1000000 d = false ∨ inB 0 1000000 b = false) : taskB id xs a d b = false := by
  rcases h with h | h | h | h | h | h <;> simp [taskB, h]
theorem allIn_two (lo hi x y : Int) : allIn lo hi [x, y] = (inB lo hi x && inB lo hi y) := by simp [allIn]
theorem inside2I (lo hi x y : Int) (g : Nat) (t : TypeId) (W : World) (h : Bk W g t #[.int .i64 x, .int .i64 y]) :
    Calls Try.prog 86 #[.int .i64 lo, .int .i64 hi, .slice (some ⟨g, 0, none⟩) 2 2] W fun e W' => e = .returned (.bool (inB lo hi x && inB lo hi y)) ∧ Below W.heap.size W W' := by
  rw [← allIn_two]
  exact insideB lo hi _ 2 2 [x, y] W ⟨rfl, fun _ => ⟨g, 0, rfl, h.lt, fun j hj => by
    rcases (by omega : j = 0 ∨ j = 1) with rfl | rfl
    · exact h.cell 0 rfl
    · exact h.cell 1 rfl⟩⟩ (by omega)
theorem tickS (x : Int) (W : World) : Calls Try.prog 46 #[.int .i64 x] W fun e W' => e = .returned (.bool (inB 0 1000000 x)) ∧ W = W' := by
  go_enter Try.func46, Try.ntmps46
  go_wp2_with fail
  refine (inS 0 1000000 x _).mono ?_
  rintro e w1 ⟨rfl, rfl⟩
  go_wp2_with fail
  go_ret
  exact ⟨rfl, rfl⟩
set_option maxHeartbeats 1000000 in
theorem taskOkS (id : Int) (A : Option Addr) (n p : Nat) (xs : List Int) (a d b : Int) (W : World) (hr : RdI W A n xs) (hn : n ≤ 1048576) :
    Calls Try.prog 48 #[.agg #[.int .i64 id, .slice A n p, .int .i64 a, .int .i64 d, .int .i64 b]] W fun e W' => e = .returned (.bool (taskB id xs a d b)) ∧ Below W.heap.size W W' := by
  obtain ⟨R, hR⟩ : ∃ R, R = taskB id xs a d b := ⟨_, rfl⟩
  rw [← hR]
  have HR := Lib.hid hR
  have K := Lib.hid (Bk.new W 53 #[.int .i64 id, .slice A n p, .int .i64 a, .int .i64 d, .int .i64 b])
  have bl := (Below.refl _ W).alloc (Nat.le_refl _) (.cells #[.int .i64 id, .slice A n p, .int .i64 a, .int .i64 d, .int .i64 b] 53)
  have RA := Lib.hid (hr.of_below bl)
  have Bl := Lib.hid bl
  have HN := Lib.hid hn
  have HLN := Lib.hid hr.1
  have hn1 : (n : Int) ≤ 1048576 := by omega
  have hn0 : (0 : Int) ≤ n := Int.natCast_nonneg n
  clear hR hr bl hn
  go_enter Try.func48, Try.ntmps48
  go_wp2_with fail
  generalize W.alloc (.cells #[.int .i64 id, .slice A n p, .int .i64 a, .int .i64 d, .int .i64 b] 53) = v0 at K RA Bl ⊢
  generalize hgT : W.heap.size = gT at K ⊢
  clear hgT
  refine (inS 1 1000000 id _).mono ?_
  rintro e w1 ⟨rfl, rfl⟩
  rcases h1 : inB 1 1000000 id with _ | _
  · obtain rfl : R = false := by rw [HR.out]; exact taskB_no (Or.inl h1)
    go_wp2_with fail
    go_ret
    exact ⟨rfl, Bl.out⟩
  have H1 := Lib.hid h1
  clear h1
  obtain ⟨c0, c1, c2, c3, c4⟩ := K.out.cell5
  go_wp2_with fail
  clear c0 c1 c2 c3 c4
  refine (inS 1 6 n _).mono ?_
  rintro e w2 ⟨rfl, rfl⟩
  rcases h2 : inB 1 6 (n : Int) with _ | _
  · obtain rfl : R = false := by rw [HR.out]; exact taskB_no (Or.inr (Or.inl (by rw [HLN.out]; exact h2)))
    go_wp2_with fail
    go_ret
    exact ⟨rfl, Bl.out⟩
  have H2 := Lib.hid h2
  clear h2
  obtain ⟨c0, c1, c2, c3, c4⟩ := K.out.cell5
  go_wp2_with fail
  clear c0 c1 c2 c3 c4
  have hl := inB_iff.1 H2.out
  refine (inS 0 ((n : Int) - 1) a _).mono ?_
  rintro e w3 ⟨rfl, rfl⟩
  rcases h3 : inB 0 ((n : Int) - 1) a with _ | _
  · obtain rfl : R = false := by rw [HR.out]; exact taskB_no (Or.inr (Or.inr (Or.inr (Or.inl (by rw [HLN.out]; exact h3)))))
    go_wp2_with fail
    go_ret
    exact ⟨rfl, Bl.out⟩
  have H3 := Lib.hid h3
  clear h3
  obtain ⟨c0, c1, c2, c3, c4⟩ := K.out.cell5
  go_wp2_with fail
  clear c0 c1 c2 c3 c4
  refine (tickS d _).mono ?_
  rintro e w4 ⟨rfl, rfl⟩
  rcases h4 : inB 0 1000000 d with _ | _
  · obtain rfl : R = false := by rw [HR.out]; exact taskB_no (Or.inr (Or.inr (Or.inr (Or.inr (Or.inl h4)))))
    go_wp2_with fail
    go_ret
    exact ⟨rfl, Bl.out⟩
  have H4 := Lib.hid h4
  clear h4
  obtain ⟨c0, c1, c2, c3, c4⟩ := K.out.cell5
  go_wp2_with fail
  clear c0 c1 c2 c3 c4
  refine (tickS b _).mono ?_
  rintro e w5 ⟨rfl, rfl⟩
  rcases h5 : inB 0 1000000 b with _ | _
  · obtain rfl : R = false := by rw [HR.out]; exact taskB_no (Or.inr (Or.inr (Or.inr (Or.inr (Or.inr h5)))))
    go_wp2_with fail
    go_ret
    exact ⟨rfl, Bl.out⟩
  have H5 := Lib.hid h5
  clear h5
  go_wp2_with fail
  have HE : Hid (allIn 1 1000 xs = R) := Lib.hid (by
    rw [HR.out]
    unfold taskB
    rw [H1.out, HLN.out, H2.out, H3.out, H4.out, H5.out]
    simp)
  go_loop [3] (fun i => ∃ k : Nat, k ≤ n ∧ i = .int .i64 k ∧ Hid (∀ j, j < k → inB 1 1000 (xs[j]?.getD 0) = true)) (fun i => n - (intOf i).toNat)
  case atStart => exact ⟨0, Nat.zero_le _, rfl, Lib.hid (fun j hj => absurd hj (Nat.not_lt_zero _))⟩
  case round =>
    obtain ⟨k, hk, rfl, HP⟩ := hrel
    obtain ⟨c0, c1, c2, c3, c4⟩ := K.out.cell5
    by_cases hlt : k < n
    · obtain ⟨b', off, rfl, hbl, hcell⟩ := RA.out.2 (by omega)
      have hc1 := hcell k hlt
      have hx1 : xs.getD k 0 = xs[k]?.getD 0 := List.getD_eq_getElem?_getD ..
      rw [hx1] at hc1
      have HKL : Hid (k < xs.length) := Lib.hid (by rw [HLN.out]; exact hlt)
      obtain ⟨x, hx⟩ : ∃ x, x = xs[k]?.getD 0 := ⟨_, rfl⟩
      rw [← hx] at hc1
      have HX := Lib.hid hx
      have hi1 : (k : Int) < (n : Int) := by omega
      clear hcell hbl hx1 hx
      go_wp2_with fail
      refine (inS 1 1000 x _).mono ?_
      rintro e w6 ⟨rfl, rfl⟩
      rcases hr : inB 1 1000 x with _ | _
      · obtain rfl : R = false := by rw [← HE.out]; exact allIn_no HKL.out (by rw [← HX.out]; exact hr)
        clear hr
        go_wp2_with fail
        go_ret
        exact ⟨rfl, Bl.out⟩
      have HRX := Lib.hid hr
      clear hr
      go_wp2_with fail
      go_round
      case rel =>
        refine ⟨k + 1, by omega, by go_num, Lib.hid (fun j hj => ?_)⟩
        rcases (by omega : j < k ∨ j = k) with h1 | rfl
        · exact HP.out j h1
        · rw [← HX.out]; exact HRX.out
      case measure => simp [intOf]; omega
    · obtain rfl : k = n := by omega
      obtain rfl : R = true := by rw [← HE.out]; exact allIn_yes (fun j hj => HP.out j (by rw [HLN.out] at hj; exact hj))
      go_wp2_with fail
      go_ret
      exact ⟨rfl, Bl.out⟩
set_option maxHeartbeats 1000000 in
theorem taskOkI (id : Int) (A : Option Addr) (n p : Nat) (xs : List Int) (a d b : Int) (W : World) (hr : RdI W A n xs) (hn : n ≤ 1048576) :
    Calls Try.prog 73 #[.agg #[.int .i64 id, .slice A n p, .int .i64 a, .int .i64 d, .int .i64 b]] W fun e W' => e = .returned (.bool (taskB id xs a d b)) ∧ Below W.heap.size W W' := by
  obtain ⟨R, hR⟩ : ∃ R, R = taskB id xs a d b := ⟨_, rfl⟩
  rw [← hR]
  have HR := Lib.hid hR
  have K := Lib.hid (Bk.new W 53 #[.int .i64 id, .slice A n p, .int .i64 a, .int .i64 d, .int .i64 b])
  have bl := (Below.refl _ W).alloc (Nat.le_refl _) (.cells #[.int .i64 id, .slice A n p, .int .i64 a, .int .i64 d, .int .i64 b] 53)
  have RA := Lib.hid (hr.of_below bl)
  have Bl := Lib.hid bl
  have HN := Lib.hid hn
  have HLN := Lib.hid hr.1
  have hn1 : (n : Int) ≤ 1048576 := by omega
  have hn0 : (0 : Int) ≤ n := Int.natCast_nonneg n
  clear hR hr bl hn
  go_enter Try.func73, Try.ntmps73
  go_wp2_with fail
  have hv : (W.alloc (.cells #[.int .i64 id, .slice A n p, .int .i64 a, .int .i64 d, .int .i64 b] 53)).heap.size = W.heap.size + 1 := by simp
  generalize W.alloc (.cells #[.int .i64 id, .slice A n p, .int .i64 a, .int .i64 d, .int .i64 b] 53) = v0 at K RA Bl hv ⊢
  rw [← hv]
  clear hv
  generalize hgT : W.heap.size = gT at K ⊢
  clear hgT
  refine (inside1I 1 1000000 id _ _ _ (Bk.new v0 3 #[.int .i64 id])).mono ?_
  rintro e w1 ⟨rfl, bb⟩
  replace bb := after1 bb
  replace K := Lib.hid (K.out.below bb)
  replace RA := Lib.hid (RA.out.of_below bb)
  replace Bl := Lib.hid (Bl.out.trans (bb.mono Bl.out.size))
  clear bb
  rcases h1 : inB 1 1000000 id with _ | _
  · obtain rfl : R = false := by rw [HR.out]; exact taskB_no (Or.inl h1)
    go_wp2_with fail
    go_ret
    exact ⟨rfl, Bl.out⟩
  have H1 := Lib.hid h1
  clear h1
  obtain ⟨c0, c1, c2, c3, c4⟩ := K.out.cell5
  go_wp2_with fail
  clear c0 c1 c2 c3 c4
  refine (inside1I 1 6 n _ _ _ (Bk.new w1 3 #[.int .i64 n])).mono ?_
  rintro e w2 ⟨rfl, bb⟩
  replace bb := after1 bb
  replace K := Lib.hid (K.out.below bb)
  replace RA := Lib.hid (RA.out.of_below bb)
  replace Bl := Lib.hid (Bl.out.trans (bb.mono Bl.out.size))
  clear bb
  rcases h2 : inB 1 6 (n : Int) with _ | _
  · obtain rfl : R = false := by rw [HR.out]; exact taskB_no (Or.inr (Or.inl (by rw [HLN.out]; exact h2)))
    go_wp2_with fail
    go_ret
    exact ⟨rfl, Bl.out⟩
  have H2 := Lib.hid h2
  clear h2
  obtain ⟨c0, c1, c2, c3, c4⟩ := K.out.cell5
  go_wp2_with fail
  clear c0 c1 c2 c3 c4
  have hl := inB_iff.1 H2.out
  refine (insideB 1 1000 A n p xs _ RA.out HN.out).mono ?_
  rintro e w3 ⟨rfl, bb⟩
  replace K := Lib.hid (K.out.below bb)
  replace RA := Lib.hid (RA.out.of_below bb)
  replace Bl := Lib.hid (Bl.out.trans (bb.mono Bl.out.size))
  clear bb
  rcases h3 : allIn 1 1000 xs with _ | _
  · obtain rfl : R = false := by rw [HR.out]; exact taskB_no (Or.inr (Or.inr (Or.inl h3)))
    go_wp2_with fail
    go_ret
    exact ⟨rfl, Bl.out⟩
  have H3 := Lib.hid h3
  clear h3
  obtain ⟨c0, c1, c2, c3, c4⟩ := K.out.cell5
  go_wp2_with fail
  clear c0 c1 c2 c3 c4
  refine (inside1I 0 ((n : Int) - 1) a _ _ _ (Bk.new w3 3 #[.int .i64 a])).mono ?_
  rintro e w4 ⟨rfl, bb⟩
  replace bb := after1 bb
  replace K := Lib.hid (K.out.below bb)
  replace RA := Lib.hid (RA.out.of_below bb)
  replace Bl := Lib.hid (Bl.out.trans (bb.mono Bl.out.size))
  clear bb
  rcases h4 : inB 0 ((n : Int) - 1) a with _ | _
  · obtain rfl : R = false := by rw [HR.out]; exact taskB_no (Or.inr (Or.inr (Or.inr (Or.inl (by rw [HLN.out]; exact h4)))))
    go_wp2_with fail
    go_ret
    exact ⟨rfl, Bl.out⟩
  have H4 := Lib.hid h4
  clear h4
  obtain ⟨c0, c1, c2, c3, c4⟩ := K.out.cell5
  go_wp2_with fail
  clear c0 c1 c2 c3 c4
  refine (inside2I 0 1000000 d b _ _ _ (Bk.new w4 3 #[.int .i64 d, .int .i64 b])).mono ?_
  rintro e w5 ⟨rfl, bb⟩
  replace bb := after1 bb
  replace Bl := Lib.hid (Bl.out.trans (bb.mono Bl.out.size))
  clear bb
  have hE : R = (inB 0 1000000 d && inB 0 1000000 b) := by
    rw [HR.out]
    unfold taskB
    rw [H1.out, HLN.out, H2.out, H3.out, H4.out]
    simp
  have HE := Lib.hid hE
  clear hE
  rw [← HE.out]
  go_wp2_with fail
  go_ret
  exact ⟨rfl, Bl.out⟩
end Qt
end Go.Proofs.Ytihnpfcjnfkfjaa

namespace Go.Proofs.Ytihnpfcjnfkfjaa
open Go.RowKit Go.Sort
set_option linter.unusedSimpArgs false
set_option linter.unusedVariables false
namespace Qt
def tkB (t : Tsk) : Bool := taskB t.ti t.xs t.ta t.td t.tb
/-- The tasks are right, and their Ids rise from last on, below nx. -/
def tsksB (nx nw : Int) : Int → List Tsk → Bool
  | _, [] => true
  | last, t :: r => tkB t && (decide (last < t.ti) && (decide (t.ti < nx) && (decide (t.tb ≤ nw) && tsksB nx nw t.ti r)))
def lastId (ss : List Tsk) : Nat → Int
  | 0 => 0
  | k + 1 => match ss[k]? with | some t => t.ti | none => 0
def findT (ss : List Tsk) (id : Int) : Option Tsk := ss.find? (fun t => t.ti == id)
def headB (nw sk ag tu nx : Int) : Bool := inB 0 1000000 nw && (inB 0 1000000 tu && (inB 0 1000 sk && (inB 0 20 ag && inB 1 1000000 nx)))
def runB (ss : List Tsk) (rn lf : Int) : Bool := if rn = 0 then decide (lf = 0) else match findT ss rn with | some t => inB 1 (t.xs.getD t.ta.toNat 0) lf | none => false
def schB (nw sk ag : Int) (ss : List Tsk) (rn lf tu nx : Int) : Bool := headB nw sk ag tu nx && (decide (ss.length ≤ 12) && (tsksB nx nw 0 ss && runB ss rn lf))
theorem headB_iff {nw sk ag tu nx : Int} : headB nw sk ag tu nx = true ↔ inB 0 1000000 nw = true ∧ inB 0 1000000 tu = true ∧ inB 0 1000 sk = true ∧ inB 0 20 ag = true ∧ inB 1 1000000 nx = true := by simp [headB]
theorem headB_no {nw sk ag tu nx : Int} (h : inB 0 1000000 nw = false ∨ inB 0 1000000 tu = false ∨ inB 0 1000 sk = false ∨ inB 0 20 ag = false ∨ inB 1 1000000 nx = false) : headB nw sk ag tu nx = false := by
  rcases h with h | h | h | h | h <;> simp [headB, h]
theorem schB_head {nw sk ag : Int} {ss : List Tsk} {rn lf tu nx : Int} (h : headB nw sk ag tu nx = false) : schB nw sk ag ss rn lf tu nx = false := by simp [schB, h]
theorem schB_len {nw sk ag : Int} {ss : List Tsk} {rn lf tu nx : Int} (h : ¬ ss.length ≤ 12) : schB nw sk ag ss rn lf tu nx = false := by simp [schB, h]
theorem schB_yes {nw sk ag : Int} {ss : List Tsk} {rn lf tu nx : Int} (h : headB nw sk ag tu nx = true) (h2 : ss.length ≤ 12) : schB nw sk ag ss rn lf tu nx = (tsksB nx nw 0 ss && runB ss rn lf) := by simp [schB, h, h2]
theorem schB_iff {nw sk ag : Int} {ss : List Tsk} {rn lf tu nx : Int} : schB nw sk ag ss rn lf tu nx = true ↔ headB nw sk ag tu nx = true ∧ ss.length ≤ 12 ∧ tsksB nx nw 0 ss = true ∧ runB ss rn lf = true := by simp [schB]
/-- One step of the walk along the tasks. -/
theorem tsksB_step {nx nw : Int} {ss : List Tsk} {k : Nat} {t : Tsk} (h : ss[k]? = some t) : tsksB nx nw (lastId ss k) (ss.drop k) = (tkB t && (decide (lastId ss k < t.ti) && (decide (t.ti < nx) && (decide (t.tb ≤ nw) && tsksB nx nw (lastId ss (k + 1)) (ss.drop (k + 1)))))) := by
  obtain ⟨hk, e⟩ := List.getElem?_eq_some_iff.1 h
  rw [List.drop_eq_getElem_cons hk, e, tsksB]
  have : lastId ss (k + 1) = t.ti := by simp [lastId, h]
  rw [this]
theorem tsksB_end {nx nw : Int} {ss : List Tsk} {k : Nat} (h : ss.length = k) (l : Int) : tsksB nx nw l (ss.drop k) = true := by
  rw [List.drop_of_length_le (by omega)]; rfl
theorem lastId_succ {ss : List Tsk} {k : Nat} {t : Tsk} (h : ss[k]? = some t) : lastId ss (k + 1) = t.ti := by simp [lastId, h]
/-- What is right of each task of a right schedule. -/
theorem tsksB_all {nx nw : Int} : ∀ {last : Int} {ss : List Tsk}, tsksB nx nw last ss = true → ∀ t ∈ ss, tkB t = true ∧ last < t.ti ∧ t.ti < nx ∧ t.tb ≤ nw := by
  intro last ss
  induction ss generalizing last with
  | nil => intro _ t ht; cases ht
  | cons s r ih =>
    intro h t ht
    simp only [tsksB, Bool.and_eq_true, decide_eq_true_eq] at h
    obtain ⟨h1, h2, h3, h4, h5⟩ := h
    rcases List.mem_cons.1 ht with rfl | ht
    · exact ⟨h1, h2, h3, h4⟩
    · obtain ⟨a, b, c, d⟩ := ih h5 t ht
      exact ⟨a, by omega, c, d⟩
theorem tsksB_rise {nx nw : Int} : ∀ {last : Int} {ss : List Tsk}, tsksB nx nw last ss = true → ss.Pairwise (fun s t => s.ti < t.ti) := by
  intro last ss
  induction ss generalizing last with
  | nil => intro _; exact List.Pairwise.nil
  | cons s r ih =>
    intro h
    simp only [tsksB, Bool.and_eq_true, decide_eq_true_eq] at h
    obtain ⟨h1, h2, h3, h4, h5⟩ := h
    exact List.Pairwise.cons (fun t ht => (tsksB_all h5 t ht).2.1) (ih h5)
/-- The place of the first task with that Id; -1 where there is none. -/
def atV (ss : List Tsk) (id : Int) : Int := match ss.findIdx? (fun t => t.ti == id) with | some k => (k : Int) | none => -1
theorem atV_some {ss : List Tsk} {id : Int} {k : Nat} {t : Tsk} (h : ss[k]? = some t) (h2 : t.ti = id) (h3 : ∀ (j : Nat) (s : Tsk), j < k → ss[j]? = some s → s.ti ≠ id) : atV ss id = k ∧ findT ss id = some t := by
  obtain ⟨hk, e⟩ := List.getElem?_eq_some_iff.1 h
  constructor
  · have : ss.findIdx? (fun t => t.ti == id) = some k := by
      rw [List.findIdx?_eq_some_iff_getElem]
      refine ⟨hk, by rw [e]; simp [h2], fun j hj => ?_⟩
      have := h3 j _ hj (List.getElem?_eq_getElem (by omega))
      simp [this]
    simp [atV, this]
  · unfold findT
    rw [List.find?_eq_some_iff_getElem]
    refine ⟨by simp [h2], k, hk, e, fun j hj => ?_⟩
    have := h3 j _ hj (List.getElem?_eq_getElem (by omega))
    simp [this]
theorem atV_none {ss : List Tsk} {id : Int} (h3 : ∀ (j : Nat) (s : Tsk), ss[j]? = some s → s.ti ≠ id) : atV ss id = -1 ∧ findT ss id = none := by
  constructor
  · have : ss.findIdx? (fun t => t.ti == id) = none := by
      rw [List.findIdx?_eq_none_iff]
      intro t ht
      obtain ⟨j, hj, rfl⟩ := List.getElem_of_mem ht
      have := h3 j _ (List.getElem?_eq_getElem hj)
      simpa using this
    simp [atV, this]
  · unfold findT
    rw [List.find?_eq_none]
    intro t ht
    obtain ⟨j, hj, rfl⟩ := List.getElem_of_mem ht
    have := h3 j _ (List.getElem?_eq_getElem hj)
    simpa using this
/-- Either there is one, at its place, or none. -/
theorem at_cases (ss : List Tsk) (id : Int) : (∃ (k : Nat) (t : Tsk), ss[k]? = some t ∧ t.ti = id ∧ atV ss id = k ∧ findT ss id = some t) ∨ (atV ss id = -1 ∧ findT ss id = none) := by
  rcases hf : ss.findIdx? (fun t => t.ti == id) with _ | k
  · right
    rw [List.findIdx?_eq_none_iff] at hf
    exact atV_none fun j s hj e => by have := hf s (List.mem_of_getElem? hj); simp [e] at this
  · left
    rw [List.findIdx?_eq_some_iff_getElem] at hf
    obtain ⟨hk, he, hne⟩ := hf
    have h1 : ss[k]? = some (ss[k]'hk) := List.getElem?_eq_getElem hk
    have h2 : (ss[k]'hk).ti = id := by simpa using he
    have h4 := atV_some h1 h2 (fun j s hj hs e => by
      obtain ⟨hj', e'⟩ := List.getElem?_eq_some_iff.1 hs
      have := hne j hj
      rw [e'] at this
      simp [e] at this)
    exact ⟨k, _, h1, h2, h4.1, h4.2⟩
end Qt
end Go.Proofs.Ytihnpfcjnfkfjaa
