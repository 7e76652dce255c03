/- Plain numbers: the least span of jobs on up to three workers. No conditions but those that are named. -/
import Derived.Test.YtfihjehpkpminaaJobsL
namespace Go.Proofs.Ytfihjehpkpminaa
namespace Qt
def addAt (L : List Int) (w : Nat) (x : Int) : List Int := L.set w (L.getD w 0 + x)
def mxL (L : List Int) : Int := L.foldl max 0
def BIG : Int := 9223372036854775807
def minU (f : Nat → Int) : Nat → Int
  | 0 => BIG
  | k + 1 => min (minU f k) (f k)
/-- The least span when each of the jobs goes to one of the workers. -/
def bspan : List Int → List Int → Int
  | [], L => mxL L
  | x :: xs, L => minU (fun w => bspan xs (addAt L w x)) L.length
theorem addAt_len (L : List Int) (w : Nat) (x : Int) : (addAt L w x).length = L.length := by simp [addAt]
theorem bspan_cons (x : Int) (xs L : List Int) : bspan (x :: xs) L = minU (fun w => bspan xs (addAt L w x)) L.length := rfl
theorem bspan2_cons (x : Int) (xs : List Int) (a b : Int) : bspan (x :: xs) [a, b] = min (min BIG (bspan xs [a + x, b])) (bspan xs [a, b + x]) := rfl
theorem bspan3_cons (x : Int) (xs : List Int) (a b c : Int) : bspan (x :: xs) [a, b, c] = min (min (min BIG (bspan xs [a + x, b, c])) (bspan xs [a, b + x, c])) (bspan xs [a, b, c + x]) := rfl
theorem swap2 (xs : List Int) : ∀ a b, bspan xs [a, b] = bspan xs [b, a] := by
  induction xs with
  | nil => intro a b; simp only [bspan, mxL, List.foldl_cons, List.foldl_nil]; omega
  | cons x xs ih =>
    intro a b
    rw [bspan2_cons, bspan2_cons, ih a (b + x), ih (a + x) b]
    omega
theorem swap3a (xs : List Int) : ∀ a b c, bspan xs [a, b, c] = bspan xs [b, a, c] := by
  induction xs with
  | nil => intro a b c; simp only [bspan, mxL, List.foldl_cons, List.foldl_nil]; omega
  | cons x xs ih =>
    intro a b c
    rw [bspan3_cons, bspan3_cons, ih (a + x) b c, ih a (b + x) c, ih a b (c + x)]
    omega
theorem swap3b (xs : List Int) : ∀ a b c, bspan xs [a, b, c] = bspan xs [a, c, b] := by
  induction xs with
  | nil => intro a b c; simp only [bspan, mxL, List.foldl_cons, List.foldl_nil]; omega
  | cons x xs ih =>
    intro a b c
    rw [bspan3_cons, bspan3_cons, ih (a + x) b c, ih a (b + x) c, ih a b (c + x)]
    omega
/-- Loads as the model has them: those that have something come first. -/
def goodL (L : List Int) : Prop := (∀ x ∈ L, 0 ≤ x) ∧ ∀ w, w + 1 < L.length → L.getD w 0 = 0 → L.getD (w + 1) 0 = 0
theorem goodL_two {a b : Int} (h : goodL [a, b]) : 0 ≤ a ∧ 0 ≤ b ∧ (a = 0 → b = 0) := ⟨h.1 a (by simp), h.1 b (by simp), fun e => by have := h.2 0 (by simp) (by simpa using e); simpa using this⟩
theorem goodL_three {a b c : Int} (h : goodL [a, b, c]) : 0 ≤ a ∧ 0 ≤ b ∧ 0 ≤ c ∧ (a = 0 → b = 0) ∧ (b = 0 → c = 0) :=
  ⟨h.1 a (by simp), h.1 b (by simp), h.1 c (by simp), fun e => by have := h.2 0 (by simp) (by simpa using e); simpa using this, fun e => by have := h.2 1 (by simp) (by simpa using e); simpa using this⟩
/-- The first worker that has nothing is as good as any behind it. -/
theorem bspan_stop {xs L : List Int} {x : Int} (hl : 1 ≤ L.length ∧ L.length ≤ 3) (hg : goodL L) {w : Nat} (hw : w < L.length) (h0 : L.getD w 0 = 0) : minU (fun w => bspan xs (addAt L w x)) (w + 1) = bspan (x :: xs) L := by
  match L, hl with
  | [a], _ =>
    obtain rfl : w = 0 := by simp at hw; omega
    rfl
  | [a, b], _ =>
    obtain ⟨ha, hb, hab⟩ := goodL_two hg
    rcases (by simp at hw; omega : w = 0 ∨ w = 1) with rfl | rfl
    · have e : a = 0 := by simpa using h0
      have e2 := hab e
      subst e; subst e2
      rw [bspan2_cons]
      show min BIG (bspan xs [0 + x, 0]) = _
      rw [swap2 xs 0 (0 + x)]
      omega
    · rfl
  | [a, b, c], _ =>
    obtain ⟨ha, hb, hc, hab, hbc⟩ := goodL_three hg
    rcases (by simp at hw; omega : w = 0 ∨ w = 1 ∨ w = 2) with rfl | rfl | rfl
    · have e : a = 0 := by simpa using h0
      have e2 := hab e
      have e3 := hbc e2
      subst e; subst e2; subst e3
      rw [bspan3_cons]
      show min BIG (bspan xs [0 + x, 0, 0]) = _
      rw [swap3a xs 0 (0 + x) 0, swap3b xs 0 0 (0 + x), swap3a xs 0 (0 + x) 0]
      omega
    · have e : b = 0 := by simpa using h0
      have e2 := hbc e
      subst e; subst e2
      rw [bspan3_cons]
      show min (min BIG (bspan xs [a + x, 0, 0])) (bspan xs [a, 0 + x, 0]) = _
      rw [swap3b xs a 0 (0 + x)]
      omega
    · rfl
/-- The model goes on to the next worker only where this one has something: the loads stay good. -/
theorem goodL_add {L : List Int} {x : Int} (hl : 1 ≤ L.length ∧ L.length ≤ 3) (hg : goodL L) (hx : 1 ≤ x) {w : Nat} (hw : w < L.length) (hp : ∀ j, j < w → L.getD j 0 ≠ 0) : goodL (addAt L w x) := by
  match L, hl with
  | [a], _ =>
    obtain rfl : w = 0 := by simp at hw; omega
    have ha := hg.1 a (by simp)
    exact ⟨fun y hy => by simp [addAt] at hy; omega, fun j hj => by simp [addAt] at hj⟩
  | [a, b], _ =>
    obtain ⟨ha, hb, hab⟩ := goodL_two hg
    rcases (by simp at hw; omega : w = 0 ∨ w = 1) with rfl | rfl
    · refine ⟨fun y hy => by simp [addAt] at hy; omega, fun j hj => ?_⟩
      obtain rfl : j = 0 := by simp [addAt] at hj; omega
      simp [addAt]; omega
    · have h1 := hp 0 (by omega)
      simp at h1
      refine ⟨fun y hy => by simp [addAt] at hy; omega, fun j hj => ?_⟩
      obtain rfl : j = 0 := by simp [addAt] at hj; omega
      simp [addAt]; omega
  | [a, b, c], _ =>
    obtain ⟨ha, hb, hc, hab, hbc⟩ := goodL_three hg
    rcases (by simp at hw; omega : w = 0 ∨ w = 1 ∨ w = 2) with rfl | rfl | rfl
    · refine ⟨fun y hy => by simp [addAt] at hy; omega, fun j hj => ?_⟩
      rcases (by simp [addAt] at hj; omega : j = 0 ∨ j = 1) with rfl | rfl <;> simp [addAt] <;> omega
    · have h1 := hp 0 (by omega)
      simp at h1
      refine ⟨fun y hy => by simp [addAt] at hy; omega, fun j hj => ?_⟩
      rcases (by simp [addAt] at hj; omega : j = 0 ∨ j = 1) with rfl | rfl <;> simp [addAt] <;> omega
    · have h1 := hp 0 (by omega)
      have h2 := hp 1 (by omega)
      simp at h1 h2
      refine ⟨fun y hy => by simp [addAt] at hy; omega, fun j hj => ?_⟩
      rcases (by simp [addAt] at hj; omega : j = 0 ∨ j = 1) with rfl | rfl <;> simp [addAt] <;> omega
theorem goodL_zero (n : Nat) : goodL (List.replicate n 0) := ⟨fun x hx => by rw [List.eq_of_mem_replicate hx]; omega, fun w hw _ => by rw [List.length_replicate] at hw; simp [hw]⟩
theorem fold_max0 (L : List Int) : ∀ a : Int, a ≤ L.foldl max a := by
  induction L with
  | nil => intro a; exact Int.le_refl _
  | cons x t ih => intro a; have := ih (max a x); simp only [List.foldl_cons]; omega
theorem mxL_nonneg (L : List Int) : 0 ≤ mxL L := fold_max0 L 0
theorem minU_nonneg {f : Nat → Int} (h : ∀ w, 0 ≤ f w) : ∀ k, 0 ≤ minU f k
  | 0 => by unfold minU BIG; omega
  | k + 1 => by have := minU_nonneg h k; have := h k; unfold minU; omega
theorem bspan_nonneg (xs : List Int) : ∀ L, 0 ≤ bspan xs L := by
  induction xs with
  | nil => intro L; exact mxL_nonneg L
  | cons x xs ih => intro L; exact minU_nonneg (fun w => ih _) _
theorem minU_le {f : Nat → Int} : ∀ k, minU f k ≤ BIG
  | 0 => Int.le_refl _
  | k + 1 => by have := minU_le (f := f) k; unfold minU; omega
theorem minU_at {f : Nat → Int} : ∀ k w, w < k → minU f k ≤ f w
  | 0, w, h => by omega
  | k + 1, w, h => by
    unfold minU
    rcases (by omega : w < k ∨ w = k) with h1 | rfl
    · have := minU_at (f := f) k w h1; omega
    · omega
/-- The greatest of loads that are not below 0. -/
def capL (L : List Int) (B : Int) : Prop := ∀ x ∈ L, 0 ≤ x ∧ x ≤ B
theorem capL_at {L : List Int} {B : Int} (h : capL L B) (w : Nat) (hB : 0 ≤ B) : 0 ≤ L.getD w 0 ∧ L.getD w 0 ≤ B := by
  rw [List.getD_eq_getElem?_getD]
  by_cases hw : w < L.length
  · rw [List.getElem?_eq_getElem hw]; exact h _ (List.getElem_mem hw)
  · rw [List.getElem?_eq_none (by omega)]; simp; exact hB
theorem capL_add {L : List Int} {B x : Int} (h : capL L B) (hx : 0 ≤ x ∧ x ≤ 1000) (hB : 0 ≤ B) (w : Nat) : capL (addAt L w x) (B + 1000) := by
  intro y hy
  unfold addAt at hy
  rcases List.mem_or_eq_of_mem_set hy with h1 | rfl
  · have := h y h1; omega
  · have := capL_at h w hB; omega
end Qt
end Go.Proofs.Ytfihjehpkpminaa
