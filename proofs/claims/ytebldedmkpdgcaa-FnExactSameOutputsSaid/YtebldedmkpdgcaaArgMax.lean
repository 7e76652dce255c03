/- What ArgMax (of the program and of its model) gives when it is called: the place of the greatest number, the first of several. Conditions: the slice reads as the list that is named. -/
import Derived.Test.YtebldedmkpdgcaaRange
namespace Go.Proofs.Ytebldedmkpdgcaa
open Go.RowKit Go.Shelf Go.Sort
namespace Qt
attribute [local go_sem] Oper.semAt_some

/-- The place of the greatest of the first k numbers, the first of several. -/
def best (xs : List Int) : Nat → Nat
  | 0 => 0
  | k + 1 => if xs[best xs k]?.getD 0 < xs[k]?.getD 0 then k else best xs k
theorem best_lt (xs : List Int) : ∀ k, best xs k = 0 ∨ best xs k < k
  | 0 => .inl rfl
  | k + 1 => by
    unfold best
    split
    · exact .inr (by omega)
    · rcases best_lt xs k with h | h
      · exact .inl h
      · exact .inr (by omega)
theorem best_le (xs : List Int) : ∀ k j, j < k → xs[j]?.getD 0 ≤ xs[best xs k]?.getD 0
  | 0, j, h => absurd h (Nat.not_lt_zero _)
  | k + 1, j, h => by
    unfold best
    split
    · next hx =>
      rcases (by omega : j < k ∨ j = k) with h1 | rfl
      · exact Int.le_trans (best_le xs k j h1) (Int.le_of_lt hx)
      · exact Int.le_refl _
    · next hx =>
      rcases (by omega : j < k ∨ j = k) with h1 | rfl
      · exact best_le xs k j h1
      · omega
theorem best_go {xs : List Int} {k : Nat} (h : xs[best xs k]?.getD 0 < xs[k]?.getD 0) : best xs (k + 1) = k := by rw [best, if_pos h]
theorem best_stay {xs : List Int} {k : Nat} (h : ¬ xs[best xs k]?.getD 0 < xs[k]?.getD 0) : best xs (k + 1) = best xs k := by rw [best, if_neg h]
theorem best_one (xs : List Int) : best xs 1 = 0 := best_stay (by simp [best])
def amOf (h w c : Int) (xs : List Int) : Int := if tOk h w c xs then (best xs xs.length : Nat) else -1
theorem amOf_yes {h w c : Int} {xs : List Int} (hb : tOk h w c xs = true) : amOf h w c xs = (best xs xs.length : Nat) := by rw [amOf, if_pos hb]
theorem amOf_no {h w c : Int} {xs : List Int} (hb : tOk h w c xs = false) : amOf h w c xs = -1 := by rw [amOf, hb]; rfl

theorem bk_own {β : Type} (B g t : Nat) (cs : β → Array Value) : OwnFrom B (fun s W => Bk W g t (cs s)) := fun s X Y row hs hg hr =>
  (hg.block g hs.lt (fun e => by
    obtain ⟨_, o, ho, hc⟩ := hr g e.symm
    have h : X.heap[g]? = _ := hs
    rw [h] at ho; cases ho; cases hc)).trans hs
theorem ret_am {x : Int} {y : Int} (h : y = x) : Ending.returned (.int .i64 x) = .returned (.int .i64 y) := by rw [h]
end Qt
end Go.Proofs.Ytebldedmkpdgcaa
