/- How many stalled ticks lie between two ticks: plain numbers. No conditions. -/
import Derived.Test.YtalkoaahhkafaaaTicks
namespace Go.Proofs.Ytalkoaahhkafaaa
open Go.RowKit Go.Sort
set_option linter.unusedSimpArgs false
set_option linter.unusedVariables false
namespace Qt
/-- How many of the ticks now + 1 .. now + t lie behind f and at most at g. -/
def cntV (now t f g : Int) : Int := max 0 (min (now + t) (max g 0) - max now f)
def stV (now f g : Int) (s : Stp) : Int := if s.k = 5 then cntV now (tickV s.k s.a) f g else 0
def stSum (f g : Int) (ss : List Stp) : Nat → Int
  | 0 => 0
  | j + 1 => stSum f g ss j + (match ss[j]? with | some s => stV (tickSum (ss.take j)) f g s | none => 0)
theorem cntV_bd (now t f g : Int) (h : 0 ≤ t) : 0 ≤ cntV now t f g ∧ cntV now t f g ≤ t := by
  unfold cntV; omega
theorem cntV_zero (now f g : Int) : cntV now 0 f g = 0 := by
  unfold cntV; omega
theorem cntV_yes {now k f g : Int} (h0 : 0 ≤ now) (hk : 0 ≤ k) (h1 : f < now + k + 1) (h2 : now + k + 1 ≤ g) : cntV now (k + 1) f g = cntV now k f g + 1 := by
  unfold cntV; omega
theorem cntV_lo {now k f g : Int} (h0 : 0 ≤ now) (hk : 0 ≤ k) (h1 : ¬ f < now + k + 1) : cntV now (k + 1) f g = cntV now k f g := by
  unfold cntV; omega
theorem cntV_hi {now k f g : Int} (h0 : 0 ≤ now) (hk : 0 ≤ k) (h2 : ¬ now + k + 1 ≤ g) : cntV now (k + 1) f g = cntV now k f g := by
  unfold cntV; omega
theorem stV_bd (now f g : Int) (s : Stp) : 0 ≤ stV now f g s ∧ stV now f g s ≤ 200 := by
  have h := tickV_bd s.k s.a
  have := cntV_bd now (tickV s.k s.a) f g h.1
  unfold stV
  split <;> omega
theorem stSum_bd (f g : Int) (ss : List Stp) (j : Nat) : 0 ≤ stSum f g ss j ∧ stSum f g ss j ≤ 200 * (j : Int) := by
  induction j with
  | zero => simp [stSum]
  | succ j ih =>
    unfold stSum
    split
    · rename_i s _
      have := stV_bd (tickSum (ss.take j)) f g s
      omega
    · omega
theorem stSum_next {f g : Int} {ss : List Stp} {j : Nat} {s : Stp} (h : ss[j]? = some s) : stSum f g ss (j + 1) = stSum f g ss j + stV (tickSum (ss.take j)) f g s := by
  rw [stSum, h]
theorem stV_five {now f g : Int} {s : Stp} (h : s.k = 5) : stV now f g s = cntV now (tickV s.k s.a) f g := if_pos h
theorem stV_not {now f g : Int} {s : Stp} (h : ¬ s.k = 5) : stV now f g s = 0 := if_neg h
end Qt
end Go.Proofs.Ytalkoaahhkafaaa
