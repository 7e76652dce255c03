/- What the laws' own helper szSlotS gives when it is called. Conditions: the slice reads as the list that is named. -/
import Derived.Test.YtebldedmkpdgcaaSlts
import Derived.Test.YtebldedmkpdgcaaTen
import Derived.Test.YtebldedmkpdgcaaNewI
namespace Go.Proofs.Ytebldedmkpdgcaa
open Go.RowKit
set_option linter.unusedSimpArgs false
set_option linter.unusedVariables false
namespace Qt
def szRSlt (left : Int) (n : Nat) (ls : List Slt) : Int := if (n : Int) + bigSlt ls ≤ left then left - n - bigSlt ls else -1
/-- A slice that came in. -/
def RdSltT (w : World) (A : Option Addr) (n : Nat) (ls : List Slt) : Prop := RdSlt w A n ls ∧ (n : Int) ≤ 9223372036854775807
theorem bigSlt_zero (ls : List Slt) : bigSlt ls = 0 := by
  induction ls with
  | nil => rfl
  | cons a r ih => simp [bigSlt, ih]
theorem szSltSL (A : Option Addr) (n p : Nat) (ls : List Slt) (left : Int) (W : World) (hr : RdSltT W A n ls) (hl0 : 0 ≤ left) (hl : left ≤ 1048576) :
    Calls Try.prog 14 #[.slice A n p, .int .i64 left] W fun e W' => e = .returned (.int .i64 (szRSlt left n ls)) ∧ Below W.heap.size W W' := by
  obtain ⟨hr, hm⟩ := hr
  have hn0 : (0 : Int) ≤ n := Int.natCast_nonneg n
  unfold szRSlt
  rw [bigSlt_zero]
  by_cases hn : (n : Int) ≤ left
  · rw [if_pos (by simpa using hn)]
    have e : left - (n : Int) - ((0 : Nat) : Int) = left - n := by omega
    rw [e]
    clear e hr hm
    go_enter Try.func14, Try.ntmps14
    go_wp2
    go_ret
    exact ⟨rfl, Below.refl _ _⟩
  · rw [if_neg (by simpa using hn)]
    clear hr
    go_enter Try.func14, Try.ntmps14
    go_wp2
    go_ret
    exact ⟨rfl, Below.refl _ _⟩
end Qt
end Go.Proofs.Ytebldedmkpdgcaa
