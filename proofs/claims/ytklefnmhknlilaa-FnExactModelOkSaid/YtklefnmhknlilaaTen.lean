/- What the laws' own helpers on tensors (szTensor, toTensor, eqTensor) give when they are called. Conditions: the slice reads as the list that is named. -/
import Derived.Test.YtklefnmhknlilaaBlk
namespace Go.Proofs.Ytklefnmhknlilaa
open Go.RowKit
namespace Qt

/-- A new tensor that holds these numbers. -/
def NewT (W : World) (h w c : Int) (n : Nat) (xs : List Int) (e : Ending) (W' : World) : Prop :=
  ∃ g, e = .returned (.agg #[.int .i64 h, .int .i64 w, .int .i64 c, .slice (some ⟨g, 0, none⟩) n n]) ∧ W.heap.size ≤ g ∧ RdI W' (some ⟨g, 0, none⟩) n xs ∧ Below W.heap.size W W'

theorem eqShape_same (h w c : Int) (W : World) :
    Calls Try.prog 46 #[.agg #[.int .i64 h, .int .i64 w, .int .i64 c], .agg #[.int .i64 h, .int .i64 w, .int .i64 c]] W fun e W' => e = .returned (.bool true) ∧ Below W.heap.size W W' := by
  go_enter Try.func46, Try.ntmps46
  go_wp2
  go_ret
  exact ⟨rfl, ((Below.refl _ W).alloc (Nat.le_refl _) _).alloc (by simp) _⟩

end Qt
end Go.Proofs.Ytklefnmhknlilaa
