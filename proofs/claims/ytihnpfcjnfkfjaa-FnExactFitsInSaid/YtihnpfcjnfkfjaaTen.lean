/- What the laws' own helpers on tensors (szTensor, toTensor, eqTensor) give when they are called. Conditions: the slice reads as the list that is named. -/
import Derived.Test.YtihnpfcjnfkfjaaBlk
namespace Go.Proofs.Ytihnpfcjnfkfjaa
open Go.RowKit
namespace Qt

/-- A new tensor that holds these numbers. -/
def NewT (W : World) (h w c : Int) (n : Nat) (xs : List Int) (e : Ending) (W' : World) : Prop :=
  ∃ g, e = .returned (.agg #[.int .i64 h, .int .i64 w, .int .i64 c, .slice (some ⟨g, 0, none⟩) n n]) ∧ W.heap.size ≤ g ∧ RdI W' (some ⟨g, 0, none⟩) n xs ∧ Below W.heap.size W W'

end Qt
end Go.Proofs.Ytihnpfcjnfkfjaa
