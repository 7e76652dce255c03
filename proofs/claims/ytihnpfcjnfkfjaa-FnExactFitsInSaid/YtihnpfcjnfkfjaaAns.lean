/- What it is that an answer is a slice of ints of the call's own. No conditions. -/
import Derived.Test.YtihnpfcjnfkfjaaOwnI
namespace Go.Proofs.Ytihnpfcjnfkfjaa
open Go.RowKit Go.Sort
namespace Qt
/-- An answer that is a slice of ints, in a block of the call's own. -/
def AnsI (W : World) (m : Nat) (xs : List Int) (e : Ending) (W' : World) : Prop := ∃ A cap, e = .returned (.slice A m cap) ∧ OwnI W.heap.size W' A m xs ∧ Below W.heap.size W W'
theorem AnsI.of_own {W W' : World} {xs : List Int} {V : Value} {n : Nat} {t : TypeId} (ho : W'.ownsRow W.heap.size t 1 V n (xs.map (Value.int .i64))) (hb : Below W.heap.size W W') : AnsI W xs.length xs (.returned V) W' := by
  have hn : xs.length = n := by have := ho.1; simpa using this
  subst hn
  rcases ho.2 with ⟨rfl, h0⟩ | ⟨g, cap, cur, rfl, rest⟩
  · exact ⟨none, 0, by rw [h0], ⟨rfl, fun h => by omega⟩, hb⟩
  · exact ⟨_, _, rfl, OwnI.of_own ho, hb⟩
end Qt
end Go.Proofs.Ytihnpfcjnfkfjaa
