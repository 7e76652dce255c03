/-
  No cell of these rows narrows 'for every input' (looked for: loops, veiled, ifaces, maps, wideKeys, modest, calm, conditions, laid).
  DERIVED. THE GIVEN ROWS OF THIS SEAT. 11 by the template 'for every input the law returns true; each argument reads behind the call as it read before'; 0 by the template 'total and deterministic' (their statements: YtebldedmkpdgcaaTotals.lean).
  GIVEN WITH THE SEED: the statements are not yours to turn. If you find one false, say at which input.
  Laid BY PROGRAM, IN A SANDBOX (cutbox-rows.mjs): the forced cells as the released guide's own fill.sh prints them over the translation 72a89080ecb28d1e… (all of the seat's roots in one cut). By AI agents, Wed Nov 11 2026. No macro, syntax, notation, axiom, sorry.
-/
import Derived.Test.YtebldedmkpdgcaaChecked
import GoSem.Claim
import GoSem.ClaimJoined
import GoSem.ClaimMapViews
import Derived.JoinedTies
import Derived.KernelRfl
namespace Go.Proofs.Ytebldedmkpdgcaa
/- THE CELL 'sum', in the pinned program and in every row, IS THE sha256 OF THE DUMP (.gsa) THAT YtebldedmkpdgcaaProg.lean LOADS. Nothing in Lean hashes anything: it is a label: what it is worth is what the hold of that sum in a sandbox is worth. -/
noncomputable def Try.pinned : Pinned := { name := "ytebldedmkpdgcaa", sum := "72a89080ecb28d1e665b46c5248fb966d7131a3667d2e3d508fc377e696cdd4f", checked := Try.checked }
namespace Rows
def none {H : Type} : Left H := { results := [], args := [] }

/-- 'laws.FnExactLoadsOf': WHATEVER THE INPUT: true; the input reads as it did. -/
def fnExactLoadsOfSpec : ChangeSpec := { name := "fnExactLoadsOf", fn := fun _ => fun
  | [d1, d2] => { results := [.lit (.bool true)], args := [d1, d2] }
  | _ => none }
def fnExactLoadsOfRow : OpenClaim := { program := "ytebldedmkpdgcaa", sum := "72a89080ecb28d1e665b46c5248fb966d7131a3667d2e3d508fc377e696cdd4f", func := "loop.example/g00778/laws.FnExactLoadsOf", spec := "fnExactLoadsOf", apart := false }
def FnExactLoadsOfSaid : Prop := fnExactLoadsOfRow.holds Try.pinned (OpenSpec.ofChange fnExactLoadsOfSpec)

/-- ITS FALSE NEIGHBOUR: 'it returns false'. Refute it at one input. -/
def fnExactLoadsOfWrong : ChangeSpec := { name := "fnExactLoadsOf", fn := fun _ => fun
  | [d1, d2] => { results := [.lit (.bool false)], args := [d1, d2] }
  | _ => none }
def FnExactLoadsOfWrongFalsely : Prop := fnExactLoadsOfRow.holds Try.pinned (OpenSpec.ofChange fnExactLoadsOfWrong)

/-- 'laws.FnExactPlanOk': WHATEVER THE INPUT: true; the input reads as it did. -/
def fnExactPlanOkSpec : ChangeSpec := { name := "fnExactPlanOk", fn := fun _ => fun
  | [d1, d2, d3] => { results := [.lit (.bool true)], args := [d1, d2, d3] }
  | _ => none }
def fnExactPlanOkRow : OpenClaim := { program := "ytebldedmkpdgcaa", sum := "72a89080ecb28d1e665b46c5248fb966d7131a3667d2e3d508fc377e696cdd4f", func := "loop.example/g00778/laws.FnExactPlanOk", spec := "fnExactPlanOk", unfollowed := true, recurses := true, apart := false }
def FnExactPlanOkSaid : Prop := fnExactPlanOkRow.holds Try.pinned (OpenSpec.ofChange fnExactPlanOkSpec)

/-- ITS FALSE NEIGHBOUR: 'it returns false'. Refute it at one input. -/
def fnExactPlanOkWrong : ChangeSpec := { name := "fnExactPlanOk", fn := fun _ => fun
  | [d1, d2, d3] => { results := [.lit (.bool false)], args := [d1, d2, d3] }
  | _ => none }
def FnExactPlanOkWrongFalsely : Prop := fnExactPlanOkRow.holds Try.pinned (OpenSpec.ofChange fnExactPlanOkWrong)

/-- 'laws.FnExactJobsAt': WHATEVER THE INPUT: true; the input reads as it did. -/
def fnExactJobsAtSpec : ChangeSpec := { name := "fnExactJobsAt", fn := fun _ => fun
  | [d1, d2] => { results := [.lit (.bool true)], args := [d1, d2] }
  | _ => none }
def fnExactJobsAtRow : OpenClaim := { program := "ytebldedmkpdgcaa", sum := "72a89080ecb28d1e665b46c5248fb966d7131a3667d2e3d508fc377e696cdd4f", func := "loop.example/g00778/laws.FnExactJobsAt", spec := "fnExactJobsAt", unfollowed := true, recurses := true, apart := false }
def FnExactJobsAtSaid : Prop := fnExactJobsAtRow.holds Try.pinned (OpenSpec.ofChange fnExactJobsAtSpec)

/-- ITS FALSE NEIGHBOUR: 'it returns false'. Refute it at one input. -/
def fnExactJobsAtWrong : ChangeSpec := { name := "fnExactJobsAt", fn := fun _ => fun
  | [d1, d2] => { results := [.lit (.bool false)], args := [d1, d2] }
  | _ => none }
def FnExactJobsAtWrongFalsely : Prop := fnExactJobsAtRow.holds Try.pinned (OpenSpec.ofChange fnExactJobsAtWrong)

/-- 'laws.FnExactListPlan': WHATEVER THE INPUT: true; the input reads as it did. -/
def fnExactListPlanSpec : ChangeSpec := { name := "fnExactListPlan", fn := fun _ => fun
  | [d1, d2] => { results := [.lit (.bool true)], args := [d1, d2] }
  | _ => none }
def fnExactListPlanRow : OpenClaim := { program := "ytebldedmkpdgcaa", sum := "72a89080ecb28d1e665b46c5248fb966d7131a3667d2e3d508fc377e696cdd4f", func := "loop.example/g00778/laws.FnExactListPlan", spec := "fnExactListPlan", unfollowed := true, recurses := true, apart := false }
def FnExactListPlanSaid : Prop := fnExactListPlanRow.holds Try.pinned (OpenSpec.ofChange fnExactListPlanSpec)

/-- ITS FALSE NEIGHBOUR: 'it returns false'. Refute it at one input. -/
def fnExactListPlanWrong : ChangeSpec := { name := "fnExactListPlan", fn := fun _ => fun
  | [d1, d2] => { results := [.lit (.bool false)], args := [d1, d2] }
  | _ => none }
def FnExactListPlanWrongFalsely : Prop := fnExactListPlanRow.holds Try.pinned (OpenSpec.ofChange fnExactListPlanWrong)

/-- 'laws.FnExactLongestFirst': WHATEVER THE INPUT: true; the input reads as it did. -/
def fnExactLongestFirstSpec : ChangeSpec := { name := "fnExactLongestFirst", fn := fun _ => fun
  | [d1, d2] => { results := [.lit (.bool true)], args := [d1, d2] }
  | _ => none }
def fnExactLongestFirstRow : OpenClaim := { program := "ytebldedmkpdgcaa", sum := "72a89080ecb28d1e665b46c5248fb966d7131a3667d2e3d508fc377e696cdd4f", func := "loop.example/g00778/laws.FnExactLongestFirst", spec := "fnExactLongestFirst", unfollowed := true, recurses := true, apart := false }
def FnExactLongestFirstSaid : Prop := fnExactLongestFirstRow.holds Try.pinned (OpenSpec.ofChange fnExactLongestFirstSpec)

/-- ITS FALSE NEIGHBOUR: 'it returns false'. Refute it at one input. -/
def fnExactLongestFirstWrong : ChangeSpec := { name := "fnExactLongestFirst", fn := fun _ => fun
  | [d1, d2] => { results := [.lit (.bool false)], args := [d1, d2] }
  | _ => none }
def FnExactLongestFirstWrongFalsely : Prop := fnExactLongestFirstRow.holds Try.pinned (OpenSpec.ofChange fnExactLongestFirstWrong)

/-- 'laws.FnExactSameOutputs': WHATEVER THE INPUT: true; the input reads as it did. -/
def fnExactSameOutputsSpec : ChangeSpec := { name := "fnExactSameOutputs", fn := fun _ => fun
  | [d1, d2] => { results := [.lit (.bool true)], args := [d1, d2] }
  | _ => none }
def fnExactSameOutputsRow : OpenClaim := { program := "ytebldedmkpdgcaa", sum := "72a89080ecb28d1e665b46c5248fb966d7131a3667d2e3d508fc377e696cdd4f", func := "loop.example/g00778/laws.FnExactSameOutputs", spec := "fnExactSameOutputs", unfollowed := true, recurses := true, apart := false }
def FnExactSameOutputsSaid : Prop := fnExactSameOutputsRow.holds Try.pinned (OpenSpec.ofChange fnExactSameOutputsSpec)

/-- ITS FALSE NEIGHBOUR: 'it returns false'. Refute it at one input. -/
def fnExactSameOutputsWrong : ChangeSpec := { name := "fnExactSameOutputs", fn := fun _ => fun
  | [d1, d2] => { results := [.lit (.bool false)], args := [d1, d2] }
  | _ => none }
def FnExactSameOutputsWrongFalsely : Prop := fnExactSameOutputsRow.holds Try.pinned (OpenSpec.ofChange fnExactSameOutputsWrong)

/-- 'laws.FnExactOrderByDue': WHATEVER THE INPUT: true; the input reads as it did. -/
def fnExactOrderByDueSpec : ChangeSpec := { name := "fnExactOrderByDue", fn := fun _ => fun
  | [d] => { results := [.lit (.bool true)], args := [d] }
  | _ => none }
def fnExactOrderByDueRow : OpenClaim := { program := "ytebldedmkpdgcaa", sum := "72a89080ecb28d1e665b46c5248fb966d7131a3667d2e3d508fc377e696cdd4f", func := "loop.example/g00778/laws.FnExactOrderByDue", spec := "fnExactOrderByDue", unfollowed := true, recurses := true, apart := false }
def FnExactOrderByDueSaid : Prop := fnExactOrderByDueRow.holds Try.pinned (OpenSpec.ofChange fnExactOrderByDueSpec)

/-- ITS FALSE NEIGHBOUR: 'it returns false'. Refute it at one input. -/
def fnExactOrderByDueWrong : ChangeSpec := { name := "fnExactOrderByDue", fn := fun _ => fun
  | [d] => { results := [.lit (.bool false)], args := [d] }
  | _ => none }
def FnExactOrderByDueWrongFalsely : Prop := fnExactOrderByDueRow.holds Try.pinned (OpenSpec.ofChange fnExactOrderByDueWrong)

/-- 'laws.FnExactGroupWishes': WHATEVER THE INPUT: true; the input reads as it did. -/
def fnExactGroupWishesSpec : ChangeSpec := { name := "fnExactGroupWishes", fn := fun _ => fun
  | [d1, d2] => { results := [.lit (.bool true)], args := [d1, d2] }
  | _ => none }
def fnExactGroupWishesRow : OpenClaim := { program := "ytebldedmkpdgcaa", sum := "72a89080ecb28d1e665b46c5248fb966d7131a3667d2e3d508fc377e696cdd4f", func := "loop.example/g00778/laws.FnExactGroupWishes", spec := "fnExactGroupWishes", unfollowed := true, recurses := true, apart := false }
def FnExactGroupWishesSaid : Prop := fnExactGroupWishesRow.holds Try.pinned (OpenSpec.ofChange fnExactGroupWishesSpec)

/-- ITS FALSE NEIGHBOUR: 'it returns false'. Refute it at one input. -/
def fnExactGroupWishesWrong : ChangeSpec := { name := "fnExactGroupWishes", fn := fun _ => fun
  | [d1, d2] => { results := [.lit (.bool false)], args := [d1, d2] }
  | _ => none }
def FnExactGroupWishesWrongFalsely : Prop := fnExactGroupWishesRow.holds Try.pinned (OpenSpec.ofChange fnExactGroupWishesWrong)

/-- 'laws.FnExactRealsOf': WHATEVER THE INPUT: true; the input reads as it did. -/
def fnExactRealsOfSpec : ChangeSpec := { name := "fnExactRealsOf", fn := fun _ => fun
  | [d1, d2] => { results := [.lit (.bool true)], args := [d1, d2] }
  | _ => none }
def fnExactRealsOfRow : OpenClaim := { program := "ytebldedmkpdgcaa", sum := "72a89080ecb28d1e665b46c5248fb966d7131a3667d2e3d508fc377e696cdd4f", func := "loop.example/g00778/laws.FnExactRealsOf", spec := "fnExactRealsOf", unfollowed := true, recurses := true, apart := false }
def FnExactRealsOfSaid : Prop := fnExactRealsOfRow.holds Try.pinned (OpenSpec.ofChange fnExactRealsOfSpec)

/-- ITS FALSE NEIGHBOUR: 'it returns false'. Refute it at one input. -/
def fnExactRealsOfWrong : ChangeSpec := { name := "fnExactRealsOf", fn := fun _ => fun
  | [d1, d2] => { results := [.lit (.bool false)], args := [d1, d2] }
  | _ => none }
def FnExactRealsOfWrongFalsely : Prop := fnExactRealsOfRow.holds Try.pinned (OpenSpec.ofChange fnExactRealsOfWrong)

/-- 'laws.FnExactQuantTensor': WHATEVER THE INPUT: true; the input reads as it did. -/
def fnExactQuantTensorSpec : ChangeSpec := { name := "fnExactQuantTensor", fn := fun _ => fun
  | [d1, d2] => { results := [.lit (.bool true)], args := [d1, d2] }
  | _ => none }
def fnExactQuantTensorRow : OpenClaim := { program := "ytebldedmkpdgcaa", sum := "72a89080ecb28d1e665b46c5248fb966d7131a3667d2e3d508fc377e696cdd4f", func := "loop.example/g00778/laws.FnExactQuantTensor", spec := "fnExactQuantTensor", unfollowed := true, recurses := true, apart := false }
def FnExactQuantTensorSaid : Prop := fnExactQuantTensorRow.holds Try.pinned (OpenSpec.ofChange fnExactQuantTensorSpec)

/-- ITS FALSE NEIGHBOUR: 'it returns false'. Refute it at one input. -/
def fnExactQuantTensorWrong : ChangeSpec := { name := "fnExactQuantTensor", fn := fun _ => fun
  | [d1, d2] => { results := [.lit (.bool false)], args := [d1, d2] }
  | _ => none }
def FnExactQuantTensorWrongFalsely : Prop := fnExactQuantTensorRow.holds Try.pinned (OpenSpec.ofChange fnExactQuantTensorWrong)

/-- 'laws.FnQuantized': WHATEVER THE INPUT: true; the input reads as it did. -/
def fnQuantizedSpec : ChangeSpec := { name := "fnQuantized", fn := fun _ => fun
  | [d] => { results := [.lit (.bool true)], args := [d] }
  | _ => none }
def fnQuantizedRow : OpenClaim := { program := "ytebldedmkpdgcaa", sum := "72a89080ecb28d1e665b46c5248fb966d7131a3667d2e3d508fc377e696cdd4f", func := "loop.example/g00778/laws.FnQuantized", spec := "fnQuantized", unfollowed := true, recurses := true, apart := false }
def FnQuantizedSaid : Prop := fnQuantizedRow.holds Try.pinned (OpenSpec.ofChange fnQuantizedSpec)

/-- ITS FALSE NEIGHBOUR: 'it returns false'. Refute it at one input. -/
def fnQuantizedWrong : ChangeSpec := { name := "fnQuantized", fn := fun _ => fun
  | [d] => { results := [.lit (.bool false)], args := [d] }
  | _ => none }
def FnQuantizedWrongFalsely : Prop := fnQuantizedRow.holds Try.pinned (OpenSpec.ofChange fnQuantizedWrong)

/- THE SECOND FORM. 'bulk': how many values and letters a reading holds, each counted each time it is reached (what is shared counts as often as it is met; a slice's spare places count too). A statement '..UptoSaid' is the law's where the arguments, and the package variables that the reading takes, are together of bulk at most 1048576: NARROWER than '..Said'. Prove '..Said' where nothing that the law and all that it calls make is longer than what came in: it says more and counts as full. Else prove '..UptoSaid'. A law counts once. -/
mutual
def uptoBulk {H : Type} : DataW H → Nat
  | .lit (.string bytes) => bytes.length + 1
  | .lit _ => 1
  | .nil => 1
  | .ptr d => uptoBulk d + 1
  | .slice elems spare => uptoBulkAll elems + uptoBulkAll spare + 1
  | .agg parts => uptoBulkAll parts + 1
  | .iface _ d => uptoBulk d + 1
  | .map entries => uptoBulkEntries entries + 1
  | .held _ => 1
def uptoBulkAll {H : Type} : List (DataW H) → Nat
  | [] => 0
  | d :: r => uptoBulk d + uptoBulkAll r
def uptoBulkEntries {H : Type} : List (Lit × DataW H) → Nat
  | [] => 0
  | x :: r => uptoBulkEntry x + uptoBulkEntries r
def uptoBulkEntry {H : Type} : Lit × DataW H → Nat
  | (.string bytes, d) => bytes.length + uptoBulk d + 1
  | (_, d) => uptoBulk d + 1
 end
def uptoSmall : (H : Type) → List (DataW H) → Bool := fun _ ds => decide (uptoBulkAll ds ≤ 1048576)
def OpenSpec.upto (s : _root_.Go.ChangeSpec) : _root_.Go.OpenSpec := { _root_.Go.OpenSpec.ofChange s with cond := some uptoSmall }

/-- 'laws.FnExactLoadsOf', WHERE WHAT IT READS IS OF BULK AT MOST 1048576: true; the input reads as it did. -/
def fnExactLoadsOfUptoRow : OpenClaim := { program := "ytebldedmkpdgcaa", sum := "72a89080ecb28d1e665b46c5248fb966d7131a3667d2e3d508fc377e696cdd4f", func := "loop.example/g00778/laws.FnExactLoadsOf", spec := "fnExactLoadsOf", apart := false, narrowed := true }
def FnExactLoadsOfUptoSaid : Prop := fnExactLoadsOfUptoRow.holds Try.pinned (OpenSpec.upto fnExactLoadsOfSpec)

/-- 'laws.FnExactPlanOk', WHERE WHAT IT READS IS OF BULK AT MOST 1048576: true; the input reads as it did. -/
def fnExactPlanOkUptoRow : OpenClaim := { program := "ytebldedmkpdgcaa", sum := "72a89080ecb28d1e665b46c5248fb966d7131a3667d2e3d508fc377e696cdd4f", func := "loop.example/g00778/laws.FnExactPlanOk", spec := "fnExactPlanOk", unfollowed := true, recurses := true, apart := false, narrowed := true }
def FnExactPlanOkUptoSaid : Prop := fnExactPlanOkUptoRow.holds Try.pinned (OpenSpec.upto fnExactPlanOkSpec)

/-- 'laws.FnExactJobsAt', WHERE WHAT IT READS IS OF BULK AT MOST 1048576: true; the input reads as it did. -/
def fnExactJobsAtUptoRow : OpenClaim := { program := "ytebldedmkpdgcaa", sum := "72a89080ecb28d1e665b46c5248fb966d7131a3667d2e3d508fc377e696cdd4f", func := "loop.example/g00778/laws.FnExactJobsAt", spec := "fnExactJobsAt", unfollowed := true, recurses := true, apart := false, narrowed := true }
def FnExactJobsAtUptoSaid : Prop := fnExactJobsAtUptoRow.holds Try.pinned (OpenSpec.upto fnExactJobsAtSpec)

/-- 'laws.FnExactListPlan', WHERE WHAT IT READS IS OF BULK AT MOST 1048576: true; the input reads as it did. -/
def fnExactListPlanUptoRow : OpenClaim := { program := "ytebldedmkpdgcaa", sum := "72a89080ecb28d1e665b46c5248fb966d7131a3667d2e3d508fc377e696cdd4f", func := "loop.example/g00778/laws.FnExactListPlan", spec := "fnExactListPlan", unfollowed := true, recurses := true, apart := false, narrowed := true }
def FnExactListPlanUptoSaid : Prop := fnExactListPlanUptoRow.holds Try.pinned (OpenSpec.upto fnExactListPlanSpec)

/-- 'laws.FnExactLongestFirst', WHERE WHAT IT READS IS OF BULK AT MOST 1048576: true; the input reads as it did. -/
def fnExactLongestFirstUptoRow : OpenClaim := { program := "ytebldedmkpdgcaa", sum := "72a89080ecb28d1e665b46c5248fb966d7131a3667d2e3d508fc377e696cdd4f", func := "loop.example/g00778/laws.FnExactLongestFirst", spec := "fnExactLongestFirst", unfollowed := true, recurses := true, apart := false, narrowed := true }
def FnExactLongestFirstUptoSaid : Prop := fnExactLongestFirstUptoRow.holds Try.pinned (OpenSpec.upto fnExactLongestFirstSpec)

/-- 'laws.FnExactSameOutputs', WHERE WHAT IT READS IS OF BULK AT MOST 1048576: true; the input reads as it did. -/
def fnExactSameOutputsUptoRow : OpenClaim := { program := "ytebldedmkpdgcaa", sum := "72a89080ecb28d1e665b46c5248fb966d7131a3667d2e3d508fc377e696cdd4f", func := "loop.example/g00778/laws.FnExactSameOutputs", spec := "fnExactSameOutputs", unfollowed := true, recurses := true, apart := false, narrowed := true }
def FnExactSameOutputsUptoSaid : Prop := fnExactSameOutputsUptoRow.holds Try.pinned (OpenSpec.upto fnExactSameOutputsSpec)

/-- 'laws.FnExactOrderByDue', WHERE WHAT IT READS IS OF BULK AT MOST 1048576: true; the input reads as it did. -/
def fnExactOrderByDueUptoRow : OpenClaim := { program := "ytebldedmkpdgcaa", sum := "72a89080ecb28d1e665b46c5248fb966d7131a3667d2e3d508fc377e696cdd4f", func := "loop.example/g00778/laws.FnExactOrderByDue", spec := "fnExactOrderByDue", unfollowed := true, recurses := true, apart := false, narrowed := true }
def FnExactOrderByDueUptoSaid : Prop := fnExactOrderByDueUptoRow.holds Try.pinned (OpenSpec.upto fnExactOrderByDueSpec)

/-- 'laws.FnExactGroupWishes', WHERE WHAT IT READS IS OF BULK AT MOST 1048576: true; the input reads as it did. -/
def fnExactGroupWishesUptoRow : OpenClaim := { program := "ytebldedmkpdgcaa", sum := "72a89080ecb28d1e665b46c5248fb966d7131a3667d2e3d508fc377e696cdd4f", func := "loop.example/g00778/laws.FnExactGroupWishes", spec := "fnExactGroupWishes", unfollowed := true, recurses := true, apart := false, narrowed := true }
def FnExactGroupWishesUptoSaid : Prop := fnExactGroupWishesUptoRow.holds Try.pinned (OpenSpec.upto fnExactGroupWishesSpec)

/-- 'laws.FnExactRealsOf', WHERE WHAT IT READS IS OF BULK AT MOST 1048576: true; the input reads as it did. -/
def fnExactRealsOfUptoRow : OpenClaim := { program := "ytebldedmkpdgcaa", sum := "72a89080ecb28d1e665b46c5248fb966d7131a3667d2e3d508fc377e696cdd4f", func := "loop.example/g00778/laws.FnExactRealsOf", spec := "fnExactRealsOf", unfollowed := true, recurses := true, apart := false, narrowed := true }
def FnExactRealsOfUptoSaid : Prop := fnExactRealsOfUptoRow.holds Try.pinned (OpenSpec.upto fnExactRealsOfSpec)

/-- 'laws.FnExactQuantTensor', WHERE WHAT IT READS IS OF BULK AT MOST 1048576: true; the input reads as it did. -/
def fnExactQuantTensorUptoRow : OpenClaim := { program := "ytebldedmkpdgcaa", sum := "72a89080ecb28d1e665b46c5248fb966d7131a3667d2e3d508fc377e696cdd4f", func := "loop.example/g00778/laws.FnExactQuantTensor", spec := "fnExactQuantTensor", unfollowed := true, recurses := true, apart := false, narrowed := true }
def FnExactQuantTensorUptoSaid : Prop := fnExactQuantTensorUptoRow.holds Try.pinned (OpenSpec.upto fnExactQuantTensorSpec)

/-- 'laws.FnQuantized', WHERE WHAT IT READS IS OF BULK AT MOST 1048576: true; the input reads as it did. -/
def fnQuantizedUptoRow : OpenClaim := { program := "ytebldedmkpdgcaa", sum := "72a89080ecb28d1e665b46c5248fb966d7131a3667d2e3d508fc377e696cdd4f", func := "loop.example/g00778/laws.FnQuantized", spec := "fnQuantized", unfollowed := true, recurses := true, apart := false, narrowed := true }
def FnQuantizedUptoSaid : Prop := fnQuantizedUptoRow.holds Try.pinned (OpenSpec.upto fnQuantizedSpec)

end Rows
end Go.Proofs.Ytebldedmkpdgcaa
