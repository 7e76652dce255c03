/-
  No cell of these rows narrows 'for every input' (looked for: loops, veiled, ifaces, maps, wideKeys, modest, calm, conditions, laid).
  DERIVED. THE GIVEN ROWS OF THIS SEAT. 7 by the template 'for every input the law returns true; each argument reads behind the call as it read before'; 0 by the template 'total and deterministic' (their statements: YtnceiclgfogmiaaTotals.lean).
  GIVEN WITH THE SEED: the statements are not yours to turn. If you find one false, say at which input.
  Laid BY PROGRAM, IN A SANDBOX (cutbox-rows.mjs): the forced cells as the released guide's own fill.sh prints them over the translation 375c38871b580786… (all of the seat's roots in one cut). By AI agents, Wed Nov 11 2026. No macro, syntax, notation, axiom, sorry.
-/
import Derived.Test.YtnceiclgfogmiaaChecked
import GoSem.Claim
import GoSem.ClaimJoined
import GoSem.ClaimMapViews
import Derived.JoinedTies
import Derived.KernelRfl
namespace Go.Proofs.Ytnceiclgfogmiaa
/- THE CELL 'sum', in the pinned program and in every row, IS THE sha256 OF THE DUMP (.gsa) THAT YtnceiclgfogmiaaProg.lean LOADS. Nothing in Lean hashes anything: it is a label: what it is worth is what the hold of that sum in a sandbox is worth. -/
noncomputable def Try.pinned : Pinned := { name := "ytnceiclgfogmiaa", sum := "375c38871b5807868c25b253310d5b8f1e704de167adadf2609c9d98c6c6b52f", checked := Try.checked }
namespace Rows
def none {H : Type} : Left H := { results := [], args := [] }

/-- 'laws.FnLayers': WHATEVER THE INPUT: true; the input reads as it did. -/
def fnLayersSpec : ChangeSpec := { name := "fnLayers", fn := fun _ => fun
  | [d] => { results := [.lit (.bool true)], args := [d] }
  | _ => none }
def fnLayersRow : OpenClaim := { program := "ytnceiclgfogmiaa", sum := "375c38871b5807868c25b253310d5b8f1e704de167adadf2609c9d98c6c6b52f", func := "loop.example/g00778/laws.FnLayers", spec := "fnLayers", unfollowed := true, recurses := true, apart := false }
def FnLayersSaid : Prop := fnLayersRow.holds Try.pinned (OpenSpec.ofChange fnLayersSpec)

/-- ITS FALSE NEIGHBOUR: 'it returns false'. Refute it at one input. -/
def fnLayersWrong : ChangeSpec := { name := "fnLayers", fn := fun _ => fun
  | [d] => { results := [.lit (.bool false)], args := [d] }
  | _ => none }
def FnLayersWrongFalsely : Prop := fnLayersRow.holds Try.pinned (OpenSpec.ofChange fnLayersWrong)

/-- 'laws.FnOneWeight': WHATEVER THE INPUT: true; the input reads as it did. -/
def fnOneWeightSpec : ChangeSpec := { name := "fnOneWeight", fn := fun _ => fun
  | [d] => { results := [.lit (.bool true)], args := [d] }
  | _ => none }
def fnOneWeightRow : OpenClaim := { program := "ytnceiclgfogmiaa", sum := "375c38871b5807868c25b253310d5b8f1e704de167adadf2609c9d98c6c6b52f", func := "loop.example/g00778/laws.FnOneWeight", spec := "fnOneWeight", unfollowed := true, recurses := true, apart := false }
def FnOneWeightSaid : Prop := fnOneWeightRow.holds Try.pinned (OpenSpec.ofChange fnOneWeightSpec)

/-- ITS FALSE NEIGHBOUR: 'it returns false'. Refute it at one input. -/
def fnOneWeightWrong : ChangeSpec := { name := "fnOneWeight", fn := fun _ => fun
  | [d] => { results := [.lit (.bool false)], args := [d] }
  | _ => none }
def FnOneWeightWrongFalsely : Prop := fnOneWeightRow.holds Try.pinned (OpenSpec.ofChange fnOneWeightWrong)

/-- 'laws.FnExactOutShape': WHATEVER THE INPUT: true; the input reads as it did. -/
def fnExactOutShapeSpec : ChangeSpec := { name := "fnExactOutShape", fn := fun _ => fun
  | [d1, d2] => { results := [.lit (.bool true)], args := [d1, d2] }
  | _ => none }
def fnExactOutShapeRow : OpenClaim := { program := "ytnceiclgfogmiaa", sum := "375c38871b5807868c25b253310d5b8f1e704de167adadf2609c9d98c6c6b52f", func := "loop.example/g00778/laws.FnExactOutShape", spec := "fnExactOutShape", unfollowed := true, recurses := true, apart := false }
def FnExactOutShapeSaid : Prop := fnExactOutShapeRow.holds Try.pinned (OpenSpec.ofChange fnExactOutShapeSpec)

/-- ITS FALSE NEIGHBOUR: 'it returns false'. Refute it at one input. -/
def fnExactOutShapeWrong : ChangeSpec := { name := "fnExactOutShape", fn := fun _ => fun
  | [d1, d2] => { results := [.lit (.bool false)], args := [d1, d2] }
  | _ => none }
def FnExactOutShapeWrongFalsely : Prop := fnExactOutShapeRow.holds Try.pinned (OpenSpec.ofChange fnExactOutShapeWrong)

/-- 'laws.FnExactRunLayer': WHATEVER THE INPUT: true; the input reads as it did. -/
def fnExactRunLayerSpec : ChangeSpec := { name := "fnExactRunLayer", fn := fun _ => fun
  | [d1, d2] => { results := [.lit (.bool true)], args := [d1, d2] }
  | _ => none }
def fnExactRunLayerRow : OpenClaim := { program := "ytnceiclgfogmiaa", sum := "375c38871b5807868c25b253310d5b8f1e704de167adadf2609c9d98c6c6b52f", func := "loop.example/g00778/laws.FnExactRunLayer", spec := "fnExactRunLayer", unfollowed := true, recurses := true, apart := false }
def FnExactRunLayerSaid : Prop := fnExactRunLayerRow.holds Try.pinned (OpenSpec.ofChange fnExactRunLayerSpec)

/-- ITS FALSE NEIGHBOUR: 'it returns false'. Refute it at one input. -/
def fnExactRunLayerWrong : ChangeSpec := { name := "fnExactRunLayer", fn := fun _ => fun
  | [d1, d2] => { results := [.lit (.bool false)], args := [d1, d2] }
  | _ => none }
def FnExactRunLayerWrongFalsely : Prop := fnExactRunLayerRow.holds Try.pinned (OpenSpec.ofChange fnExactRunLayerWrong)

/-- 'laws.FnExactCostOf': WHATEVER THE INPUT: true; the input reads as it did. -/
def fnExactCostOfSpec : ChangeSpec := { name := "fnExactCostOf", fn := fun _ => fun
  | [d1, d2] => { results := [.lit (.bool true)], args := [d1, d2] }
  | _ => none }
def fnExactCostOfRow : OpenClaim := { program := "ytnceiclgfogmiaa", sum := "375c38871b5807868c25b253310d5b8f1e704de167adadf2609c9d98c6c6b52f", func := "loop.example/g00778/laws.FnExactCostOf", spec := "fnExactCostOf", unfollowed := true, recurses := true, apart := false }
def FnExactCostOfSaid : Prop := fnExactCostOfRow.holds Try.pinned (OpenSpec.ofChange fnExactCostOfSpec)

/-- ITS FALSE NEIGHBOUR: 'it returns false'. Refute it at one input. -/
def fnExactCostOfWrong : ChangeSpec := { name := "fnExactCostOf", fn := fun _ => fun
  | [d1, d2] => { results := [.lit (.bool false)], args := [d1, d2] }
  | _ => none }
def FnExactCostOfWrongFalsely : Prop := fnExactCostOfRow.holds Try.pinned (OpenSpec.ofChange fnExactCostOfWrong)

/-- 'laws.FnExactWeightsIn': WHATEVER THE INPUT: true; the input reads as it did. -/
def fnExactWeightsInSpec : ChangeSpec := { name := "fnExactWeightsIn", fn := fun _ => fun
  | [d] => { results := [.lit (.bool true)], args := [d] }
  | _ => none }
def fnExactWeightsInRow : OpenClaim := { program := "ytnceiclgfogmiaa", sum := "375c38871b5807868c25b253310d5b8f1e704de167adadf2609c9d98c6c6b52f", func := "loop.example/g00778/laws.FnExactWeightsIn", spec := "fnExactWeightsIn", apart := false }
def FnExactWeightsInSaid : Prop := fnExactWeightsInRow.holds Try.pinned (OpenSpec.ofChange fnExactWeightsInSpec)

/-- ITS FALSE NEIGHBOUR: 'it returns false'. Refute it at one input. -/
def fnExactWeightsInWrong : ChangeSpec := { name := "fnExactWeightsIn", fn := fun _ => fun
  | [d] => { results := [.lit (.bool false)], args := [d] }
  | _ => none }
def FnExactWeightsInWrongFalsely : Prop := fnExactWeightsInRow.holds Try.pinned (OpenSpec.ofChange fnExactWeightsInWrong)

/-- 'laws.FnExactSameLayer': WHATEVER THE INPUT: true; the input reads as it did. -/
def fnExactSameLayerSpec : ChangeSpec := { name := "fnExactSameLayer", fn := fun _ => fun
  | [d1, d2] => { results := [.lit (.bool true)], args := [d1, d2] }
  | _ => none }
def fnExactSameLayerRow : OpenClaim := { program := "ytnceiclgfogmiaa", sum := "375c38871b5807868c25b253310d5b8f1e704de167adadf2609c9d98c6c6b52f", func := "loop.example/g00778/laws.FnExactSameLayer", spec := "fnExactSameLayer", apart := false }
def FnExactSameLayerSaid : Prop := fnExactSameLayerRow.holds Try.pinned (OpenSpec.ofChange fnExactSameLayerSpec)

/-- ITS FALSE NEIGHBOUR: 'it returns false'. Refute it at one input. -/
def fnExactSameLayerWrong : ChangeSpec := { name := "fnExactSameLayer", fn := fun _ => fun
  | [d1, d2] => { results := [.lit (.bool false)], args := [d1, d2] }
  | _ => none }
def FnExactSameLayerWrongFalsely : Prop := fnExactSameLayerRow.holds Try.pinned (OpenSpec.ofChange fnExactSameLayerWrong)

/- THE SECOND FORM. 'bulk': how many values and letters a reading holds, each counted each time it is reached (what is shared counts as often as it is met; a slice's spare places count too). A statement '..UptoSaid' is the law's where the arguments, and the package variables that the reading takes, are together of bulk at most 1048576: NARROWER than '..Said'. Prove '..Said' where nothing that the law and all that it calls make is longer than what came in: it says more and counts as full. Else prove '..UptoSaid'. A law counts once. -/
mutual
def uptoBulk {H : Type} : DataW H → Nat
  | .lit (.string bytes) => bytes.length + 1
  | .lit _ => 1
  | .nil => 1
  | .ptr d => uptoBulk d + 1
  | .slice elems spare => uptoBulkAll elems + uptoBulkAll spare + 1
  | .agg parts => uptoBulkAll parts + 1
  | .iface _ d => uptoBulk d + 1
  | .map entries => uptoBulkEntries entries + 1
  | .held _ => 1
def uptoBulkAll {H : Type} : List (DataW H) → Nat
  | [] => 0
  | d :: r => uptoBulk d + uptoBulkAll r
def uptoBulkEntries {H : Type} : List (Lit × DataW H) → Nat
  | [] => 0
  | x :: r => uptoBulkEntry x + uptoBulkEntries r
def uptoBulkEntry {H : Type} : Lit × DataW H → Nat
  | (.string bytes, d) => bytes.length + uptoBulk d + 1
  | (_, d) => uptoBulk d + 1
 end
def uptoSmall : (H : Type) → List (DataW H) → Bool := fun _ ds => decide (uptoBulkAll ds ≤ 1048576)
def OpenSpec.upto (s : _root_.Go.ChangeSpec) : _root_.Go.OpenSpec := { _root_.Go.OpenSpec.ofChange s with cond := some uptoSmall }

/-- 'laws.FnLayers', WHERE WHAT IT READS IS OF BULK AT MOST 1048576: true; the input reads as it did. -/
def fnLayersUptoRow : OpenClaim := { program := "ytnceiclgfogmiaa", sum := "375c38871b5807868c25b253310d5b8f1e704de167adadf2609c9d98c6c6b52f", func := "loop.example/g00778/laws.FnLayers", spec := "fnLayers", unfollowed := true, recurses := true, apart := false, narrowed := true }
def FnLayersUptoSaid : Prop := fnLayersUptoRow.holds Try.pinned (OpenSpec.upto fnLayersSpec)

/-- 'laws.FnOneWeight', WHERE WHAT IT READS IS OF BULK AT MOST 1048576: true; the input reads as it did. -/
def fnOneWeightUptoRow : OpenClaim := { program := "ytnceiclgfogmiaa", sum := "375c38871b5807868c25b253310d5b8f1e704de167adadf2609c9d98c6c6b52f", func := "loop.example/g00778/laws.FnOneWeight", spec := "fnOneWeight", unfollowed := true, recurses := true, apart := false, narrowed := true }
def FnOneWeightUptoSaid : Prop := fnOneWeightUptoRow.holds Try.pinned (OpenSpec.upto fnOneWeightSpec)

/-- 'laws.FnExactOutShape', WHERE WHAT IT READS IS OF BULK AT MOST 1048576: true; the input reads as it did. -/
def fnExactOutShapeUptoRow : OpenClaim := { program := "ytnceiclgfogmiaa", sum := "375c38871b5807868c25b253310d5b8f1e704de167adadf2609c9d98c6c6b52f", func := "loop.example/g00778/laws.FnExactOutShape", spec := "fnExactOutShape", unfollowed := true, recurses := true, apart := false, narrowed := true }
def FnExactOutShapeUptoSaid : Prop := fnExactOutShapeUptoRow.holds Try.pinned (OpenSpec.upto fnExactOutShapeSpec)

/-- 'laws.FnExactRunLayer', WHERE WHAT IT READS IS OF BULK AT MOST 1048576: true; the input reads as it did. -/
def fnExactRunLayerUptoRow : OpenClaim := { program := "ytnceiclgfogmiaa", sum := "375c38871b5807868c25b253310d5b8f1e704de167adadf2609c9d98c6c6b52f", func := "loop.example/g00778/laws.FnExactRunLayer", spec := "fnExactRunLayer", unfollowed := true, recurses := true, apart := false, narrowed := true }
def FnExactRunLayerUptoSaid : Prop := fnExactRunLayerUptoRow.holds Try.pinned (OpenSpec.upto fnExactRunLayerSpec)

/-- 'laws.FnExactCostOf', WHERE WHAT IT READS IS OF BULK AT MOST 1048576: true; the input reads as it did. -/
def fnExactCostOfUptoRow : OpenClaim := { program := "ytnceiclgfogmiaa", sum := "375c38871b5807868c25b253310d5b8f1e704de167adadf2609c9d98c6c6b52f", func := "loop.example/g00778/laws.FnExactCostOf", spec := "fnExactCostOf", unfollowed := true, recurses := true, apart := false, narrowed := true }
def FnExactCostOfUptoSaid : Prop := fnExactCostOfUptoRow.holds Try.pinned (OpenSpec.upto fnExactCostOfSpec)

/-- 'laws.FnExactWeightsIn', WHERE WHAT IT READS IS OF BULK AT MOST 1048576: true; the input reads as it did. -/
def fnExactWeightsInUptoRow : OpenClaim := { program := "ytnceiclgfogmiaa", sum := "375c38871b5807868c25b253310d5b8f1e704de167adadf2609c9d98c6c6b52f", func := "loop.example/g00778/laws.FnExactWeightsIn", spec := "fnExactWeightsIn", apart := false, narrowed := true }
def FnExactWeightsInUptoSaid : Prop := fnExactWeightsInUptoRow.holds Try.pinned (OpenSpec.upto fnExactWeightsInSpec)

/-- 'laws.FnExactSameLayer', WHERE WHAT IT READS IS OF BULK AT MOST 1048576: true; the input reads as it did. -/
def fnExactSameLayerUptoRow : OpenClaim := { program := "ytnceiclgfogmiaa", sum := "375c38871b5807868c25b253310d5b8f1e704de167adadf2609c9d98c6c6b52f", func := "loop.example/g00778/laws.FnExactSameLayer", spec := "fnExactSameLayer", apart := false, narrowed := true }
def FnExactSameLayerUptoSaid : Prop := fnExactSameLayerUptoRow.holds Try.pinned (OpenSpec.upto fnExactSameLayerSpec)

end Rows
end Go.Proofs.Ytnceiclgfogmiaa
