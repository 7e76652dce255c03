/-
  No cell of these rows narrows 'for every input' (looked for: loops, veiled, ifaces, maps, wideKeys, modest, calm, conditions, laid).
  DERIVED. THE GIVEN ROWS OF THIS SEAT. 9 by the template 'for every input the law returns true; each argument reads behind the call as it read before'; 0 by the template 'total and deterministic' (their statements: YtalkoaahhkafaaaTotals.lean).
  GIVEN WITH THE SEED: the statements are not yours to turn. If you find one false, say at which input.
  Laid BY PROGRAM, IN A SANDBOX (cutbox-rows.mjs): the forced cells as the released guide's own fill.sh prints them over the translation 789f7a259bccc6ff… (all of the seat's roots in one cut). By AI agents, Wed Nov 11 2026. No macro, syntax, notation, axiom, sorry.
-/
import Derived.Test.YtalkoaahhkafaaaChecked
import GoSem.Claim
import GoSem.ClaimJoined
import GoSem.ClaimMapViews
import Derived.JoinedTies
import Derived.KernelRfl
namespace Go.Proofs.Ytalkoaahhkafaaa
/- THE CELL 'sum', in the pinned program and in every row, IS THE sha256 OF THE DUMP (.gsa) THAT YtalkoaahhkafaaaProg.lean LOADS. Nothing in Lean hashes anything: it is a label: what it is worth is what the hold of that sum in a sandbox is worth. -/
noncomputable def Try.pinned : Pinned := { name := "ytalkoaahhkafaaa", sum := "789f7a259bccc6ff044b782ef95257331a226a081abbd3633bd40d282a1ca76a", checked := Try.checked }
namespace Rows
def none {H : Type} : Left H := { results := [], args := [] }

/-- 'laws.FnExactStalledBetween': WHATEVER THE INPUT: true; the input reads as it did. -/
def fnExactStalledBetweenSpec : ChangeSpec := { name := "fnExactStalledBetween", fn := fun _ => fun
  | [d1, d2, d3] => { results := [.lit (.bool true)], args := [d1, d2, d3] }
  | _ => none }
def fnExactStalledBetweenRow : OpenClaim := { program := "ytalkoaahhkafaaa", sum := "789f7a259bccc6ff044b782ef95257331a226a081abbd3633bd40d282a1ca76a", func := "loop.example/g00778/laws.FnExactStalledBetween", spec := "fnExactStalledBetween", apart := false }
def FnExactStalledBetweenSaid : Prop := fnExactStalledBetweenRow.holds Try.pinned (OpenSpec.ofChange fnExactStalledBetweenSpec)

/-- ITS FALSE NEIGHBOUR: 'it returns false'. Refute it at one input. -/
def fnExactStalledBetweenWrong : ChangeSpec := { name := "fnExactStalledBetween", fn := fun _ => fun
  | [d1, d2, d3] => { results := [.lit (.bool false)], args := [d1, d2, d3] }
  | _ => none }
def FnExactStalledBetweenWrongFalsely : Prop := fnExactStalledBetweenRow.holds Try.pinned (OpenSpec.ofChange fnExactStalledBetweenWrong)

/-- 'laws.FnExactRefusedBy': WHATEVER THE INPUT: true; the input reads as it did. -/
def fnExactRefusedBySpec : ChangeSpec := { name := "fnExactRefusedBy", fn := fun _ => fun
  | [d] => { results := [.lit (.bool true)], args := [d] }
  | _ => none }
def fnExactRefusedByRow : OpenClaim := { program := "ytalkoaahhkafaaa", sum := "789f7a259bccc6ff044b782ef95257331a226a081abbd3633bd40d282a1ca76a", func := "loop.example/g00778/laws.FnExactRefusedBy", spec := "fnExactRefusedBy", apart := false }
def FnExactRefusedBySaid : Prop := fnExactRefusedByRow.holds Try.pinned (OpenSpec.ofChange fnExactRefusedBySpec)

/-- ITS FALSE NEIGHBOUR: 'it returns false'. Refute it at one input. -/
def fnExactRefusedByWrong : ChangeSpec := { name := "fnExactRefusedBy", fn := fun _ => fun
  | [d] => { results := [.lit (.bool false)], args := [d] }
  | _ => none }
def FnExactRefusedByWrongFalsely : Prop := fnExactRefusedByRow.holds Try.pinned (OpenSpec.ofChange fnExactRefusedByWrong)

/-- 'laws.FnExactDonesOf': WHATEVER THE INPUT: true; the input reads as it did. -/
def fnExactDonesOfSpec : ChangeSpec := { name := "fnExactDonesOf", fn := fun _ => fun
  | [d] => { results := [.lit (.bool true)], args := [d] }
  | _ => none }
def fnExactDonesOfRow : OpenClaim := { program := "ytalkoaahhkafaaa", sum := "789f7a259bccc6ff044b782ef95257331a226a081abbd3633bd40d282a1ca76a", func := "loop.example/g00778/laws.FnExactDonesOf", spec := "fnExactDonesOf", apart := false }
def FnExactDonesOfSaid : Prop := fnExactDonesOfRow.holds Try.pinned (OpenSpec.ofChange fnExactDonesOfSpec)

/-- ITS FALSE NEIGHBOUR: 'it returns false'. Refute it at one input. -/
def fnExactDonesOfWrong : ChangeSpec := { name := "fnExactDonesOf", fn := fun _ => fun
  | [d] => { results := [.lit (.bool false)], args := [d] }
  | _ => none }
def FnExactDonesOfWrongFalsely : Prop := fnExactDonesOfRow.holds Try.pinned (OpenSpec.ofChange fnExactDonesOfWrong)

/-- 'laws.FnExactTicksOf': WHATEVER THE INPUT: true; the input reads as it did. -/
def fnExactTicksOfSpec : ChangeSpec := { name := "fnExactTicksOf", fn := fun _ => fun
  | [d] => { results := [.lit (.bool true)], args := [d] }
  | _ => none }
def fnExactTicksOfRow : OpenClaim := { program := "ytalkoaahhkafaaa", sum := "789f7a259bccc6ff044b782ef95257331a226a081abbd3633bd40d282a1ca76a", func := "loop.example/g00778/laws.FnExactTicksOf", spec := "fnExactTicksOf", apart := false }
def FnExactTicksOfSaid : Prop := fnExactTicksOfRow.holds Try.pinned (OpenSpec.ofChange fnExactTicksOfSpec)

/-- ITS FALSE NEIGHBOUR: 'it returns false'. Refute it at one input. -/
def fnExactTicksOfWrong : ChangeSpec := { name := "fnExactTicksOf", fn := fun _ => fun
  | [d] => { results := [.lit (.bool false)], args := [d] }
  | _ => none }
def FnExactTicksOfWrongFalsely : Prop := fnExactTicksOfRow.holds Try.pinned (OpenSpec.ofChange fnExactTicksOfWrong)

/-- 'laws.FnExactCutTrace': WHATEVER THE INPUT: true; the input reads as it did. -/
def fnExactCutTraceSpec : ChangeSpec := { name := "fnExactCutTrace", fn := fun _ => fun
  | [d1, d2] => { results := [.lit (.bool true)], args := [d1, d2] }
  | _ => none }
def fnExactCutTraceRow : OpenClaim := { program := "ytalkoaahhkafaaa", sum := "789f7a259bccc6ff044b782ef95257331a226a081abbd3633bd40d282a1ca76a", func := "loop.example/g00778/laws.FnExactCutTrace", spec := "fnExactCutTrace", apart := false }
def FnExactCutTraceSaid : Prop := fnExactCutTraceRow.holds Try.pinned (OpenSpec.ofChange fnExactCutTraceSpec)

/-- ITS FALSE NEIGHBOUR: 'it returns false'. Refute it at one input. -/
def fnExactCutTraceWrong : ChangeSpec := { name := "fnExactCutTrace", fn := fun _ => fun
  | [d1, d2] => { results := [.lit (.bool false)], args := [d1, d2] }
  | _ => none }
def FnExactCutTraceWrongFalsely : Prop := fnExactCutTraceRow.holds Try.pinned (OpenSpec.ofChange fnExactCutTraceWrong)

/-- 'laws.FnExactPutStep': WHATEVER THE INPUT: true; the input reads as it did. -/
def fnExactPutStepSpec : ChangeSpec := { name := "fnExactPutStep", fn := fun _ => fun
  | [d] => { results := [.lit (.bool true)], args := [d] }
  | _ => none }
def fnExactPutStepRow : OpenClaim := { program := "ytalkoaahhkafaaa", sum := "789f7a259bccc6ff044b782ef95257331a226a081abbd3633bd40d282a1ca76a", func := "loop.example/g00778/laws.FnExactPutStep", spec := "fnExactPutStep", apart := false }
def FnExactPutStepSaid : Prop := fnExactPutStepRow.holds Try.pinned (OpenSpec.ofChange fnExactPutStepSpec)

/-- ITS FALSE NEIGHBOUR: 'it returns false'. Refute it at one input. -/
def fnExactPutStepWrong : ChangeSpec := { name := "fnExactPutStep", fn := fun _ => fun
  | [d] => { results := [.lit (.bool false)], args := [d] }
  | _ => none }
def FnExactPutStepWrongFalsely : Prop := fnExactPutStepRow.holds Try.pinned (OpenSpec.ofChange fnExactPutStepWrong)

/-- 'laws.FnExactTraceOf': WHATEVER THE INPUT: true; the input reads as it did. -/
def fnExactTraceOfSpec : ChangeSpec := { name := "fnExactTraceOf", fn := fun _ => fun
  | [d] => { results := [.lit (.bool true)], args := [d] }
  | _ => none }
def fnExactTraceOfRow : OpenClaim := { program := "ytalkoaahhkafaaa", sum := "789f7a259bccc6ff044b782ef95257331a226a081abbd3633bd40d282a1ca76a", func := "loop.example/g00778/laws.FnExactTraceOf", spec := "fnExactTraceOf", apart := false }
def FnExactTraceOfSaid : Prop := fnExactTraceOfRow.holds Try.pinned (OpenSpec.ofChange fnExactTraceOfSpec)

/-- ITS FALSE NEIGHBOUR: 'it returns false'. Refute it at one input. -/
def fnExactTraceOfWrong : ChangeSpec := { name := "fnExactTraceOf", fn := fun _ => fun
  | [d] => { results := [.lit (.bool false)], args := [d] }
  | _ => none }
def FnExactTraceOfWrongFalsely : Prop := fnExactTraceOfRow.holds Try.pinned (OpenSpec.ofChange fnExactTraceOfWrong)

/-- 'laws.FnExactTakeStep': WHATEVER THE INPUT: true; the input reads as it did. -/
def fnExactTakeStepSpec : ChangeSpec := { name := "fnExactTakeStep", fn := fun _ => fun
  | [d1, d2] => { results := [.lit (.bool true)], args := [d1, d2] }
  | _ => none }
def fnExactTakeStepRow : OpenClaim := { program := "ytalkoaahhkafaaa", sum := "789f7a259bccc6ff044b782ef95257331a226a081abbd3633bd40d282a1ca76a", func := "loop.example/g00778/laws.FnExactTakeStep", spec := "fnExactTakeStep", apart := false }
def FnExactTakeStepSaid : Prop := fnExactTakeStepRow.holds Try.pinned (OpenSpec.ofChange fnExactTakeStepSpec)

/-- ITS FALSE NEIGHBOUR: 'it returns false'. Refute it at one input. -/
def fnExactTakeStepWrong : ChangeSpec := { name := "fnExactTakeStep", fn := fun _ => fun
  | [d1, d2] => { results := [.lit (.bool false)], args := [d1, d2] }
  | _ => none }
def FnExactTakeStepWrongFalsely : Prop := fnExactTakeStepRow.holds Try.pinned (OpenSpec.ofChange fnExactTakeStepWrong)

/-- 'laws.FnExactReadTrace': WHATEVER THE INPUT: true; the input reads as it did. -/
def fnExactReadTraceSpec : ChangeSpec := { name := "fnExactReadTrace", fn := fun _ => fun
  | [d] => { results := [.lit (.bool true)], args := [d] }
  | _ => none }
def fnExactReadTraceRow : OpenClaim := { program := "ytalkoaahhkafaaa", sum := "789f7a259bccc6ff044b782ef95257331a226a081abbd3633bd40d282a1ca76a", func := "loop.example/g00778/laws.FnExactReadTrace", spec := "fnExactReadTrace", inPlace := ["internal/reflectlite.TypeOf"], unfollowed := true, recurses := true, apart := false }
def FnExactReadTraceSaid : Prop := fnExactReadTraceRow.holds Try.pinned (OpenSpec.ofChange fnExactReadTraceSpec)

/-- ITS FALSE NEIGHBOUR: 'it returns false'. Refute it at one input. -/
def fnExactReadTraceWrong : ChangeSpec := { name := "fnExactReadTrace", fn := fun _ => fun
  | [d] => { results := [.lit (.bool false)], args := [d] }
  | _ => none }
def FnExactReadTraceWrongFalsely : Prop := fnExactReadTraceRow.holds Try.pinned (OpenSpec.ofChange fnExactReadTraceWrong)

/- THE SECOND FORM. 'bulk': how many values and letters a reading holds, each counted each time it is reached (what is shared counts as often as it is met; a slice's spare places count too). A statement '..UptoSaid' is the law's where the arguments, and the package variables that the reading takes, are together of bulk at most 1048576: NARROWER than '..Said'. Prove '..Said' where nothing that the law and all that it calls make is longer than what came in: it says more and counts as full. Else prove '..UptoSaid'. A law counts once. -/
mutual
def uptoBulk {H : Type} : DataW H → Nat
  | .lit (.string bytes) => bytes.length + 1
  | .lit _ => 1
  | .nil => 1
  | .ptr d => uptoBulk d + 1
  | .slice elems spare => uptoBulkAll elems + uptoBulkAll spare + 1
  | .agg parts => uptoBulkAll parts + 1
  | .iface _ d => uptoBulk d + 1
  | .map entries => uptoBulkEntries entries + 1
  | .held _ => 1
def uptoBulkAll {H : Type} : List (DataW H) → Nat
  | [] => 0
  | d :: r => uptoBulk d + uptoBulkAll r
def uptoBulkEntries {H : Type} : List (Lit × DataW H) → Nat
  | [] => 0
  | x :: r => uptoBulkEntry x + uptoBulkEntries r
def uptoBulkEntry {H : Type} : Lit × DataW H → Nat
  | (.string bytes, d) => bytes.length + uptoBulk d + 1
  | (_, d) => uptoBulk d + 1
 end
def uptoSmall : (H : Type) → List (DataW H) → Bool := fun _ ds => decide (uptoBulkAll ds ≤ 1048576)
def OpenSpec.upto (s : _root_.Go.ChangeSpec) : _root_.Go.OpenSpec := { _root_.Go.OpenSpec.ofChange s with cond := some uptoSmall }

/-- 'laws.FnExactStalledBetween', WHERE WHAT IT READS IS OF BULK AT MOST 1048576: true; the input reads as it did. -/
def fnExactStalledBetweenUptoRow : OpenClaim := { program := "ytalkoaahhkafaaa", sum := "789f7a259bccc6ff044b782ef95257331a226a081abbd3633bd40d282a1ca76a", func := "loop.example/g00778/laws.FnExactStalledBetween", spec := "fnExactStalledBetween", apart := false, narrowed := true }
def FnExactStalledBetweenUptoSaid : Prop := fnExactStalledBetweenUptoRow.holds Try.pinned (OpenSpec.upto fnExactStalledBetweenSpec)

/-- 'laws.FnExactRefusedBy', WHERE WHAT IT READS IS OF BULK AT MOST 1048576: true; the input reads as it did. -/
def fnExactRefusedByUptoRow : OpenClaim := { program := "ytalkoaahhkafaaa", sum := "789f7a259bccc6ff044b782ef95257331a226a081abbd3633bd40d282a1ca76a", func := "loop.example/g00778/laws.FnExactRefusedBy", spec := "fnExactRefusedBy", apart := false, narrowed := true }
def FnExactRefusedByUptoSaid : Prop := fnExactRefusedByUptoRow.holds Try.pinned (OpenSpec.upto fnExactRefusedBySpec)

/-- 'laws.FnExactDonesOf', WHERE WHAT IT READS IS OF BULK AT MOST 1048576: true; the input reads as it did. -/
def fnExactDonesOfUptoRow : OpenClaim := { program := "ytalkoaahhkafaaa", sum := "789f7a259bccc6ff044b782ef95257331a226a081abbd3633bd40d282a1ca76a", func := "loop.example/g00778/laws.FnExactDonesOf", spec := "fnExactDonesOf", apart := false, narrowed := true }
def FnExactDonesOfUptoSaid : Prop := fnExactDonesOfUptoRow.holds Try.pinned (OpenSpec.upto fnExactDonesOfSpec)

/-- 'laws.FnExactTicksOf', WHERE WHAT IT READS IS OF BULK AT MOST 1048576: true; the input reads as it did. -/
def fnExactTicksOfUptoRow : OpenClaim := { program := "ytalkoaahhkafaaa", sum := "789f7a259bccc6ff044b782ef95257331a226a081abbd3633bd40d282a1ca76a", func := "loop.example/g00778/laws.FnExactTicksOf", spec := "fnExactTicksOf", apart := false, narrowed := true }
def FnExactTicksOfUptoSaid : Prop := fnExactTicksOfUptoRow.holds Try.pinned (OpenSpec.upto fnExactTicksOfSpec)

/-- 'laws.FnExactCutTrace', WHERE WHAT IT READS IS OF BULK AT MOST 1048576: true; the input reads as it did. -/
def fnExactCutTraceUptoRow : OpenClaim := { program := "ytalkoaahhkafaaa", sum := "789f7a259bccc6ff044b782ef95257331a226a081abbd3633bd40d282a1ca76a", func := "loop.example/g00778/laws.FnExactCutTrace", spec := "fnExactCutTrace", apart := false, narrowed := true }
def FnExactCutTraceUptoSaid : Prop := fnExactCutTraceUptoRow.holds Try.pinned (OpenSpec.upto fnExactCutTraceSpec)

/-- 'laws.FnExactPutStep', WHERE WHAT IT READS IS OF BULK AT MOST 1048576: true; the input reads as it did. -/
def fnExactPutStepUptoRow : OpenClaim := { program := "ytalkoaahhkafaaa", sum := "789f7a259bccc6ff044b782ef95257331a226a081abbd3633bd40d282a1ca76a", func := "loop.example/g00778/laws.FnExactPutStep", spec := "fnExactPutStep", apart := false, narrowed := true }
def FnExactPutStepUptoSaid : Prop := fnExactPutStepUptoRow.holds Try.pinned (OpenSpec.upto fnExactPutStepSpec)

/-- 'laws.FnExactTraceOf', WHERE WHAT IT READS IS OF BULK AT MOST 1048576: true; the input reads as it did. -/
def fnExactTraceOfUptoRow : OpenClaim := { program := "ytalkoaahhkafaaa", sum := "789f7a259bccc6ff044b782ef95257331a226a081abbd3633bd40d282a1ca76a", func := "loop.example/g00778/laws.FnExactTraceOf", spec := "fnExactTraceOf", apart := false, narrowed := true }
def FnExactTraceOfUptoSaid : Prop := fnExactTraceOfUptoRow.holds Try.pinned (OpenSpec.upto fnExactTraceOfSpec)

/-- 'laws.FnExactTakeStep', WHERE WHAT IT READS IS OF BULK AT MOST 1048576: true; the input reads as it did. -/
def fnExactTakeStepUptoRow : OpenClaim := { program := "ytalkoaahhkafaaa", sum := "789f7a259bccc6ff044b782ef95257331a226a081abbd3633bd40d282a1ca76a", func := "loop.example/g00778/laws.FnExactTakeStep", spec := "fnExactTakeStep", apart := false, narrowed := true }
def FnExactTakeStepUptoSaid : Prop := fnExactTakeStepUptoRow.holds Try.pinned (OpenSpec.upto fnExactTakeStepSpec)

/-- 'laws.FnExactReadTrace', WHERE WHAT IT READS IS OF BULK AT MOST 1048576: true; the input reads as it did. -/
def fnExactReadTraceUptoRow : OpenClaim := { program := "ytalkoaahhkafaaa", sum := "789f7a259bccc6ff044b782ef95257331a226a081abbd3633bd40d282a1ca76a", func := "loop.example/g00778/laws.FnExactReadTrace", spec := "fnExactReadTrace", inPlace := ["internal/reflectlite.TypeOf"], unfollowed := true, recurses := true, apart := false, narrowed := true }
def FnExactReadTraceUptoSaid : Prop := fnExactReadTraceUptoRow.holds Try.pinned (OpenSpec.upto fnExactReadTraceSpec)

end Rows
end Go.Proofs.Ytalkoaahhkafaaa
