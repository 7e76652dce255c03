/-
  No cell of these rows narrows 'for every input' (looked for: loops, veiled, ifaces, maps, wideKeys, modest, calm, conditions, laid).
  DERIVED. THE GIVEN ROWS OF THIS SEAT. 6 by the template 'for every input the law returns true; each argument reads behind the call as it read before'; 0 by the template 'total and deterministic' (their statements: YtodjackfolaifaaTotals.lean).
  GIVEN WITH THE SEED: the statements are not yours to turn. If you find one false, say at which input.
  Laid BY PROGRAM, IN A SANDBOX (cutbox-rows.mjs): the forced cells as the released guide's own fill.sh prints them over the translation c206094e1f3c8f0e… (all of the seat's roots in one cut). By AI agents, Wed Nov 11 2026. No macro, syntax, notation, axiom, sorry.
-/
import Derived.Test.YtodjackfolaifaaChecked
import GoSem.Claim
import GoSem.ClaimJoined
import GoSem.ClaimMapViews
import Derived.JoinedTies
import Derived.KernelRfl
namespace Go.Proofs.Ytodjackfolaifaa
/- THE CELL 'sum', in the pinned program and in every row, IS THE sha256 OF THE DUMP (.gsa) THAT YtodjackfolaifaaProg.lean LOADS. Nothing in Lean hashes anything: it is a label: what it is worth is what the hold of that sum in a sandbox is worth. -/
noncomputable def Try.pinned : Pinned := { name := "ytodjackfolaifaa", sum := "c206094e1f3c8f0e3af7a68f6086f4a313dce56c4183b8c7ed7cc3466e0e517d", checked := Try.checked }
namespace Rows
def none {H : Type} : Left H := { results := [], args := [] }

/-- 'laws.FnExactPutWide': WHATEVER THE INPUT: true; the input reads as it did. -/
def fnExactPutWideSpec : ChangeSpec := { name := "fnExactPutWide", fn := fun _ => fun
  | [d] => { results := [.lit (.bool true)], args := [d] }
  | _ => none }
def fnExactPutWideRow : OpenClaim := { program := "ytodjackfolaifaa", sum := "c206094e1f3c8f0e3af7a68f6086f4a313dce56c4183b8c7ed7cc3466e0e517d", func := "loop.example/g00778/laws.FnExactPutWide", spec := "fnExactPutWide", apart := false }
def FnExactPutWideSaid : Prop := fnExactPutWideRow.holds Try.pinned (OpenSpec.ofChange fnExactPutWideSpec)

/-- ITS FALSE NEIGHBOUR: 'it returns false'. Refute it at one input. -/
def fnExactPutWideWrong : ChangeSpec := { name := "fnExactPutWide", fn := fun _ => fun
  | [d] => { results := [.lit (.bool false)], args := [d] }
  | _ => none }
def FnExactPutWideWrongFalsely : Prop := fnExactPutWideRow.holds Try.pinned (OpenSpec.ofChange fnExactPutWideWrong)

/-- 'laws.FnExactTakeWide': WHATEVER THE INPUT: true; the input reads as it did. -/
def fnExactTakeWideSpec : ChangeSpec := { name := "fnExactTakeWide", fn := fun _ => fun
  | [d1, d2] => { results := [.lit (.bool true)], args := [d1, d2] }
  | _ => none }
def fnExactTakeWideRow : OpenClaim := { program := "ytodjackfolaifaa", sum := "c206094e1f3c8f0e3af7a68f6086f4a313dce56c4183b8c7ed7cc3466e0e517d", func := "loop.example/g00778/laws.FnExactTakeWide", spec := "fnExactTakeWide", apart := false }
def FnExactTakeWideSaid : Prop := fnExactTakeWideRow.holds Try.pinned (OpenSpec.ofChange fnExactTakeWideSpec)

/-- ITS FALSE NEIGHBOUR: 'it returns false'. Refute it at one input. -/
def fnExactTakeWideWrong : ChangeSpec := { name := "fnExactTakeWide", fn := fun _ => fun
  | [d1, d2] => { results := [.lit (.bool false)], args := [d1, d2] }
  | _ => none }
def FnExactTakeWideWrongFalsely : Prop := fnExactTakeWideRow.holds Try.pinned (OpenSpec.ofChange fnExactTakeWideWrong)

/-- 'laws.FnExactSumOf': WHATEVER THE INPUT: true; the input reads as it did. -/
def fnExactSumOfSpec : ChangeSpec := { name := "fnExactSumOf", fn := fun _ => fun
  | [d] => { results := [.lit (.bool true)], args := [d] }
  | _ => none }
def fnExactSumOfRow : OpenClaim := { program := "ytodjackfolaifaa", sum := "c206094e1f3c8f0e3af7a68f6086f4a313dce56c4183b8c7ed7cc3466e0e517d", func := "loop.example/g00778/laws.FnExactSumOf", spec := "fnExactSumOf", apart := false }
def FnExactSumOfSaid : Prop := fnExactSumOfRow.holds Try.pinned (OpenSpec.ofChange fnExactSumOfSpec)

/-- ITS FALSE NEIGHBOUR: 'it returns false'. Refute it at one input. -/
def fnExactSumOfWrong : ChangeSpec := { name := "fnExactSumOf", fn := fun _ => fun
  | [d] => { results := [.lit (.bool false)], args := [d] }
  | _ => none }
def FnExactSumOfWrongFalsely : Prop := fnExactSumOfRow.holds Try.pinned (OpenSpec.ofChange fnExactSumOfWrong)

/-- 'laws.FnExactEncodeModel': WHATEVER THE INPUT: true; the input reads as it did. -/
def fnExactEncodeModelSpec : ChangeSpec := { name := "fnExactEncodeModel", fn := fun _ => fun
  | [d] => { results := [.lit (.bool true)], args := [d] }
  | _ => none }
def fnExactEncodeModelRow : OpenClaim := { program := "ytodjackfolaifaa", sum := "c206094e1f3c8f0e3af7a68f6086f4a313dce56c4183b8c7ed7cc3466e0e517d", func := "loop.example/g00778/laws.FnExactEncodeModel", spec := "fnExactEncodeModel", unfollowed := true, recurses := true, apart := false }
def FnExactEncodeModelSaid : Prop := fnExactEncodeModelRow.holds Try.pinned (OpenSpec.ofChange fnExactEncodeModelSpec)

/-- ITS FALSE NEIGHBOUR: 'it returns false'. Refute it at one input. -/
def fnExactEncodeModelWrong : ChangeSpec := { name := "fnExactEncodeModel", fn := fun _ => fun
  | [d] => { results := [.lit (.bool false)], args := [d] }
  | _ => none }
def FnExactEncodeModelWrongFalsely : Prop := fnExactEncodeModelRow.holds Try.pinned (OpenSpec.ofChange fnExactEncodeModelWrong)

/-- 'laws.FnExactModelSum': WHATEVER THE INPUT: true; the input reads as it did. -/
def fnExactModelSumSpec : ChangeSpec := { name := "fnExactModelSum", fn := fun _ => fun
  | [d] => { results := [.lit (.bool true)], args := [d] }
  | _ => none }
def fnExactModelSumRow : OpenClaim := { program := "ytodjackfolaifaa", sum := "c206094e1f3c8f0e3af7a68f6086f4a313dce56c4183b8c7ed7cc3466e0e517d", func := "loop.example/g00778/laws.FnExactModelSum", spec := "fnExactModelSum", unfollowed := true, recurses := true, apart := false }
def FnExactModelSumSaid : Prop := fnExactModelSumRow.holds Try.pinned (OpenSpec.ofChange fnExactModelSumSpec)

/-- ITS FALSE NEIGHBOUR: 'it returns false'. Refute it at one input. -/
def fnExactModelSumWrong : ChangeSpec := { name := "fnExactModelSum", fn := fun _ => fun
  | [d] => { results := [.lit (.bool false)], args := [d] }
  | _ => none }
def FnExactModelSumWrongFalsely : Prop := fnExactModelSumRow.holds Try.pinned (OpenSpec.ofChange fnExactModelSumWrong)

/-- 'laws.FnExactHeadOf': WHATEVER THE INPUT: true; the input reads as it did. -/
def fnExactHeadOfSpec : ChangeSpec := { name := "fnExactHeadOf", fn := fun _ => fun
  | [d] => { results := [.lit (.bool true)], args := [d] }
  | _ => none }
def fnExactHeadOfRow : OpenClaim := { program := "ytodjackfolaifaa", sum := "c206094e1f3c8f0e3af7a68f6086f4a313dce56c4183b8c7ed7cc3466e0e517d", func := "loop.example/g00778/laws.FnExactHeadOf", spec := "fnExactHeadOf", apart := false }
def FnExactHeadOfSaid : Prop := fnExactHeadOfRow.holds Try.pinned (OpenSpec.ofChange fnExactHeadOfSpec)

/-- ITS FALSE NEIGHBOUR: 'it returns false'. Refute it at one input. -/
def fnExactHeadOfWrong : ChangeSpec := { name := "fnExactHeadOf", fn := fun _ => fun
  | [d] => { results := [.lit (.bool false)], args := [d] }
  | _ => none }
def FnExactHeadOfWrongFalsely : Prop := fnExactHeadOfRow.holds Try.pinned (OpenSpec.ofChange fnExactHeadOfWrong)

/- THE SECOND FORM. 'bulk': how many values and letters a reading holds, each counted each time it is reached (what is shared counts as often as it is met; a slice's spare places count too). A statement '..UptoSaid' is the law's where the arguments, and the package variables that the reading takes, are together of bulk at most 1048576: NARROWER than '..Said'. Prove '..Said' where nothing that the law and all that it calls make is longer than what came in: it says more and counts as full. Else prove '..UptoSaid'. A law counts once. -/
mutual
def uptoBulk {H : Type} : DataW H → Nat
  | .lit (.string bytes) => bytes.length + 1
  | .lit _ => 1
  | .nil => 1
  | .ptr d => uptoBulk d + 1
  | .slice elems spare => uptoBulkAll elems + uptoBulkAll spare + 1
  | .agg parts => uptoBulkAll parts + 1
  | .iface _ d => uptoBulk d + 1
  | .map entries => uptoBulkEntries entries + 1
  | .held _ => 1
def uptoBulkAll {H : Type} : List (DataW H) → Nat
  | [] => 0
  | d :: r => uptoBulk d + uptoBulkAll r
def uptoBulkEntries {H : Type} : List (Lit × DataW H) → Nat
  | [] => 0
  | x :: r => uptoBulkEntry x + uptoBulkEntries r
def uptoBulkEntry {H : Type} : Lit × DataW H → Nat
  | (.string bytes, d) => bytes.length + uptoBulk d + 1
  | (_, d) => uptoBulk d + 1
 end
def uptoSmall : (H : Type) → List (DataW H) → Bool := fun _ ds => decide (uptoBulkAll ds ≤ 1048576)
def OpenSpec.upto (s : _root_.Go.ChangeSpec) : _root_.Go.OpenSpec := { _root_.Go.OpenSpec.ofChange s with cond := some uptoSmall }

/-- 'laws.FnExactPutWide', WHERE WHAT IT READS IS OF BULK AT MOST 1048576: true; the input reads as it did. -/
def fnExactPutWideUptoRow : OpenClaim := { program := "ytodjackfolaifaa", sum := "c206094e1f3c8f0e3af7a68f6086f4a313dce56c4183b8c7ed7cc3466e0e517d", func := "loop.example/g00778/laws.FnExactPutWide", spec := "fnExactPutWide", apart := false, narrowed := true }
def FnExactPutWideUptoSaid : Prop := fnExactPutWideUptoRow.holds Try.pinned (OpenSpec.upto fnExactPutWideSpec)

/-- 'laws.FnExactTakeWide', WHERE WHAT IT READS IS OF BULK AT MOST 1048576: true; the input reads as it did. -/
def fnExactTakeWideUptoRow : OpenClaim := { program := "ytodjackfolaifaa", sum := "c206094e1f3c8f0e3af7a68f6086f4a313dce56c4183b8c7ed7cc3466e0e517d", func := "loop.example/g00778/laws.FnExactTakeWide", spec := "fnExactTakeWide", apart := false, narrowed := true }
def FnExactTakeWideUptoSaid : Prop := fnExactTakeWideUptoRow.holds Try.pinned (OpenSpec.upto fnExactTakeWideSpec)

/-- 'laws.FnExactSumOf', WHERE WHAT IT READS IS OF BULK AT MOST 1048576: true; the input reads as it did. -/
def fnExactSumOfUptoRow : OpenClaim := { program := "ytodjackfolaifaa", sum := "c206094e1f3c8f0e3af7a68f6086f4a313dce56c4183b8c7ed7cc3466e0e517d", func := "loop.example/g00778/laws.FnExactSumOf", spec := "fnExactSumOf", apart := false, narrowed := true }
def FnExactSumOfUptoSaid : Prop := fnExactSumOfUptoRow.holds Try.pinned (OpenSpec.upto fnExactSumOfSpec)

/-- 'laws.FnExactEncodeModel', WHERE WHAT IT READS IS OF BULK AT MOST 1048576: true; the input reads as it did. -/
def fnExactEncodeModelUptoRow : OpenClaim := { program := "ytodjackfolaifaa", sum := "c206094e1f3c8f0e3af7a68f6086f4a313dce56c4183b8c7ed7cc3466e0e517d", func := "loop.example/g00778/laws.FnExactEncodeModel", spec := "fnExactEncodeModel", unfollowed := true, recurses := true, apart := false, narrowed := true }
def FnExactEncodeModelUptoSaid : Prop := fnExactEncodeModelUptoRow.holds Try.pinned (OpenSpec.upto fnExactEncodeModelSpec)

/-- 'laws.FnExactModelSum', WHERE WHAT IT READS IS OF BULK AT MOST 1048576: true; the input reads as it did. -/
def fnExactModelSumUptoRow : OpenClaim := { program := "ytodjackfolaifaa", sum := "c206094e1f3c8f0e3af7a68f6086f4a313dce56c4183b8c7ed7cc3466e0e517d", func := "loop.example/g00778/laws.FnExactModelSum", spec := "fnExactModelSum", unfollowed := true, recurses := true, apart := false, narrowed := true }
def FnExactModelSumUptoSaid : Prop := fnExactModelSumUptoRow.holds Try.pinned (OpenSpec.upto fnExactModelSumSpec)

/-- 'laws.FnExactHeadOf', WHERE WHAT IT READS IS OF BULK AT MOST 1048576: true; the input reads as it did. -/
def fnExactHeadOfUptoRow : OpenClaim := { program := "ytodjackfolaifaa", sum := "c206094e1f3c8f0e3af7a68f6086f4a313dce56c4183b8c7ed7cc3466e0e517d", func := "loop.example/g00778/laws.FnExactHeadOf", spec := "fnExactHeadOf", apart := false, narrowed := true }
def FnExactHeadOfUptoSaid : Prop := fnExactHeadOfUptoRow.holds Try.pinned (OpenSpec.upto fnExactHeadOfSpec)

end Rows
end Go.Proofs.Ytodjackfolaifaa
