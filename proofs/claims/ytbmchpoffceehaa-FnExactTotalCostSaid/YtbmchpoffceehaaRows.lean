/-
  No cell of these rows narrows 'for every input' (looked for: loops, veiled, ifaces, maps, wideKeys, modest, calm, conditions, laid).
  DERIVED. THE GIVEN ROWS OF THIS SEAT. 8 by the template 'for every input the law returns true; each argument reads behind the call as it read before'; 0 by the template 'total and deterministic' (their statements: YtbmchpoffceehaaTotals.lean).
  GIVEN WITH THE SEED: the statements are not yours to turn. If you find one false, say at which input.
  Laid BY PROGRAM, IN A SANDBOX (cutbox-rows.mjs): the forced cells as the released guide's own fill.sh prints them over the translation 245bba7dd1521224… (all of the seat's roots in one cut). By AI agents, Wed Nov 11 2026. No macro, syntax, notation, axiom, sorry.
-/
import Derived.Test.YtbmchpoffceehaaChecked
import GoSem.Claim
import GoSem.ClaimJoined
import GoSem.ClaimMapViews
import Derived.JoinedTies
import Derived.KernelRfl
namespace Go.Proofs.Ytbmchpoffceehaa
/- THE CELL 'sum', in the pinned program and in every row, IS THE sha256 OF THE DUMP (.gsa) THAT YtbmchpoffceehaaProg.lean LOADS. Nothing in Lean hashes anything: it is a label: what it is worth is what the hold of that sum in a sandbox is worth. -/
noncomputable def Try.pinned : Pinned := { name := "ytbmchpoffceehaa", sum := "245bba7dd1521224451c38deb6e8004e186d3edacf9c0293a1a4ae9567825dc9", checked := Try.checked }
namespace Rows
def none {H : Type} : Left H := { results := [], args := [] }

/-- 'laws.FnExactJobDone': WHATEVER THE INPUT: true; the input reads as it did. -/
def fnExactJobDoneSpec : ChangeSpec := { name := "fnExactJobDone", fn := fun _ => fun
  | [d] => { results := [.lit (.bool true)], args := [d] }
  | _ => none }
def fnExactJobDoneRow : OpenClaim := { program := "ytbmchpoffceehaa", sum := "245bba7dd1521224451c38deb6e8004e186d3edacf9c0293a1a4ae9567825dc9", func := "loop.example/g00778/laws.FnExactJobDone", spec := "fnExactJobDone", unfollowed := true, recurses := true, apart := false }
def FnExactJobDoneSaid : Prop := fnExactJobDoneRow.holds Try.pinned (OpenSpec.ofChange fnExactJobDoneSpec)

/-- ITS FALSE NEIGHBOUR: 'it returns false'. Refute it at one input. -/
def fnExactJobDoneWrong : ChangeSpec := { name := "fnExactJobDone", fn := fun _ => fun
  | [d] => { results := [.lit (.bool false)], args := [d] }
  | _ => none }
def FnExactJobDoneWrongFalsely : Prop := fnExactJobDoneRow.holds Try.pinned (OpenSpec.ofChange fnExactJobDoneWrong)

/-- 'laws.FnExactLeftOf': WHATEVER THE INPUT: true; the input reads as it did. -/
def fnExactLeftOfSpec : ChangeSpec := { name := "fnExactLeftOf", fn := fun _ => fun
  | [d] => { results := [.lit (.bool true)], args := [d] }
  | _ => none }
def fnExactLeftOfRow : OpenClaim := { program := "ytbmchpoffceehaa", sum := "245bba7dd1521224451c38deb6e8004e186d3edacf9c0293a1a4ae9567825dc9", func := "loop.example/g00778/laws.FnExactLeftOf", spec := "fnExactLeftOf", unfollowed := true, recurses := true, apart := false }
def FnExactLeftOfSaid : Prop := fnExactLeftOfRow.holds Try.pinned (OpenSpec.ofChange fnExactLeftOfSpec)

/-- ITS FALSE NEIGHBOUR: 'it returns false'. Refute it at one input. -/
def fnExactLeftOfWrong : ChangeSpec := { name := "fnExactLeftOf", fn := fun _ => fun
  | [d] => { results := [.lit (.bool false)], args := [d] }
  | _ => none }
def FnExactLeftOfWrongFalsely : Prop := fnExactLeftOfRow.holds Try.pinned (OpenSpec.ofChange fnExactLeftOfWrong)

/-- 'laws.FnExactNextCost': WHATEVER THE INPUT: true; the input reads as it did. -/
def fnExactNextCostSpec : ChangeSpec := { name := "fnExactNextCost", fn := fun _ => fun
  | [d] => { results := [.lit (.bool true)], args := [d] }
  | _ => none }
def fnExactNextCostRow : OpenClaim := { program := "ytbmchpoffceehaa", sum := "245bba7dd1521224451c38deb6e8004e186d3edacf9c0293a1a4ae9567825dc9", func := "loop.example/g00778/laws.FnExactNextCost", spec := "fnExactNextCost", unfollowed := true, recurses := true, apart := false }
def FnExactNextCostSaid : Prop := fnExactNextCostRow.holds Try.pinned (OpenSpec.ofChange fnExactNextCostSpec)

/-- ITS FALSE NEIGHBOUR: 'it returns false'. Refute it at one input. -/
def fnExactNextCostWrong : ChangeSpec := { name := "fnExactNextCost", fn := fun _ => fun
  | [d] => { results := [.lit (.bool false)], args := [d] }
  | _ => none }
def FnExactNextCostWrongFalsely : Prop := fnExactNextCostRow.holds Try.pinned (OpenSpec.ofChange fnExactNextCostWrong)

/-- 'laws.FnExactJobOk': WHATEVER THE INPUT: true; the input reads as it did. -/
def fnExactJobOkSpec : ChangeSpec := { name := "fnExactJobOk", fn := fun _ => fun
  | [d] => { results := [.lit (.bool true)], args := [d] }
  | _ => none }
def fnExactJobOkRow : OpenClaim := { program := "ytbmchpoffceehaa", sum := "245bba7dd1521224451c38deb6e8004e186d3edacf9c0293a1a4ae9567825dc9", func := "loop.example/g00778/laws.FnExactJobOk", spec := "fnExactJobOk", unfollowed := true, recurses := true, apart := false }
def FnExactJobOkSaid : Prop := fnExactJobOkRow.holds Try.pinned (OpenSpec.ofChange fnExactJobOkSpec)

/-- ITS FALSE NEIGHBOUR: 'it returns false'. Refute it at one input. -/
def fnExactJobOkWrong : ChangeSpec := { name := "fnExactJobOk", fn := fun _ => fun
  | [d] => { results := [.lit (.bool false)], args := [d] }
  | _ => none }
def FnExactJobOkWrongFalsely : Prop := fnExactJobOkRow.holds Try.pinned (OpenSpec.ofChange fnExactJobOkWrong)

/-- 'laws.FnExactTotalCost': WHATEVER THE INPUT: true; the input reads as it did. -/
def fnExactTotalCostSpec : ChangeSpec := { name := "fnExactTotalCost", fn := fun _ => fun
  | [d] => { results := [.lit (.bool true)], args := [d] }
  | _ => none }
def fnExactTotalCostRow : OpenClaim := { program := "ytbmchpoffceehaa", sum := "245bba7dd1521224451c38deb6e8004e186d3edacf9c0293a1a4ae9567825dc9", func := "loop.example/g00778/laws.FnExactTotalCost", spec := "fnExactTotalCost", unfollowed := true, recurses := true, apart := false }
def FnExactTotalCostSaid : Prop := fnExactTotalCostRow.holds Try.pinned (OpenSpec.ofChange fnExactTotalCostSpec)

/-- ITS FALSE NEIGHBOUR: 'it returns false'. Refute it at one input. -/
def fnExactTotalCostWrong : ChangeSpec := { name := "fnExactTotalCost", fn := fun _ => fun
  | [d] => { results := [.lit (.bool false)], args := [d] }
  | _ => none }
def FnExactTotalCostWrongFalsely : Prop := fnExactTotalCostRow.holds Try.pinned (OpenSpec.ofChange fnExactTotalCostWrong)

/-- 'laws.FnExactHeadOf': WHATEVER THE INPUT: true; the input reads as it did. -/
def fnExactHeadOfSpec : ChangeSpec := { name := "fnExactHeadOf", fn := fun _ => fun
  | [d] => { results := [.lit (.bool true)], args := [d] }
  | _ => none }
def fnExactHeadOfRow : OpenClaim := { program := "ytbmchpoffceehaa", sum := "245bba7dd1521224451c38deb6e8004e186d3edacf9c0293a1a4ae9567825dc9", func := "loop.example/g00778/laws.FnExactHeadOf", spec := "fnExactHeadOf", apart := false }
def FnExactHeadOfSaid : Prop := fnExactHeadOfRow.holds Try.pinned (OpenSpec.ofChange fnExactHeadOfSpec)

/-- ITS FALSE NEIGHBOUR: 'it returns false'. Refute it at one input. -/
def fnExactHeadOfWrong : ChangeSpec := { name := "fnExactHeadOf", fn := fun _ => fun
  | [d] => { results := [.lit (.bool false)], args := [d] }
  | _ => none }
def FnExactHeadOfWrongFalsely : Prop := fnExactHeadOfRow.holds Try.pinned (OpenSpec.ofChange fnExactHeadOfWrong)

/-- 'laws.FnExactModelSum': WHATEVER THE INPUT: true; the input reads as it did. -/
def fnExactModelSumSpec : ChangeSpec := { name := "fnExactModelSum", fn := fun _ => fun
  | [d] => { results := [.lit (.bool true)], args := [d] }
  | _ => none }
def fnExactModelSumRow : OpenClaim := { program := "ytbmchpoffceehaa", sum := "245bba7dd1521224451c38deb6e8004e186d3edacf9c0293a1a4ae9567825dc9", func := "loop.example/g00778/laws.FnExactModelSum", spec := "fnExactModelSum", unfollowed := true, recurses := true, apart := false }
def FnExactModelSumSaid : Prop := fnExactModelSumRow.holds Try.pinned (OpenSpec.ofChange fnExactModelSumSpec)

/-- ITS FALSE NEIGHBOUR: 'it returns false'. Refute it at one input. -/
def fnExactModelSumWrong : ChangeSpec := { name := "fnExactModelSum", fn := fun _ => fun
  | [d] => { results := [.lit (.bool false)], args := [d] }
  | _ => none }
def FnExactModelSumWrongFalsely : Prop := fnExactModelSumRow.holds Try.pinned (OpenSpec.ofChange fnExactModelSumWrong)

/-- 'laws.FnExactEncodeModel': WHATEVER THE INPUT: true; the input reads as it did. -/
def fnExactEncodeModelSpec : ChangeSpec := { name := "fnExactEncodeModel", fn := fun _ => fun
  | [d] => { results := [.lit (.bool true)], args := [d] }
  | _ => none }
def fnExactEncodeModelRow : OpenClaim := { program := "ytbmchpoffceehaa", sum := "245bba7dd1521224451c38deb6e8004e186d3edacf9c0293a1a4ae9567825dc9", func := "loop.example/g00778/laws.FnExactEncodeModel", spec := "fnExactEncodeModel", unfollowed := true, recurses := true, apart := false }
def FnExactEncodeModelSaid : Prop := fnExactEncodeModelRow.holds Try.pinned (OpenSpec.ofChange fnExactEncodeModelSpec)

/-- ITS FALSE NEIGHBOUR: 'it returns false'. Refute it at one input. -/
def fnExactEncodeModelWrong : ChangeSpec := { name := "fnExactEncodeModel", fn := fun _ => fun
  | [d] => { results := [.lit (.bool false)], args := [d] }
  | _ => none }
def FnExactEncodeModelWrongFalsely : Prop := fnExactEncodeModelRow.holds Try.pinned (OpenSpec.ofChange fnExactEncodeModelWrong)

/- THE SECOND FORM. 'bulk': how many values and letters a reading holds, each counted each time it is reached (what is shared counts as often as it is met; a slice's spare places count too). A statement '..UptoSaid' is the law's where the arguments, and the package variables that the reading takes, are together of bulk at most 1048576: NARROWER than '..Said'. Prove '..Said' where nothing that the law and all that it calls make is longer than what came in: it says more and counts as full. Else prove '..UptoSaid'. A law counts once. -/
mutual
def uptoBulk {H : Type} : DataW H → Nat
  | .lit (.string bytes) => bytes.length + 1
  | .lit _ => 1
  | .nil => 1
  | .ptr d => uptoBulk d + 1
  | .slice elems spare => uptoBulkAll elems + uptoBulkAll spare + 1
  | .agg parts => uptoBulkAll parts + 1
  | .iface _ d => uptoBulk d + 1
  | .map entries => uptoBulkEntries entries + 1
  | .held _ => 1
def uptoBulkAll {H : Type} : List (DataW H) → Nat
  | [] => 0
  | d :: r => uptoBulk d + uptoBulkAll r
def uptoBulkEntries {H : Type} : List (Lit × DataW H) → Nat
  | [] => 0
  | x :: r => uptoBulkEntry x + uptoBulkEntries r
def uptoBulkEntry {H : Type} : Lit × DataW H → Nat
  | (.string bytes, d) => bytes.length + uptoBulk d + 1
  | (_, d) => uptoBulk d + 1
 end
def uptoSmall : (H : Type) → List (DataW H) → Bool := fun _ ds => decide (uptoBulkAll ds ≤ 1048576)
def OpenSpec.upto (s : _root_.Go.ChangeSpec) : _root_.Go.OpenSpec := { _root_.Go.OpenSpec.ofChange s with cond := some uptoSmall }

/-- 'laws.FnExactJobDone', WHERE WHAT IT READS IS OF BULK AT MOST 1048576: true; the input reads as it did. -/
def fnExactJobDoneUptoRow : OpenClaim := { program := "ytbmchpoffceehaa", sum := "245bba7dd1521224451c38deb6e8004e186d3edacf9c0293a1a4ae9567825dc9", func := "loop.example/g00778/laws.FnExactJobDone", spec := "fnExactJobDone", unfollowed := true, recurses := true, apart := false, narrowed := true }
def FnExactJobDoneUptoSaid : Prop := fnExactJobDoneUptoRow.holds Try.pinned (OpenSpec.upto fnExactJobDoneSpec)

/-- 'laws.FnExactLeftOf', WHERE WHAT IT READS IS OF BULK AT MOST 1048576: true; the input reads as it did. -/
def fnExactLeftOfUptoRow : OpenClaim := { program := "ytbmchpoffceehaa", sum := "245bba7dd1521224451c38deb6e8004e186d3edacf9c0293a1a4ae9567825dc9", func := "loop.example/g00778/laws.FnExactLeftOf", spec := "fnExactLeftOf", unfollowed := true, recurses := true, apart := false, narrowed := true }
def FnExactLeftOfUptoSaid : Prop := fnExactLeftOfUptoRow.holds Try.pinned (OpenSpec.upto fnExactLeftOfSpec)

/-- 'laws.FnExactNextCost', WHERE WHAT IT READS IS OF BULK AT MOST 1048576: true; the input reads as it did. -/
def fnExactNextCostUptoRow : OpenClaim := { program := "ytbmchpoffceehaa", sum := "245bba7dd1521224451c38deb6e8004e186d3edacf9c0293a1a4ae9567825dc9", func := "loop.example/g00778/laws.FnExactNextCost", spec := "fnExactNextCost", unfollowed := true, recurses := true, apart := false, narrowed := true }
def FnExactNextCostUptoSaid : Prop := fnExactNextCostUptoRow.holds Try.pinned (OpenSpec.upto fnExactNextCostSpec)

/-- 'laws.FnExactJobOk', WHERE WHAT IT READS IS OF BULK AT MOST 1048576: true; the input reads as it did. -/
def fnExactJobOkUptoRow : OpenClaim := { program := "ytbmchpoffceehaa", sum := "245bba7dd1521224451c38deb6e8004e186d3edacf9c0293a1a4ae9567825dc9", func := "loop.example/g00778/laws.FnExactJobOk", spec := "fnExactJobOk", unfollowed := true, recurses := true, apart := false, narrowed := true }
def FnExactJobOkUptoSaid : Prop := fnExactJobOkUptoRow.holds Try.pinned (OpenSpec.upto fnExactJobOkSpec)

/-- 'laws.FnExactTotalCost', WHERE WHAT IT READS IS OF BULK AT MOST 1048576: true; the input reads as it did. -/
def fnExactTotalCostUptoRow : OpenClaim := { program := "ytbmchpoffceehaa", sum := "245bba7dd1521224451c38deb6e8004e186d3edacf9c0293a1a4ae9567825dc9", func := "loop.example/g00778/laws.FnExactTotalCost", spec := "fnExactTotalCost", unfollowed := true, recurses := true, apart := false, narrowed := true }
def FnExactTotalCostUptoSaid : Prop := fnExactTotalCostUptoRow.holds Try.pinned (OpenSpec.upto fnExactTotalCostSpec)

/-- 'laws.FnExactHeadOf', WHERE WHAT IT READS IS OF BULK AT MOST 1048576: true; the input reads as it did. -/
def fnExactHeadOfUptoRow : OpenClaim := { program := "ytbmchpoffceehaa", sum := "245bba7dd1521224451c38deb6e8004e186d3edacf9c0293a1a4ae9567825dc9", func := "loop.example/g00778/laws.FnExactHeadOf", spec := "fnExactHeadOf", apart := false, narrowed := true }
def FnExactHeadOfUptoSaid : Prop := fnExactHeadOfUptoRow.holds Try.pinned (OpenSpec.upto fnExactHeadOfSpec)

/-- 'laws.FnExactModelSum', WHERE WHAT IT READS IS OF BULK AT MOST 1048576: true; the input reads as it did. -/
def fnExactModelSumUptoRow : OpenClaim := { program := "ytbmchpoffceehaa", sum := "245bba7dd1521224451c38deb6e8004e186d3edacf9c0293a1a4ae9567825dc9", func := "loop.example/g00778/laws.FnExactModelSum", spec := "fnExactModelSum", unfollowed := true, recurses := true, apart := false, narrowed := true }
def FnExactModelSumUptoSaid : Prop := fnExactModelSumUptoRow.holds Try.pinned (OpenSpec.upto fnExactModelSumSpec)

/-- 'laws.FnExactEncodeModel', WHERE WHAT IT READS IS OF BULK AT MOST 1048576: true; the input reads as it did. -/
def fnExactEncodeModelUptoRow : OpenClaim := { program := "ytbmchpoffceehaa", sum := "245bba7dd1521224451c38deb6e8004e186d3edacf9c0293a1a4ae9567825dc9", func := "loop.example/g00778/laws.FnExactEncodeModel", spec := "fnExactEncodeModel", unfollowed := true, recurses := true, apart := false, narrowed := true }
def FnExactEncodeModelUptoSaid : Prop := fnExactEncodeModelUptoRow.holds Try.pinned (OpenSpec.upto fnExactEncodeModelSpec)

end Rows
end Go.Proofs.Ytbmchpoffceehaa
