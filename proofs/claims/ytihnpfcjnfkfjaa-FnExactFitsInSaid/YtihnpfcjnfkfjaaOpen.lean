/- How an argument that is a shape or a tensor lies as values: three numbers; three numbers and a slice that reads as a list. -/
import Derived.Test.YtihnpfcjnfkfjaaProg
import Derived.WalkKit
import Derived.ProofKit
import Derived.OpenShut
import Derived.Lib.SmallJoins
import Derived.Test.YtihnpfcjnfkfjaaSlice
namespace Go.Proofs.Ytihnpfcjnfkfjaa
open Go.ChangeShapes Go.WideShapes Go.ChangeAt Go.RowKit Go.Joins
namespace Qt

theorem cellsI : Try.prog.cellsOf 3 = 1 := by kernel_rfl
theorem cellsSl : Try.prog.cellsOf 35 = 1 := by kernel_rfl
/-- A slice that came in: it reads as xs, and is no longer than a slice can be. -/
def RdT (w : World) (A : Option Addr) (n : Nat) (xs : List Int) : Prop := RdI w A n xs ∧ (n : Int) ≤ 9223372036854775807
section
variable {H : Type} {enc : TypeId × Value → H} {w : World} {base : Nat} {spare : Nat → Bool} {held : Bool}
end
end Qt
end Go.Proofs.Ytihnpfcjnfkfjaa
