/- What the functions of chapter 1 (and of the model of chapter 1) give when they are called, each at every argument. No conditions but that an argument fits its kind. -/
import Derived.Test.YtihnpfcjnfkfjaaProg
import Derived.WalkKit
import Derived.ProofKit
import Derived.BigQuiet
import Derived.Deep.QuietTactic
import Derived.Below
import Derived.Lib.Hide
import Derived.Outline
import Derived.Test.YtihnpfcjnfkfjaaMath
namespace Go.Proofs.Ytihnpfcjnfkfjaa
open Go.RowKit
namespace Qt

theorem ret_int {k : IntKind} {a b : Int} (h : a = b) : Ending.returned (.int k a) = .returned (.int k b) := by rw [h]

end Qt
end Go.Proofs.Ytihnpfcjnfkfjaa
