/- What TensorOk and ItemAt of the program, and ItemAt of the model, give when they are called. Conditions: the slice reads as the list that is named. -/
import Derived.Test.YtebldedmkpdgcaaBlock
namespace Go.Proofs.Ytebldedmkpdgcaa
open Go.RowKit Go.Sort
namespace Qt

def itemOk (h w c i j k : Int) (xs : List Int) : Bool := tOk h w c xs && decide (0 ≤ plOf h w c i j k)
def itemOf (h w c i j k : Int) (xs : List Int) : Int := if itemOk h w c i j k xs then xs.getD (plOf h w c i j k).toNat 0 else 0
theorem ret_item {x y : Int} {b : Bool} (h : x = y) : Ending.returned (.tuple #[.int .i64 x, .bool b]) = .returned (.tuple #[.int .i64 y, .bool b]) := by rw [h]

end Qt
end Go.Proofs.Ytebldedmkpdgcaa
