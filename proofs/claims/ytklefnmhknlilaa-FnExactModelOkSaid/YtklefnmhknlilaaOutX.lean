/- What OutShape of the program and of its model give, where the answer is named. Conditions: the slices read as the lists that are named. -/
import Derived.Test.YtklefnmhknlilaaOutI
import Derived.Test.YtklefnmhknlilaaWay
namespace Go.Proofs.Ytklefnmhknlilaa
open Go.RowKit Go.Sort
namespace Qt
theorem outSy (h w c k o s t m f z : Int) (A : Option Addr) (n p : Nat) (xs : List Int) (B : Option Addr) (q r : Nat) (ys : List Int) (W : World) (x y v : Int) (ok : Bool) (hO : outV (outL h w c k o s t m f z xs ys) = .tuple #[.agg #[.int .i64 x, .int .i64 y, .int .i64 v], .bool ok]) (hr : RdI W A n xs) (hr2 : RdI W B q ys) (hn : n ≤ 1048576) (hq : q ≤ 1048576) :
    Calls Try.prog 67 #[.agg #[.int .i64 h, .int .i64 w, .int .i64 c], .agg #[.int .i64 k, .int .i64 o, .int .i64 s, .int .i64 t, .int .i64 m, .int .i64 f, .int .i64 z, .slice A n p, .slice B q r]] W fun e W' => e = .returned (.tuple #[.agg #[.int .i64 x, .int .i64 y, .int .i64 v], .bool ok]) ∧ Below W.heap.size W W' := by
  have := outSS h w c k o s t m f z A n p xs B q r ys W hr hr2 hn hq
  rw [hO] at this
  exact this
theorem outIy (h w c k o s t m f z : Int) (A : Option Addr) (n p : Nat) (xs : List Int) (B : Option Addr) (q r : Nat) (ys : List Int) (W : World) (x y v : Int) (ok : Bool) (hO : outV (outL h w c k o s t m f z xs ys) = .tuple #[.agg #[.int .i64 x, .int .i64 y, .int .i64 v], .bool ok]) (hr : RdI W A n xs) (hr2 : RdI W B q ys) (hn : n ≤ 1048576) (hq : q ≤ 1048576) :
    Calls Try.prog 70 #[.agg #[.int .i64 h, .int .i64 w, .int .i64 c], .agg #[.int .i64 k, .int .i64 o, .int .i64 s, .int .i64 t, .int .i64 m, .int .i64 f, .int .i64 z, .slice A n p, .slice B q r]] W fun e W' => e = .returned (.tuple #[.agg #[.int .i64 x, .int .i64 y, .int .i64 v], .bool ok]) ∧ Below W.heap.size W W' := by
  have := outII h w c k o s t m f z A n p xs B q r ys W hr hr2 hn hq
  rw [hO] at this
  exact this
theorem outV_some {h w c k o s t m f z x y v : Int} {xs ys : List Int} (ho : outY (h, w, c) ⟨k, o, s, t, m, f, z, xs, ys⟩ = some (x, y, v)) : outV (outL h w c k o s t m f z xs ys) = .tuple #[.agg #[.int .i64 x, .int .i64 y, .int .i64 v], .bool true] := by
  have : outL h w c k o s t m f z xs ys = some (x, y, v) := ho
  rw [this]; rfl
theorem outV_none {h w c k o s t m f z : Int} {xs ys : List Int} (ho : outY (h, w, c) ⟨k, o, s, t, m, f, z, xs, ys⟩ = none) : outV (outL h w c k o s t m f z xs ys) = .tuple #[.agg #[.int .i64 0, .int .i64 0, .int .i64 0], .bool false] := by
  have : outL h w c k o s t m f z xs ys = none := ho
  rw [this]; rfl
end Qt
end Go.Proofs.Ytklefnmhknlilaa
