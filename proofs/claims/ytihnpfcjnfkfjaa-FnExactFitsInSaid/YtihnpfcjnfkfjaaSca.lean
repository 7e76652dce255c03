/- What the functions on one number and one scale (of the program, of its model and of the laws) give when they are called, each at every argument. No conditions. -/
import Derived.Test.YtihnpfcjnfkfjaaRight
import Derived.Test.YtihnpfcjnfkfjaaShift
import Derived.Test.YtihnpfcjnfkfjaaMult
import Derived.Test.YtihnpfcjnfkfjaaCalMath
import Derived.Lib.QuietBelow
import Derived.Deep.QuietTactic
import Derived.BigQuiet
namespace Go.Proofs.Ytihnpfcjnfkfjaa
open Go.RowKit Go.Sort
set_option linter.unusedSimpArgs false
set_option linter.unusedVariables false
namespace Qt
theorem new2 (W : World) (t : TypeId) (x y : Value) : (W.alloc (.cells #[x, y] t)).cell? ⟨W.heap.size, 0, none⟩ = some x ∧ (W.alloc (.cells #[x, y] t)).cell? ⟨W.heap.size, 1, none⟩ = some y :=
  ⟨(Bk.new W t #[x, y]).cell 0 rfl, (Bk.new W t #[x, y]).cell 1 rfl⟩
theorem flipv {P : Program} {f : FuncId} {args : Array Value} {w : World} {v : Value} (h : Calls P f args w fun e w' => e = .returned v ∧ w = w') : Calls P f args w fun e w' => e = .returned v ∧ w' = w :=
  h.mono fun _ _ ⟨he, hm⟩ => ⟨he, hm.symm⟩
theorem below_of_drewN0 {P : Program} {f : FuncId} {args : Array Value} {w : World} {v : Value} (h : Calls P f args w fun e w' => e = .returned v ∧ w = w') : Calls P f args w fun e w' => e = .returned v ∧ Below w.heap.size w w' :=
  h.mono fun _ _ ⟨he, hm⟩ => ⟨he, hm ▸ Below.refl _ _⟩
theorem inside1I (lo hi x : Int) (g : Nat) (t : TypeId) (W : World) (h : Bk W g t #[.int .i64 x]) :
    Calls Try.prog 86 #[.int .i64 lo, .int .i64 hi, .slice (some ⟨g, 0, none⟩) 1 1] W fun e W' => e = .returned (.bool (inB lo hi x)) ∧ Below W.heap.size W W' := by
  rw [← allIn_one]
  exact insideB lo hi _ 1 1 [x] W ⟨rfl, fun _ => ⟨g, 0, rfl, h.lt, fun j hj => by
    obtain rfl : j = 0 := by omega
    exact h.cell 0 rfl⟩⟩ (by omega)
end Qt
end Go.Proofs.Ytihnpfcjnfkfjaa
