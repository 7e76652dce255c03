/- What the rounding functions of chapter 1 (and of its model) give when they are called, each at every argument. No conditions but that an argument fits its kind. -/
import Derived.Test.YtihnpfcjnfkfjaaQuant
import Derived.Deep.DeepFit
import Derived.Handy
import Derived.WalkSmall
namespace Go.Proofs.Ytihnpfcjnfkfjaa
open Go.RowKit
namespace Qt

theorem wrap_pow2 (n : Int) : wrap64 (2 ^ (clamp n 0 31).toNat) = pow2 n := IntWalk.wrap64_in _ (by have := pow2_bd n; unfold pow2 at this; omega)
theorem cell_new0 {w : World} {x y : Value} {T b : Nat} (hb : b = w.heap.size) : (w.alloc (.cells #[x, y] T)).cell? ⟨b, 0, none⟩ = some x := by subst hb; simp [go_sem]
theorem cell_new1 {w : World} {x y : Value} {T b : Nat} (hb : b = w.heap.size) : (w.alloc (.cells #[x, y] T)).cell? ⟨b, 1, none⟩ = some y := by subst hb; simp [go_sem]
end Qt
end Go.Proofs.Ytihnpfcjnfkfjaa
