/- Tasks as they lie in memory, what the laws' helpers on a task give, and TaskOk of the program and of its model. Conditions: the slice of costs reads as the list that is named. -/
import Derived.Test.YtebldedmkpdgcaaSca
import Derived.Test.YtebldedmkpdgcaaOwn
namespace Go.Proofs.Ytebldedmkpdgcaa
open Go.RowKit Go.Sort
set_option linter.unusedSimpArgs false
set_option linter.unusedVariables false
namespace Qt
section
variable {w w' : World} {g : Nat} {t : TypeId} {cs : Array Value}
theorem Bk.cell5 {a b c d e : Value} (h : Bk w g t #[a, b, c, d, e]) : w.cell? ⟨g, 0, none⟩ = some a ∧ w.cell? ⟨g, 1, none⟩ = some b ∧ w.cell? ⟨g, 2, none⟩ = some c ∧ w.cell? ⟨g, 3, none⟩ = some d ∧ w.cell? ⟨g, 4, none⟩ = some e :=
  ⟨h.cell 0 rfl, h.cell 1 rfl, h.cell 2 rfl, h.cell 3 rfl, h.cell 4 rfl⟩
theorem Bk.free5 (h : Bk w g t cs) : w.frozen? ⟨g, 0, none⟩ = false ∧ w.frozen? ⟨g, 1, none⟩ = false ∧ w.frozen? ⟨g, 2, none⟩ = false ∧ w.frozen? ⟨g, 3, none⟩ = false ∧ w.frozen? ⟨g, 4, none⟩ = false := ⟨h.frozen 0, h.frozen 1, h.frozen 2, h.frozen 3, h.frozen 4⟩
def wset5 (w : World) (g : Nat) (a b c d e : Value) : World := ((((w.setCell ⟨g, 0, none⟩ a).setCell ⟨g, 1, none⟩ b).setCell ⟨g, 2, none⟩ c).setCell ⟨g, 3, none⟩ d).setCell ⟨g, 4, none⟩ e
theorem Bk.set5 {a b c d e x y z u v : Value} (h : Bk w g t #[a, b, c, d, e]) : Bk (wset5 w g x y z u v) g t #[x, y, z, u, v] := ((((h.set 0 x).set 1 y).set 2 z).set 3 u).set 4 v
theorem RdI.set5 {n : Nat} {xs : List Int} {g' : Nat} (h : RdI w (some ⟨g', 0, none⟩) n xs) (hne : g' ≠ g) (x y z u v : Value) : RdI (wset5 w g x y z u v) (some ⟨g', 0, none⟩) n xs :=
  ((((h.far (p := ⟨g, 0, none⟩) hne x).far (p := ⟨g, 1, none⟩) hne y).far (p := ⟨g, 2, none⟩) hne z).far (p := ⟨g, 3, none⟩) hne u).far (p := ⟨g, 4, none⟩) hne v
theorem below_set5 {B : Nat} {W : World} (h : Below B W w) (hB : B ≤ g) (x y z u v : Value) : Below B W (wset5 w g x y z u v) :=
  ((((h.setCell (p := ⟨g, 0, none⟩) hB x).setCell (p := ⟨g, 1, none⟩) hB y).setCell (p := ⟨g, 2, none⟩) hB z).setCell (p := ⟨g, 3, none⟩) hB u).setCell (p := ⟨g, 4, none⟩) hB v
end
/-- A task as a value. -/
abbrev Tk (id : Int) (A : Option Addr) (n p : Nat) (a d b : Int) : Value := .agg #[.int .i64 id, .slice A n p, .int .i64 a, .int .i64 d, .int .i64 b]
def NewTk (W : World) (id a d b : Int) (n : Nat) (xs : List Int) (e : Ending) (W' : World) : Prop :=
  ∃ g, e = .returned (.agg #[.int .i64 id, .slice (some ⟨g, 0, none⟩) n n, .int .i64 a, .int .i64 d, .int .i64 b]) ∧ W.heap.size ≤ g ∧ RdI W' (some ⟨g, 0, none⟩) n xs ∧ Below W.heap.size W W'
/-- TaskOk. -/
def taskB (id : Int) (xs : List Int) (a d b : Int) : Bool :=
  inB 1 1000000 id && (inB 1 6 (xs.length : Int) && (allIn 1 1000 xs && (inB 0 ((xs.length : Int) - 1) a && (inB 0 1000000 d && inB 0 1000000 b))))
theorem new5 (W : World) (t : TypeId) (x y z u v : Value) : (W.alloc (.cells #[x, y, z, u, v] t)).cell? ⟨W.heap.size, 0, none⟩ = some x ∧ (W.alloc (.cells #[x, y, z, u, v] t)).cell? ⟨W.heap.size, 1, none⟩ = some y ∧ (W.alloc (.cells #[x, y, z, u, v] t)).cell? ⟨W.heap.size, 2, none⟩ = some z ∧ (W.alloc (.cells #[x, y, z, u, v] t)).cell? ⟨W.heap.size, 3, none⟩ = some u ∧ (W.alloc (.cells #[x, y, z, u, v] t)).cell? ⟨W.heap.size, 4, none⟩ = some v := (Bk.new W t #[x, y, z, u, v]).cell5
end Qt
end Go.Proofs.Ytebldedmkpdgcaa
