/- What the draws of chapter 1 give over bytes that can be read: some numbers, some lists; they write nothing that was there. -/
import Derived.Test.YtjdappmapkagjaaNew
import Derived.Maps.AppendAt
namespace Go.Proofs.Ytjdappmapkagjaa
open Go.RowKit
namespace Qt

section
variable {w w' : World} {g n : Nat} {A : Option Addr}
theorem Cur.lt (h : Cur w g A n) : g < w.heap.size := by
  obtain ⟨_, _, c, i, k, _, hg⟩ := h
  rcases Nat.lt_or_ge g w.heap.size with hlt | hge
  · exact hlt
  · rw [Array.getElem?_eq_none hge] at hg; cases hg
theorem Cur.of_grown (h : Cur w g A n) {row : Option Nat} (hg : w.grownBy w' row) (hr : ∀ k, row = some k → g < k) : Cur w' g A n := by
  have hlt := h.lt
  obtain ⟨h1, h2, c, i, k, hi, hh⟩ := h
  have e : ∀ j, j ≤ g → w'.heap[j]? = w.heap[j]? := fun j hj => hg.block j (by omega) (fun x => by have := hr j x.symm; omega)
  exact ⟨h1, h2.of_block fun j hj => e j (by omega), c, i, k, hi, (e g (Nat.le_refl _)).trans hh⟩
theorem Cur.alloc (h : Cur w g A n) (o : Obj) : Cur (w.alloc o) g A n :=
  h.of_grown (w' := w.alloc o) (row := none) (World.grownBy_alloc w o none) (fun k hk => by cases hk)
end

def Get2 (w : World) (e : Ending) (w' : World) : Prop := ∃ x y : Int, e = .returned (.tuple #[.int .i64 x, .int .i64 y]) ∧ Below w.heap.size w w'
def Get3 (w : World) (e : Ending) (w' : World) : Prop := ∃ x y z : Int, e = .returned (.tuple #[.int .i64 x, .int .i64 y, .int .i64 z]) ∧ Below w.heap.size w w'
end Qt
end Go.Proofs.Ytjdappmapkagjaa
