/- What the draws of chapter 1 give over bytes that can be read: some numbers, some lists; they write nothing that was there. -/
import Derived.Test.YtgdcggjkfmdobaaNew
import Derived.Maps.AppendAt
namespace Go.Proofs.Ytgdcggjkfmdobaa
open Go.RowKit
namespace Qt

section
variable {w w' : World} {g n : Nat} {A : Option Addr}
theorem Cur.lt (h : Cur w g A n) : g < w.heap.size := by
  obtain ⟨_, _, c, i, k, _, hg⟩ := h
  rcases Nat.lt_or_ge g w.heap.size with hlt | hge
  · exact hlt
  · rw [Array.getElem?_eq_none hge] at hg; cases hg
theorem Cur.of_grown (h : Cur w g A n) {row : Option Nat} (hg : w.grownBy w' row) (hr : ∀ k, row = some k → g < k) : Cur w' g A n := by
  have hlt := h.lt
  obtain ⟨h1, h2, c, i, k, hi, hh⟩ := h
  have e : ∀ j, j ≤ g → w'.heap[j]? = w.heap[j]? := fun j hj => hg.block j (by omega) (fun x => by have := hr j x.symm; omega)
  exact ⟨h1, h2.of_block fun j hj => e j (by omega), c, i, k, hi, (e g (Nat.le_refl _)).trans hh⟩
theorem Cur.alloc (h : Cur w g A n) (o : Obj) : Cur (w.alloc o) g A n :=
  h.of_grown (w' := w.alloc o) (row := none) (World.grownBy_alloc w o none) (fun k hk => by cases hk)
end

theorem drawWideC (g : Nat) (A : Option Addr) (n : Nat) (w : World) (hc : Cur w g A n) :
    Calls Try.prog 17 #[.pointer (some ⟨g, 0, none⟩)] w (GetP w g A n fun _ => True) := by
  have HC := Lib.hid hc
  clear hc
  go_enter Try.func17, Try.ntmps17
  go_wp2_with fail
  refine (belowC g A n 256 _ HC.out (by omega) (by omega)).mono ?_
  rintro e w1 ⟨x1, hx1, rfl, hc1, hg1⟩
  have HC1 := Lib.hid hc1; have HG1 := Lib.hid hg1
  clear hc1 hg1 HC
  go_wp2_with fail
  refine (belowC g A n 16777216 _ HC1.out (by omega) (by omega)).mono ?_
  rintro e w2 ⟨x2, hx2, rfl, hc2, hg2⟩
  have HC2 := Lib.hid hc2; have HG2 := Lib.hid (grown_trans HG1.out hg2)
  clear hc2 hg2 HC1 HG1
  go_wp2_with fail
  refine (belowC g A n 16777216 _ HC2.out (by omega) (by omega)).mono ?_
  rintro e w3 ⟨x3, hx3, rfl, hc3, hg3⟩
  have HC3 := Lib.hid hc3; have HG3 := Lib.hid (grown_trans HG2.out hg3)
  clear hc3 hg3 HC2 HG2
  go_wp2_with fail
  refine (belowC g A n 16777216 _ HC3.out (by omega) (by omega)).mono ?_
  rintro e w4 ⟨x4, hx4, rfl, hc4, hg4⟩
  have HC4 := Lib.hid hc4; have HG4 := Lib.hid (grown_trans HG3.out hg4)
  clear hc4 hg4 HC3 HG3
  go_wp2_with fail
  refine (pickC (fun _ => True) g _ 13 A n _ _ _ (HC4.out.alloc _) (heap_alloc_new _ _) (by have := HC4.out.lt; omega) rfl (by omega) (by omega) (by exact ⟨⟨_, trivial, rfl⟩, ⟨_, trivial, rfl⟩, ⟨_, trivial, rfl⟩, ⟨_, trivial, rfl⟩, ⟨_, trivial, rfl⟩, ⟨_, trivial, rfl⟩, ⟨_, trivial, rfl⟩, ⟨_, trivial, rfl⟩, ⟨_, trivial, rfl⟩, ⟨_, trivial, rfl⟩, ⟨_, trivial, rfl⟩, ⟨_, trivial, rfl⟩, ⟨_, trivial, rfl⟩, trivial⟩)).mono ?_
  rintro e w5 ⟨x5, hx5, rfl, hc5, hg5⟩
  have HC5 := Lib.hid hc5; have HG5 := Lib.hid (grown_trans (grown_alloc HG4.out _) hg5)
  clear hc5 hg5 HC4 HG4
  go_wp2
  go_ret
  exact ⟨_, trivial, rfl, HC5.out, HG5.out⟩

def Get2 (w : World) (e : Ending) (w' : World) : Prop := ∃ x y : Int, e = .returned (.tuple #[.int .i64 x, .int .i64 y]) ∧ Below w.heap.size w w'
def Get3 (w : World) (e : Ending) (w' : World) : Prop := ∃ x y z : Int, e = .returned (.tuple #[.int .i64 x, .int .i64 y, .int .i64 z]) ∧ Below w.heap.size w w'
end Qt
end Go.Proofs.Ytgdcggjkfmdobaa
