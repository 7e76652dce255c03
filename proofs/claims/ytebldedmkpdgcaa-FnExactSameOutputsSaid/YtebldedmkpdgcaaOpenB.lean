/- How fields that are slices of bytes, and tensors, lie as values. -/
import Derived.Test.YtebldedmkpdgcaaOpenL
import Derived.Test.YtebldedmkpdgcaaOpenC
import Derived.Test.YtebldedmkpdgcaaBytes
import Derived.Deep.Slices
import Derived.Deep.Fields
import Derived.ChangeSame
namespace Go.Proofs.Ytebldedmkpdgcaa
open Go.ChangeShapes Go.WideShapes Go.ChangeAt Go.RowKit Go.Joins Go.Deep
namespace Qt
theorem cellsU8 : Try.prog.cellsOf 5 = 1 := by kernel_rfl
theorem cellsYs : Try.prog.cellsOf 80 = 1 := by kernel_rfl
section
variable {H : Type} {enc : TypeId × Value → H} {w : World} {base : Nat} {spare : Nat → Bool} {held : Bool}
set_option maxRecDepth 10000 in
/-- A field that is a slice of bytes. -/
theorem open_bytesF {fuel : Nat} {c : Value} {x : DataW H × List MemPlace} (f1 : DataW.trod enc Try.prog w base (fun _ => true) held fuel 80 [c] = some x) : ∃ (A : Option Addr) (n cap : Nat) (xs : List Int), c = .slice A n cap ∧ RdB8 w A n xs ∧ (n : Int) ≤ 9223372036854775807 := by
  rcases open_ints Try.underlying80 Try.underlying5 cellsU8 f1 with ⟨hcs, _⟩ | ⟨x, l, cc, zs, hcs, _, hl, hm, hz, _, hcell, _⟩
  · simp at hcs
    subst hcs
    exact ⟨none, 0, 0, [], rfl, RdB8.nil w _, by omega⟩
  · simp at hcs
    subst hcs
    refine ⟨some x, l, cc, zs.take l, rfl, ?_, by unfold maxLen at hm; omega⟩
    have hzl : zs.length = cc := by simpa using hz
    refine ⟨by rw [List.length_take]; omega, fun hn => ?_⟩
    obtain ⟨b', off, rfl, hcell'⟩ := ints_at hcell (by omega)
    refine ⟨b', off, rfl, World.block_lt_of_cell? w ⟨b', off + 0, none⟩ (hcell' 0 (by omega)), fun j hj => ?_⟩
    rw [hcell' j (by omega)]
    simp [List.getD_eq_getElem?_getD, hj]
set_option maxRecDepth 10000 in
/-- A field that is a tensor. -/
theorem open_tensorF {fuel : Nat} {cs : List Value} {x : DataW H × List MemPlace} (hf : DataW.trod enc Try.prog w base (fun _ => true) held fuel 61 cs = some x) :
    ∃ (a b c : Int) (A : Option Addr) (n cap : Nat) (xs : List Int), cs = [.int .i64 a, .int .i64 b, .int .i64 c, .slice A n cap] ∧ RdI w A n xs ∧ (n : Int) ≤ 9223372036854775807 := by
  obtain ⟨xs, m, rfl, _, hlen, hxl, hg⟩ := DataW.trod_struct Try.underlying61 hf
  have hxl2 : xs.length = 2 := hxl
  have hlen4 : cs.length = 4 := by rw [cellsTe] at hlen; exact hlen
  match cs, hlen4 with
  | [c0, c1, c2, c3], _ =>
    match xs, hxl2 with
    | [y0, y1], _ =>
      have f0 := hg 0 _ rfl
      have f1 := hg 1 _ rfl
      simp [cellsSh, cellsSl] at f0 f1
      obtain ⟨a, b, c, e⟩ := trod_shape f0
      simp at e
      obtain ⟨rfl, rfl, rfl⟩ := e
      obtain ⟨A, n, cap, xs, rfl, r1⟩ := open_sliceF f1
      exact ⟨a, b, c, A, n, cap, xs, rfl, r1.1, r1.2⟩
theorem exists_list {α : Type} (n : Nat) (R : Nat → α → Prop) (h : ∀ j, j < n → ∃ a, R j a) : ∃ l : List α, l.length = n ∧ ∀ j a, l[j]? = some a → R j a := by
  induction n with
  | zero => exact ⟨[], rfl, fun j a hj => by simp at hj⟩
  | succ n ih =>
    obtain ⟨l, hl, hR⟩ := ih fun j hj => h j (by omega)
    obtain ⟨a, ha⟩ := h n (by omega)
    refine ⟨l ++ [a], by simp [hl], fun j b hj => ?_⟩
    by_cases hlt : j < n
    · rw [List.getElem?_append_left (by omega)] at hj; exact hR j b hj
    · have : j = n := by have := (List.getElem?_eq_some_iff.1 hj).1; simp at this; omega
      subst this
      rw [List.getElem?_append_right (by omega)] at hj
      simp [hl] at hj
      subst hj
      exact ha
end
end Qt
end Go.Proofs.Ytebldedmkpdgcaa
