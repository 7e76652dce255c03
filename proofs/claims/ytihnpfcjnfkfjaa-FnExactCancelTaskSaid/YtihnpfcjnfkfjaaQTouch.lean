/- What may have been written when an answer is marked: blocks of a known range alone. No conditions. -/
import Derived.Test.YtihnpfcjnfkfjaaQSchA
namespace Go.Proofs.Ytihnpfcjnfkfjaa
open Go.RowKit Go.Sort
set_option linter.unusedSimpArgs false
set_option linter.unusedVariables false
namespace Qt
/-- Nothing but blocks from B on, below C, has been written; blocks may have been laid. -/
structure Touch (B C : Nat) (w w' : World) : Prop where
  os : w'.os = w.os
  tape : w'.tape = w.tape
  output : w'.output = w.output
  size : w.heap.size ≤ w'.heap.size
  block : ∀ k, k < w.heap.size → (k < B ∨ C ≤ k) → w'.heap[k]? = w.heap[k]?
section
variable {B C : Nat} {w w' w'' : World}
theorem Touch.refl (B C : Nat) (w : World) : Touch B C w w := ⟨rfl, rfl, rfl, Nat.le_refl _, fun _ _ _ => rfl⟩
theorem Touch.trans (h : Touch B C w w') (k : Touch B C w' w'') : Touch B C w w'' := ⟨k.os.trans h.os, k.tape.trans h.tape, k.output.trans h.output, Nat.le_trans h.size k.size, fun i hi hc => (k.block i (Nat.lt_of_lt_of_le hi h.size) hc).trans (h.block i hi hc)⟩
theorem Touch.setCell {g i : Nat} (h : Touch B C w w') (hB : B ≤ g) (hC : g < C) (u : Value) : Touch B C w (w'.setCell ⟨g, i, none⟩ u) := h.trans ⟨rfl, rfl, rfl, by simp, fun k _ hc => Below.heap_setCell _ ⟨g, i, none⟩ u k (by simp only; omega)⟩
theorem Touch.grown {g : Nat} (h : Touch B C w w') (hg : w'.grownBy w'' (some g)) (hB : B ≤ g) (hC : g < C) : Touch B C w w'' := h.trans ⟨hg.os, hg.tape, hg.output, hg.size, fun k hk hc => hg.block k hk (fun e => by cases e; omega)⟩
theorem Touch.below (h : Touch B C w w') (hb : Below w'.heap.size w' w'') : Touch B C w w'' := h.trans ⟨hb.os, hb.tape, hb.output, hb.size, fun k hk _ => hb.block k hk⟩
theorem Touch.below0 (hb : Below w.heap.size w w') (h : Touch B C w' w'') : Touch B C w w'' := (Touch.refl B C w).below hb |>.trans h
theorem Touch.isBelow (h : Touch B C w w') (hB : B ≤ w.heap.size) : Below B w w' := ⟨h.os, h.tape, h.output, h.size, fun k hk => h.block k (by omega) (.inl hk)⟩
theorem Touch.bk {g : Nat} {t : TypeId} {cs : Array Value} (h : Touch B C w w') (hb : Bk w g t cs) (hg : g < B ∨ C ≤ g) : Bk w' g t cs := (h.block g hb.lt hg).trans hb
theorem Touch.ownsRow {base n size : Nat} {e : TypeId} {V : Value} {xs : List Value} (h : Touch B C w w') (ho : w.ownsRow base e size V n xs) (hg : ∀ g, V.ownBlock = some g → g < B ∨ C ≤ g) : w'.ownsRow base e size V n xs := by
  refine ⟨ho.1, ?_⟩
  rcases ho.2 with hn | ⟨g, cap, cur, rfl, hB, hgg, rest⟩
  · exact .inl hn
  · exact .inr ⟨g, cap, cur, rfl, hB, (h.block g (Array.getElem?_eq_some_iff.1 hgg).1 (hg g rfl)).trans hgg, rest⟩
theorem Touch.ownI {base n : Nat} {A : Option Addr} {xs : List Int} (h : Touch B C w w') (ho : OwnI base w A n xs) (hg : ∀ a, 0 < n → A = some a → a.block < B ∨ C ≤ a.block) : OwnI base w' A n xs := ⟨ho.1, fun hn => by
  obtain ⟨g, e, hB, hl, hc⟩ := ho.2 hn
  have hb := h.block g hl (hg _ hn e)
  exact ⟨g, e, hB, Nat.lt_of_lt_of_le hl h.size, fun j hj => ⟨(World.cell?_of_block hb).trans (hc j hj).1, by rw [← (hc j hj).2]; simp [World.frozen?, hb]⟩⟩⟩
end
end Qt
end Go.Proofs.Ytihnpfcjnfkfjaa
