/- What is known of a world while a function is walked, whatever it is, so long as calls that write nothing that was there keep it; and a block besides that was laid behind all of that. No conditions. -/
import Derived.Test.YtihnpfcjnfkfjaaBlk9
import Derived.Test.YtihnpfcjnfkfjaaTenOk
import Derived.Lib.QuietBelow
namespace Go.Proofs.Ytihnpfcjnfkfjaa
open Go.RowKit Go.Sort
namespace Qt
structure KJ (W : World) (J : World → Prop) (w : World) : Prop where
  st : ∀ w w', J w → Below w.heap.size w w' → J w'
  j : J w
  b : Below W.heap.size W w
/-- .. and a block besides, the first that was laid behind the world v. -/
structure KZ (W : World) (J : World → Prop) (v : World) (t : TypeId) (zs : Array Value) (w : World) : Prop where
  st : ∀ w w', J w → Below w.heap.size w w' → J w'
  j : J v
  b : Below W.heap.size W v
  n : Below v.heap.size v w
  z : Bk w v.heap.size t zs
/-- .. when that block is what it is to be. -/
structure KD (W : World) (J : World → Prop) (g : Nat) (t : TypeId) (zs : Array Value) (w : World) : Prop where
  k : KJ W J w
  z : Bk w g t zs
  le : W.heap.size ≤ g
section
variable {W v w w' : World} {J : World → Prop} {t : TypeId} {zs : Array Value} {g : Nat}
theorem KJ.below (h : Hid (KJ W J w)) (bb : Below w.heap.size w w') : Hid (KJ W J w') := Lib.hid ⟨h.out.st, h.out.st _ _ h.out.j bb, h.out.b.trans (bb.mono h.out.b.size)⟩
theorem KJ.drew (h : Hid (KJ W J w)) : Hid (KJ W J w.drew) := KJ.below h (Below.refl _ w).drew
theorem KJ.alloc (h : Hid (KJ W J w)) (o : Obj) : Hid (KJ W J (w.alloc o)) := KJ.below h ((Below.refl _ w).alloc (Nat.le_refl _) o)
theorem KJ.regrown (h : Hid (KJ W J w)) (d : Nat) (os : Array Obj) : Hid (KJ W J (grow (redrawn w d) os)) := KJ.below h (below_regrown w d os)
theorem KJ.lay (h : Hid (KJ W J w)) (t : TypeId) (zs : Array Value) : Hid (KZ W J w t zs (w.alloc (.cells zs t))) := Lib.hid ⟨h.out.st, h.out.j, h.out.b, (Below.refl _ w).alloc (Nat.le_refl _) _, Bk.new w t zs⟩
theorem KJ.laid (h : Hid (KJ W J w)) (t : TypeId) (zs : Array Value) : Hid (KD W J w.heap.size t zs (w.alloc (.cells zs t))) := Lib.hid ⟨(KJ.alloc h _).out, Bk.new w t zs, h.out.b.size⟩
theorem KZ.below (h : Hid (KZ W J v t zs w)) (bb : Below w.heap.size w w') : Hid (KZ W J v t zs w') := Lib.hid ⟨h.out.st, h.out.j, h.out.b, h.out.n.trans (bb.mono h.out.n.size), h.out.z.below bb⟩
theorem KZ.kj (h : Hid (KZ W J v t zs w)) : Hid (KJ W J w) := Lib.hid ⟨h.out.st, h.out.st _ _ h.out.j h.out.n, h.out.b.trans (h.out.n.mono h.out.b.size)⟩
theorem KZ.set (h : Hid (KZ W J v t zs w)) (i : Nat) (u : Value) : Hid (KZ W J v t (zs.setIfInBounds i u) (w.setCell ⟨v.heap.size, i, none⟩ u)) := Lib.hid ⟨h.out.st, h.out.j, h.out.b, h.out.n.setCell (Nat.le_refl _) u, h.out.z.set i u⟩
theorem KZ.done (h : Hid (KZ W J v t zs w)) : Hid (KD W J v.heap.size t zs w) := Lib.hid ⟨(KZ.kj h).out, h.out.z, h.out.b.size⟩
theorem KZ.done3 {a b c : Value} (h : Hid (KZ W J v t #[a, b, c] w)) (x y z : Value) : Hid (KD W J v.heap.size t #[x, y, z] (((w.setCell ⟨v.heap.size, 0, none⟩ x).setCell ⟨v.heap.size, 1, none⟩ y).setCell ⟨v.heap.size, 2, none⟩ z)) :=
  KZ.done (KZ.set (KZ.set (KZ.set h 0 x) 1 y) 2 z)
theorem KZ.kj3 {a b c : Value} (h : Hid (KZ W J v t #[a, b, c] w)) (x y z : Value) : Hid (KJ W J (((w.setCell ⟨v.heap.size, 0, none⟩ x).setCell ⟨v.heap.size, 1, none⟩ y).setCell ⟨v.heap.size, 2, none⟩ z)) :=
  KZ.kj (KZ.set (KZ.set (KZ.set h 0 x) 1 y) 2 z)
theorem KZ.zf {a b c : Value} (h : Hid (KZ W J v t #[a, b, c] w)) : w.cell? ⟨v.heap.size, 0, none⟩ = some a ∧ w.cell? ⟨v.heap.size, 1, none⟩ = some b ∧ w.cell? ⟨v.heap.size, 2, none⟩ = some c ∧ w.frozen? ⟨v.heap.size, 0, none⟩ = false ∧ w.frozen? ⟨v.heap.size, 1, none⟩ = false ∧ w.frozen? ⟨v.heap.size, 2, none⟩ = false :=
  ⟨h.out.z.cell 0 rfl, h.out.z.cell 1 rfl, h.out.z.cell 2 rfl, h.out.z.frozen 0, h.out.z.frozen 1, h.out.z.frozen 2⟩
theorem ownsRow_below {w w' : World} {base : Nat} {e : TypeId} {size : Nat} {V : Value} {n : Nat} {xs : List Value} (h : w.ownsRow base e size V n xs) (hb : Below w.heap.size w w') : w'.ownsRow base e size V n xs := by
  refine ⟨h.1, ?_⟩
  rcases h.2 with hn | ⟨g, cap, cur, rfl, hB, hg, rest⟩
  · exact .inl hn
  · exact .inr ⟨g, cap, cur, rfl, hB, (hb.block g (Array.getElem?_eq_some_iff.1 hg).1).trans hg, rest⟩
theorem ownsRow_base {w : World} {base b' : Nat} {e : TypeId} {size : Nat} {V : Value} {n : Nat} {xs : List Value} (h : w.ownsRow base e size V n xs) (hb : b' ≤ base) : w.ownsRow b' e size V n xs := by
  refine ⟨h.1, ?_⟩
  rcases h.2 with hn | ⟨g, cap, cur, rfl, hB, rest⟩
  · exact .inl hn
  · exact .inr ⟨g, cap, cur, rfl, by omega, rest⟩
theorem Bk.grown {w w' : World} {g : Nat} {t : TypeId} {cs : Array Value} {row : Option Nat} (h : Bk w g t cs) (hg : w.grownBy w' row) (hne : some g ≠ row) : Bk w' g t cs := (hg.block g h.lt hne).trans h
theorem ownsRow_some {w : World} {base : Nat} {e : TypeId} {size : Nat} {V : Value} {n : Nat} {xs : List Value} (h : w.ownsRow base e size V n xs) (hn : 0 < n) : ∃ g cap, V = .slice (some ⟨g, 0, none⟩) n cap ∧ base ≤ g ∧ g < w.heap.size := by
  rcases h.2 with ⟨_, h0⟩ | ⟨g, cap, cur, rfl, hB, hg, _⟩
  · omega
  · exact ⟨g, cap, rfl, hB, (Array.getElem?_eq_some_iff.1 hg).1⟩
end
end Qt
end Go.Proofs.Ytihnpfcjnfkfjaa
