/- What is known of a world while a law is walked, in one piece: blocks that are known whole, slices that read as lists, and that nothing old was written. No conditions. -/
import Derived.Test.YtadahjmncbpjaaaLayKeep
import Derived.Test.YtadahjmncbpjaaaInside
namespace Go.Proofs.Ytadahjmncbpjaaa
open Go.RowKit
namespace Qt
def Pkg (W : World) (bs : List (Nat × TypeId × Array Value)) (rs : List (Option Addr × Nat × List Int)) (w : World) : Prop :=
  (∀ b ∈ bs, Bk w b.1 b.2.1 b.2.2) ∧ (∀ r ∈ rs, RdI w r.1 r.2.1 r.2.2) ∧ Below W.heap.size W w
/-- .. and a block besides, that was laid behind all of these. -/
structure PkgZ (W : World) (bs : List (Nat × TypeId × Array Value)) (rs : List (Option Addr × Nat × List Int)) (g : Nat) (t : TypeId) (zs : Array Value) (w : World) : Prop where
  p : Pkg W bs rs w
  z : Bk w g t zs
  le : W.heap.size ≤ g
  nb : ∀ b ∈ bs, b.1 ≠ g
  nr : ∀ r ∈ rs, ∀ a, r.1 = some a → 0 < r.2.1 → a.block ≠ g
section
variable {W w w' : World} {bs : List (Nat × TypeId × Array Value)} {rs : List (Option Addr × Nat × List Int)} {g : Nat} {t : TypeId} {zs : Array Value}
theorem Pkg.bl (h : Hid (Pkg W bs rs w)) : Below W.heap.size W w := h.out.2.2
theorem Pkg.blk (h : Hid (Pkg W bs rs w)) (i : Nat) {b : Nat × TypeId × Array Value} (hi : bs[i]? = some b) : Bk w b.1 b.2.1 b.2.2 := h.out.1 b (List.mem_of_getElem? hi)
theorem Pkg.rd (h : Hid (Pkg W bs rs w)) (i : Nat) {r : Option Addr × Nat × List Int} (hi : rs[i]? = some r) : RdI w r.1 r.2.1 r.2.2 := h.out.2.1 r (List.mem_of_getElem? hi)
theorem Pkg.below (h : Hid (Pkg W bs rs w)) (bb : Below w.heap.size w w') : Hid (Pkg W bs rs w') :=
  Lib.hid ⟨fun b hb => (h.out.1 b hb).below bb, fun r hr => (h.out.2.1 r hr).of_below bb, h.out.2.2.trans (bb.mono h.out.2.2.size)⟩
theorem Pkg.drew (h : Hid (Pkg W bs rs w)) : Hid (Pkg W bs rs w.drew) := Pkg.below h (Below.refl _ w).drew
theorem Pkg.alloc (h : Hid (Pkg W bs rs w)) (o : Obj) : Hid (Pkg W bs rs (w.alloc o)) := Pkg.below h ((Below.refl _ w).alloc (Nat.le_refl _) o)
theorem Pkg.start (W : World) (rs : List (Option Addr × Nat × List Int)) (hr : ∀ r ∈ rs, RdI W r.1 r.2.1 r.2.2) : Hid (Pkg W [] rs W) := Lib.hid ⟨(fun _ h => by cases h), hr, Below.refl _ W⟩
/-- A block is laid. -/
theorem Pkg.laid (h : Hid (Pkg W bs rs w)) (t : TypeId) (cs : Array Value) : Hid (Pkg W ((w.heap.size, t, cs) :: bs) rs (w.alloc (.cells cs t))) :=
  Lib.hid ⟨fun b hb => by
    rcases List.mem_cons.1 hb with rfl | hb
    · exact Bk.new w t cs
    · exact (h.out.1 b hb).alloc _, (Pkg.alloc h _).out.2.1, (Pkg.alloc h (.cells cs t)).out.2.2⟩
theorem Pkg.reads (h : Hid (Pkg W bs rs w)) {A : Option Addr} {n : Nat} {xs : List Int} (hr : RdI w A n xs) : Hid (Pkg W bs ((A, n, xs) :: rs) w) :=
  Lib.hid ⟨h.out.1, fun r hr' => by
    rcases List.mem_cons.1 hr' with rfl | hr'
    · exact hr
    · exact h.out.2.1 r hr', h.out.2.2⟩
theorem Pkg.lay (h : Hid (Pkg W bs rs w)) (t : TypeId) (zs : Array Value) : Hid (PkgZ W bs rs w.heap.size t zs (w.alloc (.cells zs t))) :=
  Lib.hid ⟨(Pkg.alloc h _).out, Bk.new w t zs, h.out.2.2.size, fun b hb => Nat.ne_of_lt (h.out.1 b hb).lt, fun r hr a e hn => by
    obtain ⟨b, off, e', hlt, _⟩ := (h.out.2.1 r hr).2 hn
    rw [e] at e'; cases e'; exact Nat.ne_of_lt hlt⟩
theorem PkgZ.below (h : Hid (PkgZ W bs rs g t zs w)) (bb : Below w.heap.size w w') : Hid (PkgZ W bs rs g t zs w') :=
  Lib.hid ⟨(Pkg.below (Lib.hid h.out.p) bb).out, h.out.z.below bb, h.out.le, h.out.nb, h.out.nr⟩
theorem PkgZ.pkg (h : Hid (PkgZ W bs rs g t zs w)) : Hid (Pkg W bs rs w) := Lib.hid h.out.p
theorem RdI.apart {A : Option Addr} {n : Nat} {xs : List Int} (h : RdI w A n xs) {p : Addr} (hp : ∀ a, A = some a → 0 < n → a.block ≠ p.block) (u : Value) : RdI (w.setCell p u) A n xs :=
  ⟨h.1, fun hn => by
    obtain ⟨b, off, e, hlt, hc⟩ := h.2 hn
    exact ⟨b, off, e, by rw [World.size_setCell]; exact hlt, fun j hj => (World.cell?_setCell_other _ _ _ _ (fun e2 => hp _ e hn (by subst e2; rfl))).trans (hc j hj)⟩⟩
theorem PkgZ.set (h : Hid (PkgZ W bs rs g t zs w)) (i : Nat) (u : Value) : Hid (PkgZ W bs rs g t (zs.setIfInBounds i u) (w.setCell ⟨g, i, none⟩ u)) :=
  Lib.hid ⟨⟨fun b hb => (h.out.p.1 b hb).far (p := ⟨g, i, none⟩) (h.out.nb b hb) u, fun r hr => (h.out.p.2.1 r hr).apart (p := ⟨g, i, none⟩) (fun a e hn => h.out.nr r hr a e hn) u, h.out.p.2.2.setCell (p := ⟨g, i, none⟩) h.out.le u⟩, h.out.z.set i u, h.out.le, h.out.nb, h.out.nr⟩
theorem PkgZ.done (h : Hid (PkgZ W bs rs g t zs w)) : Hid (Pkg W ((g, t, zs) :: bs) rs w) :=
  Lib.hid ⟨fun b hb => by
    rcases List.mem_cons.1 hb with rfl | hb
    · exact h.out.z
    · exact h.out.p.1 b hb, h.out.p.2.1, h.out.p.2.2⟩
theorem PkgZ.done3 {a b c : Value} (h : Hid (PkgZ W bs rs g t #[a, b, c] w)) (x y z : Value) : Hid (Pkg W ((g, t, #[x, y, z]) :: bs) rs (((w.setCell ⟨g, 0, none⟩ x).setCell ⟨g, 1, none⟩ y).setCell ⟨g, 2, none⟩ z)) :=
  PkgZ.done (PkgZ.set (PkgZ.set (PkgZ.set h 0 x) 1 y) 2 z)
/-- The blocks and the slices by their places, said so that no reduction is wanted where they are used. -/
theorem Pkg.blk0 {g0 : Nat} {t0 : TypeId} {c0 : Array Value} (h : Hid (Pkg W ((g0, t0, c0) :: bs) rs w)) : Bk w g0 t0 c0 := h.out.1 _ (List.mem_cons_self ..)
theorem Pkg.tail {b : Nat × TypeId × Array Value} (h : Hid (Pkg W (b :: bs) rs w)) : Hid (Pkg W bs rs w) := Lib.hid ⟨fun b hb => h.out.1 b (List.mem_cons_of_mem _ hb), h.out.2.1, h.out.2.2⟩
theorem Pkg.blk1 {b : Nat × TypeId × Array Value} {g0 : Nat} {t0 : TypeId} {c0 : Array Value} (h : Hid (Pkg W (b :: (g0, t0, c0) :: bs) rs w)) : Bk w g0 t0 c0 := Pkg.blk0 (Pkg.tail h)
theorem Pkg.blk2 {b b' : Nat × TypeId × Array Value} {g0 : Nat} {t0 : TypeId} {c0 : Array Value} (h : Hid (Pkg W (b :: b' :: (g0, t0, c0) :: bs) rs w)) : Bk w g0 t0 c0 := Pkg.blk1 (Pkg.tail h)
theorem Pkg.blk3 {b b' b'' : Nat × TypeId × Array Value} {g0 : Nat} {t0 : TypeId} {c0 : Array Value} (h : Hid (Pkg W (b :: b' :: b'' :: (g0, t0, c0) :: bs) rs w)) : Bk w g0 t0 c0 := Pkg.blk2 (Pkg.tail h)
theorem Pkg.blk4 {b b' b'' b4 : Nat × TypeId × Array Value} {g0 : Nat} {t0 : TypeId} {c0 : Array Value} (h : Hid (Pkg W (b :: b' :: b'' :: b4 :: (g0, t0, c0) :: bs) rs w)) : Bk w g0 t0 c0 := Pkg.blk3 (Pkg.tail h)
theorem Pkg.rd0 {A : Option Addr} {n : Nat} {xs : List Int} (h : Hid (Pkg W bs ((A, n, xs) :: rs) w)) : RdI w A n xs := h.out.2.1 _ (List.mem_cons_self ..)
theorem Pkg.rtail {r : Option Addr × Nat × List Int} (h : Hid (Pkg W bs (r :: rs) w)) : Hid (Pkg W bs rs w) := Lib.hid ⟨h.out.1, fun r hr => h.out.2.1 r (List.mem_cons_of_mem _ hr), h.out.2.2⟩
theorem Pkg.rd1 {r : Option Addr × Nat × List Int} {A : Option Addr} {n : Nat} {xs : List Int} (h : Hid (Pkg W bs (r :: (A, n, xs) :: rs) w)) : RdI w A n xs := Pkg.rd0 (Pkg.rtail h)
theorem Pkg.rd2 {r r' : Option Addr × Nat × List Int} {A : Option Addr} {n : Nat} {xs : List Int} (h : Hid (Pkg W bs (r :: r' :: (A, n, xs) :: rs) w)) : RdI w A n xs := Pkg.rd1 (Pkg.rtail h)
theorem Pkg.rd3 {r r' r'' : Option Addr × Nat × List Int} {A : Option Addr} {n : Nat} {xs : List Int} (h : Hid (Pkg W bs (r :: r' :: r'' :: (A, n, xs) :: rs) w)) : RdI w A n xs := Pkg.rd2 (Pkg.rtail h)
theorem PkgZ.zf {a b c : Value} (h : Hid (PkgZ W bs rs g t #[a, b, c] w)) : w.cell? ⟨g, 0, none⟩ = some a ∧ w.cell? ⟨g, 1, none⟩ = some b ∧ w.cell? ⟨g, 2, none⟩ = some c ∧ w.frozen? ⟨g, 0, none⟩ = false ∧ w.frozen? ⟨g, 1, none⟩ = false ∧ w.frozen? ⟨g, 2, none⟩ = false :=
  ⟨h.out.z.cell 0 rfl, h.out.z.cell 1 rfl, h.out.z.cell 2 rfl, h.out.z.frozen 0, h.out.z.frozen 1, h.out.z.frozen 2⟩
end
end Qt
end Go.Proofs.Ytadahjmncbpjaaa
