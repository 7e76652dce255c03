/- What is known of a world while a law is walked, in one piece: blocks that are known whole, slices that read as lists, and that nothing old was written. No conditions. -/
import Derived.Test.YtbmchpoffceehaaQBaseA
import Derived.Test.YtbmchpoffceehaaQBaseC
import Derived.Test.YtbmchpoffceehaaQOutI
import Derived.Deep.DeepCutAuto
import Derived.Lib.QuietBelow
import Derived.Laws.EntriesVeiled
import Derived.Test.YtbmchpoffceehaaQBaseD
import Derived.Deep.LoopGhost
import Derived.Test.YtbmchpoffceehaaQBaseB
import Derived.Deep.AppendLies
import Derived.Test.YtbmchpoffceehaaQSumUp
import Derived.Outline
import Derived.BigQuiet
namespace Go.Proofs.Ytbmchpoffceehaa
open Go.RowKit
namespace Qt
def Pkg (W : World) (bs : List (Nat × TypeId × Array Value)) (rs : List (Option Addr × Nat × List Int)) (w : World) : Prop :=
  (∀ b ∈ bs, Bk w b.1 b.2.1 b.2.2) ∧ (∀ r ∈ rs, RdI w r.1 r.2.1 r.2.2) ∧ Below W.heap.size W w
/-- .. and a block besides, that was laid behind all of these. -/
structure PkgZ (W : World) (bs : List (Nat × TypeId × Array Value)) (rs : List (Option Addr × Nat × List Int)) (g : Nat) (t : TypeId) (zs : Array Value) (w : World) : Prop where
  p : Pkg W bs rs w
  z : Bk w g t zs
  le : W.heap.size ≤ g
  nb : ∀ b ∈ bs, b.1 ≠ g
  nr : ∀ r ∈ rs, ∀ a, r.1 = some a → 0 < r.2.1 → a.block ≠ g
section
variable {W w w' : World} {bs : List (Nat × TypeId × Array Value)} {rs : List (Option Addr × Nat × List Int)} {g : Nat} {t : TypeId} {zs : Array Value}
theorem Pkg.bl (h : Hid (Pkg W bs rs w)) : Below W.heap.size W w := h.out.2.2
theorem Pkg.blk (h : Hid (Pkg W bs rs w)) (i : Nat) {b : Nat × TypeId × Array Value} (hi : bs[i]? = some b) : Bk w b.1 b.2.1 b.2.2 := h.out.1 b (List.mem_of_getElem? hi)
theorem Pkg.rd (h : Hid (Pkg W bs rs w)) (i : Nat) {r : Option Addr × Nat × List Int} (hi : rs[i]? = some r) : RdI w r.1 r.2.1 r.2.2 := h.out.2.1 r (List.mem_of_getElem? hi)
theorem Pkg.below (h : Hid (Pkg W bs rs w)) (bb : Below w.heap.size w w') : Hid (Pkg W bs rs w') :=
  Lib.hid ⟨fun b hb => (h.out.1 b hb).below bb, fun r hr => (h.out.2.1 r hr).of_below bb, h.out.2.2.trans (bb.mono h.out.2.2.size)⟩
theorem Pkg.drew (h : Hid (Pkg W bs rs w)) : Hid (Pkg W bs rs w.drew) := Pkg.below h (Below.refl _ w).drew
theorem Pkg.alloc (h : Hid (Pkg W bs rs w)) (o : Obj) : Hid (Pkg W bs rs (w.alloc o)) := Pkg.below h ((Below.refl _ w).alloc (Nat.le_refl _) o)
theorem Pkg.start (W : World) (rs : List (Option Addr × Nat × List Int)) (hr : ∀ r ∈ rs, RdI W r.1 r.2.1 r.2.2) : Hid (Pkg W [] rs W) := Lib.hid ⟨(fun _ h => by cases h), hr, Below.refl _ W⟩
/-- A block is laid. -/
theorem Pkg.laid (h : Hid (Pkg W bs rs w)) (t : TypeId) (cs : Array Value) : Hid (Pkg W ((w.heap.size, t, cs) :: bs) rs (w.alloc (.cells cs t))) :=
  Lib.hid ⟨fun b hb => by
    rcases List.mem_cons.1 hb with rfl | hb
    · exact Bk.new w t cs
    · exact (h.out.1 b hb).alloc _, (Pkg.alloc h _).out.2.1, (Pkg.alloc h (.cells cs t)).out.2.2⟩
theorem Pkg.reads (h : Hid (Pkg W bs rs w)) {A : Option Addr} {n : Nat} {xs : List Int} (hr : RdI w A n xs) : Hid (Pkg W bs ((A, n, xs) :: rs) w) :=
  Lib.hid ⟨h.out.1, fun r hr' => by
    rcases List.mem_cons.1 hr' with rfl | hr'
    · exact hr
    · exact h.out.2.1 r hr', h.out.2.2⟩
theorem Pkg.lay (h : Hid (Pkg W bs rs w)) (t : TypeId) (zs : Array Value) : Hid (PkgZ W bs rs w.heap.size t zs (w.alloc (.cells zs t))) :=
  Lib.hid ⟨(Pkg.alloc h _).out, Bk.new w t zs, h.out.2.2.size, fun b hb => Nat.ne_of_lt (h.out.1 b hb).lt, fun r hr a e hn => by
    obtain ⟨b, off, e', hlt, _⟩ := (h.out.2.1 r hr).2 hn
    rw [e] at e'; cases e'; exact Nat.ne_of_lt hlt⟩
theorem PkgZ.below (h : Hid (PkgZ W bs rs g t zs w)) (bb : Below w.heap.size w w') : Hid (PkgZ W bs rs g t zs w') :=
  Lib.hid ⟨(Pkg.below (Lib.hid h.out.p) bb).out, h.out.z.below bb, h.out.le, h.out.nb, h.out.nr⟩
theorem PkgZ.pkg (h : Hid (PkgZ W bs rs g t zs w)) : Hid (Pkg W bs rs w) := Lib.hid h.out.p
theorem RdI.apart {A : Option Addr} {n : Nat} {xs : List Int} (h : RdI w A n xs) {p : Addr} (hp : ∀ a, A = some a → 0 < n → a.block ≠ p.block) (u : Value) : RdI (w.setCell p u) A n xs :=
  ⟨h.1, fun hn => by
    obtain ⟨b, off, e, hlt, hc⟩ := h.2 hn
    exact ⟨b, off, e, by rw [World.size_setCell]; exact hlt, fun j hj => (World.cell?_setCell_other _ _ _ _ (fun e2 => hp _ e hn (by subst e2; rfl))).trans (hc j hj)⟩⟩
theorem PkgZ.set (h : Hid (PkgZ W bs rs g t zs w)) (i : Nat) (u : Value) : Hid (PkgZ W bs rs g t (zs.setIfInBounds i u) (w.setCell ⟨g, i, none⟩ u)) :=
  Lib.hid ⟨⟨fun b hb => (h.out.p.1 b hb).far (p := ⟨g, i, none⟩) (h.out.nb b hb) u, fun r hr => (h.out.p.2.1 r hr).apart (p := ⟨g, i, none⟩) (fun a e hn => h.out.nr r hr a e hn) u, h.out.p.2.2.setCell (p := ⟨g, i, none⟩) h.out.le u⟩, h.out.z.set i u, h.out.le, h.out.nb, h.out.nr⟩
theorem PkgZ.done (h : Hid (PkgZ W bs rs g t zs w)) : Hid (Pkg W ((g, t, zs) :: bs) rs w) :=
  Lib.hid ⟨fun b hb => by
    rcases List.mem_cons.1 hb with rfl | hb
    · exact h.out.z
    · exact h.out.p.1 b hb, h.out.p.2.1, h.out.p.2.2⟩
theorem PkgZ.done3 {a b c : Value} (h : Hid (PkgZ W bs rs g t #[a, b, c] w)) (x y z : Value) : Hid (Pkg W ((g, t, #[x, y, z]) :: bs) rs (((w.setCell ⟨g, 0, none⟩ x).setCell ⟨g, 1, none⟩ y).setCell ⟨g, 2, none⟩ z)) :=
  PkgZ.done (PkgZ.set (PkgZ.set (PkgZ.set h 0 x) 1 y) 2 z)
/-- The blocks and the slices by their places, said so that no reduction is wanted where they are used. -/
theorem Pkg.blk0 {g0 : Nat} {t0 : TypeId} {c0 : Array Value} (h : Hid (Pkg W ((g0, t0, c0) :: bs) rs w)) : Bk w g0 t0 c0 := h.out.1 _ (List.mem_cons_self ..)
theorem Pkg.tail {b : Nat × TypeId × Array Value} (h : Hid (Pkg W (b :: bs) rs w)) : Hid (Pkg W bs rs w) := Lib.hid ⟨fun b hb => h.out.1 b (List.mem_cons_of_mem _ hb), h.out.2.1, h.out.2.2⟩
theorem Pkg.blk1 {b : Nat × TypeId × Array Value} {g0 : Nat} {t0 : TypeId} {c0 : Array Value} (h : Hid (Pkg W (b :: (g0, t0, c0) :: bs) rs w)) : Bk w g0 t0 c0 := Pkg.blk0 (Pkg.tail h)
theorem Pkg.blk2 {b b' : Nat × TypeId × Array Value} {g0 : Nat} {t0 : TypeId} {c0 : Array Value} (h : Hid (Pkg W (b :: b' :: (g0, t0, c0) :: bs) rs w)) : Bk w g0 t0 c0 := Pkg.blk1 (Pkg.tail h)
theorem Pkg.blk3 {b b' b'' : Nat × TypeId × Array Value} {g0 : Nat} {t0 : TypeId} {c0 : Array Value} (h : Hid (Pkg W (b :: b' :: b'' :: (g0, t0, c0) :: bs) rs w)) : Bk w g0 t0 c0 := Pkg.blk2 (Pkg.tail h)
theorem Pkg.blk4 {b b' b'' b4 : Nat × TypeId × Array Value} {g0 : Nat} {t0 : TypeId} {c0 : Array Value} (h : Hid (Pkg W (b :: b' :: b'' :: b4 :: (g0, t0, c0) :: bs) rs w)) : Bk w g0 t0 c0 := Pkg.blk3 (Pkg.tail h)
theorem Pkg.rd0 {A : Option Addr} {n : Nat} {xs : List Int} (h : Hid (Pkg W bs ((A, n, xs) :: rs) w)) : RdI w A n xs := h.out.2.1 _ (List.mem_cons_self ..)
theorem Pkg.rtail {r : Option Addr × Nat × List Int} (h : Hid (Pkg W bs (r :: rs) w)) : Hid (Pkg W bs rs w) := Lib.hid ⟨h.out.1, fun r hr => h.out.2.1 r (List.mem_cons_of_mem _ hr), h.out.2.2⟩
theorem Pkg.rd1 {r : Option Addr × Nat × List Int} {A : Option Addr} {n : Nat} {xs : List Int} (h : Hid (Pkg W bs (r :: (A, n, xs) :: rs) w)) : RdI w A n xs := Pkg.rd0 (Pkg.rtail h)
theorem Pkg.rd2 {r r' : Option Addr × Nat × List Int} {A : Option Addr} {n : Nat} {xs : List Int} (h : Hid (Pkg W bs (r :: r' :: (A, n, xs) :: rs) w)) : RdI w A n xs := Pkg.rd1 (Pkg.rtail h)
theorem Pkg.rd3 {r r' r'' : Option Addr × Nat × List Int} {A : Option Addr} {n : Nat} {xs : List Int} (h : Hid (Pkg W bs (r :: r' :: r'' :: (A, n, xs) :: rs) w)) : RdI w A n xs := Pkg.rd2 (Pkg.rtail h)
theorem PkgZ.zf {a b c : Value} (h : Hid (PkgZ W bs rs g t #[a, b, c] w)) : w.cell? ⟨g, 0, none⟩ = some a ∧ w.cell? ⟨g, 1, none⟩ = some b ∧ w.cell? ⟨g, 2, none⟩ = some c ∧ w.frozen? ⟨g, 0, none⟩ = false ∧ w.frozen? ⟨g, 1, none⟩ = false ∧ w.frozen? ⟨g, 2, none⟩ = false :=
  ⟨h.out.z.cell 0 rfl, h.out.z.cell 1 rfl, h.out.z.cell 2 rfl, h.out.z.frozen 0, h.out.z.frozen 1, h.out.z.frozen 2⟩
end
end Qt
end Go.Proofs.Ytbmchpoffceehaa

namespace Go.Proofs.Ytbmchpoffceehaa
open Go.RowKit Go.Sort
namespace Qt
theorem as_dd (v : Value) (w : World) : (Instr.typeAssert (.iface 162 v) 146 162 true).run Try.prog w = .ok (.tuple #[v, .bool true]) w := by kernel_rfl
theorem as_cd (v : Value) (w : World) : (Instr.typeAssert (.iface 166 v) 146 162 true).run Try.prog w = .ok (.tuple #[.agg #[.int .i64 0, .int .i64 0, .int .i64 0, .int .i64 0, .slice none 0 0, .slice none 0 0], .bool false]) w := by kernel_rfl
theorem as_pd (v : Value) (w : World) : (Instr.typeAssert (.iface 168 v) 146 162 true).run Try.prog w = .ok (.tuple #[.agg #[.int .i64 0, .int .i64 0, .int .i64 0, .int .i64 0, .slice none 0 0, .slice none 0 0], .bool false]) w := by kernel_rfl
theorem as_rd (v : Value) (w : World) : (Instr.typeAssert (.iface 170 v) 146 162 true).run Try.prog w = .ok (.tuple #[.agg #[.int .i64 0, .int .i64 0, .int .i64 0, .int .i64 0, .slice none 0 0, .slice none 0 0], .bool false]) w := by kernel_rfl
theorem as_fd (v : Value) (w : World) : (Instr.typeAssert (.iface 172 v) 146 162 true).run Try.prog w = .ok (.tuple #[.agg #[.int .i64 0, .int .i64 0, .int .i64 0, .int .i64 0, .slice none 0 0, .slice none 0 0], .bool false]) w := by kernel_rfl
theorem as_cc (v : Value) (w : World) : (Instr.typeAssert (.iface 166 v) 146 166 true).run Try.prog w = .ok (.tuple #[v, .bool true]) w := by kernel_rfl
theorem as_pc (v : Value) (w : World) : (Instr.typeAssert (.iface 168 v) 146 166 true).run Try.prog w = .ok (.tuple #[.agg #[.int .i64 0, .int .i64 0, .int .i64 0, .int .i64 0, .slice none 0 0, .slice none 0 0, .int .i64 0, .int .i64 0], .bool false]) w := by kernel_rfl
theorem as_rc (v : Value) (w : World) : (Instr.typeAssert (.iface 170 v) 146 166 true).run Try.prog w = .ok (.tuple #[.agg #[.int .i64 0, .int .i64 0, .int .i64 0, .int .i64 0, .slice none 0 0, .slice none 0 0, .int .i64 0, .int .i64 0], .bool false]) w := by kernel_rfl
theorem as_fc (v : Value) (w : World) : (Instr.typeAssert (.iface 172 v) 146 166 true).run Try.prog w = .ok (.tuple #[.agg #[.int .i64 0, .int .i64 0, .int .i64 0, .int .i64 0, .slice none 0 0, .slice none 0 0, .int .i64 0, .int .i64 0], .bool false]) w := by kernel_rfl
theorem as_pp (v : Value) (w : World) : (Instr.typeAssert (.iface 168 v) 146 168 true).run Try.prog w = .ok (.tuple #[v, .bool true]) w := by kernel_rfl
theorem as_rp (v : Value) (w : World) : (Instr.typeAssert (.iface 170 v) 146 168 true).run Try.prog w = .ok (.tuple #[.agg #[.int .i64 0, .int .i64 0, .nilFunc], .bool false]) w := by kernel_rfl
theorem as_fp (v : Value) (w : World) : (Instr.typeAssert (.iface 172 v) 146 168 true).run Try.prog w = .ok (.tuple #[.agg #[.int .i64 0, .int .i64 0, .nilFunc], .bool false]) w := by kernel_rfl
end Qt
end Go.Proofs.Ytbmchpoffceehaa

namespace Go.Proofs.Ytbmchpoffceehaa
open Go.RowKit Go.Sort
set_option linter.unusedSimpArgs false
set_option linter.unusedVariables false
namespace Qt
theorem Pkg.cA {W w : World} {g0 g1 : Nat} {t0 t1 : TypeId} {x0_0 x0_1 x0_2 x0_3 x0_4 x0_5 x0_6 x0_7 x0_8 x1_0 x1_1 x1_2 : Value} {bs : List (Nat × TypeId × Array Value)} {rs : List (Option Addr × Nat × List Int)} (h : Hid (Pkg W ((g0, t0, #[x0_0, x0_1, x0_2, x0_3, x0_4, x0_5, x0_6, x0_7, x0_8]) :: (g1, t1, #[x1_0, x1_1, x1_2]) :: bs) rs w)) : w.cell? ⟨g0, 0, none⟩ = some x0_0 ∧ w.cell? ⟨g0, 1, none⟩ = some x0_1 ∧ w.cell? ⟨g0, 2, none⟩ = some x0_2 ∧ w.cell? ⟨g0, 3, none⟩ = some x0_3 ∧ w.cell? ⟨g0, 4, none⟩ = some x0_4 ∧ w.cell? ⟨g0, 5, none⟩ = some x0_5 ∧ w.cell? ⟨g0, 6, none⟩ = some x0_6 ∧ w.cell? ⟨g0, 7, none⟩ = some x0_7 ∧ w.cell? ⟨g0, 8, none⟩ = some x0_8 ∧ w.cell? ⟨g1, 0, none⟩ = some x1_0 ∧ w.cell? ⟨g1, 1, none⟩ = some x1_1 ∧ w.cell? ⟨g1, 2, none⟩ = some x1_2 :=
  ⟨(Pkg.blk0 h).cell 0 rfl, (Pkg.blk0 h).cell 1 rfl, (Pkg.blk0 h).cell 2 rfl, (Pkg.blk0 h).cell 3 rfl, (Pkg.blk0 h).cell 4 rfl, (Pkg.blk0 h).cell 5 rfl, (Pkg.blk0 h).cell 6 rfl, (Pkg.blk0 h).cell 7 rfl, (Pkg.blk0 h).cell 8 rfl, (Pkg.blk1 h).cell 0 rfl, (Pkg.blk1 h).cell 1 rfl, (Pkg.blk1 h).cell 2 rfl⟩
theorem Pkg.cA1 {W w : World} {g1 g2 : Nat} {t1 t2 : TypeId} {x1_0 x1_1 x1_2 x1_3 x1_4 x1_5 x1_6 x1_7 x1_8 x2_0 x2_1 x2_2 : Value} {b0 : Nat × TypeId × Array Value} {bs : List (Nat × TypeId × Array Value)} {rs : List (Option Addr × Nat × List Int)} (h : Hid (Pkg W (b0 :: (g1, t1, #[x1_0, x1_1, x1_2, x1_3, x1_4, x1_5, x1_6, x1_7, x1_8]) :: (g2, t2, #[x2_0, x2_1, x2_2]) :: bs) rs w)) : w.cell? ⟨g1, 0, none⟩ = some x1_0 ∧ w.cell? ⟨g1, 1, none⟩ = some x1_1 ∧ w.cell? ⟨g1, 2, none⟩ = some x1_2 ∧ w.cell? ⟨g1, 3, none⟩ = some x1_3 ∧ w.cell? ⟨g1, 4, none⟩ = some x1_4 ∧ w.cell? ⟨g1, 5, none⟩ = some x1_5 ∧ w.cell? ⟨g1, 6, none⟩ = some x1_6 ∧ w.cell? ⟨g1, 7, none⟩ = some x1_7 ∧ w.cell? ⟨g1, 8, none⟩ = some x1_8 ∧ w.cell? ⟨g2, 0, none⟩ = some x2_0 ∧ w.cell? ⟨g2, 1, none⟩ = some x2_1 ∧ w.cell? ⟨g2, 2, none⟩ = some x2_2 :=
  ⟨(Pkg.blk1 h).cell 0 rfl, (Pkg.blk1 h).cell 1 rfl, (Pkg.blk1 h).cell 2 rfl, (Pkg.blk1 h).cell 3 rfl, (Pkg.blk1 h).cell 4 rfl, (Pkg.blk1 h).cell 5 rfl, (Pkg.blk1 h).cell 6 rfl, (Pkg.blk1 h).cell 7 rfl, (Pkg.blk1 h).cell 8 rfl, (Pkg.blk2 h).cell 0 rfl, (Pkg.blk2 h).cell 1 rfl, (Pkg.blk2 h).cell 2 rfl⟩
theorem Pkg.cC {W w : World} {g1 g3 : Nat} {t1 t3 : TypeId} {x1_0 x1_1 x1_2 x1_3 x1_4 x1_5 x1_6 x1_7 x1_8 x3_0 x3_1 x3_2 x3_3 x3_4 x3_5 x3_6 x3_7 x3_8 : Value} {b0 b2 : Nat × TypeId × Array Value} {bs : List (Nat × TypeId × Array Value)} {rs : List (Option Addr × Nat × List Int)} (h : Hid (Pkg W (b0 :: (g1, t1, #[x1_0, x1_1, x1_2, x1_3, x1_4, x1_5, x1_6, x1_7, x1_8]) :: b2 :: (g3, t3, #[x3_0, x3_1, x3_2, x3_3, x3_4, x3_5, x3_6, x3_7, x3_8]) :: bs) rs w)) : w.cell? ⟨g1, 0, none⟩ = some x1_0 ∧ w.cell? ⟨g1, 1, none⟩ = some x1_1 ∧ w.cell? ⟨g1, 2, none⟩ = some x1_2 ∧ w.cell? ⟨g1, 3, none⟩ = some x1_3 ∧ w.cell? ⟨g1, 4, none⟩ = some x1_4 ∧ w.cell? ⟨g1, 5, none⟩ = some x1_5 ∧ w.cell? ⟨g1, 6, none⟩ = some x1_6 ∧ w.cell? ⟨g1, 7, none⟩ = some x1_7 ∧ w.cell? ⟨g1, 8, none⟩ = some x1_8 ∧ w.cell? ⟨g3, 0, none⟩ = some x3_0 ∧ w.cell? ⟨g3, 1, none⟩ = some x3_1 ∧ w.cell? ⟨g3, 2, none⟩ = some x3_2 ∧ w.cell? ⟨g3, 3, none⟩ = some x3_3 ∧ w.cell? ⟨g3, 4, none⟩ = some x3_4 ∧ w.cell? ⟨g3, 5, none⟩ = some x3_5 ∧ w.cell? ⟨g3, 6, none⟩ = some x3_6 ∧ w.cell? ⟨g3, 7, none⟩ = some x3_7 ∧ w.cell? ⟨g3, 8, none⟩ = some x3_8 :=
  ⟨(Pkg.blk1 h).cell 0 rfl, (Pkg.blk1 h).cell 1 rfl, (Pkg.blk1 h).cell 2 rfl, (Pkg.blk1 h).cell 3 rfl, (Pkg.blk1 h).cell 4 rfl, (Pkg.blk1 h).cell 5 rfl, (Pkg.blk1 h).cell 6 rfl, (Pkg.blk1 h).cell 7 rfl, (Pkg.blk1 h).cell 8 rfl, (Pkg.blk3 h).cell 0 rfl, (Pkg.blk3 h).cell 1 rfl, (Pkg.blk3 h).cell 2 rfl, (Pkg.blk3 h).cell 3 rfl, (Pkg.blk3 h).cell 4 rfl, (Pkg.blk3 h).cell 5 rfl, (Pkg.blk3 h).cell 6 rfl, (Pkg.blk3 h).cell 7 rfl, (Pkg.blk3 h).cell 8 rfl⟩
theorem Pkg.cB {W w : World} {g0 g3 : Nat} {t0 t3 : TypeId} {x0_0 x0_1 x0_2 x0_3 x0_4 x0_5 x0_6 x0_7 x0_8 x3_0 x3_1 x3_2 : Value} {b1 b2 : Nat × TypeId × Array Value} {bs : List (Nat × TypeId × Array Value)} {rs : List (Option Addr × Nat × List Int)} (h : Hid (Pkg W ((g0, t0, #[x0_0, x0_1, x0_2, x0_3, x0_4, x0_5, x0_6, x0_7, x0_8]) :: b1 :: b2 :: (g3, t3, #[x3_0, x3_1, x3_2]) :: bs) rs w)) : w.cell? ⟨g0, 0, none⟩ = some x0_0 ∧ w.cell? ⟨g0, 1, none⟩ = some x0_1 ∧ w.cell? ⟨g0, 2, none⟩ = some x0_2 ∧ w.cell? ⟨g0, 3, none⟩ = some x0_3 ∧ w.cell? ⟨g0, 4, none⟩ = some x0_4 ∧ w.cell? ⟨g0, 5, none⟩ = some x0_5 ∧ w.cell? ⟨g0, 6, none⟩ = some x0_6 ∧ w.cell? ⟨g0, 7, none⟩ = some x0_7 ∧ w.cell? ⟨g0, 8, none⟩ = some x0_8 ∧ w.cell? ⟨g3, 0, none⟩ = some x3_0 ∧ w.cell? ⟨g3, 1, none⟩ = some x3_1 ∧ w.cell? ⟨g3, 2, none⟩ = some x3_2 :=
  ⟨(Pkg.blk0 h).cell 0 rfl, (Pkg.blk0 h).cell 1 rfl, (Pkg.blk0 h).cell 2 rfl, (Pkg.blk0 h).cell 3 rfl, (Pkg.blk0 h).cell 4 rfl, (Pkg.blk0 h).cell 5 rfl, (Pkg.blk0 h).cell 6 rfl, (Pkg.blk0 h).cell 7 rfl, (Pkg.blk0 h).cell 8 rfl, (Pkg.blk3 h).cell 0 rfl, (Pkg.blk3 h).cell 1 rfl, (Pkg.blk3 h).cell 2 rfl⟩
theorem Pkg.cB1 {W w : World} {g1 g4 : Nat} {t1 t4 : TypeId} {x1_0 x1_1 x1_2 x1_3 x1_4 x1_5 x1_6 x1_7 x1_8 x4_0 x4_1 x4_2 : Value} {b0 b2 b3 : Nat × TypeId × Array Value} {bs : List (Nat × TypeId × Array Value)} {rs : List (Option Addr × Nat × List Int)} (h : Hid (Pkg W (b0 :: (g1, t1, #[x1_0, x1_1, x1_2, x1_3, x1_4, x1_5, x1_6, x1_7, x1_8]) :: b2 :: b3 :: (g4, t4, #[x4_0, x4_1, x4_2]) :: bs) rs w)) : w.cell? ⟨g1, 0, none⟩ = some x1_0 ∧ w.cell? ⟨g1, 1, none⟩ = some x1_1 ∧ w.cell? ⟨g1, 2, none⟩ = some x1_2 ∧ w.cell? ⟨g1, 3, none⟩ = some x1_3 ∧ w.cell? ⟨g1, 4, none⟩ = some x1_4 ∧ w.cell? ⟨g1, 5, none⟩ = some x1_5 ∧ w.cell? ⟨g1, 6, none⟩ = some x1_6 ∧ w.cell? ⟨g1, 7, none⟩ = some x1_7 ∧ w.cell? ⟨g1, 8, none⟩ = some x1_8 ∧ w.cell? ⟨g4, 0, none⟩ = some x4_0 ∧ w.cell? ⟨g4, 1, none⟩ = some x4_1 ∧ w.cell? ⟨g4, 2, none⟩ = some x4_2 :=
  ⟨(Pkg.blk1 h).cell 0 rfl, (Pkg.blk1 h).cell 1 rfl, (Pkg.blk1 h).cell 2 rfl, (Pkg.blk1 h).cell 3 rfl, (Pkg.blk1 h).cell 4 rfl, (Pkg.blk1 h).cell 5 rfl, (Pkg.blk1 h).cell 6 rfl, (Pkg.blk1 h).cell 7 rfl, (Pkg.blk1 h).cell 8 rfl, (Pkg.blk4 h).cell 0 rfl, (Pkg.blk4 h).cell 1 rfl, (Pkg.blk4 h).cell 2 rfl⟩
theorem outSx (h w c k o s t m f z : Int) (A : Option Addr) (n p : Nat) (xs : List Int) (B : Option Addr) (q r : Nat) (ys : List Int) (W : World) (x y v : Int) (ok : Bool) (hO : outV (outL h w c k o s t m f z xs ys) = .tuple #[.agg #[.int .i64 x, .int .i64 y, .int .i64 v], .bool ok]) (hr : RdI W A n xs) (hr2 : RdI W B q ys) (hn : n ≤ 1048576) (hq : q ≤ 1048576) :
    Calls Try.prog 83 #[.agg #[.int .i64 h, .int .i64 w, .int .i64 c], .agg #[.int .i64 k, .int .i64 o, .int .i64 s, .int .i64 t, .int .i64 m, .int .i64 f, .int .i64 z, .slice A n p, .slice B q r]] W fun e W' => e = .returned (.tuple #[.agg #[.int .i64 x, .int .i64 y, .int .i64 v], .bool ok]) ∧ Below W.heap.size W W' := by
  have := outSS h w c k o s t m f z A n p xs B q r ys W hr hr2 hn hq
  rw [hO] at this
  exact this
theorem outIx (h w c k o s t m f z : Int) (A : Option Addr) (n p : Nat) (xs : List Int) (B : Option Addr) (q r : Nat) (ys : List Int) (W : World) (x y v : Int) (ok : Bool) (hO : outV (outL h w c k o s t m f z xs ys) = .tuple #[.agg #[.int .i64 x, .int .i64 y, .int .i64 v], .bool ok]) (hr : RdI W A n xs) (hr2 : RdI W B q ys) (hn : n ≤ 1048576) (hq : q ≤ 1048576) :
    Calls Try.prog 96 #[.agg #[.int .i64 h, .int .i64 w, .int .i64 c], .agg #[.int .i64 k, .int .i64 o, .int .i64 s, .int .i64 t, .int .i64 m, .int .i64 f, .int .i64 z, .slice A n p, .slice B q r]] W fun e W' => e = .returned (.tuple #[.agg #[.int .i64 x, .int .i64 y, .int .i64 v], .bool ok]) ∧ Below W.heap.size W W' := by
  have := outII h w c k o s t m f z A n p xs B q r ys W hr hr2 hn hq
  rw [hO] at this
  exact this
end Qt
end Go.Proofs.Ytbmchpoffceehaa

namespace Go.Proofs.Ytbmchpoffceehaa
open Go.RowKit Go.Sort
set_option linter.unusedSimpArgs false
set_option linter.unusedVariables false
namespace Qt
/-- How many products a layer makes, between two shapes. -/
def prodL (k h w c s a b d : Int) : Int :=
  if k = 0 then szOf a b d * szOf h w c else if k = 1 then szOf a b d * (s * s) * c else if k = 2 ∨ k = 3 then szOf a b d * (s * s) else szOf h w c
def costL (h w c k o s t m f z : Int) (xs ys : List Int) : Int := match outL h w c k o s t m f z xs ys with
  | some (a, b, d) => 1 + (prodL k h w c s a b d) / 16
  | none => 0
theorem outL_sh {h w c k o s t m f z : Int} {xs ys : List Int} {e : Int × Int × Int} (h1 : outL h w c k o s t m f z xs ys = some e) : shOk h w c = true := by
  rcases hs : shOk h w c with _ | _
  · simp [outL, hs] at h1
  · rfl
theorem outL_win {h w c k o s t m f z : Int} {xs ys : List Int} {e : Int × Int × Int} (hk : k = 1 ∨ k = 2 ∨ k = 3) (h1 : outL h w c k o s t m f z xs ys = some e) : 1 ≤ s ∧ s ≤ 3 ∧ 1 ≤ t ∧ t ≤ 2 := by
  have hf : fitsB h w s t = true := by
    rcases hk with rfl | rfl | rfl
    · rw [outL_1] at h1
      rcases hx : fitsB h w s t with _ | _
      · simp [hx] at h1
      · rfl
    · rw [outL_2] at h1
      rcases hx : fitsB h w s t with _ | _
      · simp [hx] at h1
      · rfl
    · rw [outL_3] at h1
      rcases hx : fitsB h w s t with _ | _
      · simp [hx] at h1
      · rfl
  rw [fitsB_eq] at hf
  simp only [winB, Bool.and_eq_true, inB_iff] at hf
  exact ⟨hf.1.1.1, hf.1.1.2, hf.1.2.1, hf.1.2.2⟩
theorem outL_kind {h w c k o s t m f z : Int} {xs ys : List Int} {e : Int × Int × Int} (h1 : outL h w c k o s t m f z xs ys = some e) : 0 ≤ k ∧ k ≤ 5 := by
  rcases kind_cases k with rfl | rfl | rfl | rfl | rfl | rfl | hk
  any_goals omega
  exfalso
  revert h1
  simp only [outL]
  rw [if_neg (show ¬ k = 0 by omega), if_neg (show ¬ k = 1 by omega), if_neg (show ¬ (k = 2 ∨ k = 3) by omega), if_neg (show ¬ k = 4 by omega), if_neg (show ¬ k = 5 by omega)]
  simp
theorem prodL_bd {k h w c s a b d : Int} (hc : 1 ≤ c ∧ c ≤ 8) (hs : k = 1 ∨ k = 2 ∨ k = 3 → 0 ≤ s ∧ s ≤ 3) : 0 ≤ prodL k h w c s a b d ∧ prodL k h w c s a b d ≤ 300000 := by
  obtain ⟨y1, y2⟩ := szOf_bd h w c
  obtain ⟨y3, y4⟩ := szOf_bd a b d
  unfold prodL
  split
  · obtain ⟨m1, m2⟩ := mulBd y3 y4 y1 y2; omega
  split
  · obtain ⟨s1, s2⟩ := hs (by omega)
    obtain ⟨m1, m2⟩ := mulBd s1 s2 s1 s2
    obtain ⟨m3, m4⟩ := mulBd y3 y4 m1 m2
    obtain ⟨m5, m6⟩ := mulBd m3 m4 (by omega : 0 ≤ c) hc.2
    omega
  split
  · obtain ⟨s1, s2⟩ := hs (by omega)
    obtain ⟨m1, m2⟩ := mulBd s1 s2 s1 s2
    obtain ⟨m3, m4⟩ := mulBd y3 y4 m1 m2
    omega
  · omega

set_option maxRecDepth 100000 in
set_option maxHeartbeats 1000000 in
theorem prodI_d (h w c : Int) (o m f z : Int) (A : Option Addr) (n p : Nat) (B : Option Addr) (q r : Nat) (a b d : Int) (W : World) :
    Calls Try.prog 109 #[.iface 162 (.agg #[.int .i64 o, .int .i64 m, .int .i64 f, .int .i64 z, .slice A n p, .slice B q r]), .agg #[.int .i64 h, .int .i64 w, .int .i64 c], .agg #[.int .i64 a, .int .i64 b, .int .i64 d]] W fun e W' => e = .returned (.int .i64 (szOf a b d * szOf h w c)) ∧ Below W.heap.size W W' := by
  have P := Pkg.laid (Pkg.laid (Pkg.laid (Pkg.start W [] (by intro r' hr'; cases hr')) 34 #[.int .i64 h, .int .i64 w, .int .i64 c]) 34 #[.int .i64 a, .int .i64 b, .int .i64 d]) 162 #[.int .i64 o, .int .i64 m, .int .i64 f, .int .i64 z, .slice A n p, .slice B q r]
  rw [World.size_alloc, World.size_alloc] at P
  obtain ⟨y1, y2⟩ := szOf_bd h w c
  obtain ⟨y3, y4⟩ := szOf_bd a b d
  have t0 := fun w0 => as_dd (.agg #[.int .i64 o, .int .i64 m, .int .i64 f, .int .i64 z, .slice A n p, .slice B q r]) w0
  go_enter Try.func109, Try.ntmps109
  go_wp2_with fail
  clear t0
  generalize (((W.alloc (.cells #[.int .i64 h, .int .i64 w, .int .i64 c] 34)).alloc (.cells #[.int .i64 a, .int .i64 b, .int .i64 d] 34)).alloc (.cells #[.int .i64 o, .int .i64 m, .int .i64 f, .int .i64 z, .slice A n p, .slice B q r] 162)) = v at P ⊢
  generalize W.heap.size + 1 + 1 = gK at P ⊢
  generalize W.heap.size + 1 = gT at P ⊢
  obtain ⟨m1, m2⟩ := mulBd y3 y4 y1 y2
  have hw0 : IntKind.i64.wrap (szOf a b d * szOf h w c) = szOf a b d * szOf h w c := by rw [IntKind.wrap_i64]; omega
  clear y1 y2 y3 y4 m1 m2
  have a0 := cell_regrown ((Pkg.blk1 P).cell 0 rfl)
  have a1 := cell_regrown ((Pkg.blk1 P).cell 1 rfl)
  have a2 := cell_regrown ((Pkg.blk1 P).cell 2 rfl)
  have b0 := cell_regrown ((Pkg.blk2 P).cell 0 rfl)
  have b1 := cell_regrown ((Pkg.blk2 P).cell 1 rfl)
  have b2 := cell_regrown ((Pkg.blk2 P).cell 2 rfl)
  have q0 := Lib.hid (fun dd os => Calls.regrown_of (sizeOfI a b d (grow (redrawn v dd) os)))
  have q1 := Lib.hid (fun dd os => Calls.regrown_of (sizeOfI h w c (grow (redrawn v dd) os)))
  refine wp_region_quiet_below mixed (by kernel_rfl) ?_
  repeat (go_big_quiet_step (first | with_reducible exact q0.out _ _ | with_reducible exact q1.out _ _))
  refine wpQuiet_nil ?_
  intro _ hw'
  obtain ⟨⟨dq, osq⟩, rfl⟩ := hw'
  replace P := Pkg.below P (below_regrown v dq osq)
  clear a0 a1 a2 b0 b1 b2 hw0 q0 q1
  generalize grow (redrawn v dq) osq = u9 at P ⊢
  go_wp2
  go_ret
  exact ⟨rfl, Pkg.bl P⟩

set_option maxRecDepth 100000 in
set_option maxHeartbeats 1000000 in
theorem prodI_r (h w c : Int) (z : Int) (a b d : Int) (W : World) :
    Calls Try.prog 109 #[.iface 170 (.agg #[.int .i64 z]), .agg #[.int .i64 h, .int .i64 w, .int .i64 c], .agg #[.int .i64 a, .int .i64 b, .int .i64 d]] W fun e W' => e = .returned (.int .i64 (szOf h w c)) ∧ Below W.heap.size W W' := by
  have P := Pkg.laid (Pkg.laid (Pkg.start W [] (by intro r' hr'; cases hr')) 34 #[.int .i64 h, .int .i64 w, .int .i64 c]) 34 #[.int .i64 a, .int .i64 b, .int .i64 d]
  rw [World.size_alloc] at P
  obtain ⟨y1, y2⟩ := szOf_bd h w c
  obtain ⟨y3, y4⟩ := szOf_bd a b d
  have t0 := fun w0 => as_rd (.agg #[.int .i64 z]) w0
  have t1 := fun w0 => as_rc (.agg #[.int .i64 z]) w0
  have t2 := fun w0 => as_rp (.agg #[.int .i64 z]) w0
  go_enter Try.func109, Try.ntmps109
  go_wp2_with fail
  clear t0 t1 t2
  generalize ((W.alloc (.cells #[.int .i64 h, .int .i64 w, .int .i64 c] 34)).alloc (.cells #[.int .i64 a, .int .i64 b, .int .i64 d] 34)) = v at P ⊢
  generalize W.heap.size + 1 = gT at P ⊢
  with_reducible refine (sizeOfI h w c _).mono ?_
  rintro e u1 ⟨rfl, bb⟩
  replace P := Pkg.below P bb
  clear bb
  go_wp2
  go_ret
  exact ⟨rfl, Pkg.bl P⟩

set_option maxRecDepth 100000 in
set_option maxHeartbeats 1000000 in
theorem prodI_f (h w c : Int)  (a b d : Int) (W : World) :
    Calls Try.prog 109 #[.iface 172 (.agg #[]), .agg #[.int .i64 h, .int .i64 w, .int .i64 c], .agg #[.int .i64 a, .int .i64 b, .int .i64 d]] W fun e W' => e = .returned (.int .i64 (szOf h w c)) ∧ Below W.heap.size W W' := by
  have P := Pkg.laid (Pkg.laid (Pkg.start W [] (by intro r' hr'; cases hr')) 34 #[.int .i64 h, .int .i64 w, .int .i64 c]) 34 #[.int .i64 a, .int .i64 b, .int .i64 d]
  rw [World.size_alloc] at P
  obtain ⟨y1, y2⟩ := szOf_bd h w c
  obtain ⟨y3, y4⟩ := szOf_bd a b d
  have t0 := fun w0 => as_fd (.agg #[]) w0
  have t1 := fun w0 => as_fc (.agg #[]) w0
  have t2 := fun w0 => as_fp (.agg #[]) w0
  go_enter Try.func109, Try.ntmps109
  go_wp2_with fail
  clear t0 t1 t2
  generalize ((W.alloc (.cells #[.int .i64 h, .int .i64 w, .int .i64 c] 34)).alloc (.cells #[.int .i64 a, .int .i64 b, .int .i64 d] 34)) = v at P ⊢
  generalize W.heap.size + 1 = gT at P ⊢
  with_reducible refine (sizeOfI h w c _).mono ?_
  rintro e u1 ⟨rfl, bb⟩
  replace P := Pkg.below P bb
  clear bb
  go_wp2
  go_ret
  exact ⟨rfl, Pkg.bl P⟩

set_option maxRecDepth 100000 in
set_option maxHeartbeats 1000000 in
theorem prodI_p (h w c : Int) (s t : Int) (fn : FuncId) (a b d : Int) (W : World) (s1 : 1 ≤ s) (s2 : s ≤ 3) :
    Calls Try.prog 109 #[.iface 168 (.agg #[.int .i64 s, .int .i64 t, .func (.func fn) #[] #[]]), .agg #[.int .i64 h, .int .i64 w, .int .i64 c], .agg #[.int .i64 a, .int .i64 b, .int .i64 d]] W fun e W' => e = .returned (.int .i64 (szOf a b d * (s * s))) ∧ Below W.heap.size W W' := by
  have P := Pkg.laid (Pkg.laid (Pkg.laid (Pkg.start W [] (by intro r' hr'; cases hr')) 34 #[.int .i64 h, .int .i64 w, .int .i64 c]) 34 #[.int .i64 a, .int .i64 b, .int .i64 d]) 168 #[.int .i64 s, .int .i64 t, .func (.func fn) #[] #[]]
  rw [World.size_alloc, World.size_alloc] at P
  obtain ⟨y1, y2⟩ := szOf_bd h w c
  obtain ⟨y3, y4⟩ := szOf_bd a b d
  have t0 := fun w0 => as_pd (.agg #[.int .i64 s, .int .i64 t, .func (.func fn) #[] #[]]) w0
  have t1 := fun w0 => as_pc (.agg #[.int .i64 s, .int .i64 t, .func (.func fn) #[] #[]]) w0
  have t2 := fun w0 => as_pp (.agg #[.int .i64 s, .int .i64 t, .func (.func fn) #[] #[]]) w0
  go_enter Try.func109, Try.ntmps109
  go_wp2_with fail
  clear t0 t1 t2
  generalize (((W.alloc (.cells #[.int .i64 h, .int .i64 w, .int .i64 c] 34)).alloc (.cells #[.int .i64 a, .int .i64 b, .int .i64 d] 34)).alloc (.cells #[.int .i64 s, .int .i64 t, .func (.func fn) #[] #[]] 168)) = v at P ⊢
  generalize W.heap.size + 1 + 1 = gK at P ⊢
  generalize W.heap.size + 1 = gT at P ⊢
  obtain ⟨m1, m2⟩ := mulBd (by omega : 0 ≤ s) s2 (by omega : 0 ≤ s) s2
  obtain ⟨m3, m4⟩ := mulBd y3 y4 m1 m2
  have hw0 : IntKind.i64.wrap (szOf a b d * (s * s)) = szOf a b d * (s * s) := by rw [IntKind.wrap_i64]; omega
  clear y1 y2 y3 y4 m1 m2 m3 m4
  have a0 := cell_regrown ((Pkg.blk1 P).cell 0 rfl)
  have a1 := cell_regrown ((Pkg.blk1 P).cell 1 rfl)
  have a2 := cell_regrown ((Pkg.blk1 P).cell 2 rfl)
  have b0 := cell_regrown ((Pkg.blk2 P).cell 0 rfl)
  have b1 := cell_regrown ((Pkg.blk2 P).cell 1 rfl)
  have b2 := cell_regrown ((Pkg.blk2 P).cell 2 rfl)
  have k0 := cell_regrown ((Pkg.blk0 P).cell 0 rfl)
  have k1 := cell_regrown ((Pkg.blk0 P).cell 1 rfl)
  have q0 := Lib.hid (fun dd os => Calls.regrown_of (sizeOfI a b d (grow (redrawn v dd) os)))
  have q1 := Lib.hid (fun dd os => Calls.regrown_of (areaI s t (grow (redrawn v dd) os) s1 s2))
  refine wp_region_quiet_below mixed (by kernel_rfl) ?_
  repeat (go_big_quiet_step (first | with_reducible exact q0.out _ _ | with_reducible exact q1.out _ _))
  refine wpQuiet_nil ?_
  intro _ hw'
  obtain ⟨⟨dq, osq⟩, rfl⟩ := hw'
  replace P := Pkg.below P (below_regrown v dq osq)
  clear a0 a1 a2 b0 b1 b2 k0 k1 hw0 q0 q1
  generalize grow (redrawn v dq) osq = u9 at P ⊢
  go_wp2
  go_ret
  exact ⟨rfl, Pkg.bl P⟩

set_option maxRecDepth 100000 in
set_option maxHeartbeats 1000000 in
theorem prodI_c (h w c : Int) (o m f z : Int) (A : Option Addr) (n p : Nat) (B : Option Addr) (q r : Nat) (s t : Int) (a b d : Int) (W : World) (s1 : 1 ≤ s) (s2 : s ≤ 3) (c1 : 1 ≤ c) (c2 : c ≤ 8) :
    Calls Try.prog 109 #[.iface 166 (.agg #[.int .i64 o, .int .i64 m, .int .i64 f, .int .i64 z, .slice A n p, .slice B q r, .int .i64 s, .int .i64 t]), .agg #[.int .i64 h, .int .i64 w, .int .i64 c], .agg #[.int .i64 a, .int .i64 b, .int .i64 d]] W fun e W' => e = .returned (.int .i64 (szOf a b d * (s * s) * c)) ∧ Below W.heap.size W W' := by
  have P := Pkg.laid (Pkg.laid (Pkg.laid (Pkg.start W [] (by intro r' hr'; cases hr')) 34 #[.int .i64 h, .int .i64 w, .int .i64 c]) 34 #[.int .i64 a, .int .i64 b, .int .i64 d]) 166 #[.int .i64 o, .int .i64 m, .int .i64 f, .int .i64 z, .slice A n p, .slice B q r, .int .i64 s, .int .i64 t]
  rw [World.size_alloc, World.size_alloc] at P
  obtain ⟨y1, y2⟩ := szOf_bd h w c
  obtain ⟨y3, y4⟩ := szOf_bd a b d
  have t0 := fun w0 => as_cd (.agg #[.int .i64 o, .int .i64 m, .int .i64 f, .int .i64 z, .slice A n p, .slice B q r, .int .i64 s, .int .i64 t]) w0
  have t1 := fun w0 => as_cc (.agg #[.int .i64 o, .int .i64 m, .int .i64 f, .int .i64 z, .slice A n p, .slice B q r, .int .i64 s, .int .i64 t]) w0
  go_enter Try.func109, Try.ntmps109
  go_wp2_with fail
  clear t0 t1
  generalize (((W.alloc (.cells #[.int .i64 h, .int .i64 w, .int .i64 c] 34)).alloc (.cells #[.int .i64 a, .int .i64 b, .int .i64 d] 34)).alloc (.cells #[.int .i64 o, .int .i64 m, .int .i64 f, .int .i64 z, .slice A n p, .slice B q r, .int .i64 s, .int .i64 t] 166)) = v at P ⊢
  generalize W.heap.size + 1 + 1 = gK at P ⊢
  generalize W.heap.size + 1 = gT at P ⊢
  obtain ⟨m1, m2⟩ := mulBd (by omega : 0 ≤ s) s2 (by omega : 0 ≤ s) s2
  obtain ⟨m3, m4⟩ := mulBd y3 y4 m1 m2
  have hw0 : IntKind.i64.wrap (szOf a b d * (s * s)) = szOf a b d * (s * s) := by rw [IntKind.wrap_i64]; omega
  obtain ⟨m5, m6⟩ := mulBd m3 m4 (by omega : 0 ≤ c) c2
  have hw1 : IntKind.i64.wrap (szOf a b d * (s * s) * c) = szOf a b d * (s * s) * c := by rw [IntKind.wrap_i64]; omega
  clear y1 y2 y3 y4 m1 m2 m3 m4 m5 m6
  have a0 := cell_regrown ((Pkg.blk1 P).cell 0 rfl)
  have a1 := cell_regrown ((Pkg.blk1 P).cell 1 rfl)
  have a2 := cell_regrown ((Pkg.blk1 P).cell 2 rfl)
  have b0 := cell_regrown ((Pkg.blk2 P).cell 0 rfl)
  have b1 := cell_regrown ((Pkg.blk2 P).cell 1 rfl)
  have b2 := cell_regrown ((Pkg.blk2 P).cell 2 rfl)
  have k0 := cell_regrown ((Pkg.blk0 P).cell 0 rfl)
  have k1 := cell_regrown ((Pkg.blk0 P).cell 1 rfl)
  have k2 := cell_regrown ((Pkg.blk0 P).cell 2 rfl)
  have k3 := cell_regrown ((Pkg.blk0 P).cell 3 rfl)
  have k4 := cell_regrown ((Pkg.blk0 P).cell 4 rfl)
  have k5 := cell_regrown ((Pkg.blk0 P).cell 5 rfl)
  have k6 := cell_regrown ((Pkg.blk0 P).cell 6 rfl)
  have k7 := cell_regrown ((Pkg.blk0 P).cell 7 rfl)
  have q0 := Lib.hid (fun dd os => Calls.regrown_of (sizeOfI a b d (grow (redrawn v dd) os)))
  have q1 := Lib.hid (fun dd os => Calls.regrown_of (areaI s t (grow (redrawn v dd) os) s1 s2))
  refine wp_region_quiet_below mixed (by kernel_rfl) ?_
  repeat (go_big_quiet_step (first | with_reducible exact q0.out _ _ | with_reducible exact q1.out _ _))
  refine wpQuiet_nil ?_
  intro _ hw'
  obtain ⟨⟨dq, osq⟩, rfl⟩ := hw'
  replace P := Pkg.below P (below_regrown v dq osq)
  clear a0 a1 a2 b0 b1 b2 k0 k1 k2 k3 k4 k5 k6 k7 hw0 hw1 q0 q1
  generalize grow (redrawn v dq) osq = u9 at P ⊢
  go_wp2
  go_ret
  exact ⟨rfl, Pkg.bl P⟩

theorem prodIall (k h w c o s t m f z : Int) (A : Option Addr) (n p : Nat) (B : Option Addr) (q r : Nat) (a b d : Int) (W : World) (hk : 0 ≤ k ∧ k ≤ 5) (hs : k = 1 ∨ k = 2 ∨ k = 3 → 1 ≤ s ∧ s ≤ 3) (hc : 1 ≤ c ∧ c ≤ 8) :
    Calls Try.prog 109 #[kerV k o s t m f z A n p B q r, .agg #[.int .i64 h, .int .i64 w, .int .i64 c], .agg #[.int .i64 a, .int .i64 b, .int .i64 d]] W fun e W' => e = .returned (.int .i64 (prodL k h w c s a b d)) ∧ Below W.heap.size W W' := by
  rcases kind_cases k with rfl | rfl | rfl | rfl | rfl | rfl | hk2
  · exact prodI_d h w c o m f z A n p B q r a b d W
  · exact prodI_c h w c o m f z A n p B q r s t a b d W (hs (by omega)).1 (hs (by omega)).2 hc.1 hc.2
  · exact prodI_p h w c s t 117 a b d W (hs (by omega)).1 (hs (by omega)).2
  · exact prodI_p h w c s t 115 a b d W (hs (by omega)).1 (hs (by omega)).2
  · exact prodI_r h w c z a b d W
  · exact prodI_f h w c a b d W
  · exact absurd hk hk2
set_option maxRecDepth 100000 in
set_option maxHeartbeats 1000000 in
theorem costI (h w c k o s t m f z : Int) (A : Option Addr) (n p : Nat) (xs : List Int) (B : Option Addr) (q r : Nat) (ys : List Int) (W : World) (hr : RdI W A n xs) (hr2 : RdI W B q ys) (hn : n ≤ 1048576) (hq : q ≤ 1048576) :
    Calls Try.prog 100 #[.agg #[.int .i64 h, .int .i64 w, .int .i64 c], .agg #[.int .i64 k, .int .i64 o, .int .i64 s, .int .i64 t, .int .i64 m, .int .i64 f, .int .i64 z, .slice A n p, .slice B q r]] W fun e W' => e = .returned (.int .i64 (costL h w c k o s t m f z xs ys)) ∧ Below W.heap.size W W' := by
  have HN := Lib.hid hn
  have HQ := Lib.hid hq
  have P := Pkg.laid (Pkg.laid (Pkg.start W [(A, n, xs), (B, q, ys)] (by intro r' hr'; rcases List.mem_cons.1 hr' with rfl | hr'; exact hr; rcases List.mem_cons.1 hr' with rfl | hr'; exact hr2; cases hr')) 34 #[.int .i64 h, .int .i64 w, .int .i64 c]) 104 #[.int .i64 k, .int .i64 o, .int .i64 s, .int .i64 t, .int .i64 m, .int .i64 f, .int .i64 z, .slice A n p, .slice B q r]
  rw [World.size_alloc] at P
  clear hn hq hr hr2
  obtain ⟨V, hV⟩ : ∃ V, costL h w c k o s t m f z xs ys = V := ⟨_, rfl⟩
  rw [hV]
  have HV := Lib.hid hV
  clear hV
  go_enter Try.func100, Try.ntmps100
  go_wp2_with fail
  generalize ((W.alloc (.cells #[.int .i64 h, .int .i64 w, .int .i64 c] 34)).alloc (.cells #[.int .i64 k, .int .i64 o, .int .i64 s, .int .i64 t, .int .i64 m, .int .i64 f, .int .i64 z, .slice A n p, .slice B q r] 104)) = v at P ⊢
  generalize W.heap.size + 1 = gL at P ⊢
  with_reducible refine (kernelForI h w c k o s t m f z A n p xs B q r ys _ (Pkg.rd0 P) (Pkg.rd1 P) HN.out HQ.out).mono ?_
  rintro e u1 ⟨rfl, bb⟩
  replace P := Pkg.below P bb
  clear bb
  rcases hO : outL h w c k o s t m f z xs ys with _ | ⟨a, b, d⟩
  · obtain rfl : V = 0 := by rw [← HV.out, costL, hO]
    rw [show forV (kerV k o s t m f z A n p B q r) none = .tuple #[.nilIface, .agg #[.int .i64 0, .int .i64 0, .int .i64 0], .bool false] from rfl]
    go_wp2
    go_ret
    exact ⟨rfl, Pkg.bl (Pkg.alloc P _)⟩
  · have HX : Hid (V = 1 + (prodL k h w c s a b d) / 16) := Lib.hid (by rw [← HV.out, costL, hO])
    rw [show forV (kerV k o s t m f z A n p B q r) (some (a, b, d)) = .tuple #[kerV k o s t m f z A n p B q r, .agg #[.int .i64 a, .int .i64 b, .int .i64 d], .bool true] from rfl]
    have hsh := shOk_iff.1 (outL_sh hO)
    have hwin := fun hk => outL_win hk hO
    have hkk := outL_kind hO
    have HP := Lib.hid (fun W2 => prodIall k h w c o s t m f z A n p B q r a b d W2 hkk (fun hk => ⟨(hwin hk).1, (hwin hk).2.1⟩) ⟨hsh.2.2.2.2.1, hsh.2.2.2.2.2⟩)
    obtain ⟨v1, v2⟩ := prodL_bd (k := k) (h := h) (w := w) (c := c) (s := s) (a := a) (b := b) (d := d) ⟨hsh.2.2.2.2.1, hsh.2.2.2.2.2⟩ (fun hk => ⟨by have := (hwin hk).1; omega, (hwin hk).2.1⟩)
    clear hsh hwin hkk hO HV
    generalize kerV k o s t m f z A n p B q r = KV at HP ⊢
    generalize prodL k h w c s a b d = X at HP HX v1 v2 ⊢
    replace P := Pkg.laid P 34 #[.int .i64 a, .int .i64 b, .int .i64 d]
    obtain ⟨n0, n1, n2⟩ := (Pkg.blk0 P).cell3
    obtain ⟨a0, a1, a2⟩ := (Pkg.blk2 P).cell3
    go_wp2_with fail
    clear n0 n1 n2 a0 a1 a2
    with_reducible refine (HP.out _).mono ?_
    rintro e u2 ⟨rfl, bb⟩
    replace P := Pkg.below P bb
    clear bb HP
    go_wp2
    go_ret
    exact ⟨by rw [HX.out]; rfl, Pkg.bl P⟩

set_option maxRecDepth 100000 in
set_option maxHeartbeats 1000000 in
theorem costS_no (h w c k o s t m f z : Int) (A : Option Addr) (n p : Nat) (xs : List Int) (B : Option Addr) (q r : Nat) (ys : List Int) (W : World) (hr : RdI W A n xs) (hr2 : RdI W B q ys) (hn : n ≤ 1048576) (hq : q ≤ 1048576) (hO : outL h w c k o s t m f z xs ys = none) :
    Calls Try.prog 81 #[.agg #[.int .i64 h, .int .i64 w, .int .i64 c], .agg #[.int .i64 k, .int .i64 o, .int .i64 s, .int .i64 t, .int .i64 m, .int .i64 f, .int .i64 z, .slice A n p, .slice B q r]] W fun e W' => e = .returned (.int .i64 0) ∧ Below W.heap.size W W' := by
  have HN := Lib.hid hn
  have HQ := Lib.hid hq
  have HO : Hid (outV (outL h w c k o s t m f z xs ys) = .tuple #[.agg #[.int .i64 0, .int .i64 0, .int .i64 0], .bool false]) := Lib.hid (by rw [hO]; rfl)
  have P := Pkg.laid (Pkg.laid (Pkg.start W [(A, n, xs), (B, q, ys)] (by intro r' hr'; rcases List.mem_cons.1 hr' with rfl | hr'; exact hr; rcases List.mem_cons.1 hr' with rfl | hr'; exact hr2; cases hr')) 34 #[.int .i64 h, .int .i64 w, .int .i64 c]) 104 #[.int .i64 k, .int .i64 o, .int .i64 s, .int .i64 t, .int .i64 m, .int .i64 f, .int .i64 z, .slice A n p, .slice B q r]
  rw [World.size_alloc] at P
  clear hn hq hr hr2 hO
  go_enter Try.func81, Try.ntmps81
  go_wp2_with fail
  generalize ((W.alloc (.cells #[.int .i64 h, .int .i64 w, .int .i64 c] 34)).alloc (.cells #[.int .i64 k, .int .i64 o, .int .i64 s, .int .i64 t, .int .i64 m, .int .i64 f, .int .i64 z, .slice A n p, .slice B q r] 104)) = v at P ⊢
  generalize W.heap.size + 1 = gL at P ⊢
  with_reducible refine (outSx h w c k o s t m f z A n p xs B q r ys _ 0 0 0 false HO.out (Pkg.rd0 P) (Pkg.rd1 P) HN.out HQ.out).mono ?_
  rintro e u1 ⟨rfl, bb⟩
  replace P := Pkg.below P bb
  clear bb
  go_wp2
  go_ret
  exact ⟨rfl, Pkg.bl (Pkg.alloc P _)⟩

set_option maxRecDepth 100000 in
set_option maxHeartbeats 1000000 in
theorem costS_0 (h w c o s t m f z : Int) (A : Option Addr) (n p : Nat) (xs : List Int) (B : Option Addr) (q r : Nat) (ys : List Int) (W : World) (hr : RdI W A n xs) (hr2 : RdI W B q ys) (hn : n ≤ 1048576) (hq : q ≤ 1048576) (a b d : Int) (hO : outL h w c 0 o s t m f z xs ys = some (a, b, d)) :
    Calls Try.prog 81 #[.agg #[.int .i64 h, .int .i64 w, .int .i64 c], .agg #[.int .i64 0, .int .i64 o, .int .i64 s, .int .i64 t, .int .i64 m, .int .i64 f, .int .i64 z, .slice A n p, .slice B q r]] W fun e W' => e = .returned (.int .i64 (1 + (prodL 0 h w c s a b d) / 16)) ∧ Below W.heap.size W W' := by
  have HN := Lib.hid hn
  have HQ := Lib.hid hq
  have HO : Hid (outV (outL h w c 0 o s t m f z xs ys) = .tuple #[.agg #[.int .i64 a, .int .i64 b, .int .i64 d], .bool true]) := Lib.hid (by rw [hO]; rfl)
  have P := Pkg.laid (Pkg.laid (Pkg.start W [(A, n, xs), (B, q, ys)] (by intro r' hr'; rcases List.mem_cons.1 hr' with rfl | hr'; exact hr; rcases List.mem_cons.1 hr' with rfl | hr'; exact hr2; cases hr')) 34 #[.int .i64 h, .int .i64 w, .int .i64 c]) 104 #[.int .i64 0, .int .i64 o, .int .i64 s, .int .i64 t, .int .i64 m, .int .i64 f, .int .i64 z, .slice A n p, .slice B q r]
  rw [World.size_alloc] at P
  have hsh := shOk_iff.1 (outL_sh hO)
  obtain ⟨v1, v2⟩ := prodL_bd (k := 0) (h := h) (w := w) (c := c) (s := s) (a := a) (b := b) (d := d) ⟨hsh.2.2.2.2.1, hsh.2.2.2.2.2⟩ (fun hk => absurd hk (by omega))
  have y1 := szOf_bd h w c
  have y2 := szOf_bd a b d
  obtain ⟨m1, m2⟩ := mulBd y2.1 y2.2 y1.1 y1.2
  have hw0 : IntKind.i64.wrap (szOf a b d * szOf h w c) = szOf a b d * szOf h w c := by rw [IntKind.wrap_i64]; omega
  rw [show prodL 0 h w c s a b d = szOf a b d * szOf h w c by simp [prodL]] at v1 v2 ⊢
  obtain ⟨V, hV⟩ : ∃ V, szOf a b d * szOf h w c = V := ⟨_, rfl⟩
  rw [hV] at v1 v2 ⊢
  have hw2 : IntKind.i64.wrap (szOf a b d * szOf h w c) = V := by rw [hw0, hV]
  clear m1 m2 hw0
  clear hsh hn hq hr hr2 hO y1 y2
  have HVV := Lib.hid hV
  clear hV
  go_enter Try.func81, Try.ntmps81
  go_wp2_with fail
  generalize ((W.alloc (.cells #[.int .i64 h, .int .i64 w, .int .i64 c] 34)).alloc (.cells #[.int .i64 0, .int .i64 o, .int .i64 s, .int .i64 t, .int .i64 m, .int .i64 f, .int .i64 z, .slice A n p, .slice B q r] 104)) = v at P ⊢
  generalize W.heap.size + 1 = gL at P ⊢
  with_reducible refine (outSx h w c 0 o s t m f z A n p xs B q r ys _ a b d true HO.out (Pkg.rd0 P) (Pkg.rd1 P) HN.out HQ.out).mono ?_
  rintro e u1 ⟨rfl, bb⟩
  replace P := Pkg.laid (Pkg.below P bb) 34 #[.int .i64 a, .int .i64 b, .int .i64 d]
  clear bb
  obtain ⟨a0, a1, a2⟩ := (Pkg.blk2 P).cell3
  go_wp2_with fail
  clear a0 a1 a2
  generalize u1.alloc (.cells #[.int .i64 a, .int .i64 b, .int .i64 d] 34) = u2 at P ⊢
  generalize u1.heap.size = gO at P ⊢
  with_reducible refine (sizeOfS h w c _).mono ?_
  rintro e u3 ⟨rfl, bb⟩
  replace P := Pkg.below P bb
  clear bb
  obtain ⟨c0, c1, c2, c3, c4, c5, c6, c7, c8⟩ := (Pkg.blk1 P).cell9
  go_wp2_with fail
  clear c0 c1 c2 c3 c4 c5 c6 c7 c8
  have x0 := cell_regrown ((Pkg.blk0 P).cell 0 rfl)
  have x1 := cell_regrown ((Pkg.blk0 P).cell 1 rfl)
  have x2 := cell_regrown ((Pkg.blk0 P).cell 2 rfl)
  have y0 := cell_regrown ((Pkg.blk1 P).cell 0 rfl)
  have y1 := cell_regrown ((Pkg.blk1 P).cell 1 rfl)
  have y2 := cell_regrown ((Pkg.blk1 P).cell 2 rfl)
  have y3 := cell_regrown ((Pkg.blk1 P).cell 3 rfl)
  have y4 := cell_regrown ((Pkg.blk1 P).cell 4 rfl)
  have y5 := cell_regrown ((Pkg.blk1 P).cell 5 rfl)
  have y6 := cell_regrown ((Pkg.blk1 P).cell 6 rfl)
  have y7 := cell_regrown ((Pkg.blk1 P).cell 7 rfl)
  have y8 := cell_regrown ((Pkg.blk1 P).cell 8 rfl)
  have z0 := cell_regrown ((Pkg.blk2 P).cell 0 rfl)
  have z1 := cell_regrown ((Pkg.blk2 P).cell 1 rfl)
  have z2 := cell_regrown ((Pkg.blk2 P).cell 2 rfl)
  have q0 := Lib.hid (fun dd os => Calls.regrown_of (sizeOfS a b d (grow (redrawn u3 dd) os)))
  have q1 := Lib.hid (fun dd os => Calls.regrown_of (sizeOfS h w c (grow (redrawn u3 dd) os)))
  refine wp_region_quiet_below mixed (by kernel_rfl) ?_
  repeat (go_big_quiet_step (first | with_reducible exact q0.out _ _ | with_reducible exact q1.out _ _))
  refine wpQuiet_nil ?_
  intro _ hw'
  obtain ⟨⟨dq, osq⟩, rfl⟩ := hw'
  replace P := Pkg.below P (below_regrown u3 dq osq)
  clear x0 x1 x2 y0 y1 y2 y3 y4 y5 y6 y7 y8 z0 z1 z2 q0 q1
  generalize grow (redrawn u3 dq) osq = u9 at P ⊢
  go_wp2
  go_ret
  exact ⟨rfl, Pkg.bl P⟩

set_option maxRecDepth 100000 in
set_option maxHeartbeats 1000000 in
theorem costS_1 (h w c o s t m f z : Int) (A : Option Addr) (n p : Nat) (xs : List Int) (B : Option Addr) (q r : Nat) (ys : List Int) (W : World) (hr : RdI W A n xs) (hr2 : RdI W B q ys) (hn : n ≤ 1048576) (hq : q ≤ 1048576) (a b d : Int) (hO : outL h w c 1 o s t m f z xs ys = some (a, b, d)) :
    Calls Try.prog 81 #[.agg #[.int .i64 h, .int .i64 w, .int .i64 c], .agg #[.int .i64 1, .int .i64 o, .int .i64 s, .int .i64 t, .int .i64 m, .int .i64 f, .int .i64 z, .slice A n p, .slice B q r]] W fun e W' => e = .returned (.int .i64 (1 + (prodL 1 h w c s a b d) / 16)) ∧ Below W.heap.size W W' := by
  have HN := Lib.hid hn
  have HQ := Lib.hid hq
  have HO : Hid (outV (outL h w c 1 o s t m f z xs ys) = .tuple #[.agg #[.int .i64 a, .int .i64 b, .int .i64 d], .bool true]) := Lib.hid (by rw [hO]; rfl)
  have P := Pkg.laid (Pkg.laid (Pkg.start W [(A, n, xs), (B, q, ys)] (by intro r' hr'; rcases List.mem_cons.1 hr' with rfl | hr'; exact hr; rcases List.mem_cons.1 hr' with rfl | hr'; exact hr2; cases hr')) 34 #[.int .i64 h, .int .i64 w, .int .i64 c]) 104 #[.int .i64 1, .int .i64 o, .int .i64 s, .int .i64 t, .int .i64 m, .int .i64 f, .int .i64 z, .slice A n p, .slice B q r]
  rw [World.size_alloc] at P
  have hsh := shOk_iff.1 (outL_sh hO)
  have hwin := outL_win (by omega) hO
  obtain ⟨v1, v2⟩ := prodL_bd (k := 1) (h := h) (w := w) (c := c) (s := s) (a := a) (b := b) (d := d) ⟨hsh.2.2.2.2.1, hsh.2.2.2.2.2⟩ (fun hk => ⟨by have := hwin.1; omega, hwin.2.1⟩)
  have y1 := szOf_bd h w c
  have y2 := szOf_bd a b d
  obtain ⟨m1, m2⟩ := mulBd y2.1 y2.2 (by have := hwin.1; omega : 0 ≤ s) hwin.2.1
  obtain ⟨m3, m4⟩ := mulBd m1 m2 (by have := hwin.1; omega : 0 ≤ s) hwin.2.1
  obtain ⟨m5, m6⟩ := mulBd m3 m4 (by omega : 0 ≤ c) hsh.2.2.2.2.2
  have hw0 : IntKind.i64.wrap (szOf a b d * s) = szOf a b d * s := by rw [IntKind.wrap_i64]; omega
  have hw1 : IntKind.i64.wrap (szOf a b d * s * s) = szOf a b d * s * s := by rw [IntKind.wrap_i64]; omega
  have hw2' : IntKind.i64.wrap (szOf a b d * s * s * c) = szOf a b d * s * s * c := by rw [IntKind.wrap_i64]; omega
  rw [show prodL 1 h w c s a b d = szOf a b d * s * s * c by simp only [prodL, Int.reduceEq, if_true, if_false]; rw [Int.mul_assoc (szOf a b d) s s]] at v1 v2 ⊢
  obtain ⟨V, hV⟩ : ∃ V, szOf a b d * s * s * c = V := ⟨_, rfl⟩
  rw [hV] at v1 v2 ⊢
  have hw2 : IntKind.i64.wrap (szOf a b d * s * s * c) = V := by rw [hw2', hV]
  clear m1 m2 m3 m4 m5 m6 hwin hw2'
  clear hsh hn hq hr hr2 hO y1 y2
  have HVV := Lib.hid hV
  clear hV
  go_enter Try.func81, Try.ntmps81
  go_wp2_with fail
  generalize ((W.alloc (.cells #[.int .i64 h, .int .i64 w, .int .i64 c] 34)).alloc (.cells #[.int .i64 1, .int .i64 o, .int .i64 s, .int .i64 t, .int .i64 m, .int .i64 f, .int .i64 z, .slice A n p, .slice B q r] 104)) = v at P ⊢
  generalize W.heap.size + 1 = gL at P ⊢
  with_reducible refine (outSx h w c 1 o s t m f z A n p xs B q r ys _ a b d true HO.out (Pkg.rd0 P) (Pkg.rd1 P) HN.out HQ.out).mono ?_
  rintro e u1 ⟨rfl, bb⟩
  replace P := Pkg.laid (Pkg.below P bb) 34 #[.int .i64 a, .int .i64 b, .int .i64 d]
  clear bb
  obtain ⟨a0, a1, a2⟩ := (Pkg.blk2 P).cell3
  go_wp2_with fail
  clear a0 a1 a2
  generalize u1.alloc (.cells #[.int .i64 a, .int .i64 b, .int .i64 d] 34) = u2 at P ⊢
  generalize u1.heap.size = gO at P ⊢
  with_reducible refine (sizeOfS h w c _).mono ?_
  rintro e u3 ⟨rfl, bb⟩
  replace P := Pkg.below P bb
  clear bb
  obtain ⟨c0, c1, c2, c3, c4, c5, c6, c7, c8⟩ := (Pkg.blk1 P).cell9
  go_wp2_with fail
  clear c0 c1 c2 c3 c4 c5 c6 c7 c8
  have x0 := cell_regrown ((Pkg.blk0 P).cell 0 rfl)
  have x1 := cell_regrown ((Pkg.blk0 P).cell 1 rfl)
  have x2 := cell_regrown ((Pkg.blk0 P).cell 2 rfl)
  have y0 := cell_regrown ((Pkg.blk1 P).cell 0 rfl)
  have y1 := cell_regrown ((Pkg.blk1 P).cell 1 rfl)
  have y2 := cell_regrown ((Pkg.blk1 P).cell 2 rfl)
  have y3 := cell_regrown ((Pkg.blk1 P).cell 3 rfl)
  have y4 := cell_regrown ((Pkg.blk1 P).cell 4 rfl)
  have y5 := cell_regrown ((Pkg.blk1 P).cell 5 rfl)
  have y6 := cell_regrown ((Pkg.blk1 P).cell 6 rfl)
  have y7 := cell_regrown ((Pkg.blk1 P).cell 7 rfl)
  have y8 := cell_regrown ((Pkg.blk1 P).cell 8 rfl)
  have z0 := cell_regrown ((Pkg.blk2 P).cell 0 rfl)
  have z1 := cell_regrown ((Pkg.blk2 P).cell 1 rfl)
  have z2 := cell_regrown ((Pkg.blk2 P).cell 2 rfl)
  have q0 := Lib.hid (fun dd os => Calls.regrown_of (sizeOfS a b d (grow (redrawn u3 dd) os)))
  refine wp_region_quiet_below mixed (by kernel_rfl) ?_
  repeat (go_big_quiet_step (first | with_reducible exact q0.out _ _))
  refine wpQuiet_nil ?_
  intro _ hw'
  obtain ⟨⟨dq, osq⟩, rfl⟩ := hw'
  replace P := Pkg.below P (below_regrown u3 dq osq)
  clear x0 x1 x2 y0 y1 y2 y3 y4 y5 y6 y7 y8 z0 z1 z2 q0
  generalize grow (redrawn u3 dq) osq = u9 at P ⊢
  go_wp2
  go_ret
  exact ⟨rfl, Pkg.bl P⟩

set_option maxRecDepth 100000 in
set_option maxHeartbeats 1000000 in
theorem costS_2 (h w c o s t m f z : Int) (A : Option Addr) (n p : Nat) (xs : List Int) (B : Option Addr) (q r : Nat) (ys : List Int) (W : World) (hr : RdI W A n xs) (hr2 : RdI W B q ys) (hn : n ≤ 1048576) (hq : q ≤ 1048576) (a b d : Int) (hO : outL h w c 2 o s t m f z xs ys = some (a, b, d)) :
    Calls Try.prog 81 #[.agg #[.int .i64 h, .int .i64 w, .int .i64 c], .agg #[.int .i64 2, .int .i64 o, .int .i64 s, .int .i64 t, .int .i64 m, .int .i64 f, .int .i64 z, .slice A n p, .slice B q r]] W fun e W' => e = .returned (.int .i64 (1 + (prodL 2 h w c s a b d) / 16)) ∧ Below W.heap.size W W' := by
  have HN := Lib.hid hn
  have HQ := Lib.hid hq
  have HO : Hid (outV (outL h w c 2 o s t m f z xs ys) = .tuple #[.agg #[.int .i64 a, .int .i64 b, .int .i64 d], .bool true]) := Lib.hid (by rw [hO]; rfl)
  have P := Pkg.laid (Pkg.laid (Pkg.start W [(A, n, xs), (B, q, ys)] (by intro r' hr'; rcases List.mem_cons.1 hr' with rfl | hr'; exact hr; rcases List.mem_cons.1 hr' with rfl | hr'; exact hr2; cases hr')) 34 #[.int .i64 h, .int .i64 w, .int .i64 c]) 104 #[.int .i64 2, .int .i64 o, .int .i64 s, .int .i64 t, .int .i64 m, .int .i64 f, .int .i64 z, .slice A n p, .slice B q r]
  rw [World.size_alloc] at P
  have hsh := shOk_iff.1 (outL_sh hO)
  have hwin := outL_win (by omega) hO
  obtain ⟨v1, v2⟩ := prodL_bd (k := 2) (h := h) (w := w) (c := c) (s := s) (a := a) (b := b) (d := d) ⟨hsh.2.2.2.2.1, hsh.2.2.2.2.2⟩ (fun hk => ⟨by have := hwin.1; omega, hwin.2.1⟩)
  have y1 := szOf_bd h w c
  have y2 := szOf_bd a b d
  obtain ⟨m1, m2⟩ := mulBd y2.1 y2.2 (by have := hwin.1; omega : 0 ≤ s) hwin.2.1
  obtain ⟨m3, m4⟩ := mulBd m1 m2 (by have := hwin.1; omega : 0 ≤ s) hwin.2.1
  have hw0 : IntKind.i64.wrap (szOf a b d * s) = szOf a b d * s := by rw [IntKind.wrap_i64]; omega
  have hw1' : IntKind.i64.wrap (szOf a b d * s * s) = szOf a b d * s * s := by rw [IntKind.wrap_i64]; omega
  rw [show prodL 2 h w c s a b d = szOf a b d * s * s by simp only [prodL, Int.reduceEq, if_true, if_false, or_true, true_or, false_or, or_false]; rw [Int.mul_assoc]] at v1 v2 ⊢
  obtain ⟨V, hV⟩ : ∃ V, szOf a b d * s * s = V := ⟨_, rfl⟩
  rw [hV] at v1 v2 ⊢
  have hw1 : IntKind.i64.wrap (szOf a b d * s * s) = V := by rw [hw1', hV]
  clear m1 m2 m3 m4 hwin hw1'
  clear hsh hn hq hr hr2 hO y1 y2
  have HVV := Lib.hid hV
  clear hV
  go_enter Try.func81, Try.ntmps81
  go_wp2_with fail
  generalize ((W.alloc (.cells #[.int .i64 h, .int .i64 w, .int .i64 c] 34)).alloc (.cells #[.int .i64 2, .int .i64 o, .int .i64 s, .int .i64 t, .int .i64 m, .int .i64 f, .int .i64 z, .slice A n p, .slice B q r] 104)) = v at P ⊢
  generalize W.heap.size + 1 = gL at P ⊢
  with_reducible refine (outSx h w c 2 o s t m f z A n p xs B q r ys _ a b d true HO.out (Pkg.rd0 P) (Pkg.rd1 P) HN.out HQ.out).mono ?_
  rintro e u1 ⟨rfl, bb⟩
  replace P := Pkg.laid (Pkg.below P bb) 34 #[.int .i64 a, .int .i64 b, .int .i64 d]
  clear bb
  obtain ⟨a0, a1, a2⟩ := (Pkg.blk2 P).cell3
  go_wp2_with fail
  clear a0 a1 a2
  generalize u1.alloc (.cells #[.int .i64 a, .int .i64 b, .int .i64 d] 34) = u2 at P ⊢
  generalize u1.heap.size = gO at P ⊢
  with_reducible refine (sizeOfS h w c _).mono ?_
  rintro e u3 ⟨rfl, bb⟩
  replace P := Pkg.below P bb
  clear bb
  obtain ⟨c0, c1, c2, c3, c4, c5, c6, c7, c8⟩ := (Pkg.blk1 P).cell9
  go_wp2_with fail
  clear c0 c1 c2 c3 c4 c5 c6 c7 c8
  have x0 := cell_regrown ((Pkg.blk0 P).cell 0 rfl)
  have x1 := cell_regrown ((Pkg.blk0 P).cell 1 rfl)
  have x2 := cell_regrown ((Pkg.blk0 P).cell 2 rfl)
  have y0 := cell_regrown ((Pkg.blk1 P).cell 0 rfl)
  have y1 := cell_regrown ((Pkg.blk1 P).cell 1 rfl)
  have y2 := cell_regrown ((Pkg.blk1 P).cell 2 rfl)
  have y3 := cell_regrown ((Pkg.blk1 P).cell 3 rfl)
  have y4 := cell_regrown ((Pkg.blk1 P).cell 4 rfl)
  have y5 := cell_regrown ((Pkg.blk1 P).cell 5 rfl)
  have y6 := cell_regrown ((Pkg.blk1 P).cell 6 rfl)
  have y7 := cell_regrown ((Pkg.blk1 P).cell 7 rfl)
  have y8 := cell_regrown ((Pkg.blk1 P).cell 8 rfl)
  have z0 := cell_regrown ((Pkg.blk2 P).cell 0 rfl)
  have z1 := cell_regrown ((Pkg.blk2 P).cell 1 rfl)
  have z2 := cell_regrown ((Pkg.blk2 P).cell 2 rfl)
  have q0 := Lib.hid (fun dd os => Calls.regrown_of (sizeOfS a b d (grow (redrawn u3 dd) os)))
  refine wp_region_quiet_below mixed (by kernel_rfl) ?_
  repeat (go_big_quiet_step (first | with_reducible exact q0.out _ _))
  refine wpQuiet_nil ?_
  intro _ hw'
  obtain ⟨⟨dq, osq⟩, rfl⟩ := hw'
  replace P := Pkg.below P (below_regrown u3 dq osq)
  clear x0 x1 x2 y0 y1 y2 y3 y4 y5 y6 y7 y8 z0 z1 z2 q0
  generalize grow (redrawn u3 dq) osq = u9 at P ⊢
  go_wp2
  go_ret
  exact ⟨rfl, Pkg.bl P⟩

set_option maxRecDepth 100000 in
set_option maxHeartbeats 1000000 in
theorem costS_3 (h w c o s t m f z : Int) (A : Option Addr) (n p : Nat) (xs : List Int) (B : Option Addr) (q r : Nat) (ys : List Int) (W : World) (hr : RdI W A n xs) (hr2 : RdI W B q ys) (hn : n ≤ 1048576) (hq : q ≤ 1048576) (a b d : Int) (hO : outL h w c 3 o s t m f z xs ys = some (a, b, d)) :
    Calls Try.prog 81 #[.agg #[.int .i64 h, .int .i64 w, .int .i64 c], .agg #[.int .i64 3, .int .i64 o, .int .i64 s, .int .i64 t, .int .i64 m, .int .i64 f, .int .i64 z, .slice A n p, .slice B q r]] W fun e W' => e = .returned (.int .i64 (1 + (prodL 3 h w c s a b d) / 16)) ∧ Below W.heap.size W W' := by
  have HN := Lib.hid hn
  have HQ := Lib.hid hq
  have HO : Hid (outV (outL h w c 3 o s t m f z xs ys) = .tuple #[.agg #[.int .i64 a, .int .i64 b, .int .i64 d], .bool true]) := Lib.hid (by rw [hO]; rfl)
  have P := Pkg.laid (Pkg.laid (Pkg.start W [(A, n, xs), (B, q, ys)] (by intro r' hr'; rcases List.mem_cons.1 hr' with rfl | hr'; exact hr; rcases List.mem_cons.1 hr' with rfl | hr'; exact hr2; cases hr')) 34 #[.int .i64 h, .int .i64 w, .int .i64 c]) 104 #[.int .i64 3, .int .i64 o, .int .i64 s, .int .i64 t, .int .i64 m, .int .i64 f, .int .i64 z, .slice A n p, .slice B q r]
  rw [World.size_alloc] at P
  have hsh := shOk_iff.1 (outL_sh hO)
  have hwin := outL_win (by omega) hO
  obtain ⟨v1, v2⟩ := prodL_bd (k := 3) (h := h) (w := w) (c := c) (s := s) (a := a) (b := b) (d := d) ⟨hsh.2.2.2.2.1, hsh.2.2.2.2.2⟩ (fun hk => ⟨by have := hwin.1; omega, hwin.2.1⟩)
  have y1 := szOf_bd h w c
  have y2 := szOf_bd a b d
  obtain ⟨m1, m2⟩ := mulBd y2.1 y2.2 (by have := hwin.1; omega : 0 ≤ s) hwin.2.1
  obtain ⟨m3, m4⟩ := mulBd m1 m2 (by have := hwin.1; omega : 0 ≤ s) hwin.2.1
  have hw0 : IntKind.i64.wrap (szOf a b d * s) = szOf a b d * s := by rw [IntKind.wrap_i64]; omega
  have hw1' : IntKind.i64.wrap (szOf a b d * s * s) = szOf a b d * s * s := by rw [IntKind.wrap_i64]; omega
  rw [show prodL 3 h w c s a b d = szOf a b d * s * s by simp only [prodL, Int.reduceEq, if_true, if_false, or_true, true_or, false_or, or_false]; rw [Int.mul_assoc]] at v1 v2 ⊢
  obtain ⟨V, hV⟩ : ∃ V, szOf a b d * s * s = V := ⟨_, rfl⟩
  rw [hV] at v1 v2 ⊢
  have hw1 : IntKind.i64.wrap (szOf a b d * s * s) = V := by rw [hw1', hV]
  clear m1 m2 m3 m4 hwin hw1'
  clear hsh hn hq hr hr2 hO y1 y2
  have HVV := Lib.hid hV
  clear hV
  go_enter Try.func81, Try.ntmps81
  go_wp2_with fail
  generalize ((W.alloc (.cells #[.int .i64 h, .int .i64 w, .int .i64 c] 34)).alloc (.cells #[.int .i64 3, .int .i64 o, .int .i64 s, .int .i64 t, .int .i64 m, .int .i64 f, .int .i64 z, .slice A n p, .slice B q r] 104)) = v at P ⊢
  generalize W.heap.size + 1 = gL at P ⊢
  with_reducible refine (outSx h w c 3 o s t m f z A n p xs B q r ys _ a b d true HO.out (Pkg.rd0 P) (Pkg.rd1 P) HN.out HQ.out).mono ?_
  rintro e u1 ⟨rfl, bb⟩
  replace P := Pkg.laid (Pkg.below P bb) 34 #[.int .i64 a, .int .i64 b, .int .i64 d]
  clear bb
  obtain ⟨a0, a1, a2⟩ := (Pkg.blk2 P).cell3
  go_wp2_with fail
  clear a0 a1 a2
  generalize u1.alloc (.cells #[.int .i64 a, .int .i64 b, .int .i64 d] 34) = u2 at P ⊢
  generalize u1.heap.size = gO at P ⊢
  with_reducible refine (sizeOfS h w c _).mono ?_
  rintro e u3 ⟨rfl, bb⟩
  replace P := Pkg.below P bb
  clear bb
  obtain ⟨c0, c1, c2, c3, c4, c5, c6, c7, c8⟩ := (Pkg.blk1 P).cell9
  go_wp2_with fail
  clear c0 c1 c2 c3 c4 c5 c6 c7 c8
  have x0 := cell_regrown ((Pkg.blk0 P).cell 0 rfl)
  have x1 := cell_regrown ((Pkg.blk0 P).cell 1 rfl)
  have x2 := cell_regrown ((Pkg.blk0 P).cell 2 rfl)
  have y0 := cell_regrown ((Pkg.blk1 P).cell 0 rfl)
  have y1 := cell_regrown ((Pkg.blk1 P).cell 1 rfl)
  have y2 := cell_regrown ((Pkg.blk1 P).cell 2 rfl)
  have y3 := cell_regrown ((Pkg.blk1 P).cell 3 rfl)
  have y4 := cell_regrown ((Pkg.blk1 P).cell 4 rfl)
  have y5 := cell_regrown ((Pkg.blk1 P).cell 5 rfl)
  have y6 := cell_regrown ((Pkg.blk1 P).cell 6 rfl)
  have y7 := cell_regrown ((Pkg.blk1 P).cell 7 rfl)
  have y8 := cell_regrown ((Pkg.blk1 P).cell 8 rfl)
  have z0 := cell_regrown ((Pkg.blk2 P).cell 0 rfl)
  have z1 := cell_regrown ((Pkg.blk2 P).cell 1 rfl)
  have z2 := cell_regrown ((Pkg.blk2 P).cell 2 rfl)
  have q0 := Lib.hid (fun dd os => Calls.regrown_of (sizeOfS a b d (grow (redrawn u3 dd) os)))
  refine wp_region_quiet_below mixed (by kernel_rfl) ?_
  repeat (go_big_quiet_step (first | with_reducible exact q0.out _ _))
  refine wpQuiet_nil ?_
  intro _ hw'
  obtain ⟨⟨dq, osq⟩, rfl⟩ := hw'
  replace P := Pkg.below P (below_regrown u3 dq osq)
  clear x0 x1 x2 y0 y1 y2 y3 y4 y5 y6 y7 y8 z0 z1 z2 q0
  generalize grow (redrawn u3 dq) osq = u9 at P ⊢
  go_wp2
  go_ret
  exact ⟨rfl, Pkg.bl P⟩

set_option maxRecDepth 100000 in
set_option maxHeartbeats 1000000 in
theorem costS_4 (h w c o s t m f z : Int) (A : Option Addr) (n p : Nat) (xs : List Int) (B : Option Addr) (q r : Nat) (ys : List Int) (W : World) (hr : RdI W A n xs) (hr2 : RdI W B q ys) (hn : n ≤ 1048576) (hq : q ≤ 1048576) (a b d : Int) (hO : outL h w c 4 o s t m f z xs ys = some (a, b, d)) :
    Calls Try.prog 81 #[.agg #[.int .i64 h, .int .i64 w, .int .i64 c], .agg #[.int .i64 4, .int .i64 o, .int .i64 s, .int .i64 t, .int .i64 m, .int .i64 f, .int .i64 z, .slice A n p, .slice B q r]] W fun e W' => e = .returned (.int .i64 (1 + (prodL 4 h w c s a b d) / 16)) ∧ Below W.heap.size W W' := by
  have HN := Lib.hid hn
  have HQ := Lib.hid hq
  have HO : Hid (outV (outL h w c 4 o s t m f z xs ys) = .tuple #[.agg #[.int .i64 a, .int .i64 b, .int .i64 d], .bool true]) := Lib.hid (by rw [hO]; rfl)
  have P := Pkg.laid (Pkg.laid (Pkg.start W [(A, n, xs), (B, q, ys)] (by intro r' hr'; rcases List.mem_cons.1 hr' with rfl | hr'; exact hr; rcases List.mem_cons.1 hr' with rfl | hr'; exact hr2; cases hr')) 34 #[.int .i64 h, .int .i64 w, .int .i64 c]) 104 #[.int .i64 4, .int .i64 o, .int .i64 s, .int .i64 t, .int .i64 m, .int .i64 f, .int .i64 z, .slice A n p, .slice B q r]
  rw [World.size_alloc] at P
  have hsh := shOk_iff.1 (outL_sh hO)
  obtain ⟨v1, v2⟩ := prodL_bd (k := 4) (h := h) (w := w) (c := c) (s := s) (a := a) (b := b) (d := d) ⟨hsh.2.2.2.2.1, hsh.2.2.2.2.2⟩ (fun hk => absurd hk (by omega))
  have y1 := szOf_bd h w c
  have y2 := szOf_bd a b d
  rw [show prodL 4 h w c s a b d = szOf h w c by simp [prodL]] at v1 v2 ⊢
  obtain ⟨V, hV⟩ : ∃ V, szOf h w c = V := ⟨_, rfl⟩
  rw [hV] at v1 v2 ⊢
  clear hsh hn hq hr hr2 hO y1 y2
  have HVV := Lib.hid hV
  clear hV
  go_enter Try.func81, Try.ntmps81
  go_wp2_with fail
  generalize ((W.alloc (.cells #[.int .i64 h, .int .i64 w, .int .i64 c] 34)).alloc (.cells #[.int .i64 4, .int .i64 o, .int .i64 s, .int .i64 t, .int .i64 m, .int .i64 f, .int .i64 z, .slice A n p, .slice B q r] 104)) = v at P ⊢
  generalize W.heap.size + 1 = gL at P ⊢
  with_reducible refine (outSx h w c 4 o s t m f z A n p xs B q r ys _ a b d true HO.out (Pkg.rd0 P) (Pkg.rd1 P) HN.out HQ.out).mono ?_
  rintro e u1 ⟨rfl, bb⟩
  replace P := Pkg.laid (Pkg.below P bb) 34 #[.int .i64 a, .int .i64 b, .int .i64 d]
  clear bb
  obtain ⟨a0, a1, a2⟩ := (Pkg.blk2 P).cell3
  go_wp2_with fail
  clear a0 a1 a2
  generalize u1.alloc (.cells #[.int .i64 a, .int .i64 b, .int .i64 d] 34) = u2 at P ⊢
  generalize u1.heap.size = gO at P ⊢
  with_reducible refine (sizeOfS h w c _).mono ?_
  rintro e u3 ⟨rfl, bb⟩
  replace P := Pkg.below P bb
  clear bb
  obtain ⟨c0, c1, c2, c3, c4, c5, c6, c7, c8⟩ := (Pkg.blk1 P).cell9
  rw [HVV.out]
  go_wp2
  go_ret
  exact ⟨rfl, Pkg.bl P⟩

set_option maxRecDepth 100000 in
set_option maxHeartbeats 1000000 in
theorem costS_5 (h w c o s t m f z : Int) (A : Option Addr) (n p : Nat) (xs : List Int) (B : Option Addr) (q r : Nat) (ys : List Int) (W : World) (hr : RdI W A n xs) (hr2 : RdI W B q ys) (hn : n ≤ 1048576) (hq : q ≤ 1048576) (a b d : Int) (hO : outL h w c 5 o s t m f z xs ys = some (a, b, d)) :
    Calls Try.prog 81 #[.agg #[.int .i64 h, .int .i64 w, .int .i64 c], .agg #[.int .i64 5, .int .i64 o, .int .i64 s, .int .i64 t, .int .i64 m, .int .i64 f, .int .i64 z, .slice A n p, .slice B q r]] W fun e W' => e = .returned (.int .i64 (1 + (prodL 5 h w c s a b d) / 16)) ∧ Below W.heap.size W W' := by
  have HN := Lib.hid hn
  have HQ := Lib.hid hq
  have HO : Hid (outV (outL h w c 5 o s t m f z xs ys) = .tuple #[.agg #[.int .i64 a, .int .i64 b, .int .i64 d], .bool true]) := Lib.hid (by rw [hO]; rfl)
  have P := Pkg.laid (Pkg.laid (Pkg.start W [(A, n, xs), (B, q, ys)] (by intro r' hr'; rcases List.mem_cons.1 hr' with rfl | hr'; exact hr; rcases List.mem_cons.1 hr' with rfl | hr'; exact hr2; cases hr')) 34 #[.int .i64 h, .int .i64 w, .int .i64 c]) 104 #[.int .i64 5, .int .i64 o, .int .i64 s, .int .i64 t, .int .i64 m, .int .i64 f, .int .i64 z, .slice A n p, .slice B q r]
  rw [World.size_alloc] at P
  have hsh := shOk_iff.1 (outL_sh hO)
  obtain ⟨v1, v2⟩ := prodL_bd (k := 5) (h := h) (w := w) (c := c) (s := s) (a := a) (b := b) (d := d) ⟨hsh.2.2.2.2.1, hsh.2.2.2.2.2⟩ (fun hk => absurd hk (by omega))
  have y1 := szOf_bd h w c
  have y2 := szOf_bd a b d
  rw [show prodL 5 h w c s a b d = szOf h w c by simp [prodL]] at v1 v2 ⊢
  obtain ⟨V, hV⟩ : ∃ V, szOf h w c = V := ⟨_, rfl⟩
  rw [hV] at v1 v2 ⊢
  clear hsh hn hq hr hr2 hO y1 y2
  have HVV := Lib.hid hV
  clear hV
  go_enter Try.func81, Try.ntmps81
  go_wp2_with fail
  generalize ((W.alloc (.cells #[.int .i64 h, .int .i64 w, .int .i64 c] 34)).alloc (.cells #[.int .i64 5, .int .i64 o, .int .i64 s, .int .i64 t, .int .i64 m, .int .i64 f, .int .i64 z, .slice A n p, .slice B q r] 104)) = v at P ⊢
  generalize W.heap.size + 1 = gL at P ⊢
  with_reducible refine (outSx h w c 5 o s t m f z A n p xs B q r ys _ a b d true HO.out (Pkg.rd0 P) (Pkg.rd1 P) HN.out HQ.out).mono ?_
  rintro e u1 ⟨rfl, bb⟩
  replace P := Pkg.laid (Pkg.below P bb) 34 #[.int .i64 a, .int .i64 b, .int .i64 d]
  clear bb
  obtain ⟨a0, a1, a2⟩ := (Pkg.blk2 P).cell3
  go_wp2_with fail
  clear a0 a1 a2
  generalize u1.alloc (.cells #[.int .i64 a, .int .i64 b, .int .i64 d] 34) = u2 at P ⊢
  generalize u1.heap.size = gO at P ⊢
  with_reducible refine (sizeOfS h w c _).mono ?_
  rintro e u3 ⟨rfl, bb⟩
  replace P := Pkg.below P bb
  clear bb
  obtain ⟨c0, c1, c2, c3, c4, c5, c6, c7, c8⟩ := (Pkg.blk1 P).cell9
  rw [HVV.out]
  go_wp2
  go_ret
  exact ⟨rfl, Pkg.bl P⟩
end Qt
end Go.Proofs.Ytbmchpoffceehaa

namespace Go.Proofs.Ytbmchpoffceehaa
open Go.RowKit Go.Sort
set_option linter.unusedSimpArgs false
set_option linter.unusedVariables false
namespace Qt
theorem Pkg.cD {W w : World} {g0 g2 : Nat} {t0 t2 : TypeId} {x0_0 x0_1 x0_2 x0_3 x0_4 x0_5 x0_6 x0_7 x0_8 x2_0 x2_1 x2_2 : Value} {b1 : Nat × TypeId × Array Value} {bs : List (Nat × TypeId × Array Value)} {rs : List (Option Addr × Nat × List Int)} (h : Hid (Pkg W ((g0, t0, #[x0_0, x0_1, x0_2, x0_3, x0_4, x0_5, x0_6, x0_7, x0_8]) :: b1 :: (g2, t2, #[x2_0, x2_1, x2_2]) :: bs) rs w)) : w.cell? ⟨g0, 0, none⟩ = some x0_0 ∧ w.cell? ⟨g0, 1, none⟩ = some x0_1 ∧ w.cell? ⟨g0, 2, none⟩ = some x0_2 ∧ w.cell? ⟨g0, 3, none⟩ = some x0_3 ∧ w.cell? ⟨g0, 4, none⟩ = some x0_4 ∧ w.cell? ⟨g0, 5, none⟩ = some x0_5 ∧ w.cell? ⟨g0, 6, none⟩ = some x0_6 ∧ w.cell? ⟨g0, 7, none⟩ = some x0_7 ∧ w.cell? ⟨g0, 8, none⟩ = some x0_8 ∧ w.cell? ⟨g2, 0, none⟩ = some x2_0 ∧ w.cell? ⟨g2, 1, none⟩ = some x2_1 ∧ w.cell? ⟨g2, 2, none⟩ = some x2_2 :=
  ⟨(Pkg.blk0 h).cell 0 rfl, (Pkg.blk0 h).cell 1 rfl, (Pkg.blk0 h).cell 2 rfl, (Pkg.blk0 h).cell 3 rfl, (Pkg.blk0 h).cell 4 rfl, (Pkg.blk0 h).cell 5 rfl, (Pkg.blk0 h).cell 6 rfl, (Pkg.blk0 h).cell 7 rfl, (Pkg.blk0 h).cell 8 rfl, (Pkg.blk2 h).cell 0 rfl, (Pkg.blk2 h).cell 1 rfl, (Pkg.blk2 h).cell 2 rfl⟩
theorem Pkg.cE {W w : World} {g0 g1 : Nat} {t0 t1 : TypeId} {x0_0 x0_1 x0_2 x0_3 x0_4 x0_5 x0_6 x0_7 x0_8 x1_0 x1_1 x1_2 x1_3 x1_4 x1_5 x1_6 x1_7 x1_8 : Value} {bs : List (Nat × TypeId × Array Value)} {rs : List (Option Addr × Nat × List Int)} (h : Hid (Pkg W ((g0, t0, #[x0_0, x0_1, x0_2, x0_3, x0_4, x0_5, x0_6, x0_7, x0_8]) :: (g1, t1, #[x1_0, x1_1, x1_2, x1_3, x1_4, x1_5, x1_6, x1_7, x1_8]) :: bs) rs w)) : w.cell? ⟨g0, 0, none⟩ = some x0_0 ∧ w.cell? ⟨g0, 1, none⟩ = some x0_1 ∧ w.cell? ⟨g0, 2, none⟩ = some x0_2 ∧ w.cell? ⟨g0, 3, none⟩ = some x0_3 ∧ w.cell? ⟨g0, 4, none⟩ = some x0_4 ∧ w.cell? ⟨g0, 5, none⟩ = some x0_5 ∧ w.cell? ⟨g0, 6, none⟩ = some x0_6 ∧ w.cell? ⟨g0, 7, none⟩ = some x0_7 ∧ w.cell? ⟨g0, 8, none⟩ = some x0_8 ∧ w.cell? ⟨g1, 0, none⟩ = some x1_0 ∧ w.cell? ⟨g1, 1, none⟩ = some x1_1 ∧ w.cell? ⟨g1, 2, none⟩ = some x1_2 ∧ w.cell? ⟨g1, 3, none⟩ = some x1_3 ∧ w.cell? ⟨g1, 4, none⟩ = some x1_4 ∧ w.cell? ⟨g1, 5, none⟩ = some x1_5 ∧ w.cell? ⟨g1, 6, none⟩ = some x1_6 ∧ w.cell? ⟨g1, 7, none⟩ = some x1_7 ∧ w.cell? ⟨g1, 8, none⟩ = some x1_8 :=
  ⟨(Pkg.blk0 h).cell 0 rfl, (Pkg.blk0 h).cell 1 rfl, (Pkg.blk0 h).cell 2 rfl, (Pkg.blk0 h).cell 3 rfl, (Pkg.blk0 h).cell 4 rfl, (Pkg.blk0 h).cell 5 rfl, (Pkg.blk0 h).cell 6 rfl, (Pkg.blk0 h).cell 7 rfl, (Pkg.blk0 h).cell 8 rfl, (Pkg.blk1 h).cell 0 rfl, (Pkg.blk1 h).cell 1 rfl, (Pkg.blk1 h).cell 2 rfl, (Pkg.blk1 h).cell 3 rfl, (Pkg.blk1 h).cell 4 rfl, (Pkg.blk1 h).cell 5 rfl, (Pkg.blk1 h).cell 6 rfl, (Pkg.blk1 h).cell 7 rfl, (Pkg.blk1 h).cell 8 rfl⟩
theorem costSS (h w c k o s t m f z : Int) (A : Option Addr) (n p : Nat) (xs : List Int) (B : Option Addr) (q r : Nat) (ys : List Int) (W : World) (hr : RdI W A n xs) (hr2 : RdI W B q ys) (hn : n ≤ 1048576) (hq : q ≤ 1048576) :
    Calls Try.prog 81 #[.agg #[.int .i64 h, .int .i64 w, .int .i64 c], .agg #[.int .i64 k, .int .i64 o, .int .i64 s, .int .i64 t, .int .i64 m, .int .i64 f, .int .i64 z, .slice A n p, .slice B q r]] W fun e W' => e = .returned (.int .i64 (costL h w c k o s t m f z xs ys)) ∧ Below W.heap.size W W' := by
  rcases hO : outL h w c k o s t m f z xs ys with _ | ⟨a, b, d⟩
  · rw [show costL h w c k o s t m f z xs ys = 0 by rw [costL, hO]]
    exact costS_no h w c k o s t m f z A n p xs B q r ys W hr hr2 hn hq hO
  · rw [show costL h w c k o s t m f z xs ys = 1 + (prodL k h w c s a b d) / 16 by rw [costL, hO]]
    have hkk := outL_kind hO
    rcases kind_cases k with rfl | rfl | rfl | rfl | rfl | rfl | hk
    · exact costS_0 h w c o s t m f z A n p xs B q r ys W hr hr2 hn hq a b d hO
    · exact costS_1 h w c o s t m f z A n p xs B q r ys W hr hr2 hn hq a b d hO
    · exact costS_2 h w c o s t m f z A n p xs B q r ys W hr hr2 hn hq a b d hO
    · exact costS_3 h w c o s t m f z A n p xs B q r ys W hr hr2 hn hq a b d hO
    · exact costS_4 h w c o s t m f z A n p xs B q r ys W hr hr2 hn hq a b d hO
    · exact costS_5 h w c o s t m f z A n p xs B q r ys W hr hr2 hn hq a b d hO
    · exact absurd hkk hk
end Qt
end Go.Proofs.Ytbmchpoffceehaa

namespace Go.Proofs.Ytbmchpoffceehaa
open Go.RowKit Go.Sort
set_option linter.unusedSimpArgs false
set_option linter.unusedVariables false
namespace Qt
def costY (s : Sh) (l : Lay) : Int := costL s.1 s.2.1 s.2.2 l.k l.o l.s l.t l.m l.f l.z l.xs l.ys
def costs (ss : List Sh) (ls : List Lay) : List Int := List.zipWith costY ss ls
def costM (s : Sh) (ls : List Lay) : List Int := match modW s ls with
  | none => []
  | some (ss, _) => costs ss ls
theorem costs_len {ss : List Sh} {ls : List Lay} (h : ss.length = ls.length + 1) : (costs ss ls).length = ls.length := by simp [costs, h]
theorem costs_at {ss : List Sh} {ls : List Lay} {j : Nat} {a : Sh} {l : Lay} (ha : ss[j]? = some a) (hl : ls[j]? = some l) : (costs ss ls)[j]? = some (costY a l) := by
  simp [costs, List.getElem?_zipWith, ha, hl]
theorem costL_bd (h w c k o s t m f z : Int) (xs ys : List Int) : 0 ≤ costL h w c k o s t m f z xs ys ∧ costL h w c k o s t m f z xs ys ≤ 300000 := by
  unfold costL
  split
  · rename_i a b d hO
    have hs := outL_sh hO
    have hb := shOk_iff.1 hs
    have hw := fun hk => outL_win (k := k) hk hO
    obtain ⟨q1, q2⟩ := prodL_bd (k := k) (h := h) (w := w) (c := c) (s := s) (a := a) (b := b) (d := d) ⟨hb.2.2.2.2.1, hb.2.2.2.2.2⟩ (fun hk => by have := hw hk; omega)
    omega
  · omega
theorem costY_bd (s : Sh) (l : Lay) : 0 ≤ costY s l ∧ costY s l ≤ 300000 := costL_bd ..
set_option maxRecDepth 10000 in
theorem linkCostI (l : Lay) (P : Pos) (a b : Sh) (nx : Option Addr) (g : Nat) (W : World) (hb : Bk W g 132 (linkA l P a b nx)) (hy : RdY W l P) (hn : l.xs.length ≤ 1048576) (hq : l.ys.length ≤ 1048576) :
    Calls Try.prog 89 #[.pointer (some ⟨g, 0, none⟩)] W fun e W' => e = .returned (.int .i64 (costY a l)) ∧ Below W.heap.size W W' := by
  obtain ⟨k, o, s, t, m, f, z, xs, ys⟩ := l
  obtain ⟨A, n, p, B, q, r⟩ := P
  obtain ⟨x, y, v⟩ := a
  have hn' : n ≤ 1048576 := by have := hy.1.1; simp only at this hn; omega
  have hq' : q ≤ 1048576 := by have := hy.2.1; simp only at this hq; omega
  have R1 := Lib.hid (show RdI W A n xs from hy.1)
  have R2 := Lib.hid (show RdI W B q ys from hy.2)
  have HN := Lib.hid hn'
  have HQ := Lib.hid hq'
  have hb' : Bk W g 132 #[.int .i64 k, .int .i64 o, .int .i64 s, .int .i64 t, .int .i64 m, .int .i64 f, .int .i64 z, .slice A n p, .slice B q r, .int .i64 x, .int .i64 y, .int .i64 v, .int .i64 b.1, .int .i64 b.2.1, .int .i64 b.2.2, .pointer nx] := hb
  have c0 := cell_regrown (hb'.cell 0 rfl)
  have c1 := cell_regrown (hb'.cell 1 rfl)
  have c2 := cell_regrown (hb'.cell 2 rfl)
  have c3 := cell_regrown (hb'.cell 3 rfl)
  have c4 := cell_regrown (hb'.cell 4 rfl)
  have c5 := cell_regrown (hb'.cell 5 rfl)
  have c6 := cell_regrown (hb'.cell 6 rfl)
  have c7 := cell_regrown (hb'.cell 7 rfl)
  have c8 := cell_regrown (hb'.cell 8 rfl)
  have c9 := cell_regrown (hb'.cell 9 rfl)
  have d0 := cell_regrown (hb'.cell 10 rfl)
  have d1 := cell_regrown (hb'.cell 11 rfl)
  obtain ⟨R, hR⟩ : ∃ R, costY (x, y, v) ⟨k, o, s, t, m, f, z, xs, ys⟩ = R := ⟨_, rfl⟩
  rw [hR]
  have hR' : costL x y v k o s t m f z xs ys = R := hR
  have q0 := Lib.hid (fun dd os => Calls.regrown_of (costI x y v k o s t m f z A n p xs B q r ys (grow (redrawn W dd) os) (R1.out.of_below (below_regrown W dd os)) (R2.out.of_below (below_regrown W dd os)) HN.out HQ.out))
  rw [hR'] at q0
  clear hb hb' hy hn hq hn' hq' hR hR'
  go_enter Try.func89, Try.ntmps89
  go_wp2_with fail
  refine wp_region_quiet_below mixed (by kernel_rfl) ?_
  repeat (go_big_quiet_step (first | with_reducible exact q0.out _ _))
  refine wpQuiet_nil ?_
  intro _ hw'
  obtain ⟨⟨dq, osq⟩, rfl⟩ := hw'
  have HB2 := Lib.hid (below_regrown W dq osq)
  clear c0 c1 c2 c3 c4 c5 c6 c7 c8 c9 d0 d1 q0
  generalize grow (redrawn W dq) osq = u9 at HB2 ⊢
  go_wp2_with fail
  go_ret
  exact ⟨rfl, HB2.out⟩
end Qt
end Go.Proofs.Ytbmchpoffceehaa

namespace Go.Proofs.Ytbmchpoffceehaa
open Go.RowKit Go.Sort
set_option linter.unusedSimpArgs false
set_option linter.unusedVariables false
namespace Qt
/-- A slice of the call's own that reads as xs. -/
def CsR (W : World) (xs : List Int) (e : Ending) (W' : World) : Prop := ∃ V, e = .returned V ∧ W'.ownsRow W.heap.size 3 1 V xs.length (xs.map (Value.int .i64)) ∧ Below W.heap.size W W'
theorem take_snocI {xs : List Int} {j : Nat} {x : Int} (h : xs[j]? = some x) : (xs.map (Value.int .i64)).take j ++ [.int .i64 x] = (xs.map (Value.int .i64)).take (j + 1) := by
  rw [List.take_add_one, List.getElem?_map, h]
  rfl
theorem gatherInt_nil (W : World) : Calls Try.prog 88 #[.pointer none, .func (.func 89) #[] #[]] W (CsR W []) := by
  go_enter Try.func88, Try.ntmps88
  go_wp2_with fail
  go_loopg [5, 6] 0 (fun gk v kp wr => v = .slice none 0 0 ∧ kp = .pointer none ∧ W = wr)
  case atStart => exact ⟨rfl, rfl, rfl⟩
  case round =>
    obtain ⟨rfl, rfl, rfl⟩ := hrel
    go_wp2_with fail
    go_ret
    exact ⟨_, rfl, World.ownsRow_nil _ _ _ _, Below.refl _ _⟩
set_option maxRecDepth 10000 in
set_option maxHeartbeats 1000000 in
theorem gatherInt (W0 : World) (B : Nat) (gs : List Nat) (ls : List Lay) (ss : List Sh) (g0 : Nat) (hg0 : gs[0]? = some g0) (W : World) (hc : Chain W0 B W gs ls ss) (hb0 : Below W0.heap.size W0 W) (hss : ss.length = ls.length + 1) (hn : ls.length + big ls ≤ 1048576) :
    Calls Try.prog 88 #[.pointer (some ⟨g0, 0, none⟩), .func (.func 89) #[] #[]] W (CsR W (costs ss ls)) := by
  obtain ⟨i0, hi, hz0, hz1, hz2⟩ := info_parts info3
  have HC := Lib.hid hc
  have HB0 := Lib.hid hb0
  have HN := Lib.hid hn
  have hxl := costs_len hss
  have hgl := hc.len
  obtain ⟨n, hnn⟩ : ∃ n, n = ls.length := ⟨_, rfl⟩
  obtain ⟨xs, hxs⟩ : ∃ xs, xs = costs ss ls := ⟨_, rfl⟩
  rw [← hxs] at hxl ⊢
  rw [← hnn] at hxl hgl hn
  have HXS := Lib.hid hxs
  have HXL := Lib.hid hxl
  have HGL := Lib.hid hgl
  have HNN := Lib.hid hnn
  have hnn2 : n ≤ 1048576 := by omega
  have HG0 : Hid (some (⟨g0, 0, none⟩ : Addr) = ptrAt gs 0) := Lib.hid (by unfold ptrAt; rw [hg0]; rfl)
  clear hc hb0 hn hxl hgl hxs hnn hg0 hss
  go_enter Try.func88, Try.ntmps88
  go_wp2_with fail
  go_loopg [5, 6] n (fun gk v kp wr => ∃ (j : Nat) (q : Option Addr), gk + j = n ∧ kp = .pointer q ∧ Hid (q = ptrAt gs j) ∧ Hid (wr.ownsRow W.heap.size 3 1 v j ((xs.map (Value.int .i64)).take j)) ∧ Hid (Below W.heap.size W wr))
  case atStart => exact ⟨0, _, rfl, rfl, HG0, Lib.hid (World.ownsRow_nil _ _ _ _), Lib.hid (Below.refl _ _)⟩
  case round =>
    clear HG0
    obtain ⟨j, q, hgk, rfl, HQ, HO, HB⟩ := hrel
    by_cases hlt : j < n
    · have hgj : gs[j]? = some (gs[j]'(by rw [HGL.out]; exact hlt)) := List.getElem?_eq_getElem _
      obtain ⟨g, hg⟩ : ∃ g, gs[j]? = some g := ⟨_, hgj⟩
      have hlj : ls[j]? = some (ls[j]'(by rw [← HNN.out]; exact hlt)) := List.getElem?_eq_getElem _
      obtain ⟨l, hl⟩ : ∃ l, ls[j]? = some l := ⟨_, hlj⟩
      obtain ⟨P, a, b, ha, hb, hbk, hy⟩ := HC.out.node j g l hg hl
      have hq : q = some ⟨g, 0, none⟩ := by rw [HQ.out]; unfold ptrAt; rw [hg]; rfl
      subst hq
      have hbig := big_at hl
      have hx : xs[j]? = some (costY a l) := by rw [HXS.out]; exact costs_at ha hl
      have HBK := Lib.hid hbk
      have HY := Lib.hid (hy.of_below (HB0.out.trans (HB.out.mono HB0.out.size)))
      have H1 : Hid (l.xs.length ≤ 1048576) := Lib.hid (by have := HN.out; omega)
      have H2 : Hid (l.ys.length ≤ 1048576) := Lib.hid (by have := HN.out; omega)
      have HX := Lib.hid hx
      obtain ⟨nx, hnx⟩ : ∃ nx, nx = ptrAt gs (j + 1) := ⟨_, rfl⟩
      rw [← hnx] at HBK
      have HNX := Lib.hid hnx
      clear hgj hg hlj hl ha hb hbk hy hbig hx hnx HQ
      go_wp2_with fail
      with_reducible refine (linkCostI l P a b nx g _ (HBK.out.below HB.out) HY.out H1.out H2.out).mono ?_
      rintro e w2 ⟨rfl, b2⟩
      have HO2 := Lib.hid (ownsRow_below HO.out b2)
      have HB2 := Lib.hid (HB.out.trans (b2.mono HB.out.size))
      clear b2 HO HB HY
      have hsz := HB2.out.size
      generalize hcy : costY a l = cy at HX ⊢
      clear hcy
      go_wp2_with (at_builtin; go_loud (refine wpList_append_own _ rfl _ _ 27 rfl W.heap.size 3 i0 (.int .i64 0) 1 8 Try.underlying27 hi hz0 hz1 hz2 rfl (by decide) _ _ _ rfl (HO2.out.alloc _) ⟨w2.heap.size, 0, none⟩ 1 1 [.int .i64 cy] rfl rfl ?c1 ?c2 ?c3 ?c4 ?c5 ?_))
      case c1 =>
        intro j' u hj
        match j', hj with
        | 0, hj => simp at hj; subst hj; simp [Addr.add]
      case c2 => intro u hu; simp at hu; subst hu; rfl
      case c3 => unfold maxLen; omega
      case c4 => omega
      case c5 => simp; omega
      intro v' w3 hown' hgrow _
      have hB3 : Below W.heap.size W w3 := (HB2.out.alloc HB2.out.size _).grown hgrow (by simp; omega) (fun r hr => by have := (HO2.out.lt r hr).1; omega)
      rw [take_snocI HX.out] at hown'
      have hnc : w3.cell? ⟨g, 15, none⟩ = some (.pointer nx) := (HBK.out.below hB3).cell 15 rfl
      have HO3 := Lib.hid hown'
      have HB3 := Lib.hid hB3
      clear hown' hgrow hB3 HO2 HB2
      go_wp2_with fail
      go_roundg (gk - 1)
      case measure => omega
      case rel => exact ⟨j + 1, nx, by omega, rfl, HNX, HO3, HB3⟩
    · obtain rfl : j = n := by omega
      have hq : q = none := by rw [HQ.out]; unfold ptrAt; rw [List.getElem?_eq_none (by rw [HGL.out]; exact Nat.le_refl _)]; rfl
      subst hq
      have hO := HO.out
      rw [List.take_of_length_le (by rw [List.length_map, HXL.out]; exact Nat.le_refl _)] at hO
      have HOF := Lib.hid hO
      clear hO HO HQ
      go_wp2_with fail
      go_ret
      exact ⟨_, rfl, HXL.out.symm ▸ HOF.out, HB.out⟩
end Qt
end Go.Proofs.Ytbmchpoffceehaa

namespace Go.Proofs.Ytbmchpoffceehaa
open Go.RowKit Go.Sort
set_option linter.unusedSimpArgs false
set_option linter.unusedVariables false
namespace Qt
/-- What is known in a round: the model's block, and the shape at hand in the slice of shapes. -/
structure RndB (W : World) (h w c : Int) (A : Option Addr) (n p k gO : Nat) (x y v : Int) (u : World) : Prop where
  b : Below W.heap.size W u
  bm : Bk u W.heap.size 37 #[.int .i64 h, .int .i64 w, .int .i64 c, .slice A n p]
  gl : gO < u.heap.size
  bc : u.cell? ⟨gO, k * 3, none⟩ = some (.int .i64 x) ∧ u.cell? ⟨gO, k * 3 + 1, none⟩ = some (.int .i64 y) ∧ u.cell? ⟨gO, k * 3 + 2, none⟩ = some (.int .i64 v)
section
variable {W : World} {h w c : Int} {A : Option Addr} {n p k gO : Nat} {x y v : Int} {u u' : World}
theorem RndB.below (hB : Hid (RndB W h w c A n p k gO x y v u)) (hb : Below u.heap.size u u') : Hid (RndB W h w c A n p k gO x y v u') :=
  Lib.hid ⟨hB.out.b.trans (hb.mono hB.out.b.size), hB.out.bm.below hb, Nat.lt_of_lt_of_le hB.out.gl hb.size,
    (hb.cell (p := ⟨gO, k * 3, none⟩) hB.out.gl).trans hB.out.bc.1, (hb.cell (p := ⟨gO, k * 3 + 1, none⟩) hB.out.gl).trans hB.out.bc.2.1, (hb.cell (p := ⟨gO, k * 3 + 2, none⟩) hB.out.gl).trans hB.out.bc.2.2⟩
theorem RndB.drew (hB : Hid (RndB W h w c A n p k gO x y v u)) : Hid (RndB W h w c A n p k gO x y v u.drew) := RndB.below hB (Below.refl _ u).drew
theorem RndB.alloc (hB : Hid (RndB W h w c A n p k gO x y v u)) (o : Obj) : Hid (RndB W h w c A n p k gO x y v (u.alloc o)) := RndB.below hB ((Below.refl _ u).alloc (Nat.le_refl _) o)
theorem RndB.grown (hB : Hid (RndB W h w c A n p k gO x y v u)) {go : Nat} (hg : u.grownBy u' (some go)) (h1 : W.heap.size < go) (h2 : go ≠ gO) : Hid (RndB W h w c A n p k gO x y v u') := by
  have hne : some gO ≠ some go := fun e => h2 (Option.some.inj e).symm
  exact Lib.hid ⟨hB.out.b.grown hg hB.out.b.size (fun r hr => by cases hr; omega), hB.out.bm.grown hg (fun e => by cases e; omega), Nat.lt_of_lt_of_le hB.out.gl hg.size,
    (hg.cell_far ⟨gO, k * 3, none⟩ hB.out.gl hne).trans hB.out.bc.1, (hg.cell_far ⟨gO, k * 3 + 1, none⟩ hB.out.gl hne).trans hB.out.bc.2.1, (hg.cell_far ⟨gO, k * 3 + 2, none⟩ hB.out.gl hne).trans hB.out.bc.2.2⟩
theorem RndB.cells {b off : Nat} {k' o s t m f z : Int} {A' : Option Addr} {n' p' : Nat} {B' : Option Addr} {q' r' : Nat} {xs ys : List Int} (hB : Hid (RndB W h w c (some ⟨b, off, none⟩) n p k gO x y v u)) (hl : Hid (LayAt W b (off + k * 9) ⟨k', o, s, t, m, f, z, xs, ys⟩ ⟨A', n', p', B', q', r'⟩)) (hb : Hid (b < W.heap.size)) : u.cell? ⟨gO, k * 3, none⟩ = some (.int .i64 x) ∧ u.cell? ⟨gO, k * 3 + 1, none⟩ = some (.int .i64 y) ∧ u.cell? ⟨gO, k * 3 + 2, none⟩ = some (.int .i64 v) ∧ u.cell? ⟨W.heap.size, 3, none⟩ = some (.slice (some ⟨b, off, none⟩) n p) ∧ u.cell? ⟨b, off + k * 9, none⟩ = some (.int .i64 k') ∧ u.cell? ⟨b, off + k * 9 + 1, none⟩ = some (.int .i64 o) ∧ u.cell? ⟨b, off + k * 9 + 2, none⟩ = some (.int .i64 s) ∧ u.cell? ⟨b, off + k * 9 + 3, none⟩ = some (.int .i64 t) ∧ u.cell? ⟨b, off + k * 9 + 4, none⟩ = some (.int .i64 m) ∧ u.cell? ⟨b, off + k * 9 + 5, none⟩ = some (.int .i64 f) ∧ u.cell? ⟨b, off + k * 9 + 6, none⟩ = some (.int .i64 z) ∧ u.cell? ⟨b, off + k * 9 + 7, none⟩ = some (.slice A' n' p') ∧ u.cell? ⟨b, off + k * 9 + 8, none⟩ = some (.slice B' q' r') := by
  obtain ⟨d0, d1, d2, d3, d4, d5, d6, d7, d8⟩ := (hl.out.of_below hb.out hB.out.b).cells9
  exact ⟨hB.out.bc.1, hB.out.bc.2.1, hB.out.bc.2.2, hB.out.bm.cell 3 rfl, d0, d1, d2, d3, d4, d5, d6, d7, d8⟩
end
theorem owner_of {go k cap gg H : Nat} (h : (Value.slice (some ⟨go, 0, none⟩) k cap).ownBlock = some gg ∨ gg = H) : gg = go ∨ gg = H := by
  rcases h with e | e
  · exact .inl (by simpa [Value.ownBlock] using e.symm)
  · exact .inr e
set_option maxRecDepth 100000 in
set_option maxHeartbeats 4000000 in
theorem costsOfS (h w c : Int) (A : Option Addr) (n p : Nat) (ls : List Lay) (W : World) (hr : RdL W A n ls) (hn : n + big ls ≤ 1048576) :
    Calls Try.prog 48 #[.agg #[.int .i64 h, .int .i64 w, .int .i64 c, .slice A n p]] W (CsR W (costM (h, w, c) ls)) := by
  obtain ⟨i0, hi, hz0, hz1, hz2⟩ := info_parts info3
  obtain ⟨R, hR⟩ : ∃ R, costM (h, w, c) ls = R := ⟨_, rfl⟩
  rw [hR]
  have HRR := Lib.hid hR
  clear hR
  have km := (Bk.new W 37 #[.int .i64 h, .int .i64 w, .int .i64 c, .slice A n p]).alloc (.cells #[] 3)
  have bm := ((Below.refl _ W).alloc (Nat.le_refl _) (.cells #[.int .i64 h, .int .i64 w, .int .i64 c, .slice A n p] 37)).alloc (by simp) (.cells #[] 3)
  have om := World.ownsRow_lit (w := W.alloc (.cells #[.int .i64 h, .int .i64 w, .int .i64 c, .slice A n p] 37)) (base := W.heap.size) (e := 3) (size := 1) #[] 0 (by simp) (by decide) rfl
  rw [World.size_alloc] at om
  have KM := Lib.hid km
  have BM := Lib.hid bm
  have OM := Lib.hid om
  have hsz : ((W.alloc (.cells #[.int .i64 h, .int .i64 w, .int .i64 c, .slice A n p] 37)).alloc (.cells #[] 3)).heap.size = W.heap.size + 1 + 1 := by simp
  have HSZ := Lib.hid hsz
  clear km bm om hsz
  have HR := Lib.hid hr
  have HN := Lib.hid hn
  have hn1 : (n : Int) ≤ 1048576 := by omega
  clear hr hn
  go_enter Try.func48, Try.ntmps48
  go_wp2_with fail
  generalize (W.alloc (.cells #[.int .i64 h, .int .i64 w, .int .i64 c, .slice A n p] 37)).alloc (.cells #[] 3) = u0 at KM BM OM HSZ ⊢
  refine (l04ShapesS h w c A n p ls _ (HR.out.of_below BM.out) HN.out).mono ?_
  rintro e u1 ⟨b1, he⟩
  replace KM := Lib.hid (KM.out.below b1)
  replace OM := Lib.hid (ownsRow_below OM.out b1)
  replace BM := Lib.hid (BM.out.trans (b1.mono BM.out.size))
  clear b1
  rcases hm : modW (h, w, c) ls with _ | ⟨ss, e0⟩
  · rw [hm] at he
    have hRN : Hid (R = []) := Lib.hid (by rw [← HRR.out, costM, hm])
    clear hm
    subst he
    go_wp2_with fail
    go_ret
    exact ⟨.slice none 0 0, rfl, by rw [hRN.out]; exact World.ownsRow_nil _ _ _ _, BM.out⟩
  rw [hm] at he
  obtain ⟨V, rfl, ov⟩ := he
  have hRC : Hid (R = costs ss ls) := Lib.hid (by rw [← HRR.out, costM, hm])
  have hwy : way (h, w, c) ls = some (ss, e0) ∧ 1 ≤ ls.length ∧ ls.length ≤ 6 := by
    unfold modW at hm
    split at hm
    · exact ⟨hm, by assumption⟩
    · cases hm
  have WF := Lib.hid (way_facts hwy.1)
  have hn6 : (n : Int) ≤ 6 := by have := HR.out.1; omega
  have hn0 : (1 : Int) ≤ n := by have := HR.out.1; omega
  have hV := ownsRow_some ov (by omega)
  obtain ⟨gO, capV, rfl, hgO, hgl⟩ := hV
  have HGO : Hid (W.heap.size + 1 < gO) := Lib.hid (by rw [HSZ.out] at hgO; omega)
  have OV := Lib.hid ov
  clear hm hwy ov hgO hgl HSZ
  go_wp2_with fail
  go_loopw [3, 6] (fun out i wr => ∃ (k go cap : Nat), k ≤ n ∧ i = .int .i64 k ∧ out = .slice (some ⟨go, 0, none⟩) k cap ∧ Hid (W.heap.size < go ∧ go ≠ gO) ∧ Hid (wr.ownsRow W.heap.size 3 1 (.slice (some ⟨go, 0, none⟩) k cap) k ((R.map (Value.int .i64)).take k)) ∧ Hid (wr.ownsRow u0.heap.size 34 3 (.slice (some ⟨gO, 0, none⟩) (n + 1) capV) (n + 1) (shC ss)) ∧ Hid (Bk wr W.heap.size 37 #[.int .i64 h, .int .i64 w, .int .i64 c, .slice A n p]) ∧ Hid (Below W.heap.size W wr)) (fun _ i _ => n - (intOf i).toNat)
  case atStart => exact ⟨0, W.heap.size + 1, 0, Nat.zero_le _, rfl, rfl, Lib.hid ⟨by omega, by have := HGO.out; omega⟩, OM, OV, KM, BM⟩
  case round =>
    clear OM OV KM BM
    obtain ⟨k, go, cap, hk, rfl, rfl, HG, OM, OV, KM, BM⟩ := hrel
    by_cases hlt : k < n
    · obtain ⟨b, off, k', o, s, t, m, f, z, A', n', p', B', q', r', xs, ys, rfl, hbs, hj, hat⟩ := HR.out.at hlt
      obtain ⟨⟨x, y, v⟩, sb, hss, _, _⟩ := WF.out.2.2.2 k _ hj
      obtain ⟨q0, q1, q2⟩ := shC_at hss
      have hgl := (OV.out.lt gO rfl).2
      have P : Hid (RndB W h w c (some ⟨b, off, none⟩) n p k gO x y v wr) := Lib.hid ⟨BM.out, KM.out, hgl, (OV.out.cellAt (k * 3) (by omega)).trans q0, (OV.out.cellAt (k * 3 + 1) (by omega)).trans q1, (OV.out.cellAt (k * 3 + 2) (by omega)).trans q2⟩
      have HL := Lib.hid hat
      have HBS := Lib.hid hbs
      have hbig := big_at9 hj
      have hle := hat.lens
      have HN2 : Hid (n' ≤ 1048576) := Lib.hid (by have := HN.out; omega)
      have HQ2 : Hid (q' ≤ 1048576) := Lib.hid (by have := HN.out; omega)
      have hx : R[k]? = some (costL x y v k' o s t m f z xs ys) := by rw [hRC.out]; exact costs_at hss hj
      have hik : (k : Int) < (n : Int) := by omega
      have hkb : (k : Int) < (n : Int) + 1 := by omega
      obtain ⟨k0, k1, k2, k3⟩ := KM.out.cell4
      generalize hcy : costL x y v k' o s t m f z xs ys = cy at hx
      have HCY := Lib.hid hcy
      have HX := Lib.hid hx
      clear hat hbs hj hss q0 q1 q2 hgl hbig hle hcy hx
      go_wp2_with fail
      clear k0 k1 k2 k3
      have P1 := RndB.drew P
      have O1 : Hid (wr.drew.ownsRow W.heap.size 3 1 (.slice (some ⟨go, 0, none⟩) k cap) k ((R.map (Value.int .i64)).take k)) := Lib.hid (ownsRow_below OM.out (Below.refl _ wr).drew)
      have V1 : Hid (wr.drew.ownsRow u0.heap.size 34 3 (.slice (some ⟨gO, 0, none⟩) (n + 1) capV) (n + 1) (shC ss)) := Lib.hid (ownsRow_below OV.out (Below.refl _ wr).drew)
      have SS1 := RndB.cells P1 HL HBS
      go_region_held3 (fun w' => w'.cell? ⟨gO, k * 3, none⟩ = some (.int .i64 x) ∧ w'.cell? ⟨gO, k * 3 + 1, none⟩ = some (.int .i64 y) ∧ w'.cell? ⟨gO, k * 3 + 2, none⟩ = some (.int .i64 v) ∧ w'.cell? ⟨W.heap.size, 3, none⟩ = some (.slice (some ⟨b, off, none⟩) n p) ∧ w'.cell? ⟨b, off + k * 9, none⟩ = some (.int .i64 k') ∧ w'.cell? ⟨b, off + k * 9 + 1, none⟩ = some (.int .i64 o) ∧ w'.cell? ⟨b, off + k * 9 + 2, none⟩ = some (.int .i64 s) ∧ w'.cell? ⟨b, off + k * 9 + 3, none⟩ = some (.int .i64 t) ∧ w'.cell? ⟨b, off + k * 9 + 4, none⟩ = some (.int .i64 m) ∧ w'.cell? ⟨b, off + k * 9 + 5, none⟩ = some (.int .i64 f) ∧ w'.cell? ⟨b, off + k * 9 + 6, none⟩ = some (.int .i64 z) ∧ w'.cell? ⟨b, off + k * 9 + 7, none⟩ = some (.slice A' n' p') ∧ w'.cell? ⟨b, off + k * 9 + 8, none⟩ = some (.slice B' q' r'))
        (first
          | with_reducible exact SS1
          | with_reducible exact SS
          | with_reducible exact SA _
          | with_reducible exact SG)
        (first
          | (go_at_call 81; (with_reducible refine (costSS x y v k' o s t m f z _ _ _ xs _ _ _ ys _ (HL.out.rds.1.of_below P1.out.b) (HL.out.rds.2.of_below P1.out.b) HN2.out HQ2.out).mono ?_); rw [HCY.out]; rintro e uq ⟨rfl, bb⟩; have PP := RndB.below P1 bb; have O2 := Lib.hid (ownsRow_below O1.out bb); have V2 := Lib.hid (ownsRow_below V1.out bb); have SS := RndB.cells PP HL HBS; have SA := fun o => RndB.cells (RndB.alloc PP o) HL HBS; have hs2 := PP.out.b.size)
          | (refine step_append_lies _ (by rfl) _ _ _ (by rfl) W.heap.size 3 i0 (.int .i64 0) 1 8 Try.underlying27 hi hz0 hz1 hz2 rfl (by decide) (.slice (some ⟨go, 0, none⟩) k cap) k _ (by rfl) (O2.out.alloc _) ⟨uq.heap.size, 0, none⟩ 1 1 [.int .i64 cy] (by rfl) (by rfl) (World.news_of_block (cs := #[.int .i64 cy]) (t := 3) (fr := (0, 0)) (heap_alloc_new uq _)) (by simp [Value.oneCell']) (by omega) (by unfold maxLen; omega) (by omega) (by simp; omega) (uq.heap.size + 1) (by simp) ?_; intro gg cap2 w1 hown1 hgrow hatt hlt2; have PG := RndB.grown (RndB.alloc PP _) hgrow HG.out.1 HG.out.2; have SG := RndB.cells PG HL HBS; have VG := Lib.hid ((V2.out.alloc _).kept hgrow (by simp [Value.ownBlock]; exact fun e => HG.out.2 e.symm)); have OG := Lib.hid hown1; have HG2 : Hid (W.heap.size < gg ∧ gg ≠ gO) := Lib.hid (by have h1 := HG.out; have h2 := PP.out.gl; have h3 := owner_of hatt; omega); clear hown1 hgrow hatt hlt2))
      have hts : Hid ((R.map (Value.int .i64)).take k ++ [.int .i64 cy] = (R.map (Value.int .i64)).take (k + 1)) := Lib.hid (take_snocI HX.out)
      rw [hts.out] at OG
      go_wp2_with fail
      go_roundw
      case rel => exact ⟨k + 1, gg, cap2, by omega, by go_num, rfl, HG2, OG, VG, Lib.hid PG.out.bm, Lib.hid PG.out.b⟩
      case measure => simp [intOf]; omega
    · obtain rfl : k = n := by omega
      have hRl : R.length = k := by rw [hRC.out]; have := costs_len WF.out.1; have := HR.out.1; omega
      have hO := OM.out
      rw [List.take_of_length_le (by rw [List.length_map, hRl]; exact Nat.le_refl _)] at hO
      have HO := Lib.hid hO
      have HRL := Lib.hid hRl
      clear hO hRl
      obtain ⟨k0, k1, k2, k3⟩ := KM.out.cell4
      go_wp2_with fail
      go_ret
      exact ⟨_, rfl, by rw [HRL.out]; exact HO.out, BM.out⟩
end Qt
end Go.Proofs.Ytbmchpoffceehaa

namespace Go.Proofs.Ytbmchpoffceehaa
open Go.RowKit Go.Sort
set_option linter.unusedSimpArgs false
set_option linter.unusedVariables false
namespace Qt
theorem CsR.own {W W' : World} {xs : List Int} {e : Ending} (h : CsR W xs e W') : ∃ A cap, e = .returned (.slice A xs.length cap) ∧ OwnI W.heap.size W' A xs.length xs ∧ Below W.heap.size W W' := by
  obtain ⟨V, rfl, ho, hb⟩ := h
  have h' := ho
  rcases ho.2 with ⟨rfl, h0⟩ | ⟨g, cap, cur, rfl, _⟩
  · rw [h0] at h' ⊢; exact ⟨_, _, rfl, OwnI.of_own h', hb⟩
  · exact ⟨_, _, rfl, OwnI.of_own h', hb⟩
theorem CsR.mono {W0 W W' : World} {xs : List Int} {e : Ending} (h : CsR W xs e W') (hb : Below W0.heap.size W0 W) : CsR W0 xs e W' := by
  obtain ⟨V, rfl, ho, hb2⟩ := h
  exact ⟨V, rfl, ownsRow_base ho hb.size, hb.trans (hb2.mono hb.size)⟩
theorem modW_some {s : Sh} {ls : List Lay} {ss : List Sh} {e : Sh} (h : modW s ls = some (ss, e)) : way s ls = some (ss, e) ∧ 1 ≤ ls.length ∧ ls.length ≤ 6 := by
  unfold modW at h
  split at h
  · exact ⟨h, by assumption⟩
  · cases h
theorem costM_len (s : Sh) (ls : List Lay) : (costM s ls).length ≤ 6 := by
  unfold costM
  split
  · simp
  · rename_i ss e h
    obtain ⟨h1, h2, h3⟩ := modW_some h
    rw [costs_len (way_facts h1).1]; exact h3
theorem costM_bd {s : Sh} {ls : List Lay} {j : Nat} {x : Int} (h : (costM s ls)[j]? = some x) : 0 ≤ x ∧ x ≤ 300000 := by
  unfold costM at h
  split at h
  · simp at h
  · simp only [costs, List.getElem?_zipWith] at h
    split at h
    · cases h; exact costY_bd ..
    · cases h
theorem costsOfI (h w c : Int) (A : Option Addr) (n p : Nat) (ls : List Lay) (W : World) (hr : RdL W A n ls) (hn : n + big ls ≤ 1048576) :
    Calls Try.prog 57 #[.agg #[.int .i64 h, .int .i64 w, .int .i64 c, .slice A n p]] W (CsR W (costM (h, w, c) ls)) := by
  have b0 := (Below.refl _ W).alloc (Nat.le_refl _) (.cells #[.int .i64 h, .int .i64 w, .int .i64 c, .slice A n p] 37)
  have HC := Lib.hid (linksOfI h w c A n p ls _ (hr.of_below b0) hn)
  have B0 := Lib.hid b0
  have HN : Hid (ls.length + big ls ≤ 1048576) := Lib.hid (by rw [hr.1]; exact hn)
  clear b0 hr hn
  obtain ⟨R, hR⟩ : ∃ R, costM (h, w, c) ls = R := ⟨_, rfl⟩
  rw [hR]
  have HRR := Lib.hid hR
  clear hR
  go_enter Try.func57, Try.ntmps57
  go_wp2_with fail
  refine HC.out.mono ?_
  rintro e w1 ⟨b1, he⟩
  have B1 := Lib.hid (B0.out.trans (b1.mono B0.out.size))
  rcases hm : modW (h, w, c) ls with _ | ⟨ss, l⟩
  · rw [hm] at he
    have hRN : Hid (R = []) := Lib.hid (by rw [← HRR.out, costM, hm])
    clear hm b1
    subst he
    go_wp2_with fail
    with_reducible refine (gatherInt_nil _).mono ?_
    intro e w2 hc
    have HQ := Lib.hid (CsR.mono hc B1.out)
    obtain ⟨V, rfl, _⟩ := hc
    go_wp2_with fail
    go_ret
    rw [hRN.out]
    exact HQ.out
  · rw [hm] at he
    obtain ⟨g, gs, rfl, hc⟩ := he
    have hRC : Hid (costs ss ls = R) := Lib.hid (by rw [← HRR.out, costM, hm])
    have WF := Lib.hid (way_facts (modW_some hm).1)
    have HCH := Lib.hid hc
    have HB := Lib.hid b1
    clear hm b1 hc
    go_wp2_with fail
    with_reducible refine (gatherInt _ _ (g :: gs) ls ss g rfl _ HCH.out HB.out WF.out.1 HN.out).mono ?_
    intro e w2 hc
    rw [hRC.out] at hc
    have HQ := Lib.hid (CsR.mono hc B1.out)
    obtain ⟨V, rfl, _⟩ := hc
    go_wp2_with fail
    go_ret
    exact HQ.out
def tot (xs : List Int) : Nat → Int
  | 0 => 0
  | k + 1 => tot xs k + xs.getD k 0
def bestC (xs : List Int) : Nat → Int
  | 0 => -1
  | k + 1 => if bestC xs k < 0 ∨ xs.getD (bestC xs k).toNat 0 < xs.getD k 0 then k else bestC xs k
theorem tot_bd {xs : List Int} (hx : ∀ (j : Nat) (x : Int), xs[j]? = some x → 0 ≤ x ∧ x ≤ 300000) (k : Nat) : 0 ≤ tot xs k ∧ tot xs k ≤ 300000 * k := by
  induction k with
  | zero => simp [tot]
  | succ k ih =>
    have : 0 ≤ xs.getD k 0 ∧ xs.getD k 0 ≤ 300000 := by
      rw [List.getD_eq_getElem?_getD]
      rcases h : xs[k]? with _ | x
      · simp
      · simpa using hx k x h
    simp only [tot]
    omega
theorem sum_tot_take (xs : List Int) (k : Nat) : sumL (xs.take k) = tot xs (min k xs.length) := by
  induction k with
  | zero => simp [sumL, tot]
  | succ k ih =>
    by_cases hk : k < xs.length
    · rw [sumL_snoc xs k hk, ih, Nat.min_eq_left (by omega), Nat.min_eq_left (by omega)]
      simp [tot, List.getD_eq_getElem?_getD]
    · rw [List.take_of_length_le (by omega)]
      rw [List.take_of_length_le (by omega)] at ih
      rw [ih, Nat.min_eq_right (by omega), Nat.min_eq_right (by omega)]
theorem sum_tot (xs : List Int) : sumL xs = tot xs xs.length := by
  have := sum_tot_take xs xs.length
  rwa [List.take_of_length_le (Nat.le_refl _), Nat.min_self] at this
theorem bestC_bd (xs : List Int) (k : Nat) : -1 ≤ bestC xs k ∧ bestC xs k < k ∧ (0 < k → 0 ≤ bestC xs k) := by
  induction k with
  | zero => simp [bestC]
  | succ k ih =>
    simp only [bestC]
    split
    · omega
    · rename_i h
      rw [not_or] at h
      omega
set_option maxRecDepth 10000 in
theorem totalS (h w c : Int) (A : Option Addr) (n p : Nat) (ls : List Lay) (W : World) (hr : RdL W A n ls) (hn : n + big ls ≤ 1048576) :
    Calls Try.prog 27 #[.agg #[.int .i64 h, .int .i64 w, .int .i64 c, .slice A n p]] W fun e W' => e = .returned (.int .i64 (tot (costM (h, w, c) ls) (costM (h, w, c) ls).length)) ∧ Below W.heap.size W W' := by
  have b0 := (Below.refl _ W).alloc (Nat.le_refl _) (.cells #[.int .i64 h, .int .i64 w, .int .i64 c, .slice A n p] 37)
  have HC := Lib.hid (costsOfS h w c A n p ls _ (hr.of_below b0) hn)
  have B0 := Lib.hid b0
  have hlen := costM_len (h, w, c) ls
  have hbd := fun (j : Nat) (x : Int) (hx : (costM (h, w, c) ls)[j]? = some x) => costM_bd hx
  generalize costM (h, w, c) ls = xs at HC hlen hbd ⊢
  obtain ⟨m, hm⟩ : ∃ m, xs.length = m := ⟨_, rfl⟩
  rw [hm] at hlen ⊢
  have HM := Lib.hid hm
  have HT := Lib.hid (tot_bd hbd)
  obtain ⟨R, hR⟩ : ∃ R, tot xs m = R := ⟨_, rfl⟩
  rw [hR]
  have HRR := Lib.hid hR
  have HBD := Lib.hid hbd
  clear b0 hr hn hm hbd hR
  go_enter Try.func27, Try.ntmps27
  go_wp2_with fail
  refine HC.out.mono ?_
  intro e w1 hc
  obtain ⟨V, cap, rfl, ho, b1⟩ := hc.own
  rw [HM.out] at ho ⊢
  have B1 := Lib.hid (B0.out.trans (b1.mono B0.out.size))
  have HO := Lib.hid ho.rdI
  clear hc b1 ho
  go_wp2_with fail
  go_loop [3, 5] (fun t i => ∃ k : Nat, k ≤ m ∧ i = .int .i64 k ∧ t = .int .i64 (tot xs k)) (fun t i => m - (intOf i).toNat)
  case atStart => exact ⟨0, Nat.zero_le _, rfl, rfl⟩
  case round =>
    obtain ⟨k, hk, rfl, rfl⟩ := hrel
    have ht := HT.out k
    by_cases hlt : k < m
    · obtain ⟨b, off, rfl, hbl, hcell⟩ := HO.out.2 (by omega)
      have hcx : w1.cell? ⟨b, off + k, none⟩ = some (.int .i64 (xs[k]?.getD 0)) := by simpa [List.getD_eq_getElem?_getD] using hcell k hlt
      have hik : (k : Int) < (m : Int) := by omega
      have ht1 := HT.out (k + 1)
      have hts : tot xs (k + 1) = tot xs k + xs[k]?.getD 0 := by simp [tot, List.getD_eq_getElem?_getD]
      have hx0 : 0 ≤ xs[k]?.getD 0 ∧ xs[k]?.getD 0 ≤ 300000 := by
        have := HBD.out k (xs[k]'(by rw [HM.out]; exact hlt)) (List.getElem?_eq_getElem _)
        rw [List.getElem?_eq_getElem (by rw [HM.out]; exact hlt)]
        exact this
      have HTS := Lib.hid hts
      clear hcell hbl hts
      go_wp2_with fail
      go_round
      case rel => exact ⟨k + 1, by omega, by go_num, by rw [HTS.out]⟩
      case measure => simp [intOf]; omega
    · obtain rfl : k = m := by omega
      go_wp2_with fail
      go_ret
      exact ⟨ret_int HRR.out, B1.out⟩
set_option maxRecDepth 10000 in
theorem totalI (h w c : Int) (A : Option Addr) (n p : Nat) (ls : List Lay) (W : World) (hr : RdL W A n ls) (hn : n + big ls ≤ 1048576) :
    Calls Try.prog 29 #[.agg #[.int .i64 h, .int .i64 w, .int .i64 c, .slice A n p]] W fun e W' => e = .returned (.int .i64 (tot (costM (h, w, c) ls) (costM (h, w, c) ls).length)) ∧ Below W.heap.size W W' := by
  have b0 := (Below.refl _ W).alloc (Nat.le_refl _) (.cells #[.int .i64 h, .int .i64 w, .int .i64 c, .slice A n p] 37)
  have HC := Lib.hid (costsOfI h w c A n p ls _ (hr.of_below b0) hn)
  have B0 := Lib.hid b0
  have hlen := costM_len (h, w, c) ls
  have hbd := fun (j : Nat) (x : Int) (hx : (costM (h, w, c) ls)[j]? = some x) => costM_bd hx
  generalize costM (h, w, c) ls = xs at HC hlen hbd ⊢
  obtain ⟨m, hm⟩ : ∃ m, xs.length = m := ⟨_, rfl⟩
  rw [hm] at hlen ⊢
  have HM := Lib.hid hm
  have HT := Lib.hid (tot_bd hbd)
  obtain ⟨R, hR⟩ : ∃ R, tot xs m = R := ⟨_, rfl⟩
  rw [hR]
  have HRR := Lib.hid hR
  have HBD := Lib.hid hbd
  clear b0 hr hn hm hbd hR
  go_enter Try.func29, Try.ntmps29
  go_wp2_with fail
  refine HC.out.mono ?_
  intro e w1 hc
  obtain ⟨V, cap, rfl, ho, b1⟩ := hc.own
  rw [HM.out] at ho ⊢
  have B1 := Lib.hid (B0.out.trans (b1.mono B0.out.size))
  have HO := Lib.hid ho.rdI
  clear hc b1 ho
  go_wp2_with fail
  have hsum : sumL xs = tot xs m := by rw [← HM.out]; exact sum_tot xs
  have HU := Lib.hid (addUpI V m cap xs w1 HO.out (by omega) (fun k => by rw [sum_tot_take xs k]; have := HT.out (min k m); rw [HM.out]; omega))
  rw [hsum] at HU
  clear hsum
  refine HU.out.mono ?_
  rintro e w2 ⟨rfl, b2⟩
  replace B1 := Lib.hid (B1.out.trans (b2.mono B1.out.size))
  clear b2 HU
  go_wp2_with fail
  go_ret
  exact ⟨ret_int HRR.out, B1.out⟩
end Qt
end Go.Proofs.Ytbmchpoffceehaa

namespace Go.Proofs.Ytbmchpoffceehaa
open Go.RowKit Go.Sort
set_option linter.unusedSimpArgs false
set_option linter.unusedVariables false
namespace Qt
end Qt
end Go.Proofs.Ytbmchpoffceehaa
