/- What the laws' own helpers on layers (toLayer) give when they are called. Conditions: the slices read as the lists that are named. -/
import Derived.Test.YtklefnmhknlilaaBlk9
import Derived.Test.YtklefnmhknlilaaTen
namespace Go.Proofs.Ytklefnmhknlilaa
open Go.RowKit
namespace Qt
/-- A new layer that holds these numbers, in two slices of its own. -/
def NewL (W : World) (k o s t m f z : Int) (n : Nat) (xs : List Int) (q : Nat) (ys : List Int) (e : Ending) (W' : World) : Prop :=
  ∃ g h, e = .returned (.agg #[.int .i64 k, .int .i64 o, .int .i64 s, .int .i64 t, .int .i64 m, .int .i64 f, .int .i64 z, .slice (some ⟨g, 0, none⟩) n n, .slice (some ⟨h, 0, none⟩) q q]) ∧ W.heap.size ≤ g ∧ g < h ∧ RdI W' (some ⟨g, 0, none⟩) n xs ∧ RdI W' (some ⟨h, 0, none⟩) q ys ∧ Below W.heap.size W W'

set_option maxRecDepth 10000 in
theorem toLayerL (k o s t m f z : Int) (A : Option Addr) (n p : Nat) (xs : List Int) (B : Option Addr) (q r : Nat) (ys : List Int) (W : World) (hr : RdI W A n xs) (hr2 : RdI W B q ys) (hn : n ≤ 1048576) (hq : q ≤ 1048576) :
    Calls Try.prog 68 #[.agg #[.int .i64 k, .int .i64 o, .int .i64 s, .int .i64 t, .int .i64 m, .int .i64 f, .int .i64 z, .slice A n p, .slice B q r]] W (NewL W k o s t m f z n xs q ys) := by
  have HN := Lib.hid hn
  have HR := Lib.hid hr
  have HQ := Lib.hid hq
  have HR2 := Lib.hid hr2
  clear hn hr hq hr2
  go_enter Try.func68, Try.ntmps68
  go_wp2_with fail
  have b1 : Below W.heap.size W (((W.alloc (.cells #[.int .i64 k, .int .i64 o, .int .i64 s, .int .i64 t, .int .i64 m, .int .i64 f, .int .i64 z, .slice A n p, .slice B q r] 83)).alloc (.cells #[.int .i64 0, .int .i64 0, .int .i64 0, .int .i64 0, .int .i64 0, .int .i64 0, .int .i64 0, .slice none 0 0, .slice none 0 0] 62)).alloc (.cells #[.int .i64 k, .int .i64 o, .int .i64 s, .int .i64 t, .int .i64 m, .int .i64 f, .int .i64 z, .slice none 0 0, .slice none 0 0] 62)) := ((Below.refl _ W).alloc (Nat.le_refl _) _).alloc (by simp) _ |>.alloc (by simp only [World.size_alloc]; omega) _
  have k1' : Bk (((W.alloc (.cells #[.int .i64 k, .int .i64 o, .int .i64 s, .int .i64 t, .int .i64 m, .int .i64 f, .int .i64 z, .slice A n p, .slice B q r] 83)).alloc (.cells #[.int .i64 0, .int .i64 0, .int .i64 0, .int .i64 0, .int .i64 0, .int .i64 0, .int .i64 0, .slice none 0 0, .slice none 0 0] 62)).alloc (.cells #[.int .i64 k, .int .i64 o, .int .i64 s, .int .i64 t, .int .i64 m, .int .i64 f, .int .i64 z, .slice none 0 0, .slice none 0 0] 62)) W.heap.size 83 #[.int .i64 k, .int .i64 o, .int .i64 s, .int .i64 t, .int .i64 m, .int .i64 f, .int .i64 z, .slice A n p, .slice B q r] := ((Bk.new W 83 #[.int .i64 k, .int .i64 o, .int .i64 s, .int .i64 t, .int .i64 m, .int .i64 f, .int .i64 z, .slice A n p, .slice B q r]).alloc _).alloc _
  have k2' : Bk (((W.alloc (.cells #[.int .i64 k, .int .i64 o, .int .i64 s, .int .i64 t, .int .i64 m, .int .i64 f, .int .i64 z, .slice A n p, .slice B q r] 83)).alloc (.cells #[.int .i64 0, .int .i64 0, .int .i64 0, .int .i64 0, .int .i64 0, .int .i64 0, .int .i64 0, .slice none 0 0, .slice none 0 0] 62)).alloc (.cells #[.int .i64 k, .int .i64 o, .int .i64 s, .int .i64 t, .int .i64 m, .int .i64 f, .int .i64 z, .slice none 0 0, .slice none 0 0] 62)) (W.heap.size + 1) 62 #[.int .i64 0, .int .i64 0, .int .i64 0, .int .i64 0, .int .i64 0, .int .i64 0, .int .i64 0, .slice none 0 0, .slice none 0 0] := by
    have := (Bk.new (W.alloc (.cells #[.int .i64 k, .int .i64 o, .int .i64 s, .int .i64 t, .int .i64 m, .int .i64 f, .int .i64 z, .slice A n p, .slice B q r] 83)) 62 #[.int .i64 0, .int .i64 0, .int .i64 0, .int .i64 0, .int .i64 0, .int .i64 0, .int .i64 0, .slice none 0 0, .slice none 0 0]).alloc (.cells #[.int .i64 k, .int .i64 o, .int .i64 s, .int .i64 t, .int .i64 m, .int .i64 f, .int .i64 z, .slice none 0 0, .slice none 0 0] 62)
    simpa only [World.size_alloc] using this
  have k3' : Bk (((W.alloc (.cells #[.int .i64 k, .int .i64 o, .int .i64 s, .int .i64 t, .int .i64 m, .int .i64 f, .int .i64 z, .slice A n p, .slice B q r] 83)).alloc (.cells #[.int .i64 0, .int .i64 0, .int .i64 0, .int .i64 0, .int .i64 0, .int .i64 0, .int .i64 0, .slice none 0 0, .slice none 0 0] 62)).alloc (.cells #[.int .i64 k, .int .i64 o, .int .i64 s, .int .i64 t, .int .i64 m, .int .i64 f, .int .i64 z, .slice none 0 0, .slice none 0 0] 62)) (W.heap.size + 1 + 1) 62 #[.int .i64 k, .int .i64 o, .int .i64 s, .int .i64 t, .int .i64 m, .int .i64 f, .int .i64 z, .slice none 0 0, .slice none 0 0] := by
    have := Bk.new ((W.alloc (.cells #[.int .i64 k, .int .i64 o, .int .i64 s, .int .i64 t, .int .i64 m, .int .i64 f, .int .i64 z, .slice A n p, .slice B q r] 83)).alloc (.cells #[.int .i64 0, .int .i64 0, .int .i64 0, .int .i64 0, .int .i64 0, .int .i64 0, .int .i64 0, .slice none 0 0, .slice none 0 0] 62)) 62 #[.int .i64 k, .int .i64 o, .int .i64 s, .int .i64 t, .int .i64 m, .int .i64 f, .int .i64 z, .slice none 0 0, .slice none 0 0]
    simpa only [World.size_alloc] using this
  have G2 := Lib.hid (show W.heap.size ≤ W.heap.size + 1 by omega)
  have G3 := Lib.hid (show W.heap.size ≤ W.heap.size + 1 + 1 by omega)
  have N13 := Lib.hid (show W.heap.size ≠ W.heap.size + 1 + 1 by omega)
  have N23 := Lib.hid (show W.heap.size + 1 ≠ W.heap.size + 1 + 1 by omega)
  generalize (((W.alloc (.cells #[.int .i64 k, .int .i64 o, .int .i64 s, .int .i64 t, .int .i64 m, .int .i64 f, .int .i64 z, .slice A n p, .slice B q r] 83)).alloc (.cells #[.int .i64 0, .int .i64 0, .int .i64 0, .int .i64 0, .int .i64 0, .int .i64 0, .int .i64 0, .slice none 0 0, .slice none 0 0] 62)).alloc (.cells #[.int .i64 k, .int .i64 o, .int .i64 s, .int .i64 t, .int .i64 m, .int .i64 f, .int .i64 z, .slice none 0 0, .slice none 0 0] 62)) = w4 at b1 k1' k2' k3' ⊢
  generalize W.heap.size + 1 + 1 = g3 at b1 k3' G3 N13 N23 ⊢
  generalize W.heap.size + 1 = g2 at b1 k2' G2 N23 ⊢
  refine (toIntS_fresh A n p xs _ (HR.out.of_below b1) HN.out).mono ?_
  rintro e w5 ⟨g, rfl, hg, hg5, r5, b5⟩
  have hg3 := k3'.lt
  have hg2 := k2'.lt
  have NG := Lib.hid (show g ≠ g3 ∧ g ≠ g2 by omega)
  have LG := Lib.hid (show W.heap.size ≤ g from Nat.le_trans b1.size hg)
  replace k1' := k1'.below b5
  replace k3' := k3'.below b5
  replace k2' := k2'.below b5
  have B5 := Lib.hid (b1.trans (b5.mono b1.size))
  obtain ⟨c0, c1, c2, c3, c4, c5, c6, c7, c8⟩ := k1'.cell9
  obtain ⟨f0, f1, f2, f3, f4, f5, f6, f7, f8⟩ := k3'.free9
  obtain ⟨d0, d1, d2, d3, d4, d5, d6, d7, d8⟩ := k3'.cell9
  have R5 := Lib.hid r5
  have GL := Lib.hid hg5
  have K1 := Lib.hid k1'
  have K2 := Lib.hid k2'
  have K3 := Lib.hid k3'
  clear k1' k2' k3' hg3 hg2 hg hg5 r5 b5 b1
  have hne : W.heap.size ≠ g3 := N13.out
  go_wp2_with fail
  clear c0 c1 c2 c3 c4 c5 c6 c7 c8 d0 d1 d2 d3 d4 d5 d6 d7 d8 f0 f1 f2 f3 f4 f5 f6 f7 f8 hne
  have k2 := K2.out.far (p := ⟨g3, 7, none⟩) N23.out (.slice (some ⟨g, 0, none⟩) n n)
  have k3 := K3.out.set 7 (.slice (some ⟨g, 0, none⟩) n n)
  simp only [List.setIfInBounds_toArray, List.set_cons_zero, List.set_cons_succ] at k3
  have r6 := R5.out.far (p := ⟨g3, 7, none⟩) NG.out.1 (.slice (some ⟨g, 0, none⟩) n n)
  have b6 := B5.out.setCell (p := ⟨g3, 7, none⟩) G3.out (.slice (some ⟨g, 0, none⟩) n n)
  have gl6 : g < (w5.setCell { block := g3, off := 7 } (.slice (some { block := g, off := 0 }) n n)).heap.size := by rw [World.size_setCell]; exact GL.out
  clear K1 K2 K3 R5 B5 GL
  generalize w5.setCell { block := g3, off := 7 } (.slice (some { block := g, off := 0 }) n n) = w6 at k2 k3 r6 b6 gl6 ⊢
  refine (toIntS_fresh B q r ys _ (HR2.out.of_below b6) HQ.out).mono ?_
  rintro e w7 ⟨h, rfl, hh, hh7, r7, b7⟩
  have hg3 := k3.lt
  have hg2 := k2.lt
  have NH := Lib.hid (show h ≠ g3 ∧ h ≠ g2 by omega)
  have LGH := Lib.hid (show g < h by omega)
  replace k3 := k3.below b7
  replace k2 := k2.below b7
  replace r6 := r6.of_below b7
  have b8 := b6.trans (b7.mono b6.size)
  have K2 := Lib.hid k2
  have R6 := Lib.hid r6
  have R7 := Lib.hid r7
  have B8 := Lib.hid b8
  obtain ⟨d0, d1, d2, d3, d4, d5, d6, d7, d8⟩ := k3.cell9
  obtain ⟨f0, f1, f2, f3, f4, f5, f6, f7, f8⟩ := k3.free9
  obtain ⟨j0, j1, j2, j3, j4, j5, j6, j7, j8⟩ := k2.free9
  obtain ⟨i0, i1, i2, i3, i4, i5, i6, i7, i8⟩ := k2.cell9
  clear k2 k3 r6 b6 hg3 hg2 hh hh7 r7 b7 b8 gl6 HR HN HQ HR2
  have hne : g2 ≠ g3 := N23.out
  go_wp2_with fail
  have k9 := (K2.out.far (p := ⟨g3, 8, none⟩) N23.out (.slice (some ⟨h, 0, none⟩) q q)).set9 (y0 := .int .i64 k) (y1 := .int .i64 o) (y2 := .int .i64 s) (y3 := .int .i64 t) (y4 := .int .i64 m) (y5 := .int .i64 f) (y6 := .int .i64 z) (y7 := .slice (some ⟨g, 0, none⟩) n n) (y8 := .slice (some ⟨h, 0, none⟩) q q)
  have r9 := (R6.out.far (p := ⟨g3, 8, none⟩) NG.out.1 (.slice (some ⟨h, 0, none⟩) q q)).far9 NG.out.2 (.int .i64 k) (.int .i64 o) (.int .i64 s) (.int .i64 t) (.int .i64 m) (.int .i64 f) (.int .i64 z) (.slice (some ⟨g, 0, none⟩) n n) (.slice (some ⟨h, 0, none⟩) q q)
  have s9 := (R7.out.far (p := ⟨g3, 8, none⟩) NH.out.1 (.slice (some ⟨h, 0, none⟩) q q)).far9 NH.out.2 (.int .i64 k) (.int .i64 o) (.int .i64 s) (.int .i64 t) (.int .i64 m) (.int .i64 f) (.int .i64 z) (.slice (some ⟨g, 0, none⟩) n n) (.slice (some ⟨h, 0, none⟩) q q)
  have b9 := below_set9 (B8.out.setCell (p := ⟨g3, 8, none⟩) G3.out (.slice (some ⟨h, 0, none⟩) q q)) G2.out (.int .i64 k) (.int .i64 o) (.int .i64 s) (.int .i64 t) (.int .i64 m) (.int .i64 f) (.int .i64 z) (.slice (some ⟨g, 0, none⟩) n n) (.slice (some ⟨h, 0, none⟩) q q)
  obtain ⟨z0, z1, z2, z3, z4, z5, z6, z7, z8⟩ := k9.cell9
  refine bodyPost_ret (v := .agg #[.int .i64 k, .int .i64 o, .int .i64 s, .int .i64 t, .int .i64 m, .int .i64 f, .int .i64 z, .slice (some ⟨g, 0, none⟩) n n, .slice (some ⟨h, 0, none⟩) q q]) ?_ rfl ⟨g, h, rfl, LG.out, LGH.out, r9, s9, b9⟩
  clear k9 r9 s9 b9 d0 d1 d2 d3 d4 d5 d6 d7 d8 f0 f1 f2 f3 f4 f5 f6 f7 f8 i0 i1 i2 i3 i4 i5 i6 i7 i8 j0 j1 j2 j3 j4 j5 j6 j7 j8
  generalize ((((((((((w7.setCell ⟨g3, 8, none⟩ (.slice (some ⟨h, 0, none⟩) q q)).setCell ⟨g2, 0, none⟩ (.int .i64 k)).setCell ⟨g2, 1, none⟩ (.int .i64 o)).setCell ⟨g2, 2, none⟩ (.int .i64 s)).setCell ⟨g2, 3, none⟩ (.int .i64 t)).setCell ⟨g2, 4, none⟩ (.int .i64 m)).setCell ⟨g2, 5, none⟩ (.int .i64 f)).setCell ⟨g2, 6, none⟩ (.int .i64 z)).setCell ⟨g2, 7, none⟩ (.slice (some ⟨g, 0, none⟩) n n)).setCell ⟨g2, 8, none⟩ (.slice (some ⟨h, 0, none⟩) q q)) = w9 at z0 z1 z2 z3 z4 z5 z6 z7 z8 ⊢
  simp [results, Try.results68, go_sem, z0, z1, z2, z3, z4, z5, z6, z7, z8]
end Qt
end Go.Proofs.Ytklefnmhknlilaa
