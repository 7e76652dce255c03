/- What the laws' own helpers on tensors (szTensor, toTensor, eqTensor) give when they are called. Conditions: the slice reads as the list that is named. -/
import Derived.Test.YtebldedmkpdgcaaBlk
namespace Go.Proofs.Ytebldedmkpdgcaa
open Go.RowKit
namespace Qt

/-- A new tensor that holds these numbers. -/
def NewT (W : World) (h w c : Int) (n : Nat) (xs : List Int) (e : Ending) (W' : World) : Prop :=
  ∃ g, e = .returned (.agg #[.int .i64 h, .int .i64 w, .int .i64 c, .slice (some ⟨g, 0, none⟩) n n]) ∧ W.heap.size ≤ g ∧ RdI W' (some ⟨g, 0, none⟩) n xs ∧ Below W.heap.size W W'

theorem toTensorL (h w c : Int) (A : Option Addr) (n p : Nat) (xs : List Int) (W : World) (hr : RdI W A n xs) (hn : n ≤ 1048576) :
    Calls Try.prog 51 #[.agg #[.int .i64 h, .int .i64 w, .int .i64 c, .slice A n p]] W (NewT W h w c n xs) := by
  have HN := Lib.hid hn
  have HR := Lib.hid hr
  clear hn hr
  go_enter Try.func51, Try.ntmps51
  go_wp2_with fail
  refine (toShapeL h w c _).mono ?_
  rintro e w1 ⟨rfl, b1⟩
  have k0 := (((Bk.new W 61 #[.int .i64 h, .int .i64 w, .int .i64 c, .slice A n p]).alloc _).alloc _).below b1
  have k2 := ((Bk.new (W.alloc (.cells #[.int .i64 h, .int .i64 w, .int .i64 c, .slice A n p] 61)) 68 #[.int .i64 0, .int .i64 0, .int .i64 0, .slice none 0 0]).alloc _).below b1
  have k3 := (Bk.new ((W.alloc (.cells #[.int .i64 h, .int .i64 w, .int .i64 c, .slice A n p] 61)).alloc (.cells #[.int .i64 0, .int .i64 0, .int .i64 0, .slice none 0 0] 68)) 68 #[.int .i64 0, .int .i64 0, .int .i64 0, .slice none 0 0]).below b1
  have b0 : Below W.heap.size W w1 := (((Below.refl _ W).alloc (Nat.le_refl _) _).alloc (by simp) _).alloc (by simp only [World.size_alloc]; omega) _ |>.trans (b1.mono (by simp only [World.size_alloc]; omega))
  simp only [World.size_alloc] at k2 k3
  clear b1
  have G2 := Lib.hid (show W.heap.size ≤ W.heap.size + 1 by omega)
  have G3 := Lib.hid (show W.heap.size ≤ W.heap.size + 1 + 1 by omega)
  have N23 := Lib.hid (show W.heap.size + 1 ≠ W.heap.size + 1 + 1 by omega)
  generalize W.heap.size + 1 + 1 = g3 at k3 G3 N23 ⊢
  generalize W.heap.size + 1 = g2 at k2 G2 N23 ⊢
  obtain ⟨c0, c1, c2, c3⟩ := k0.cell4
  obtain ⟨d0, d1, d2, d3⟩ := k3.cell4
  obtain ⟨f0, f1, f2, f3⟩ := k3.free4
  have B1 := Lib.hid b0
  have K2 := Lib.hid k2
  have K3 := Lib.hid k3
  clear k0 k2 k3 b0
  go_wp2_with fail
  have b4 := below_set3 B1.out G3.out (.int .i64 h) (.int .i64 w) (.int .i64 c)
  have k3 := ((K3.out.set 0 (.int .i64 h)).set 1 (.int .i64 w)).set 2 (.int .i64 c)
  have k2 := K2.out.far3 N23.out (.int .i64 h) (.int .i64 w) (.int .i64 c)
  simp only [List.setIfInBounds_toArray, List.set_cons_zero, List.set_cons_succ] at k3
  clear c0 c1 c2 c3 d0 d1 d2 d3 f0 f1 f2 f3 B1 K2 K3
  generalize ((w1.setCell { block := g3, off := 0 } (.int .i64 h)).setCell { block := g3, off := 1 } (.int .i64 w)).setCell { block := g3, off := 2 } (.int .i64 c) = w4 at b4 k3 k2 ⊢
  refine (toIntS_fresh A n p xs _ (HR.out.of_below b4) HN.out).mono ?_
  rintro e w5 ⟨g, rfl, hg, hg5, r5, b5⟩
  have hg3 := k3.lt
  have hg2 := k2.lt
  have NG := Lib.hid (show g ≠ g3 ∧ g ≠ g2 by omega)
  have LG := Lib.hid (show W.heap.size ≤ g from Nat.le_trans b4.size hg)
  replace k3 := k3.below b5
  replace k2 := k2.below b5
  have B5 := Lib.hid (b4.trans (b5.mono b4.size))
  obtain ⟨d0, d1, d2, d3⟩ := k3.cell4
  obtain ⟨f0, f1, f2, f3⟩ := k3.free4
  obtain ⟨i0, i1, i2, i3⟩ := k2.cell4
  obtain ⟨j0, j1, j2, j3⟩ := k2.free4
  have R5 := Lib.hid r5
  have K2 := Lib.hid k2
  clear k2 k3 hg3 hg2 hg hg5 r5 b5 b4 HR HN
  have hne : g2 ≠ g3 := N23.out
  go_wp2_with fail
  have k9 := (K2.out.far (p := ⟨g3, 3, none⟩) N23.out (.slice (some ⟨g, 0, none⟩) n n)).set4 (x := .int .i64 h) (y := .int .i64 w) (z := .int .i64 c) (u := .slice (some ⟨g, 0, none⟩) n n)
  have r9 := (R5.out.far (p := ⟨g3, 3, none⟩) NG.out.1 (.slice (some ⟨g, 0, none⟩) n n)).far4 NG.out.2 (.int .i64 h) (.int .i64 w) (.int .i64 c) (.slice (some ⟨g, 0, none⟩) n n)
  have b9 := below_set4 (B5.out.setCell (p := ⟨g3, 3, none⟩) G3.out (.slice (some ⟨g, 0, none⟩) n n)) G2.out (.int .i64 h) (.int .i64 w) (.int .i64 c) (.slice (some ⟨g, 0, none⟩) n n)
  obtain ⟨z0, z1, z2, z3⟩ := k9.cell4
  refine bodyPost_ret (v := .agg #[.int .i64 h, .int .i64 w, .int .i64 c, .slice (some ⟨g, 0, none⟩) n n]) ?_ rfl ⟨g, rfl, LG.out, r9, b9⟩
  clear k9 r9 b9 d0 d1 d2 d3 f0 f1 f2 f3 i0 i1 i2 i3 j0 j1 j2 j3
  generalize ((((w5.setCell { block := g3, off := 3 } (.slice (some { block := g, off := 0 }) n n)).setCell { block := g2, off := 0 } (.int .i64 h)).setCell { block := g2, off := 1 } (.int .i64 w)).setCell { block := g2, off := 2 } (.int .i64 c)).setCell { block := g2, off := 3 } (.slice (some { block := g, off := 0 }) n n) = w9 at z0 z1 z2 z3 ⊢
  simp [results, Try.results51, go_sem, z0, z1, z2, z3]

theorem szTensor_yes (h w c : Int) (A : Option Addr) (n p : Nat) (left : Int) (W : World) (hn : (n : Int) ≤ left) (hl : left ≤ 1048576) :
    Calls Try.prog 49 #[.agg #[.int .i64 h, .int .i64 w, .int .i64 c, .slice A n p], .int .i64 left] W fun e W' => e = .returned (.int .i64 (left - n)) ∧ Below W.heap.size W W' := by
  have h0 : (0 : Int) ≤ n := Int.natCast_nonneg n
  go_enter Try.func49, Try.ntmps49
  go_wp2
  go_ret
  exact ⟨rfl, (Below.refl _ W).alloc (Nat.le_refl _) _⟩
theorem szTensor_no (h w c : Int) (A : Option Addr) (n p : Nat) (left : Int) (W : World) (hn : left < (n : Int)) (hl : 0 ≤ left) (hm : (n : Int) ≤ 9223372036854775807) :
    Calls Try.prog 49 #[.agg #[.int .i64 h, .int .i64 w, .int .i64 c, .slice A n p], .int .i64 left] W fun e W' => e = .returned (.int .i64 (-1)) ∧ Below W.heap.size W W' := by
  have h0 : (0 : Int) ≤ n := Int.natCast_nonneg n
  go_enter Try.func49, Try.ntmps49
  go_wp2
  go_ret
  exact ⟨rfl, (Below.refl _ W).alloc (Nat.le_refl _) _⟩

theorem eqShape_same (h w c : Int) (W : World) :
    Calls Try.prog 106 #[.agg #[.int .i64 h, .int .i64 w, .int .i64 c], .agg #[.int .i64 h, .int .i64 w, .int .i64 c]] W fun e W' => e = .returned (.bool true) ∧ Below W.heap.size W W' := by
  go_enter Try.func106, Try.ntmps106
  go_wp2
  go_ret
  exact ⟨rfl, ((Below.refl _ W).alloc (Nat.le_refl _) _).alloc (by simp) _⟩

theorem eqTensor_same (h w c : Int) (A A2 : Option Addr) (n p p2 : Nat) (xs : List Int) (W : World) (hr : RdI W A n xs) (hr2 : RdI W A2 n xs) (hn : n ≤ 1048576) :
    Calls Try.prog 54 #[.agg #[.int .i64 h, .int .i64 w, .int .i64 c, .slice A n p], .agg #[.int .i64 h, .int .i64 w, .int .i64 c, .slice A2 n p2]] W fun e W' => e = .returned (.bool true) ∧ Below W.heap.size W W' := by
  have HN := Lib.hid hn
  have HR := Lib.hid hr
  have HR2 := Lib.hid hr2
  clear hn hr hr2
  go_enter Try.func54, Try.ntmps54
  go_wp2_with fail
  refine (eqShape_same h w c _).mono ?_
  rintro e w1 ⟨rfl, b1⟩
  have k0 := ((Bk.new W 68 #[.int .i64 h, .int .i64 w, .int .i64 c, .slice A n p]).alloc _).below b1
  have k1 := (Bk.new (W.alloc (.cells #[.int .i64 h, .int .i64 w, .int .i64 c, .slice A n p] 68)) 68 #[.int .i64 h, .int .i64 w, .int .i64 c, .slice A2 n p2]).below b1
  simp only [World.size_alloc] at k1
  have B1 := Lib.hid (((Below.refl _ W).alloc (Nat.le_refl _) _).alloc (by simp) _ |>.trans (b1.mono (by simp only [World.size_alloc]; omega)))
  obtain ⟨c0, c1, c2, c3⟩ := k0.cell4
  obtain ⟨d0, d1, d2, d3⟩ := k1.cell4
  clear b1 k0 k1
  go_wp2_with fail
  refine (eqIntS_same A A2 n p p2 xs _ (HR.out.of_below B1.out) (HR2.out.of_below B1.out) HN.out).mono ?_
  rintro e w2 ⟨rfl, m, hm⟩
  have B2 := Lib.hid (show Below W.heap.size W w2 from hm ▸ below_drewN B1.out m)
  clear hm B1 HR HR2 HN
  go_wp2_with fail
  go_ret
  exact ⟨rfl, B2.out⟩
end Qt
end Go.Proofs.Ytebldedmkpdgcaa
