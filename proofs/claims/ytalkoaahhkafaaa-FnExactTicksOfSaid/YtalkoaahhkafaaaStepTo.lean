/- What the laws' own helper toStep gives when it is called: a step whose slices are new. Conditions: the slices read as the lists that are named. -/
import Derived.Test.YtalkoaahhkafaaaSteps
import Derived.Test.YtalkoaahhkafaaaTen
import Derived.Test.YtalkoaahhkafaaaNewI
namespace Go.Proofs.Ytalkoaahhkafaaa
open Go.RowKit Go.Sort
set_option linter.unusedSimpArgs false
set_option linter.unusedVariables false
namespace Qt
section
variable {w w' : World} {g : Nat} {t : TypeId} {cs : Array Value}
theorem Bk.free8 (h : Bk w g t cs) : w.frozen? ⟨g, 0, none⟩ = false ∧ w.frozen? ⟨g, 1, none⟩ = false ∧ w.frozen? ⟨g, 2, none⟩ = false ∧ w.frozen? ⟨g, 3, none⟩ = false ∧ w.frozen? ⟨g, 4, none⟩ = false ∧ w.frozen? ⟨g, 5, none⟩ = false ∧ w.frozen? ⟨g, 6, none⟩ = false ∧ w.frozen? ⟨g, 7, none⟩ = false := ⟨h.frozen 0, h.frozen 1, h.frozen 2, h.frozen 3, h.frozen 4, h.frozen 5, h.frozen 6, h.frozen 7⟩
def ws8 (w : World) (g : Nat) (y0 y1 y2 y3 y4 y5 y6 y7 : Value) : World := (((((((w.setCell ⟨g, 0, none⟩ y0).setCell ⟨g, 1, none⟩ y1).setCell ⟨g, 2, none⟩ y2).setCell ⟨g, 3, none⟩ y3).setCell ⟨g, 4, none⟩ y4).setCell ⟨g, 5, none⟩ y5).setCell ⟨g, 6, none⟩ y6).setCell ⟨g, 7, none⟩ y7
def ws4 (w : World) (g : Nat) (y4 y5 y6 y7 : Value) : World := (((w.setCell ⟨g, 4, none⟩ y4).setCell ⟨g, 5, none⟩ y5).setCell ⟨g, 6, none⟩ y6).setCell ⟨g, 7, none⟩ y7
theorem RdI.ws8 {b n : Nat} {xs : List Int} (h : RdI w (some ⟨b, 0, none⟩) n xs) (hp : b ≠ g) (y0 y1 y2 y3 y4 y5 y6 y7 : Value) : RdI (ws8 w g y0 y1 y2 y3 y4 y5 y6 y7) (some ⟨b, 0, none⟩) n xs :=
  (((((((h.far (p := ⟨g, 0, none⟩) hp y0).far (p := ⟨g, 1, none⟩) hp y1).far (p := ⟨g, 2, none⟩) hp y2).far (p := ⟨g, 3, none⟩) hp y3).far (p := ⟨g, 4, none⟩) hp y4).far (p := ⟨g, 5, none⟩) hp y5).far (p := ⟨g, 6, none⟩) hp y6).far (p := ⟨g, 7, none⟩) hp y7
theorem RdB8.ws8 {b n : Nat} {xs : List Int} (h : RdB8 w (some ⟨b, 0, none⟩) n xs) (hp : b ≠ g) (y0 y1 y2 y3 y4 y5 y6 y7 : Value) : RdB8 (ws8 w g y0 y1 y2 y3 y4 y5 y6 y7) (some ⟨b, 0, none⟩) n xs :=
  (((((((h.far (p := ⟨g, 0, none⟩) hp y0).far (p := ⟨g, 1, none⟩) hp y1).far (p := ⟨g, 2, none⟩) hp y2).far (p := ⟨g, 3, none⟩) hp y3).far (p := ⟨g, 4, none⟩) hp y4).far (p := ⟨g, 5, none⟩) hp y5).far (p := ⟨g, 6, none⟩) hp y6).far (p := ⟨g, 7, none⟩) hp y7
theorem RdI.ws4 {b n : Nat} {xs : List Int} (h : RdI w (some ⟨b, 0, none⟩) n xs) (hp : b ≠ g) (y4 y5 y6 y7 : Value) : RdI (ws4 w g y4 y5 y6 y7) (some ⟨b, 0, none⟩) n xs :=
  (((h.far (p := ⟨g, 4, none⟩) hp y4).far (p := ⟨g, 5, none⟩) hp y5).far (p := ⟨g, 6, none⟩) hp y6).far (p := ⟨g, 7, none⟩) hp y7
theorem RdB8.ws4 {b n : Nat} {xs : List Int} (h : RdB8 w (some ⟨b, 0, none⟩) n xs) (hp : b ≠ g) (y4 y5 y6 y7 : Value) : RdB8 (ws4 w g y4 y5 y6 y7) (some ⟨b, 0, none⟩) n xs :=
  (((h.far (p := ⟨g, 4, none⟩) hp y4).far (p := ⟨g, 5, none⟩) hp y5).far (p := ⟨g, 6, none⟩) hp y6).far (p := ⟨g, 7, none⟩) hp y7
theorem Bk.far4b {b : Nat} (h : Bk w b t cs) (hp : b ≠ g) (y4 y5 y6 y7 : Value) : Bk (ws4 w g y4 y5 y6 y7) b t cs :=
  (((h.far (p := ⟨g, 4, none⟩) hp y4).far (p := ⟨g, 5, none⟩) hp y5).far (p := ⟨g, 6, none⟩) hp y6).far (p := ⟨g, 7, none⟩) hp y7
theorem below_ws4 {C : Nat} {W : World} (h : Below C W w) (hC : C ≤ g) (y4 y5 y6 y7 : Value) : Below C W (ws4 w g y4 y5 y6 y7) :=
  (((h.setCell (p := ⟨g, 4, none⟩) hC y4).setCell (p := ⟨g, 5, none⟩) hC y5).setCell (p := ⟨g, 6, none⟩) hC y6).setCell (p := ⟨g, 7, none⟩) hC y7
end
def NewStp (W : World) (k a b h w c : Int) (n : Nat) (bs : List Int) (q : Nat) (xs : List Int) (e : Ending) (W' : World) : Prop :=
  ∃ ga gb, e = .returned (.agg #[.int .i64 k, .int .i64 a, .int .i64 b, .slice (some ⟨ga, 0, none⟩) n n, .int .i64 h, .int .i64 w, .int .i64 c, .slice (some ⟨gb, 0, none⟩) q q]) ∧ W.heap.size ≤ ga ∧ W.heap.size ≤ gb ∧ RdB8 W' (some ⟨ga, 0, none⟩) n bs ∧ RdI W' (some ⟨gb, 0, none⟩) q xs ∧ Below W.heap.size W W'
set_option maxHeartbeats 2000000 in
theorem toStepL (k a b h w c : Int) (A : Option Addr) (n p : Nat) (bs : List Int) (B : Option Addr) (q r : Nat) (xs : List Int) (W : World) (hr : RdB8 W A n bs) (hs : RdI W B q xs) (hn : n ≤ 1048576) (hq : q ≤ 1048576) :
    Calls Try.prog 36 #[.agg #[.int .i64 k, .int .i64 a, .int .i64 b, .slice A n p, .int .i64 h, .int .i64 w, .int .i64 c, .slice B q r]] W (NewStp W k a b h w c n bs q xs) := by
  have HN := Lib.hid hn; have HQ := Lib.hid hq
  have k0 := ((Bk.new W 51 #[.int .i64 k, .int .i64 a, .int .i64 b, .slice A n p, .int .i64 h, .int .i64 w, .int .i64 c, .slice B q r]).alloc (.cells #[.int .i64 0, .int .i64 0, .int .i64 0, .slice none 0 0, .int .i64 0, .int .i64 0, .int .i64 0, .slice none 0 0] 59)).alloc (.cells #[.int .i64 k, .int .i64 a, .int .i64 b, .slice none 0 0, .int .i64 0, .int .i64 0, .int .i64 0, .slice none 0 0] 59)
  have k2 := (Bk.new (W.alloc (.cells #[.int .i64 k, .int .i64 a, .int .i64 b, .slice A n p, .int .i64 h, .int .i64 w, .int .i64 c, .slice B q r] 51)) 59 #[.int .i64 0, .int .i64 0, .int .i64 0, .slice none 0 0, .int .i64 0, .int .i64 0, .int .i64 0, .slice none 0 0]).alloc (.cells #[.int .i64 k, .int .i64 a, .int .i64 b, .slice none 0 0, .int .i64 0, .int .i64 0, .int .i64 0, .slice none 0 0] 59)
  have k3 := Bk.new ((W.alloc (.cells #[.int .i64 k, .int .i64 a, .int .i64 b, .slice A n p, .int .i64 h, .int .i64 w, .int .i64 c, .slice B q r] 51)).alloc (.cells #[.int .i64 0, .int .i64 0, .int .i64 0, .slice none 0 0, .int .i64 0, .int .i64 0, .int .i64 0, .slice none 0 0] 59)) 59 #[.int .i64 k, .int .i64 a, .int .i64 b, .slice none 0 0, .int .i64 0, .int .i64 0, .int .i64 0, .slice none 0 0]
  have b0 : Below W.heap.size W (((W.alloc (.cells #[.int .i64 k, .int .i64 a, .int .i64 b, .slice A n p, .int .i64 h, .int .i64 w, .int .i64 c, .slice B q r] 51)).alloc (.cells #[.int .i64 0, .int .i64 0, .int .i64 0, .slice none 0 0, .int .i64 0, .int .i64 0, .int .i64 0, .slice none 0 0] 59)).alloc (.cells #[.int .i64 k, .int .i64 a, .int .i64 b, .slice none 0 0, .int .i64 0, .int .i64 0, .int .i64 0, .slice none 0 0] 59)) := (((Below.refl _ W).alloc (Nat.le_refl _) _).alloc (by simp) _).alloc (by simp only [World.size_alloc]; omega) _
  simp only [World.size_alloc] at k2 k3
  have G2 := Lib.hid (show W.heap.size ≤ W.heap.size + 1 by omega)
  have G3 := Lib.hid (show W.heap.size ≤ W.heap.size + 1 + 1 by omega)
  have N02 := Lib.hid (show W.heap.size ≠ W.heap.size + 1 + 1 by omega)
  have N23 := Lib.hid (show W.heap.size + 1 ≠ W.heap.size + 1 + 1 by omega)
  have HR := Lib.hid (hr.of_below b0); have HS := Lib.hid (hs.of_below b0); have HS0 := Lib.hid hs
  have K0 := Lib.hid k0; have K2 := Lib.hid k2; have K3 := Lib.hid k3; have B1 := Lib.hid b0
  clear hn hq hr hs k0 k2 k3 b0
  go_enter Try.func36, Try.ntmps36
  go_wp2_with fail
  generalize ((W.alloc (.cells #[.int .i64 k, .int .i64 a, .int .i64 b, .slice A n p, .int .i64 h, .int .i64 w, .int .i64 c, .slice B q r] 51)).alloc (.cells #[.int .i64 0, .int .i64 0, .int .i64 0, .slice none 0 0, .int .i64 0, .int .i64 0, .int .i64 0, .slice none 0 0] 59)).alloc (.cells #[.int .i64 k, .int .i64 a, .int .i64 b, .slice none 0 0, .int .i64 0, .int .i64 0, .int .i64 0, .slice none 0 0] 59) = w1 at K0 K2 K3 B1 HR HS ⊢
  generalize W.heap.size + 1 + 1 = g3 at K3 G3 N02 N23 ⊢
  generalize W.heap.size + 1 = g2 at K2 G2 N23 ⊢
  refine (toByteS_fresh A n p bs _ HR.out HN.out).mono ?_
  rintro e w5 ⟨ga, rfl, hg, hg5, r5, b5⟩
  have hg3 := K3.out.lt
  have hg2 := K2.out.lt
  have NGA := Lib.hid (show ga ≠ g3 ∧ ga ≠ g2 by omega)
  have LGA := Lib.hid (show W.heap.size ≤ ga from Nat.le_trans B1.out.size hg)
  replace K0 := Lib.hid (K0.out.below b5)
  replace K2 := Lib.hid (K2.out.below b5)
  replace K3 := Lib.hid (K3.out.below b5)
  replace HS := Lib.hid (HS.out.of_below b5)
  have B5 := Lib.hid (B1.out.trans (b5.mono B1.out.size))
  have R5 := Lib.hid r5
  clear hg3 hg2 hg hg5 r5 b5 B1 HR HN
  obtain ⟨c0, c1, c2, c3, c4, c5, c6, c7⟩ := K0.out.cell8
  obtain ⟨d0, d1, d2, d3, d4, d5, d6, d7⟩ := K3.out.cell8
  obtain ⟨f0, f1, f2, f3, f4, f5, f6, f7⟩ := K3.out.free8
  have hne : g2 ≠ g3 := N23.out
  have hne0 : W.heap.size ≠ g3 := N02.out
  go_wp2_with fail
  have L3 := K3.out.lt
  have L2 := K2.out.lt
  have LA : ga < w5.heap.size ∨ n = 0 := by
    by_cases h0 : 0 < n
    · obtain ⟨b', off, e, hlt, _⟩ := R5.out.2 h0
      cases e; exact Or.inl hlt
    · exact Or.inr (by omega)
  have bs3 := (Below.refl w5.heap.size w5)
  replace K3 := Lib.hid (K3.out.set 3 (.slice (some ⟨ga, 0, none⟩) n n))
  replace K2 := Lib.hid (K2.out.far (p := ⟨g3, 3, none⟩) hne (.slice (some ⟨ga, 0, none⟩) n n))
  replace K0 := Lib.hid (K0.out.far (p := ⟨g3, 3, none⟩) hne0 (.slice (some ⟨ga, 0, none⟩) n n))
  replace R5 := Lib.hid (R5.out.far (p := ⟨g3, 3, none⟩) NGA.out.1 (.slice (some ⟨ga, 0, none⟩) n n))
  replace B5 := Lib.hid (B5.out.setCell (p := ⟨g3, 3, none⟩) G3.out (.slice (some ⟨ga, 0, none⟩) n n))
  have HS6 := Lib.hid (HS0.out.of_below B5.out)
  simp only [List.setIfInBounds_toArray, List.set_cons_zero, List.set_cons_succ] at K3
  have hsz : w5.heap.size = (w5.setCell ⟨g3, 3, none⟩ (.slice (some ⟨ga, 0, none⟩) n n)).heap.size := by rw [World.size_setCell]
  clear c0 c1 c2 c3 c4 c5 c6 c7 d0 d1 d2 d3 d4 d5 d6 d7 f0 f1 f2 f3 f4 f5 f6 f7 LA bs3
  rw [hsz] at L2 L3
  clear hsz
  generalize w5.setCell ⟨g3, 3, none⟩ (.slice (some ⟨ga, 0, none⟩) n n) = w6 at K0 K2 K3 R5 B5 HS6 L2 L3 ⊢
  refine (toTensorL h w c B q r xs _ HS6.out HQ.out).mono ?_
  rintro e w7 ⟨gb, rfl, hgb, rb, b7⟩
  have NGB := Lib.hid (show gb ≠ g3 ∧ gb ≠ g2 by omega)
  have LGB := Lib.hid (show W.heap.size ≤ gb from Nat.le_trans B5.out.size hgb)
  replace K0 := Lib.hid (K0.out.below b7)
  replace K2 := Lib.hid (K2.out.below b7)
  replace K3 := Lib.hid (K3.out.below b7)
  replace R5 := Lib.hid (R5.out.of_below b7)
  replace B5 := Lib.hid (B5.out.trans (b7.mono B5.out.size))
  have RB := Lib.hid rb
  clear hgb rb b7 HS6 HQ
  obtain ⟨d0, d1, d2, d3, d4, d5, d6, d7⟩ := K3.out.cell8
  obtain ⟨f0, f1, f2, f3, f4, f5, f6, f7⟩ := K3.out.free8
  obtain ⟨i0, i1, i2, i3, i4, i5, i6, i7⟩ := K2.out.cell8
  obtain ⟨j0, j1, j2, j3, j4, j5, j6, j7⟩ := K2.out.free8
  have l3 := K3.out.lt
  have l2 := K2.out.lt
  go_wp2_with fail
  have k9 := ((K2.out.far4b hne (.int .i64 h) (.int .i64 w) (.int .i64 c) (.slice (some ⟨gb, 0, none⟩) q q)).set8 (.int .i64 k) (.int .i64 a) (.int .i64 b) (.slice (some ⟨ga, 0, none⟩) n n) (.int .i64 h) (.int .i64 w) (.int .i64 c) (.slice (some ⟨gb, 0, none⟩) q q))
  have r9 := (R5.out.ws4 NGA.out.1 (.int .i64 h) (.int .i64 w) (.int .i64 c) (.slice (some ⟨gb, 0, none⟩) q q)).ws8 NGA.out.2 (.int .i64 k) (.int .i64 a) (.int .i64 b) (.slice (some ⟨ga, 0, none⟩) n n) (.int .i64 h) (.int .i64 w) (.int .i64 c) (.slice (some ⟨gb, 0, none⟩) q q)
  have rb9 := (RB.out.ws4 NGB.out.1 (.int .i64 h) (.int .i64 w) (.int .i64 c) (.slice (some ⟨gb, 0, none⟩) q q)).ws8 NGB.out.2 (.int .i64 k) (.int .i64 a) (.int .i64 b) (.slice (some ⟨ga, 0, none⟩) n n) (.int .i64 h) (.int .i64 w) (.int .i64 c) (.slice (some ⟨gb, 0, none⟩) q q)
  have b9 := below_set8 (below_ws4 B5.out G3.out (.int .i64 h) (.int .i64 w) (.int .i64 c) (.slice (some ⟨gb, 0, none⟩) q q)) G2.out (.int .i64 k) (.int .i64 a) (.int .i64 b) (.slice (some ⟨ga, 0, none⟩) n n) (.int .i64 h) (.int .i64 w) (.int .i64 c) (.slice (some ⟨gb, 0, none⟩) q q)
  obtain ⟨z0, z1, z2, z3, z4, z5, z6, z7⟩ := k9.cell8
  refine bodyPost_ret (v := .agg #[.int .i64 k, .int .i64 a, .int .i64 b, .slice (some ⟨ga, 0, none⟩) n n, .int .i64 h, .int .i64 w, .int .i64 c, .slice (some ⟨gb, 0, none⟩) q q]) ?_ rfl ⟨ga, gb, rfl, LGA.out, LGB.out, r9, rb9, b9⟩
  clear k9 r9 rb9 b9 d0 d1 d2 d3 d4 d5 d6 d7 f0 f1 f2 f3 f4 f5 f6 f7 i0 i1 i2 i3 i4 i5 i6 i7 j0 j1 j2 j3 j4 j5 j6 j7
  simp only [ws4] at z0 z1 z2 z3 z4 z5 z6 z7
  simp [results, Try.results36, go_sem, z0, z1, z2, z3, z4, z5, z6, z7]
end Qt
end Go.Proofs.Ytalkoaahhkafaaa
