/- Tasks as they lie in memory, what the laws' helpers on a task give, and TaskOk of the program and of its model. Conditions: the slice of costs reads as the list that is named. -/
import Derived.Test.YtihnpfcjnfkfjaaSca
import Derived.Test.YtihnpfcjnfkfjaaOwnI
namespace Go.Proofs.Ytihnpfcjnfkfjaa
open Go.RowKit Go.Sort
set_option linter.unusedSimpArgs false
set_option linter.unusedVariables false
namespace Qt
section
variable {w w' : World} {g : Nat} {t : TypeId} {cs : Array Value}
theorem Bk.cell5 {a b c d e : Value} (h : Bk w g t #[a, b, c, d, e]) : w.cell? ⟨g, 0, none⟩ = some a ∧ w.cell? ⟨g, 1, none⟩ = some b ∧ w.cell? ⟨g, 2, none⟩ = some c ∧ w.cell? ⟨g, 3, none⟩ = some d ∧ w.cell? ⟨g, 4, none⟩ = some e :=
  ⟨h.cell 0 rfl, h.cell 1 rfl, h.cell 2 rfl, h.cell 3 rfl, h.cell 4 rfl⟩
theorem Bk.free5 (h : Bk w g t cs) : w.frozen? ⟨g, 0, none⟩ = false ∧ w.frozen? ⟨g, 1, none⟩ = false ∧ w.frozen? ⟨g, 2, none⟩ = false ∧ w.frozen? ⟨g, 3, none⟩ = false ∧ w.frozen? ⟨g, 4, none⟩ = false := ⟨h.frozen 0, h.frozen 1, h.frozen 2, h.frozen 3, h.frozen 4⟩
def wset5 (w : World) (g : Nat) (a b c d e : Value) : World := ((((w.setCell ⟨g, 0, none⟩ a).setCell ⟨g, 1, none⟩ b).setCell ⟨g, 2, none⟩ c).setCell ⟨g, 3, none⟩ d).setCell ⟨g, 4, none⟩ e
theorem Bk.set5 {a b c d e x y z u v : Value} (h : Bk w g t #[a, b, c, d, e]) : Bk (wset5 w g x y z u v) g t #[x, y, z, u, v] := ((((h.set 0 x).set 1 y).set 2 z).set 3 u).set 4 v
theorem RdI.set5 {n : Nat} {xs : List Int} {g' : Nat} (h : RdI w (some ⟨g', 0, none⟩) n xs) (hne : g' ≠ g) (x y z u v : Value) : RdI (wset5 w g x y z u v) (some ⟨g', 0, none⟩) n xs :=
  ((((h.far (p := ⟨g, 0, none⟩) hne x).far (p := ⟨g, 1, none⟩) hne y).far (p := ⟨g, 2, none⟩) hne z).far (p := ⟨g, 3, none⟩) hne u).far (p := ⟨g, 4, none⟩) hne v
theorem below_set5 {B : Nat} {W : World} (h : Below B W w) (hB : B ≤ g) (x y z u v : Value) : Below B W (wset5 w g x y z u v) :=
  ((((h.setCell (p := ⟨g, 0, none⟩) hB x).setCell (p := ⟨g, 1, none⟩) hB y).setCell (p := ⟨g, 2, none⟩) hB z).setCell (p := ⟨g, 3, none⟩) hB u).setCell (p := ⟨g, 4, none⟩) hB v
end
/-- A task as a value. -/
abbrev Tk (id : Int) (A : Option Addr) (n p : Nat) (a d b : Int) : Value := .agg #[.int .i64 id, .slice A n p, .int .i64 a, .int .i64 d, .int .i64 b]
def NewTk (W : World) (id a d b : Int) (n : Nat) (xs : List Int) (e : Ending) (W' : World) : Prop :=
  ∃ g, e = .returned (.agg #[.int .i64 id, .slice (some ⟨g, 0, none⟩) n n, .int .i64 a, .int .i64 d, .int .i64 b]) ∧ W.heap.size ≤ g ∧ RdI W' (some ⟨g, 0, none⟩) n xs ∧ Below W.heap.size W W'
set_option maxHeartbeats 1000000 in
theorem toTaskL (id : Int) (A : Option Addr) (n p : Nat) (xs : List Int) (a d b : Int) (W : World) (hr : RdI W A n xs) (hn : n ≤ 1048576) :
    Calls Try.prog 71 #[.agg #[.int .i64 id, .slice A n p, .int .i64 a, .int .i64 d, .int .i64 b]] W (NewTk W id a d b n xs) := by
  have HN := Lib.hid hn
  have k0 := ((Bk.new W 83 #[.int .i64 id, .slice A n p, .int .i64 a, .int .i64 d, .int .i64 b]).alloc (.cells #[.int .i64 0, .slice none 0 0, .int .i64 0, .int .i64 0, .int .i64 0] 53)).alloc (.cells #[.int .i64 id, .slice none 0 0, .int .i64 0, .int .i64 0, .int .i64 0] 53)
  have k2 := (Bk.new (W.alloc (.cells #[.int .i64 id, .slice A n p, .int .i64 a, .int .i64 d, .int .i64 b] 83)) 53 #[.int .i64 0, .slice none 0 0, .int .i64 0, .int .i64 0, .int .i64 0]).alloc (.cells #[.int .i64 id, .slice none 0 0, .int .i64 0, .int .i64 0, .int .i64 0] 53)
  have k3 := Bk.new ((W.alloc (.cells #[.int .i64 id, .slice A n p, .int .i64 a, .int .i64 d, .int .i64 b] 83)).alloc (.cells #[.int .i64 0, .slice none 0 0, .int .i64 0, .int .i64 0, .int .i64 0] 53)) 53 #[.int .i64 id, .slice none 0 0, .int .i64 0, .int .i64 0, .int .i64 0]
  have b0 : Below W.heap.size W (((W.alloc (.cells #[.int .i64 id, .slice A n p, .int .i64 a, .int .i64 d, .int .i64 b] 83)).alloc (.cells #[.int .i64 0, .slice none 0 0, .int .i64 0, .int .i64 0, .int .i64 0] 53)).alloc (.cells #[.int .i64 id, .slice none 0 0, .int .i64 0, .int .i64 0, .int .i64 0] 53)) := (((Below.refl _ W).alloc (Nat.le_refl _) _).alloc (by simp) _).alloc (by simp only [World.size_alloc]; omega) _
  simp only [World.size_alloc] at k2 k3
  have G2 := Lib.hid (show W.heap.size ≤ W.heap.size + 1 by omega)
  have G3 := Lib.hid (show W.heap.size ≤ W.heap.size + 1 + 1 by omega)
  have N02 := Lib.hid (show W.heap.size ≠ W.heap.size + 1 + 1 by omega)
  have N23 := Lib.hid (show W.heap.size + 1 ≠ W.heap.size + 1 + 1 by omega)
  have HR := Lib.hid (hr.of_below b0)
  have K0 := Lib.hid k0; have K2 := Lib.hid k2; have K3 := Lib.hid k3; have B1 := Lib.hid b0
  clear hn hr k0 k2 k3 b0
  go_enter Try.func71, Try.ntmps71
  go_wp2_with fail
  generalize ((W.alloc (.cells #[.int .i64 id, .slice A n p, .int .i64 a, .int .i64 d, .int .i64 b] 83)).alloc (.cells #[.int .i64 0, .slice none 0 0, .int .i64 0, .int .i64 0, .int .i64 0] 53)).alloc (.cells #[.int .i64 id, .slice none 0 0, .int .i64 0, .int .i64 0, .int .i64 0] 53) = w1 at K0 K2 K3 B1 HR ⊢
  generalize W.heap.size + 1 + 1 = g3 at K3 G3 N02 N23 ⊢
  generalize W.heap.size + 1 = g2 at K2 G2 N23 ⊢
  refine (toIntS_fresh A n p xs _ HR.out HN.out).mono ?_
  rintro e w5 ⟨g, rfl, hg, hg5, r5, b5⟩
  have hg3 := K3.out.lt
  have hg2 := K2.out.lt
  have NG := Lib.hid (show g ≠ g3 ∧ g ≠ g2 by omega)
  have LG := Lib.hid (show W.heap.size ≤ g from Nat.le_trans B1.out.size hg)
  replace K0 := Lib.hid (K0.out.below b5)
  replace K2 := Lib.hid (K2.out.below b5)
  replace K3 := Lib.hid (K3.out.below b5)
  have B5 := Lib.hid (B1.out.trans (b5.mono B1.out.size))
  have R5 := Lib.hid r5
  clear hg3 hg2 hg hg5 r5 b5 B1 HR HN
  obtain ⟨c0, c1, c2, c3, c4⟩ := K0.out.cell5
  obtain ⟨d0, d1, d2, d3, d4⟩ := K3.out.cell5
  obtain ⟨f0, f1, f2, f3, f4⟩ := K3.out.free5
  obtain ⟨i0, i1, i2, i3, i4⟩ := K2.out.cell5
  obtain ⟨j0, j1, j2, j3, j4⟩ := K2.out.free5
  have hne : g2 ≠ g3 := N23.out
  have hne0 : W.heap.size ≠ g3 := N02.out
  have l3 := K3.out.lt
  go_wp2_with fail
  have k9 : Bk (wset5 ((((w5.setCell ⟨g3, 1, none⟩ (.slice (some ⟨g, 0, none⟩) n n)).setCell ⟨g3, 2, none⟩ (.int .i64 a)).setCell ⟨g3, 3, none⟩ (.int .i64 d)).setCell ⟨g3, 4, none⟩ (.int .i64 b)) g2 (.int .i64 id) (.slice (some ⟨g, 0, none⟩) n n) (.int .i64 a) (.int .i64 d) (.int .i64 b)) g2 53 #[.int .i64 id, .slice (some ⟨g, 0, none⟩) n n, .int .i64 a, .int .i64 d, .int .i64 b] :=
    ((((K2.out.far (p := ⟨g3, 1, none⟩) hne (.slice (some ⟨g, 0, none⟩) n n)).far (p := ⟨g3, 2, none⟩) hne (.int .i64 a)).far (p := ⟨g3, 3, none⟩) hne (.int .i64 d)).far (p := ⟨g3, 4, none⟩) hne (.int .i64 b)).set5
  have r9 : RdI (wset5 ((((w5.setCell ⟨g3, 1, none⟩ (.slice (some ⟨g, 0, none⟩) n n)).setCell ⟨g3, 2, none⟩ (.int .i64 a)).setCell ⟨g3, 3, none⟩ (.int .i64 d)).setCell ⟨g3, 4, none⟩ (.int .i64 b)) g2 (.int .i64 id) (.slice (some ⟨g, 0, none⟩) n n) (.int .i64 a) (.int .i64 d) (.int .i64 b)) (some ⟨g, 0, none⟩) n xs :=
    ((((R5.out.far (p := ⟨g3, 1, none⟩) NG.out.1 (.slice (some ⟨g, 0, none⟩) n n)).far (p := ⟨g3, 2, none⟩) NG.out.1 (.int .i64 a)).far (p := ⟨g3, 3, none⟩) NG.out.1 (.int .i64 d)).far (p := ⟨g3, 4, none⟩) NG.out.1 (.int .i64 b)).set5 NG.out.2 _ _ _ _ _
  have b9 : Below W.heap.size W (wset5 ((((w5.setCell ⟨g3, 1, none⟩ (.slice (some ⟨g, 0, none⟩) n n)).setCell ⟨g3, 2, none⟩ (.int .i64 a)).setCell ⟨g3, 3, none⟩ (.int .i64 d)).setCell ⟨g3, 4, none⟩ (.int .i64 b)) g2 (.int .i64 id) (.slice (some ⟨g, 0, none⟩) n n) (.int .i64 a) (.int .i64 d) (.int .i64 b)) :=
    below_set5 ((((B5.out.setCell (p := ⟨g3, 1, none⟩) G3.out (.slice (some ⟨g, 0, none⟩) n n)).setCell (p := ⟨g3, 2, none⟩) G3.out (.int .i64 a)).setCell (p := ⟨g3, 3, none⟩) G3.out (.int .i64 d)).setCell (p := ⟨g3, 4, none⟩) G3.out (.int .i64 b)) G2.out _ _ _ _ _
  obtain ⟨z0, z1, z2, z3, z4⟩ := k9.cell5
  refine bodyPost_ret (v := .agg #[.int .i64 id, .slice (some ⟨g, 0, none⟩) n n, .int .i64 a, .int .i64 d, .int .i64 b]) ?_ rfl ⟨g, rfl, LG.out, r9, b9⟩
  change World.cell? (wset5 ((((w5.setCell ⟨g3, 1, none⟩ (.slice (some ⟨g, 0, none⟩) n n)).setCell ⟨g3, 2, none⟩ (.int .i64 a)).setCell ⟨g3, 3, none⟩ (.int .i64 d)).setCell ⟨g3, 4, none⟩ (.int .i64 b)) g2 (.int .i64 id) (.slice (some ⟨g, 0, none⟩) n n) (.int .i64 a) (.int .i64 d) (.int .i64 b)) _ = _ at z0
  clear k9 r9 b9 c0 c1 c2 c3 c4 d0 d1 d2 d3 d4 f0 f1 f2 f3 f4 i0 i1 i2 i3 i4 j0 j1 j2 j3 j4
  simp only [wset5] at z0 z1 z2 z3 z4
  generalize (((((((w5.setCell ⟨g3, 1, none⟩ (.slice (some ⟨g, 0, none⟩) n n)).setCell ⟨g3, 2, none⟩ (.int .i64 a)).setCell ⟨g3, 3, none⟩ (.int .i64 d)).setCell ⟨g3, 4, none⟩ (.int .i64 b)).setCell ⟨g2, 0, none⟩ (.int .i64 id)).setCell ⟨g2, 1, none⟩ (.slice (some ⟨g, 0, none⟩) n n)).setCell ⟨g2, 2, none⟩ (.int .i64 a)).setCell ⟨g2, 3, none⟩ (.int .i64 d) = w8 at z0 z1 z2 z3 z4 ⊢
  generalize w8.setCell ⟨g2, 4, none⟩ (.int .i64 b) = w9 at z0 z1 z2 z3 z4 ⊢
  simp [results, Try.results71, go_sem, z0, z1, z2, z3, z4]
/-- TaskOk. -/
def taskB (id : Int) (xs : List Int) (a d b : Int) : Bool :=
  inB 1 1000000 id && (inB 1 6 (xs.length : Int) && (allIn 1 1000 xs && (inB 0 ((xs.length : Int) - 1) a && (inB 0 1000000 d && inB 0 1000000 b))))
theorem szTask_yes (id : Int) (A : Option Addr) (n p : Nat) (a d b left : Int) (W : World) (hn : (n : Int) ≤ left) (hl : left ≤ 1048576) :
    Calls Try.prog 70 #[.agg #[.int .i64 id, .slice A n p, .int .i64 a, .int .i64 d, .int .i64 b], .int .i64 left] W fun e W' => e = .returned (.int .i64 (left - n)) ∧ Below W.heap.size W W' := by
  have h0 : (0 : Int) ≤ n := Int.natCast_nonneg n
  go_enter Try.func70, Try.ntmps70
  go_wp2
  go_ret
  exact ⟨rfl, (Below.refl _ W).alloc (Nat.le_refl _) _⟩
theorem szTask_no (id : Int) (A : Option Addr) (n p : Nat) (a d b left : Int) (W : World) (hn : left < (n : Int)) (hl : 0 ≤ left) (hm : (n : Int) ≤ 9223372036854775807) :
    Calls Try.prog 70 #[.agg #[.int .i64 id, .slice A n p, .int .i64 a, .int .i64 d, .int .i64 b], .int .i64 left] W fun e W' => e = .returned (.int .i64 (-1)) ∧ Below W.heap.size W W' := by
  have h0 : (0 : Int) ≤ n := Int.natCast_nonneg n
  go_enter Try.func70, Try.ntmps70
  go_wp2
  go_ret
  exact ⟨rfl, (Below.refl _ W).alloc (Nat.le_refl _) _⟩
theorem new5 (W : World) (t : TypeId) (x y z u v : Value) : (W.alloc (.cells #[x, y, z, u, v] t)).cell? ⟨W.heap.size, 0, none⟩ = some x ∧ (W.alloc (.cells #[x, y, z, u, v] t)).cell? ⟨W.heap.size, 1, none⟩ = some y ∧ (W.alloc (.cells #[x, y, z, u, v] t)).cell? ⟨W.heap.size, 2, none⟩ = some z ∧ (W.alloc (.cells #[x, y, z, u, v] t)).cell? ⟨W.heap.size, 3, none⟩ = some u ∧ (W.alloc (.cells #[x, y, z, u, v] t)).cell? ⟨W.heap.size, 4, none⟩ = some v := (Bk.new W t #[x, y, z, u, v]).cell5
set_option maxHeartbeats 1000000 in
theorem eqTask_same (id : Int) (A A2 : Option Addr) (n p p2 : Nat) (xs : List Int) (a d b : Int) (W : World) (hr : RdI W A n xs) (hr2 : RdI W A2 n xs) (hn : n ≤ 1048576) :
    Calls Try.prog 75 #[.agg #[.int .i64 id, .slice A n p, .int .i64 a, .int .i64 d, .int .i64 b], .agg #[.int .i64 id, .slice A2 n p2, .int .i64 a, .int .i64 d, .int .i64 b]] W fun e W' => e = .returned (.bool true) ∧ Below W.heap.size W W' := by
  have k0 := (Bk.new W 53 #[.int .i64 id, .slice A n p, .int .i64 a, .int .i64 d, .int .i64 b]).alloc (.cells #[.int .i64 id, .slice A2 n p2, .int .i64 a, .int .i64 d, .int .i64 b] 53)
  have k1 := Bk.new (W.alloc (.cells #[.int .i64 id, .slice A n p, .int .i64 a, .int .i64 d, .int .i64 b] 53)) 53 #[.int .i64 id, .slice A2 n p2, .int .i64 a, .int .i64 d, .int .i64 b]
  have b0 := ((Below.refl _ W).alloc (Nat.le_refl _) (.cells #[.int .i64 id, .slice A n p, .int .i64 a, .int .i64 d, .int .i64 b] 53)).alloc (by simp) (.cells #[.int .i64 id, .slice A2 n p2, .int .i64 a, .int .i64 d, .int .i64 b] 53)
  simp only [World.size_alloc] at k1
  have R1 := Lib.hid (hr.of_below b0)
  have R2 := Lib.hid (hr2.of_below b0)
  have HN := Lib.hid hn
  have K0 := Lib.hid k0; have K1 := Lib.hid k1; have Bl := Lib.hid b0
  obtain ⟨c0, c1, c2, c3, c4⟩ := k0.cell5
  obtain ⟨d0, d1, d2, d3, d4⟩ := k1.cell5
  clear hr hr2 hn k0 k1 b0
  go_enter Try.func75, Try.ntmps75
  go_wp2_with fail
  generalize (W.alloc (.cells #[.int .i64 id, .slice A n p, .int .i64 a, .int .i64 d, .int .i64 b] 53)).alloc (.cells #[.int .i64 id, .slice A2 n p2, .int .i64 a, .int .i64 d, .int .i64 b] 53) = v at R1 R2 K0 K1 Bl ⊢
  generalize W.heap.size + 1 = g1 at K1 ⊢
  refine (eqIntS_same _ _ _ _ _ xs _ R1.out R2.out HN.out).mono ?_
  rintro e w2 ⟨rfl, mm, hmm⟩
  have bb := below_drewN (Below.refl v.heap.size v) mm
  rw [← hmm] at bb
  replace K0 := Lib.hid (K0.out.below bb)
  replace K1 := Lib.hid (K1.out.below bb)
  replace Bl := Lib.hid (Bl.out.trans (bb.mono Bl.out.size))
  clear bb hmm c0 c1 c2 c3 c4 d0 d1 d2 d3 d4
  obtain ⟨c0, c1, c2, c3, c4⟩ := K0.out.cell5
  obtain ⟨d0, d1, d2, d3, d4⟩ := K1.out.cell5
  go_wp2_with fail
  go_ret
  exact ⟨rfl, Bl.out⟩
end Qt
end Go.Proofs.Ytihnpfcjnfkfjaa
