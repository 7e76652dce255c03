/- What the methods 'then' of the program's kernels give when they are called. Conditions: those that are named. -/
import Derived.Test.YtbmchpoffceehaaQBaseC
import Derived.Deep.RegionHeld3
namespace Go.Proofs.Ytbmchpoffceehaa
open Go.RowKit Go.Sort
set_option linter.unusedSimpArgs false
set_option linter.unusedVariables false
namespace Qt
theorem cellFar3 {w : World} {p : Addr} {g : Nat} {v : Value} (hp : g ≠ p.block) (h : w.cell? p = some v) (x y z : Value) : (((w.setCell ⟨g, 0, none⟩ x).setCell ⟨g, 1, none⟩ y).setCell ⟨g, 2, none⟩ z).cell? p = some v := by
  rw [World.cell?_setCell_other _ _ _ _ (fun e => hp (by subst e; rfl)), World.cell?_setCell_other _ _ _ _ (fun e => hp (by subst e; rfl)), World.cell?_setCell_other _ _ _ _ (fun e => hp (by subst e; rfl))]
  exact h
/-- A world behind the boxing of a receiver and of a shape, with a block for the shape that is answered. -/
structure Pk (W : World) (gF gS gR : Nat) (tF tS : TypeId) (F S : Array Value) (A : Option Addr) (n : Nat) (xs : List Int) (B : Option Addr) (q : Nat) (ys : List Int) (w : World) : Prop where
  f : Bk w gF tF F
  s : Bk w gS tS S
  r : Bk w gR tS #[.int .i64 0, .int .i64 0, .int .i64 0]
  ra : RdI w A n xs
  rb : RdI w B q ys
  bl : Below W.heap.size W w
  nf : gF ≠ gR
  ns : gS ≠ gR
  le : W.heap.size ≤ gR
section
variable {W w w' : World} {gF gS gR : Nat} {tF tS : TypeId} {F S : Array Value} {A : Option Addr} {n : Nat} {xs : List Int} {B : Option Addr} {q : Nat} {ys : List Int}
theorem Pk.below (h : Hid (Pk W gF gS gR tF tS F S A n xs B q ys w)) (bb : Below w.heap.size w w') : Hid (Pk W gF gS gR tF tS F S A n xs B q ys w') :=
  Lib.hid ⟨h.out.f.below bb, h.out.s.below bb, h.out.r.below bb, h.out.ra.of_below bb, h.out.rb.of_below bb, h.out.bl.trans (bb.mono h.out.bl.size), h.out.nf, h.out.ns, h.out.le⟩
theorem Pk.alloc (h : Hid (Pk W gF gS gR tF tS F S A n xs B q ys w)) (o : Obj) : Hid (Pk W gF gS gR tF tS F S A n xs B q ys (w.alloc o)) :=
  Pk.below h ((Below.refl _ w).alloc (Nat.le_refl _) o)
theorem Pk.drew (h : Hid (Pk W gF gS gR tF tS F S A n xs B q ys w)) : Hid (Pk W gF gS gR tF tS F S A n xs B q ys w.drew) :=
  Pk.below h (Below.refl _ w).drew
theorem Pk.start (W : World) (tF tS : TypeId) (F S : Array Value) (ra : RdI W A n xs) (rb : RdI W B q ys) :
    Hid (Pk W W.heap.size (W.heap.size + 1) (W.heap.size + 1 + 1) tF tS F S A n xs B q ys (((W.alloc (.cells F tF)).alloc (.cells S tS)).alloc (.cells #[.int .i64 0, .int .i64 0, .int .i64 0] tS))) := by
  have b0 : Below W.heap.size W (((W.alloc (.cells F tF)).alloc (.cells S tS)).alloc (.cells #[.int .i64 0, .int .i64 0, .int .i64 0] tS)) := ((Below.refl _ W).alloc (Nat.le_refl _) _).alloc (by simp) _ |>.alloc (by simp only [World.size_alloc]; omega) _
  refine Lib.hid ⟨((Bk.new W _ _).alloc _).alloc _, ?_, ?_, ra.of_below b0, rb.of_below b0, b0, by omega, by omega, by omega⟩
  · have := (Bk.new (W.alloc (.cells F tF)) tS S).alloc (.cells #[.int .i64 0, .int .i64 0, .int .i64 0] tS)
    simpa only [World.size_alloc] using this
  · have := (Bk.new ((W.alloc (.cells F tF)).alloc (.cells S tS)) tS #[.int .i64 0, .int .i64 0, .int .i64 0])
    simpa only [World.size_alloc] using this
end
set_option maxRecDepth 100000 in
set_option maxHeartbeats 1000000 in
theorem reluThenI (z : Int) (h w c : Int) (W : World) :
    Calls Try.prog 149 #[.agg #[.int .i64 z], .agg #[.int .i64 h, .int .i64 w, .int .i64 c]] W fun e W' => e = .returned (.tuple #[.agg #[.int .i64 h, .int .i64 w, .int .i64 c], .bool (inB (-128) 127 z)]) ∧ Below W.heap.size W W' := by
  have P := Pk.start W 170 34 #[.int .i64 z] #[.int .i64 h, .int .i64 w, .int .i64 c] (RdI.nil W none) (RdI.nil W none)
  rw [← allIn_one]
  go_enter Try.func149, Try.ntmps149
  go_wp2_with fail
  generalize (((W.alloc (.cells #[.int .i64 z] 170)).alloc (.cells #[.int .i64 h, .int .i64 w, .int .i64 c] 34)).alloc (.cells #[.int .i64 0, .int .i64 0, .int .i64 0] 34)) = v at P ⊢
  generalize W.heap.size + 1 + 1 = gR at P ⊢
  generalize W.heap.size + 1 = gS at P ⊢
  have P1 := Pk.drew (Pk.alloc P (.cells #[.int .i64 z] 3))
  have RX := (RdI.one v z 3).of_below (Below.refl _ _).drew
  have k0 := P.out.f.cell 0 rfl
  obtain ⟨a0, a1, a2⟩ := P.out.s.cell3
  have k1 := P1.out.f.cell 0 rfl
  obtain ⟨s0, s1, s2⟩ := P1.out.s.cell3
  go_region_held3 (fun w' => w'.cell? ⟨W.heap.size, 0, none⟩ = some (.int .i64 z) ∧ w'.cell? ⟨gS, 0, none⟩ = some (.int .i64 h) ∧ w'.cell? ⟨gS, 1, none⟩ = some (.int .i64 w) ∧ w'.cell? ⟨gS, 2, none⟩ = some (.int .i64 c))
    (first
      | exact ⟨k0, a0, a1, a2⟩
      | exact ⟨k1, s0, s1, s2⟩
      | exact ⟨l0, l1, l2, l3⟩
      | exact ⟨cellFar3 (Ne.symm PP.out.nf) l0 _ _ _, cellFar3 (Ne.symm PP.out.ns) l1 _ _ _, cellFar3 (Ne.symm PP.out.ns) l2 _ _ _, cellFar3 (Ne.symm PP.out.ns) l3 _ _ _⟩)
    (first
      | (go_at_call 76; (with_reducible refine (insideB (-128) 127 _ 1 _ [z] _ RX (by omega)).mono ?_); rintro e uq ⟨rfl, bb⟩; have PP := Pk.below P1 bb; obtain ⟨g0, g1, g2⟩ := PP.out.r.free3; obtain ⟨e0, e1, e2⟩ := PP.out.r.cell3; have l0 := PP.out.f.cell 0 rfl; obtain ⟨l1, l2, l3⟩ := PP.out.s.cell3))
  have kR := PP.out.r.set3 (x := .int .i64 h) (y := .int .i64 w) (z := .int .i64 c)
  have b9 := below_set3 PP.out.bl PP.out.le (.int .i64 h) (.int .i64 w) (.int .i64 c)
  obtain ⟨z0, z1, z2⟩ := kR.cell3
  clear k0 a0 a1 a2 k1 s0 s1 s2 e0 e1 e2 g0 g1 g2 l0 l1 l2 l3 RX
  go_wp2_with fail
  refine bodyPost_ret (v := .tuple #[.agg #[.int .i64 h, .int .i64 w, .int .i64 c], .bool (allIn (-128) 127 [z])]) ?_ rfl ⟨rfl, b9⟩
  generalize ((uq.setCell ⟨gR, 0, none⟩ (.int .i64 h)).setCell ⟨gR, 1, none⟩ (.int .i64 w)).setCell ⟨gR, 2, none⟩ (.int .i64 c) = w9 at z0 z1 z2 ⊢
  simp [results, Try.results149, go_sem, z0, z1, z2]

set_option maxRecDepth 100000 in
set_option maxHeartbeats 1000000 in
theorem flatThenI  (h w c : Int) (W : World) :
    Calls Try.prog 151 #[.agg #[], .agg #[.int .i64 h, .int .i64 w, .int .i64 c]] W fun e W' => e = .returned (.tuple #[.agg #[.int .i64 1, .int .i64 1, .int .i64 (szOf h w c)], .bool (decide (szOf h w c ≤ 8))]) ∧ Below W.heap.size W W' := by
  have P := Pk.start W 172 34 #[] #[.int .i64 h, .int .i64 w, .int .i64 c] (RdI.nil W none) (RdI.nil W none)
  go_enter Try.func151, Try.ntmps151
  go_wp2_with fail
  generalize (((W.alloc (.cells #[] 172)).alloc (.cells #[.int .i64 h, .int .i64 w, .int .i64 c] 34)).alloc (.cells #[.int .i64 0, .int .i64 0, .int .i64 0] 34)) = v at P ⊢
  generalize W.heap.size + 1 + 1 = gR at P ⊢
  generalize W.heap.size + 1 = gS at P ⊢
  have PP := P
  obtain ⟨a0, a1, a2⟩ := PP.out.s.cell3
  obtain ⟨b0, b1, b2⟩ := PP.out.r.cell3
  obtain ⟨c0, c1, c2⟩ := PP.out.r.free3
  have P1 := Pk.drew PP
  go_region_held3 (fun w' => w'.cell? ⟨gS, 0, none⟩ = some (.int .i64 h) ∧ w'.cell? ⟨gS, 1, none⟩ = some (.int .i64 w) ∧ w'.cell? ⟨gS, 2, none⟩ = some (.int .i64 c))
    (first
      | exact ⟨a0, a1, a2⟩
      | exact ⟨m0, m1, m2⟩
      | exact ⟨cellFar3 (Ne.symm PP.out.ns) m0 _ _ _, cellFar3 (Ne.symm PP.out.ns) m1 _ _ _, cellFar3 (Ne.symm PP.out.ns) m2 _ _ _⟩)
    (first
      | (go_at_call 113; (with_reducible refine (sizeOfI h w c _).mono ?_); rintro e uq ⟨rfl, bb⟩; have PP := Pk.below (by assumption) bb; obtain ⟨g0, g1, g2⟩ := PP.out.r.free3; obtain ⟨e0, e1, e2⟩ := PP.out.r.cell3; obtain ⟨m0, m1, m2⟩ := PP.out.s.cell3))
  clear a0 a1 a2 b0 b1 b2 c0 c1 c2
  have kR := PP.out.r.set3 (x := .int .i64 1) (y := .int .i64 1) (z := .int .i64 (szOf h w c))
  have b9 := below_set3 PP.out.bl PP.out.le (.int .i64 1) (.int .i64 1) (.int .i64 (szOf h w c))
  obtain ⟨z0, z1, z2⟩ := kR.cell3
  go_wp2_with fail
  refine bodyPost_ret (v := .tuple #[.agg #[.int .i64 1, .int .i64 1, .int .i64 (szOf h w c)], .bool (decide (szOf h w c ≤ 8))]) ?_ rfl ⟨rfl, b9⟩
  generalize ((uq.setCell ⟨gR, 0, none⟩ (.int .i64 1)).setCell ⟨gR, 1, none⟩ (.int .i64 1)).setCell ⟨gR, 2, none⟩ (.int .i64 (szOf h w c)) = w9 at z0 z1 z2 ⊢
  simp [results, Try.results151, go_sem, z0, z1, z2]

set_option maxRecDepth 100000 in
set_option maxHeartbeats 1000000 in
theorem denseThenI (o m f z : Int) (A : Option Addr) (n p : Nat) (xs : List Int) (B : Option Addr) (q r : Nat) (ys : List Int) (h w c : Int) (W : World) (hr : RdI W A n xs) (hr2 : RdI W B q ys) (hn : n ≤ 1048576) (hq : q ≤ 1048576) :
    Calls Try.prog 140 #[.agg #[.int .i64 o, .int .i64 m, .int .i64 f, .int .i64 z, .slice A n p, .slice B q r], .agg #[.int .i64 h, .int .i64 w, .int .i64 c]] W fun e W' => e = .returned (.tuple #[.agg #[.int .i64 1, .int .i64 1, .int .i64 o], .bool (decide (szOf h w c ≤ 64) && rightB o m f z xs ys (szOf h w c))]) ∧ Below W.heap.size W W' := by
  have P := Pk.start W 162 34 #[.int .i64 o, .int .i64 m, .int .i64 f, .int .i64 z, .slice A n p, .slice B q r] #[.int .i64 h, .int .i64 w, .int .i64 c] hr hr2
  have HN := Lib.hid hn
  have HQ := Lib.hid hq
  clear hn hq hr hr2
  obtain ⟨y1, y2⟩ := szOf_bd h w c
  obtain ⟨R, hR⟩ : ∃ R, (decide (szOf h w c ≤ 64) && rightB o m f z xs ys (szOf h w c)) = R := ⟨_, rfl⟩
  rw [hR]
  have HR := Lib.hid hR
  have HY := Lib.hid (And.intro y1 y2)
  clear hR y1 y2
  go_enter Try.func140, Try.ntmps140
  go_wp2_with fail
  generalize (((W.alloc (.cells #[.int .i64 o, .int .i64 m, .int .i64 f, .int .i64 z, .slice A n p, .slice B q r] 162)).alloc (.cells #[.int .i64 h, .int .i64 w, .int .i64 c] 34)).alloc (.cells #[.int .i64 0, .int .i64 0, .int .i64 0] 34)) = v at P ⊢
  generalize W.heap.size + 1 + 1 = gR at P ⊢
  generalize W.heap.size + 1 = gS at P ⊢
  have PP := P
  by_cases hz : szOf h w c ≤ 64
  · obtain rfl : R = rightB o m f z xs ys (szOf h w c) := by rw [← HR.out]; simp [hz]
    have k0 := PP.out.f.cell 0 rfl
    have k1 := PP.out.f.cell 1 rfl
    have k2 := PP.out.f.cell 2 rfl
    have k3 := PP.out.f.cell 3 rfl
    have k4 := PP.out.f.cell 4 rfl
    have k5 := PP.out.f.cell 5 rfl
    obtain ⟨a0, a1, a2⟩ := PP.out.s.cell3
    obtain ⟨b0, b1, b2⟩ := PP.out.r.cell3
    obtain ⟨c0, c1, c2⟩ := PP.out.r.free3
    have P1 := Pk.drew PP
    go_region_held3 (fun w' => w'.cell? ⟨W.heap.size, 0, none⟩ = some (.int .i64 o) ∧ w'.cell? ⟨W.heap.size, 1, none⟩ = some (.int .i64 m) ∧ w'.cell? ⟨W.heap.size, 2, none⟩ = some (.int .i64 f) ∧ w'.cell? ⟨W.heap.size, 3, none⟩ = some (.int .i64 z) ∧ w'.cell? ⟨W.heap.size, 4, none⟩ = some (.slice A n p) ∧ w'.cell? ⟨W.heap.size, 5, none⟩ = some (.slice B q r) ∧ w'.cell? ⟨gS, 0, none⟩ = some (.int .i64 h) ∧ w'.cell? ⟨gS, 1, none⟩ = some (.int .i64 w) ∧ w'.cell? ⟨gS, 2, none⟩ = some (.int .i64 c))
      (first
        | exact ⟨k0, k1, k2, k3, k4, k5, a0, a1, a2⟩
        | exact ⟨l0, l1, l2, l3, l4, l5, m0, m1, m2⟩
        | exact ⟨cellFar3 (Ne.symm PP.out.nf) l0 _ _ _, cellFar3 (Ne.symm PP.out.nf) l1 _ _ _, cellFar3 (Ne.symm PP.out.nf) l2 _ _ _, cellFar3 (Ne.symm PP.out.nf) l3 _ _ _, cellFar3 (Ne.symm PP.out.nf) l4 _ _ _, cellFar3 (Ne.symm PP.out.nf) l5 _ _ _, cellFar3 (Ne.symm PP.out.ns) m0 _ _ _, cellFar3 (Ne.symm PP.out.ns) m1 _ _ _, cellFar3 (Ne.symm PP.out.ns) m2 _ _ _⟩)
      (first
        | (go_at_call 113; (with_reducible refine (sizeOfI h w c _).mono ?_); rintro e uq ⟨rfl, bb⟩; have PP := Pk.below (by assumption) bb; obtain ⟨g0, g1, g2⟩ := PP.out.r.free3; obtain ⟨e0, e1, e2⟩ := PP.out.r.cell3; have l0 := PP.out.f.cell 0 rfl; have l1 := PP.out.f.cell 1 rfl; have l2 := PP.out.f.cell 2 rfl; have l3 := PP.out.f.cell 3 rfl; have l4 := PP.out.f.cell 4 rfl; have l5 := PP.out.f.cell 5 rfl; obtain ⟨m0, m1, m2⟩ := PP.out.s.cell3)
        | (go_at_call 141; (with_reducible refine (rightI o m f z A n p xs B q r ys (szOf h w c) _ PP.out.ra PP.out.rb HN.out HQ.out (by have := HY.out; omega) (by have := HY.out; omega)).mono ?_); rintro e uq ⟨rfl, bb⟩; have PP := Pk.below (by assumption) bb; obtain ⟨g0, g1, g2⟩ := PP.out.r.free3; obtain ⟨e0, e1, e2⟩ := PP.out.r.cell3; have l0 := PP.out.f.cell 0 rfl; have l1 := PP.out.f.cell 1 rfl; have l2 := PP.out.f.cell 2 rfl; have l3 := PP.out.f.cell 3 rfl; have l4 := PP.out.f.cell 4 rfl; have l5 := PP.out.f.cell 5 rfl; obtain ⟨m0, m1, m2⟩ := PP.out.s.cell3))
    clear k0 k1 k2 k3 k4 k5 a0 a1 a2 b0 b1 b2 c0 c1 c2
    have kR := PP.out.r.set3 (x := .int .i64 1) (y := .int .i64 1) (z := .int .i64 o)
    have b9 := below_set3 PP.out.bl PP.out.le (.int .i64 1) (.int .i64 1) (.int .i64 o)
    obtain ⟨z0, z1, z2⟩ := kR.cell3
    go_wp2_with fail
    refine bodyPost_ret (v := .tuple #[.agg #[.int .i64 1, .int .i64 1, .int .i64 o], .bool (rightB o m f z xs ys (szOf h w c))]) ?_ rfl ⟨rfl, b9⟩
    generalize ((uq.setCell ⟨gR, 0, none⟩ (.int .i64 1)).setCell ⟨gR, 1, none⟩ (.int .i64 1)).setCell ⟨gR, 2, none⟩ (.int .i64 o) = w9 at z0 z1 z2 ⊢
    simp [results, Try.results140, go_sem, z0, z1, z2]
  · obtain rfl : R = false := by rw [← HR.out]; simp [hz]
    have hz1 : decide (szOf h w c ≤ 64) = false := by simp [hz]
    have k0 := PP.out.f.cell 0 rfl
    have k1 := PP.out.f.cell 1 rfl
    have k2 := PP.out.f.cell 2 rfl
    have k3 := PP.out.f.cell 3 rfl
    have k4 := PP.out.f.cell 4 rfl
    have k5 := PP.out.f.cell 5 rfl
    obtain ⟨a0, a1, a2⟩ := PP.out.s.cell3
    obtain ⟨b0, b1, b2⟩ := PP.out.r.cell3
    obtain ⟨c0, c1, c2⟩ := PP.out.r.free3
    have P1 := Pk.drew PP
    refine wp_region_noPanic ?_
    refine wp_region_held_drew (S := (fun w' => w'.cell? ⟨W.heap.size, 0, none⟩ = some (.int .i64 o) ∧ w'.cell? ⟨W.heap.size, 1, none⟩ = some (.int .i64 m) ∧ w'.cell? ⟨W.heap.size, 2, none⟩ = some (.int .i64 f) ∧ w'.cell? ⟨W.heap.size, 3, none⟩ = some (.int .i64 z) ∧ w'.cell? ⟨W.heap.size, 4, none⟩ = some (.slice A n p) ∧ w'.cell? ⟨W.heap.size, 5, none⟩ = some (.slice B q r) ∧ w'.cell? ⟨gS, 0, none⟩ = some (.int .i64 h) ∧ w'.cell? ⟨gS, 1, none⟩ = some (.int .i64 w) ∧ w'.cell? ⟨gS, 2, none⟩ = some (.int .i64 c))) (by kernel_rfl) (by exact ⟨k0, k1, k2, k3, k4, k5, a0, a1, a2⟩) (fun hHeld => ?_)
    refine wpAnyH_take (i := 0) (v := ?v0) rfl (by kernel_rfl) (by kernel_rfl) (by kernel_rfl) (fun _ _ _ h => h) (Or.inl ⟨by rfl, ?y0⟩) (by assumption) ?r0
    case y0 => (intro w hSw; (try dsimp only at hSw); go_simp; (try with_reducible rfl))
    try simp only [Act.put, List.setIfInBounds_toArray, List.set_cons_zero, List.set_cons_succ]
    refine wpAnyH_take (i := 1) (v := ?v1) rfl (by kernel_rfl) (by kernel_rfl) (by kernel_rfl) (fun _ _ _ h => h) (Or.inl ⟨by rfl, ?y1⟩) (by assumption) ?r1
    case y1 => (intro w hSw; (try dsimp only at hSw); go_simp; (try with_reducible rfl))
    try simp only [Act.put, List.setIfInBounds_toArray, List.set_cons_zero, List.set_cons_succ]
    refine wpAnyH_take (i := 2) (v := ?v2) rfl (by kernel_rfl) (by kernel_rfl) (by kernel_rfl) (fun _ _ _ h => h) (Or.inl ⟨by rfl, ?y2⟩) (by assumption) ?r2
    case y2 => (intro w hSw; (try dsimp only at hSw); go_simp; (try with_reducible rfl))
    try simp only [Act.put, List.setIfInBounds_toArray, List.set_cons_zero, List.set_cons_succ]
    refine wpAnyH_take (i := 3) (v := ?v3) rfl (by kernel_rfl) (by kernel_rfl) (by kernel_rfl) (fun _ _ _ h => h) (Or.inl ⟨by rfl, ?y3⟩) (by assumption) ?r3
    case y3 => (intro w hSw; (try dsimp only at hSw); go_simp; (try with_reducible rfl))
    try simp only [Act.put, List.setIfInBounds_toArray, List.set_cons_zero, List.set_cons_succ]
    refine wpAnyH_take (i := 4) (v := ?v4) rfl (by kernel_rfl) (by kernel_rfl) (by kernel_rfl) (fun _ _ _ h => h) (Or.inl ⟨by rfl, ?y4⟩) (by assumption) ?r4
    case y4 => (intro w hSw; (try dsimp only at hSw); go_simp; (try with_reducible rfl))
    try simp only [Act.put, List.setIfInBounds_toArray, List.set_cons_zero, List.set_cons_succ]
    refine wpAnyH_ready (rs := [5]) (by kernel_rfl) (by simp) ?_
    refine AllReadyH.cons rfl (fun K hK => ?_) AllReadyH.nil
    go_simp
    with_reducible refine (sizeOfI h w c _).mono ?_
    rintro e uq ⟨rfl, bb⟩
    have PP := Pk.below P1 bb
    obtain ⟨g0, g1, g2⟩ := PP.out.r.free3
    obtain ⟨e0, e1, e2⟩ := PP.out.r.cell3
    have l0 := PP.out.f.cell 0 rfl
    have l1 := PP.out.f.cell 1 rfl
    have l2 := PP.out.f.cell 2 rfl
    have l3 := PP.out.f.cell 3 rfl
    have l4 := PP.out.f.cell 4 rfl
    have l5 := PP.out.f.cell 5 rfl
    obtain ⟨m0, m1, m2⟩ := PP.out.s.cell3
    refine hK.out _ _ (by exact ⟨l0, l1, l2, l3, l4, l5, m0, m1, m2⟩) (fun hHeld => ?_)
    clear hK K
    try simp only [Act.put, List.setIfInBounds_toArray, List.set_cons_zero, List.set_cons_succ]
    refine wpAnyH_take (i := 6) (v := ?v6) rfl (by kernel_rfl) (by kernel_rfl) (by kernel_rfl) (fun _ _ _ h => h) (Or.inl ⟨by rfl, ?y6⟩) (by assumption) ?r6
    case y6 => (intro w hSw; (try dsimp only at hSw); go_simp; (try with_reducible rfl))
    try simp only [Act.put, List.setIfInBounds_toArray, List.set_cons_zero, List.set_cons_succ]
    refine wpAnyH_take (i := 7) (v := ?v7) rfl (by kernel_rfl) (by kernel_rfl) (by kernel_rfl) (fun _ _ _ h => h) (Or.inl ⟨by rfl, ?y7⟩) (by assumption) ?r7
    case y7 => (intro w hSw; (try dsimp only at hSw); go_simp; (try with_reducible rfl))
    try simp only [Act.put, List.setIfInBounds_toArray, List.set_cons_zero, List.set_cons_succ]
    refine wpAnyH_take (i := 8) rfl (by kernel_rfl) (by kernel_rfl) (by kernel_rfl) (fun _ _ _ h => h) (Or.inr ⟨by rfl, rfl⟩) (by assumption) ?_
    try simp only [Act.put, List.setIfInBounds_toArray, List.set_cons_zero, List.set_cons_succ]
    refine wpAnyH_take (i := 9) rfl (by kernel_rfl) (by kernel_rfl) (by kernel_rfl) (fun _ _ _ h => h) (Or.inr ⟨by rfl, rfl⟩) (by assumption) ?_
    try simp only [Act.put, List.setIfInBounds_toArray, List.set_cons_zero, List.set_cons_succ]
    refine wpAnyH_take (i := 10) rfl (by kernel_rfl) (by kernel_rfl) (by kernel_rfl) (fun _ _ _ h => h) (Or.inr ⟨by rfl, rfl⟩) (by assumption) ?_
    try simp only [Act.put, List.setIfInBounds_toArray, List.set_cons_zero, List.set_cons_succ]
    refine wpAnyH_take (i := 11) rfl (by kernel_rfl) (by kernel_rfl) (by kernel_rfl) (fun _ _ _ h => h) (Or.inr ⟨by rfl, rfl⟩) (by assumption) ?_
    try simp only [Act.put, List.setIfInBounds_toArray, List.set_cons_zero, List.set_cons_succ]
    refine wpAnyH_take (i := 12) rfl (by kernel_rfl) (by kernel_rfl) (by kernel_rfl) (fun _ _ _ h => h) (Or.inr ⟨by rfl, rfl⟩) (by assumption) ?_
    try simp only [Act.put, List.setIfInBounds_toArray, List.set_cons_zero, List.set_cons_succ]
    refine wpAnyH_take (i := 13) (v := ?v13) rfl (by kernel_rfl) (by kernel_rfl) (by kernel_rfl) (fun _ _ _ h => h) (Or.inl ⟨by rfl, ?y13⟩) (by assumption) ?r13
    case y13 => (intro w hSw; (try dsimp only at hSw); go_simp; (try with_reducible rfl))
    try simp only [Act.put, List.setIfInBounds_toArray, List.set_cons_zero, List.set_cons_succ]
    refine wpAnyH_ready (rs := [14]) (by kernel_rfl) (by simp) ?_
    refine AllReadyH.cons rfl (fun K hK => ?_) AllReadyH.nil
    go_simp
    refine hK.out _ _ (by exact ⟨cellFar3 (Ne.symm PP.out.nf) l0 _ _ _, cellFar3 (Ne.symm PP.out.nf) l1 _ _ _, cellFar3 (Ne.symm PP.out.nf) l2 _ _ _, cellFar3 (Ne.symm PP.out.nf) l3 _ _ _, cellFar3 (Ne.symm PP.out.nf) l4 _ _ _, cellFar3 (Ne.symm PP.out.nf) l5 _ _ _, cellFar3 (Ne.symm PP.out.ns) m0 _ _ _, cellFar3 (Ne.symm PP.out.ns) m1 _ _ _, cellFar3 (Ne.symm PP.out.ns) m2 _ _ _⟩) (fun hHeld => ?_)
    clear hK K
    try simp only [Act.put, List.setIfInBounds_toArray, List.set_cons_zero, List.set_cons_succ]
    refine wpAnyH_take (i := 15) (v := ?v15) rfl (by kernel_rfl) (by kernel_rfl) (by kernel_rfl) (fun _ _ _ h => h) (Or.inl ⟨by rfl, ?y15⟩) (by assumption) ?r15
    case y15 => (intro w hSw; (try dsimp only at hSw); go_simp; (try with_reducible rfl))
    try simp only [Act.put, List.setIfInBounds_toArray, List.set_cons_zero, List.set_cons_succ]
    refine wpAnyH_done (by kernel_rfl) ?_ _
    refine NoPanic.normal ?_
    clear k0 k1 k2 k3 k4 k5 a0 a1 a2 b0 b1 b2 c0 c1 c2
    have kR := PP.out.r.set3 (x := .int .i64 1) (y := .int .i64 1) (z := .int .i64 o)
    have b9 := below_set3 PP.out.bl PP.out.le (.int .i64 1) (.int .i64 1) (.int .i64 o)
    obtain ⟨z0, z1, z2⟩ := kR.cell3
    go_wp2_with fail
    refine bodyPost_ret (v := .tuple #[.agg #[.int .i64 1, .int .i64 1, .int .i64 o], .bool false]) ?_ rfl ⟨rfl, b9⟩
    generalize ((uq.setCell ⟨gR, 0, none⟩ (.int .i64 1)).setCell ⟨gR, 1, none⟩ (.int .i64 1)).setCell ⟨gR, 2, none⟩ (.int .i64 o) = w9 at z0 z1 z2 ⊢
    simp [results, Try.results140, go_sem, z0, z1, z2]

set_option maxRecDepth 100000 in
set_option maxHeartbeats 1000000 in
theorem poolThenI (s t : Int) (F : Value) (h w c : Int) (W : World) (hs : shOk h w c = true) :
    Calls Try.prog 147 #[.agg #[.int .i64 s, .int .i64 t, F], .agg #[.int .i64 h, .int .i64 w, .int .i64 c]] W fun e W' => e = .returned (outV (if fitsB h w s t then some ((h - s).tdiv t + 1, (w - s).tdiv t + 1, c) else none)) ∧ Below W.heap.size W W' := by
  have P := Pk.start W 168 34 #[.int .i64 s, .int .i64 t, F] #[.int .i64 h, .int .i64 w, .int .i64 c] (RdI.nil W none) (RdI.nil W none)
  have HS := Lib.hid hs
  clear hs
  obtain ⟨R, hR⟩ : ∃ R, outV (if fitsB h w s t then some ((h - s).tdiv t + 1, (w - s).tdiv t + 1, c) else none) = R := ⟨_, rfl⟩
  rw [hR]
  have HR := Lib.hid hR
  clear hR
  go_enter Try.func147, Try.ntmps147
  go_wp2_with fail
  generalize (((W.alloc (.cells #[.int .i64 s, .int .i64 t, F] 168)).alloc (.cells #[.int .i64 h, .int .i64 w, .int .i64 c] 34)).alloc (.cells #[.int .i64 0, .int .i64 0, .int .i64 0] 34)) = v at P ⊢
  generalize W.heap.size + 1 + 1 = gR at P ⊢
  generalize W.heap.size + 1 = gS at P ⊢
  with_reducible refine (fitsI s t h w c _).mono ?_
  rintro e v1 ⟨rfl, bb⟩
  have PP := Pk.below P bb
  clear bb P
  rcases hf : fitsB h w s t with _ | _
  · obtain ⟨b0, b1, b2⟩ := PP.out.r.cell3
    obtain ⟨c0, c1, c2⟩ := PP.out.r.free3
    go_wp2_with fail
    have kR := PP.out.r.set3 (x := .int .i64 0) (y := .int .i64 0) (z := .int .i64 0)
    have b9 := below_set3 PP.out.bl PP.out.le (.int .i64 0) (.int .i64 0) (.int .i64 0)
    obtain ⟨z0, z1, z2⟩ := kR.cell3
    go_wp2_with fail
    refine bodyPost_ret (v := .tuple #[.agg #[.int .i64 0, .int .i64 0, .int .i64 0], .bool false]) ?_ rfl ⟨by rw [← HR.out, hf]; rfl, b9⟩
    generalize ((v1.setCell ⟨gR, 0, none⟩ (.int .i64 0)).setCell ⟨gR, 1, none⟩ (.int .i64 0)).setCell ⟨gR, 2, none⟩ (.int .i64 0) = w9 at z0 z1 z2 ⊢
    simp [results, Try.results147, go_sem, z0, z1, z2]
  · have hf2 := hf
    rw [fitsB_eq] at hf2
    simp only [Bool.and_eq_true, decide_eq_true_eq, winB, inB_iff] at hf2
    obtain ⟨⟨⟨s1, s2⟩, t1, t2⟩, j1, j2⟩ := hf2
    obtain ⟨h1, h2, w1, w2, c1, c2⟩ := shOk_iff.1 HS.out
    have HB := Lib.hid (And.intro s1 (And.intro s2 (And.intro t1 (And.intro t2 (And.intro j1 (And.intro j2 (And.intro h2 w2)))))))
    clear s1 s2 t1 t2 j1 j2 h1 h2 w1 w2
    have k0 := PP.out.f.cell 0 rfl
    have k1 := PP.out.f.cell 1 rfl
    have k2 := PP.out.f.cell 2 rfl
    obtain ⟨a0, a1, a2⟩ := PP.out.s.cell3
    go_wp2_with fail
    clear k0 k1 k2 a0 a1 a2
    have k0 := PP.out.f.cell 0 rfl
    have k1 := PP.out.f.cell 1 rfl
    have k2 := PP.out.f.cell 2 rfl
    obtain ⟨a0, a1, a2⟩ := PP.out.s.cell3
    obtain ⟨b0, b1, b2⟩ := PP.out.r.cell3
    obtain ⟨c0, c1, c2⟩ := PP.out.r.free3
    have P1 := Pk.drew PP
    go_region_held3 (fun w' => w'.cell? ⟨W.heap.size, 0, none⟩ = some (.int .i64 s) ∧ w'.cell? ⟨W.heap.size, 1, none⟩ = some (.int .i64 t) ∧ w'.cell? ⟨W.heap.size, 2, none⟩ = some (F) ∧ w'.cell? ⟨gS, 0, none⟩ = some (.int .i64 h) ∧ w'.cell? ⟨gS, 1, none⟩ = some (.int .i64 w) ∧ w'.cell? ⟨gS, 2, none⟩ = some (.int .i64 c))
      (first
        | exact ⟨k0, k1, k2, a0, a1, a2⟩
        | exact ⟨l0, l1, l2, m0, m1, m2⟩
        | exact ⟨cellFar3 (Ne.symm PP.out.nf) l0 _ _ _, cellFar3 (Ne.symm PP.out.nf) l1 _ _ _, cellFar3 (Ne.symm PP.out.nf) l2 _ _ _, cellFar3 (Ne.symm PP.out.ns) m0 _ _ _, cellFar3 (Ne.symm PP.out.ns) m1 _ _ _, cellFar3 (Ne.symm PP.out.ns) m2 _ _ _⟩)
      (first
        | (go_at_call 145; (with_reducible refine (winTimesI s t h _ HB.out.1 HB.out.2.1 HB.out.2.2.1 HB.out.2.2.2.1 HB.out.2.2.2.2.1 HB.out.2.2.2.2.2.2.1).mono ?_); rintro e uq ⟨rfl, bb⟩; have PP := Pk.below (by assumption) bb; obtain ⟨g0, g1, g2⟩ := PP.out.r.free3; obtain ⟨e0, e1, e2⟩ := PP.out.r.cell3; have l0 := PP.out.f.cell 0 rfl; have l1 := PP.out.f.cell 1 rfl; have l2 := PP.out.f.cell 2 rfl; obtain ⟨m0, m1, m2⟩ := PP.out.s.cell3)
        | (go_at_call 145; (with_reducible refine (winTimesI s t w _ HB.out.1 HB.out.2.1 HB.out.2.2.1 HB.out.2.2.2.1 HB.out.2.2.2.2.2.1 HB.out.2.2.2.2.2.2.2).mono ?_); rintro e uq ⟨rfl, bb⟩; have PP := Pk.below (by assumption) bb; obtain ⟨g0, g1, g2⟩ := PP.out.r.free3; obtain ⟨e0, e1, e2⟩ := PP.out.r.cell3; have l0 := PP.out.f.cell 0 rfl; have l1 := PP.out.f.cell 1 rfl; have l2 := PP.out.f.cell 2 rfl; obtain ⟨m0, m1, m2⟩ := PP.out.s.cell3))
    clear k0 k1 k2 a0 a1 a2 b0 b1 b2 c0 c1 c2
    have kR := PP.out.r.set3 (x := .int .i64 ((h - s).tdiv t + 1)) (y := .int .i64 ((w - s).tdiv t + 1)) (z := .int .i64 c)
    have b9 := below_set3 PP.out.bl PP.out.le (.int .i64 ((h - s).tdiv t + 1)) (.int .i64 ((w - s).tdiv t + 1)) (.int .i64 c)
    obtain ⟨z0, z1, z2⟩ := kR.cell3
    go_wp2_with fail
    refine bodyPost_ret (v := .tuple #[.agg #[.int .i64 ((h - s).tdiv t + 1), .int .i64 ((w - s).tdiv t + 1), .int .i64 c], .bool true]) ?_ rfl ⟨by rw [← HR.out, hf]; rfl, b9⟩
    generalize ((uq.setCell ⟨gR, 0, none⟩ (.int .i64 ((h - s).tdiv t + 1))).setCell ⟨gR, 1, none⟩ (.int .i64 ((w - s).tdiv t + 1))).setCell ⟨gR, 2, none⟩ (.int .i64 c) = w9 at z0 z1 z2 ⊢
    simp [results, Try.results147, go_sem, z0, z1, z2]
end Qt
end Go.Proofs.Ytbmchpoffceehaa
