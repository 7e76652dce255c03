/- FlatOf of the program and of its model, and what keeps slices of the call's own apart from one another. Conditions: the slice reads as the list that is named. -/
import Derived.Test.YtgbpomjdcglfmaaReshapeI
namespace Go.Proofs.Ytgbpomjdcglfmaa
open Go.RowKit Go.Sort
namespace Qt

/-- A tensor with these sides and these numbers in a slice of its own, and a truth. -/
def ReC (W : World) (x y z : Int) (r : Bool) (n : Nat) (xs : List Int) (e : Ending) (W' : World) : Prop :=
  ∃ B cap, e = .returned (.tuple #[.agg #[.int .i64 x, .int .i64 y, .int .i64 z, .slice B n cap], .bool r]) ∧ OwnI W.heap.size W' B n xs ∧ Below W.heap.size W W'
def ReIs (h w c : Int) (xs : List Int) (h2 w2 c2 x y z : Int) (r : Bool) : Prop :=
  (if reOk h w c xs h2 w2 c2 then h2 else h) = x ∧ (if reOk h w c xs h2 w2 c2 then w2 else w) = y ∧ (if reOk h w c xs h2 w2 c2 then c2 else c) = z ∧ reOk h w c xs h2 w2 c2 = r
theorem reIs (h w c : Int) (xs : List Int) (h2 w2 c2 : Int) : ∃ x y z r, ReIs h w c xs h2 w2 c2 x y z r := ⟨_, _, _, _, rfl, rfl, rfl, rfl⟩
theorem Reshaped.toC {W W' : World} {h w c h2 w2 c2 x y z : Int} {r : Bool} {n : Nat} {xs : List Int} {e : Ending} (k : Reshaped W h w c n xs h2 w2 c2 e W') (i : ReIs h w c xs h2 w2 c2 x y z r) : ReC W x y z r n xs e W' := by
  obtain ⟨rfl, rfl, rfl, rfl⟩ := i
  exact k

/-- The slice at A does not lie in block g. -/
def Apart (A : Option Addr) (n g : Nat) : Prop := ∀ q, 0 < n → A = some ⟨q, 0, none⟩ → q ≠ g
def Apart2 (A A2 : Option Addr) (n : Nat) : Prop := ∀ q q', 0 < n → A = some ⟨q, 0, none⟩ → A2 = some ⟨q', 0, none⟩ → q ≠ q'
section
variable {B B2 n g : Nat} {w w2 : World} {A A2 : Option Addr} {xs xs2 : List Int}
theorem OwnI.apart_old (h : OwnI B w A n xs) (hg : g < B) : Apart A n g := fun q hn e => by
  obtain ⟨q', e', hb, _⟩ := h.2 hn
  rw [e] at e'; cases e'; omega
theorem OwnI.apart_new (h : OwnI B w A n xs) : Apart A n w.heap.size := h.lts
theorem apart2 (h : OwnI B w A n xs) (h2 : OwnI B2 w2 A2 n xs2) (hs : w.heap.size ≤ B2) : Apart2 A A2 n := fun q q' hn e e2 => by
  obtain ⟨q1, e1, _, hl, _⟩ := h.2 hn
  obtain ⟨q2, e3, hb, _⟩ := h2.2 hn
  rw [e] at e1; cases e1; rw [e2] at e3; cases e3; omega
theorem Apart2.symm (h : Apart2 A A2 n) : Apart2 A2 A n := fun q q' hn e e2 => (h q' q hn e2 e).symm
/-- The block that a writing into the slice touches. -/
def Spot (w : World) (A : Option Addr) (n g : Nat) : Prop := (0 < n → A = some ⟨g, 0, none⟩) ∧ (n = 0 → g = w.heap.size)
theorem OwnI.spot (h : OwnI B w A n xs) (hB : B ≤ w.heap.size) : ∃ g, Spot w A n g ∧ B ≤ g := by
  rcases Nat.eq_zero_or_pos n with h0 | h0
  · exact ⟨w.heap.size, ⟨fun hn => by omega, fun _ => rfl⟩, hB⟩
  · obtain ⟨g, e, hb, _⟩ := h.2 h0
    exact ⟨g, ⟨fun _ => e, fun hn => by omega⟩, hb⟩
theorem Spot.ne {g0 : Nat} (s : Spot w A n g) (ha : Apart A n g0) (hl : g0 < w.heap.size) : g0 ≠ g := by
  rcases Nat.eq_zero_or_pos n with h0 | h0
  · have := s.2 h0; omega
  · exact (ha g h0 (s.1 h0)).symm
theorem Bk.marked {t : TypeId} {cs : Array Value} {g0 : Nat} (h : Bk w g0 t cs) (hg : w.grownBy w2 (some g)) (s : Spot w A n g) (ha : Apart A n g0) : Bk w2 g0 t cs :=
  (hg.block g0 h.lt (fun e => s.ne ha h.lt (by cases e; rfl))).trans h
theorem OwnI.marked (h : OwnI B w A2 n xs2) (hg : w.grownBy w2 (some g)) (s : Spot w A n g) (ha : Apart2 A A2 n) : OwnI B w2 A2 n xs2 :=
  h.grown hg (fun q hn e => (ha g q hn (s.1 hn) e).symm)
end
theorem below_marked {W w w2 : World} {g : Nat} (h : Below W.heap.size W w) (hg : w.grownBy w2 (some g)) (hb : W.heap.size ≤ g) : Below W.heap.size W w2 :=
  h.grown hg h.size (fun k hk => by cases hk; exact hb)

theorem flatS (h w c : Int) (A : Option Addr) (n p : Nat) (xs : List Int) (x y z : Int) (r : Bool) (hi : ReIs h w c xs 1 1 n x y z r) (W : World) (hr : RdI W A n xs) (hn : n ≤ 1048576) :
    Calls Try.prog 33 #[.agg #[.int .i64 h, .int .i64 w, .int .i64 c, .slice A n p]] W (ReC W x y z r n xs) := by
  have a1 : Below W.heap.size W ((W.alloc (.cells #[.int .i64 h, .int .i64 w, .int .i64 c, .slice A n p] 35)).alloc (.cells #[.int .i64 0, .int .i64 0, .int .i64 0, .slice none 0 0] 35)) := ((Below.refl _ W).alloc (Nat.le_refl _) _).alloc (by simp) _
  have k2 := Bk.new (W.alloc (.cells #[.int .i64 h, .int .i64 w, .int .i64 c, .slice A n p] 35)) 35 #[.int .i64 0, .int .i64 0, .int .i64 0, .slice none 0 0]
  have r1 := hr.of_below a1
  simp only [World.size_alloc] at k2
  have i2 : W.heap.size ≤ W.heap.size + 1 := by omega
  have HI := Lib.hid hi
  clear hr hi
  go_enter Try.func33, Try.ntmps33
  go_wp2_with fail
  generalize (W.alloc (.cells #[.int .i64 h, .int .i64 w, .int .i64 c, .slice A n p] 35)).alloc (.cells #[.int .i64 0, .int .i64 0, .int .i64 0, .slice none 0 0] 35) = v at k2 a1 r1 ⊢
  generalize W.heap.size + 1 = g2 at k2 i2 ⊢
  refine (reshapeS h w c A n p xs 1 1 n _ r1 hn).mono ?_
  intro e u hh
  obtain ⟨B, cap, rfl, o1, b1⟩ := hh.toC HI.out
  have L2 := Lib.hid k2.lt
  have Z2 := Lib.hid a1.size
  replace k2 := k2.below b1
  have B1 := Lib.hid (a1.trans (b1.mono a1.size))
  have O1 := Lib.hid o1
  have K2 := Lib.hid k2
  have I2 := Lib.hid i2
  clear hh o1 a1 b1 r1 k2 i2 HI hn
  obtain ⟨j0, j1, j2, j3⟩ := K2.out.cell4
  obtain ⟨l0, l1, l2, l3⟩ := K2.out.free4
  go_wp2
  clear j0 j1 j2 j3 l0 l1 l2 l3
  have k9 := K2.out.set4 (x := .int .i64 x) (y := .int .i64 y) (z := .int .i64 z) (u := .slice B n cap)
  have o9 := O1.out.farB L2.out (.int .i64 x) (.int .i64 y) (.int .i64 z) (.slice B n cap)
  have b9 := below_set4 B1.out I2.out (.int .i64 x) (.int .i64 y) (.int .i64 z) (.slice B n cap)
  obtain ⟨z0, z1, z2, z3⟩ := k9.cell4
  refine bodyPost_ret (v := .tuple #[.agg #[.int .i64 x, .int .i64 y, .int .i64 z, .slice B n cap], .bool r]) ?_ rfl ⟨B, cap, rfl, o9.base Z2.out, b9⟩
  clear k9 o9 b9 K2 O1 B1
  simp [results, Try.results33, go_sem, z0, z1, z2, z3]

theorem flatI (h w c : Int) (b off n p : Nat) (xs : List Int) (x y z : Int) (r : Bool) (hi : ReIs h w c xs 1 1 n x y z r) (W : World) (hr : RdI W (some ⟨b, off, none⟩) n xs) (hn : n ≤ 1048576) :
    Calls Try.prog 34 #[.agg #[.int .i64 h, .int .i64 w, .int .i64 c, .slice (some ⟨b, off, none⟩) n p]] W (ReC W x y z r n xs) := by
  have a1 : Below W.heap.size W ((W.alloc (.cells #[.int .i64 h, .int .i64 w, .int .i64 c, .slice (some ⟨b, off, none⟩) n p] 35)).alloc (.cells #[.int .i64 0, .int .i64 0, .int .i64 0, .slice none 0 0] 35)) := ((Below.refl _ W).alloc (Nat.le_refl _) _).alloc (by simp) _
  have k2 := Bk.new (W.alloc (.cells #[.int .i64 h, .int .i64 w, .int .i64 c, .slice (some ⟨b, off, none⟩) n p] 35)) 35 #[.int .i64 0, .int .i64 0, .int .i64 0, .slice none 0 0]
  have r1 := hr.of_below a1
  simp only [World.size_alloc] at k2
  have i2 : W.heap.size ≤ W.heap.size + 1 := by omega
  have HI := Lib.hid hi
  clear hr hi
  go_enter Try.func34, Try.ntmps34
  go_wp2_with fail
  generalize (W.alloc (.cells #[.int .i64 h, .int .i64 w, .int .i64 c, .slice (some ⟨b, off, none⟩) n p] 35)).alloc (.cells #[.int .i64 0, .int .i64 0, .int .i64 0, .slice none 0 0] 35) = v at k2 a1 r1 ⊢
  generalize W.heap.size + 1 = g2 at k2 i2 ⊢
  refine (reshapeI h w c b off n p xs 1 1 n _ r1 hn).mono ?_
  intro e u hh
  obtain ⟨B, cap, rfl, o1, b1⟩ := hh.toC HI.out
  have L2 := Lib.hid k2.lt
  have Z2 := Lib.hid a1.size
  replace k2 := k2.below b1
  have B1 := Lib.hid (a1.trans (b1.mono a1.size))
  have O1 := Lib.hid o1
  have K2 := Lib.hid k2
  have I2 := Lib.hid i2
  clear hh o1 a1 b1 r1 k2 i2 HI hn
  obtain ⟨j0, j1, j2, j3⟩ := K2.out.cell4
  obtain ⟨l0, l1, l2, l3⟩ := K2.out.free4
  go_wp2
  clear j0 j1 j2 j3 l0 l1 l2 l3
  have k9 := K2.out.set4 (x := .int .i64 x) (y := .int .i64 y) (z := .int .i64 z) (u := .slice B n cap)
  have o9 := O1.out.farB L2.out (.int .i64 x) (.int .i64 y) (.int .i64 z) (.slice B n cap)
  have b9 := below_set4 B1.out I2.out (.int .i64 x) (.int .i64 y) (.int .i64 z) (.slice B n cap)
  obtain ⟨z0, z1, z2, z3⟩ := k9.cell4
  refine bodyPost_ret (v := .tuple #[.agg #[.int .i64 x, .int .i64 y, .int .i64 z, .slice B n cap], .bool r]) ?_ rfl ⟨B, cap, rfl, o9.base Z2.out, b9⟩
  clear k9 o9 b9 K2 O1 B1
  simp [results, Try.results34, go_sem, z0, z1, z2, z3]
end Qt
end Go.Proofs.Ytgbpomjdcglfmaa
