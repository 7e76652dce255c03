/- Reshape and FlatOf, of the program and of its model: what they give when they are called. Conditions: the slice reads as the list that is named. -/
import Derived.Test.YtgbpomjdcglfmaaCopies
import Derived.Test.YtgbpomjdcglfmaaSame
namespace Go.Proofs.Ytgbpomjdcglfmaa
open Go.RowKit Go.Sort
namespace Qt

/-- May a tensor with these sides and numbers be given these other sides? -/
def reOk (h w c : Int) (xs : List Int) (h2 w2 c2 : Int) : Bool := tOk h w c xs && (shOk h2 w2 c2 && decide ((xs.length : Int) = szOf h2 w2 c2))
/-- What Reshape gives: a tensor of its own, with the same numbers. -/
def Reshaped (W : World) (h w c : Int) (n : Nat) (xs : List Int) (h2 w2 c2 : Int) (e : Ending) (W' : World) : Prop :=
  ∃ B cap, e = .returned (.tuple #[.agg #[.int .i64 (if reOk h w c xs h2 w2 c2 then h2 else h), .int .i64 (if reOk h w c xs h2 w2 c2 then w2 else w), .int .i64 (if reOk h w c xs h2 w2 c2 then c2 else c), .slice B n cap], .bool (reOk h w c xs h2 w2 c2)]) ∧
    OwnI W.heap.size W' B n xs ∧ Below W.heap.size W W'
theorem Reshaped.no {W W' : World} {h w c h2 w2 c2 : Int} {n cap : Nat} {xs : List Int} {B : Option Addr} (hn : reOk h w c xs h2 w2 c2 = false) (ho : OwnI W.heap.size W' B n xs) (hb : Below W.heap.size W W') :
    Reshaped W h w c n xs h2 w2 c2 (.returned (.tuple #[.agg #[.int .i64 h, .int .i64 w, .int .i64 c, .slice B n cap], .bool false])) W' := ⟨B, cap, by rw [hn]; rfl, ho, hb⟩
theorem Reshaped.yes {W W' : World} {h w c h2 w2 c2 : Int} {n cap : Nat} {xs : List Int} {B : Option Addr} (hn : reOk h w c xs h2 w2 c2 = true) (ho : OwnI W.heap.size W' B n xs) (hb : Below W.heap.size W W') :
    Reshaped W h w c n xs h2 w2 c2 (.returned (.tuple #[.agg #[.int .i64 h2, .int .i64 w2, .int .i64 c2, .slice B n cap], .bool true])) W' := ⟨B, cap, by rw [hn]; rfl, ho, hb⟩
theorem OwnI.alloc {B : Nat} {w : World} {A : Option Addr} {n : Nat} {xs : List Int} (h : OwnI B w A n xs) (o : Obj) : OwnI B (w.alloc o) A n xs := h.of_below ((Below.refl _ w).alloc (Nat.le_refl _) o)
theorem OwnI.farB3 {B : Nat} {w : World} {A : Option Addr} {n : Nat} {xs : List Int} (h : OwnI B w A n xs) {b : Nat} (hb : b < B) (x y z : Value) : OwnI B (((w.setCell ⟨b, 0, none⟩ x).setCell ⟨b, 1, none⟩ y).setCell ⟨b, 2, none⟩ z) A n xs := ⟨h.1, fun hn => by
  obtain ⟨g, rfl, hB, _⟩ := h.2 hn
  exact (((h.far (p := ⟨b, 0, none⟩) (by show g ≠ b; omega) x).far (p := ⟨b, 1, none⟩) (by show g ≠ b; omega) y).far (p := ⟨b, 2, none⟩) (by show g ≠ b; omega) z).2 hn⟩

theorem OwnI.farN3 {B : Nat} {w : World} {A : Option Addr} {n : Nat} {xs : List Int} (h : OwnI B w A n xs) {b : Nat} (hb : ∀ g, 0 < n → A = some ⟨g, 0, none⟩ → g ≠ b) (x y z : Value) : OwnI B (((w.setCell ⟨b, 0, none⟩ x).setCell ⟨b, 1, none⟩ y).setCell ⟨b, 2, none⟩ z) A n xs := ⟨h.1, fun hn => by
  obtain ⟨g, rfl, _, _⟩ := h.2 hn
  have hg := hb g hn rfl
  exact (((h.far (p := ⟨b, 0, none⟩) hg x).far (p := ⟨b, 1, none⟩) hg y).far (p := ⟨b, 2, none⟩) hg z).2 hn⟩
theorem OwnI.lts {B : Nat} {w : World} {A : Option Addr} {n : Nat} {xs : List Int} (h : OwnI B w A n xs) : ∀ g, 0 < n → A = some ⟨g, 0, none⟩ → g ≠ w.heap.size := fun g hn e => by
  obtain ⟨g', e', _, hl, _⟩ := h.2 hn
  rw [e] at e'; cases e'; omega

theorem reshapeS (h w c : Int) (A : Option Addr) (n p : Nat) (xs : List Int) (h2 w2 c2 : Int) (W : World) (hr : RdI W A n xs) (hn : n ≤ 1048576) :
    Calls Try.prog 31 #[.agg #[.int .i64 h, .int .i64 w, .int .i64 c, .slice A n p], .agg #[.int .i64 h2, .int .i64 w2, .int .i64 c2]] W (Reshaped W h w c n xs h2 w2 c2) := by
  have HN := Lib.hid hn
  have HL := Lib.hid hr.1
  obtain ⟨r, hrr⟩ : ∃ r, reOk h w c xs h2 w2 c2 = r := ⟨_, rfl⟩
  have a0 : Below W.heap.size W (((W.alloc (.cells #[.int .i64 h, .int .i64 w, .int .i64 c, .slice A n p] 35)).alloc (.cells #[.int .i64 h2, .int .i64 w2, .int .i64 c2] 25)).alloc (.cells #[.int .i64 0, .int .i64 0, .int .i64 0, .slice none 0 0] 35)) := (((Below.refl _ W).alloc (Nat.le_refl _) _).alloc (by simp) _).alloc (by simp only [World.size_alloc]; omega) _
  have k2 := ((Bk.new W 35 #[.int .i64 h, .int .i64 w, .int .i64 c, .slice A n p]).alloc (.cells #[.int .i64 h2, .int .i64 w2, .int .i64 c2] 25)).alloc (.cells #[.int .i64 0, .int .i64 0, .int .i64 0, .slice none 0 0] 35)
  have k3 := (Bk.new (W.alloc (.cells #[.int .i64 h, .int .i64 w, .int .i64 c, .slice A n p] 35)) 25 #[.int .i64 h2, .int .i64 w2, .int .i64 c2]).alloc (.cells #[.int .i64 0, .int .i64 0, .int .i64 0, .slice none 0 0] 35)
  have k4 := Bk.new ((W.alloc (.cells #[.int .i64 h, .int .i64 w, .int .i64 c, .slice A n p] 35)).alloc (.cells #[.int .i64 h2, .int .i64 w2, .int .i64 c2] 25)) 35 #[.int .i64 0, .int .i64 0, .int .i64 0, .slice none 0 0]
  have r0 := hr.of_below a0
  simp only [World.size_alloc] at k3 k4
  have i3 : W.heap.size ≤ W.heap.size + 1 + 1 := by omega
  have HRR := Lib.hid hrr
  clear hr hn hrr
  go_enter Try.func31, Try.ntmps31
  go_wp2_with fail
  generalize ((W.alloc (.cells #[.int .i64 h, .int .i64 w, .int .i64 c, .slice A n p] 35)).alloc (.cells #[.int .i64 h2, .int .i64 w2, .int .i64 c2] 25)).alloc (.cells #[.int .i64 0, .int .i64 0, .int .i64 0, .slice none 0 0] 35) = v at k2 k3 k4 a0 r0 ⊢
  generalize W.heap.size + 1 + 1 = g4 at k4 i3 ⊢
  generalize W.heap.size + 1 = g3 at k3 ⊢
  have K2 := Lib.hid k2; have K3 := Lib.hid k3; have K4 := Lib.hid k4; have A0 := Lib.hid a0; have R0 := Lib.hid r0; have I3 := Lib.hid i3
  clear k2 k3 k4 a0 r0 i3
  refine (l02CopyS h w c A n p xs _ R0.out HN.out).mono ?_
  rintro e u1 ⟨B, cap, rfl, o1, b1⟩
  have LV := Lib.hid K4.out.lt
  have VB := Lib.hid A0.out.size
  replace K2 := Lib.hid (K2.out.below b1); replace K3 := Lib.hid (K3.out.below b1); replace K4 := Lib.hid (K4.out.below b1)
  replace A0 := Lib.hid (A0.out.trans (b1.mono A0.out.size)); replace R0 := Lib.hid (R0.out.of_below b1)
  have O1 := Lib.hid o1
  clear b1 o1
  obtain ⟨c0, c1, c2', c3⟩ := K2.out.cell4
  go_wp2_with fail
  clear c0 c1 c2' c3
  have K6 := Lib.hid (Bk.new u1 35 #[.int .i64 h, .int .i64 w, .int .i64 c, .slice B n cap])
  have N46 := Lib.hid (show g4 ≠ u1.heap.size from Nat.ne_of_lt K4.out.lt)
  have N64 := Lib.hid (show u1.heap.size ≠ g4 from Nat.ne_of_gt K4.out.lt)
  have L6 := Lib.hid A0.out.size
  have NB6 := Lib.hid O1.out.lts
  replace K2 := Lib.hid (K2.out.alloc (.cells #[.int .i64 h, .int .i64 w, .int .i64 c, .slice B n cap] 35)); replace K3 := Lib.hid (K3.out.alloc (.cells #[.int .i64 h, .int .i64 w, .int .i64 c, .slice B n cap] 35)); replace K4 := Lib.hid (K4.out.alloc (.cells #[.int .i64 h, .int .i64 w, .int .i64 c, .slice B n cap] 35))
  replace R0 := Lib.hid (R0.out.of_below ((Below.refl _ u1).alloc (Nat.le_refl _) (.cells #[.int .i64 h, .int .i64 w, .int .i64 c, .slice B n cap] 35))); replace O1 := Lib.hid (O1.out.alloc (.cells #[.int .i64 h, .int .i64 w, .int .i64 c, .slice B n cap] 35))
  replace A0 := Lib.hid (A0.out.alloc A0.out.size (.cells #[.int .i64 h, .int .i64 w, .int .i64 c, .slice B n cap] 35))
  generalize u1.alloc (.cells #[.int .i64 h, .int .i64 w, .int .i64 c, .slice B n cap] 35) = y at K2 K3 K4 K6 R0 O1 A0 ⊢
  generalize u1.heap.size = g6 at K6 N46 N64 L6 NB6 ⊢
  have k0 := cell_regrown (K2.out.cell 0 rfl); have k1 := cell_regrown (K2.out.cell 1 rfl); have k2 := cell_regrown (K2.out.cell 2 rfl); have k3 := cell_regrown (K2.out.cell 3 rfl)
  have m0 := cell_regrown (K3.out.cell 0 rfl); have m1 := cell_regrown (K3.out.cell 1 rfl); have m2 := cell_regrown (K3.out.cell 2 rfl)
  rcases hb : tOk h w c xs with _ | _
  · obtain rfl : r = false := by rw [← HRR.out]; simp [reOk, hb]
    have q0 := Lib.hid (fun d os => Calls.regrown_of (tensorOkS h w c A n p xs false hb (grow (redrawn y d) os) (R0.out.of_below (below_regrown y d os)) HN.out))
    clear hb
    refine wp_region_quiet_below mixed (by kernel_rfl) ?_
    repeat (go_big_quiet_step (first | exact q0.out _ _))
    refine wpQuiet_nil ?_
    intro _ hw'
    obtain ⟨⟨dq, osq⟩, rfl⟩ := hw'
    have hbq := below_regrown y dq osq
    replace K3 := Lib.hid (K3.out.below hbq); replace K4 := Lib.hid (K4.out.below hbq); replace K6 := Lib.hid (K6.out.below hbq)
    replace O1 := Lib.hid (O1.out.of_below hbq); replace A0 := Lib.hid (A0.out.trans (hbq.mono A0.out.size))
    clear k0 k1 k2 k3 m0 m1 m2 q0 hbq K2 R0
    generalize grow (redrawn y dq) osq = z at K3 K4 K6 O1 A0 ⊢
    obtain ⟨f0, f1, f2, f3⟩ := K6.out.cell4
    obtain ⟨j0, j1, j2, j3⟩ := K4.out.cell4
    obtain ⟨l0, l1, l2, l3⟩ := K4.out.free4
    go_wp2
    clear f0 f1 f2 f3 j0 j1 j2 j3 l0 l1 l2 l3
    have k9 := K4.out.set4 (x := .int .i64 h) (y := .int .i64 w) (z := .int .i64 c) (u := .slice B n cap)
    have o9 := O1.out.farB LV.out (.int .i64 h) (.int .i64 w) (.int .i64 c) (.slice B n cap)
    have b9 := below_set4 A0.out I3.out (.int .i64 h) (.int .i64 w) (.int .i64 c) (.slice B n cap)
    obtain ⟨z0, z1, z2, z3⟩ := k9.cell4
    refine bodyPost_ret (v := .tuple #[.agg #[.int .i64 h, .int .i64 w, .int .i64 c, .slice B n cap], .bool false]) ?_ rfl (Reshaped.no HRR.out (o9.base VB.out) b9)
    clear k9 o9 b9 K3 K4 K6 O1 A0
    simp [results, Try.results31, go_sem, z0, z1, z2, z3]
  · rcases hs : shOk h2 w2 c2 with _ | _
    · have q0 := Lib.hid (fun d os => Calls.regrown_of (tensorOkS h w c A n p xs true hb (grow (redrawn y d) os) (R0.out.of_below (below_regrown y d os)) HN.out))
      obtain rfl : r = false := by rw [← HRR.out]; simp [reOk, hs]
      have q1 := Lib.hid (fun d os => Calls.regrown_of (shapeOkS h2 w2 c2 false hs (grow (redrawn y d) os)))
      clear hb hs
      refine wp_region_quiet_below mixed (by kernel_rfl) ?_
      repeat (go_big_quiet_step (first | exact q0.out _ _ | exact q1.out _ _))
      refine wpQuiet_nil ?_
      intro _ hw'
      obtain ⟨⟨dq, osq⟩, rfl⟩ := hw'
      have hbq := below_regrown y dq osq
      replace K3 := Lib.hid (K3.out.below hbq); replace K4 := Lib.hid (K4.out.below hbq); replace K6 := Lib.hid (K6.out.below hbq)
      replace O1 := Lib.hid (O1.out.of_below hbq); replace A0 := Lib.hid (A0.out.trans (hbq.mono A0.out.size))
      clear k0 k1 k2 k3 m0 m1 m2 q0 q1 hbq K2 R0
      generalize grow (redrawn y dq) osq = z at K3 K4 K6 O1 A0 ⊢
      obtain ⟨f0, f1, f2, f3⟩ := K6.out.cell4
      obtain ⟨j0, j1, j2, j3⟩ := K4.out.cell4
      obtain ⟨l0, l1, l2, l3⟩ := K4.out.free4
      go_wp2
      clear f0 f1 f2 f3 j0 j1 j2 j3 l0 l1 l2 l3
      have k9 := K4.out.set4 (x := .int .i64 h) (y := .int .i64 w) (z := .int .i64 c) (u := .slice B n cap)
      have o9 := O1.out.farB LV.out (.int .i64 h) (.int .i64 w) (.int .i64 c) (.slice B n cap)
      have b9 := below_set4 A0.out I3.out (.int .i64 h) (.int .i64 w) (.int .i64 c) (.slice B n cap)
      obtain ⟨z0, z1, z2, z3⟩ := k9.cell4
      refine bodyPost_ret (v := .tuple #[.agg #[.int .i64 h, .int .i64 w, .int .i64 c, .slice B n cap], .bool false]) ?_ rfl (Reshaped.no HRR.out (o9.base VB.out) b9)
      clear k9 o9 b9 K3 K4 K6 O1 A0
      simp [results, Try.results31, go_sem, z0, z1, z2, z3]
    · have hz := szOf_bd h2 w2 c2
      have hn0 : (0 : Int) ≤ n := Int.natCast_nonneg n
      by_cases hlen : (n : Int) = szOf h2 w2 c2
      · have q0 := Lib.hid (fun d os => Calls.regrown_of (tensorOkS h w c A n p xs true hb (grow (redrawn y d) os) (R0.out.of_below (below_regrown y d os)) HN.out))
        obtain rfl : r = true := by rw [← HRR.out]; have := HL.out; simp [reOk, hb, hs]; omega
        have hd : (szOf h2 w2 c2 != (n : Int)) = false := by simpa using hlen.symm
        have q1 := Lib.hid (fun d os => Calls.regrown_of (shapeOkS h2 w2 c2 true hs (grow (redrawn y d) os)))
        have q2 := Lib.hid (fun d os => Calls.regrown_of (sizeOfS h2 w2 c2 (grow (redrawn y d) os)))
        clear hb hs hlen
        refine wp_region_quiet_below mixed (by kernel_rfl) ?_
        repeat (go_big_quiet_step (first | exact q0.out _ _ | exact q1.out _ _ | exact q2.out _ _))
        refine wpQuiet_nil ?_
        intro _ hw'
        obtain ⟨⟨dq, osq⟩, rfl⟩ := hw'
        have hbq := below_regrown y dq osq
        replace K3 := Lib.hid (K3.out.below hbq); replace K4 := Lib.hid (K4.out.below hbq); replace K6 := Lib.hid (K6.out.below hbq)
        replace O1 := Lib.hid (O1.out.of_below hbq); replace A0 := Lib.hid (A0.out.trans (hbq.mono A0.out.size))
        clear k0 k1 k2 k3 m0 m1 m2 q0 q1 q2 hbq K2 R0 hd hz hn0
        generalize grow (redrawn y dq) osq = z at K3 K4 K6 O1 A0 ⊢
        obtain ⟨s0, s1, s2⟩ := K3.out.cell3
        obtain ⟨f0, f1, f2, f3⟩ := K6.out.cell4
        obtain ⟨g0, g1, g2, g3'⟩ := K6.out.free4
        obtain ⟨j0, j1, j2, j3⟩ := K4.out.cell4
        obtain ⟨l0, l1, l2, l3⟩ := K4.out.free4
        have hne : g4 ≠ g6 := N46.out
        have hne2 : g6 ≠ g4 := N64.out
        go_wp2
        clear s0 s1 s2 f0 f1 f2 f3 g0 g1 g2 g3' j0 j1 j2 j3 l0 l1 l2 l3
        have k9 := (K4.out.far3 hne (.int .i64 h2) (.int .i64 w2) (.int .i64 c2)).set4 (x := .int .i64 h2) (y := .int .i64 w2) (z := .int .i64 c2) (u := .slice B n cap)
        have o9 := (O1.out.farN3 NB6.out (.int .i64 h2) (.int .i64 w2) (.int .i64 c2)).farB LV.out (.int .i64 h2) (.int .i64 w2) (.int .i64 c2) (.slice B n cap)
        have b9 := below_set4 (below_set3 A0.out L6.out (.int .i64 h2) (.int .i64 w2) (.int .i64 c2)) I3.out (.int .i64 h2) (.int .i64 w2) (.int .i64 c2) (.slice B n cap)
        obtain ⟨z0, z1, z2, z3⟩ := k9.cell4
        refine bodyPost_ret (v := .tuple #[.agg #[.int .i64 h2, .int .i64 w2, .int .i64 c2, .slice B n cap], .bool true]) ?_ rfl (Reshaped.yes HRR.out (o9.base VB.out) b9)
        clear k9 o9 b9 K3 K4 K6 O1 A0
        simp [results, Try.results31, go_sem, z0, z1, z2, z3]
      · have q0 := Lib.hid (fun d os => Calls.regrown_of (tensorOkS h w c A n p xs true hb (grow (redrawn y d) os) (R0.out.of_below (below_regrown y d os)) HN.out))
        obtain rfl : r = false := by rw [← HRR.out]; have := HL.out; simp [reOk]; intro _ _; omega
        have hd : (szOf h2 w2 c2 != (n : Int)) = true := by simpa using (Ne.symm hlen)
        have q1 := Lib.hid (fun d os => Calls.regrown_of (shapeOkS h2 w2 c2 true hs (grow (redrawn y d) os)))
        have q2 := Lib.hid (fun d os => Calls.regrown_of (sizeOfS h2 w2 c2 (grow (redrawn y d) os)))
        clear hb hs hlen
        refine wp_region_quiet_below mixed (by kernel_rfl) ?_
        repeat (go_big_quiet_step (first | exact q0.out _ _ | exact q1.out _ _ | exact q2.out _ _))
        refine wpQuiet_nil ?_
        intro _ hw'
        obtain ⟨⟨dq, osq⟩, rfl⟩ := hw'
        have hbq := below_regrown y dq osq
        replace K3 := Lib.hid (K3.out.below hbq); replace K4 := Lib.hid (K4.out.below hbq); replace K6 := Lib.hid (K6.out.below hbq)
        replace O1 := Lib.hid (O1.out.of_below hbq); replace A0 := Lib.hid (A0.out.trans (hbq.mono A0.out.size))
        clear k0 k1 k2 k3 m0 m1 m2 q0 q1 q2 hbq K2 R0 hd hz hn0
        generalize grow (redrawn y dq) osq = z at K3 K4 K6 O1 A0 ⊢
        obtain ⟨f0, f1, f2, f3⟩ := K6.out.cell4
        obtain ⟨j0, j1, j2, j3⟩ := K4.out.cell4
        obtain ⟨l0, l1, l2, l3⟩ := K4.out.free4
        go_wp2
        clear f0 f1 f2 f3 j0 j1 j2 j3 l0 l1 l2 l3
        have k9 := K4.out.set4 (x := .int .i64 h) (y := .int .i64 w) (z := .int .i64 c) (u := .slice B n cap)
        have o9 := O1.out.farB LV.out (.int .i64 h) (.int .i64 w) (.int .i64 c) (.slice B n cap)
        have b9 := below_set4 A0.out I3.out (.int .i64 h) (.int .i64 w) (.int .i64 c) (.slice B n cap)
        obtain ⟨z0, z1, z2, z3⟩ := k9.cell4
        refine bodyPost_ret (v := .tuple #[.agg #[.int .i64 h, .int .i64 w, .int .i64 c, .slice B n cap], .bool false]) ?_ rfl (Reshaped.no HRR.out (o9.base VB.out) b9)
        clear k9 o9 b9 K3 K4 K6 O1 A0
        simp [results, Try.results31, go_sem, z0, z1, z2, z3]
end Qt
end Go.Proofs.Ytgbpomjdcglfmaa
