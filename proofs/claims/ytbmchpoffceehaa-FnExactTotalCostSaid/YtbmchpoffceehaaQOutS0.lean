/- What OutShape of the model gives for a layer of kind 0. Conditions: the shape is right, the slices read as the lists that are named. -/
import Derived.Test.YtbmchpoffceehaaQPlain
import Derived.Test.YtbmchpoffceehaaQBaseA
import Derived.Deep.RegionHeld3
namespace Go.Proofs.Ytbmchpoffceehaa
open Go.RowKit Go.Sort
set_option linter.unusedSimpArgs false
namespace Qt
theorem keep5 {v w1 w2 : World} {p0 p1 p2 p3 p4 : Addr} {x0 x1 x2 x3 x4 : Value} (hb : Below w1.heap.size w1 w2)
    (h : w1.cell? p0 = some x0 ∧ w1.cell? p1 = some x1 ∧ w1.cell? p2 = some x2 ∧ w1.cell? p3 = some x3 ∧ w1.cell? p4 = some x4 ∧ Hid (Below v.heap.size v w1)) :
    w2.cell? p0 = some x0 ∧ w2.cell? p1 = some x1 ∧ w2.cell? p2 = some x2 ∧ w2.cell? p3 = some x3 ∧ w2.cell? p4 = some x4 ∧ Hid (Below v.heap.size v w2) :=
  ⟨keep hb h.1, keep hb h.2.1, keep hb h.2.2.1, keep hb h.2.2.2.1, keep hb h.2.2.2.2.1, keepB hb h.2.2.2.2.2⟩
set_option maxRecDepth 100000 in
set_option maxHeartbeats 2000000 in
theorem outS_0 (h w c o s t m f z : Int) (A : Option Addr) (n p : Nat) (xs : List Int) (B : Option Addr) (q r : Nat) (ys : List Int) (W : World) (hr : RdI W A n xs) (hr2 : RdI W B q ys) (hn : n ≤ 1048576) (hq : q ≤ 1048576) (hs : shOk h w c = true) :
    Calls Try.prog 83 #[.agg #[.int .i64 h, .int .i64 w, .int .i64 c], .agg #[.int .i64 0, .int .i64 o, .int .i64 s, .int .i64 t, .int .i64 m, .int .i64 f, .int .i64 z, .slice A n p, .slice B q r]] W fun e W' => e = .returned (outV (outL h w c 0 o s t m f z xs ys)) ∧ Below W.heap.size W W' := by
  have HN := Lib.hid hn
  have HQ := Lib.hid hq
  have b0 : Below W.heap.size W ((((W.alloc (.cells #[.int .i64 h, .int .i64 w, .int .i64 c] 34)).alloc (.cells #[.int .i64 0, .int .i64 o, .int .i64 s, .int .i64 t, .int .i64 m, .int .i64 f, .int .i64 z, .slice A n p, .slice B q r] 104)).alloc (.cells #[.int .i64 0, .int .i64 0, .int .i64 0] 34)).alloc (.cells #[.int .i64 0, .int .i64 0, .int .i64 0] 34)) := (((Below.refl _ W).alloc (Nat.le_refl _) _).alloc (by simp) _).alloc (by simp only [World.size_alloc]; omega) _ |>.alloc (by simp only [World.size_alloc]; omega) _
  have RA := Lib.hid (hr.of_below b0)
  have RB := Lib.hid (hr2.of_below b0)
  have Bl := Lib.hid b0
  have KS : Hid (Bk ((((W.alloc (.cells #[.int .i64 h, .int .i64 w, .int .i64 c] 34)).alloc (.cells #[.int .i64 0, .int .i64 o, .int .i64 s, .int .i64 t, .int .i64 m, .int .i64 f, .int .i64 z, .slice A n p, .slice B q r] 104)).alloc (.cells #[.int .i64 0, .int .i64 0, .int .i64 0] 34)).alloc (.cells #[.int .i64 0, .int .i64 0, .int .i64 0] 34)) W.heap.size 34 #[.int .i64 h, .int .i64 w, .int .i64 c]) := Lib.hid ((((Bk.new W 34 #[.int .i64 h, .int .i64 w, .int .i64 c]).alloc _).alloc _).alloc _)
  have KL : Hid (Bk ((((W.alloc (.cells #[.int .i64 h, .int .i64 w, .int .i64 c] 34)).alloc (.cells #[.int .i64 0, .int .i64 o, .int .i64 s, .int .i64 t, .int .i64 m, .int .i64 f, .int .i64 z, .slice A n p, .slice B q r] 104)).alloc (.cells #[.int .i64 0, .int .i64 0, .int .i64 0] 34)).alloc (.cells #[.int .i64 0, .int .i64 0, .int .i64 0] 34)) (W.heap.size + 1) 104 #[.int .i64 0, .int .i64 o, .int .i64 s, .int .i64 t, .int .i64 m, .int .i64 f, .int .i64 z, .slice A n p, .slice B q r]) := Lib.hid (by
    have := (((Bk.new (W.alloc (.cells #[.int .i64 h, .int .i64 w, .int .i64 c] 34)) 104 #[.int .i64 0, .int .i64 o, .int .i64 s, .int .i64 t, .int .i64 m, .int .i64 f, .int .i64 z, .slice A n p, .slice B q r]).alloc (.cells #[.int .i64 0, .int .i64 0, .int .i64 0] 34)).alloc (.cells #[.int .i64 0, .int .i64 0, .int .i64 0] 34))
    simpa only [World.size_alloc] using this)
  have KR : Hid (Bk ((((W.alloc (.cells #[.int .i64 h, .int .i64 w, .int .i64 c] 34)).alloc (.cells #[.int .i64 0, .int .i64 o, .int .i64 s, .int .i64 t, .int .i64 m, .int .i64 f, .int .i64 z, .slice A n p, .slice B q r] 104)).alloc (.cells #[.int .i64 0, .int .i64 0, .int .i64 0] 34)).alloc (.cells #[.int .i64 0, .int .i64 0, .int .i64 0] 34)) (W.heap.size + 1 + 1) 34 #[.int .i64 0, .int .i64 0, .int .i64 0]) := Lib.hid (by
    have := ((Bk.new ((W.alloc (.cells #[.int .i64 h, .int .i64 w, .int .i64 c] 34)).alloc (.cells #[.int .i64 0, .int .i64 o, .int .i64 s, .int .i64 t, .int .i64 m, .int .i64 f, .int .i64 z, .slice A n p, .slice B q r] 104)) 34 #[.int .i64 0, .int .i64 0, .int .i64 0]).alloc (.cells #[.int .i64 0, .int .i64 0, .int .i64 0] 34))
    simpa only [World.size_alloc] using this)
  have KN : Hid (Bk ((((W.alloc (.cells #[.int .i64 h, .int .i64 w, .int .i64 c] 34)).alloc (.cells #[.int .i64 0, .int .i64 o, .int .i64 s, .int .i64 t, .int .i64 m, .int .i64 f, .int .i64 z, .slice A n p, .slice B q r] 104)).alloc (.cells #[.int .i64 0, .int .i64 0, .int .i64 0] 34)).alloc (.cells #[.int .i64 0, .int .i64 0, .int .i64 0] 34)) (W.heap.size + 1 + 1 + 1) 34 #[.int .i64 0, .int .i64 0, .int .i64 0]) := Lib.hid (by
    have := (Bk.new (((W.alloc (.cells #[.int .i64 h, .int .i64 w, .int .i64 c] 34)).alloc (.cells #[.int .i64 0, .int .i64 o, .int .i64 s, .int .i64 t, .int .i64 m, .int .i64 f, .int .i64 z, .slice A n p, .slice B q r] 104)).alloc (.cells #[.int .i64 0, .int .i64 0, .int .i64 0] 34)) 34 #[.int .i64 0, .int .i64 0, .int .i64 0])
    simpa only [World.size_alloc] using this)
  clear hr hr2 hn hq b0
  obtain ⟨R, hR⟩ : ∃ R, outL h w c 0 o s t m f z xs ys = R := ⟨_, rfl⟩
  have HR0 := Lib.hid hR
  clear hR
  have GR := Lib.hid (show W.heap.size ≤ W.heap.size + 1 + 1 by omega)
  have NRN := Lib.hid (show W.heap.size + 1 + 1 + 1 ≠ W.heap.size + 1 + 1 by omega)
  have NRS := Lib.hid (show W.heap.size ≠ W.heap.size + 1 + 1 by omega)
  have NRL := Lib.hid (show W.heap.size + 1 ≠ W.heap.size + 1 + 1 by omega)
  have HS := Lib.hid hs
  clear hs
  go_enter Try.func83, Try.ntmps83
  go_wp2_with fail
  generalize ((((W.alloc (.cells #[.int .i64 h, .int .i64 w, .int .i64 c] 34)).alloc (.cells #[.int .i64 0, .int .i64 o, .int .i64 s, .int .i64 t, .int .i64 m, .int .i64 f, .int .i64 z, .slice A n p, .slice B q r] 104)).alloc (.cells #[.int .i64 0, .int .i64 0, .int .i64 0] 34)).alloc (.cells #[.int .i64 0, .int .i64 0, .int .i64 0] 34)) = v at KS KL KR KN RA RB Bl ⊢
  generalize W.heap.size + 1 + 1 + 1 = gN at KN NRN ⊢
  generalize W.heap.size + 1 + 1 = gR at KR GR NRN NRS NRL ⊢
  generalize W.heap.size + 1 = gL at KL NRL ⊢
  with_reducible refine (shapeOkS h w c true HS.out _).mono ?_
  rintro e u1 ⟨rfl, b1⟩
  replace KS := Lib.hid (KS.out.below b1)
  replace KL := Lib.hid (KL.out.below b1)
  replace KR := Lib.hid (KR.out.below b1)
  replace KN := Lib.hid (KN.out.below b1)
  replace RA := Lib.hid (RA.out.of_below b1)
  replace RB := Lib.hid (RB.out.of_below b1)
  replace Bl := Lib.hid (Bl.out.trans (b1.mono Bl.out.size))
  clear b1
  obtain ⟨a0, a1, a2⟩ := KS.out.cell3
  obtain ⟨c0, c1, c2, c3, c4, c5, c6, c7, c8⟩ := KL.out.cell9
  obtain ⟨n0, n1, n2⟩ := KN.out.cell3
  obtain ⟨f0, f1, f2⟩ := KR.out.free3
  obtain ⟨d0, d1, d2⟩ := KR.out.cell3
  go_wp2_with fail
  with_reducible refine (inS_yes 0 0 5 (by omega) (by omega) _).mono ?_
  rintro e w1 ⟨rfl, rfl⟩
  go_wp2_with fail
  with_reducible refine (inS_no 0 1 3 (by omega) _).mono ?_
  rintro e w1 ⟨rfl, rfl⟩
  go_wp2_with fail
  clear a0 a1 a2 c0 c1 c2 c3 c4 c5 c6 c7 c8 n0 n1 n2 f0 f1 f2 d0 d1 d2
  rcases hp : plainB 0 o s t m f z xs ys false true with _ | _
  · have HP := Lib.hid hp
    clear hp
    have HR : Hid (R = none) := Lib.hid (by
      rw [← HR0.out]
      have hp := HP.out
      simp only [plainB, if_true, if_false, Bool.false_eq_true, zeroB, Nat.reduceEqDiff, reduceCtorEq, Int.reduceEq] at hp
      simp only [outL, HS.out, if_true, rightB_eq, fitsB_eq, Int.reduceEq, if_false, or_true, true_or, or_false, false_or]
      cases h1 : winB s t <;> cases h2 : emptyW s t <;> cases h3 : weighB o m f z xs ys <;> cases h4 : emptyF o m f xs ys <;> simp_all)
    with_reducible refine (plain_false_true 0 o s t m f z A n p xs B q r ys _ RA.out RB.out HN.out HQ.out).mono ?_
    rw [HP.out]
    rintro e u2 ⟨rfl, b2⟩
    replace KS := Lib.hid (KS.out.below b2)
    replace KL := Lib.hid (KL.out.below b2)
    replace KR := Lib.hid (KR.out.below b2)
    replace KN := Lib.hid (KN.out.below b2)
    replace RA := Lib.hid (RA.out.of_below b2)
    replace RB := Lib.hid (RB.out.of_below b2)
    replace Bl := Lib.hid (Bl.out.trans (b2.mono Bl.out.size))
    clear b2
    obtain ⟨a0, a1, a2⟩ := KS.out.cell3
    obtain ⟨c0, c1, c2, c3, c4, c5, c6, c7, c8⟩ := KL.out.cell9
    obtain ⟨n0, n1, n2⟩ := KN.out.cell3
    obtain ⟨f0, f1, f2⟩ := KR.out.free3
    obtain ⟨d0, d1, d2⟩ := KR.out.cell3
    go_wp2
    have kR := KR.out.set3 (x := .int .i64 0) (y := .int .i64 0) (z := .int .i64 0)
    have b9 := below_set3 Bl.out GR.out (.int .i64 0) (.int .i64 0) (.int .i64 0)
    obtain ⟨z0, z1, z2⟩ := kR.cell3
    refine bodyPost_ret (v := .tuple #[.agg #[.int .i64 0, .int .i64 0, .int .i64 0], .bool false]) ?_ rfl ⟨by rw [HR0.out, HR.out]; rfl, b9⟩
    clear kR b9 a0 a1 a2 c0 c1 c2 c3 c4 c5 c6 c7 c8 n0 n1 n2 f0 f1 f2 d0 d1 d2
    generalize ((u2.setCell ⟨gR, 0, none⟩ (.int .i64 0)).setCell ⟨gR, 1, none⟩ (.int .i64 0)).setCell ⟨gR, 2, none⟩ (.int .i64 0) = w9 at z0 z1 z2 ⊢
    simp [results, Try.results83, go_sem, z0, z1, z2]
  have HP := Lib.hid hp
  clear hp
  with_reducible refine (plain_false_true 0 o s t m f z A n p xs B q r ys _ RA.out RB.out HN.out HQ.out).mono ?_
  rw [HP.out]
  rintro e u2 ⟨rfl, b2⟩
  replace KS := Lib.hid (KS.out.below b2)
  replace KL := Lib.hid (KL.out.below b2)
  replace KR := Lib.hid (KR.out.below b2)
  replace KN := Lib.hid (KN.out.below b2)
  replace RA := Lib.hid (RA.out.of_below b2)
  replace RB := Lib.hid (RB.out.of_below b2)
  replace Bl := Lib.hid (Bl.out.trans (b2.mono Bl.out.size))
  clear b2
  obtain ⟨y1, y2⟩ := szOf_bd h w c
  obtain ⟨a0, a1, a2⟩ := KS.out.cell3
  obtain ⟨c0, c1, c2, c3, c4, c5, c6, c7, c8⟩ := KL.out.cell9
  obtain ⟨n0, n1, n2⟩ := KN.out.cell3
  obtain ⟨f0, f1, f2⟩ := KR.out.free3
  obtain ⟨d0, d1, d2⟩ := KR.out.cell3
  have az0 := fun o => (KS.out.alloc o).cell 0 rfl
  have az1 := fun o => (KS.out.alloc o).cell 1 rfl
  have az2 := fun o => (KS.out.alloc o).cell 2 rfl
  have cz0 := fun o => (KL.out.alloc o).cell 0 rfl
  have cz1 := fun o => (KL.out.alloc o).cell 1 rfl
  have cz2 := fun o => (KL.out.alloc o).cell 2 rfl
  have cz3 := fun o => (KL.out.alloc o).cell 3 rfl
  have cz4 := fun o => (KL.out.alloc o).cell 4 rfl
  have cz5 := fun o => (KL.out.alloc o).cell 5 rfl
  have cz6 := fun o => (KL.out.alloc o).cell 6 rfl
  have cz7 := fun o => (KL.out.alloc o).cell 7 rfl
  have cz8 := fun o => (KL.out.alloc o).cell 8 rfl
  have nz0 := fun o => (KN.out.alloc o).cell 0 rfl
  have nz1 := fun o => (KN.out.alloc o).cell 1 rfl
  have nz2 := fun o => (KN.out.alloc o).cell 2 rfl
  have dz0 := fun o => (KR.out.alloc o).cell 0 rfl
  have dz1 := fun o => (KR.out.alloc o).cell 1 rfl
  have dz2 := fun o => (KR.out.alloc o).cell 2 rfl
  have fz0 := fun o => (KR.out.alloc o).frozen 0
  have fz1 := fun o => (KR.out.alloc o).frozen 1
  have fz2 := fun o => (KR.out.alloc o).frozen 2
  go_wp2_with fail
  have a9 := (Below.refl _ u2).alloc (Nat.le_refl _) (.cells #[.int .i64 h, .int .i64 w, .int .i64 c] 34)
  clear a0 a1 a2 c0 c1 c2 c3 c4 c5 c6 c7 c8 n0 n1 n2 f0 f1 f2 d0 d1 d2 az0 az1 az2 cz0 cz1 cz2 cz3 cz4 cz5 cz6 cz7 cz8 nz0 nz1 nz2 dz0 dz1 dz2 fz0 fz1 fz2
  replace KS := Lib.hid (KS.out.below a9)
  replace KL := Lib.hid (KL.out.below a9)
  replace KR := Lib.hid (KR.out.below a9)
  replace KN := Lib.hid (KN.out.below a9)
  replace RA := Lib.hid (RA.out.of_below a9)
  replace RB := Lib.hid (RB.out.of_below a9)
  replace Bl := Lib.hid (Bl.out.trans (a9.mono Bl.out.size))
  clear a9
  generalize u2.alloc (.cells #[.int .i64 h, .int .i64 w, .int .i64 c] 34) = v2 at KS KL KR KN RA RB Bl ⊢
  have hp' := HP.out
  simp only [plainB, if_true, if_false, Bool.false_eq_true, Bool.and_eq_true] at hp'
  obtain ⟨o1, o2⟩ := weigh_o hp'.2
  clear hp'
  obtain ⟨m1, m2⟩ := mulBd (by omega : 0 ≤ o) o2 y1 y2
  have hw0 : IntKind.i64.wrap (o * szOf h w c) = o * szOf h w c := by rw [IntKind.wrap_i64]; omega
  have hn0 : (0 : Int) ≤ n := Int.natCast_nonneg n
  have hn1 : (n : Int) ≤ 1048576 := by have := HN.out; omega
  by_cases hz : szOf h w c ≤ 64
  case neg =>
    have hz1 : (64 : Int) < szOf h w c := by omega
    have HR : Hid (R = none) := Lib.hid (by
      rw [← HR0.out]
      have hp := HP.out
      simp only [plainB, if_true, if_false, Bool.false_eq_true, zeroB, Int.reduceEq, Bool.and_eq_true] at hp
      simp only [outL, HS.out, if_true, rightB_eq, fitsB_eq, Int.reduceEq, if_false, or_true, true_or, or_false, false_or]
      rw [if_neg (by simp [hz])])
    clear hz
    have a0 := cell_regrown (KS.out.cell 0 rfl)
    have a1 := cell_regrown (KS.out.cell 1 rfl)
    have a2 := cell_regrown (KS.out.cell 2 rfl)
    have c7 := cell_regrown (KL.out.cell 7 rfl)
    have c1 := cell_regrown (KL.out.cell 1 rfl)
    have q0 := Lib.hid (fun d os => Calls.regrown_of (sizeOfS h w c (grow (redrawn v2 d) os)))
    refine wp_region_quiet_below mixed (by kernel_rfl) ?_
    repeat (go_big_quiet_step (first | exact q0.out _ _))
    refine wpQuiet_nil ?_
    intro _ hw'
    obtain ⟨⟨dq, osq⟩, rfl⟩ := hw'
    have bs := below_regrown v2 dq osq
    clear a0 a1 a2 c1 c7 q0
    replace KS := Lib.hid (KS.out.below bs)
    replace KL := Lib.hid (KL.out.below bs)
    replace KR := Lib.hid (KR.out.below bs)
    replace KN := Lib.hid (KN.out.below bs)
    replace RA := Lib.hid (RA.out.of_below bs)
    replace RB := Lib.hid (RB.out.of_below bs)
    replace Bl := Lib.hid (Bl.out.trans (bs.mono Bl.out.size))
    clear bs
    generalize grow (redrawn v2 dq) osq = uq at KS KL KR KN RA RB Bl ⊢
    obtain ⟨a0, a1, a2⟩ := KS.out.cell3
    obtain ⟨c0, c1, c2, c3, c4, c5, c6, c7, c8⟩ := KL.out.cell9
    obtain ⟨n0, n1, n2⟩ := KN.out.cell3
    obtain ⟨f0, f1, f2⟩ := KR.out.free3
    obtain ⟨d0, d1, d2⟩ := KR.out.cell3
    go_wp2
    have kR := KR.out.set3 (x := .int .i64 0) (y := .int .i64 0) (z := .int .i64 0)
    have b9 := below_set3 Bl.out GR.out (.int .i64 0) (.int .i64 0) (.int .i64 0)
    obtain ⟨z0, z1, z2⟩ := kR.cell3
    refine bodyPost_ret (v := .tuple #[.agg #[.int .i64 0, .int .i64 0, .int .i64 0], .bool false]) ?_ rfl ⟨by rw [HR0.out, HR.out]; rfl, b9⟩
    clear kR b9 a0 a1 a2 c0 c1 c2 c3 c4 c5 c6 c7 c8 n0 n1 n2 f0 f1 f2 d0 d1 d2
    generalize ((uq.setCell ⟨gR, 0, none⟩ (.int .i64 0)).setCell ⟨gR, 1, none⟩ (.int .i64 0)).setCell ⟨gR, 2, none⟩ (.int .i64 0) = w9 at z0 z1 z2 ⊢
    simp [results, Try.results83, go_sem, z0, z1, z2]
  have hz1 : ¬ (64 : Int) < szOf h w c := by omega
  by_cases he : (n : Int) = o * szOf h w c
  case neg =>
    have he1 : ((n : Int) != o * szOf h w c) = true := by simp [he]
    have HR : Hid (R = none) := Lib.hid (by
      rw [← HR0.out]
      have hp := HP.out
      simp only [plainB, if_true, if_false, Bool.false_eq_true, zeroB, Int.reduceEq, Bool.and_eq_true] at hp
      simp only [outL, HS.out, if_true, rightB_eq, fitsB_eq, Int.reduceEq, if_false, or_true, true_or, or_false, false_or]
      rw [if_neg (by simp [RA.out.1, he])])
    clear hz he
    have a0 := cell_regrown (KS.out.cell 0 rfl)
    have a1 := cell_regrown (KS.out.cell 1 rfl)
    have a2 := cell_regrown (KS.out.cell 2 rfl)
    have c7 := cell_regrown (KL.out.cell 7 rfl)
    have c1 := cell_regrown (KL.out.cell 1 rfl)
    have q0 := Lib.hid (fun d os => Calls.regrown_of (sizeOfS h w c (grow (redrawn v2 d) os)))
    refine wp_region_quiet_below mixed (by kernel_rfl) ?_
    repeat (go_big_quiet_step (first | exact q0.out _ _))
    refine wpQuiet_nil ?_
    intro _ hw'
    obtain ⟨⟨dq, osq⟩, rfl⟩ := hw'
    have bs := below_regrown v2 dq osq
    clear a0 a1 a2 c1 c7 q0
    replace KS := Lib.hid (KS.out.below bs)
    replace KL := Lib.hid (KL.out.below bs)
    replace KR := Lib.hid (KR.out.below bs)
    replace KN := Lib.hid (KN.out.below bs)
    replace RA := Lib.hid (RA.out.of_below bs)
    replace RB := Lib.hid (RB.out.of_below bs)
    replace Bl := Lib.hid (Bl.out.trans (bs.mono Bl.out.size))
    clear bs
    generalize grow (redrawn v2 dq) osq = uq at KS KL KR KN RA RB Bl ⊢
    obtain ⟨a0, a1, a2⟩ := KS.out.cell3
    obtain ⟨c0, c1, c2, c3, c4, c5, c6, c7, c8⟩ := KL.out.cell9
    obtain ⟨n0, n1, n2⟩ := KN.out.cell3
    obtain ⟨f0, f1, f2⟩ := KR.out.free3
    obtain ⟨d0, d1, d2⟩ := KR.out.cell3
    go_wp2
    have kR := KR.out.set3 (x := .int .i64 0) (y := .int .i64 0) (z := .int .i64 0)
    have b9 := below_set3 Bl.out GR.out (.int .i64 0) (.int .i64 0) (.int .i64 0)
    obtain ⟨z0, z1, z2⟩ := kR.cell3
    refine bodyPost_ret (v := .tuple #[.agg #[.int .i64 0, .int .i64 0, .int .i64 0], .bool false]) ?_ rfl ⟨by rw [HR0.out, HR.out]; rfl, b9⟩
    clear kR b9 a0 a1 a2 c0 c1 c2 c3 c4 c5 c6 c7 c8 n0 n1 n2 f0 f1 f2 d0 d1 d2
    generalize ((uq.setCell ⟨gR, 0, none⟩ (.int .i64 0)).setCell ⟨gR, 1, none⟩ (.int .i64 0)).setCell ⟨gR, 2, none⟩ (.int .i64 0) = w9 at z0 z1 z2 ⊢
    simp [results, Try.results83, go_sem, z0, z1, z2]
  have he1 : ((n : Int) != o * szOf h w c) = false := by simp [he]
  have HR : Hid (R = some (1, 1, o)) := Lib.hid (by
    rw [← HR0.out]
    have hp := HP.out
    simp only [plainB, if_true, if_false, Bool.false_eq_true, zeroB, Int.reduceEq, Bool.and_eq_true] at hp
    simp only [outL, HS.out, if_true, rightB_eq, fitsB_eq, Int.reduceEq, if_false, or_true, true_or, or_false, false_or]
    rw [if_pos (by simp [hp.1, hp.2, hz, RA.out.1, he])])
  clear hz he
  have a0 := cell_regrown (KS.out.cell 0 rfl)
  have a1 := cell_regrown (KS.out.cell 1 rfl)
  have a2 := cell_regrown (KS.out.cell 2 rfl)
  have c7 := cell_regrown (KL.out.cell 7 rfl)
  have c1 := cell_regrown (KL.out.cell 1 rfl)
  have q0 := Lib.hid (fun d os => Calls.regrown_of (sizeOfS h w c (grow (redrawn v2 d) os)))
  refine wp_region_quiet_below mixed (by kernel_rfl) ?_
  repeat (go_big_quiet_step (first | exact q0.out _ _))
  refine wpQuiet_nil ?_
  intro _ hw'
  obtain ⟨⟨dq, osq⟩, rfl⟩ := hw'
  have bs := below_regrown v2 dq osq
  clear a0 a1 a2 c1 c7 q0
  replace KS := Lib.hid (KS.out.below bs)
  replace KL := Lib.hid (KL.out.below bs)
  replace KR := Lib.hid (KR.out.below bs)
  replace KN := Lib.hid (KN.out.below bs)
  replace RA := Lib.hid (RA.out.of_below bs)
  replace RB := Lib.hid (RB.out.of_below bs)
  replace Bl := Lib.hid (Bl.out.trans (bs.mono Bl.out.size))
  clear bs
  generalize grow (redrawn v2 dq) osq = uq at KS KL KR KN RA RB Bl ⊢
  obtain ⟨a0, a1, a2⟩ := KS.out.cell3
  obtain ⟨c0, c1, c2, c3, c4, c5, c6, c7, c8⟩ := KL.out.cell9
  obtain ⟨n0, n1, n2⟩ := KN.out.cell3
  obtain ⟨f0, f1, f2⟩ := KR.out.free3
  obtain ⟨d0, d1, d2⟩ := KR.out.cell3
  go_wp2
  have kR := KR.out.set3 (x := .int .i64 1) (y := .int .i64 1) (z := .int .i64 o)
  have b9 := below_set3 Bl.out GR.out (.int .i64 1) (.int .i64 1) (.int .i64 o)
  obtain ⟨z0, z1, z2⟩ := kR.cell3
  refine bodyPost_ret (v := .tuple #[.agg #[.int .i64 1, .int .i64 1, .int .i64 o], .bool true]) ?_ rfl ⟨by rw [HR0.out, HR.out]; rfl, b9⟩
  clear kR b9 a0 a1 a2 c0 c1 c2 c3 c4 c5 c6 c7 c8 n0 n1 n2 f0 f1 f2 d0 d1 d2
  generalize ((uq.setCell ⟨gR, 0, none⟩ (.int .i64 1)).setCell ⟨gR, 1, none⟩ (.int .i64 1)).setCell ⟨gR, 2, none⟩ (.int .i64 o) = w9 at z0 z1 z2 ⊢
  simp [results, Try.results83, go_sem, z0, z1, z2]
end Qt
end Go.Proofs.Ytbmchpoffceehaa
