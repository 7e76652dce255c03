/- What filter.right and window.fits of the program give when they are called. Conditions: the slices read as the lists that are named. -/
import Derived.Test.YtfihjehpkpminaaInside
namespace Go.Proofs.Ytfihjehpkpminaa
open Go.RowKit Go.Sort
set_option linter.unusedSimpArgs false
namespace Qt
theorem RdI.one (w : World) (x : Int) (t : TypeId) : RdI (w.alloc (.cells #[.int .i64 x] t)) (some ⟨w.heap.size, 0, none⟩) 1 [x] := by
  refine ⟨rfl, fun _ => ⟨w.heap.size, 0, rfl, by simp, fun j hj => ?_⟩⟩
  obtain rfl : j = 0 := by omega
  exact (Bk.new w t #[.int .i64 x]).cell 0 rfl
theorem Bk.cell6 {w : World} {g : Nat} {t : TypeId} {x0 x1 x2 x3 x4 x5 : Value} (h : Bk w g t #[x0, x1, x2, x3, x4, x5]) : w.cell? ⟨g, 0, none⟩ = some x0 ∧ w.cell? ⟨g, 1, none⟩ = some x1 ∧ w.cell? ⟨g, 2, none⟩ = some x2 ∧ w.cell? ⟨g, 3, none⟩ = some x3 ∧ w.cell? ⟨g, 4, none⟩ = some x4 ∧ w.cell? ⟨g, 5, none⟩ = some x5 :=
  ⟨h.cell 0 rfl, h.cell 1 rfl, h.cell 2 rfl, h.cell 3 rfl, h.cell 4 rfl, h.cell 5 rfl⟩
theorem Bk.cell2 {w : World} {g : Nat} {t : TypeId} {x0 x1 : Value} (h : Bk w g t #[x0, x1]) : w.cell? ⟨g, 0, none⟩ = some x0 ∧ w.cell? ⟨g, 1, none⟩ = some x1 :=
  ⟨h.cell 0 rfl, h.cell 1 rfl⟩
theorem run_min3 {P : Program} (ts : Array TypeId) (t : TypeId) (x y z : Int) (w : World) : (Builtin.min_ ts t #[.int .i64 x, .int .i64 y, .int .i64 z]).run P w = .ok (.int .i64 (min (min x y) z)) w := by
  have h : min (min x y) z = if z < (if y < x then y else x) then z else (if y < x then y else x) := by repeat' split <;> omega
  rw [h]
  simp [Builtin.min_, Builtin.min2]
theorem insideB (lo hi : Int) (A : Option Addr) (n p : Nat) (xs : List Int) (W : World) (hr : RdI W A n xs) (hn : n ≤ 1048576) :
    Calls Try.prog 55 #[.int .i64 lo, .int .i64 hi, .slice A n p] W fun e W' => e = .returned (.bool (allIn lo hi xs)) ∧ Below W.heap.size W W' :=
  (insideI lo hi A n p xs W hr hn).mono fun _ _ ⟨h1, m, h2⟩ => ⟨h1, h2 ▸ below_drewN (Below.refl _ _) m⟩
set_option maxRecDepth 100000 in
set_option maxHeartbeats 1000000 in
theorem rightI (o m f z : Int) (A : Option Addr) (n p : Nat) (xs : List Int) (B : Option Addr) (q r : Nat) (ys : List Int) (each : Int) (W : World) (hr : RdI W A n xs) (hr2 : RdI W B q ys) (hn : n ≤ 1048576) (hq : q ≤ 1048576) (he0 : 0 ≤ each) (he1 : each ≤ 4096) :
    Calls Try.prog 165 #[.agg #[.int .i64 o, .int .i64 m, .int .i64 f, .int .i64 z, .slice A n p, .slice B q r], .int .i64 each] W fun e W' => e = .returned (.bool (rightB o m f z xs ys each)) ∧ Below W.heap.size W W' := by
  have HN := Lib.hid hn
  have HQ := Lib.hid hq
  have hn0 : (0 : Int) ≤ n := Int.natCast_nonneg n
  have hn1 : (n : Int) ≤ 1048576 := by omega
  have hq0 : (0 : Int) ≤ q := Int.natCast_nonneg q
  have hq1 : (q : Int) ≤ 1048576 := by omega
  have HE := Lib.hid (And.intro he0 he1)
  obtain ⟨R, hR⟩ : ∃ R, rightB o m f z xs ys each = R := ⟨_, rfl⟩
  rw [hR]
  have HR := Lib.hid hR
  have b0 := (Below.refl _ W).alloc (Nat.le_refl _) (.cells #[.int .i64 o, .int .i64 m, .int .i64 f, .int .i64 z, .slice A n p, .slice B q r] 159)
  have KF := Lib.hid (Bk.new W 159 #[.int .i64 o, .int .i64 m, .int .i64 f, .int .i64 z, .slice A n p, .slice B q r])
  have RA := Lib.hid (hr.of_below b0)
  have RB := Lib.hid (hr2.of_below b0)
  have Bl := Lib.hid b0
  clear hn hq hR b0 hr hr2 he0 he1
  go_enter Try.func165, Try.ntmps165
  go_wp2_with fail
  have hv : (W.alloc (.cells #[.int .i64 o, .int .i64 m, .int .i64 f, .int .i64 z, .slice A n p, .slice B q r] 159)).heap.size = W.heap.size + 1 := by simp
  generalize W.alloc (.cells #[.int .i64 o, .int .i64 m, .int .i64 f, .int .i64 z, .slice A n p, .slice B q r] 159) = v at KF RA RB Bl hv ⊢
  rw [← hv]
  clear hv
  have a1 := (Below.refl _ v).alloc (Nat.le_refl _) (.cells #[.int .i64 (o)] 3)
  replace KF := Lib.hid (KF.out.below a1)
  replace RA := Lib.hid (RA.out.of_below a1)
  replace RB := Lib.hid (RB.out.of_below a1)
  replace Bl := Lib.hid (Bl.out.trans (a1.mono Bl.out.size))
  have RX := Lib.hid (RdI.one v (o) 3)
  clear a1
  generalize v.alloc (.cells #[.int .i64 (o)] 3) = y at KF RA RB Bl RX ⊢
  generalize v.heap.size = gx at RX ⊢
  with_reducible refine (insideB (1) (8) _ 1 _ [o] _ RX.out (by omega)).mono ?_
  rw [allIn_one]
  rintro e v0 ⟨rfl, b1⟩
  replace KF := Lib.hid (KF.out.below b1)
  replace RA := Lib.hid (RA.out.of_below b1)
  replace RB := Lib.hid (RB.out.of_below b1)
  replace Bl := Lib.hid (Bl.out.trans (b1.mono Bl.out.size))
  clear b1 RX
  rcases x0 : inB (1) (8) (o) with _ | _
  · obtain rfl : R = false := by rw [← HR.out]; simp [rightB, x0]
    go_wp2
    go_ret
    exact ⟨rfl, Bl.out⟩
  have X0 := Lib.hid x0
  clear x0
  obtain ⟨k0, k1, k2, k3, k4, k5⟩ := KF.out.cell6
  go_wp2_with fail
  clear k0 k1 k2 k3 k4 k5
  have a1 := (Below.refl _ v0).alloc (Nat.le_refl _) (.cells #[.int .i64 (m)] 3)
  replace KF := Lib.hid (KF.out.below a1)
  replace RA := Lib.hid (RA.out.of_below a1)
  replace RB := Lib.hid (RB.out.of_below a1)
  replace Bl := Lib.hid (Bl.out.trans (a1.mono Bl.out.size))
  have RX := Lib.hid (RdI.one v0 (m) 3)
  clear a1
  generalize v0.alloc (.cells #[.int .i64 (m)] 3) = y at KF RA RB Bl RX ⊢
  generalize v0.heap.size = gx at RX ⊢
  with_reducible refine (insideB (0) (2147483647) _ 1 _ [m] _ RX.out (by omega)).mono ?_
  rw [allIn_one]
  rintro e v1 ⟨rfl, b1⟩
  replace KF := Lib.hid (KF.out.below b1)
  replace RA := Lib.hid (RA.out.of_below b1)
  replace RB := Lib.hid (RB.out.of_below b1)
  replace Bl := Lib.hid (Bl.out.trans (b1.mono Bl.out.size))
  clear b1 RX
  rcases x1 : inB (0) (2147483647) (m) with _ | _
  · obtain rfl : R = false := by rw [← HR.out]; simp [rightB, X0.out, x1]
    go_wp2
    go_ret
    exact ⟨rfl, Bl.out⟩
  have X1 := Lib.hid x1
  clear x1
  obtain ⟨k0, k1, k2, k3, k4, k5⟩ := KF.out.cell6
  go_wp2_with fail
  clear k0 k1 k2 k3 k4 k5
  have a1 := (Below.refl _ v1).alloc (Nat.le_refl _) (.cells #[.int .i64 (f)] 3)
  replace KF := Lib.hid (KF.out.below a1)
  replace RA := Lib.hid (RA.out.of_below a1)
  replace RB := Lib.hid (RB.out.of_below a1)
  replace Bl := Lib.hid (Bl.out.trans (a1.mono Bl.out.size))
  have RX := Lib.hid (RdI.one v1 (f) 3)
  clear a1
  generalize v1.alloc (.cells #[.int .i64 (f)] 3) = y at KF RA RB Bl RX ⊢
  generalize v1.heap.size = gx at RX ⊢
  with_reducible refine (insideB (0) (31) _ 1 _ [f] _ RX.out (by omega)).mono ?_
  rw [allIn_one]
  rintro e v2 ⟨rfl, b1⟩
  replace KF := Lib.hid (KF.out.below b1)
  replace RA := Lib.hid (RA.out.of_below b1)
  replace RB := Lib.hid (RB.out.of_below b1)
  replace Bl := Lib.hid (Bl.out.trans (b1.mono Bl.out.size))
  clear b1 RX
  rcases x2 : inB (0) (31) (f) with _ | _
  · obtain rfl : R = false := by rw [← HR.out]; simp [rightB, X0.out, X1.out, x2]
    go_wp2
    go_ret
    exact ⟨rfl, Bl.out⟩
  have X2 := Lib.hid x2
  clear x2
  obtain ⟨k0, k1, k2, k3, k4, k5⟩ := KF.out.cell6
  go_wp2_with fail
  clear k0 k1 k2 k3 k4 k5
  have a1 := (Below.refl _ v2).alloc (Nat.le_refl _) (.cells #[.int .i64 (z)] 3)
  replace KF := Lib.hid (KF.out.below a1)
  replace RA := Lib.hid (RA.out.of_below a1)
  replace RB := Lib.hid (RB.out.of_below a1)
  replace Bl := Lib.hid (Bl.out.trans (a1.mono Bl.out.size))
  have RX := Lib.hid (RdI.one v2 (z) 3)
  clear a1
  generalize v2.alloc (.cells #[.int .i64 (z)] 3) = y at KF RA RB Bl RX ⊢
  generalize v2.heap.size = gx at RX ⊢
  with_reducible refine (insideB (-128) (127) _ 1 _ [z] _ RX.out (by omega)).mono ?_
  rw [allIn_one]
  rintro e v3 ⟨rfl, b1⟩
  replace KF := Lib.hid (KF.out.below b1)
  replace RA := Lib.hid (RA.out.of_below b1)
  replace RB := Lib.hid (RB.out.of_below b1)
  replace Bl := Lib.hid (Bl.out.trans (b1.mono Bl.out.size))
  clear b1 RX
  rcases x3 : inB (-128) (127) (z) with _ | _
  · obtain rfl : R = false := by rw [← HR.out]; simp [rightB, X0.out, X1.out, X2.out, x3]
    go_wp2
    go_ret
    exact ⟨rfl, Bl.out⟩
  have X3 := Lib.hid x3
  clear x3
  obtain ⟨o1, o2⟩ := inB_yes X0.out
  obtain ⟨e1, e2⟩ := HE.out
  obtain ⟨m1, m2⟩ := mulBd (by omega : 0 ≤ o) o2 e1 e2
  have hw0 : IntKind.i64.wrap (o * each) = o * each := by rw [IntKind.wrap_i64]; omega
  clear m1 m2 o1 o2 e1 e2
  rcases x4 : decide ((n : Int) = o * each) with _ | _
  · obtain rfl : R = false := by rw [← HR.out]; simp only [rightB, RA.out.1, x4]; simp
    obtain ⟨k0, k1, k2, k3, k4, k5⟩ := KF.out.cell6
    have x4b : ((n : Int) == o * each) = false := by simpa using x4
    clear x4
    go_wp2
    go_ret
    exact ⟨rfl, Bl.out⟩
  have X4 := Lib.hid x4
  have x4b : ((n : Int) == o * each) = true := by simpa using x4
  clear x4
  obtain ⟨k0, k1, k2, k3, k4, k5⟩ := KF.out.cell6
  go_wp2_with fail
  clear k0 k1 k2 k3 k4 k5
  clear x4b hw0
  with_reducible refine (insideB (-128) (127) A n _ xs _ RA.out HN.out).mono ?_
  rintro e v5 ⟨rfl, b1⟩
  replace KF := Lib.hid (KF.out.below b1)
  replace RA := Lib.hid (RA.out.of_below b1)
  replace RB := Lib.hid (RB.out.of_below b1)
  replace Bl := Lib.hid (Bl.out.trans (b1.mono Bl.out.size))
  clear b1
  rcases x5 : allIn (-128) (127) xs with _ | _
  · obtain rfl : R = false := by rw [← HR.out]; simp [rightB, x5]
    go_wp2
    go_ret
    exact ⟨rfl, Bl.out⟩
  have X5 := Lib.hid x5
  clear x5
  rcases x6 : decide ((q : Int) = o) with _ | _
  · obtain rfl : R = false := by rw [← HR.out]; simp only [rightB, RB.out.1, x6]; simp
    obtain ⟨k0, k1, k2, k3, k4, k5⟩ := KF.out.cell6
    have x6b : ((q : Int) == o) = false := by simpa using x6
    clear x6
    go_wp2
    go_ret
    exact ⟨rfl, Bl.out⟩
  have X6 := Lib.hid x6
  have x6b : ((q : Int) == o) = true := by simpa using x6
  clear x6
  obtain ⟨k0, k1, k2, k3, k4, k5⟩ := KF.out.cell6
  go_wp2_with fail
  clear k0 k1 k2 k3 k4 k5
  clear x6b
  with_reducible refine (insideB (-1000000) 1000000 B q _ ys _ RB.out HQ.out).mono ?_
  rintro e v7 ⟨rfl, b1⟩
  replace KF := Lib.hid (KF.out.below b1)
  replace RA := Lib.hid (RA.out.of_below b1)
  replace RB := Lib.hid (RB.out.of_below b1)
  replace Bl := Lib.hid (Bl.out.trans (b1.mono Bl.out.size))
  clear b1
  obtain rfl : R = allIn (-1000000) 1000000 ys := by rw [← HR.out]; simp only [rightB, X0.out, X1.out, X2.out, X3.out, RA.out.1, RB.out.1, X4.out, X5.out, X6.out, Bool.true_and]
  go_wp2
  go_ret
  exact ⟨rfl, Bl.out⟩

set_option maxRecDepth 100000 in
set_option maxHeartbeats 1000000 in
theorem fitsI (s t h w c : Int) (W : World) :
    Calls Try.prog 168 #[.agg #[.int .i64 s, .int .i64 t], .agg #[.int .i64 h, .int .i64 w, .int .i64 c]] W fun e W' => e = .returned (.bool (fitsB h w s t)) ∧ Below W.heap.size W W' := by
  obtain ⟨R, hR⟩ : ∃ R, fitsB h w s t = R := ⟨_, rfl⟩
  rw [hR]
  have HR := Lib.hid hR
  have b0 := ((Below.refl _ W).alloc (Nat.le_refl _) (.cells #[.int .i64 s, .int .i64 t] 161)).alloc (by simp) (.cells #[.int .i64 h, .int .i64 w, .int .i64 c] 47)
  have KF := Lib.hid ((Bk.new W 161 #[.int .i64 s, .int .i64 t]).alloc (.cells #[.int .i64 h, .int .i64 w, .int .i64 c] 47))
  have KS := Lib.hid (Bk.new (W.alloc (.cells #[.int .i64 s, .int .i64 t] 161)) 47 #[.int .i64 h, .int .i64 w, .int .i64 c])
  have Bl := Lib.hid b0
  obtain ⟨M, hMe⟩ : ∃ M, min (min 3 h) w = M := ⟨_, rfl⟩
  have hM : ∀ ts ty w0, (Builtin.min_ ts ty #[.int .i64 3, .int .i64 h, .int .i64 w]).run Try.prog w0 = .ok (.int .i64 M) w0 := fun ts ty w0 => by rw [run_min3, hMe]
  replace HR : Hid ((inB 1 M s && inB 1 2 t) = R) := Lib.hid (by rw [← HR.out, fitsB, hMe])
  clear hMe
  clear hR b0
  go_enter Try.func168, Try.ntmps168
  go_wp2_with fail
  have hv : ((W.alloc (.cells #[.int .i64 s, .int .i64 t] 161)).alloc (.cells #[.int .i64 h, .int .i64 w, .int .i64 c] 47)).heap.size = W.heap.size + 1 + 1 := by simp
  rw [World.size_alloc] at KS
  generalize (W.alloc (.cells #[.int .i64 s, .int .i64 t] 161)).alloc (.cells #[.int .i64 h, .int .i64 w, .int .i64 c] 47) = v at KF KS Bl hv ⊢
  rw [← hv]
  clear hv hM
  have a1 := (Below.refl _ v).alloc (Nat.le_refl _) (.cells #[.int .i64 (s)] 3)
  replace KF := Lib.hid (KF.out.below a1)
  replace KS := Lib.hid (KS.out.below a1)
  replace Bl := Lib.hid (Bl.out.trans (a1.mono Bl.out.size))
  have RX := Lib.hid (RdI.one v (s) 3)
  clear a1
  generalize v.alloc (.cells #[.int .i64 (s)] 3) = y at KF KS Bl RX ⊢
  generalize v.heap.size = gx at RX ⊢
  with_reducible refine (insideB (1) (M) _ 1 _ [s] _ RX.out (by omega)).mono ?_
  rw [allIn_one]
  rintro e v0 ⟨rfl, b1⟩
  replace KF := Lib.hid (KF.out.below b1)
  replace KS := Lib.hid (KS.out.below b1)
  replace Bl := Lib.hid (Bl.out.trans (b1.mono Bl.out.size))
  clear b1 RX
  rcases x0 : inB (1) (M) (s) with _ | _
  · obtain rfl : R = false := by rw [← HR.out]; simp [x0]
    go_wp2
    go_ret
    exact ⟨rfl, Bl.out⟩
  have X0 := Lib.hid x0
  clear x0
  obtain ⟨k0, k1⟩ := KF.out.cell2
  go_wp2_with fail
  clear k0 k1
  have a1 := (Below.refl _ v0).alloc (Nat.le_refl _) (.cells #[.int .i64 (t)] 3)
  replace KF := Lib.hid (KF.out.below a1)
  replace KS := Lib.hid (KS.out.below a1)
  replace Bl := Lib.hid (Bl.out.trans (a1.mono Bl.out.size))
  have RX := Lib.hid (RdI.one v0 (t) 3)
  clear a1
  generalize v0.alloc (.cells #[.int .i64 (t)] 3) = y at KF KS Bl RX ⊢
  generalize v0.heap.size = gx at RX ⊢
  with_reducible refine (insideB (1) (2) _ 1 _ [t] _ RX.out (by omega)).mono ?_
  rw [allIn_one]
  rintro e v1 ⟨rfl, b1⟩
  replace KF := Lib.hid (KF.out.below b1)
  replace KS := Lib.hid (KS.out.below b1)
  replace Bl := Lib.hid (Bl.out.trans (b1.mono Bl.out.size))
  clear b1 RX
  rcases x1 : inB (1) (2) (t) with _ | _
  · obtain rfl : R = false := by rw [← HR.out]; simp [x1]
    go_wp2
    go_ret
    exact ⟨rfl, Bl.out⟩
  have X1 := Lib.hid x1
  clear x1
  obtain rfl : R = true := by rw [← HR.out]; simp [X0.out, X1.out]
  go_wp2
  go_ret
  exact ⟨rfl, Bl.out⟩
end Qt
end Go.Proofs.Ytfihjehpkpminaa
