/- What SameLayer (of the program and of its model) gives when it is called. Conditions: the slices read as the lists that are named. -/
import Derived.Test.YtklefnmhknlilaaQIntEq
import Derived.Test.YtklefnmhknlilaaQBaseA
namespace Go.Proofs.Ytklefnmhknlilaa
open Go.RowKit Go.Sort
namespace Qt
def sameL (k0 o0 s0 t0 m0 f0 z0 k1 o1 s1 t1 m1 f1 z1 : Int) (xs0 ys0 xs1 ys1 : List Int) : Bool := decide (k0 = k1 ∧ o0 = o1 ∧ s0 = s1 ∧ t0 = t1 ∧ m0 = m1 ∧ f0 = f1 ∧ z0 = z1) && (decide (xs0 = xs1) && decide (ys0 = ys1))
set_option maxRecDepth 10000 in
set_option maxHeartbeats 2000000 in
theorem sameLayS (k0 o0 s0 t0 m0 f0 z0 : Int) (A0 : Option Addr) (n0 p0 : Nat) (xs0 : List Int) (B0 : Option Addr) (q0 r0 : Nat) (ys0 : List Int) (k1 o1 s1 t1 m1 f1 z1 : Int) (A1 : Option Addr) (n1 p1 : Nat) (xs1 : List Int) (B1 : Option Addr) (q1 r1 : Nat) (ys1 : List Int) (W : World) (ha : RdI W A0 n0 xs0) (hb : RdI W B0 q0 ys0) (ha1 : RdI W A1 n1 xs1) (hb1 : RdI W B1 q1 ys1) (hn0 : n0 ≤ 1048576) (hq0 : q0 ≤ 1048576) (hn1 : n1 ≤ 1048576) (hq1 : q1 ≤ 1048576) :
    Calls Try.prog 56 #[.agg #[.int .i64 k0, .int .i64 o0, .int .i64 s0, .int .i64 t0, .int .i64 m0, .int .i64 f0, .int .i64 z0, .slice A0 n0 p0, .slice B0 q0 r0], .agg #[.int .i64 k1, .int .i64 o1, .int .i64 s1, .int .i64 t1, .int .i64 m1, .int .i64 f1, .int .i64 z1, .slice A1 n1 p1, .slice B1 q1 r1]] W fun e W' => e = .returned (.bool (sameL k0 o0 s0 t0 m0 f0 z0 k1 o1 s1 t1 m1 f1 z1 xs0 ys0 xs1 ys1)) ∧ Below W.heap.size W W' := by
  have HN0 := Lib.hid hn0
  have HN1 := Lib.hid hn1
  have HQ0 := Lib.hid hq0
  have HQ1 := Lib.hid hq1
  obtain ⟨r, hrr⟩ : ∃ r, sameL k0 o0 s0 t0 m0 f0 z0 k1 o1 s1 t1 m1 f1 z1 xs0 ys0 xs1 ys1 = r := ⟨_, rfl⟩
  rw [hrr]
  have HRR := Lib.hid hrr
  have b0 := ((Below.refl _ W).alloc (Nat.le_refl _) (.cells #[.int .i64 k0, .int .i64 o0, .int .i64 s0, .int .i64 t0, .int .i64 m0, .int .i64 f0, .int .i64 z0, .slice A0 n0 p0, .slice B0 q0 r0] 62)).alloc (by simp) (.cells #[.int .i64 k1, .int .i64 o1, .int .i64 s1, .int .i64 t1, .int .i64 m1, .int .i64 f1, .int .i64 z1, .slice A1 n1 p1, .slice B1 q1 r1] 62)
  have HA0 := Lib.hid (ha.of_below b0)
  have HA1 := Lib.hid (ha1.of_below b0)
  have HB0 := Lib.hid (hb.of_below b0)
  have HB1 := Lib.hid (hb1.of_below b0)
  have Bz := Lib.hid b0
  have kx1 := (Bk.new W 62 #[.int .i64 k0, .int .i64 o0, .int .i64 s0, .int .i64 t0, .int .i64 m0, .int .i64 f0, .int .i64 z0, .slice A0 n0 p0, .slice B0 q0 r0]).alloc (.cells #[.int .i64 k1, .int .i64 o1, .int .i64 s1, .int .i64 t1, .int .i64 m1, .int .i64 f1, .int .i64 z1, .slice A1 n1 p1, .slice B1 q1 r1] 62)
  have kx2 := (Bk.new (W.alloc (.cells #[.int .i64 k0, .int .i64 o0, .int .i64 s0, .int .i64 t0, .int .i64 m0, .int .i64 f0, .int .i64 z0, .slice A0 n0 p0, .slice B0 q0 r0] 62)) 62 #[.int .i64 k1, .int .i64 o1, .int .i64 s1, .int .i64 t1, .int .i64 m1, .int .i64 f1, .int .i64 z1, .slice A1 n1 p1, .slice B1 q1 r1])
  simp only [World.size_alloc] at kx2
  have K1 := Lib.hid kx1
  have K2 := Lib.hid kx2
  clear hn0 hn1 hq0 hq1 hrr ha hb ha1 hb1 b0 kx1 kx2
  go_enter Try.func56, Try.ntmps56
  by_cases hx : k0 = k1
  case neg =>
    obtain rfl : r = false := by rw [← HRR.out]; simp [sameL, hx]
    go_wp2
    go_ret
    exact ⟨rfl, Bz.out⟩
  subst hx
  by_cases hx : o0 = o1
  case neg =>
    obtain rfl : r = false := by rw [← HRR.out]; simp [sameL, hx]
    go_wp2
    go_ret
    exact ⟨rfl, Bz.out⟩
  subst hx
  by_cases hx : s0 = s1
  case neg =>
    obtain rfl : r = false := by rw [← HRR.out]; simp [sameL, hx]
    go_wp2
    go_ret
    exact ⟨rfl, Bz.out⟩
  subst hx
  by_cases hx : t0 = t1
  case neg =>
    obtain rfl : r = false := by rw [← HRR.out]; simp [sameL, hx]
    go_wp2
    go_ret
    exact ⟨rfl, Bz.out⟩
  subst hx
  by_cases hx : m0 = m1
  case neg =>
    obtain rfl : r = false := by rw [← HRR.out]; simp [sameL, hx]
    go_wp2
    go_ret
    exact ⟨rfl, Bz.out⟩
  subst hx
  by_cases hx : f0 = f1
  case neg =>
    obtain rfl : r = false := by rw [← HRR.out]; simp [sameL, hx]
    go_wp2
    go_ret
    exact ⟨rfl, Bz.out⟩
  subst hx
  by_cases hx : z0 = z1
  case neg =>
    obtain rfl : r = false := by rw [← HRR.out]; simp [sameL, hx]
    go_wp2
    go_ret
    exact ⟨rfl, Bz.out⟩
  subst hx
  go_wp2_with fail
  generalize (W.alloc (.cells #[.int .i64 k0, .int .i64 o0, .int .i64 s0, .int .i64 t0, .int .i64 m0, .int .i64 f0, .int .i64 z0, .slice A0 n0 p0, .slice B0 q0 r0] 62)).alloc (.cells #[.int .i64 k0, .int .i64 o0, .int .i64 s0, .int .i64 t0, .int .i64 m0, .int .i64 f0, .int .i64 z0, .slice A1 n1 p1, .slice B1 q1 r1] 62) = w1 at HA0 HA1 HB0 HB1 K1 K2 Bz ⊢
  with_reducible refine (sameInt A0 A1 n0 n1 p0 p1 xs0 xs1 _ HA0.out HA1.out HN0.out HN1.out).mono ?_
  rintro e w2 ⟨rfl, mm, rfl⟩
  obtain ⟨c0, c1, c2, c3, c4, c5, c6, c7, c8⟩ := (K1.out.drewN mm).cell9
  obtain ⟨d0, d1, d2, d3, d4, d5, d6, d7, d8⟩ := (K2.out.drewN mm).cell9
  have By := Lib.hid (below_drewN Bz.out mm)
  rcases hx : decide (xs0 = xs1) with _ | _
  · obtain rfl : r = false := by rw [← HRR.out]; simp [sameL, hx]
    go_wp2
    go_ret
    exact ⟨rfl, By.out⟩
  · go_wp2_with fail
    have HX := Lib.hid hx
    clear hx
    with_reducible refine (sameInt B0 B1 q0 q1 r0 r1 ys0 ys1 _ (HB0.out.of_drewN mm) (HB1.out.of_drewN mm) HQ0.out HQ1.out).mono ?_
    rintro e w3 ⟨rfl, m3, rfl⟩
    have Bx := Lib.hid (below_drewN Bz.out (mm + m3))
    obtain rfl : r = decide (ys0 = ys1) := by rw [← HRR.out]; simp [sameL, HX.out]
    go_wp2_with fail
    go_ret
    exact ⟨rfl, Bx.out⟩

set_option maxRecDepth 10000 in
set_option maxHeartbeats 2000000 in
theorem sameLayI (k0 o0 s0 t0 m0 f0 z0 : Int) (A0 : Option Addr) (n0 p0 : Nat) (xs0 : List Int) (B0 : Option Addr) (q0 r0 : Nat) (ys0 : List Int) (k1 o1 s1 t1 m1 f1 z1 : Int) (A1 : Option Addr) (n1 p1 : Nat) (xs1 : List Int) (B1 : Option Addr) (q1 r1 : Nat) (ys1 : List Int) (W : World) (ha : RdI W A0 n0 xs0) (hb : RdI W B0 q0 ys0) (ha1 : RdI W A1 n1 xs1) (hb1 : RdI W B1 q1 ys1) (hn0 : n0 ≤ 1048576) (hq0 : q0 ≤ 1048576) (hn1 : n1 ≤ 1048576) (hq1 : q1 ≤ 1048576) :
    Calls Try.prog 58 #[.agg #[.int .i64 k0, .int .i64 o0, .int .i64 s0, .int .i64 t0, .int .i64 m0, .int .i64 f0, .int .i64 z0, .slice A0 n0 p0, .slice B0 q0 r0], .agg #[.int .i64 k1, .int .i64 o1, .int .i64 s1, .int .i64 t1, .int .i64 m1, .int .i64 f1, .int .i64 z1, .slice A1 n1 p1, .slice B1 q1 r1]] W fun e W' => e = .returned (.bool (sameL k0 o0 s0 t0 m0 f0 z0 k1 o1 s1 t1 m1 f1 z1 xs0 ys0 xs1 ys1)) ∧ Below W.heap.size W W' := by
  have HN0 := Lib.hid hn0
  have HN1 := Lib.hid hn1
  have HQ0 := Lib.hid hq0
  have HQ1 := Lib.hid hq1
  obtain ⟨r, hrr⟩ : ∃ r, sameL k0 o0 s0 t0 m0 f0 z0 k1 o1 s1 t1 m1 f1 z1 xs0 ys0 xs1 ys1 = r := ⟨_, rfl⟩
  rw [hrr]
  have HRR := Lib.hid hrr
  have b0 := ((Below.refl _ W).alloc (Nat.le_refl _) (.cells #[.int .i64 k0, .int .i64 o0, .int .i64 s0, .int .i64 t0, .int .i64 m0, .int .i64 f0, .int .i64 z0, .slice A0 n0 p0, .slice B0 q0 r0] 62)).alloc (by simp) (.cells #[.int .i64 k1, .int .i64 o1, .int .i64 s1, .int .i64 t1, .int .i64 m1, .int .i64 f1, .int .i64 z1, .slice A1 n1 p1, .slice B1 q1 r1] 62)
  have HA0 := Lib.hid (ha.of_below b0)
  have HA1 := Lib.hid (ha1.of_below b0)
  have HB0 := Lib.hid (hb.of_below b0)
  have HB1 := Lib.hid (hb1.of_below b0)
  have Bz := Lib.hid b0
  have kx1 := (Bk.new W 62 #[.int .i64 k0, .int .i64 o0, .int .i64 s0, .int .i64 t0, .int .i64 m0, .int .i64 f0, .int .i64 z0, .slice A0 n0 p0, .slice B0 q0 r0]).alloc (.cells #[.int .i64 k1, .int .i64 o1, .int .i64 s1, .int .i64 t1, .int .i64 m1, .int .i64 f1, .int .i64 z1, .slice A1 n1 p1, .slice B1 q1 r1] 62)
  have kx2 := (Bk.new (W.alloc (.cells #[.int .i64 k0, .int .i64 o0, .int .i64 s0, .int .i64 t0, .int .i64 m0, .int .i64 f0, .int .i64 z0, .slice A0 n0 p0, .slice B0 q0 r0] 62)) 62 #[.int .i64 k1, .int .i64 o1, .int .i64 s1, .int .i64 t1, .int .i64 m1, .int .i64 f1, .int .i64 z1, .slice A1 n1 p1, .slice B1 q1 r1])
  simp only [World.size_alloc] at kx2
  have K1 := Lib.hid kx1
  have K2 := Lib.hid kx2
  clear hn0 hn1 hq0 hq1 hrr ha hb ha1 hb1 b0 kx1 kx2
  go_enter Try.func58, Try.ntmps58
  by_cases hx : k0 = k1
  case neg =>
    obtain rfl : r = false := by rw [← HRR.out]; simp [sameL, hx]
    go_wp2
    go_ret
    exact ⟨rfl, Bz.out⟩
  subst hx
  by_cases hx : o0 = o1
  case neg =>
    obtain rfl : r = false := by rw [← HRR.out]; simp [sameL, hx]
    go_wp2
    go_ret
    exact ⟨rfl, Bz.out⟩
  subst hx
  by_cases hx : s0 = s1
  case neg =>
    obtain rfl : r = false := by rw [← HRR.out]; simp [sameL, hx]
    go_wp2
    go_ret
    exact ⟨rfl, Bz.out⟩
  subst hx
  by_cases hx : t0 = t1
  case neg =>
    obtain rfl : r = false := by rw [← HRR.out]; simp [sameL, hx]
    go_wp2
    go_ret
    exact ⟨rfl, Bz.out⟩
  subst hx
  by_cases hx : m0 = m1
  case neg =>
    obtain rfl : r = false := by rw [← HRR.out]; simp [sameL, hx]
    go_wp2
    go_ret
    exact ⟨rfl, Bz.out⟩
  subst hx
  by_cases hx : f0 = f1
  case neg =>
    obtain rfl : r = false := by rw [← HRR.out]; simp [sameL, hx]
    go_wp2
    go_ret
    exact ⟨rfl, Bz.out⟩
  subst hx
  by_cases hx : z0 = z1
  case neg =>
    obtain rfl : r = false := by rw [← HRR.out]; simp [sameL, hx]
    go_wp2
    go_ret
    exact ⟨rfl, Bz.out⟩
  subst hx
  go_wp2_with fail
  generalize (W.alloc (.cells #[.int .i64 k0, .int .i64 o0, .int .i64 s0, .int .i64 t0, .int .i64 m0, .int .i64 f0, .int .i64 z0, .slice A0 n0 p0, .slice B0 q0 r0] 62)).alloc (.cells #[.int .i64 k0, .int .i64 o0, .int .i64 s0, .int .i64 t0, .int .i64 m0, .int .i64 f0, .int .i64 z0, .slice A1 n1 p1, .slice B1 q1 r1] 62) = w1 at HA0 HA1 HB0 HB1 K1 K2 Bz ⊢
  with_reducible refine (equalInt A0 A1 n0 n1 p0 p1 xs0 xs1 _ HA0.out HA1.out HN0.out HN1.out).mono ?_
  rintro e w2 ⟨rfl, mm, rfl⟩
  obtain ⟨c0, c1, c2, c3, c4, c5, c6, c7, c8⟩ := (K1.out.drewN mm).cell9
  obtain ⟨d0, d1, d2, d3, d4, d5, d6, d7, d8⟩ := (K2.out.drewN mm).cell9
  have By := Lib.hid (below_drewN Bz.out mm)
  rcases hx : decide (xs0 = xs1) with _ | _
  · obtain rfl : r = false := by rw [← HRR.out]; simp [sameL, hx]
    go_wp2
    go_ret
    exact ⟨rfl, By.out⟩
  · go_wp2_with fail
    have HX := Lib.hid hx
    clear hx
    with_reducible refine (equalInt B0 B1 q0 q1 r0 r1 ys0 ys1 _ (HB0.out.of_drewN mm) (HB1.out.of_drewN mm) HQ0.out HQ1.out).mono ?_
    rintro e w3 ⟨rfl, m3, rfl⟩
    have Bx := Lib.hid (below_drewN Bz.out (mm + m3))
    obtain rfl : r = decide (ys0 = ys1) := by rw [← HRR.out]; simp [sameL, HX.out]
    go_wp2_with fail
    go_ret
    exact ⟨rfl, Bx.out⟩

end Qt
end Go.Proofs.Ytklefnmhknlilaa
