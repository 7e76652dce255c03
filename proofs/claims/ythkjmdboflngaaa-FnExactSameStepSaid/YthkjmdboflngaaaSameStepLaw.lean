/- The law of SameStep returns true and writes nothing that was there. Conditions: the slices read as lists. -/
import Derived.Test.YthkjmdboflngaaaLayKeep
import Derived.Test.YthkjmdboflngaaaSameStep
import Derived.Test.YthkjmdboflngaaaStepTo
import Derived.Test.YthkjmdboflngaaaOpen
namespace Go.Proofs.Ythkjmdboflngaaa
open Go.RowKit Go.Sort
namespace Qt
theorem keep16 {v w1 w2 : World} {g g2 : Nat} {x0 x1 x2 x3 x4 x5 x6 x7 y0 y1 y2 y3 y4 y5 y6 y7 : Value} (hb : Below w1.heap.size w1 w2)
    (h : w1.cell? ⟨g, 0, none⟩ = some x0 ∧ w1.cell? ⟨g, 1, none⟩ = some x1 ∧ w1.cell? ⟨g, 2, none⟩ = some x2 ∧ w1.cell? ⟨g, 3, none⟩ = some x3 ∧ w1.cell? ⟨g, 4, none⟩ = some x4 ∧ w1.cell? ⟨g, 5, none⟩ = some x5 ∧ w1.cell? ⟨g, 6, none⟩ = some x6 ∧ w1.cell? ⟨g, 7, none⟩ = some x7 ∧ w1.cell? ⟨g2, 0, none⟩ = some y0 ∧ w1.cell? ⟨g2, 1, none⟩ = some y1 ∧ w1.cell? ⟨g2, 2, none⟩ = some y2 ∧ w1.cell? ⟨g2, 3, none⟩ = some y3 ∧ w1.cell? ⟨g2, 4, none⟩ = some y4 ∧ w1.cell? ⟨g2, 5, none⟩ = some y5 ∧ w1.cell? ⟨g2, 6, none⟩ = some y6 ∧ w1.cell? ⟨g2, 7, none⟩ = some y7 ∧ Hid (Below v.heap.size v w1)) :
    w2.cell? ⟨g, 0, none⟩ = some x0 ∧ w2.cell? ⟨g, 1, none⟩ = some x1 ∧ w2.cell? ⟨g, 2, none⟩ = some x2 ∧ w2.cell? ⟨g, 3, none⟩ = some x3 ∧ w2.cell? ⟨g, 4, none⟩ = some x4 ∧ w2.cell? ⟨g, 5, none⟩ = some x5 ∧ w2.cell? ⟨g, 6, none⟩ = some x6 ∧ w2.cell? ⟨g, 7, none⟩ = some x7 ∧ w2.cell? ⟨g2, 0, none⟩ = some y0 ∧ w2.cell? ⟨g2, 1, none⟩ = some y1 ∧ w2.cell? ⟨g2, 2, none⟩ = some y2 ∧ w2.cell? ⟨g2, 3, none⟩ = some y3 ∧ w2.cell? ⟨g2, 4, none⟩ = some y4 ∧ w2.cell? ⟨g2, 5, none⟩ = some y5 ∧ w2.cell? ⟨g2, 6, none⟩ = some y6 ∧ w2.cell? ⟨g2, 7, none⟩ = some y7 ∧ Hid (Below v.heap.size v w2) := by
  obtain ⟨a0, a1, a2, a3, a4, a5, a6, a7, a8, a9, a10, a11, a12, a13, a14, a15, k⟩ := h
  exact ⟨keep hb a0, keep hb a1, keep hb a2, keep hb a3, keep hb a4, keep hb a5, keep hb a6, keep hb a7, keep hb a8, keep hb a9, keep hb a10, keep hb a11, keep hb a12, keep hb a13, keep hb a14, keep hb a15, Lib.hid (k.out.trans (hb.mono k.out.size))⟩
set_option maxRecDepth 10000 in
set_option maxHeartbeats 2000000 in
theorem sameStepLaw (k0 o0 s0 t0 m0 f0 : Int) (A0 : Option Addr) (n0 p0 : Nat) (xs0 : List Int) (B0 : Option Addr) (q0 r0 : Nat) (ys0 : List Int) (k1 o1 s1 t1 m1 f1 : Int) (A1 : Option Addr) (n1 p1 : Nat) (xs1 : List Int) (B1 : Option Addr) (q1 r1 : Nat) (ys1 : List Int) (W : World) (hra0 : RdB8 W A0 n0 xs0 ∧ (n0 : Int) ≤ 9223372036854775807) (hrb0 : RdT W B0 q0 ys0) (hra1 : RdB8 W A1 n1 xs1 ∧ (n1 : Int) ≤ 9223372036854775807) (hrb1 : RdT W B1 q1 ys1) (hby0 : ByB xs0) (hby1 : ByB xs1) :
    Calls Try.prog 7 #[.agg #[.int .i64 k0, .int .i64 o0, .int .i64 s0, .slice A0 n0 p0, .int .i64 t0, .int .i64 m0, .int .i64 f0, .slice B0 q0 r0], .agg #[.int .i64 k1, .int .i64 o1, .int .i64 s1, .slice A1 n1 p1, .int .i64 t1, .int .i64 m1, .int .i64 f1, .slice B1 q1 r1]] W fun e W' => e = .returned (.bool true) ∧ Below W.heap.size W W' := by
  have HBY0 := Lib.hid hby0
  have HBY1 := Lib.hid hby1
  clear hby0 hby1
  obtain ⟨hra0, hmax0⟩ := hra0
  obtain ⟨hrb0, hmaxb0⟩ := hrb0
  obtain ⟨hra1, hmax1⟩ := hra1
  obtain ⟨hrb1, hmaxb1⟩ := hrb1
  have b0 := ((Below.refl _ W).alloc (Nat.le_refl _) (.cells #[.int .i64 k0, .int .i64 o0, .int .i64 s0, .slice A0 n0 p0, .int .i64 t0, .int .i64 m0, .int .i64 f0, .slice B0 q0 r0] 29)).alloc (by simp) (.cells #[.int .i64 k1, .int .i64 o1, .int .i64 s1, .slice A1 n1 p1, .int .i64 t1, .int .i64 m1, .int .i64 f1, .slice B1 q1 r1] 29)
  have kx0 := (Bk.new W 29 #[.int .i64 k0, .int .i64 o0, .int .i64 s0, .slice A0 n0 p0, .int .i64 t0, .int .i64 m0, .int .i64 f0, .slice B0 q0 r0]).alloc (.cells #[.int .i64 k1, .int .i64 o1, .int .i64 s1, .slice A1 n1 p1, .int .i64 t1, .int .i64 m1, .int .i64 f1, .slice B1 q1 r1] 29)
  have kx1 := Bk.new (W.alloc (.cells #[.int .i64 k0, .int .i64 o0, .int .i64 s0, .slice A0 n0 p0, .int .i64 t0, .int .i64 m0, .int .i64 f0, .slice B0 q0 r0] 29)) 29 #[.int .i64 k1, .int .i64 o1, .int .i64 s1, .slice A1 n1 p1, .int .i64 t1, .int .i64 m1, .int .i64 f1, .slice B1 q1 r1]
  have RA0 := Lib.hid (hra0.of_below b0)
  have RB0 := Lib.hid (hrb0.of_below b0)
  have RA1 := Lib.hid (hra1.of_below b0)
  have RB1 := Lib.hid (hrb1.of_below b0)
  have Bl := Lib.hid b0
  simp only [World.size_alloc] at kx1
  have K0 := Lib.hid kx0
  have K1 := Lib.hid kx1
  have hn00 : (0 : Int) ≤ n0 := Int.natCast_nonneg n0
  have hn10 : (0 : Int) ≤ n1 := Int.natCast_nonneg n1
  have hq00 : (0 : Int) ≤ q0 := Int.natCast_nonneg q0
  have hq10 : (0 : Int) ≤ q1 := Int.natCast_nonneg q1
  clear hra0 hra1 hrb0 hrb1 b0 kx0 kx1
  go_enter Try.func7, Try.ntmps7
  go_wp2_with fail
  generalize (W.alloc (.cells #[.int .i64 k0, .int .i64 o0, .int .i64 s0, .slice A0 n0 p0, .int .i64 t0, .int .i64 m0, .int .i64 f0, .slice B0 q0 r0] 29)).alloc (.cells #[.int .i64 k1, .int .i64 o1, .int .i64 s1, .slice A1 n1 p1, .int .i64 t1, .int .i64 m1, .int .i64 f1, .slice B1 q1 r1] 29) = v at K0 K1 RA0 RB0 RA1 RB1 Bl ⊢
  generalize W.heap.size + 1 = gB at K1 ⊢
  by_cases hn : (n0 : Int) + q0 ≤ 1048576
  case neg =>
    have hn2 : (1048576 : Int) < (n0 : Int) + q0 := by omega
    clear hn
    with_reducible refine (szStep_no k0 o0 s0 t0 m0 f0 A0 n0 p0 B0 q0 r0 1048576 _ hn2 (by omega) (by omega) hmax0 hmaxb0).mono ?_
    rintro e u1 ⟨rfl, b1⟩
    have BF := Lib.hid (Bl.out.trans (b1.mono Bl.out.size))
    clear b1
    go_wp2
    go_ret
    exact ⟨rfl, BF.out⟩
  with_reducible refine (szStep_yes k0 o0 s0 t0 m0 f0 A0 n0 p0 B0 q0 r0 1048576 _ hn (by omega)).mono ?_
  rintro e u1 ⟨rfl, b1⟩
  replace K0 := Lib.hid (K0.out.below b1)
  replace K1 := Lib.hid (K1.out.below b1)
  replace RA0 := Lib.hid (RA0.out.of_below b1)
  replace RB0 := Lib.hid (RB0.out.of_below b1)
  replace RA1 := Lib.hid (RA1.out.of_below b1)
  replace RB1 := Lib.hid (RB1.out.of_below b1)
  replace Bl := Lib.hid (Bl.out.trans (b1.mono Bl.out.size))
  clear b1
  obtain ⟨c0, c1, c2, c3, c4, c5, c6, c7⟩ := K1.out.cell8
  go_wp2_with fail
  clear c0 c1 c2 c3 c4 c5 c6 c7
  by_cases hm : (n1 : Int) + q1 ≤ 1048576 - n0 - q0
  case neg =>
    have hn2 : 1048576 - (n0 : Int) - q0 < (n1 : Int) + q1 := by omega
    clear hm
    with_reducible refine (szStep_no k1 o1 s1 t1 m1 f1 A1 n1 p1 B1 q1 r1 (1048576 - n0 - q0) _ hn2 (by omega) (by omega) hmax1 hmaxb1).mono ?_
    rintro e u2 ⟨rfl, b2⟩
    have BF := Lib.hid (Bl.out.trans (b2.mono Bl.out.size))
    clear b2
    go_wp2
    go_ret
    exact ⟨rfl, BF.out⟩
  have HN0 : Hid (n0 ≤ 1048576) := Lib.hid (by omega)
  have HN1 : Hid (n1 ≤ 1048576) := Lib.hid (by omega)
  have HQ0 : Hid (q0 ≤ 1048576) := Lib.hid (by omega)
  have HQ1 : Hid (q1 ≤ 1048576) := Lib.hid (by omega)
  clear hmax0 hmax1 hmaxb0 hmaxb1
  with_reducible refine (szStep_yes k1 o1 s1 t1 m1 f1 A1 n1 p1 B1 q1 r1 (1048576 - n0 - q0) _ hm (by omega)).mono ?_
  rintro e u2 ⟨rfl, b2⟩
  replace K0 := Lib.hid (K0.out.below b2)
  replace K1 := Lib.hid (K1.out.below b2)
  replace RA0 := Lib.hid (RA0.out.of_below b2)
  replace RB0 := Lib.hid (RB0.out.of_below b2)
  replace RA1 := Lib.hid (RA1.out.of_below b2)
  replace RB1 := Lib.hid (RB1.out.of_below b2)
  replace Bl := Lib.hid (Bl.out.trans (b2.mono Bl.out.size))
  clear b2
  obtain ⟨c0, c1, c2, c3, c4, c5, c6, c7⟩ := K0.out.cell8
  obtain ⟨d0, d1, d2, d3, d4, d5, d6, d7⟩ := K1.out.cell8
  go_wp2_with fail
  obtain ⟨rr, hrr⟩ : ∃ rr, sameSt k0 o0 s0 t0 m0 f0 xs0 ys0 k1 o1 s1 t1 m1 f1 xs1 ys1 = rr := ⟨_, rfl⟩
  have HRR := Lib.hid hrr
  clear hrr
  go_region_held3 (fun w' => w'.cell? ⟨W.heap.size, 0, none⟩ = some (.int .i64 k0) ∧ w'.cell? ⟨W.heap.size, 1, none⟩ = some (.int .i64 o0) ∧ w'.cell? ⟨W.heap.size, 2, none⟩ = some (.int .i64 s0) ∧ w'.cell? ⟨W.heap.size, 3, none⟩ = some (.slice A0 n0 p0) ∧ w'.cell? ⟨W.heap.size, 4, none⟩ = some (.int .i64 t0) ∧ w'.cell? ⟨W.heap.size, 5, none⟩ = some (.int .i64 m0) ∧ w'.cell? ⟨W.heap.size, 6, none⟩ = some (.int .i64 f0) ∧ w'.cell? ⟨W.heap.size, 7, none⟩ = some (.slice B0 q0 r0) ∧ w'.cell? ⟨gB, 0, none⟩ = some (.int .i64 k1) ∧ w'.cell? ⟨gB, 1, none⟩ = some (.int .i64 o1) ∧ w'.cell? ⟨gB, 2, none⟩ = some (.int .i64 s1) ∧ w'.cell? ⟨gB, 3, none⟩ = some (.slice A1 n1 p1) ∧ w'.cell? ⟨gB, 4, none⟩ = some (.int .i64 t1) ∧ w'.cell? ⟨gB, 5, none⟩ = some (.int .i64 m1) ∧ w'.cell? ⟨gB, 6, none⟩ = some (.int .i64 f1) ∧ w'.cell? ⟨gB, 7, none⟩ = some (.slice B1 q1 r1) ∧ Hid (Below u2.heap.size u2 w'))
    (first
      | exact ⟨c0, c1, c2, c3, c4, c5, c6, c7, d0, d1, d2, d3, d4, d5, d6, d7, Lib.hid (Below.refl _ u2).drew⟩
      | exact keep16 bb ⟨c0, c1, c2, c3, c4, c5, c6, c7, d0, d1, d2, d3, d4, d5, d6, d7, Lib.hid (Below.refl _ u2).drew⟩
      | exact keep16 bc (by assumption)
      | exact keep16 bd (by assumption))
    (first
      | (go_at_call 13; (with_reducible refine (toStepL k0 o0 s0 t0 m0 f0 A0 n0 p0 xs0 B0 q0 r0 ys0 _ (RA0.out.of_below (Below.refl _ u2).drew) (RB0.out.of_below (Below.refl _ u2).drew) HN0.out HQ0.out).mono ?_); rintro e w' ⟨gy, hy, rfl, _, _, ry, sy, bb⟩; have RY := Lib.hid ry; have SY := Lib.hid sy; have RU := Lib.hid ((RA1.out.of_below (Below.refl _ u2).drew).of_below bb); have SU := Lib.hid ((RB1.out.of_below (Below.refl _ u2).drew).of_below bb); clear ry sy)
      | (go_at_call 13; (with_reducible refine (toStepL k1 o1 s1 t1 m1 f1 A1 n1 p1 xs1 B1 q1 r1 ys1 _ RU.out SU.out HN1.out HQ1.out).mono ?_); rintro e w' ⟨gz, hz, rfl, _, _, rz, sz, bc⟩; have RZ := Lib.hid rz; have SZ := Lib.hid sz; replace RY := Lib.hid (RY.out.of_below bc); replace SY := Lib.hid (SY.out.of_below bc); clear rz sz)
      | (go_at_call 33; (with_reducible refine (sameStepS k0 o0 s0 t0 m0 f0 _ n0 n0 xs0 _ q0 q0 ys0 k1 o1 s1 t1 m1 f1 _ n1 n1 xs1 _ q1 q1 ys1 _ RY.out SY.out RZ.out SZ.out HN0.out HQ0.out HN1.out HQ1.out).mono ?_); rw [HRR.out]; rintro e w' ⟨rfl, bd⟩))
  rename_i hh
  have bs := Hid.out hh.2.2.2.2.2.2.2.2.2.2.2.2.2.2.2.2
  replace K0 := Lib.hid (K0.out.below bs)
  replace K1 := Lib.hid (K1.out.below bs)
  replace RA0 := Lib.hid (RA0.out.of_below bs)
  replace RB0 := Lib.hid (RB0.out.of_below bs)
  replace RA1 := Lib.hid (RA1.out.of_below bs)
  replace RB1 := Lib.hid (RB1.out.of_below bs)
  replace Bl := Lib.hid (Bl.out.trans (bs.mono Bl.out.size))
  clear bs
  clear hh bb bc bd RY SY RZ SZ RU SU c0 c1 c2 c3 c4 c5 c6 c7 d0 d1 d2 d3 d4 d5 d6 d7
  obtain ⟨c0, c1, c2, c3, c4, c5, c6, c7⟩ := K0.out.cell8
  go_wp2_with fail
  clear c0 c1 c2 c3 c4 c5 c6 c7
  with_reducible refine (toStepL k0 o0 s0 t0 m0 f0 A0 n0 p0 xs0 B0 q0 r0 ys0 _ RA0.out RB0.out HN0.out HQ0.out).mono ?_
  rintro e u4 ⟨g4, h4, rfl, _, _, r9, s9, b4⟩
  replace K0 := Lib.hid (K0.out.below b4)
  replace K1 := Lib.hid (K1.out.below b4)
  replace RA0 := Lib.hid (RA0.out.of_below b4)
  replace RB0 := Lib.hid (RB0.out.of_below b4)
  replace RA1 := Lib.hid (RA1.out.of_below b4)
  replace RB1 := Lib.hid (RB1.out.of_below b4)
  replace Bl := Lib.hid (Bl.out.trans (b4.mono Bl.out.size))
  clear b4
  have RX0 := Lib.hid r9
  have SX0 := Lib.hid s9
  clear r9 s9
  have cz0 := fun o => (K1.out.alloc o).cell 0 rfl
  have cz1 := fun o => (K1.out.alloc o).cell 1 rfl
  have cz2 := fun o => (K1.out.alloc o).cell 2 rfl
  have cz3 := fun o => (K1.out.alloc o).cell 3 rfl
  have cz4 := fun o => (K1.out.alloc o).cell 4 rfl
  have cz5 := fun o => (K1.out.alloc o).cell 5 rfl
  have cz6 := fun o => (K1.out.alloc o).cell 6 rfl
  have cz7 := fun o => (K1.out.alloc o).cell 7 rfl
  go_wp2_with fail
  clear cz0 cz1 cz2 cz3 cz4 cz5 cz6 cz7
  have a9 := (Below.refl _ u4).alloc (Nat.le_refl _) (.cells #[.int .i64 k0, .int .i64 o0, .int .i64 s0, .slice (some ⟨g4, 0, none⟩) n0 n0, .int .i64 t0, .int .i64 m0, .int .i64 f0, .slice (some ⟨h4, 0, none⟩) q0 q0] 37)
  have KX0 := Lib.hid (Bk.new u4 37 #[.int .i64 k0, .int .i64 o0, .int .i64 s0, .slice (some ⟨g4, 0, none⟩) n0 n0, .int .i64 t0, .int .i64 m0, .int .i64 f0, .slice (some ⟨h4, 0, none⟩) q0 q0])
  replace K0 := Lib.hid (K0.out.below a9)
  replace K1 := Lib.hid (K1.out.below a9)
  replace RA0 := Lib.hid (RA0.out.of_below a9)
  replace RB0 := Lib.hid (RB0.out.of_below a9)
  replace RA1 := Lib.hid (RA1.out.of_below a9)
  replace RB1 := Lib.hid (RB1.out.of_below a9)
  replace RX0 := Lib.hid (RX0.out.of_below a9)
  replace SX0 := Lib.hid (SX0.out.of_below a9)
  replace Bl := Lib.hid (Bl.out.trans (a9.mono Bl.out.size))
  clear a9
  generalize u4.alloc (.cells #[.int .i64 k0, .int .i64 o0, .int .i64 s0, .slice (some ⟨g4, 0, none⟩) n0 n0, .int .i64 t0, .int .i64 m0, .int .i64 f0, .slice (some ⟨h4, 0, none⟩) q0 q0] 37) = v4 at K0 K1 RA0 RB0 RA1 RB1 Bl RX0 SX0 KX0 ⊢
  generalize u4.heap.size = x4 at KX0 ⊢
  with_reducible refine (toStepL k1 o1 s1 t1 m1 f1 A1 n1 p1 xs1 B1 q1 r1 ys1 _ RA1.out RB1.out HN1.out HQ1.out).mono ?_
  rintro e u5 ⟨g5, h5, rfl, _, _, r9, s9, b5⟩
  replace K0 := Lib.hid (K0.out.below b5)
  replace K1 := Lib.hid (K1.out.below b5)
  replace RA0 := Lib.hid (RA0.out.of_below b5)
  replace RB0 := Lib.hid (RB0.out.of_below b5)
  replace RA1 := Lib.hid (RA1.out.of_below b5)
  replace RB1 := Lib.hid (RB1.out.of_below b5)
  replace RX0 := Lib.hid (RX0.out.of_below b5)
  replace SX0 := Lib.hid (SX0.out.of_below b5)
  replace KX0 := Lib.hid (KX0.out.below b5)
  replace Bl := Lib.hid (Bl.out.trans (b5.mono Bl.out.size))
  clear b5
  have RX1 := Lib.hid r9
  have SX1 := Lib.hid s9
  clear r9 s9
  have cz0 := fun o => (KX0.out.alloc o).cell 0 rfl
  have cz1 := fun o => (KX0.out.alloc o).cell 1 rfl
  have cz2 := fun o => (KX0.out.alloc o).cell 2 rfl
  have cz3 := fun o => (KX0.out.alloc o).cell 3 rfl
  have cz4 := fun o => (KX0.out.alloc o).cell 4 rfl
  have cz5 := fun o => (KX0.out.alloc o).cell 5 rfl
  have cz6 := fun o => (KX0.out.alloc o).cell 6 rfl
  have cz7 := fun o => (KX0.out.alloc o).cell 7 rfl
  go_wp2_with fail
  clear cz0 cz1 cz2 cz3 cz4 cz5 cz6 cz7
  have a9 := (Below.refl _ u5).alloc (Nat.le_refl _) (.cells #[.int .i64 k1, .int .i64 o1, .int .i64 s1, .slice (some ⟨g5, 0, none⟩) n1 n1, .int .i64 t1, .int .i64 m1, .int .i64 f1, .slice (some ⟨h5, 0, none⟩) q1 q1] 37)
  have KX1 := Lib.hid (Bk.new u5 37 #[.int .i64 k1, .int .i64 o1, .int .i64 s1, .slice (some ⟨g5, 0, none⟩) n1 n1, .int .i64 t1, .int .i64 m1, .int .i64 f1, .slice (some ⟨h5, 0, none⟩) q1 q1])
  replace K0 := Lib.hid (K0.out.below a9)
  replace K1 := Lib.hid (K1.out.below a9)
  replace RA0 := Lib.hid (RA0.out.of_below a9)
  replace RB0 := Lib.hid (RB0.out.of_below a9)
  replace RA1 := Lib.hid (RA1.out.of_below a9)
  replace RB1 := Lib.hid (RB1.out.of_below a9)
  replace RX0 := Lib.hid (RX0.out.of_below a9)
  replace SX0 := Lib.hid (SX0.out.of_below a9)
  replace KX0 := Lib.hid (KX0.out.below a9)
  replace RX1 := Lib.hid (RX1.out.of_below a9)
  replace SX1 := Lib.hid (SX1.out.of_below a9)
  replace Bl := Lib.hid (Bl.out.trans (a9.mono Bl.out.size))
  clear a9
  generalize u5.alloc (.cells #[.int .i64 k1, .int .i64 o1, .int .i64 s1, .slice (some ⟨g5, 0, none⟩) n1 n1, .int .i64 t1, .int .i64 m1, .int .i64 f1, .slice (some ⟨h5, 0, none⟩) q1 q1] 37) = v5 at K0 K1 RA0 RB0 RA1 RB1 RX0 SX0 KX0 Bl RX1 SX1 KX1 ⊢
  generalize u5.heap.size = x5 at KX1 ⊢
  with_reducible refine (sameStepI k0 o0 s0 t0 m0 f0 _ n0 n0 xs0 _ q0 q0 ys0 k1 o1 s1 t1 m1 f1 _ n1 n1 xs1 _ q1 q1 ys1 _ RX0.out SX0.out RX1.out SX1.out HN0.out HQ0.out HN1.out HQ1.out HBY0.out HBY1.out).mono ?_
  rw [HRR.out]
  rintro e u6 ⟨rfl, b6⟩
  replace K0 := Lib.hid (K0.out.below b6)
  replace K1 := Lib.hid (K1.out.below b6)
  replace RA0 := Lib.hid (RA0.out.of_below b6)
  replace RB0 := Lib.hid (RB0.out.of_below b6)
  replace RA1 := Lib.hid (RA1.out.of_below b6)
  replace RB1 := Lib.hid (RB1.out.of_below b6)
  replace RX0 := Lib.hid (RX0.out.of_below b6)
  replace SX0 := Lib.hid (SX0.out.of_below b6)
  replace KX0 := Lib.hid (KX0.out.below b6)
  replace RX1 := Lib.hid (RX1.out.of_below b6)
  replace SX1 := Lib.hid (SX1.out.of_below b6)
  replace KX1 := Lib.hid (KX1.out.below b6)
  replace Bl := Lib.hid (Bl.out.trans (b6.mono Bl.out.size))
  clear b6
  obtain ⟨c0, c1, c2, c3, c4, c5, c6, c7⟩ := K0.out.cell8
  obtain ⟨d0, d1, d2, d3, d4, d5, d6, d7⟩ := KX0.out.cell8
  go_wp2_with fail
  go_region_held3 (fun w' => w'.cell? ⟨x4, 0, none⟩ = some (.int .i64 k0) ∧ w'.cell? ⟨x4, 1, none⟩ = some (.int .i64 o0) ∧ w'.cell? ⟨x4, 2, none⟩ = some (.int .i64 s0) ∧ w'.cell? ⟨x4, 3, none⟩ = some (.slice (some ⟨g4, 0, none⟩) n0 n0) ∧ w'.cell? ⟨x4, 4, none⟩ = some (.int .i64 t0) ∧ w'.cell? ⟨x4, 5, none⟩ = some (.int .i64 m0) ∧ w'.cell? ⟨x4, 6, none⟩ = some (.int .i64 f0) ∧ w'.cell? ⟨x4, 7, none⟩ = some (.slice (some ⟨h4, 0, none⟩) q0 q0) ∧ w'.cell? ⟨W.heap.size, 0, none⟩ = some (.int .i64 k0) ∧ w'.cell? ⟨W.heap.size, 1, none⟩ = some (.int .i64 o0) ∧ w'.cell? ⟨W.heap.size, 2, none⟩ = some (.int .i64 s0) ∧ w'.cell? ⟨W.heap.size, 3, none⟩ = some (.slice A0 n0 p0) ∧ w'.cell? ⟨W.heap.size, 4, none⟩ = some (.int .i64 t0) ∧ w'.cell? ⟨W.heap.size, 5, none⟩ = some (.int .i64 m0) ∧ w'.cell? ⟨W.heap.size, 6, none⟩ = some (.int .i64 f0) ∧ w'.cell? ⟨W.heap.size, 7, none⟩ = some (.slice B0 q0 r0) ∧ Hid (Below u6.heap.size u6 w'))
    (first
      | exact ⟨d0, d1, d2, d3, d4, d5, d6, d7, c0, c1, c2, c3, c4, c5, c6, c7, Lib.hid (Below.refl _ u6).drew⟩
      | exact keep16 bb ⟨d0, d1, d2, d3, d4, d5, d6, d7, c0, c1, c2, c3, c4, c5, c6, c7, Lib.hid (Below.refl _ u6).drew⟩
      | exact keep16 bb (by assumption))
    (first
      | (go_at_call 13; (with_reducible refine (toStepL k0 o0 s0 t0 m0 f0 A0 n0 p0 xs0 B0 q0 r0 ys0 _ (RA0.out.of_below (Below.refl _ u6).drew) (RB0.out.of_below (Below.refl _ u6).drew) HN0.out HQ0.out).mono ?_); rintro e w' ⟨gz, hz, rfl, _, _, rz, sz, bb⟩; have RZ := Lib.hid rz; have SZ := Lib.hid sz; have XZ := Lib.hid ((RX0.out.of_below (Below.refl _ u6).drew).of_below bb); have YZ := Lib.hid ((SX0.out.of_below (Below.refl _ u6).drew).of_below bb); clear rz sz)
      | (go_at_call 16; (with_reducible refine (eqStep_same k0 o0 s0 t0 m0 f0 _ n0 n0 _ q0 q0 _ n0 _ q0 xs0 ys0 _ XZ.out YZ.out RZ.out SZ.out HN0.out HQ0.out).mono ?_); rintro e uf6 ⟨rfl, bb⟩))
  rename_i hh
  have bs := Hid.out hh.2.2.2.2.2.2.2.2.2.2.2.2.2.2.2.2
  replace K0 := Lib.hid (K0.out.below bs)
  replace K1 := Lib.hid (K1.out.below bs)
  replace RA0 := Lib.hid (RA0.out.of_below bs)
  replace RB0 := Lib.hid (RB0.out.of_below bs)
  replace RA1 := Lib.hid (RA1.out.of_below bs)
  replace RB1 := Lib.hid (RB1.out.of_below bs)
  replace RX0 := Lib.hid (RX0.out.of_below bs)
  replace SX0 := Lib.hid (SX0.out.of_below bs)
  replace KX0 := Lib.hid (KX0.out.below bs)
  replace RX1 := Lib.hid (RX1.out.of_below bs)
  replace SX1 := Lib.hid (SX1.out.of_below bs)
  replace KX1 := Lib.hid (KX1.out.below bs)
  replace Bl := Lib.hid (Bl.out.trans (bs.mono Bl.out.size))
  clear bs
  clear hh bb RZ SZ XZ YZ c0 c1 c2 c3 c4 c5 c6 c7 d0 d1 d2 d3 d4 d5 d6 d7
  obtain ⟨c0, c1, c2, c3, c4, c5, c6, c7⟩ := K1.out.cell8
  obtain ⟨d0, d1, d2, d3, d4, d5, d6, d7⟩ := KX1.out.cell8
  go_wp2_with fail
  go_region_held3 (fun w' => w'.cell? ⟨x5, 0, none⟩ = some (.int .i64 k1) ∧ w'.cell? ⟨x5, 1, none⟩ = some (.int .i64 o1) ∧ w'.cell? ⟨x5, 2, none⟩ = some (.int .i64 s1) ∧ w'.cell? ⟨x5, 3, none⟩ = some (.slice (some ⟨g5, 0, none⟩) n1 n1) ∧ w'.cell? ⟨x5, 4, none⟩ = some (.int .i64 t1) ∧ w'.cell? ⟨x5, 5, none⟩ = some (.int .i64 m1) ∧ w'.cell? ⟨x5, 6, none⟩ = some (.int .i64 f1) ∧ w'.cell? ⟨x5, 7, none⟩ = some (.slice (some ⟨h5, 0, none⟩) q1 q1) ∧ w'.cell? ⟨gB, 0, none⟩ = some (.int .i64 k1) ∧ w'.cell? ⟨gB, 1, none⟩ = some (.int .i64 o1) ∧ w'.cell? ⟨gB, 2, none⟩ = some (.int .i64 s1) ∧ w'.cell? ⟨gB, 3, none⟩ = some (.slice A1 n1 p1) ∧ w'.cell? ⟨gB, 4, none⟩ = some (.int .i64 t1) ∧ w'.cell? ⟨gB, 5, none⟩ = some (.int .i64 m1) ∧ w'.cell? ⟨gB, 6, none⟩ = some (.int .i64 f1) ∧ w'.cell? ⟨gB, 7, none⟩ = some (.slice B1 q1 r1) ∧ Hid (Below uf6.heap.size uf6 w'))
    (first
      | exact ⟨d0, d1, d2, d3, d4, d5, d6, d7, c0, c1, c2, c3, c4, c5, c6, c7, Lib.hid (Below.refl _ uf6).drew⟩
      | exact keep16 bb ⟨d0, d1, d2, d3, d4, d5, d6, d7, c0, c1, c2, c3, c4, c5, c6, c7, Lib.hid (Below.refl _ uf6).drew⟩
      | exact keep16 bb (by assumption))
    (first
      | (go_at_call 13; (with_reducible refine (toStepL k1 o1 s1 t1 m1 f1 A1 n1 p1 xs1 B1 q1 r1 ys1 _ (RA1.out.of_below (Below.refl _ uf6).drew) (RB1.out.of_below (Below.refl _ uf6).drew) HN1.out HQ1.out).mono ?_); rintro e w' ⟨gz, hz, rfl, _, _, rz, sz, bb⟩; have RZ := Lib.hid rz; have SZ := Lib.hid sz; have XZ := Lib.hid ((RX1.out.of_below (Below.refl _ uf6).drew).of_below bb); have YZ := Lib.hid ((SX1.out.of_below (Below.refl _ uf6).drew).of_below bb); clear rz sz)
      | (go_at_call 16; (with_reducible refine (eqStep_same k1 o1 s1 t1 m1 f1 _ n1 n1 _ q1 q1 _ n1 _ q1 xs1 ys1 _ XZ.out YZ.out RZ.out SZ.out HN1.out HQ1.out).mono ?_); rintro e uf7 ⟨rfl, bb⟩))
  rename_i hh
  have bs := Hid.out hh.2.2.2.2.2.2.2.2.2.2.2.2.2.2.2.2
  replace K0 := Lib.hid (K0.out.below bs)
  replace K1 := Lib.hid (K1.out.below bs)
  replace RA0 := Lib.hid (RA0.out.of_below bs)
  replace RB0 := Lib.hid (RB0.out.of_below bs)
  replace RA1 := Lib.hid (RA1.out.of_below bs)
  replace RB1 := Lib.hid (RB1.out.of_below bs)
  replace RX0 := Lib.hid (RX0.out.of_below bs)
  replace SX0 := Lib.hid (SX0.out.of_below bs)
  replace KX0 := Lib.hid (KX0.out.below bs)
  replace RX1 := Lib.hid (RX1.out.of_below bs)
  replace SX1 := Lib.hid (SX1.out.of_below bs)
  replace KX1 := Lib.hid (KX1.out.below bs)
  replace Bl := Lib.hid (Bl.out.trans (bs.mono Bl.out.size))
  clear bs
  clear hh bb RZ SZ XZ YZ c0 c1 c2 c3 c4 c5 c6 c7 d0 d1 d2 d3 d4 d5 d6 d7
  go_wp2
  go_ret
  exact ⟨rfl, Bl.out⟩
end Qt
end Go.Proofs.Ythkjmdboflngaaa
