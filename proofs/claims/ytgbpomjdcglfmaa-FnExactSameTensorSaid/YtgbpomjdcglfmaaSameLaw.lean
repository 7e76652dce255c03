/- The law of SameTensor returns true and writes nothing that was there, when its two slices read as lists. -/
import Derived.Test.YtgbpomjdcglfmaaSame
import Derived.Test.YtgbpomjdcglfmaaTenLaws
namespace Go.Proofs.Ytgbpomjdcglfmaa
open Go.RowKit Go.Sort
namespace Qt

theorem sameLaw (h0 w0 c0 : Int) (A0 : Option Addr) (n0 p0 : Nat) (xs0 : List Int) (h1 w1 c1 : Int) (A1 : Option Addr) (n1 p1 : Nat) (xs1 : List Int) (W : World) (hr0 : RdT W A0 n0 xs0) (hr1 : RdT W A1 n1 xs1) :
    Calls Try.prog 11 #[.agg #[.int .i64 h0, .int .i64 w0, .int .i64 c0, .slice A0 n0 p0], .agg #[.int .i64 h1, .int .i64 w1, .int .i64 c1, .slice A1 n1 p1]] W fun e W' => e = .returned (.bool true) ∧ Below W.heap.size W W' := by
  obtain ⟨hr0, hmax0⟩ := hr0
  obtain ⟨hr1, hmax1⟩ := hr1
  have b0 := ((Below.refl _ W).alloc (Nat.le_refl _) (.cells #[.int .i64 h0, .int .i64 w0, .int .i64 c0, .slice A0 n0 p0] 31)).alloc (by simp) (.cells #[.int .i64 h1, .int .i64 w1, .int .i64 c1, .slice A1 n1 p1] 31)
  have k0 := (Bk.new W 31 #[.int .i64 h0, .int .i64 w0, .int .i64 c0, .slice A0 n0 p0]).alloc (.cells #[.int .i64 h1, .int .i64 w1, .int .i64 c1, .slice A1 n1 p1] 31)
  have k1 := Bk.new (W.alloc (.cells #[.int .i64 h0, .int .i64 w0, .int .i64 c0, .slice A0 n0 p0] 31)) 31 #[.int .i64 h1, .int .i64 w1, .int .i64 c1, .slice A1 n1 p1]
  have RA0 := Lib.hid (hr0.of_below b0)
  have RA1 := Lib.hid (hr1.of_below b0)
  have B := Lib.hid b0
  simp only [World.size_alloc] at k1
  have K0 := Lib.hid k0
  have K1 := Lib.hid k1
  have hn00 : (0 : Int) ≤ n0 := Int.natCast_nonneg n0
  have hn10 : (0 : Int) ≤ n1 := Int.natCast_nonneg n1
  clear hr0 hr1 b0 k0 k1
  go_enter Try.func11, Try.ntmps11
  go_wp2_with fail
  generalize (W.alloc (.cells #[.int .i64 h0, .int .i64 w0, .int .i64 c0, .slice A0 n0 p0] 31)).alloc (.cells #[.int .i64 h1, .int .i64 w1, .int .i64 c1, .slice A1 n1 p1] 31) = v at K0 K1 RA0 RA1 B ⊢
  generalize W.heap.size + 1 = gB at K1 ⊢
  by_cases hn : (n0 : Int) ≤ 1048576
  · refine (szTensor_yes h0 w0 c0 A0 n0 p0 1048576 _ hn (by omega)).mono ?_
    rintro e u1 ⟨rfl, b1⟩
    replace K0 := Lib.hid (K0.out.below b1)
    replace K1 := Lib.hid (K1.out.below b1)
    replace RA0 := Lib.hid (RA0.out.of_below b1)
    replace RA1 := Lib.hid (RA1.out.of_below b1)
    replace B := Lib.hid (B.out.trans (b1.mono B.out.size))
    clear b1
    obtain ⟨c0, c1, c2, c3⟩ := K1.out.cell4
    go_wp2_with fail
    clear c0 c1 c2 c3
    by_cases hm : (n1 : Int) ≤ 1048576 - n0
    · have HN0 : Hid (n0 ≤ 1048576) := Lib.hid (by omega)
      have HN1 : Hid (n1 ≤ 1048576) := Lib.hid (by omega)
      clear hmax0 hmax1
      refine (szTensor_yes h1 w1 c1 A1 n1 p1 (1048576 - n0) _ hm (by omega)).mono ?_
      rintro e u2 ⟨rfl, b2⟩
      replace K0 := Lib.hid (K0.out.below b2)
      replace K1 := Lib.hid (K1.out.below b2)
      replace RA0 := Lib.hid (RA0.out.of_below b2)
      replace RA1 := Lib.hid (RA1.out.of_below b2)
      replace B := Lib.hid (B.out.trans (b2.mono B.out.size))
      clear b2
      obtain ⟨c00, c01, c02, c03⟩ := K0.out.cell4
      obtain ⟨d0, d1, d2, d3⟩ := K1.out.cell4
      go_wp2_with fail
      go_region_held3 (fun w' => w'.cell? ⟨W.heap.size, 0, none⟩ = some (.int .i64 h0) ∧ w'.cell? ⟨W.heap.size, 1, none⟩ = some (.int .i64 w0) ∧ w'.cell? ⟨W.heap.size, 2, none⟩ = some (.int .i64 c0) ∧ w'.cell? ⟨W.heap.size, 3, none⟩ = some (.slice A0 n0 p0) ∧ w'.cell? ⟨gB, 0, none⟩ = some (.int .i64 h1) ∧ w'.cell? ⟨gB, 1, none⟩ = some (.int .i64 w1) ∧ w'.cell? ⟨gB, 2, none⟩ = some (.int .i64 c1) ∧ w'.cell? ⟨gB, 3, none⟩ = some (.slice A1 n1 p1) ∧ Hid (Below u2.heap.size u2 w'))
        (first
          | exact ⟨c00, c01, c02, c03, d0, d1, d2, d3, Lib.hid (Below.refl _ u2).drew⟩
          | exact keep8 bb ⟨c00, c01, c02, c03, d0, d1, d2, d3, Lib.hid (Below.refl _ u2).drew⟩
          | exact keep8 bc (by assumption)
          | exact keep8 bd (by assumption))
        (first
          | (go_at_call 20; ((with_reducible refine (toTensorL h0 w0 c0 A0 n0 p0 xs0 _ (RA0.out.of_below (Below.refl _ u2).drew) HN0.out).mono ?_)); rintro e w' ⟨gy, rfl, _, ry, bb⟩; have RY := Lib.hid ry; have RB := Lib.hid ((RA1.out.of_below (Below.refl _ u2).drew).of_below bb); clear ry)
          | (go_at_call 20; ((with_reducible refine (toTensorL h1 w1 c1 A1 n1 p1 xs1 _ RB.out HN1.out).mono ?_)); rintro e w' ⟨gz, rfl, _, rz, bc⟩; have RZ := Lib.hid rz; replace RY := Lib.hid (RY.out.of_below bc); clear rz)
          | (go_at_call 35; refine (sameS h0 w0 c0 _ n0 n0 xs0 h1 w1 c1 _ n1 n1 xs1 _ RY.out HN0.out RZ.out HN1.out).mono ?_; rintro e w' ⟨rfl, bd⟩))
      rename_i hh
      have bs := Hid.out hh.2.2.2.2.2.2.2.2
      replace K0 := Lib.hid (K0.out.below bs)
      replace K1 := Lib.hid (K1.out.below bs)
      replace RA0 := Lib.hid (RA0.out.of_below bs)
      replace RA1 := Lib.hid (RA1.out.of_below bs)
      replace B := Lib.hid (B.out.trans (bs.mono B.out.size))
      clear bs hh bb bc bd RY RZ RB c00 c01 c02 c03 d0 d1 d2 d3
      obtain ⟨c00, c01, c02, c03⟩ := K0.out.cell4
      go_wp2_with fail
      clear c00 c01 c02 c03
      refine (toTensorL h0 w0 c0 A0 n0 p0 xs0 _ RA0.out HN0.out).mono ?_
      rintro e u4 ⟨g4, rfl, _, r4, b4⟩
      replace K0 := Lib.hid (K0.out.below b4)
      replace K1 := Lib.hid (K1.out.below b4)
      replace RA0 := Lib.hid (RA0.out.of_below b4)
      replace RA1 := Lib.hid (RA1.out.of_below b4)
      replace B := Lib.hid (B.out.trans (b4.mono B.out.size))
      have RX0 := Lib.hid r4
      clear b4 r4
      have cz0 := fun o => (K1.out.alloc o).cell 0 rfl
      have cz1 := fun o => (K1.out.alloc o).cell 1 rfl
      have cz2 := fun o => (K1.out.alloc o).cell 2 rfl
      have cz3 := fun o => (K1.out.alloc o).cell 3 rfl
      go_wp2_with fail
      clear cz0 cz1 cz2 cz3
      have a4 := (Below.refl _ u4).alloc (Nat.le_refl _) (.cells #[.int .i64 h0, .int .i64 w0, .int .i64 c0, .slice (some ⟨g4, 0, none⟩) n0 n0] 35)
      have KX := Lib.hid (Bk.new u4 35 #[.int .i64 h0, .int .i64 w0, .int .i64 c0, .slice (some ⟨g4, 0, none⟩) n0 n0])
      replace K0 := Lib.hid (K0.out.below a4)
      replace K1 := Lib.hid (K1.out.below a4)
      replace RA0 := Lib.hid (RA0.out.of_below a4)
      replace RA1 := Lib.hid (RA1.out.of_below a4)
      replace RX0 := Lib.hid (RX0.out.of_below a4)
      replace B := Lib.hid (B.out.trans (a4.mono B.out.size))
      clear a4
      generalize u4.alloc (.cells #[.int .i64 h0, .int .i64 w0, .int .i64 c0, .slice (some ⟨g4, 0, none⟩) n0 n0] 35) = v4 at K0 K1 RA0 RA1 RX0 KX B ⊢
      generalize u4.heap.size = x4 at KX ⊢
      refine (toTensorL h1 w1 c1 A1 n1 p1 xs1 _ RA1.out HN1.out).mono ?_
      rintro e u5 ⟨g5, rfl, _, r5, b5⟩
      replace K0 := Lib.hid (K0.out.below b5)
      replace K1 := Lib.hid (K1.out.below b5)
      replace RA0 := Lib.hid (RA0.out.of_below b5)
      replace RA1 := Lib.hid (RA1.out.of_below b5)
      replace RX0 := Lib.hid (RX0.out.of_below b5)
      replace KX := Lib.hid (KX.out.below b5)
      replace B := Lib.hid (B.out.trans (b5.mono B.out.size))
      have RX1 := Lib.hid r5
      clear b5 r5
      have cz0 := fun o => (KX.out.alloc o).cell 0 rfl
      have cz1 := fun o => (KX.out.alloc o).cell 1 rfl
      have cz2 := fun o => (KX.out.alloc o).cell 2 rfl
      have cz3 := fun o => (KX.out.alloc o).cell 3 rfl
      go_wp2_with fail
      clear cz0 cz1 cz2 cz3
      have a5 := (Below.refl _ u5).alloc (Nat.le_refl _) (.cells #[.int .i64 h1, .int .i64 w1, .int .i64 c1, .slice (some ⟨g5, 0, none⟩) n1 n1] 35)
      have KY := Lib.hid (Bk.new u5 35 #[.int .i64 h1, .int .i64 w1, .int .i64 c1, .slice (some ⟨g5, 0, none⟩) n1 n1])
      replace K0 := Lib.hid (K0.out.below a5)
      replace K1 := Lib.hid (K1.out.below a5)
      replace RA0 := Lib.hid (RA0.out.of_below a5)
      replace RA1 := Lib.hid (RA1.out.of_below a5)
      replace RX0 := Lib.hid (RX0.out.of_below a5)
      replace KX := Lib.hid (KX.out.below a5)
      replace RX1 := Lib.hid (RX1.out.of_below a5)
      replace B := Lib.hid (B.out.trans (a5.mono B.out.size))
      clear a5
      generalize u5.alloc (.cells #[.int .i64 h1, .int .i64 w1, .int .i64 c1, .slice (some ⟨g5, 0, none⟩) n1 n1] 35) = v5 at K0 K1 RA0 RA1 RX0 KX RX1 KY B ⊢
      generalize u5.heap.size = x5 at KY ⊢
      refine (sameI h0 w0 c0 _ n0 n0 xs0 h1 w1 c1 _ n1 n1 xs1 _ RX0.out HN0.out RX1.out HN1.out).mono ?_
      rintro e u6 ⟨rfl, b6⟩
      replace K0 := Lib.hid (K0.out.below b6)
      replace K1 := Lib.hid (K1.out.below b6)
      replace RA0 := Lib.hid (RA0.out.of_below b6)
      replace RA1 := Lib.hid (RA1.out.of_below b6)
      replace RX0 := Lib.hid (RX0.out.of_below b6)
      replace KX := Lib.hid (KX.out.below b6)
      replace RX1 := Lib.hid (RX1.out.of_below b6)
      replace KY := Lib.hid (KY.out.below b6)
      replace B := Lib.hid (B.out.trans (b6.mono B.out.size))
      clear b6
      obtain ⟨c00, c01, c02, c03⟩ := K0.out.cell4
      obtain ⟨d0, d1, d2, d3⟩ := KX.out.cell4
      go_wp2_with fail
      go_region_held3 (fun w' => w'.cell? ⟨x4, 0, none⟩ = some (.int .i64 h0) ∧ w'.cell? ⟨x4, 1, none⟩ = some (.int .i64 w0) ∧ w'.cell? ⟨x4, 2, none⟩ = some (.int .i64 c0) ∧ w'.cell? ⟨x4, 3, none⟩ = some (.slice (some ⟨g4, 0, none⟩) n0 n0) ∧
          w'.cell? ⟨W.heap.size, 0, none⟩ = some (.int .i64 h0) ∧ w'.cell? ⟨W.heap.size, 1, none⟩ = some (.int .i64 w0) ∧ w'.cell? ⟨W.heap.size, 2, none⟩ = some (.int .i64 c0) ∧ w'.cell? ⟨W.heap.size, 3, none⟩ = some (.slice A0 n0 p0) ∧ Hid (Below u6.heap.size u6 w'))
        (first
          | exact ⟨d0, d1, d2, d3, c00, c01, c02, c03, Lib.hid (Below.refl _ u6).drew⟩
          | exact keep8 bb ⟨d0, d1, d2, d3, c00, c01, c02, c03, Lib.hid (Below.refl _ u6).drew⟩
          | exact keep8 bb (by assumption))
        (first
          | (go_at_call 20; refine (toTensorL h0 w0 c0 A0 n0 p0 xs0 _ (RA0.out.of_below (Below.refl _ u6).drew) HN0.out).mono ?_; rintro e w' ⟨gz, rfl, _, rz, bb⟩; have RZ := Lib.hid rz; have XZ := Lib.hid ((RX0.out.of_below (Below.refl _ u6).drew).of_below bb); clear rz)
          | (go_at_call 22; refine (eqTensor_same h0 w0 c0 _ _ n0 n0 n0 xs0 _ XZ.out RZ.out HN0.out).mono ?_; rintro e uf7 ⟨rfl, bb⟩))
      rename_i hh
      have b7 := Hid.out hh.2.2.2.2.2.2.2.2
      clear hh bb RZ XZ c00 c01 c02 c03 d0 d1 d2 d3
      replace K0 := Lib.hid (K0.out.below b7)
      replace K1 := Lib.hid (K1.out.below b7)
      replace RA0 := Lib.hid (RA0.out.of_below b7)
      replace RA1 := Lib.hid (RA1.out.of_below b7)
      replace RX0 := Lib.hid (RX0.out.of_below b7)
      replace KX := Lib.hid (KX.out.below b7)
      replace RX1 := Lib.hid (RX1.out.of_below b7)
      replace KY := Lib.hid (KY.out.below b7)
      replace B := Lib.hid (B.out.trans (b7.mono B.out.size))
      clear b7
      obtain ⟨c00, c01, c02, c03⟩ := K1.out.cell4
      obtain ⟨d0, d1, d2, d3⟩ := KY.out.cell4
      go_wp2_with fail
      go_region_held3 (fun w' => w'.cell? ⟨x5, 0, none⟩ = some (.int .i64 h1) ∧ w'.cell? ⟨x5, 1, none⟩ = some (.int .i64 w1) ∧ w'.cell? ⟨x5, 2, none⟩ = some (.int .i64 c1) ∧ w'.cell? ⟨x5, 3, none⟩ = some (.slice (some ⟨g5, 0, none⟩) n1 n1) ∧
          w'.cell? ⟨gB, 0, none⟩ = some (.int .i64 h1) ∧ w'.cell? ⟨gB, 1, none⟩ = some (.int .i64 w1) ∧ w'.cell? ⟨gB, 2, none⟩ = some (.int .i64 c1) ∧ w'.cell? ⟨gB, 3, none⟩ = some (.slice A1 n1 p1) ∧ Hid (Below uf7.heap.size uf7 w'))
        (first
          | exact ⟨d0, d1, d2, d3, c00, c01, c02, c03, Lib.hid (Below.refl _ uf7).drew⟩
          | exact keep8 bb ⟨d0, d1, d2, d3, c00, c01, c02, c03, Lib.hid (Below.refl _ uf7).drew⟩
          | exact keep8 bb (by assumption))
        (first
          | (go_at_call 20; refine (toTensorL h1 w1 c1 A1 n1 p1 xs1 _ (RA1.out.of_below (Below.refl _ uf7).drew) HN1.out).mono ?_; rintro e w' ⟨gz, rfl, _, rz, bb⟩; have RZ := Lib.hid rz; have XZ := Lib.hid ((RX1.out.of_below (Below.refl _ uf7).drew).of_below bb); clear rz)
          | (go_at_call 22; refine (eqTensor_same h1 w1 c1 _ _ n1 n1 n1 xs1 _ XZ.out RZ.out HN1.out).mono ?_; rintro e uf8 ⟨rfl, bb⟩))
      rename_i hh
      have b8 := Hid.out hh.2.2.2.2.2.2.2.2
      clear hh bb RZ XZ c00 c01 c02 c03 d0 d1 d2 d3
      replace K0 := Lib.hid (K0.out.below b8)
      replace K1 := Lib.hid (K1.out.below b8)
      replace RA0 := Lib.hid (RA0.out.of_below b8)
      replace RA1 := Lib.hid (RA1.out.of_below b8)
      replace RX0 := Lib.hid (RX0.out.of_below b8)
      replace KX := Lib.hid (KX.out.below b8)
      replace RX1 := Lib.hid (RX1.out.of_below b8)
      replace KY := Lib.hid (KY.out.below b8)
      replace B := Lib.hid (B.out.trans (b8.mono B.out.size))
      clear b8
      go_wp2
      go_ret
      exact ⟨rfl, B.out⟩
    · have hm2 : 1048576 - (n0 : Int) < (n1 : Int) := by omega
      clear hm
      refine (szTensor_no h1 w1 c1 A1 n1 p1 (1048576 - n0) _ hm2 (by omega) hmax1).mono ?_
      rintro e u2 ⟨rfl, b2⟩
      have BF := Lib.hid (B.out.trans (b2.mono B.out.size))
      clear b2
      go_wp2
      go_ret
      exact ⟨rfl, BF.out⟩
  · have hn2 : (1048576 : Int) < (n0 : Int) := by omega
    clear hn
    refine (szTensor_no h0 w0 c0 A0 n0 p0 1048576 _ hn2 (by omega) hmax0).mono ?_
    rintro e u1 ⟨rfl, b1⟩
    have BF := Lib.hid (B.out.trans (b1.mono B.out.size))
    clear b1
    go_wp2
    go_ret
    exact ⟨rfl, BF.out⟩
end Qt
end Go.Proofs.Ytgbpomjdcglfmaa
