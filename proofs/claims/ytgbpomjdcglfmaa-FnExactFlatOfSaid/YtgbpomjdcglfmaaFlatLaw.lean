/- The law of FlatOf returns true and writes nothing that was there, when the slice reads as a list. -/
import Derived.Test.YtgbpomjdcglfmaaFlat
import Derived.Test.YtgbpomjdcglfmaaTenLaws
import Derived.Test.YtgbpomjdcglfmaaOpen
namespace Go.Proofs.Ytgbpomjdcglfmaa
open Go.RowKit Go.Sort
namespace Qt

set_option maxRecDepth 100000 in
theorem flatLaw (h w c : Int) (A : Option Addr) (n p : Nat) (xs : List Int) (W : World) (hr : RdT W A n xs) :
    Calls Try.prog 10 #[.agg #[.int .i64 h, .int .i64 w, .int .i64 c, .slice A n p]] W fun e W' => e = .returned (.bool true) ∧ Below W.heap.size W W' := by
  obtain ⟨hr, hmax⟩ := hr
  have K1 := Lib.hid (Bk.new W 31 #[.int .i64 h, .int .i64 w, .int .i64 c, .slice A n p])
  have b0 := (Below.refl _ W).alloc (Nat.le_refl _) (.cells #[.int .i64 h, .int .i64 w, .int .i64 c, .slice A n p] 31)
  have RW := Lib.hid hr
  have B := Lib.hid b0
  clear hr b0
  by_cases hn : (n : Int) ≤ 1048576
  · have HN : Hid (n ≤ 1048576) := Lib.hid (by omega)
    have hn0 : (0 : Int) ≤ n := Int.natCast_nonneg n
    obtain ⟨x, y, z, r, hi⟩ := reIs h w c xs 1 1 n
    have HI := Lib.hid hi
    have hrr : (r != r) = false := by simp
    clear hi hmax
    go_enter Try.func10, Try.ntmps10
    go_wp2_with fail
    generalize W.alloc (.cells #[.int .i64 h, .int .i64 w, .int .i64 c, .slice A n p] 31) = v at K1 B ⊢
    refine (szTensor_yes h w c A n p 1048576 _ hn (by omega)).mono ?_
    rintro e u1 ⟨rfl, b1⟩
    replace K1 := Lib.hid (K1.out.below b1)
    replace B := Lib.hid (B.out.trans (b1.mono B.out.size))
    clear b1
    obtain ⟨c0, c1, c2, c3⟩ := K1.out.cell4
    go_wp2_with fail
    clear c0 c1 c2 c3
    refine (toTensorL h w c A n p xs _ (RW.out.of_below B.out) HN.out).mono ?_
    rintro e u2 ⟨g2, rfl, _, r2, b2⟩
    replace K1 := Lib.hid (K1.out.below b2)
    replace B := Lib.hid (B.out.trans (b2.mono B.out.size))
    have R2 := Lib.hid r2
    clear b2 r2
    go_wp2_with fail
    refine (flatS h w c _ n n xs x y z r HI.out _ R2.out HN.out).mono ?_
    rintro e u3 ⟨BR, capR, rfl, o3, b3⟩
    have OR := Lib.hid (o3.base B.out.size)
    replace K1 := Lib.hid (K1.out.below b3)
    replace R2 := Lib.hid (R2.out.of_below b3)
    replace B := Lib.hid (B.out.trans (b3.mono B.out.size))
    clear b3 o3
    clear R2
    have cz0 := fun o => (K1.out.alloc o).cell 0 rfl
    have cz1 := fun o => (K1.out.alloc o).cell 1 rfl
    have cz2 := fun o => (K1.out.alloc o).cell 2 rfl
    have cz3 := fun o => (K1.out.alloc o).cell 3 rfl
    go_wp2_with fail
    clear cz0 cz1 cz2 cz3
    have a3 := (Below.refl _ u3).alloc (Nat.le_refl _) (.cells #[.int .i64 x, .int .i64 y, .int .i64 z, .slice BR n capR] 35)
    have K4 := Lib.hid (Bk.new u3 35 #[.int .i64 x, .int .i64 y, .int .i64 z, .slice BR n capR])
    replace K1 := Lib.hid (K1.out.below a3)
    replace OR := Lib.hid (OR.out.of_below a3)
    replace B := Lib.hid (B.out.trans (a3.mono B.out.size))
    clear a3
    generalize u3.alloc (.cells #[.int .i64 x, .int .i64 y, .int .i64 z, .slice BR n capR] 35) = v3 at K1 OR K4 B ⊢
    generalize u3.heap.size = x3 at K4 ⊢
    refine (toTensorO h w c A n p xs _ (RW.out.of_below B.out) HN.out).mono ?_
    rintro e u4 ⟨gX, rfl, _, o4, b4⟩
    have AOX_K1 := Lib.hid (o4.apart_old K1.out.lt)
    have AOX_K4 := Lib.hid (o4.apart_old K4.out.lt)
    have DOR_OX := Lib.hid (apart2 OR.out o4 (Nat.le_refl _))
    have OX := Lib.hid (o4.base B.out.size)
    replace K1 := Lib.hid (K1.out.below b4)
    replace OR := Lib.hid (OR.out.of_below b4)
    replace K4 := Lib.hid (K4.out.below b4)
    replace B := Lib.hid (B.out.trans (b4.mono B.out.size))
    clear b4 o4
    go_wp2_with fail
    have AOX_K6 := Lib.hid (OX.out.apart_new)
    have a4 := (Below.refl _ u4).alloc (Nat.le_refl _) (.cells #[.int .i64 h, .int .i64 w, .int .i64 c, .slice (some ⟨gX, 0, none⟩) n n] 35)
    have K6 := Lib.hid (Bk.new u4 35 #[.int .i64 h, .int .i64 w, .int .i64 c, .slice (some ⟨gX, 0, none⟩) n n])
    replace K1 := Lib.hid (K1.out.below a4)
    replace OR := Lib.hid (OR.out.of_below a4)
    replace K4 := Lib.hid (K4.out.below a4)
    replace OX := Lib.hid (OX.out.of_below a4)
    replace B := Lib.hid (B.out.trans (a4.mono B.out.size))
    clear a4
    generalize u4.alloc (.cells #[.int .i64 h, .int .i64 w, .int .i64 c, .slice (some ⟨gX, 0, none⟩) n n] 35) = v4 at K1 OR K4 OX K6 B ⊢
    generalize u4.heap.size = x4 at K6 AOX_K6 ⊢
    refine (flatI h w c gX 0 n n xs x y z r HI.out _ OX.out.rdI HN.out).mono ?_
    rintro e u5 ⟨BY, capY, rfl, o5, b5⟩
    have AOY_K1 := Lib.hid (o5.apart_old K1.out.lt)
    have AOY_K4 := Lib.hid (o5.apart_old K4.out.lt)
    have DOR_OY := Lib.hid (apart2 OR.out o5 (Nat.le_refl _))
    have DOX_OY := Lib.hid (apart2 OX.out o5 (Nat.le_refl _))
    have OY := Lib.hid (o5.base B.out.size)
    replace K1 := Lib.hid (K1.out.below b5)
    replace OR := Lib.hid (OR.out.of_below b5)
    replace K4 := Lib.hid (K4.out.below b5)
    replace OX := Lib.hid (OX.out.of_below b5)
    replace K6 := Lib.hid (K6.out.below b5)
    replace B := Lib.hid (B.out.trans (b5.mono B.out.size))
    clear b5 o5
    have cz0 := fun o => (K4.out.alloc o).cell 0 rfl
    have cz1 := fun o => (K4.out.alloc o).cell 1 rfl
    have cz2 := fun o => (K4.out.alloc o).cell 2 rfl
    have cz3 := fun o => (K4.out.alloc o).cell 3 rfl
    go_wp2_with fail
    clear cz0 cz1 cz2 cz3
    have AOX_K7 := Lib.hid (OX.out.apart_new)
    have AOY_K7 := Lib.hid (OY.out.apart_new)
    have a5 := (Below.refl _ u5).alloc (Nat.le_refl _) (.cells #[.int .i64 x, .int .i64 y, .int .i64 z, .slice BY n capY] 35)
    have K7 := Lib.hid (Bk.new u5 35 #[.int .i64 x, .int .i64 y, .int .i64 z, .slice BY n capY])
    replace K1 := Lib.hid (K1.out.below a5)
    replace OR := Lib.hid (OR.out.of_below a5)
    replace K4 := Lib.hid (K4.out.below a5)
    replace OX := Lib.hid (OX.out.of_below a5)
    replace K6 := Lib.hid (K6.out.below a5)
    replace OY := Lib.hid (OY.out.of_below a5)
    replace B := Lib.hid (B.out.trans (a5.mono B.out.size))
    clear a5
    generalize u5.alloc (.cells #[.int .i64 x, .int .i64 y, .int .i64 z, .slice BY n capY] 35) = v5 at K1 OR K4 OX K6 OY K7 B ⊢
    generalize u5.heap.size = x5 at K7 AOX_K7 AOY_K7 ⊢
    refine (eqTensor_same x y z BY BR n capY capR xs _ OY.out.rdI OR.out.rdI HN.out).mono ?_
    rintro e u6 ⟨rfl, b6⟩
    replace K1 := Lib.hid (K1.out.below b6)
    replace OR := Lib.hid (OR.out.of_below b6)
    replace K4 := Lib.hid (K4.out.below b6)
    replace OX := Lib.hid (OX.out.of_below b6)
    replace K6 := Lib.hid (K6.out.below b6)
    replace OY := Lib.hid (OY.out.of_below b6)
    replace K7 := Lib.hid (K7.out.below b6)
    replace B := Lib.hid (B.out.trans (b6.mono B.out.size))
    clear b6
    have RA := Lib.hid (RW.out.of_below B.out)
    have RX := Lib.hid OX.out.rdI
    obtain ⟨c0, c1, c2, c3⟩ := K1.out.cell4
    obtain ⟨d0, d1, d2, d3⟩ := K6.out.cell4
    go_wp2_with fail
    go_region_held3 (fun w' => w'.cell? ⟨x4, 0, none⟩ = some (.int .i64 h) ∧ w'.cell? ⟨x4, 1, none⟩ = some (.int .i64 w) ∧ w'.cell? ⟨x4, 2, none⟩ = some (.int .i64 c) ∧ w'.cell? ⟨x4, 3, none⟩ = some (.slice (some ⟨gX, 0, none⟩) n n) ∧
        w'.cell? ⟨W.heap.size, 0, none⟩ = some (.int .i64 h) ∧ w'.cell? ⟨W.heap.size, 1, none⟩ = some (.int .i64 w) ∧ w'.cell? ⟨W.heap.size, 2, none⟩ = some (.int .i64 c) ∧ w'.cell? ⟨W.heap.size, 3, none⟩ = some (.slice A n p) ∧ Hid (Below u6.heap.size u6 w'))
      (first
        | exact ⟨d0, d1, d2, d3, c0, c1, c2, c3, Lib.hid (Below.refl _ u6).drew⟩
        | exact keep8 bb ⟨d0, d1, d2, d3, c0, c1, c2, c3, Lib.hid (Below.refl _ u6).drew⟩
        | exact keep8 bb (by assumption))
      (first
        | (go_at_call 20; refine (toTensorL h w c A n p xs _ (RA.out.of_below (Below.refl _ u6).drew) HN.out).mono ?_; rintro e w' ⟨gz, rfl, _, rz, bb⟩; have RZ := Lib.hid rz; have XZ := Lib.hid ((RX.out.of_below (Below.refl _ u6).drew).of_below bb); clear rz)
        | (go_at_call 22; refine (eqTensor_same h w c _ _ n n n xs _ XZ.out RZ.out HN.out).mono ?_; rintro e uf7 ⟨rfl, bb⟩))
    rename_i hh
    have b7 := Hid.out hh.2.2.2.2.2.2.2.2
    clear hh bb RZ XZ c0 c1 c2 c3 d0 d1 d2 d3
    clear RA RX
    replace K1 := Lib.hid (K1.out.below b7)
    replace OR := Lib.hid (OR.out.of_below b7)
    replace K4 := Lib.hid (K4.out.below b7)
    replace OX := Lib.hid (OX.out.of_below b7)
    replace K6 := Lib.hid (K6.out.below b7)
    replace OY := Lib.hid (OY.out.of_below b7)
    replace K7 := Lib.hid (K7.out.below b7)
    replace B := Lib.hid (B.out.trans (b7.mono B.out.size))
    clear b7
    obtain ⟨c0, c1, c2, c3⟩ := K6.out.cell4
    go_wp2_with fail
    clear c0 c1 c2 c3
    clear K6
    obtain ⟨m8, s8, l8⟩ := OX.out.spot B.out.size
    refine (markTensor_own h w c (some ⟨gX, 0, none⟩) n n W.heap.size m8 xs 1 _ OX.out s8.1 HN.out (by decide) (by decide)).mono ?_
    rintro e u8 ⟨rfl, o8, b8⟩
    replace K1 := Lib.hid (K1.out.marked b8 s8 AOX_K1.out)
    replace OR := Lib.hid (OR.out.marked b8 s8 DOR_OX.out.symm)
    replace K4 := Lib.hid (K4.out.marked b8 s8 AOX_K4.out)
    replace OY := Lib.hid (OY.out.marked b8 s8 DOX_OY.out)
    replace K7 := Lib.hid (K7.out.marked b8 s8 AOX_K7.out)
    replace B := Lib.hid (below_marked B.out b8 l8)
    replace OX := Lib.hid o8
    clear b8 s8 l8 o8
    clear OX
    obtain ⟨c0, c1, c2, c3⟩ := K7.out.cell4
    obtain ⟨d0, d1, d2, d3⟩ := K4.out.cell4
    go_wp2_with fail
    clear c0 c1 c2 c3 d0 d1 d2 d3
    refine (eqTensor_same x y z BY BR n capY capR xs _ OY.out.rdI OR.out.rdI HN.out).mono ?_
    rintro e u9 ⟨rfl, b9⟩
    replace K1 := Lib.hid (K1.out.below b9)
    replace OR := Lib.hid (OR.out.of_below b9)
    replace K4 := Lib.hid (K4.out.below b9)
    replace OY := Lib.hid (OY.out.of_below b9)
    replace K7 := Lib.hid (K7.out.below b9)
    replace B := Lib.hid (B.out.trans (b9.mono B.out.size))
    clear b9
    obtain ⟨c0, c1, c2, c3⟩ := K7.out.cell4
    go_wp2_with fail
    clear c0 c1 c2 c3
    obtain ⟨m10, s10, l10⟩ := OY.out.spot B.out.size
    refine (markTensor_own x y z BY n capY W.heap.size m10 xs 1 _ OY.out s10.1 HN.out (by decide) (by decide)).mono ?_
    rintro e u10 ⟨rfl, o10, b10⟩
    replace K1 := Lib.hid (K1.out.marked b10 s10 AOY_K1.out)
    replace OR := Lib.hid (OR.out.marked b10 s10 DOR_OY.out.symm)
    replace K4 := Lib.hid (K4.out.marked b10 s10 AOY_K4.out)
    replace K7 := Lib.hid (K7.out.marked b10 s10 AOY_K7.out)
    replace B := Lib.hid (below_marked B.out b10 l10)
    replace OY := Lib.hid o10
    clear b10 s10 l10 o10
    obtain ⟨c0, c1, c2, c3⟩ := K7.out.cell4
    go_wp2_with fail
    clear c0 c1 c2 c3
    refine (heldTensor_own x y z BY n capY W.heap.size 1 _ OY.out HN.out (by decide) (by decide)).mono ?_
    rintro e u11 ⟨rfl, b11⟩
    replace K1 := Lib.hid (K1.out.below b11)
    replace OR := Lib.hid (OR.out.of_below b11)
    replace K4 := Lib.hid (K4.out.below b11)
    replace K7 := Lib.hid (K7.out.below b11)
    replace OY := Lib.hid (OY.out.of_below b11)
    replace B := Lib.hid (B.out.trans (b11.mono B.out.size))
    clear b11
    obtain ⟨c0, c1, c2, c3⟩ := K1.out.cell4
    go_wp2_with fail
    clear c0 c1 c2 c3
    refine (toTensorL h w c A n p xs _ (RW.out.of_below B.out) HN.out).mono ?_
    rintro e u12 ⟨g12, rfl, _, r12, b12⟩
    replace K1 := Lib.hid (K1.out.below b12)
    replace OR := Lib.hid (OR.out.of_below b12)
    replace K4 := Lib.hid (K4.out.below b12)
    replace K7 := Lib.hid (K7.out.below b12)
    replace OY := Lib.hid (OY.out.of_below b12)
    replace B := Lib.hid (B.out.trans (b12.mono B.out.size))
    have RZ := Lib.hid r12
    clear b12 r12
    go_wp2_with fail
    refine (flatI h w c g12 0 n n xs x y z r HI.out _ RZ.out HN.out).mono ?_
    rintro e u13 ⟨BZ, capZ, rfl, o13, b13⟩
    have OZ := Lib.hid (o13.base B.out.size)
    replace K1 := Lib.hid (K1.out.below b13)
    replace OR := Lib.hid (OR.out.of_below b13)
    replace K4 := Lib.hid (K4.out.below b13)
    replace K7 := Lib.hid (K7.out.below b13)
    replace OY := Lib.hid (OY.out.of_below b13)
    replace RZ := Lib.hid (RZ.out.of_below b13)
    replace B := Lib.hid (B.out.trans (b13.mono B.out.size))
    clear b13 o13
    clear RZ
    have cz0 := fun o => (K4.out.alloc o).cell 0 rfl
    have cz1 := fun o => (K4.out.alloc o).cell 1 rfl
    have cz2 := fun o => (K4.out.alloc o).cell 2 rfl
    have cz3 := fun o => (K4.out.alloc o).cell 3 rfl
    go_wp2_with fail
    clear cz0 cz1 cz2 cz3
    have a13 := (Below.refl _ u13).alloc (Nat.le_refl _) (.cells #[.int .i64 x, .int .i64 y, .int .i64 z, .slice BZ n capZ] 35)
    have K12 := Lib.hid (Bk.new u13 35 #[.int .i64 x, .int .i64 y, .int .i64 z, .slice BZ n capZ])
    replace K1 := Lib.hid (K1.out.below a13)
    replace OR := Lib.hid (OR.out.of_below a13)
    replace K4 := Lib.hid (K4.out.below a13)
    replace K7 := Lib.hid (K7.out.below a13)
    replace OY := Lib.hid (OY.out.of_below a13)
    replace OZ := Lib.hid (OZ.out.of_below a13)
    replace B := Lib.hid (B.out.trans (a13.mono B.out.size))
    clear a13
    generalize u13.alloc (.cells #[.int .i64 x, .int .i64 y, .int .i64 z, .slice BZ n capZ] 35) = v13 at K1 OR K4 K7 OY OZ K12 B ⊢
    generalize u13.heap.size = x13 at K12 ⊢
    refine (eqTensor_same x y z BZ BR n capZ capR xs _ OZ.out.rdI OR.out.rdI HN.out).mono ?_
    rintro e u14 ⟨rfl, b14⟩
    replace K1 := Lib.hid (K1.out.below b14)
    replace OR := Lib.hid (OR.out.of_below b14)
    replace K4 := Lib.hid (K4.out.below b14)
    replace K7 := Lib.hid (K7.out.below b14)
    replace OY := Lib.hid (OY.out.of_below b14)
    replace OZ := Lib.hid (OZ.out.of_below b14)
    replace K12 := Lib.hid (K12.out.below b14)
    replace B := Lib.hid (B.out.trans (b14.mono B.out.size))
    clear b14
    obtain ⟨c0, c1, c2, c3⟩ := K7.out.cell4
    go_wp2_with fail
    clear c0 c1 c2 c3
    refine (heldTensor_own x y z BY n capY W.heap.size 1 _ OY.out HN.out (by decide) (by decide)).mono ?_
    rintro e u15 ⟨rfl, b15⟩
    replace K1 := Lib.hid (K1.out.below b15)
    replace OR := Lib.hid (OR.out.of_below b15)
    replace K4 := Lib.hid (K4.out.below b15)
    replace K7 := Lib.hid (K7.out.below b15)
    replace OY := Lib.hid (OY.out.of_below b15)
    replace OZ := Lib.hid (OZ.out.of_below b15)
    replace K12 := Lib.hid (K12.out.below b15)
    replace B := Lib.hid (B.out.trans (b15.mono B.out.size))
    clear b15
    go_wp2
    go_ret
    exact ⟨rfl, B.out⟩
  · have hn2 : (1048576 : Int) < (n : Int) := by omega
    clear hn
    go_enter Try.func10, Try.ntmps10
    go_wp2_with fail
    refine (szTensor_no h w c A n p 1048576 _ hn2 (by omega) hmax).mono ?_
    rintro e u1 ⟨rfl, b1⟩
    have BF := Lib.hid (B.out.trans (b1.mono B.out.size))
    clear b1
    go_wp2
    go_ret
    exact ⟨rfl, BF.out⟩
end Qt
end Go.Proofs.Ytgbpomjdcglfmaa
