/- The law of FillOf returns true and writes nothing that was there. -/
import Derived.Test.YtgbpomjdcglfmaaFillI
import Derived.Test.YtgbpomjdcglfmaaTenLaws
import Derived.Test.YtgbpomjdcglfmaaOpen
namespace Go.Proofs.Ytgbpomjdcglfmaa
open Go.RowKit Go.Sort
namespace Qt

def FillIs (h w c v : Int) (b : Bool) (x y z : Int) (n : Nat) (xs : List Int) : Prop :=
  shOk h w c = b ∧ (if b then h else 0) = x ∧ (if b then w else 0) = y ∧ (if b then c else 0) = z ∧ (szOf h w c).toNat = n ∧ List.replicate n (sat8 v) = xs
theorem fillIs (h w c v : Int) : ∃ b x y z n xs, FillIs h w c v b x y z n xs := ⟨_, _, _, _, _, _, rfl, rfl, rfl, rfl, rfl, rfl⟩
theorem fillS (h w c v : Int) (b : Bool) (x y z : Int) (n : Nat) (xs : List Int) (hi : FillIs h w c v b x y z n xs) (W : World) :
    Calls Try.prog 27 #[.agg #[.int .i64 h, .int .i64 w, .int .i64 c], .int .i64 v] W (ReC W x y z b n xs) := by
  obtain ⟨hb, rfl, rfl, rfl, rfl, rfl⟩ := hi
  cases b with
  | true => exact fillS_yes h w c v hb W
  | false => exact fillS_no h w c v hb W
theorem fillI (h w c v : Int) (b : Bool) (x y z : Int) (n : Nat) (xs : List Int) (hi : FillIs h w c v b x y z n xs) (W : World) :
    Calls Try.prog 28 #[.agg #[.int .i64 h, .int .i64 w, .int .i64 c], .int .i64 v] W (ReC W x y z b n xs) := by
  obtain ⟨hb, rfl, rfl, rfl, rfl, rfl⟩ := hi
  cases b with
  | true => exact fillI_yes h w c v hb W
  | false => exact fillI_no h w c v hb W

set_option maxRecDepth 100000 in
theorem fillLaw (h w c v : Int) (W : World) :
    Calls Try.prog 8 #[.agg #[.int .i64 h, .int .i64 w, .int .i64 c], .int .i64 v] W fun e W' => e = .returned (.bool true) ∧ Below W.heap.size W W' := by
  have K1 := Lib.hid (Bk.new W 23 #[.int .i64 h, .int .i64 w, .int .i64 c])
  have b0 := (Below.refl _ W).alloc (Nat.le_refl _) (.cells #[.int .i64 h, .int .i64 w, .int .i64 c] 23)
  have B := Lib.hid b0
  clear b0
  obtain ⟨r, x, y, z, n, xs, hi⟩ := fillIs h w c v
  have HI := Lib.hid hi
  have HN : Hid (n ≤ 1048576) := Lib.hid (by have := hi.2.2.2.2.1; have := szOf_bd h w c; omega)
  have hn : (n : Int) ≤ 1048576 := by have := HN.out; omega
  have hn0 : (0 : Int) ≤ n := Int.natCast_nonneg n
  have hrr : (r != r) = false := by simp
  clear hi
  go_enter Try.func8, Try.ntmps8
  go_wp2_with fail
  generalize W.alloc (.cells #[.int .i64 h, .int .i64 w, .int .i64 c] 23) = v0 at K1 B ⊢
  refine (toShapeL h w c _).mono ?_
  rintro e u1 ⟨rfl, b1⟩
  replace K1 := Lib.hid (K1.out.below b1)
  replace B := Lib.hid (B.out.trans (b1.mono B.out.size))
  clear b1
  go_wp2_with fail
  refine (fillS h w c v r x y z n xs HI.out _).mono ?_
  rintro e u2 ⟨BR, capR, rfl, o2, b2⟩
  have OR := Lib.hid (o2.base B.out.size)
  replace K1 := Lib.hid (K1.out.below b2)
  replace B := Lib.hid (B.out.trans (b2.mono B.out.size))
  clear b2 o2
  have cz0 := fun o => (K1.out.alloc o).cell 0 rfl
  have cz1 := fun o => (K1.out.alloc o).cell 1 rfl
  have cz2 := fun o => (K1.out.alloc o).cell 2 rfl
  go_wp2_with fail
  clear cz0 cz1 cz2
  have a2 := (Below.refl _ u2).alloc (Nat.le_refl _) (.cells #[.int .i64 x, .int .i64 y, .int .i64 z, .slice BR n capR] 35)
  have K4 := Lib.hid (Bk.new u2 35 #[.int .i64 x, .int .i64 y, .int .i64 z, .slice BR n capR])
  replace K1 := Lib.hid (K1.out.below a2)
  replace OR := Lib.hid (OR.out.of_below a2)
  replace B := Lib.hid (B.out.trans (a2.mono B.out.size))
  clear a2
  generalize u2.alloc (.cells #[.int .i64 x, .int .i64 y, .int .i64 z, .slice BR n capR] 35) = v2 at K1 OR K4 B ⊢
  generalize u2.heap.size = x2 at K4 ⊢
  refine (toShapeL h w c _).mono ?_
  rintro e u3 ⟨rfl, b3⟩
  replace K1 := Lib.hid (K1.out.below b3)
  replace OR := Lib.hid (OR.out.of_below b3)
  replace K4 := Lib.hid (K4.out.below b3)
  replace B := Lib.hid (B.out.trans (b3.mono B.out.size))
  clear b3
  go_wp2_with fail
  refine (fillI h w c v r x y z n xs HI.out _).mono ?_
  rintro e u4 ⟨BY, capY, rfl, o4, b4⟩
  have AOY_K1 := Lib.hid (o4.apart_old K1.out.lt)
  have AOY_K4 := Lib.hid (o4.apart_old K4.out.lt)
  have DOR_OY := Lib.hid (apart2 OR.out o4 (Nat.le_refl _))
  have OY := Lib.hid (o4.base B.out.size)
  replace K1 := Lib.hid (K1.out.below b4)
  replace OR := Lib.hid (OR.out.of_below b4)
  replace K4 := Lib.hid (K4.out.below b4)
  replace B := Lib.hid (B.out.trans (b4.mono B.out.size))
  clear b4 o4
  have cz0 := fun o => (K4.out.alloc o).cell 0 rfl
  have cz1 := fun o => (K4.out.alloc o).cell 1 rfl
  have cz2 := fun o => (K4.out.alloc o).cell 2 rfl
  have cz3 := fun o => (K4.out.alloc o).cell 3 rfl
  go_wp2_with fail
  clear cz0 cz1 cz2 cz3
  have AOY_K7 := Lib.hid (OY.out.apart_new)
  have a4 := (Below.refl _ u4).alloc (Nat.le_refl _) (.cells #[.int .i64 x, .int .i64 y, .int .i64 z, .slice BY n capY] 35)
  have K7 := Lib.hid (Bk.new u4 35 #[.int .i64 x, .int .i64 y, .int .i64 z, .slice BY n capY])
  replace K1 := Lib.hid (K1.out.below a4)
  replace OR := Lib.hid (OR.out.of_below a4)
  replace K4 := Lib.hid (K4.out.below a4)
  replace OY := Lib.hid (OY.out.of_below a4)
  replace B := Lib.hid (B.out.trans (a4.mono B.out.size))
  clear a4
  generalize u4.alloc (.cells #[.int .i64 x, .int .i64 y, .int .i64 z, .slice BY n capY] 35) = v4 at K1 OR K4 OY K7 B ⊢
  generalize u4.heap.size = x4 at K7 AOY_K7 ⊢
  refine (eqTensor_same x y z BY BR n capY capR xs _ OY.out.rdI OR.out.rdI HN.out).mono ?_
  rintro e u5 ⟨rfl, b5⟩
  replace K1 := Lib.hid (K1.out.below b5)
  replace OR := Lib.hid (OR.out.of_below b5)
  replace K4 := Lib.hid (K4.out.below b5)
  replace OY := Lib.hid (OY.out.of_below b5)
  replace K7 := Lib.hid (K7.out.below b5)
  replace B := Lib.hid (B.out.trans (b5.mono B.out.size))
  clear b5
  obtain ⟨c0, c1, c2, c3⟩ := K7.out.cell4
  go_wp2_with fail
  clear c0 c1 c2 c3
  obtain ⟨m6, s6, l6⟩ := OY.out.spot B.out.size
  refine (markTensor_own x y z BY n capY W.heap.size m6 xs 1 _ OY.out s6.1 HN.out (by decide) (by decide)).mono ?_
  rintro e u6 ⟨rfl, o6, b6⟩
  replace K1 := Lib.hid (K1.out.marked b6 s6 AOY_K1.out)
  replace OR := Lib.hid (OR.out.marked b6 s6 DOR_OY.out.symm)
  replace K4 := Lib.hid (K4.out.marked b6 s6 AOY_K4.out)
  replace K7 := Lib.hid (K7.out.marked b6 s6 AOY_K7.out)
  replace B := Lib.hid (below_marked B.out b6 l6)
  replace OY := Lib.hid o6
  clear b6 s6 l6 o6
  obtain ⟨c0, c1, c2, c3⟩ := K7.out.cell4
  go_wp2_with fail
  clear c0 c1 c2 c3
  refine (heldTensor_own x y z BY n capY W.heap.size 1 _ OY.out HN.out (by decide) (by decide)).mono ?_
  rintro e u7 ⟨rfl, b7⟩
  replace K1 := Lib.hid (K1.out.below b7)
  replace OR := Lib.hid (OR.out.of_below b7)
  replace K4 := Lib.hid (K4.out.below b7)
  replace K7 := Lib.hid (K7.out.below b7)
  replace OY := Lib.hid (OY.out.of_below b7)
  replace B := Lib.hid (B.out.trans (b7.mono B.out.size))
  clear b7
  obtain ⟨c0, c1, c2⟩ := K1.out.cell3
  go_wp2_with fail
  clear c0 c1 c2
  refine (toShapeL h w c _).mono ?_
  rintro e u8 ⟨rfl, b8⟩
  replace K1 := Lib.hid (K1.out.below b8)
  replace OR := Lib.hid (OR.out.of_below b8)
  replace K4 := Lib.hid (K4.out.below b8)
  replace K7 := Lib.hid (K7.out.below b8)
  replace OY := Lib.hid (OY.out.of_below b8)
  replace B := Lib.hid (B.out.trans (b8.mono B.out.size))
  clear b8
  go_wp2_with fail
  refine (fillI h w c v r x y z n xs HI.out _).mono ?_
  rintro e u9 ⟨BZ, capZ, rfl, o9, b9⟩
  have OZ := Lib.hid (o9.base B.out.size)
  replace K1 := Lib.hid (K1.out.below b9)
  replace OR := Lib.hid (OR.out.of_below b9)
  replace K4 := Lib.hid (K4.out.below b9)
  replace K7 := Lib.hid (K7.out.below b9)
  replace OY := Lib.hid (OY.out.of_below b9)
  replace B := Lib.hid (B.out.trans (b9.mono B.out.size))
  clear b9 o9
  have cz0 := fun o => (K4.out.alloc o).cell 0 rfl
  have cz1 := fun o => (K4.out.alloc o).cell 1 rfl
  have cz2 := fun o => (K4.out.alloc o).cell 2 rfl
  have cz3 := fun o => (K4.out.alloc o).cell 3 rfl
  go_wp2_with fail
  clear cz0 cz1 cz2 cz3
  have a9 := (Below.refl _ u9).alloc (Nat.le_refl _) (.cells #[.int .i64 x, .int .i64 y, .int .i64 z, .slice BZ n capZ] 35)
  have K12 := Lib.hid (Bk.new u9 35 #[.int .i64 x, .int .i64 y, .int .i64 z, .slice BZ n capZ])
  replace K1 := Lib.hid (K1.out.below a9)
  replace OR := Lib.hid (OR.out.of_below a9)
  replace K4 := Lib.hid (K4.out.below a9)
  replace K7 := Lib.hid (K7.out.below a9)
  replace OY := Lib.hid (OY.out.of_below a9)
  replace OZ := Lib.hid (OZ.out.of_below a9)
  replace B := Lib.hid (B.out.trans (a9.mono B.out.size))
  clear a9
  generalize u9.alloc (.cells #[.int .i64 x, .int .i64 y, .int .i64 z, .slice BZ n capZ] 35) = v9 at K1 OR K4 K7 OY OZ K12 B ⊢
  generalize u9.heap.size = x9 at K12 ⊢
  refine (eqTensor_same x y z BZ BR n capZ capR xs _ OZ.out.rdI OR.out.rdI HN.out).mono ?_
  rintro e u10 ⟨rfl, b10⟩
  replace K1 := Lib.hid (K1.out.below b10)
  replace OR := Lib.hid (OR.out.of_below b10)
  replace K4 := Lib.hid (K4.out.below b10)
  replace K7 := Lib.hid (K7.out.below b10)
  replace OY := Lib.hid (OY.out.of_below b10)
  replace OZ := Lib.hid (OZ.out.of_below b10)
  replace K12 := Lib.hid (K12.out.below b10)
  replace B := Lib.hid (B.out.trans (b10.mono B.out.size))
  clear b10
  obtain ⟨c0, c1, c2, c3⟩ := K7.out.cell4
  go_wp2_with fail
  clear c0 c1 c2 c3
  refine (heldTensor_own x y z BY n capY W.heap.size 1 _ OY.out HN.out (by decide) (by decide)).mono ?_
  rintro e u11 ⟨rfl, b11⟩
  replace K1 := Lib.hid (K1.out.below b11)
  replace OR := Lib.hid (OR.out.of_below b11)
  replace K4 := Lib.hid (K4.out.below b11)
  replace K7 := Lib.hid (K7.out.below b11)
  replace OY := Lib.hid (OY.out.of_below b11)
  replace OZ := Lib.hid (OZ.out.of_below b11)
  replace K12 := Lib.hid (K12.out.below b11)
  replace B := Lib.hid (B.out.trans (b11.mono B.out.size))
  clear b11
  go_wp2
  go_ret
  exact ⟨rfl, B.out⟩
end Qt
end Go.Proofs.Ytgbpomjdcglfmaa
