/- The laws of TensorOk and ItemAt return true and write nothing that was there, when the slice reads as a list. -/
import Derived.Test.YtgbpomjdcglfmaaBlockUse
import Derived.Test.YtgbpomjdcglfmaaOpen
import Derived.Deep.RegionHeld3
namespace Go.Proofs.Ytgbpomjdcglfmaa
open Go.RowKit Go.Sort
namespace Qt

theorem keep8 {v w1 w2 : World} {g g2 : Nat} {x y z u x' y' z' u' : Value} (hb : Below w1.heap.size w1 w2)
    (h : w1.cell? ⟨g, 0, none⟩ = some x ∧ w1.cell? ⟨g, 1, none⟩ = some y ∧ w1.cell? ⟨g, 2, none⟩ = some z ∧ w1.cell? ⟨g, 3, none⟩ = some u ∧
      w1.cell? ⟨g2, 0, none⟩ = some x' ∧ w1.cell? ⟨g2, 1, none⟩ = some y' ∧ w1.cell? ⟨g2, 2, none⟩ = some z' ∧ w1.cell? ⟨g2, 3, none⟩ = some u' ∧ Hid (Below v.heap.size v w1)) :
    w2.cell? ⟨g, 0, none⟩ = some x ∧ w2.cell? ⟨g, 1, none⟩ = some y ∧ w2.cell? ⟨g, 2, none⟩ = some z ∧ w2.cell? ⟨g, 3, none⟩ = some u ∧
      w2.cell? ⟨g2, 0, none⟩ = some x' ∧ w2.cell? ⟨g2, 1, none⟩ = some y' ∧ w2.cell? ⟨g2, 2, none⟩ = some z' ∧ w2.cell? ⟨g2, 3, none⟩ = some u' ∧ Hid (Below v.heap.size v w2) :=
  ⟨keep hb h.1, keep hb h.2.1, keep hb h.2.2.1, keep hb h.2.2.2.1, keep hb h.2.2.2.2.1, keep hb h.2.2.2.2.2.1, keep hb h.2.2.2.2.2.2.1, keep hb h.2.2.2.2.2.2.2.1, keepB hb h.2.2.2.2.2.2.2.2⟩

theorem tensorOkLaw (h w c : Int) (A : Option Addr) (n p : Nat) (xs : List Int) (W : World) (hr : RdT W A n xs) :
    Calls Try.prog 5 #[.agg #[.int .i64 h, .int .i64 w, .int .i64 c, .slice A n p]] W fun e W' => e = .returned (.bool true) ∧ Below W.heap.size W W' := by
  obtain ⟨hr, hmax⟩ := hr
  have K1 := Lib.hid (Bk.new W 31 #[.int .i64 h, .int .i64 w, .int .i64 c, .slice A n p])
  have b0 := (Below.refl _ W).alloc (Nat.le_refl _) (.cells #[.int .i64 h, .int .i64 w, .int .i64 c, .slice A n p] 31)
  have RA := Lib.hid (hr.of_below b0)
  have B := Lib.hid b0
  clear hr b0
  by_cases hn : (n : Int) ≤ 1048576
  · have HN : Hid (n ≤ 1048576) := Lib.hid (by omega)
    obtain ⟨b, hb⟩ : ∃ b, tOk h w c xs = b := ⟨_, rfl⟩
    have HB := Lib.hid hb
    clear hb
    have hn0 : (0 : Int) ≤ n := Int.natCast_nonneg n
    clear hmax
    go_enter Try.func5, Try.ntmps5
    go_wp2_with fail
    generalize W.alloc (.cells #[.int .i64 h, .int .i64 w, .int .i64 c, .slice A n p] 31) = v at K1 RA B ⊢
    refine (szTensor_yes h w c A n p 1048576 _ hn (by omega)).mono ?_
    rintro e u1 ⟨rfl, b1⟩
    replace K1 := Lib.hid (K1.out.below b1)
    replace RA := Lib.hid (RA.out.of_below b1)
    replace B := Lib.hid (B.out.trans (b1.mono B.out.size))
    clear b1
    obtain ⟨c0, c1, c2, c3⟩ := K1.out.cell4
    go_wp2_with fail
    clear c0 c1 c2 c3
    refine (toTensorL h w c A n p xs _ RA.out HN.out).mono ?_
    rintro e u2 ⟨g2, rfl, _, r2, b2⟩
    replace K1 := Lib.hid (K1.out.below b2)
    replace RA := Lib.hid (RA.out.of_below b2)
    replace B := Lib.hid (B.out.trans (b2.mono B.out.size))
    have R2 := Lib.hid r2
    clear b2 r2
    go_wp2_with fail
    refine (tensorOkS h w c _ n _ xs b HB.out _ R2.out HN.out).mono ?_
    rintro e u3 ⟨rfl, b3⟩
    replace K1 := Lib.hid (K1.out.below b3)
    replace RA := Lib.hid (RA.out.of_below b3)
    replace R2 := Lib.hid (R2.out.of_below b3)
    replace B := Lib.hid (B.out.trans (b3.mono B.out.size))
    clear b3
    clear R2
    obtain ⟨c0, c1, c2, c3⟩ := K1.out.cell4
    go_wp2_with fail
    clear c0 c1 c2 c3
    refine (toTensorL h w c A n p xs _ RA.out HN.out).mono ?_
    rintro e u4 ⟨g4, rfl, _, r4, b4⟩
    replace K1 := Lib.hid (K1.out.below b4)
    replace RA := Lib.hid (RA.out.of_below b4)
    replace B := Lib.hid (B.out.trans (b4.mono B.out.size))
    have RX := Lib.hid r4
    clear b4 r4
    go_wp2_with fail
    have a4 := (Below.refl _ u4).alloc (Nat.le_refl _) (.cells #[.int .i64 h, .int .i64 w, .int .i64 c, .slice (some ⟨g4, 0, none⟩) n n] 35)
    have K5 := Lib.hid (Bk.new u4 35 #[.int .i64 h, .int .i64 w, .int .i64 c, .slice (some ⟨g4, 0, none⟩) n n])
    replace K1 := Lib.hid (K1.out.below a4)
    replace RA := Lib.hid (RA.out.of_below a4)
    replace RX := Lib.hid (RX.out.of_below a4)
    replace B := Lib.hid (B.out.trans (a4.mono B.out.size))
    clear a4
    generalize u4.alloc (.cells #[.int .i64 h, .int .i64 w, .int .i64 c, .slice (some ⟨g4, 0, none⟩) n n] 35) = v4 at K1 RA RX K5 B ⊢
    generalize u4.heap.size = x4 at K5 ⊢
    refine (tensorOkI h w c _ n n xs b HB.out _ RX.out HN.out).mono ?_
    rintro e u5 ⟨rfl, b5⟩
    replace K1 := Lib.hid (K1.out.below b5)
    replace RA := Lib.hid (RA.out.of_below b5)
    replace RX := Lib.hid (RX.out.of_below b5)
    replace K5 := Lib.hid (K5.out.below b5)
    replace B := Lib.hid (B.out.trans (b5.mono B.out.size))
    clear b5
    obtain ⟨c0, c1, c2, c3⟩ := K1.out.cell4
    obtain ⟨d0, d1, d2, d3⟩ := K5.out.cell4
    go_wp2_with fail
    go_region_held3 (fun w' => w'.cell? ⟨x4, 0, none⟩ = some (.int .i64 h) ∧ w'.cell? ⟨x4, 1, none⟩ = some (.int .i64 w) ∧ w'.cell? ⟨x4, 2, none⟩ = some (.int .i64 c) ∧ w'.cell? ⟨x4, 3, none⟩ = some (.slice (some ⟨g4, 0, none⟩) n n) ∧
        w'.cell? ⟨W.heap.size, 0, none⟩ = some (.int .i64 h) ∧ w'.cell? ⟨W.heap.size, 1, none⟩ = some (.int .i64 w) ∧ w'.cell? ⟨W.heap.size, 2, none⟩ = some (.int .i64 c) ∧ w'.cell? ⟨W.heap.size, 3, none⟩ = some (.slice A n p) ∧ Hid (Below u5.heap.size u5 w'))
      (first
        | exact ⟨d0, d1, d2, d3, c0, c1, c2, c3, Lib.hid (Below.refl _ u5).drew⟩
        | exact keep8 bb ⟨d0, d1, d2, d3, c0, c1, c2, c3, Lib.hid (Below.refl _ u5).drew⟩
        | exact keep8 bb (by assumption))
      (first
        | (go_at_call 20; refine (toTensorL h w c A n p xs _ (RA.out.of_below (Below.refl _ u5).drew) HN.out).mono ?_; rintro e w' ⟨gz, rfl, _, rz, bb⟩; have RZ := Lib.hid rz; have XZ := Lib.hid ((RX.out.of_below (Below.refl _ u5).drew).of_below bb); clear rz)
        | (go_at_call 22; refine (eqTensor_same h w c _ _ n n n xs _ XZ.out RZ.out HN.out).mono ?_; rintro e uf6 ⟨rfl, bb⟩))
    rename_i hh
    have b6 := Hid.out hh.2.2.2.2.2.2.2.2
    clear hh bb RZ XZ c0 c1 c2 c3 d0 d1 d2 d3
    have BF := Lib.hid (B.out.trans (b6.mono B.out.size))
    clear b6
    go_wp2
    go_ret
    exact ⟨rfl, BF.out⟩
  · have hn2 : (1048576 : Int) < (n : Int) := by omega
    clear hn
    go_enter Try.func5, Try.ntmps5
    go_wp2_with fail
    refine (szTensor_no h w c A n p 1048576 _ hn2 (by omega) hmax).mono ?_
    rintro e u1 ⟨rfl, b1⟩
    have BF := Lib.hid (B.out.trans (b1.mono B.out.size))
    clear b1
    go_wp2
    go_ret
    exact ⟨rfl, BF.out⟩

theorem itemAtLaw (h w c : Int) (A : Option Addr) (n p : Nat) (xs : List Int) (i j k : Int) (W : World) (hr : RdT W A n xs) :
    Calls Try.prog 7 #[.agg #[.int .i64 h, .int .i64 w, .int .i64 c, .slice A n p], .int .i64 i, .int .i64 j, .int .i64 k] W fun e W' => e = .returned (.bool true) ∧ Below W.heap.size W W' := by
  obtain ⟨hr, hmax⟩ := hr
  have K1 := Lib.hid (Bk.new W 31 #[.int .i64 h, .int .i64 w, .int .i64 c, .slice A n p])
  have b0 := (Below.refl _ W).alloc (Nat.le_refl _) (.cells #[.int .i64 h, .int .i64 w, .int .i64 c, .slice A n p] 31)
  have RA := Lib.hid (hr.of_below b0)
  have B := Lib.hid b0
  clear hr b0
  by_cases hn : (n : Int) ≤ 1048576
  · have HN : Hid (n ≤ 1048576) := Lib.hid (by omega)
    have hn0 : (0 : Int) ≤ n := Int.natCast_nonneg n
    clear hmax
    go_enter Try.func7, Try.ntmps7
    go_wp2_with fail
    generalize W.alloc (.cells #[.int .i64 h, .int .i64 w, .int .i64 c, .slice A n p] 31) = v at K1 RA B ⊢
    refine (szTensor_yes h w c A n p 1048576 _ hn (by omega)).mono ?_
    rintro e u1 ⟨rfl, b1⟩
    replace K1 := Lib.hid (K1.out.below b1)
    replace RA := Lib.hid (RA.out.of_below b1)
    replace B := Lib.hid (B.out.trans (b1.mono B.out.size))
    clear b1
    obtain ⟨c0, c1, c2, c3⟩ := K1.out.cell4
    go_wp2_with fail
    clear c0 c1 c2 c3
    refine (toTensorL h w c A n p xs _ RA.out HN.out).mono ?_
    rintro e u2 ⟨g2, rfl, _, r2, b2⟩
    replace K1 := Lib.hid (K1.out.below b2)
    replace RA := Lib.hid (RA.out.of_below b2)
    replace B := Lib.hid (B.out.trans (b2.mono B.out.size))
    have R2 := Lib.hid r2
    clear b2 r2
    go_wp2_with fail
    refine (itemAtS h w c i j k _ n _ xs _ R2.out HN.out).mono ?_
    rintro e u3 ⟨rfl, b3⟩
    replace K1 := Lib.hid (K1.out.below b3)
    replace RA := Lib.hid (RA.out.of_below b3)
    replace R2 := Lib.hid (R2.out.of_below b3)
    replace B := Lib.hid (B.out.trans (b3.mono B.out.size))
    clear b3
    clear R2
    obtain ⟨c0, c1, c2, c3⟩ := K1.out.cell4
    go_wp2_with fail
    clear c0 c1 c2 c3
    refine (toTensorL h w c A n p xs _ RA.out HN.out).mono ?_
    rintro e u4 ⟨g4, rfl, _, r4, b4⟩
    replace K1 := Lib.hid (K1.out.below b4)
    replace RA := Lib.hid (RA.out.of_below b4)
    replace B := Lib.hid (B.out.trans (b4.mono B.out.size))
    have RX := Lib.hid r4
    clear b4 r4
    go_wp2_with fail
    have a4 := (Below.refl _ u4).alloc (Nat.le_refl _) (.cells #[.int .i64 h, .int .i64 w, .int .i64 c, .slice (some ⟨g4, 0, none⟩) n n] 35)
    have K5 := Lib.hid (Bk.new u4 35 #[.int .i64 h, .int .i64 w, .int .i64 c, .slice (some ⟨g4, 0, none⟩) n n])
    replace K1 := Lib.hid (K1.out.below a4)
    replace RA := Lib.hid (RA.out.of_below a4)
    replace RX := Lib.hid (RX.out.of_below a4)
    replace B := Lib.hid (B.out.trans (a4.mono B.out.size))
    clear a4
    generalize u4.alloc (.cells #[.int .i64 h, .int .i64 w, .int .i64 c, .slice (some ⟨g4, 0, none⟩) n n] 35) = v4 at K1 RA RX K5 B ⊢
    generalize u4.heap.size = x4 at K5 ⊢
    refine (itemAtI h w c i j k _ n n xs _ RX.out HN.out).mono ?_
    rintro e u5 ⟨rfl, b5⟩
    replace K1 := Lib.hid (K1.out.below b5)
    replace RA := Lib.hid (RA.out.of_below b5)
    replace RX := Lib.hid (RX.out.of_below b5)
    replace K5 := Lib.hid (K5.out.below b5)
    replace B := Lib.hid (B.out.trans (b5.mono B.out.size))
    clear b5
    obtain ⟨c0, c1, c2, c3⟩ := K1.out.cell4
    obtain ⟨d0, d1, d2, d3⟩ := K5.out.cell4
    go_wp2_with fail
    go_region_held3 (fun w' => w'.cell? ⟨x4, 0, none⟩ = some (.int .i64 h) ∧ w'.cell? ⟨x4, 1, none⟩ = some (.int .i64 w) ∧ w'.cell? ⟨x4, 2, none⟩ = some (.int .i64 c) ∧ w'.cell? ⟨x4, 3, none⟩ = some (.slice (some ⟨g4, 0, none⟩) n n) ∧
        w'.cell? ⟨W.heap.size, 0, none⟩ = some (.int .i64 h) ∧ w'.cell? ⟨W.heap.size, 1, none⟩ = some (.int .i64 w) ∧ w'.cell? ⟨W.heap.size, 2, none⟩ = some (.int .i64 c) ∧ w'.cell? ⟨W.heap.size, 3, none⟩ = some (.slice A n p) ∧ Hid (Below u5.heap.size u5 w'))
      (first
        | exact ⟨d0, d1, d2, d3, c0, c1, c2, c3, Lib.hid (Below.refl _ u5).drew⟩
        | exact keep8 bb ⟨d0, d1, d2, d3, c0, c1, c2, c3, Lib.hid (Below.refl _ u5).drew⟩
        | exact keep8 bb (by assumption))
      (first
        | (go_at_call 20; refine (toTensorL h w c A n p xs _ (RA.out.of_below (Below.refl _ u5).drew) HN.out).mono ?_; rintro e w' ⟨gz, rfl, _, rz, bb⟩; have RZ := Lib.hid rz; have XZ := Lib.hid ((RX.out.of_below (Below.refl _ u5).drew).of_below bb); clear rz)
        | (go_at_call 22; refine (eqTensor_same h w c _ _ n n n xs _ XZ.out RZ.out HN.out).mono ?_; rintro e uf6 ⟨rfl, bb⟩))
    rename_i hh
    have b6 := Hid.out hh.2.2.2.2.2.2.2.2
    clear hh bb RZ XZ c0 c1 c2 c3 d0 d1 d2 d3
    have BF := Lib.hid (B.out.trans (b6.mono B.out.size))
    clear b6
    go_wp2
    go_ret
    exact ⟨rfl, BF.out⟩
  · have hn2 : (1048576 : Int) < (n : Int) := by omega
    clear hn
    go_enter Try.func7, Try.ntmps7
    go_wp2_with fail
    refine (szTensor_no h w c A n p 1048576 _ hn2 (by omega) hmax).mono ?_
    rintro e u1 ⟨rfl, b1⟩
    have BF := Lib.hid (B.out.trans (b1.mono B.out.size))
    clear b1
    go_wp2
    go_ret
    exact ⟨rfl, BF.out⟩
end Qt
end Go.Proofs.Ytgbpomjdcglfmaa
