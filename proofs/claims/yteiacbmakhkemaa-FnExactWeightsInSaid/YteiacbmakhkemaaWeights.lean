/- The law of WeightsIn returns true and writes nothing that was there. Conditions: the slices read as lists. -/
import Derived.Test.YteiacbmakhkemaaLayKeep
import Derived.Test.YteiacbmakhkemaaLay2
namespace Go.Proofs.Yteiacbmakhkemaa
open Go.RowKit Go.Sort
namespace Qt
theorem weightsInS (k o s t m f z : Int) (A : Option Addr) (n p : Nat) (B : Option Addr) (q r : Nat) (W : World) (hn : n ≤ 1048576) (hq : q ≤ 1048576) :
    Calls Try.prog 32 #[.agg #[.int .i64 k, .int .i64 o, .int .i64 s, .int .i64 t, .int .i64 m, .int .i64 f, .int .i64 z, .slice A n p, .slice B q r]] W fun e W' => e = .returned (.int .i64 ((n : Int) + q)) ∧ Below W.heap.size W W' := by
  have h0 : (0 : Int) ≤ n := Int.natCast_nonneg n
  have h1 : (0 : Int) ≤ q := Int.natCast_nonneg q
  go_enter Try.func32, Try.ntmps32
  go_wp2
  go_ret
  exact ⟨rfl, (Below.refl _ W).alloc (Nat.le_refl _) _⟩
theorem weightsInI (k o s t m f z : Int) (A : Option Addr) (n p : Nat) (B : Option Addr) (q r : Nat) (W : World) (hn : n ≤ 1048576) (hq : q ≤ 1048576) :
    Calls Try.prog 33 #[.agg #[.int .i64 k, .int .i64 o, .int .i64 s, .int .i64 t, .int .i64 m, .int .i64 f, .int .i64 z, .slice A n p, .slice B q r]] W fun e W' => e = .returned (.int .i64 ((n : Int) + q)) ∧ Below W.heap.size W W' := by
  have h0 : (0 : Int) ≤ n := Int.natCast_nonneg n
  have h1 : (0 : Int) ≤ q := Int.natCast_nonneg q
  go_enter Try.func33, Try.ntmps33
  go_wp2
  go_ret
  exact ⟨rfl, (Below.refl _ W).alloc (Nat.le_refl _) _⟩
set_option maxRecDepth 10000 in
theorem weightsInLaw (k o s t m f z : Int) (A : Option Addr) (n p : Nat) (xs : List Int) (B : Option Addr) (q r : Nat) (ys : List Int) (W : World) (hra : RdT W A n xs) (hrb : RdT W B q ys) :
    Calls Try.prog 8 #[.agg #[.int .i64 k, .int .i64 o, .int .i64 s, .int .i64 t, .int .i64 m, .int .i64 f, .int .i64 z, .slice A n p, .slice B q r]] W fun e W' => e = .returned (.bool true) ∧ Below W.heap.size W W' := by
  obtain ⟨hra, hmax⟩ := hra
  obtain ⟨hrb, hmaxb⟩ := hrb
  have K1 := Lib.hid (Bk.new W 42 #[.int .i64 k, .int .i64 o, .int .i64 s, .int .i64 t, .int .i64 m, .int .i64 f, .int .i64 z, .slice A n p, .slice B q r])
  have b0 := (Below.refl _ W).alloc (by exact Nat.le_refl _) (.cells #[.int .i64 k, .int .i64 o, .int .i64 s, .int .i64 t, .int .i64 m, .int .i64 f, .int .i64 z, .slice A n p, .slice B q r] 42)
  have RA := Lib.hid (hra.of_below b0)
  have RB := Lib.hid (hrb.of_below b0)
  have Bl := Lib.hid b0
  clear hra hrb b0
  by_cases hn : (n : Int) + q ≤ 1048576
  · have HN : Hid (n ≤ 1048576) := Lib.hid (by omega)
    have HQ : Hid (q ≤ 1048576) := Lib.hid (by omega)
    have hn0 : (0 : Int) ≤ n := Int.natCast_nonneg n
    have hq0 : (0 : Int) ≤ q := Int.natCast_nonneg q
    clear hmax hmaxb
    go_enter Try.func8, Try.ntmps8
    go_wp2_with fail
    generalize W.alloc (.cells #[.int .i64 k, .int .i64 o, .int .i64 s, .int .i64 t, .int .i64 m, .int .i64 f, .int .i64 z, .slice A n p, .slice B q r] 42) = v at K1 RA RB Bl ⊢
    with_reducible refine (szLayer_yes k o s t m f z A n p B q r 1048576 _ hn (by omega)).mono ?_
    rintro e u1 ⟨rfl, b1⟩
    replace K1 := Lib.hid (K1.out.below b1)
    replace RA := Lib.hid (RA.out.of_below b1)
    replace RB := Lib.hid (RB.out.of_below b1)
    replace Bl := Lib.hid (Bl.out.trans (b1.mono Bl.out.size))
    clear b1
    obtain ⟨c0, c1, c2, c3, c4, c5, c6, c7, c8⟩ := K1.out.cell9
    go_wp2_with fail
    clear c0 c1 c2 c3 c4 c5 c6 c7 c8
    with_reducible refine (toLayerL k o s t m f z A n p xs B q r ys _ RA.out RB.out HN.out HQ.out).mono ?_
    rintro e u2 ⟨g2, h2, rfl, _, _, r2, s2, b2⟩
    replace K1 := Lib.hid (K1.out.below b2)
    replace RA := Lib.hid (RA.out.of_below b2)
    replace RB := Lib.hid (RB.out.of_below b2)
    replace Bl := Lib.hid (Bl.out.trans (b2.mono Bl.out.size))
    have R2 := Lib.hid r2
    have S2 := Lib.hid s2
    clear b2 r2 s2
    go_wp2_with fail
    with_reducible refine (weightsInS k o s t m f z _ n _ _ q _ _ HN.out HQ.out).mono ?_
    rintro e u3 ⟨rfl, b3⟩
    replace K1 := Lib.hid (K1.out.below b3)
    replace RA := Lib.hid (RA.out.of_below b3)
    replace RB := Lib.hid (RB.out.of_below b3)
    replace Bl := Lib.hid (Bl.out.trans (b3.mono Bl.out.size))
    clear b3 R2 S2
    obtain ⟨c0, c1, c2, c3, c4, c5, c6, c7, c8⟩ := K1.out.cell9
    go_wp2_with fail
    clear c0 c1 c2 c3 c4 c5 c6 c7 c8
    with_reducible refine (toLayerL k o s t m f z A n p xs B q r ys _ RA.out RB.out HN.out HQ.out).mono ?_
    rintro e u4 ⟨g4, h4, rfl, _, _, r4, s4, b4⟩
    replace K1 := Lib.hid (K1.out.below b4)
    replace RA := Lib.hid (RA.out.of_below b4)
    replace RB := Lib.hid (RB.out.of_below b4)
    replace Bl := Lib.hid (Bl.out.trans (b4.mono Bl.out.size))
    have RX := Lib.hid r4
    have SX := Lib.hid s4
    clear b4 r4 s4
    go_wp2_with fail
    have a4 := (Below.refl _ u4).alloc (Nat.le_refl _) (.cells #[.int .i64 k, .int .i64 o, .int .i64 s, .int .i64 t, .int .i64 m, .int .i64 f, .int .i64 z, .slice (some ⟨g4, 0, none⟩) n n, .slice (some ⟨h4, 0, none⟩) q q] 30)
    have K5 := Lib.hid (Bk.new u4 30 #[.int .i64 k, .int .i64 o, .int .i64 s, .int .i64 t, .int .i64 m, .int .i64 f, .int .i64 z, .slice (some ⟨g4, 0, none⟩) n n, .slice (some ⟨h4, 0, none⟩) q q])
    replace K1 := Lib.hid (K1.out.below a4)
    replace RA := Lib.hid (RA.out.of_below a4)
    replace RB := Lib.hid (RB.out.of_below a4)
    replace RX := Lib.hid (RX.out.of_below a4)
    replace SX := Lib.hid (SX.out.of_below a4)
    replace Bl := Lib.hid (Bl.out.trans (a4.mono Bl.out.size))
    clear a4
    generalize u4.alloc (.cells #[.int .i64 k, .int .i64 o, .int .i64 s, .int .i64 t, .int .i64 m, .int .i64 f, .int .i64 z, .slice (some ⟨g4, 0, none⟩) n n, .slice (some ⟨h4, 0, none⟩) q q] 30) = v4 at K1 RA RB RX SX K5 Bl ⊢
    generalize u4.heap.size = x4 at K5 ⊢
    with_reducible refine (weightsInI k o s t m f z _ n _ _ q _ _ HN.out HQ.out).mono ?_
    rintro e u5 ⟨rfl, b5⟩
    replace K1 := Lib.hid (K1.out.below b5)
    replace RA := Lib.hid (RA.out.of_below b5)
    replace RB := Lib.hid (RB.out.of_below b5)
    replace RX := Lib.hid (RX.out.of_below b5)
    replace SX := Lib.hid (SX.out.of_below b5)
    replace K5 := Lib.hid (K5.out.below b5)
    replace Bl := Lib.hid (Bl.out.trans (b5.mono Bl.out.size))
    clear b5
    obtain ⟨c0, c1, c2, c3, c4, c5, c6, c7, c8⟩ := K1.out.cell9
    obtain ⟨d0, d1, d2, d3, d4, d5, d6, d7, d8⟩ := K5.out.cell9
    go_wp2_with fail
    go_region_held3 (fun w' => w'.cell? ⟨x4, 0, none⟩ = some (.int .i64 k) ∧ w'.cell? ⟨x4, 1, none⟩ = some (.int .i64 o) ∧ w'.cell? ⟨x4, 2, none⟩ = some (.int .i64 s) ∧ w'.cell? ⟨x4, 3, none⟩ = some (.int .i64 t) ∧ w'.cell? ⟨x4, 4, none⟩ = some (.int .i64 m) ∧ w'.cell? ⟨x4, 5, none⟩ = some (.int .i64 f) ∧ w'.cell? ⟨x4, 6, none⟩ = some (.int .i64 z) ∧ w'.cell? ⟨x4, 7, none⟩ = some (.slice (some ⟨g4, 0, none⟩) n n) ∧ w'.cell? ⟨x4, 8, none⟩ = some (.slice (some ⟨h4, 0, none⟩) q q) ∧
        w'.cell? ⟨W.heap.size, 0, none⟩ = some (.int .i64 k) ∧ w'.cell? ⟨W.heap.size, 1, none⟩ = some (.int .i64 o) ∧ w'.cell? ⟨W.heap.size, 2, none⟩ = some (.int .i64 s) ∧ w'.cell? ⟨W.heap.size, 3, none⟩ = some (.int .i64 t) ∧ w'.cell? ⟨W.heap.size, 4, none⟩ = some (.int .i64 m) ∧ w'.cell? ⟨W.heap.size, 5, none⟩ = some (.int .i64 f) ∧ w'.cell? ⟨W.heap.size, 6, none⟩ = some (.int .i64 z) ∧ w'.cell? ⟨W.heap.size, 7, none⟩ = some (.slice A n p) ∧ w'.cell? ⟨W.heap.size, 8, none⟩ = some (.slice B q r) ∧ Hid (Below u5.heap.size u5 w'))
      (first
        | exact ⟨d0, d1, d2, d3, d4, d5, d6, d7, d8, c0, c1, c2, c3, c4, c5, c6, c7, c8, Lib.hid (Below.refl _ u5).drew⟩
        | exact keep18 bb ⟨d0, d1, d2, d3, d4, d5, d6, d7, d8, c0, c1, c2, c3, c4, c5, c6, c7, c8, Lib.hid (Below.refl _ u5).drew⟩
        | exact keep18 bb (by assumption))
      (first
        | (go_at_call 23; (with_reducible refine (toLayerL k o s t m f z A n p xs B q r ys _ (RA.out.of_below (Below.refl _ u5).drew) (RB.out.of_below (Below.refl _ u5).drew) HN.out HQ.out).mono ?_); rintro e w' ⟨gz, hz, rfl, _, _, rz, sz, bb⟩; have RZ := Lib.hid rz; have SZ := Lib.hid sz; have XZ := Lib.hid ((RX.out.of_below (Below.refl _ u5).drew).of_below bb); have YZ := Lib.hid ((SX.out.of_below (Below.refl _ u5).drew).of_below bb); clear rz sz)
        | (go_at_call 25; (with_reducible refine (eqLayer_same k o s t m f z _ n n _ q q _ n _ q xs ys _ XZ.out YZ.out RZ.out SZ.out HN.out HQ.out).mono ?_); rintro e uf6 ⟨rfl, bb⟩))
    rename_i hh
    have b6 := Hid.out hh.2.2.2.2.2.2.2.2.2.2.2.2.2.2.2.2.2.2
    clear hh bb RZ SZ XZ YZ c0 c1 c2 c3 c4 c5 c6 c7 c8 d0 d1 d2 d3 d4 d5 d6 d7 d8
    have BF := Lib.hid (Bl.out.trans (b6.mono Bl.out.size))
    clear b6
    go_wp2
    go_ret
    exact ⟨rfl, BF.out⟩
  · have hn2 : (1048576 : Int) < (n : Int) + q := by omega
    clear hn
    go_enter Try.func8, Try.ntmps8
    go_wp2_with fail
    with_reducible refine (szLayer_no k o s t m f z A n p B q r 1048576 _ hn2 (by omega) (by omega) hmax hmaxb).mono ?_
    rintro e u1 ⟨rfl, b1⟩
    have BF := Lib.hid (Bl.out.trans (b1.mono Bl.out.size))
    clear b1
    go_wp2
    go_ret
    exact ⟨rfl, BF.out⟩

end Qt
end Go.Proofs.Yteiacbmakhkemaa
