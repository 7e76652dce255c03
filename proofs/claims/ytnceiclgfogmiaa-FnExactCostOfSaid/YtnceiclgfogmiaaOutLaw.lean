/- The law of OutShape returns true and writes nothing that was there. Conditions: the slices read as lists. -/
import Derived.Test.YtnceiclgfogmiaaOutI
import Derived.Test.YtnceiclgfogmiaaPkg
import Derived.Test.YtnceiclgfogmiaaLay2
import Derived.Deep.DeepCutAuto
namespace Go.Proofs.Ytnceiclgfogmiaa
open Go.RowKit Go.Sort
set_option linter.unusedSimpArgs false
set_option linter.unusedVariables false
namespace Qt
theorem Pkg.cA {W w : World} {g0 g1 : Nat} {t0 t1 : TypeId} {x0_0 x0_1 x0_2 x0_3 x0_4 x0_5 x0_6 x0_7 x0_8 x1_0 x1_1 x1_2 : Value} {bs : List (Nat × TypeId × Array Value)} {rs : List (Option Addr × Nat × List Int)} (h : Hid (Pkg W ((g0, t0, #[x0_0, x0_1, x0_2, x0_3, x0_4, x0_5, x0_6, x0_7, x0_8]) :: (g1, t1, #[x1_0, x1_1, x1_2]) :: bs) rs w)) : w.cell? ⟨g0, 0, none⟩ = some x0_0 ∧ w.cell? ⟨g0, 1, none⟩ = some x0_1 ∧ w.cell? ⟨g0, 2, none⟩ = some x0_2 ∧ w.cell? ⟨g0, 3, none⟩ = some x0_3 ∧ w.cell? ⟨g0, 4, none⟩ = some x0_4 ∧ w.cell? ⟨g0, 5, none⟩ = some x0_5 ∧ w.cell? ⟨g0, 6, none⟩ = some x0_6 ∧ w.cell? ⟨g0, 7, none⟩ = some x0_7 ∧ w.cell? ⟨g0, 8, none⟩ = some x0_8 ∧ w.cell? ⟨g1, 0, none⟩ = some x1_0 ∧ w.cell? ⟨g1, 1, none⟩ = some x1_1 ∧ w.cell? ⟨g1, 2, none⟩ = some x1_2 :=
  ⟨(Pkg.blk0 h).cell 0 rfl, (Pkg.blk0 h).cell 1 rfl, (Pkg.blk0 h).cell 2 rfl, (Pkg.blk0 h).cell 3 rfl, (Pkg.blk0 h).cell 4 rfl, (Pkg.blk0 h).cell 5 rfl, (Pkg.blk0 h).cell 6 rfl, (Pkg.blk0 h).cell 7 rfl, (Pkg.blk0 h).cell 8 rfl, (Pkg.blk1 h).cell 0 rfl, (Pkg.blk1 h).cell 1 rfl, (Pkg.blk1 h).cell 2 rfl⟩
theorem Pkg.cA1 {W w : World} {g1 g2 : Nat} {t1 t2 : TypeId} {x1_0 x1_1 x1_2 x1_3 x1_4 x1_5 x1_6 x1_7 x1_8 x2_0 x2_1 x2_2 : Value} {b0 : Nat × TypeId × Array Value} {bs : List (Nat × TypeId × Array Value)} {rs : List (Option Addr × Nat × List Int)} (h : Hid (Pkg W (b0 :: (g1, t1, #[x1_0, x1_1, x1_2, x1_3, x1_4, x1_5, x1_6, x1_7, x1_8]) :: (g2, t2, #[x2_0, x2_1, x2_2]) :: bs) rs w)) : w.cell? ⟨g1, 0, none⟩ = some x1_0 ∧ w.cell? ⟨g1, 1, none⟩ = some x1_1 ∧ w.cell? ⟨g1, 2, none⟩ = some x1_2 ∧ w.cell? ⟨g1, 3, none⟩ = some x1_3 ∧ w.cell? ⟨g1, 4, none⟩ = some x1_4 ∧ w.cell? ⟨g1, 5, none⟩ = some x1_5 ∧ w.cell? ⟨g1, 6, none⟩ = some x1_6 ∧ w.cell? ⟨g1, 7, none⟩ = some x1_7 ∧ w.cell? ⟨g1, 8, none⟩ = some x1_8 ∧ w.cell? ⟨g2, 0, none⟩ = some x2_0 ∧ w.cell? ⟨g2, 1, none⟩ = some x2_1 ∧ w.cell? ⟨g2, 2, none⟩ = some x2_2 :=
  ⟨(Pkg.blk1 h).cell 0 rfl, (Pkg.blk1 h).cell 1 rfl, (Pkg.blk1 h).cell 2 rfl, (Pkg.blk1 h).cell 3 rfl, (Pkg.blk1 h).cell 4 rfl, (Pkg.blk1 h).cell 5 rfl, (Pkg.blk1 h).cell 6 rfl, (Pkg.blk1 h).cell 7 rfl, (Pkg.blk1 h).cell 8 rfl, (Pkg.blk2 h).cell 0 rfl, (Pkg.blk2 h).cell 1 rfl, (Pkg.blk2 h).cell 2 rfl⟩
theorem Pkg.cC {W w : World} {g1 g3 : Nat} {t1 t3 : TypeId} {x1_0 x1_1 x1_2 x1_3 x1_4 x1_5 x1_6 x1_7 x1_8 x3_0 x3_1 x3_2 x3_3 x3_4 x3_5 x3_6 x3_7 x3_8 : Value} {b0 b2 : Nat × TypeId × Array Value} {bs : List (Nat × TypeId × Array Value)} {rs : List (Option Addr × Nat × List Int)} (h : Hid (Pkg W (b0 :: (g1, t1, #[x1_0, x1_1, x1_2, x1_3, x1_4, x1_5, x1_6, x1_7, x1_8]) :: b2 :: (g3, t3, #[x3_0, x3_1, x3_2, x3_3, x3_4, x3_5, x3_6, x3_7, x3_8]) :: bs) rs w)) : w.cell? ⟨g1, 0, none⟩ = some x1_0 ∧ w.cell? ⟨g1, 1, none⟩ = some x1_1 ∧ w.cell? ⟨g1, 2, none⟩ = some x1_2 ∧ w.cell? ⟨g1, 3, none⟩ = some x1_3 ∧ w.cell? ⟨g1, 4, none⟩ = some x1_4 ∧ w.cell? ⟨g1, 5, none⟩ = some x1_5 ∧ w.cell? ⟨g1, 6, none⟩ = some x1_6 ∧ w.cell? ⟨g1, 7, none⟩ = some x1_7 ∧ w.cell? ⟨g1, 8, none⟩ = some x1_8 ∧ w.cell? ⟨g3, 0, none⟩ = some x3_0 ∧ w.cell? ⟨g3, 1, none⟩ = some x3_1 ∧ w.cell? ⟨g3, 2, none⟩ = some x3_2 ∧ w.cell? ⟨g3, 3, none⟩ = some x3_3 ∧ w.cell? ⟨g3, 4, none⟩ = some x3_4 ∧ w.cell? ⟨g3, 5, none⟩ = some x3_5 ∧ w.cell? ⟨g3, 6, none⟩ = some x3_6 ∧ w.cell? ⟨g3, 7, none⟩ = some x3_7 ∧ w.cell? ⟨g3, 8, none⟩ = some x3_8 :=
  ⟨(Pkg.blk1 h).cell 0 rfl, (Pkg.blk1 h).cell 1 rfl, (Pkg.blk1 h).cell 2 rfl, (Pkg.blk1 h).cell 3 rfl, (Pkg.blk1 h).cell 4 rfl, (Pkg.blk1 h).cell 5 rfl, (Pkg.blk1 h).cell 6 rfl, (Pkg.blk1 h).cell 7 rfl, (Pkg.blk1 h).cell 8 rfl, (Pkg.blk3 h).cell 0 rfl, (Pkg.blk3 h).cell 1 rfl, (Pkg.blk3 h).cell 2 rfl, (Pkg.blk3 h).cell 3 rfl, (Pkg.blk3 h).cell 4 rfl, (Pkg.blk3 h).cell 5 rfl, (Pkg.blk3 h).cell 6 rfl, (Pkg.blk3 h).cell 7 rfl, (Pkg.blk3 h).cell 8 rfl⟩
theorem Pkg.cB {W w : World} {g0 g3 : Nat} {t0 t3 : TypeId} {x0_0 x0_1 x0_2 x0_3 x0_4 x0_5 x0_6 x0_7 x0_8 x3_0 x3_1 x3_2 : Value} {b1 b2 : Nat × TypeId × Array Value} {bs : List (Nat × TypeId × Array Value)} {rs : List (Option Addr × Nat × List Int)} (h : Hid (Pkg W ((g0, t0, #[x0_0, x0_1, x0_2, x0_3, x0_4, x0_5, x0_6, x0_7, x0_8]) :: b1 :: b2 :: (g3, t3, #[x3_0, x3_1, x3_2]) :: bs) rs w)) : w.cell? ⟨g0, 0, none⟩ = some x0_0 ∧ w.cell? ⟨g0, 1, none⟩ = some x0_1 ∧ w.cell? ⟨g0, 2, none⟩ = some x0_2 ∧ w.cell? ⟨g0, 3, none⟩ = some x0_3 ∧ w.cell? ⟨g0, 4, none⟩ = some x0_4 ∧ w.cell? ⟨g0, 5, none⟩ = some x0_5 ∧ w.cell? ⟨g0, 6, none⟩ = some x0_6 ∧ w.cell? ⟨g0, 7, none⟩ = some x0_7 ∧ w.cell? ⟨g0, 8, none⟩ = some x0_8 ∧ w.cell? ⟨g3, 0, none⟩ = some x3_0 ∧ w.cell? ⟨g3, 1, none⟩ = some x3_1 ∧ w.cell? ⟨g3, 2, none⟩ = some x3_2 :=
  ⟨(Pkg.blk0 h).cell 0 rfl, (Pkg.blk0 h).cell 1 rfl, (Pkg.blk0 h).cell 2 rfl, (Pkg.blk0 h).cell 3 rfl, (Pkg.blk0 h).cell 4 rfl, (Pkg.blk0 h).cell 5 rfl, (Pkg.blk0 h).cell 6 rfl, (Pkg.blk0 h).cell 7 rfl, (Pkg.blk0 h).cell 8 rfl, (Pkg.blk3 h).cell 0 rfl, (Pkg.blk3 h).cell 1 rfl, (Pkg.blk3 h).cell 2 rfl⟩
theorem Pkg.cB1 {W w : World} {g1 g4 : Nat} {t1 t4 : TypeId} {x1_0 x1_1 x1_2 x1_3 x1_4 x1_5 x1_6 x1_7 x1_8 x4_0 x4_1 x4_2 : Value} {b0 b2 b3 : Nat × TypeId × Array Value} {bs : List (Nat × TypeId × Array Value)} {rs : List (Option Addr × Nat × List Int)} (h : Hid (Pkg W (b0 :: (g1, t1, #[x1_0, x1_1, x1_2, x1_3, x1_4, x1_5, x1_6, x1_7, x1_8]) :: b2 :: b3 :: (g4, t4, #[x4_0, x4_1, x4_2]) :: bs) rs w)) : w.cell? ⟨g1, 0, none⟩ = some x1_0 ∧ w.cell? ⟨g1, 1, none⟩ = some x1_1 ∧ w.cell? ⟨g1, 2, none⟩ = some x1_2 ∧ w.cell? ⟨g1, 3, none⟩ = some x1_3 ∧ w.cell? ⟨g1, 4, none⟩ = some x1_4 ∧ w.cell? ⟨g1, 5, none⟩ = some x1_5 ∧ w.cell? ⟨g1, 6, none⟩ = some x1_6 ∧ w.cell? ⟨g1, 7, none⟩ = some x1_7 ∧ w.cell? ⟨g1, 8, none⟩ = some x1_8 ∧ w.cell? ⟨g4, 0, none⟩ = some x4_0 ∧ w.cell? ⟨g4, 1, none⟩ = some x4_1 ∧ w.cell? ⟨g4, 2, none⟩ = some x4_2 :=
  ⟨(Pkg.blk1 h).cell 0 rfl, (Pkg.blk1 h).cell 1 rfl, (Pkg.blk1 h).cell 2 rfl, (Pkg.blk1 h).cell 3 rfl, (Pkg.blk1 h).cell 4 rfl, (Pkg.blk1 h).cell 5 rfl, (Pkg.blk1 h).cell 6 rfl, (Pkg.blk1 h).cell 7 rfl, (Pkg.blk1 h).cell 8 rfl, (Pkg.blk4 h).cell 0 rfl, (Pkg.blk4 h).cell 1 rfl, (Pkg.blk4 h).cell 2 rfl⟩
theorem outSx (h w c k o s t m f z : Int) (A : Option Addr) (n p : Nat) (xs : List Int) (B : Option Addr) (q r : Nat) (ys : List Int) (W : World) (x y v : Int) (ok : Bool) (hO : outV (outL h w c k o s t m f z xs ys) = .tuple #[.agg #[.int .i64 x, .int .i64 y, .int .i64 v], .bool ok]) (hr : RdI W A n xs) (hr2 : RdI W B q ys) (hn : n ≤ 1048576) (hq : q ≤ 1048576) :
    Calls Try.prog 21 #[.agg #[.int .i64 h, .int .i64 w, .int .i64 c], .agg #[.int .i64 k, .int .i64 o, .int .i64 s, .int .i64 t, .int .i64 m, .int .i64 f, .int .i64 z, .slice A n p, .slice B q r]] W fun e W' => e = .returned (.tuple #[.agg #[.int .i64 x, .int .i64 y, .int .i64 v], .bool ok]) ∧ Below W.heap.size W W' := by
  have := outSS h w c k o s t m f z A n p xs B q r ys W hr hr2 hn hq
  rw [hO] at this
  exact this
theorem outIx (h w c k o s t m f z : Int) (A : Option Addr) (n p : Nat) (xs : List Int) (B : Option Addr) (q r : Nat) (ys : List Int) (W : World) (x y v : Int) (ok : Bool) (hO : outV (outL h w c k o s t m f z xs ys) = .tuple #[.agg #[.int .i64 x, .int .i64 y, .int .i64 v], .bool ok]) (hr : RdI W A n xs) (hr2 : RdI W B q ys) (hn : n ≤ 1048576) (hq : q ≤ 1048576) :
    Calls Try.prog 14 #[.agg #[.int .i64 h, .int .i64 w, .int .i64 c], .agg #[.int .i64 k, .int .i64 o, .int .i64 s, .int .i64 t, .int .i64 m, .int .i64 f, .int .i64 z, .slice A n p, .slice B q r]] W fun e W' => e = .returned (.tuple #[.agg #[.int .i64 x, .int .i64 y, .int .i64 v], .bool ok]) ∧ Below W.heap.size W W' := by
  have := outII h w c k o s t m f z A n p xs B q r ys W hr hr2 hn hq
  rw [hO] at this
  exact this
set_option maxRecDepth 100000 in
set_option maxHeartbeats 20000000 in
theorem outShapeLaw (h w c k o s t m f z : Int) (A : Option Addr) (n p : Nat) (xs : List Int) (B : Option Addr) (q r : Nat) (ys : List Int) (W : World) (hra : RdT W A n xs) (hrb : RdT W B q ys) :
    Calls Try.prog 5 #[.agg #[.int .i64 h, .int .i64 w, .int .i64 c], .agg #[.int .i64 k, .int .i64 o, .int .i64 s, .int .i64 t, .int .i64 m, .int .i64 f, .int .i64 z, .slice A n p, .slice B q r]] W fun e W' => e = .returned (.bool true) ∧ Below W.heap.size W W' := by
  obtain ⟨x, y, v', ok, hO⟩ : ∃ x y v ok, outV (outL h w c k o s t m f z xs ys) = .tuple #[.agg #[.int .i64 x, .int .i64 y, .int .i64 v], .bool ok] := by
    rcases outL h w c k o s t m f z xs ys with _ | ⟨a, b, d⟩
    · exact ⟨0, 0, 0, false, rfl⟩
    · exact ⟨a, b, d, true, rfl⟩
  have HO := Lib.hid hO
  clear hO
  obtain ⟨hra, hmax⟩ := hra
  obtain ⟨hrb, hmaxb⟩ := hrb
  have P := Pkg.laid (Pkg.laid (Pkg.start W [(A, n, xs), (B, q, ys)] (by intro r' hr'; rcases List.mem_cons.1 hr' with rfl | hr'; exact hra; rcases List.mem_cons.1 hr' with rfl | hr'; exact hrb; cases hr')) 41 #[.int .i64 h, .int .i64 w, .int .i64 c]) 42 #[.int .i64 k, .int .i64 o, .int .i64 s, .int .i64 t, .int .i64 m, .int .i64 f, .int .i64 z, .slice A n p, .slice B q r]
  rw [World.size_alloc] at P
  clear hra hrb
  have hn0 : (0 : Int) ≤ n := Int.natCast_nonneg n
  have hq0 : (0 : Int) ≤ q := Int.natCast_nonneg q
  go_enter Try.func5, Try.ntmps5
  go_wp2_with fail
  generalize ((W.alloc (.cells #[.int .i64 h, .int .i64 w, .int .i64 c] 41)).alloc (.cells #[.int .i64 k, .int .i64 o, .int .i64 s, .int .i64 t, .int .i64 m, .int .i64 f, .int .i64 z, .slice A n p, .slice B q r] 42)) = v at P ⊢
  generalize W.heap.size + 1 = gL at P ⊢
  by_cases hn : (n : Int) + q ≤ 1048576
  case neg =>
    have hn2 : (1048576 : Int) < (n : Int) + q := by omega
    clear hn
    with_reducible refine (szLayer_no k o s t m f z A n p B q r 1048576 _ hn2 (by omega) (by omega) hmax hmaxb).mono ?_
    rintro e u1 ⟨rfl, b1⟩
    replace P := Pkg.below P b1
    clear b1
    go_wp2
    go_ret
    exact ⟨rfl, Pkg.bl P⟩
  have HN : Hid (n ≤ 1048576) := Lib.hid (by omega)
  have HQ : Hid (q ≤ 1048576) := Lib.hid (by omega)
  clear hmax hmaxb
  with_reducible refine (szLayer_yes k o s t m f z A n p B q r 1048576 _ hn (by omega)).mono ?_
  rintro e u1 ⟨rfl, b1⟩
  replace P := Pkg.below P b1
  clear b1
  go_upto_region 5 with fail
  go_cut [6, 7] (fun q6 q7 wx => ∃ gW, q6 = .pointer (some ⟨gW, 0, none⟩) ∧ q7 = .bool ok ∧ Hid (Pkg W [(gW, 25, #[.int .i64 x, .int .i64 y, .int .i64 v']), (gL, 42, #[.int .i64 k, .int .i64 o, .int .i64 s, .int .i64 t, .int .i64 m, .int .i64 f, .int .i64 z, .slice A n p, .slice B q r]), (W.heap.size, 41, #[.int .i64 h, .int .i64 w, .int .i64 c])] [(A, n, xs), (B, q, ys)] wx))
  case first =>
    have P1 := Pkg.drew P
    have PZ1 := PkgZ.below (Pkg.lay P 25 #[.int .i64 0, .int .i64 0, .int .i64 0]) (Below.refl _ _).drew
    have SS1 := Pkg.cA P1
    have SA1 := fun o => Pkg.cA (Pkg.drew (Pkg.alloc P o))
    go_region_held3 (fun w' => w'.cell? ⟨gL, 0, none⟩ = some (.int .i64 k) ∧ w'.cell? ⟨gL, 1, none⟩ = some (.int .i64 o) ∧ w'.cell? ⟨gL, 2, none⟩ = some (.int .i64 s) ∧ w'.cell? ⟨gL, 3, none⟩ = some (.int .i64 t) ∧ w'.cell? ⟨gL, 4, none⟩ = some (.int .i64 m) ∧ w'.cell? ⟨gL, 5, none⟩ = some (.int .i64 f) ∧ w'.cell? ⟨gL, 6, none⟩ = some (.int .i64 z) ∧ w'.cell? ⟨gL, 7, none⟩ = some (.slice A n p) ∧ w'.cell? ⟨gL, 8, none⟩ = some (.slice B q r) ∧ w'.cell? ⟨W.heap.size, 0, none⟩ = some (.int .i64 h) ∧ w'.cell? ⟨W.heap.size, 1, none⟩ = some (.int .i64 w) ∧ w'.cell? ⟨W.heap.size, 2, none⟩ = some (.int .i64 c))
      (first
        | with_reducible exact SS
        | with_reducible exact SA _
        | with_reducible exact SZ _ _ _
        | with_reducible exact SS1
        | with_reducible exact SA1 _)
      (first
        | (go_at_call 22; (with_reducible refine (toShapeL h w c _).mono ?_); rintro e uq ⟨rfl, bb⟩; (first | (with_reducible have PQ := PkgZ.below (by assumption) bb; obtain ⟨e0, e1, e2, g0, g1, g2⟩ := PkgZ.zf PQ; have SS := Pkg.cA (PkgZ.pkg PQ); have SZ := fun x y z => Pkg.cA1 (PkgZ.done3 PQ x y z)) | (with_reducible have PQ := PkgZ.below (Pkg.lay (by assumption) 25 #[.int .i64 0, .int .i64 0, .int .i64 0]) bb; obtain ⟨e0, e1, e2, g0, g1, g2⟩ := PkgZ.zf PQ; have SS := Pkg.cA (PkgZ.pkg PQ); have SZ := fun x y z => Pkg.cA1 (PkgZ.done3 PQ x y z)) | (with_reducible have PP := Pkg.below (by assumption) bb; have SS := Pkg.cA PP; have SA := fun o => Pkg.cA (Pkg.alloc PP o))))
        | (go_at_call 23; (with_reducible refine (toLayerL k o s t m f z A n p xs B q r ys _ (by first | with_reducible exact Pkg.rd0 PP | with_reducible exact Pkg.rd0 (PkgZ.pkg PQ) | with_reducible exact Pkg.rd0 (Pkg.alloc PP _)) (by first | with_reducible exact Pkg.rd1 PP | with_reducible exact Pkg.rd1 (PkgZ.pkg PQ) | with_reducible exact Pkg.rd1 (Pkg.alloc PP _)) HN.out HQ.out).mono ?_); rintro e uq ⟨gy, hy, rfl, _, _, ry, sy, bb⟩; have RY := Lib.hid ry; have SY := Lib.hid sy; clear ry sy; (first | (with_reducible have PQ := PkgZ.below (by assumption) bb; obtain ⟨e0, e1, e2, g0, g1, g2⟩ := PkgZ.zf PQ; have SS := Pkg.cA (PkgZ.pkg PQ); have SZ := fun x y z => Pkg.cA1 (PkgZ.done3 PQ x y z)) | (with_reducible have PQ := PkgZ.below (Pkg.lay (by assumption) 25 #[.int .i64 0, .int .i64 0, .int .i64 0]) bb; obtain ⟨e0, e1, e2, g0, g1, g2⟩ := PkgZ.zf PQ; have SS := Pkg.cA (PkgZ.pkg PQ); have SZ := fun x y z => Pkg.cA1 (PkgZ.done3 PQ x y z)) | (with_reducible have PP := Pkg.below (by assumption) bb; have SS := Pkg.cA PP; have SA := fun o => Pkg.cA (Pkg.alloc PP o))))
        | (go_at_call 21; (with_reducible refine (outSx h w c k o s t m f z _ n _ xs _ q _ ys _ x y v' ok HO.out (by first | with_reducible exact RY.out | with_reducible exact RY.out.of_below ((Below.refl _ _).alloc (Nat.le_refl _) _)) (by first | with_reducible exact SY.out | with_reducible exact SY.out.of_below ((Below.refl _ _).alloc (Nat.le_refl _) _)) HN.out HQ.out).mono ?_); rintro e uq ⟨rfl, bb⟩; (first | (with_reducible have PQ := PkgZ.below (by assumption) bb; obtain ⟨e0, e1, e2, g0, g1, g2⟩ := PkgZ.zf PQ; have SS := Pkg.cA (PkgZ.pkg PQ); have SZ := fun x y z => Pkg.cA1 (PkgZ.done3 PQ x y z)) | (with_reducible have PQ := PkgZ.below (Pkg.lay (by assumption) 25 #[.int .i64 0, .int .i64 0, .int .i64 0]) bb; obtain ⟨e0, e1, e2, g0, g1, g2⟩ := PkgZ.zf PQ; have SS := Pkg.cA (PkgZ.pkg PQ); have SZ := fun x y z => Pkg.cA1 (PkgZ.done3 PQ x y z)) | (with_reducible have PP := Pkg.below (by assumption) bb; have SS := Pkg.cA PP; have SA := fun o => Pkg.cA (Pkg.alloc PP o))))
        | fail)
    all_goals go_wp2
    all_goals go_meet
    all_goals first | exact ⟨_, rfl, rfl, PkgZ.done3 PQ _ _ _⟩ | exact ⟨_, rfl, rfl, Pkg.laid PP _ _⟩
  case rest =>
    obtain ⟨gW, rfl, rfl, P⟩ := hcut
    obtain ⟨c0, c1, c2, c3, c4, c5, c6, c7, c8⟩ := (Pkg.blk1 P).cell9
    go_wp2_with fail
    clear c0 c1 c2 c3 c4 c5 c6 c7 c8
    with_reducible refine (toLayerL k o s t m f z A n p xs B q r ys _ (Pkg.rd0 P) (Pkg.rd1 P) HN.out HQ.out).mono ?_
    rintro e u4 ⟨g4, h4, rfl, _, _, r4, s4, b4⟩
    replace P := Pkg.reads (Pkg.reads (Pkg.below P b4) r4) s4
    clear b4 r4 s4
    go_upto_region 7 with fail
    replace P := Pkg.laid P 30 #[.int .i64 k, .int .i64 o, .int .i64 s, .int .i64 t, .int .i64 m, .int .i64 f, .int .i64 z, .slice (some ⟨g4, 0, none⟩) n n, .slice (some ⟨h4, 0, none⟩) q q]
    generalize u4.alloc (.cells #[.int .i64 k, .int .i64 o, .int .i64 s, .int .i64 t, .int .i64 m, .int .i64 f, .int .i64 z, .slice (some ⟨g4, 0, none⟩) n n, .slice (some ⟨h4, 0, none⟩) q q] 30) = v5 at P ⊢
    generalize u4.heap.size = gX at P ⊢
    go_cut [9, 10] (fun q9 q10 wx => ∃ gG, q9 = .pointer (some ⟨gG, 0, none⟩) ∧ q10 = .bool ok ∧ Hid (Pkg W [(gG, 25, #[.int .i64 x, .int .i64 y, .int .i64 v']), (gX, 30, #[.int .i64 k, .int .i64 o, .int .i64 s, .int .i64 t, .int .i64 m, .int .i64 f, .int .i64 z, .slice (some ⟨g4, 0, none⟩) n n, .slice (some ⟨h4, 0, none⟩) q q]), (gW, 25, #[.int .i64 x, .int .i64 y, .int .i64 v']), (gL, 42, #[.int .i64 k, .int .i64 o, .int .i64 s, .int .i64 t, .int .i64 m, .int .i64 f, .int .i64 z, .slice A n p, .slice B q r]), (W.heap.size, 41, #[.int .i64 h, .int .i64 w, .int .i64 c])] [(some ⟨h4, 0, none⟩, q, ys), (some ⟨g4, 0, none⟩, n, xs), (A, n, xs), (B, q, ys)] wx))
    case first =>
      have P1 := Pkg.drew P
      have PZ1 := PkgZ.below (Pkg.lay P 25 #[.int .i64 0, .int .i64 0, .int .i64 0]) (Below.refl _ _).drew
      have SS1 := Pkg.cB P1
      have SA1 := fun o => Pkg.cB (Pkg.drew (Pkg.alloc P o))
      go_region_held3 (fun w' => w'.cell? ⟨gX, 0, none⟩ = some (.int .i64 k) ∧ w'.cell? ⟨gX, 1, none⟩ = some (.int .i64 o) ∧ w'.cell? ⟨gX, 2, none⟩ = some (.int .i64 s) ∧ w'.cell? ⟨gX, 3, none⟩ = some (.int .i64 t) ∧ w'.cell? ⟨gX, 4, none⟩ = some (.int .i64 m) ∧ w'.cell? ⟨gX, 5, none⟩ = some (.int .i64 f) ∧ w'.cell? ⟨gX, 6, none⟩ = some (.int .i64 z) ∧ w'.cell? ⟨gX, 7, none⟩ = some (.slice (some ⟨g4, 0, none⟩) n n) ∧ w'.cell? ⟨gX, 8, none⟩ = some (.slice (some ⟨h4, 0, none⟩) q q) ∧ w'.cell? ⟨W.heap.size, 0, none⟩ = some (.int .i64 h) ∧ w'.cell? ⟨W.heap.size, 1, none⟩ = some (.int .i64 w) ∧ w'.cell? ⟨W.heap.size, 2, none⟩ = some (.int .i64 c))
        (first
          | with_reducible exact SS
          | with_reducible exact SA _
          | with_reducible exact SZ _ _ _
          | with_reducible exact SS1
          | with_reducible exact SA1 _)
        (first
          | (go_at_call 22; (with_reducible refine (toShapeL h w c _).mono ?_); rintro e uq ⟨rfl, bb⟩; (first | (with_reducible have PQ := PkgZ.below (by assumption) bb; obtain ⟨e0, e1, e2, g0, g1, g2⟩ := PkgZ.zf PQ; have SS := Pkg.cB (PkgZ.pkg PQ); have SZ := fun x y z => Pkg.cB1 (PkgZ.done3 PQ x y z)) | (with_reducible have PQ := PkgZ.below (Pkg.lay (by assumption) 25 #[.int .i64 0, .int .i64 0, .int .i64 0]) bb; obtain ⟨e0, e1, e2, g0, g1, g2⟩ := PkgZ.zf PQ; have SS := Pkg.cB (PkgZ.pkg PQ); have SZ := fun x y z => Pkg.cB1 (PkgZ.done3 PQ x y z)) | (with_reducible have PP := Pkg.below (by assumption) bb; have SS := Pkg.cB PP; have SA := fun o => Pkg.cB (Pkg.alloc PP o))))
          | (go_at_call 14; (with_reducible refine (outIx h w c k o s t m f z _ n _ xs _ q _ ys _ x y v' ok HO.out (by first | with_reducible exact Pkg.rd1 PP | with_reducible exact Pkg.rd1 (PkgZ.pkg PQ) | with_reducible exact Pkg.rd1 (Pkg.alloc PP _)) (by first | with_reducible exact Pkg.rd0 PP | with_reducible exact Pkg.rd0 (PkgZ.pkg PQ) | with_reducible exact Pkg.rd0 (Pkg.alloc PP _)) HN.out HQ.out).mono ?_); rintro e uq ⟨rfl, bb⟩; (first | (with_reducible have PQ := PkgZ.below (by assumption) bb; obtain ⟨e0, e1, e2, g0, g1, g2⟩ := PkgZ.zf PQ; have SS := Pkg.cB (PkgZ.pkg PQ); have SZ := fun x y z => Pkg.cB1 (PkgZ.done3 PQ x y z)) | (with_reducible have PQ := PkgZ.below (Pkg.lay (by assumption) 25 #[.int .i64 0, .int .i64 0, .int .i64 0]) bb; obtain ⟨e0, e1, e2, g0, g1, g2⟩ := PkgZ.zf PQ; have SS := Pkg.cB (PkgZ.pkg PQ); have SZ := fun x y z => Pkg.cB1 (PkgZ.done3 PQ x y z)) | (with_reducible have PP := Pkg.below (by assumption) bb; have SS := Pkg.cB PP; have SA := fun o => Pkg.cB (Pkg.alloc PP o))))
          | fail)
      all_goals go_wp2
      all_goals go_meet
      all_goals first | exact ⟨_, rfl, rfl, PkgZ.done3 PQ _ _ _⟩ | exact ⟨_, rfl, rfl, Pkg.laid PP _ _⟩
    case rest =>
      obtain ⟨gG, rfl, rfl, P⟩ := hcut
      obtain ⟨a0, a1, a2⟩ := (Pkg.blk0 P).cell3
      obtain ⟨d0, d1, d2⟩ := (Pkg.blk2 P).cell3
      have hkk : (ok != ok) = false := by simp
      go_wp2_with fail
      clear a0 a1 a2 d0 d1 d2
      with_reducible refine (eqShape_same x y v' _).mono ?_
      rintro e u6 ⟨rfl, bb⟩
      replace P := Pkg.below P bb
      clear bb
      go_wp2_with fail
      have P1 := Pkg.drew P
      have SS1 := Pkg.cC P1
      go_region_held3 (fun w' => w'.cell? ⟨gX, 0, none⟩ = some (.int .i64 k) ∧ w'.cell? ⟨gX, 1, none⟩ = some (.int .i64 o) ∧ w'.cell? ⟨gX, 2, none⟩ = some (.int .i64 s) ∧ w'.cell? ⟨gX, 3, none⟩ = some (.int .i64 t) ∧ w'.cell? ⟨gX, 4, none⟩ = some (.int .i64 m) ∧ w'.cell? ⟨gX, 5, none⟩ = some (.int .i64 f) ∧ w'.cell? ⟨gX, 6, none⟩ = some (.int .i64 z) ∧ w'.cell? ⟨gX, 7, none⟩ = some (.slice (some ⟨g4, 0, none⟩) n n) ∧ w'.cell? ⟨gX, 8, none⟩ = some (.slice (some ⟨h4, 0, none⟩) q q) ∧ w'.cell? ⟨gL, 0, none⟩ = some (.int .i64 k) ∧ w'.cell? ⟨gL, 1, none⟩ = some (.int .i64 o) ∧ w'.cell? ⟨gL, 2, none⟩ = some (.int .i64 s) ∧ w'.cell? ⟨gL, 3, none⟩ = some (.int .i64 t) ∧ w'.cell? ⟨gL, 4, none⟩ = some (.int .i64 m) ∧ w'.cell? ⟨gL, 5, none⟩ = some (.int .i64 f) ∧ w'.cell? ⟨gL, 6, none⟩ = some (.int .i64 z) ∧ w'.cell? ⟨gL, 7, none⟩ = some (.slice A n p) ∧ w'.cell? ⟨gL, 8, none⟩ = some (.slice B q r))
        (first
          | with_reducible exact SS
          | with_reducible exact SS1)
        (first
          | (go_at_call 23; (with_reducible refine (toLayerL k o s t m f z A n p xs B q r ys _ (Pkg.rd2 P1) (Pkg.rd3 P1) HN.out HQ.out).mono ?_); rintro e uq ⟨gy, hy, rfl, _, _, ry, sy, bb⟩; have RY := Lib.hid ry; have SY := Lib.hid sy; clear ry sy; have PP := Pkg.below (by assumption) bb; have SS := Pkg.cC PP)
          | (go_at_call 25; (with_reducible refine (eqLayer_same k o s t m f z _ n n _ q q _ n _ q xs ys _ (Pkg.rd1 PP) (Pkg.rd0 PP) RY.out SY.out HN.out HQ.out).mono ?_); rintro e uq ⟨rfl, bb⟩; have PP := Pkg.below (by assumption) bb; have SS := Pkg.cC PP))
      go_wp2
      go_ret
      exact ⟨rfl, Pkg.bl PP⟩
end Qt
end Go.Proofs.Ytnceiclgfogmiaa
