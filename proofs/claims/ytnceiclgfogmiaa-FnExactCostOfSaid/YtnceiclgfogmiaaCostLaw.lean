/- The law of CostOf returns true and writes nothing that was there. Conditions: the slices read as lists. -/
import Derived.Test.YtnceiclgfogmiaaCost
namespace Go.Proofs.Ytnceiclgfogmiaa
open Go.RowKit Go.Sort
set_option linter.unusedSimpArgs false
set_option linter.unusedVariables false
namespace Qt
theorem Pkg.cD {W w : World} {g0 g2 : Nat} {t0 t2 : TypeId} {x0_0 x0_1 x0_2 x0_3 x0_4 x0_5 x0_6 x0_7 x0_8 x2_0 x2_1 x2_2 : Value} {b1 : Nat × TypeId × Array Value} {bs : List (Nat × TypeId × Array Value)} {rs : List (Option Addr × Nat × List Int)} (h : Hid (Pkg W ((g0, t0, #[x0_0, x0_1, x0_2, x0_3, x0_4, x0_5, x0_6, x0_7, x0_8]) :: b1 :: (g2, t2, #[x2_0, x2_1, x2_2]) :: bs) rs w)) : w.cell? ⟨g0, 0, none⟩ = some x0_0 ∧ w.cell? ⟨g0, 1, none⟩ = some x0_1 ∧ w.cell? ⟨g0, 2, none⟩ = some x0_2 ∧ w.cell? ⟨g0, 3, none⟩ = some x0_3 ∧ w.cell? ⟨g0, 4, none⟩ = some x0_4 ∧ w.cell? ⟨g0, 5, none⟩ = some x0_5 ∧ w.cell? ⟨g0, 6, none⟩ = some x0_6 ∧ w.cell? ⟨g0, 7, none⟩ = some x0_7 ∧ w.cell? ⟨g0, 8, none⟩ = some x0_8 ∧ w.cell? ⟨g2, 0, none⟩ = some x2_0 ∧ w.cell? ⟨g2, 1, none⟩ = some x2_1 ∧ w.cell? ⟨g2, 2, none⟩ = some x2_2 :=
  ⟨(Pkg.blk0 h).cell 0 rfl, (Pkg.blk0 h).cell 1 rfl, (Pkg.blk0 h).cell 2 rfl, (Pkg.blk0 h).cell 3 rfl, (Pkg.blk0 h).cell 4 rfl, (Pkg.blk0 h).cell 5 rfl, (Pkg.blk0 h).cell 6 rfl, (Pkg.blk0 h).cell 7 rfl, (Pkg.blk0 h).cell 8 rfl, (Pkg.blk2 h).cell 0 rfl, (Pkg.blk2 h).cell 1 rfl, (Pkg.blk2 h).cell 2 rfl⟩
theorem Pkg.cE {W w : World} {g0 g1 : Nat} {t0 t1 : TypeId} {x0_0 x0_1 x0_2 x0_3 x0_4 x0_5 x0_6 x0_7 x0_8 x1_0 x1_1 x1_2 x1_3 x1_4 x1_5 x1_6 x1_7 x1_8 : Value} {bs : List (Nat × TypeId × Array Value)} {rs : List (Option Addr × Nat × List Int)} (h : Hid (Pkg W ((g0, t0, #[x0_0, x0_1, x0_2, x0_3, x0_4, x0_5, x0_6, x0_7, x0_8]) :: (g1, t1, #[x1_0, x1_1, x1_2, x1_3, x1_4, x1_5, x1_6, x1_7, x1_8]) :: bs) rs w)) : w.cell? ⟨g0, 0, none⟩ = some x0_0 ∧ w.cell? ⟨g0, 1, none⟩ = some x0_1 ∧ w.cell? ⟨g0, 2, none⟩ = some x0_2 ∧ w.cell? ⟨g0, 3, none⟩ = some x0_3 ∧ w.cell? ⟨g0, 4, none⟩ = some x0_4 ∧ w.cell? ⟨g0, 5, none⟩ = some x0_5 ∧ w.cell? ⟨g0, 6, none⟩ = some x0_6 ∧ w.cell? ⟨g0, 7, none⟩ = some x0_7 ∧ w.cell? ⟨g0, 8, none⟩ = some x0_8 ∧ w.cell? ⟨g1, 0, none⟩ = some x1_0 ∧ w.cell? ⟨g1, 1, none⟩ = some x1_1 ∧ w.cell? ⟨g1, 2, none⟩ = some x1_2 ∧ w.cell? ⟨g1, 3, none⟩ = some x1_3 ∧ w.cell? ⟨g1, 4, none⟩ = some x1_4 ∧ w.cell? ⟨g1, 5, none⟩ = some x1_5 ∧ w.cell? ⟨g1, 6, none⟩ = some x1_6 ∧ w.cell? ⟨g1, 7, none⟩ = some x1_7 ∧ w.cell? ⟨g1, 8, none⟩ = some x1_8 :=
  ⟨(Pkg.blk0 h).cell 0 rfl, (Pkg.blk0 h).cell 1 rfl, (Pkg.blk0 h).cell 2 rfl, (Pkg.blk0 h).cell 3 rfl, (Pkg.blk0 h).cell 4 rfl, (Pkg.blk0 h).cell 5 rfl, (Pkg.blk0 h).cell 6 rfl, (Pkg.blk0 h).cell 7 rfl, (Pkg.blk0 h).cell 8 rfl, (Pkg.blk1 h).cell 0 rfl, (Pkg.blk1 h).cell 1 rfl, (Pkg.blk1 h).cell 2 rfl, (Pkg.blk1 h).cell 3 rfl, (Pkg.blk1 h).cell 4 rfl, (Pkg.blk1 h).cell 5 rfl, (Pkg.blk1 h).cell 6 rfl, (Pkg.blk1 h).cell 7 rfl, (Pkg.blk1 h).cell 8 rfl⟩
theorem costSS (h w c k o s t m f z : Int) (A : Option Addr) (n p : Nat) (xs : List Int) (B : Option Addr) (q r : Nat) (ys : List Int) (W : World) (hr : RdI W A n xs) (hr2 : RdI W B q ys) (hn : n ≤ 1048576) (hq : q ≤ 1048576) :
    Calls Try.prog 18 #[.agg #[.int .i64 h, .int .i64 w, .int .i64 c], .agg #[.int .i64 k, .int .i64 o, .int .i64 s, .int .i64 t, .int .i64 m, .int .i64 f, .int .i64 z, .slice A n p, .slice B q r]] W fun e W' => e = .returned (.int .i64 (costL h w c k o s t m f z xs ys)) ∧ Below W.heap.size W W' := by
  rcases hO : outL h w c k o s t m f z xs ys with _ | ⟨a, b, d⟩
  · rw [show costL h w c k o s t m f z xs ys = 0 by rw [costL, hO]]
    exact costS_no h w c k o s t m f z A n p xs B q r ys W hr hr2 hn hq hO
  · rw [show costL h w c k o s t m f z xs ys = 1 + (prodL k h w c s a b d) / 16 by rw [costL, hO]]
    have hkk := outL_kind hO
    rcases kind_cases k with rfl | rfl | rfl | rfl | rfl | rfl | hk
    · exact costS_0 h w c o s t m f z A n p xs B q r ys W hr hr2 hn hq a b d hO
    · exact costS_1 h w c o s t m f z A n p xs B q r ys W hr hr2 hn hq a b d hO
    · exact costS_2 h w c o s t m f z A n p xs B q r ys W hr hr2 hn hq a b d hO
    · exact costS_3 h w c o s t m f z A n p xs B q r ys W hr hr2 hn hq a b d hO
    · exact costS_4 h w c o s t m f z A n p xs B q r ys W hr hr2 hn hq a b d hO
    · exact costS_5 h w c o s t m f z A n p xs B q r ys W hr hr2 hn hq a b d hO
    · exact absurd hkk hk
set_option maxRecDepth 100000 in
set_option maxHeartbeats 20000000 in
theorem costLaw (h w c k o s t m f z : Int) (A : Option Addr) (n p : Nat) (xs : List Int) (B : Option Addr) (q r : Nat) (ys : List Int) (W : World) (hra : RdT W A n xs) (hrb : RdT W B q ys) :
    Calls Try.prog 7 #[.agg #[.int .i64 h, .int .i64 w, .int .i64 c], .agg #[.int .i64 k, .int .i64 o, .int .i64 s, .int .i64 t, .int .i64 m, .int .i64 f, .int .i64 z, .slice A n p, .slice B q r]] W fun e W' => e = .returned (.bool true) ∧ Below W.heap.size W W' := by
  obtain ⟨hra, hmax⟩ := hra
  obtain ⟨hrb, hmaxb⟩ := hrb
  have P := Pkg.laid (Pkg.laid (Pkg.start W [(A, n, xs), (B, q, ys)] (by intro r' hr'; rcases List.mem_cons.1 hr' with rfl | hr'; exact hra; rcases List.mem_cons.1 hr' with rfl | hr'; exact hrb; cases hr')) 41 #[.int .i64 h, .int .i64 w, .int .i64 c]) 42 #[.int .i64 k, .int .i64 o, .int .i64 s, .int .i64 t, .int .i64 m, .int .i64 f, .int .i64 z, .slice A n p, .slice B q r]
  rw [World.size_alloc] at P
  clear hra hrb
  have hn0 : (0 : Int) ≤ n := Int.natCast_nonneg n
  have hq0 : (0 : Int) ≤ q := Int.natCast_nonneg q
  go_enter Try.func7, Try.ntmps7
  go_wp2_with fail
  generalize ((W.alloc (.cells #[.int .i64 h, .int .i64 w, .int .i64 c] 41)).alloc (.cells #[.int .i64 k, .int .i64 o, .int .i64 s, .int .i64 t, .int .i64 m, .int .i64 f, .int .i64 z, .slice A n p, .slice B q r] 42)) = v at P ⊢
  generalize W.heap.size + 1 = gL at P ⊢
  by_cases hn : (n : Int) + q ≤ 1048576
  case neg =>
    have hn2 : (1048576 : Int) < (n : Int) + q := by omega
    clear hn
    with_reducible refine (szLayer_no k o s t m f z A n p B q r 1048576 _ hn2 (by omega) (by omega) hmax hmaxb).mono ?_
    rintro e u1 ⟨rfl, b1⟩
    replace P := Pkg.below P b1
    clear b1
    go_wp2
    go_ret
    exact ⟨rfl, Pkg.bl P⟩
  have HN : Hid (n ≤ 1048576) := Lib.hid (by omega)
  have HQ : Hid (q ≤ 1048576) := Lib.hid (by omega)
  clear hmax hmaxb
  with_reducible refine (szLayer_yes k o s t m f z A n p B q r 1048576 _ hn (by omega)).mono ?_
  rintro e u1 ⟨rfl, b1⟩
  replace P := Pkg.below P b1
  clear b1
  go_wp2_with fail
  have P1 := Pkg.drew P
  have SS1 := Pkg.cA P1
  go_region_held3 (fun w' => w'.cell? ⟨gL, 0, none⟩ = some (.int .i64 k) ∧ w'.cell? ⟨gL, 1, none⟩ = some (.int .i64 o) ∧ w'.cell? ⟨gL, 2, none⟩ = some (.int .i64 s) ∧ w'.cell? ⟨gL, 3, none⟩ = some (.int .i64 t) ∧ w'.cell? ⟨gL, 4, none⟩ = some (.int .i64 m) ∧ w'.cell? ⟨gL, 5, none⟩ = some (.int .i64 f) ∧ w'.cell? ⟨gL, 6, none⟩ = some (.int .i64 z) ∧ w'.cell? ⟨gL, 7, none⟩ = some (.slice A n p) ∧ w'.cell? ⟨gL, 8, none⟩ = some (.slice B q r) ∧ w'.cell? ⟨W.heap.size, 0, none⟩ = some (.int .i64 h) ∧ w'.cell? ⟨W.heap.size, 1, none⟩ = some (.int .i64 w) ∧ w'.cell? ⟨W.heap.size, 2, none⟩ = some (.int .i64 c))
    (first
      | with_reducible exact SS
      | with_reducible exact SS1)
    (first
      | (go_at_call 22; (with_reducible refine (toShapeL h w c _).mono ?_); rintro e uq ⟨rfl, bb⟩; have PP := Pkg.below (by assumption) bb; have SS := Pkg.cA PP)
      | (go_at_call 23; (with_reducible refine (toLayerL k o s t m f z A n p xs B q r ys _ (Pkg.rd0 PP) (Pkg.rd1 PP) HN.out HQ.out).mono ?_); rintro e uq ⟨gy, hy, rfl, _, _, ry, sy, bb⟩; have RY := Lib.hid ry; have SY := Lib.hid sy; clear ry sy; have PP := Pkg.below (by assumption) bb; have SS := Pkg.cA PP)
      | (go_at_call 18; (with_reducible refine (costSS h w c k o s t m f z _ n _ xs _ q _ ys _ RY.out SY.out HN.out HQ.out).mono ?_); rintro e uq ⟨rfl, bb⟩; have PP := Pkg.below (by assumption) bb; have SS := Pkg.cA PP)
      | fail)
  replace P := PP
  clear RY SY SS SS1 P1
  obtain ⟨c0, c1, c2, c3, c4, c5, c6, c7, c8⟩ := (Pkg.blk0 P).cell9
  go_wp2_with fail
  clear c0 c1 c2 c3 c4 c5 c6 c7 c8
  with_reducible refine (toLayerL k o s t m f z A n p xs B q r ys _ (Pkg.rd0 P) (Pkg.rd1 P) HN.out HQ.out).mono ?_
  rintro e u4 ⟨g4, h4, rfl, _, _, r4, s4, b4⟩
  replace P := Pkg.reads (Pkg.reads (Pkg.below P b4) r4) s4
  clear b4 r4 s4
  go_wp2_with fail
  replace P := Pkg.laid P 30 #[.int .i64 k, .int .i64 o, .int .i64 s, .int .i64 t, .int .i64 m, .int .i64 f, .int .i64 z, .slice (some ⟨g4, 0, none⟩) n n, .slice (some ⟨h4, 0, none⟩) q q]
  generalize u4.alloc (.cells #[.int .i64 k, .int .i64 o, .int .i64 s, .int .i64 t, .int .i64 m, .int .i64 f, .int .i64 z, .slice (some ⟨g4, 0, none⟩) n n, .slice (some ⟨h4, 0, none⟩) q q] 30) = v5 at P ⊢
  generalize u4.heap.size = gX at P ⊢
  have P1 := Pkg.drew P
  have SS1 := Pkg.cD P1
  go_region_held3 (fun w' => w'.cell? ⟨gX, 0, none⟩ = some (.int .i64 k) ∧ w'.cell? ⟨gX, 1, none⟩ = some (.int .i64 o) ∧ w'.cell? ⟨gX, 2, none⟩ = some (.int .i64 s) ∧ w'.cell? ⟨gX, 3, none⟩ = some (.int .i64 t) ∧ w'.cell? ⟨gX, 4, none⟩ = some (.int .i64 m) ∧ w'.cell? ⟨gX, 5, none⟩ = some (.int .i64 f) ∧ w'.cell? ⟨gX, 6, none⟩ = some (.int .i64 z) ∧ w'.cell? ⟨gX, 7, none⟩ = some (.slice (some ⟨g4, 0, none⟩) n n) ∧ w'.cell? ⟨gX, 8, none⟩ = some (.slice (some ⟨h4, 0, none⟩) q q) ∧ w'.cell? ⟨W.heap.size, 0, none⟩ = some (.int .i64 h) ∧ w'.cell? ⟨W.heap.size, 1, none⟩ = some (.int .i64 w) ∧ w'.cell? ⟨W.heap.size, 2, none⟩ = some (.int .i64 c))
    (first
      | with_reducible exact SS
      | with_reducible exact SS1)
    (first
      | (go_at_call 22; (with_reducible refine (toShapeL h w c _).mono ?_); rintro e uq ⟨rfl, bb⟩; have PP := Pkg.below (by assumption) bb; have SS := Pkg.cD PP)
      | (go_at_call 17; (with_reducible refine (costI h w c k o s t m f z _ n _ xs _ q _ ys _ (Pkg.rd1 PP) (Pkg.rd0 PP) HN.out HQ.out).mono ?_); rintro e uq ⟨rfl, bb⟩; have PP := Pkg.below (by assumption) bb; have SS := Pkg.cD PP)
      | fail)
  replace P := PP
  go_wp2_with fail
  have P1 := Pkg.drew P
  have SS1 := Pkg.cE P1
  go_region_held3 (fun w' => w'.cell? ⟨gX, 0, none⟩ = some (.int .i64 k) ∧ w'.cell? ⟨gX, 1, none⟩ = some (.int .i64 o) ∧ w'.cell? ⟨gX, 2, none⟩ = some (.int .i64 s) ∧ w'.cell? ⟨gX, 3, none⟩ = some (.int .i64 t) ∧ w'.cell? ⟨gX, 4, none⟩ = some (.int .i64 m) ∧ w'.cell? ⟨gX, 5, none⟩ = some (.int .i64 f) ∧ w'.cell? ⟨gX, 6, none⟩ = some (.int .i64 z) ∧ w'.cell? ⟨gX, 7, none⟩ = some (.slice (some ⟨g4, 0, none⟩) n n) ∧ w'.cell? ⟨gX, 8, none⟩ = some (.slice (some ⟨h4, 0, none⟩) q q) ∧ w'.cell? ⟨gL, 0, none⟩ = some (.int .i64 k) ∧ w'.cell? ⟨gL, 1, none⟩ = some (.int .i64 o) ∧ w'.cell? ⟨gL, 2, none⟩ = some (.int .i64 s) ∧ w'.cell? ⟨gL, 3, none⟩ = some (.int .i64 t) ∧ w'.cell? ⟨gL, 4, none⟩ = some (.int .i64 m) ∧ w'.cell? ⟨gL, 5, none⟩ = some (.int .i64 f) ∧ w'.cell? ⟨gL, 6, none⟩ = some (.int .i64 z) ∧ w'.cell? ⟨gL, 7, none⟩ = some (.slice A n p) ∧ w'.cell? ⟨gL, 8, none⟩ = some (.slice B q r))
    (first
      | with_reducible exact SS
      | with_reducible exact SS1)
    (first
      | (go_at_call 23; (with_reducible refine (toLayerL k o s t m f z A n p xs B q r ys _ (Pkg.rd2 P1) (Pkg.rd3 P1) HN.out HQ.out).mono ?_); rintro e uq ⟨gy, hy, rfl, _, _, ry, sy, bb⟩; have RY := Lib.hid ry; have SY := Lib.hid sy; clear ry sy; have PP := Pkg.below (by assumption) bb; have SS := Pkg.cE PP)
      | (go_at_call 25; (with_reducible refine (eqLayer_same k o s t m f z _ n n _ q q _ n _ q xs ys _ (Pkg.rd1 PP) (Pkg.rd0 PP) RY.out SY.out HN.out HQ.out).mono ?_); rintro e uq ⟨rfl, bb⟩; have PP := Pkg.below (by assumption) bb; have SS := Pkg.cE PP))
  go_wp2
  go_ret
  exact ⟨rfl, Pkg.bl PP⟩
end Qt
end Go.Proofs.Ytnceiclgfogmiaa
