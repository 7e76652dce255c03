/- What the functions on one number and one scale (of the program, of its model and of the laws) give when they are called, each at every argument. No conditions. -/
import Derived.Test.YtebldedmkpdgcaaRight
import Derived.Test.YtebldedmkpdgcaaShift
import Derived.Test.YtebldedmkpdgcaaMult
import Derived.Test.YtebldedmkpdgcaaCalMath
import Derived.Lib.QuietBelow
import Derived.Deep.QuietTactic
import Derived.BigQuiet
namespace Go.Proofs.Ytebldedmkpdgcaa
open Go.RowKit Go.Sort
set_option linter.unusedSimpArgs false
set_option linter.unusedVariables false
namespace Qt
theorem new2 (W : World) (t : TypeId) (x y : Value) : (W.alloc (.cells #[x, y] t)).cell? ⟨W.heap.size, 0, none⟩ = some x ∧ (W.alloc (.cells #[x, y] t)).cell? ⟨W.heap.size, 1, none⟩ = some y :=
  ⟨(Bk.new W t #[x, y]).cell 0 rfl, (Bk.new W t #[x, y]).cell 1 rfl⟩
theorem flipv {P : Program} {f : FuncId} {args : Array Value} {w : World} {v : Value} (h : Calls P f args w fun e w' => e = .returned v ∧ w = w') : Calls P f args w fun e w' => e = .returned v ∧ w' = w :=
  h.mono fun _ _ ⟨he, hm⟩ => ⟨he, hm.symm⟩
theorem below_of_drewN0 {P : Program} {f : FuncId} {args : Array Value} {w : World} {v : Value} (h : Calls P f args w fun e w' => e = .returned v ∧ w = w') : Calls P f args w fun e w' => e = .returned v ∧ Below w.heap.size w w' :=
  h.mono fun _ _ ⟨he, hm⟩ => ⟨he, hm ▸ Below.refl _ _⟩
theorem toScaleL (n z : Int) (W : World) :
    Calls Try.prog 52 #[.agg #[.int .i64 n, .int .i64 z]] W fun e W' => e = .returned (.agg #[.int .i64 n, .int .i64 z]) ∧ Below W.heap.size W W' := by
  go_enter Try.func52, Try.ntmps52
  go_wp2
  exact bodyPost_ret (v := .agg #[.int .i64 n, .int .i64 z]) (by simp [results, Try.results52, go_sem]) rfl ⟨rfl, (((Below.refl _ W).alloc (Nat.le_refl _) _).alloc (by simp) _).alloc (by simp only [World.size_alloc]; omega) _⟩
theorem realS (x : Int) (W : World) : Calls Try.prog 152 #[.int .i64 x] W fun e W' => e = .returned (.bool (realB x)) ∧ W = W' := by
  go_enter Try.func152, Try.ntmps152
  go_wp2_with fail
  refine (inS (-1000000000) 1000000000 x _).mono ?_
  rintro e w1 ⟨rfl, rfl⟩
  go_wp2_with fail
  go_ret
  exact ⟨rfl, rfl⟩
theorem scaleOkS (n z : Int) (b : Bool) (hb : scB n z = b) (W : World) :
    Calls Try.prog 100 #[.agg #[.int .i64 n, .int .i64 z]] W fun e W' => e = .returned (.bool b) ∧ Below W.heap.size W W' := by
  have HB := Lib.hid hb
  clear hb
  go_enter Try.func100, Try.ntmps100
  go_wp2_with fail
  refine (inS 1 1000000000 n _).mono ?_
  rintro e w1 ⟨rfl, rfl⟩
  rcases h1 : inB 1 1000000000 n with _ | _
  · obtain rfl : b = false := by rw [← HB.out]; unfold scB; rw [h1]; rfl
    go_wp2_with fail
    go_ret
    exact ⟨rfl, (Below.refl _ W).alloc (Nat.le_refl _) _⟩
  · obtain rfl : b = inB (-128) 127 z := by rw [← HB.out]; unfold scB; rw [h1]; rfl
    clear h1 HB
    go_wp2_with fail
    refine (int8B z _).mono ?_
    rintro e w1 ⟨rfl, rfl⟩
    go_wp2_with fail
    go_ret
    exact ⟨rfl, (Below.refl _ W).alloc (Nat.le_refl _) _⟩
theorem inside1I (lo hi x : Int) (g : Nat) (t : TypeId) (W : World) (h : Bk W g t #[.int .i64 x]) :
    Calls Try.prog 73 #[.int .i64 lo, .int .i64 hi, .slice (some ⟨g, 0, none⟩) 1 1] W fun e W' => e = .returned (.bool (inB lo hi x)) ∧ Below W.heap.size W W' := by
  rw [← allIn_one]
  exact insideB lo hi _ 1 1 [x] W ⟨rfl, fun _ => ⟨g, 0, rfl, h.lt, fun j hj => by
    obtain rfl : j = 0 := by omega
    exact h.cell 0 rfl⟩⟩ (by omega)
theorem scaleOkI (n z : Int) (b : Bool) (hb : scB n z = b) (W : World) :
    Calls Try.prog 103 #[.agg #[.int .i64 n, .int .i64 z]] W fun e W' => e = .returned (.bool b) ∧ Below W.heap.size W W' := by
  have HB := Lib.hid hb
  clear hb
  go_enter Try.func103, Try.ntmps103
  go_wp2_with fail
  obtain ⟨c0, c1⟩ := new2 W 70 (.int .i64 n) (.int .i64 z)
  have Bl := Lib.hid ((Below.refl _ W).alloc (Nat.le_refl _) (.cells #[.int .i64 n, .int .i64 z] 70))
  have hv : (W.alloc (.cells #[.int .i64 n, .int .i64 z] 70)).heap.size = W.heap.size + 1 := by simp
  generalize W.alloc (.cells #[.int .i64 n, .int .i64 z] 70) = v at c0 c1 Bl hv ⊢
  rw [← hv]
  clear hv
  refine (inside1I 1 1000000000 n _ _ _ (Bk.new v 3 #[.int .i64 n])).mono ?_
  rintro e w1 ⟨rfl, b1⟩
  have d1 := keep b1 (keep ((Below.refl _ _).alloc (Nat.le_refl _) (.cells #[.int .i64 n] 3)) c1)
  have B1 := Lib.hid (Bl.out.trans ((after1 b1).mono Bl.out.size))
  clear c0 c1 b1 Bl
  rcases h1 : inB 1 1000000000 n with _ | _
  · obtain rfl : b = false := by rw [← HB.out]; unfold scB; rw [h1]; rfl
    go_wp2_with fail
    go_ret
    exact ⟨rfl, B1.out⟩
  · obtain rfl : b = inB (-128) 127 z := by rw [← HB.out]; unfold scB; rw [h1]; rfl
    clear h1 HB
    go_wp2_with fail
    refine (inside1I (-128) 127 z _ _ _ (Bk.new w1 3 #[.int .i64 z])).mono ?_
    rintro e w2 ⟨rfl, b2⟩
    have B2 := Lib.hid (B1.out.trans ((after1 b2).mono B1.out.size))
    clear b2 B1
    go_wp2_with fail
    go_ret
    exact ⟨rfl, B2.out⟩
theorem okRI (x : Int) (W : World) : Calls Try.prog 170 #[.int .i64 x] W fun e W' => e = .returned (.bool (realB x)) ∧ Below W.heap.size W W' := by
  go_enter Try.func170, Try.ntmps170
  go_wp2_with fail
  refine (inside1I (-1000000000) 1000000000 x _ _ _ (Bk.new W 3 #[.int .i64 x])).mono ?_
  rintro e w1 ⟨rfl, b1⟩
  have B1 := Lib.hid (after1 b1)
  clear b1
  go_wp2_with fail
  go_ret
  exact ⟨rfl, B1.out⟩
theorem l11NearS (a b : Int) (ha : -1000000000 ≤ a ∧ a ≤ 1000000000) (hb : 1 ≤ b ∧ b ≤ 1000000000) (W : World) :
    Calls Try.prog 153 #[.int .i64 a, .int .i64 b] W fun e W' => e = .returned (.int .i64 (near a b true)) ∧ W = W' := by
  by_cases h : a < 0
  · have HE := Lib.hid (near_neg (a := a) (b := b) (by omega) h)
    have hq : 0 ≤ (-2 * a + b) / (2 * b) ∧ (-2 * a + b) / (2 * b) ≤ 3000000000 := ⟨Int.ediv_nonneg (by omega) (by omega), Int.ediv_le_of_le_mul (by omega) (by omega)⟩
    go_enter Try.func153, Try.ntmps153
    go_wp2_with fail
    go_ret
    exact ⟨ret_int (by rw [HE.out]), rfl⟩
  · have HE := Lib.hid (near_pos (a := a) (b := b) (by omega) (by omega))
    go_enter Try.func153, Try.ntmps153
    go_wp2_with fail
    go_ret
    exact ⟨ret_int (by rw [HE.out]), rfl⟩
theorem backI (n z q : Int) (hn : 1 ≤ n ∧ n ≤ 1000000000) (hz : -128 ≤ z ∧ z ≤ 127) (hq : -128 ≤ q ∧ q ≤ 127) (W : World) :
    Calls Try.prog 105 #[.agg #[.int .i64 n, .int .i64 z], .int .i8 q] W fun e W' => e = .returned (.int .i64 (backR q n z)) ∧ Below W.heap.size W W' := by
  have hp := prod_bd hq hz hn
  have hb := backR_bd q n z
  have hm : wrap64 ((q - z) * n) = (q - z) * n := by unfold wrap64; omega
  go_enter Try.func105, Try.ntmps105
  go_wp2_with fail
  refine (clampI ((q - z) * n) (-1000000000) 1000000000 _).mono ?_
  rintro e w1 ⟨rfl, rfl⟩
  go_wp2_with fail
  go_ret
  exact ⟨rfl, (Below.refl _ W).alloc (Nat.le_refl _) _⟩
theorem inI (x n z : Int) (hn : 1 ≤ n ∧ n ≤ 1000000000) (hz : -128 ≤ z ∧ z ≤ 127) (hx : realB x = true) (W : World) :
    Calls Try.prog 114 #[.int .i64 x, .agg #[.int .i64 n, .int .i64 z]] W fun e W' => e = .returned (.int .i8 (inSc x n z)) ∧ Below W.heap.size W W' := by
  have hp := near_real hx hn.1
  have hs : -1000000128 ≤ near x n true + z ∧ near x n true + z ≤ 1000000127 := by omega
  have hx2 := inB_iff.1 hx
  obtain ⟨c0, c1⟩ := new2 W 70 (.int .i64 n) (.int .i64 z)
  go_enter Try.func114, Try.ntmps114
  go_wp2_with fail
  go_quiet (first
    | (go_at_call 157; exact Calls.quiet_of (nearestI x n true 1 rfl (by omega) (by omega) (by omega) _))
    | (go_at_call 147; exact Calls.quiet_of_same (flipv (smallOfI _ _))))
  go_wp2
  go_ret
  exact ⟨rfl, below_drewN ((Below.refl _ W).alloc (Nat.le_refl _) _) _⟩
theorem toInt8S (x n z : Int) (W : World) :
    Calls Try.prog 110 #[.int .i64 x, .agg #[.int .i64 n, .int .i64 z]] W fun e W' => e = .returned (.int .i64 (toI8 x n z)) ∧ Below W.heap.size W W' := by
  obtain ⟨R, hR⟩ : ∃ R, toI8 x n z = R := ⟨_, rfl⟩
  rw [hR]
  have HR := Lib.hid hR
  clear hR
  go_enter Try.func110, Try.ntmps110
  go_wp2_with fail
  refine (realS x _).mono ?_
  rintro e w1 ⟨rfl, rfl⟩
  rcases hx : realB x with _ | _
  · obtain rfl : R = 0 := by rw [← HR.out]; unfold toI8; rw [hx]; rfl
    go_wp2_with fail
    go_ret
    exact ⟨rfl, (Below.refl _ W).alloc (Nat.le_refl _) _⟩
  · obtain ⟨c0, c1⟩ := new2 W 70 (.int .i64 n) (.int .i64 z)
    have HX := Lib.hid hx
    clear hx
    go_wp2_with fail
    rcases hs : scB n z with _ | _
    · obtain rfl : R = 0 := by rw [← HR.out]; unfold toI8; rw [HX.out, hs]; rfl
      have HS := Lib.hid hs
      clear hs
      refine (scaleOkS n z false HS.out _).mono ?_
      rintro e w2 ⟨rfl, b2⟩
      have B2 := Lib.hid (after1 b2)
      clear b2 c0 c1
      go_wp2_with fail
      go_ret
      exact ⟨rfl, B2.out⟩
    · have HV : Hid (R = sat8 (near x n true + z)) := Lib.hid (by rw [← HR.out]; unfold toI8 inSc; rw [HX.out, hs]; rfl)
      obtain ⟨h1, h2, h3, h4⟩ := scB_iff.1 hs
      have hp := near_real HX.out h1
      have hx2 := inB_iff.1 HX.out
      have HS := Lib.hid hs
      clear hs
      refine (scaleOkS n z true HS.out _).mono ?_
      rintro e w2 ⟨rfl, b2⟩
      have d0 := keep b2 c0
      have d1 := keep b2 c1
      have B2 := Lib.hid (after1 b2)
      clear b2 c0 c1
      have hw : IntKind.i64.wrap (near x n true + z) = near x n true + z := IntWalk.i64_in _ (by omega)
      go_wp2_with fail
      go_quiet (first
        | (go_at_call 153; exact Calls.quiet_of_same (flipv (l11NearS x n (by omega) (by omega) _)))
        | (go_at_call 143; exact Calls.quiet_of_same (flipv (sat8S _ _))))
      go_wp2_with fail
      go_ret
      exact ⟨ret_int HV.out.symm, below_drewN B2.out _⟩
theorem fromInt8S (q n z : Int) (W : World) :
    Calls Try.prog 101 #[.int .i64 q, .agg #[.int .i64 n, .int .i64 z]] W fun e W' => e = .returned (.int .i64 (fromI8 q n z)) ∧ Below W.heap.size W W' := by
  obtain ⟨R, hR⟩ : ∃ R, fromI8 q n z = R := ⟨_, rfl⟩
  rw [hR]
  have HR := Lib.hid hR
  clear hR
  obtain ⟨c0, c1⟩ := new2 W 70 (.int .i64 n) (.int .i64 z)
  go_enter Try.func101, Try.ntmps101
  go_wp2_with fail
  rcases hs : scB n z with _ | _
  · obtain rfl : R = 0 := by rw [← HR.out]; exact fromI8_a hs
    have HS := Lib.hid hs
    clear hs
    refine (scaleOkS n z false HS.out _).mono ?_
    rintro e w2 ⟨rfl, b2⟩
    have B2 := Lib.hid (after1 b2)
    clear b2 c0 c1
    go_wp2_with fail
    go_ret
    exact ⟨rfl, B2.out⟩
  · have HV : Hid (R = backR (sat8 q) n z) := Lib.hid (by rw [← HR.out]; exact fromI8_b hs)
    obtain ⟨h1, h2, h3, h4⟩ := scB_iff.1 hs
    have hq := sat8_bd q
    have hp := prod_bd hq ⟨h3, h4⟩ ⟨h1, h2⟩
    have HS := Lib.hid hs
    clear hs
    refine (scaleOkS n z true HS.out _).mono ?_
    rintro e w2 ⟨rfl, b2⟩
    have d0 := keep b2 c0
    have d1 := keep b2 c1
    have B2 := Lib.hid (after1 b2)
    clear b2 c0 c1
    have hm : IntKind.i64.wrap ((sat8 q - z) * n) = (sat8 q - z) * n := IntWalk.i64_in _ (by omega)
    have hm2 : IntKind.i64.wrap (sat8 q - z) = sat8 q - z := IntWalk.i64_in _ (by omega)
    go_wp2_with fail
    go_quiet (first
      | (go_at_call 142; exact Calls.quiet_of_same (flipv (clampS ((sat8 q - z) * n) (-1000000000) 1000000000 _)))
      | (go_at_call 143; exact Calls.quiet_of_same (flipv (sat8S _ _))))
    go_wp2_with fail
    go_ret
    exact ⟨ret_int HV.out.symm, below_drewN B2.out _⟩
theorem gcdS (a b : Int) (ha : 0 ≤ a ∧ a ≤ 4611686018427387904) (hb : 0 < b ∧ b ≤ 4611686018427387904) (W : World) :
    Calls Try.prog 126 #[.int .i64 a, .int .i64 b] W fun e W' => e = .returned (.int .i64 (Nat.gcd a.toNat b.toNat : Nat)) ∧ W = W' := by
  obtain ⟨G, hG⟩ : ∃ G : Nat, G = Nat.gcd a.toNat b.toNat := ⟨_, rfl⟩
  rw [← hG]
  have HG := Lib.hid hG
  clear hG
  go_enter Try.func126, Try.ntmps126
  go_wp2_with fail
  go_loop [0, 1] (fun u v => ∃ x y : Int, u = .int .i64 x ∧ v = .int .i64 y ∧ 0 ≤ x ∧ x ≤ 4611686018427387904 ∧ 0 ≤ y ∧ y ≤ 4611686018427387904 ∧ Hid (G = Nat.gcd x.toNat y.toNat)) (fun _ v => (intOf v).toNat)
  case atStart => exact ⟨a, b, rfl, rfl, ha.1, ha.2, by omega, hb.2, HG⟩
  case round =>
    obtain ⟨x, y, rfl, rfl, h1, h2, h3, h4, HX⟩ := hrel
    by_cases hy : y = 0
    · subst hy
      go_wp2_with fail
      go_ret
      exact ⟨ret_int (by rw [HX.out]; simp; omega), rfl⟩
    · have hy0 : 0 < y := by omega
      have hm0 := Int.emod_nonneg x hy
      have hm1 := Int.emod_lt_of_pos x hy0
      have HN : Hid (G = Nat.gcd y.toNat (x % y).toNat) := Lib.hid (by rw [HX.out, gcd_step hy0 h1])
      have hyb : (y == 0) = false := by simpa using hy
      have hyc : (y != 0) = true := by simpa using hy
      clear hy HX
      go_wp2_with fail
      go_round
      case rel => exact ⟨y, x % y, rfl, rfl, by omega, h4, hm0, by omega, HN⟩
      case measure => simp [intOf]; omega
theorem gcdI (a b : Int) (ha : 0 ≤ a ∧ a ≤ 4611686018427387904) (hb : 0 < b ∧ b ≤ 4611686018427387904) (W : World) :
    Calls Try.prog 124 #[.int .i64 a, .int .i64 b] W fun e W' => e = .returned (.int .i64 (Nat.gcd a.toNat b.toNat : Nat)) ∧ Below W.heap.size W W' := by
  obtain ⟨G, hG⟩ : ∃ G : Nat, G = Nat.gcd a.toNat b.toNat := ⟨_, rfl⟩
  rw [← hG]
  have HG := Lib.hid hG
  clear hG
  go_enter Try.func124, Try.ntmps124
  go_wp2_with fail
  go_loopw [0, 1] (fun u v wr => ∃ x y : Int, u = .int .i64 x ∧ v = .int .i64 y ∧ 0 ≤ x ∧ x ≤ 4611686018427387904 ∧ 0 ≤ y ∧ y ≤ 4611686018427387904 ∧ Hid (G = Nat.gcd x.toNat y.toNat) ∧ Hid (Below W.heap.size W wr)) (fun _ v _ => (intOf v).toNat)
  case atStart => exact ⟨a, b, rfl, rfl, ha.1, ha.2, by omega, hb.2, HG, Lib.hid (Below.refl _ _)⟩
  case round =>
    obtain ⟨x, y, rfl, rfl, h1, h2, h3, h4, HX, HB⟩ := hrel
    by_cases hy : y = 0
    · subst hy
      go_wp2_with fail
      go_ret
      exact ⟨ret_int (by rw [HX.out]; simp; omega), HB.out⟩
    · have hy0 : 0 < y := by omega
      have hm0 := Int.emod_nonneg x hy
      have hm1 := Int.emod_lt_of_pos x hy0
      have HN : Hid (G = Nat.gcd y.toNat (x % y).toNat) := Lib.hid (by rw [HX.out, gcd_step hy0 h1])
      clear hy HX
      go_wp2_with fail
      go_region
      all_goals go_wp2_with fail
      all_goals go_roundw
      all_goals first
        | (case rel => exact ⟨y, x % y, rfl, rfl, by omega, h4, hm0, by omega, HN, Lib.hid (HB.out.drew)⟩)
        | skip
      all_goals (simp [intOf]; omega)
end Qt
end Go.Proofs.Ytebldedmkpdgcaa
