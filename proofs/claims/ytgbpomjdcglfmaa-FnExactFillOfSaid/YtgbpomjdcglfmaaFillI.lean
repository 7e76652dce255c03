/- FillOf of the program: what it gives when it is called. No conditions. -/
import Derived.Test.YtgbpomjdcglfmaaFill
import Derived.Test.YtgbpomjdcglfmaaRepeat
import Derived.Deep.RegionHeld3
namespace Go.Proofs.Ytgbpomjdcglfmaa
open Go.RowKit Go.Sort
namespace Qt

def FPre (W u : World) (h w c : Int) (g4 g6 : Nat) : Prop :=
  Bk u g6 64 #[.int .i64 h, .int .i64 w, .int .i64 c, .slice none 0 0] ∧ Bk u g4 35 #[.int .i64 0, .int .i64 0, .int .i64 0, .slice none 0 0] ∧ Below W.heap.size W u
def FPre1 (W u : World) (h w c : Int) (g4 g6 : Nat) (s8 : Int) (q : Nat) : Prop := FPre W u h w c g4 g6 ∧ RdS u (some ⟨q, 0, none⟩) 1 [s8]
def FPost (W u : World) (h w c : Int) (g4 g6 : Nat) (s8 : Int) (N q : Nat) : Prop :=
  Bk u g6 64 #[.int .i64 h, .int .i64 w, .int .i64 c, .slice (some ⟨q, 0, none⟩) N N] ∧ Bk u g4 35 #[.int .i64 0, .int .i64 0, .int .i64 0, .slice none 0 0] ∧ Below W.heap.size W u ∧ RdS u (some ⟨q, 0, none⟩) N (List.replicate N s8)
section
variable {W u u0 : World} {h w c s8 : Int} {g4 g6 q N : Nat}
theorem FPre.below (hp : FPre W u0 h w c g4 g6) (hb : Below u0.heap.size u0 u) : FPre W u h w c g4 g6 := ⟨hp.1.below hb, hp.2.1.below hb, hp.2.2.trans (hb.mono hp.2.2.size)⟩
theorem FPre.three (hp : FPre W u h w c g4 g6) : (u.cell? ⟨g6, 0, none⟩ = some (.int .i64 h) ∧ u.cell? ⟨g6, 1, none⟩ = some (.int .i64 w) ∧ u.cell? ⟨g6, 2, none⟩ = some (.int .i64 c)) := ⟨hp.1.cell 0 rfl, hp.1.cell 1 rfl, hp.1.cell 2 rfl⟩
theorem FPost.three (hp : FPost W u h w c g4 g6 s8 N q) : (u.cell? ⟨g6, 0, none⟩ = some (.int .i64 h) ∧ u.cell? ⟨g6, 1, none⟩ = some (.int .i64 w) ∧ u.cell? ⟨g6, 2, none⟩ = some (.int .i64 c)) := ⟨hp.1.cell 0 rfl, hp.1.cell 1 rfl, hp.1.cell 2 rfl⟩
theorem rdS_one (u : World) (s8 : Int) : RdS (u.alloc (.cells #[.int .i8 s8] 71)) (some ⟨u.heap.size, 0, none⟩) 1 [s8] :=
  ⟨rfl, fun _ => ⟨u.heap.size, 0, rfl, by simp, fun j hj => by
    obtain rfl : j = 0 := by omega
    exact (Bk.new u 71 #[.int .i8 s8]).cell 0 rfl⟩⟩
theorem FPre.lay (hp : Hid (FPre W u h w c g4 g6)) (s8 : Int) : Hid (FPre1 W (u.alloc (.cells #[.int .i8 s8] 71)) h w c g4 g6 s8 u.heap.size) :=
  Lib.hid ⟨hp.out.below ((Below.refl _ u).alloc (Nat.le_refl _) _), rdS_one u s8⟩
theorem FPre.layD (hp : FPre W u h w c g4 g6) (s8 : Int) : Hid (FPre1 W (u.alloc (.cells #[.int .i8 s8] 71)).drew h w c g4 g6 s8 u.heap.size) :=
  Lib.hid ⟨hp.below (below_1 _), (rdS_one u s8).of_below (Below.refl _ _).drew⟩
theorem FPre.d (hp : FPre W u h w c g4 g6) : Hid (FPre W u.drew h w c g4 g6) := Lib.hid (hp.below (Below.refl _ u).drew)
theorem fpost (hp : FPre W u0 h w c g4 g6) (hr : RdS u (some ⟨q, 0, none⟩) N (List.replicate N s8)) (hb : Below u0.heap.size u0 u) (hq : u0.heap.size ≤ q) (h46 : g4 ≠ g6) (h6 : W.heap.size ≤ g6) :
    FPost W (u.setCell ⟨g6, 3, none⟩ (.slice (some ⟨q, 0, none⟩) N N)) h w c g4 g6 s8 N q := by
  have hl := hp.1.lt
  have hp' := hp.below hb
  exact ⟨hp'.1.set 3 _, hp'.2.1.far (p := ⟨g6, 3, none⟩) h46 _, hp'.2.2.setCell (p := ⟨g6, 3, none⟩) h6 _, hr.far (p := ⟨g6, 3, none⟩) (by show q ≠ g6; omega) _⟩
theorem fz0 (hN : szOf h w c = N) (hp : Hid (FPre W u0 h w c g4 g6)) :
    Calls Try.prog 42 #[.agg #[.int .i64 h, .int .i64 w, .int .i64 c]] u0 fun e u => e = .returned (.int .i64 (N : Int)) ∧ (u.cell? ⟨g6, 0, none⟩ = some (.int .i64 h) ∧ u.cell? ⟨g6, 1, none⟩ = some (.int .i64 w) ∧ u.cell? ⟨g6, 2, none⟩ = some (.int .i64 c)) ∧ Hid (FPre W u h w c g4 g6) :=
  (sizeI h w c u0).mono fun _ _ ⟨he, b⟩ => ⟨by rw [he, hN], (hp.out.below b).three, Lib.hid (hp.out.below b)⟩
theorem fz1 (hN : szOf h w c = N) (hp : Hid (FPre1 W u0 h w c g4 g6 s8 q)) :
    Calls Try.prog 42 #[.agg #[.int .i64 h, .int .i64 w, .int .i64 c]] u0 fun e u => e = .returned (.int .i64 (N : Int)) ∧ (u.cell? ⟨g6, 0, none⟩ = some (.int .i64 h) ∧ u.cell? ⟨g6, 1, none⟩ = some (.int .i64 w) ∧ u.cell? ⟨g6, 2, none⟩ = some (.int .i64 c)) ∧ Hid (FPre1 W u h w c g4 g6 s8 q) :=
  (sizeI h w c u0).mono fun _ _ ⟨he, b⟩ => ⟨by rw [he, hN], (hp.out.1.below b).three, Lib.hid ⟨hp.out.1.below b, hp.out.2.of_below b⟩⟩
theorem fr (hN : N ≤ 1048576) (hpos : 0 < N) (h46 : g4 ≠ g6) (h6 : W.heap.size ≤ g6) (hp : Hid (FPre1 W u0 h w c g4 g6 s8 q)) :
    Calls Try.prog 51 #[.slice (some ⟨q, 0, none⟩) 1 1, .int .i64 N] u0 fun e u => ∃ q, e = .returned (.slice (some ⟨q, 0, none⟩) N N) ∧ (u.cell? ⟨g6, 0, none⟩ = some (.int .i64 h) ∧ u.cell? ⟨g6, 1, none⟩ = some (.int .i64 w) ∧ u.cell? ⟨g6, 2, none⟩ = some (.int .i64 c)) ∧ (u.cell? ⟨g6, 3, none⟩ = some (.slice none 0 0) ∧ u.frozen? ⟨g6, 3, none⟩ = false) ∧ Hid (((u.setCell ⟨g6, 3, none⟩ (.slice (some ⟨q, 0, none⟩) N N)).cell? ⟨g6, 0, none⟩ = some (.int .i64 h) ∧ (u.setCell ⟨g6, 3, none⟩ (.slice (some ⟨q, 0, none⟩) N N)).cell? ⟨g6, 1, none⟩ = some (.int .i64 w) ∧ (u.setCell ⟨g6, 3, none⟩ (.slice (some ⟨q, 0, none⟩) N N)).cell? ⟨g6, 2, none⟩ = some (.int .i64 c)) ∧ FPost W (u.setCell ⟨g6, 3, none⟩ (.slice (some ⟨q, 0, none⟩) N N)) h w c g4 g6 s8 N q) :=
  (repeatI q 0 1 s8 N hN hpos u0 hp.out.2).mono fun _ u ⟨q, he, hq, hr, b⟩ => by
    have k := hp.out.1.below b
    have z := fpost hp.out.1 hr b hq h46 h6
    exact ⟨q, he, k.three, ⟨k.1.cell 3 rfl, k.1.frozen 3⟩, Lib.hid ⟨z.three, z⟩⟩
end

theorem fillI_no (h w c x : Int) (hs : shOk h w c = false) (W : World) :
    Calls Try.prog 28 #[.agg #[.int .i64 h, .int .i64 w, .int .i64 c], .int .i64 x] W (Filled W h w c x false) := by
  have HS := Lib.hid hs
  clear hs
  have a0 := ((Below.refl _ W).alloc (Nat.le_refl _) (.cells #[.int .i64 h, .int .i64 w, .int .i64 c] 25)).alloc (by simp) (.cells #[.int .i64 0, .int .i64 0, .int .i64 0, .slice none 0 0] 35)
  have k2 := (Bk.new W 25 #[.int .i64 h, .int .i64 w, .int .i64 c]).alloc (.cells #[.int .i64 0, .int .i64 0, .int .i64 0, .slice none 0 0] 35)
  have k4 := Bk.new (W.alloc (.cells #[.int .i64 h, .int .i64 w, .int .i64 c] 25)) 35 #[.int .i64 0, .int .i64 0, .int .i64 0, .slice none 0 0]
  simp only [World.size_alloc] at k4
  have i4 : W.heap.size ≤ W.heap.size + 1 := by omega
  go_enter Try.func28, Try.ntmps28
  go_wp2_with fail
  generalize (W.alloc (.cells #[.int .i64 h, .int .i64 w, .int .i64 c] 25)).alloc (.cells #[.int .i64 0, .int .i64 0, .int .i64 0, .slice none 0 0] 35) = v at k2 k4 a0 ⊢
  generalize W.heap.size + 1 = g4 at k4 i4 ⊢
  refine (sidesOfI h w c _).mono ?_
  rintro e u ⟨rfl, b1⟩
  have K4 := Lib.hid ((k4.below b1).alloc (.cells #[.int .i64 h, .int .i64 w, .int .i64 c, .slice none 0 0] 64))
  have K6 := Lib.hid (Bk.new u 64 #[.int .i64 h, .int .i64 w, .int .i64 c, .slice none 0 0])
  have A1 := a0.trans (b1.mono a0.size)
  have A0 := Lib.hid (A1.alloc A1.size (.cells #[.int .i64 h, .int .i64 w, .int .i64 c, .slice none 0 0] 64))
  have I4 := Lib.hid i4
  have I6 := Lib.hid A1.size
  have N46 := Lib.hid (show g4 ≠ u.heap.size from Nat.ne_of_lt (k4.below b1).lt)
  clear k2 k4 a0 b1 i4 A1
  go_wp2_with fail
  generalize u.alloc (.cells #[.int .i64 h, .int .i64 w, .int .i64 c, .slice none 0 0] 64) = v2 at K4 K6 A0 ⊢
  generalize u.heap.size = g6 at K6 N46 I6 ⊢
  refine (sidesOkI h w c false HS.out _).mono ?_
  rintro e u2 ⟨rfl, b2⟩
  replace K4 := Lib.hid (K4.out.below b2)
  replace K6 := Lib.hid (K6.out.below b2)
  replace A0 := Lib.hid (A0.out.trans (b2.mono A0.out.size))
  clear b2
  obtain ⟨j0, j1, j2, j3⟩ := K4.out.cell4
  obtain ⟨l0, l1, l2, l3⟩ := K4.out.free4
  go_wp2
  clear j0 j1 j2 j3 l0 l1 l2 l3
  have k9 := K4.out.set4 (x := .int .i64 0) (y := .int .i64 0) (z := .int .i64 0) (u := .slice none 0 0)
  have b9 := below_set4 A0.out I4.out (.int .i64 0) (.int .i64 0) (.int .i64 0) (.slice none 0 0)
  obtain ⟨z0, z1, z2, z3⟩ := k9.cell4
  have e0 : (szOf h w c).toNat = 0 := by rw [szOf_no HS.out]; rfl
  refine bodyPost_ret (v := .tuple #[.agg #[.int .i64 0, .int .i64 0, .int .i64 0, .slice none 0 0], .bool false]) ?_ rfl ⟨none, 0, by rw [e0]; rfl, fill_none _ _ h w c x HS.out, b9⟩
  clear k9 b9 K4 A0
  simp [results, Try.results28, go_sem, z0, z1, z2, z3]

theorem fillI_yes (h w c x : Int) (hs : shOk h w c = true) (W : World) :
    Calls Try.prog 28 #[.agg #[.int .i64 h, .int .i64 w, .int .i64 c], .int .i64 x] W (Filled W h w c x true) := by
  have HS := Lib.hid hs
  obtain ⟨N, hN⟩ : ∃ N : Nat, szOf h w c = N := ⟨(szOf h w c).toNat, by have := szOf_bd h w c; omega⟩
  have hN2 : Hid (N ≤ 1048576) := Lib.hid (by have := szOf_bd h w c; omega)
  have hp := szOf_yes hs
  have HP : Hid (0 < N) := Lib.hid (by omega)
  have HNN := Lib.hid hN
  have hbd := sat8_bd x
  have HF : Hid (∀ j, j < N → -128 ≤ (List.replicate N (sat8 x))[j]?.getD 0 ∧ (List.replicate N (sat8 x))[j]?.getD 0 ≤ 127) := Lib.hid (fun j hj => by simpa [hj] using hbd)
  clear hs hN hp hbd
  have a0 := ((Below.refl _ W).alloc (Nat.le_refl _) (.cells #[.int .i64 h, .int .i64 w, .int .i64 c] 25)).alloc (by simp) (.cells #[.int .i64 0, .int .i64 0, .int .i64 0, .slice none 0 0] 35)
  have k2 := (Bk.new W 25 #[.int .i64 h, .int .i64 w, .int .i64 c]).alloc (.cells #[.int .i64 0, .int .i64 0, .int .i64 0, .slice none 0 0] 35)
  have k4 := Bk.new (W.alloc (.cells #[.int .i64 h, .int .i64 w, .int .i64 c] 25)) 35 #[.int .i64 0, .int .i64 0, .int .i64 0, .slice none 0 0]
  simp only [World.size_alloc] at k4
  have i4 : W.heap.size ≤ W.heap.size + 1 := by omega
  go_enter Try.func28, Try.ntmps28
  go_wp2_with fail
  generalize (W.alloc (.cells #[.int .i64 h, .int .i64 w, .int .i64 c] 25)).alloc (.cells #[.int .i64 0, .int .i64 0, .int .i64 0, .slice none 0 0] 35) = v at k2 k4 a0 ⊢
  generalize W.heap.size + 1 = g4 at k4 i4 ⊢
  refine (sidesOfI h w c _).mono ?_
  rintro e u ⟨rfl, b1⟩
  have K4 := Lib.hid ((k4.below b1).alloc (.cells #[.int .i64 h, .int .i64 w, .int .i64 c, .slice none 0 0] 64))
  have K6 := Lib.hid (Bk.new u 64 #[.int .i64 h, .int .i64 w, .int .i64 c, .slice none 0 0])
  have A1 := a0.trans (b1.mono a0.size)
  have A0 := Lib.hid (A1.alloc A1.size (.cells #[.int .i64 h, .int .i64 w, .int .i64 c, .slice none 0 0] 64))
  have I4 := Lib.hid i4
  have I6 := Lib.hid A1.size
  have N46 := Lib.hid (show g4 ≠ u.heap.size from Nat.ne_of_lt (k4.below b1).lt)
  clear k2 k4 a0 b1 i4 A1
  go_wp2_with fail
  generalize u.alloc (.cells #[.int .i64 h, .int .i64 w, .int .i64 c, .slice none 0 0] 64) = v2 at K4 K6 A0 ⊢
  generalize u.heap.size = g6 at K6 N46 I6 ⊢
  refine (sidesOkI h w c true HS.out _).mono ?_
  rintro e u2 ⟨rfl, b2⟩
  replace K4 := Lib.hid (K4.out.below b2)
  replace K6 := Lib.hid (K6.out.below b2)
  replace A0 := Lib.hid (A0.out.trans (b2.mono A0.out.size))
  clear b2
  go_upto_region 4 with fail
  have P0 : FPre W u2 h w c g4 g6 := ⟨K6.out, K4.out, A0.out⟩
  obtain ⟨c0, c1, c2⟩ := P0.three
  have HP0 := Lib.hid P0
  clear P0 K4 K6 A0
  have Q := Lib.hid (smallOfI x)
  go_region_held3 (fun w' => w'.cell? ⟨g6, 0, none⟩ = some (.int .i64 h) ∧ w'.cell? ⟨g6, 1, none⟩ = some (.int .i64 w) ∧ w'.cell? ⟨g6, 2, none⟩ = some (.int .i64 c))
    (first
      | (with_reducible exact ⟨c0, c1, c2⟩)
      | (with_reducible exact ss)
      | (with_reducible exact hl.out.1)
      | go_keep)
    (first
      | (go_at_call 52; ((with_reducible refine (smallOfI _ _).mono ?_)); rintro e w' ⟨rfl, rfl⟩)
      | (go_at_call 42; ((with_reducible refine (fz0 HNN.out HP0.out.d).mono ?_)); rintro e a1 ⟨rfl, ss, hq⟩)
      | (go_at_call 42; ((with_reducible refine (fz1 HNN.out (HP0.out.layD _)).mono ?_)); rintro e a1 ⟨rfl, ss, hq⟩)
      | (go_at_call 51; ((with_reducible refine (fr hN2.out HP.out N46.out I6.out hq).mono ?_)); rintro e a3 ⟨q, rfl, ss, zz, hl⟩)
      | (go_at_call 51; ((with_reducible refine (fr hN2.out HP.out N46.out I6.out (FPre.lay hq _)).mono ?_)); rintro e a3 ⟨q, rfl, ss, zz, hl⟩)
      | fail)
  all_goals
    have P := hl.out.2
    clear hl ss zz hq c0 c1 c2 HP0 Q
    generalize a3.setCell { block := g6, off := 3 } (.slice (some { block := q, off := 0 }) N N) = wx at P ⊢
    obtain ⟨p6, p4, pb, pr⟩ := P
    obtain ⟨e0, e1, e2, e3⟩ := p6.cell4
    have K4 := Lib.hid p4
    have A0 := Lib.hid pb
    have RS := Lib.hid pr
    clear p6 p4 pb pr
    go_wp2_with fail
    clear e0 e1 e2 e3
    refine (tensorOfI h w c _ N N _ _ RS.out HP.out hN2.out HF.out).mono ?_
    rintro e u4 ⟨gr, rfl, hgr, rr, b4⟩
    have L4 := Lib.hid K4.out.lt
    have Z4 := Lib.hid A0.out.size
    have O4 := Lib.hid (Row.ownI (n := N) rr (by simp) hgr)
    replace K4 := Lib.hid (K4.out.below b4)
    replace A0 := Lib.hid (A0.out.trans (b4.mono A0.out.size))
    clear hgr rr b4 RS
    obtain ⟨j0, j1, j2, j3⟩ := K4.out.cell4
    obtain ⟨l0, l1, l2, l3⟩ := K4.out.free4
    go_wp2
    clear j0 j1 j2 j3 l0 l1 l2 l3
    have k9 := K4.out.set4 (x := .int .i64 h) (y := .int .i64 w) (z := .int .i64 c) (u := .slice (some ⟨gr, 0, none⟩) N N)
    have o9 := O4.out.farB L4.out (.int .i64 h) (.int .i64 w) (.int .i64 c) (.slice (some ⟨gr, 0, none⟩) N N)
    have b9 := below_set4 A0.out I4.out (.int .i64 h) (.int .i64 w) (.int .i64 c) (.slice (some ⟨gr, 0, none⟩) N N)
    obtain ⟨z0, z1, z2, z3⟩ := k9.cell4
    have eN : (szOf h w c).toNat = N := by rw [HNN.out]; rfl
    refine bodyPost_ret (v := .tuple #[.agg #[.int .i64 h, .int .i64 w, .int .i64 c, .slice (some ⟨gr, 0, none⟩) N N], .bool true]) ?_ rfl ⟨some ⟨gr, 0, none⟩, N, by rw [eN]; rfl, by rw [eN]; exact o9.base Z4.out, b9⟩
    clear k9 o9 b9 K4 O4 A0
    simp [results, Try.results28, go_sem, z0, z1, z2, z3]
end Qt
end Go.Proofs.Ytgbpomjdcglfmaa
