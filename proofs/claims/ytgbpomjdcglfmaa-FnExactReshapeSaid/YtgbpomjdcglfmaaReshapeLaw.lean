/- The law of Reshape returns true and writes nothing that was there, when the slice reads as a list. -/
import Derived.Test.YtgbpomjdcglfmaaRegions
import Derived.Test.YtgbpomjdcglfmaaTenLaws
import Derived.Test.YtgbpomjdcglfmaaOpen
namespace Go.Proofs.Ytgbpomjdcglfmaa
open Go.RowKit Go.Sort
namespace Qt

set_option maxHeartbeats 2000000 in
set_option maxRecDepth 100000 in
theorem reshapeLaw (h w c : Int) (A : Option Addr) (n p : Nat) (xs : List Int) (h2 w2 c2 : Int) (W : World) (hr : RdT W A n xs) :
    Calls Try.prog 9 #[.agg #[.int .i64 h, .int .i64 w, .int .i64 c, .slice A n p], .agg #[.int .i64 h2, .int .i64 w2, .int .i64 c2]] W fun e W' => e = .returned (.bool true) ∧ Below W.heap.size W W' := by
  obtain ⟨hr, hmax⟩ := hr
  have K1 := Lib.hid ((Bk.new W 31 #[.int .i64 h, .int .i64 w, .int .i64 c, .slice A n p]).alloc (.cells #[.int .i64 h2, .int .i64 w2, .int .i64 c2] 23))
  have k2 := Bk.new (W.alloc (.cells #[.int .i64 h, .int .i64 w, .int .i64 c, .slice A n p] 31)) 23 #[.int .i64 h2, .int .i64 w2, .int .i64 c2]
  have b0 := ((Below.refl _ W).alloc (Nat.le_refl _) (.cells #[.int .i64 h, .int .i64 w, .int .i64 c, .slice A n p] 31)).alloc (by simp) (.cells #[.int .i64 h2, .int .i64 w2, .int .i64 c2] 23)
  simp only [World.size_alloc] at k2
  have KS := Lib.hid k2
  have RW := Lib.hid hr
  have B := Lib.hid b0
  clear hr b0 k2
  go_enter Try.func9, Try.ntmps9
  go_wp2_with fail
  generalize (W.alloc (.cells #[.int .i64 h, .int .i64 w, .int .i64 c, .slice A n p] 31)).alloc (.cells #[.int .i64 h2, .int .i64 w2, .int .i64 c2] 23) = v at K1 KS B ⊢
  generalize W.heap.size + 1 = gS at KS ⊢
  by_cases hn : (n : Int) ≤ 1048576
  · have HN : Hid (n ≤ 1048576) := Lib.hid (by omega)
    have hn0 : (0 : Int) ≤ n := Int.natCast_nonneg n
    obtain ⟨x, y, z, r, hi⟩ := reIs h w c xs h2 w2 c2
    have HI := Lib.hid hi
    have hrr : (r != r) = false := by simp
    clear hi hmax
    refine (szTensor_yes h w c A n p 1048576 _ hn (by omega)).mono ?_
    rintro e u1 ⟨rfl, b1⟩
    replace K1 := Lib.hid (K1.out.below b1)
    replace KS := Lib.hid (KS.out.below b1)
    replace B := Lib.hid (B.out.trans (b1.mono B.out.size))
    clear b1
    go_upto_region 5 with fail
    go_cut [6, 7] (fun q6 q7 wx => ∃ k B cap, q6 = .pointer (some ⟨k, 0, none⟩) ∧ q7 = .bool r ∧ Res u1 wx x y z n xs k B cap)
    case first =>
      obtain ⟨c0, c1, c2', c3⟩ := K1.out.cell4
      obtain ⟨d0, d1, d2⟩ := KS.out.cell3
      go_region_held3 (fun w' => w'.cell? ⟨W.heap.size, 0, none⟩ = some (.int .i64 h) ∧ w'.cell? ⟨W.heap.size, 1, none⟩ = some (.int .i64 w) ∧ w'.cell? ⟨W.heap.size, 2, none⟩ = some (.int .i64 c) ∧ w'.cell? ⟨W.heap.size, 3, none⟩ = some (.slice A n p) ∧ w'.cell? ⟨gS, 0, none⟩ = some (.int .i64 h2) ∧ w'.cell? ⟨gS, 1, none⟩ = some (.int .i64 w2) ∧ w'.cell? ⟨gS, 2, none⟩ = some (.int .i64 c2))
        (first
          | (with_reducible exact ⟨c0, c1, c2', c3, d0, d1, d2⟩)
          | (with_reducible exact ss)
          | (with_reducible exact hl.out.1)
          | go_keep)
        (first
          | (go_at_call 20; ((with_reducible refine (tT0 K1.out KS.out (RW.out.of_below B.out) HN.out).mono ?_)); rintro e a1 ⟨q, rfl, ss, hp⟩)
          | (go_at_call 20; ((with_reducible refine (tT1 K1.out KS.out (RW.out.of_below B.out) HN.out).mono ?_)); rintro e a1 ⟨q, rfl, ss, hp⟩)
          | (go_at_call 14; ((with_reducible refine (tS0 K1.out KS.out hp).mono ?_)); rintro e a2 ⟨rfl, ss, hp⟩)
          | (go_at_call 14; ((with_reducible refine (tS1 K1.out KS.out hp).mono ?_)); rintro e a2 ⟨rfl, ss, hp⟩)
          | (go_at_call 14; ((with_reducible refine (tS1 K1.out KS.out (pre_lay hp)).mono ?_)); rintro e a2 ⟨rfl, ss, hp⟩)
          | (go_at_call 31; ((with_reducible refine (tR0 K1.out KS.out hp (reS h w c n n xs h2 w2 c2 x y z r HI.out _ _ hp.out.rd HN.out)).mono ?_)); rintro e a3 ⟨B, cap, rfl, ss, hl⟩)
          | (go_at_call 31; ((with_reducible refine (tR1 K1.out KS.out hp (reS h w c n n xs h2 w2 c2 x y z r HI.out _ _ hp.out.rd HN.out)).mono ?_)); rintro e a3 ⟨B, cap, rfl, ss, zz, hl⟩)
          | (go_at_call 31; ((with_reducible refine (tR1 K1.out KS.out (pre_lay hp) (reS h w c n n xs h2 w2 c2 x y z r HI.out _ _ (pre_lay hp).out.rd HN.out)).mono ?_)); rintro e a3 ⟨B, cap, rfl, ss, zz, hl⟩)
          | fail)
      all_goals go_wp2
      all_goals go_meet
      all_goals exact ⟨_, _, _, rfl, rfl, hl.out.2⟩
    case rest =>
      obtain ⟨kK4, BR, capR, rfl, rfl, hres⟩ := hcut
      have AOR_K4 := Lib.hid hres.2.2.2.2
      have OR := Lib.hid (hres.2.2.2.1.base B.out.size)
      have K4 := Lib.hid hres.2.2.1
      have hbb := hres.1
      clear hres
      replace K1 := Lib.hid (K1.out.below hbb)
      replace KS := Lib.hid (KS.out.below hbb)
      replace B := Lib.hid (B.out.trans (hbb.mono B.out.size))
      clear hbb
      obtain ⟨c0, c1, c2, c3⟩ := K1.out.cell4
      go_wp2_with fail
      clear c0 c1 c2 c3
      refine (toTensorO h w c A n p xs _ (RW.out.of_below B.out) HN.out).mono ?_
      rintro e u2 ⟨gX, rfl, _, o2, b2⟩
      have AOX_K1 := Lib.hid (o2.apart_old K1.out.lt)
      have AOX_KS := Lib.hid (o2.apart_old KS.out.lt)
      have AOX_K4 := Lib.hid (o2.apart_old K4.out.lt)
      have DOR_OX := Lib.hid (apart2 OR.out o2 (Nat.le_refl _))
      have OX := Lib.hid (o2.base B.out.size)
      replace K1 := Lib.hid (K1.out.below b2)
      replace KS := Lib.hid (KS.out.below b2)
      replace OR := Lib.hid (OR.out.of_below b2)
      replace K4 := Lib.hid (K4.out.below b2)
      replace B := Lib.hid (B.out.trans (b2.mono B.out.size))
      clear b2 o2
      go_upto_region 7 with fail
      have AOX_K6 := Lib.hid (OX.out.apart_new)
      have a2 := (Below.refl _ u2).alloc (Nat.le_refl _) (.cells #[.int .i64 h, .int .i64 w, .int .i64 c, .slice (some ⟨gX, 0, none⟩) n n] 35)
      have K6 := Lib.hid (Bk.new u2 35 #[.int .i64 h, .int .i64 w, .int .i64 c, .slice (some ⟨gX, 0, none⟩) n n])
      replace K1 := Lib.hid (K1.out.below a2)
      replace KS := Lib.hid (KS.out.below a2)
      replace OR := Lib.hid (OR.out.of_below a2)
      replace K4 := Lib.hid (K4.out.below a2)
      replace OX := Lib.hid (OX.out.of_below a2)
      replace B := Lib.hid (B.out.trans (a2.mono B.out.size))
      clear a2
      generalize u2.alloc (.cells #[.int .i64 h, .int .i64 w, .int .i64 c, .slice (some ⟨gX, 0, none⟩) n n] 35) = v2 at K1 KS OR K4 OX K6 B ⊢
      generalize u2.heap.size = x2 at K6 AOX_K6 ⊢
      go_cut [9, 10] (fun q9 q10 wx => ∃ k B cap, q9 = .pointer (some ⟨k, 0, none⟩) ∧ q10 = .bool r ∧ Res v2 wx x y z n xs k B cap)
      case first =>
        obtain ⟨c0, c1, c2', c3⟩ := K6.out.cell4
        obtain ⟨d0, d1, d2⟩ := KS.out.cell3
        go_region_held3 (fun w' => w'.cell? ⟨x2, 0, none⟩ = some (.int .i64 h) ∧ w'.cell? ⟨x2, 1, none⟩ = some (.int .i64 w) ∧ w'.cell? ⟨x2, 2, none⟩ = some (.int .i64 c) ∧ w'.cell? ⟨x2, 3, none⟩ = some (.slice (some ⟨gX, 0, none⟩) n n) ∧ w'.cell? ⟨gS, 0, none⟩ = some (.int .i64 h2) ∧ w'.cell? ⟨gS, 1, none⟩ = some (.int .i64 w2) ∧ w'.cell? ⟨gS, 2, none⟩ = some (.int .i64 c2))
          (first
            | (with_reducible exact ⟨c0, c1, c2', c3, d0, d1, d2⟩)
            | (with_reducible exact ss)
            | (with_reducible exact hl.out.1)
            | go_keep)
          (first
            | (go_at_call 14; ((with_reducible refine (tS0 K6.out KS.out (pre0 OX.out.rdI)).mono ?_)); rintro e a2 ⟨rfl, ss, hp⟩)
            | (go_at_call 14; ((with_reducible refine (tS1 K6.out KS.out (pre1 OX.out.rdI)).mono ?_)); rintro e a2 ⟨rfl, ss, hp⟩)
            | (go_at_call 32; ((with_reducible refine (tR0 K6.out KS.out hp (reI h w c n n xs h2 w2 c2 x y z r HI.out _ _ hp.out.rd HN.out)).mono ?_)); rintro e a3 ⟨B, cap, rfl, ss, hl⟩)
            | (go_at_call 32; ((with_reducible refine (tR1 K6.out KS.out hp (reI h w c n n xs h2 w2 c2 x y z r HI.out _ _ hp.out.rd HN.out)).mono ?_)); rintro e a3 ⟨B, cap, rfl, ss, zz, hl⟩)
            | (go_at_call 32; ((with_reducible refine (tR1 K6.out KS.out (pre_lay hp) (reI h w c n n xs h2 w2 c2 x y z r HI.out _ _ (pre_lay hp).out.rd HN.out)).mono ?_)); rintro e a3 ⟨B, cap, rfl, ss, zz, hl⟩)
            | fail)
        all_goals go_wp2
        all_goals go_meet
        all_goals exact ⟨_, _, _, rfl, rfl, hl.out.2⟩
      case rest =>
        obtain ⟨kK7, BY, capY, rfl, rfl, hres⟩ := hcut
        have AOY_K1 := Lib.hid (hres.2.2.2.1.apart_old K1.out.lt)
        have AOY_KS := Lib.hid (hres.2.2.2.1.apart_old KS.out.lt)
        have AOY_K4 := Lib.hid (hres.2.2.2.1.apart_old K4.out.lt)
        have DOR_OY := Lib.hid (apart2 OR.out hres.2.2.2.1 (Nat.le_refl _))
        have DOX_OY := Lib.hid (apart2 OX.out hres.2.2.2.1 (Nat.le_refl _))
        have AOX_K7 := Lib.hid (OX.out.apart_far hres.2.1)
        have AOY_K7 := Lib.hid hres.2.2.2.2
        have OY := Lib.hid (hres.2.2.2.1.base B.out.size)
        have K7 := Lib.hid hres.2.2.1
        have hbb := hres.1
        clear hres
        replace K1 := Lib.hid (K1.out.below hbb)
        replace KS := Lib.hid (KS.out.below hbb)
        replace OR := Lib.hid (OR.out.of_below hbb)
        replace K4 := Lib.hid (K4.out.below hbb)
        replace OX := Lib.hid (OX.out.of_below hbb)
        replace K6 := Lib.hid (K6.out.below hbb)
        replace B := Lib.hid (B.out.trans (hbb.mono B.out.size))
        clear hbb
        obtain ⟨c0, c1, c2, c3⟩ := K7.out.cell4
        obtain ⟨d0, d1, d2, d3⟩ := K4.out.cell4
        go_wp2_with fail
        clear c0 c1 c2 c3 d0 d1 d2 d3
        refine (eqTensor_same x y z BY BR n capY capR xs _ OY.out.rdI OR.out.rdI HN.out).mono ?_
        rintro e u3 ⟨rfl, b3⟩
        replace K1 := Lib.hid (K1.out.below b3)
        replace KS := Lib.hid (KS.out.below b3)
        replace OR := Lib.hid (OR.out.of_below b3)
        replace K4 := Lib.hid (K4.out.below b3)
        replace OX := Lib.hid (OX.out.of_below b3)
        replace K6 := Lib.hid (K6.out.below b3)
        replace OY := Lib.hid (OY.out.of_below b3)
        replace K7 := Lib.hid (K7.out.below b3)
        replace B := Lib.hid (B.out.trans (b3.mono B.out.size))
        clear b3
        have RA := Lib.hid (RW.out.of_below B.out)
        have RX := Lib.hid OX.out.rdI
        obtain ⟨c0, c1, c2, c3⟩ := K1.out.cell4
        obtain ⟨d0, d1, d2, d3⟩ := K6.out.cell4
        go_wp2_with fail
        go_region_held3 (fun w' => w'.cell? ⟨x2, 0, none⟩ = some (.int .i64 h) ∧ w'.cell? ⟨x2, 1, none⟩ = some (.int .i64 w) ∧ w'.cell? ⟨x2, 2, none⟩ = some (.int .i64 c) ∧ w'.cell? ⟨x2, 3, none⟩ = some (.slice (some ⟨gX, 0, none⟩) n n) ∧
            w'.cell? ⟨W.heap.size, 0, none⟩ = some (.int .i64 h) ∧ w'.cell? ⟨W.heap.size, 1, none⟩ = some (.int .i64 w) ∧ w'.cell? ⟨W.heap.size, 2, none⟩ = some (.int .i64 c) ∧ w'.cell? ⟨W.heap.size, 3, none⟩ = some (.slice A n p) ∧ Hid (Below u3.heap.size u3 w'))
          (first
            | exact ⟨d0, d1, d2, d3, c0, c1, c2, c3, Lib.hid (Below.refl _ u3).drew⟩
            | exact keep8 bb ⟨d0, d1, d2, d3, c0, c1, c2, c3, Lib.hid (Below.refl _ u3).drew⟩
            | exact keep8 bb (by assumption))
          (first
            | (go_at_call 20; refine (toTensorL h w c A n p xs _ (RA.out.of_below (Below.refl _ u3).drew) HN.out).mono ?_; rintro e w' ⟨gz, rfl, _, rz, bb⟩; have RZ := Lib.hid rz; have XZ := Lib.hid ((RX.out.of_below (Below.refl _ u3).drew).of_below bb); clear rz)
            | (go_at_call 22; refine (eqTensor_same h w c _ _ n n n xs _ XZ.out RZ.out HN.out).mono ?_; rintro e uf4 ⟨rfl, bb⟩))
        rename_i hh
        have b4 := Hid.out hh.2.2.2.2.2.2.2.2
        clear hh bb RZ XZ c0 c1 c2 c3 d0 d1 d2 d3
        clear RA RX
        replace K1 := Lib.hid (K1.out.below b4)
        replace KS := Lib.hid (KS.out.below b4)
        replace OR := Lib.hid (OR.out.of_below b4)
        replace K4 := Lib.hid (K4.out.below b4)
        replace OX := Lib.hid (OX.out.of_below b4)
        replace K6 := Lib.hid (K6.out.below b4)
        replace OY := Lib.hid (OY.out.of_below b4)
        replace K7 := Lib.hid (K7.out.below b4)
        replace B := Lib.hid (B.out.trans (b4.mono B.out.size))
        clear b4
        obtain ⟨c0, c1, c2, c3⟩ := K6.out.cell4
        go_wp2_with fail
        clear c0 c1 c2 c3
        clear K6
        obtain ⟨m5, s5, l5⟩ := OX.out.spot B.out.size
        refine (markTensor_own h w c (some ⟨gX, 0, none⟩) n n W.heap.size m5 xs 1 _ OX.out s5.1 HN.out (by decide) (by decide)).mono ?_
        rintro e u5 ⟨rfl, o5, b5⟩
        replace K1 := Lib.hid (K1.out.marked b5 s5 AOX_K1.out)
        replace KS := Lib.hid (KS.out.marked b5 s5 AOX_KS.out)
        replace OR := Lib.hid (OR.out.marked b5 s5 DOR_OX.out.symm)
        replace K4 := Lib.hid (K4.out.marked b5 s5 AOX_K4.out)
        replace OY := Lib.hid (OY.out.marked b5 s5 DOX_OY.out)
        replace K7 := Lib.hid (K7.out.marked b5 s5 AOX_K7.out)
        replace B := Lib.hid (below_marked B.out b5 l5)
        replace OX := Lib.hid o5
        clear b5 s5 l5 o5
        clear OX
        obtain ⟨c0, c1, c2, c3⟩ := K7.out.cell4
        obtain ⟨d0, d1, d2, d3⟩ := K4.out.cell4
        go_wp2_with fail
        clear c0 c1 c2 c3 d0 d1 d2 d3
        refine (eqTensor_same x y z BY BR n capY capR xs _ OY.out.rdI OR.out.rdI HN.out).mono ?_
        rintro e u6 ⟨rfl, b6⟩
        replace K1 := Lib.hid (K1.out.below b6)
        replace KS := Lib.hid (KS.out.below b6)
        replace OR := Lib.hid (OR.out.of_below b6)
        replace K4 := Lib.hid (K4.out.below b6)
        replace OY := Lib.hid (OY.out.of_below b6)
        replace K7 := Lib.hid (K7.out.below b6)
        replace B := Lib.hid (B.out.trans (b6.mono B.out.size))
        clear b6
        obtain ⟨c0, c1, c2, c3⟩ := K7.out.cell4
        go_wp2_with fail
        clear c0 c1 c2 c3
        obtain ⟨m7, s7, l7⟩ := OY.out.spot B.out.size
        refine (markTensor_own x y z BY n capY W.heap.size m7 xs 1 _ OY.out s7.1 HN.out (by decide) (by decide)).mono ?_
        rintro e u7 ⟨rfl, o7, b7⟩
        replace K1 := Lib.hid (K1.out.marked b7 s7 AOY_K1.out)
        replace KS := Lib.hid (KS.out.marked b7 s7 AOY_KS.out)
        replace OR := Lib.hid (OR.out.marked b7 s7 DOR_OY.out.symm)
        replace K4 := Lib.hid (K4.out.marked b7 s7 AOY_K4.out)
        replace K7 := Lib.hid (K7.out.marked b7 s7 AOY_K7.out)
        replace B := Lib.hid (below_marked B.out b7 l7)
        replace OY := Lib.hid o7
        clear b7 s7 l7 o7
        obtain ⟨c0, c1, c2, c3⟩ := K7.out.cell4
        go_wp2_with fail
        clear c0 c1 c2 c3
        refine (heldTensor_own x y z BY n capY W.heap.size 1 _ OY.out HN.out (by decide) (by decide)).mono ?_
        rintro e u8 ⟨rfl, b8⟩
        replace K1 := Lib.hid (K1.out.below b8)
        replace KS := Lib.hid (KS.out.below b8)
        replace OR := Lib.hid (OR.out.of_below b8)
        replace K4 := Lib.hid (K4.out.below b8)
        replace K7 := Lib.hid (K7.out.below b8)
        replace OY := Lib.hid (OY.out.of_below b8)
        replace B := Lib.hid (B.out.trans (b8.mono B.out.size))
        clear b8
        go_upto_region 24 with fail
        go_cut [14, 15] (fun q14 q15 wx => ∃ k B cap, q14 = .pointer (some ⟨k, 0, none⟩) ∧ q15 = .bool r ∧ Res u8 wx x y z n xs k B cap)
        case first =>
          obtain ⟨c0, c1, c2', c3⟩ := K1.out.cell4
          obtain ⟨d0, d1, d2⟩ := KS.out.cell3
          go_region_held3 (fun w' => w'.cell? ⟨W.heap.size, 0, none⟩ = some (.int .i64 h) ∧ w'.cell? ⟨W.heap.size, 1, none⟩ = some (.int .i64 w) ∧ w'.cell? ⟨W.heap.size, 2, none⟩ = some (.int .i64 c) ∧ w'.cell? ⟨W.heap.size, 3, none⟩ = some (.slice A n p) ∧ w'.cell? ⟨gS, 0, none⟩ = some (.int .i64 h2) ∧ w'.cell? ⟨gS, 1, none⟩ = some (.int .i64 w2) ∧ w'.cell? ⟨gS, 2, none⟩ = some (.int .i64 c2))
            (first
              | (with_reducible exact ⟨c0, c1, c2', c3, d0, d1, d2⟩)
              | (with_reducible exact ss)
              | (with_reducible exact hl.out.1)
              | go_keep)
            (first
              | (go_at_call 20; ((with_reducible refine (tT0 K1.out KS.out (RW.out.of_below B.out) HN.out).mono ?_)); rintro e a1 ⟨q, rfl, ss, hp⟩)
              | (go_at_call 20; ((with_reducible refine (tT1 K1.out KS.out (RW.out.of_below B.out) HN.out).mono ?_)); rintro e a1 ⟨q, rfl, ss, hp⟩)
              | (go_at_call 14; ((with_reducible refine (tS0 K1.out KS.out hp).mono ?_)); rintro e a2 ⟨rfl, ss, hp⟩)
              | (go_at_call 14; ((with_reducible refine (tS1 K1.out KS.out hp).mono ?_)); rintro e a2 ⟨rfl, ss, hp⟩)
              | (go_at_call 14; ((with_reducible refine (tS1 K1.out KS.out (pre_lay hp)).mono ?_)); rintro e a2 ⟨rfl, ss, hp⟩)
              | (go_at_call 32; ((with_reducible refine (tR0 K1.out KS.out hp (reI h w c n n xs h2 w2 c2 x y z r HI.out _ _ hp.out.rd HN.out)).mono ?_)); rintro e a3 ⟨B, cap, rfl, ss, hl⟩)
              | (go_at_call 32; ((with_reducible refine (tR1 K1.out KS.out hp (reI h w c n n xs h2 w2 c2 x y z r HI.out _ _ hp.out.rd HN.out)).mono ?_)); rintro e a3 ⟨B, cap, rfl, ss, zz, hl⟩)
              | (go_at_call 32; ((with_reducible refine (tR1 K1.out KS.out (pre_lay hp) (reI h w c n n xs h2 w2 c2 x y z r HI.out _ _ (pre_lay hp).out.rd HN.out)).mono ?_)); rintro e a3 ⟨B, cap, rfl, ss, zz, hl⟩)
              | fail)
          all_goals go_wp2
          all_goals go_meet
          all_goals exact ⟨_, _, _, rfl, rfl, hl.out.2⟩
        case rest =>
          obtain ⟨kK12, BZ, capZ, rfl, rfl, hres⟩ := hcut
          have AOZ_K12 := Lib.hid hres.2.2.2.2
          have OZ := Lib.hid (hres.2.2.2.1.base B.out.size)
          have K12 := Lib.hid hres.2.2.1
          have hbb := hres.1
          clear hres
          replace K1 := Lib.hid (K1.out.below hbb)
          replace KS := Lib.hid (KS.out.below hbb)
          replace OR := Lib.hid (OR.out.of_below hbb)
          replace K4 := Lib.hid (K4.out.below hbb)
          replace K7 := Lib.hid (K7.out.below hbb)
          replace OY := Lib.hid (OY.out.of_below hbb)
          replace B := Lib.hid (B.out.trans (hbb.mono B.out.size))
          clear hbb
          obtain ⟨c0, c1, c2, c3⟩ := K12.out.cell4
          obtain ⟨d0, d1, d2, d3⟩ := K4.out.cell4
          go_wp2_with fail
          clear c0 c1 c2 c3 d0 d1 d2 d3
          refine (eqTensor_same x y z BZ BR n capZ capR xs _ OZ.out.rdI OR.out.rdI HN.out).mono ?_
          rintro e u9 ⟨rfl, b9⟩
          replace K1 := Lib.hid (K1.out.below b9)
          replace KS := Lib.hid (KS.out.below b9)
          replace OR := Lib.hid (OR.out.of_below b9)
          replace K4 := Lib.hid (K4.out.below b9)
          replace K7 := Lib.hid (K7.out.below b9)
          replace OY := Lib.hid (OY.out.of_below b9)
          replace OZ := Lib.hid (OZ.out.of_below b9)
          replace K12 := Lib.hid (K12.out.below b9)
          replace B := Lib.hid (B.out.trans (b9.mono B.out.size))
          clear b9
          obtain ⟨c0, c1, c2, c3⟩ := K7.out.cell4
          go_wp2_with fail
          clear c0 c1 c2 c3
          refine (heldTensor_own x y z BY n capY W.heap.size 1 _ OY.out HN.out (by decide) (by decide)).mono ?_
          rintro e u10 ⟨rfl, b10⟩
          replace K1 := Lib.hid (K1.out.below b10)
          replace KS := Lib.hid (KS.out.below b10)
          replace OR := Lib.hid (OR.out.of_below b10)
          replace K4 := Lib.hid (K4.out.below b10)
          replace K7 := Lib.hid (K7.out.below b10)
          replace OY := Lib.hid (OY.out.of_below b10)
          replace OZ := Lib.hid (OZ.out.of_below b10)
          replace K12 := Lib.hid (K12.out.below b10)
          replace B := Lib.hid (B.out.trans (b10.mono B.out.size))
          clear b10
          go_wp2
          go_ret
          exact ⟨rfl, B.out⟩
  · have hn2 : (1048576 : Int) < (n : Int) := by omega
    clear hn
    refine (szTensor_no h w c A n p 1048576 _ hn2 (by omega) hmax).mono ?_
    rintro e u1 ⟨rfl, b1⟩
    have BF := Lib.hid (B.out.trans (b1.mono B.out.size))
    clear b1
    go_wp2
    go_ret
    exact ⟨rfl, BF.out⟩
end Qt
end Go.Proofs.Ytgbpomjdcglfmaa
