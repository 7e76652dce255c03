/- Reshape of the program: what it gives when it is called. Conditions: the slice lies somewhere and reads as the list that is named. -/
import Derived.Test.YtgbpomjdcglfmaaReshape
import Derived.Lib.QuietBelow
namespace Go.Proofs.Ytgbpomjdcglfmaa
open Go.RowKit Go.Sort
namespace Qt
theorem Row.ownI {w : World} {B g n : Nat} {xs : List Int} (h : Row w g xs) (hl : xs.length = n) (hB : B ≤ g) : OwnI B w (some ⟨g, 0, none⟩) n xs :=
  ⟨hl, fun _ => ⟨g, rfl, hB, Bk.lt h, fun j hj => ⟨by rw [h.cell j (by omega)]; simp [List.getD_eq_getElem?_getD], Bk.frozen h j⟩⟩⟩
theorem szOf_pos {h w c : Int} (hn : szOf h w c ≠ 0) : shOk h w c = true := by
  rcases hs : shOk h w c with _ | _
  · exact absurd (szOf_no hs) hn
  · rfl
theorem RdS.lt0 {w : World} {g n : Nat} {xs : List Int} (h : RdS w (some ⟨g, 0, none⟩) n xs) (hn : 0 < n) : g < w.heap.size := by
  obtain ⟨b, off, e, hl, _⟩ := h.2 hn
  cases e; exact hl
theorem RdS.far3 {w : World} {g n : Nat} {xs : List Int} (h : RdS w (some ⟨g, 0, none⟩) n xs) {b : Nat} (hb : g ≠ b) (x y z : Value) : RdS (((w.setCell ⟨b, 0, none⟩ x).setCell ⟨b, 1, none⟩ y).setCell ⟨b, 2, none⟩ z) (some ⟨g, 0, none⟩) n xs :=
  ((h.far (p := ⟨b, 0, none⟩) hb x).far (p := ⟨b, 1, none⟩) hb y).far (p := ⟨b, 2, none⟩) hb z
theorem reshapeI (h w c : Int) (b off n p : Nat) (xs : List Int) (h2 w2 c2 : Int) (W : World) (hr : RdI W (some ⟨b, off, none⟩) n xs) (hn : n ≤ 1048576) :
    Calls Try.prog 32 #[.agg #[.int .i64 h, .int .i64 w, .int .i64 c, .slice (some ⟨b, off, none⟩) n p], .agg #[.int .i64 h2, .int .i64 w2, .int .i64 c2]] W (Reshaped W h w c n xs h2 w2 c2) := by
  have HN := Lib.hid hn
  have HL := Lib.hid hr.1
  obtain ⟨r, hrr⟩ : ∃ r, reOk h w c xs h2 w2 c2 = r := ⟨_, rfl⟩
  have a0 : Below W.heap.size W (((W.alloc (.cells #[.int .i64 h, .int .i64 w, .int .i64 c, .slice (some ⟨b, off, none⟩) n p] 35)).alloc (.cells #[.int .i64 h2, .int .i64 w2, .int .i64 c2] 25)).alloc (.cells #[.int .i64 0, .int .i64 0, .int .i64 0, .slice none 0 0] 35)) := (((Below.refl _ W).alloc (Nat.le_refl _) _).alloc (by simp) _).alloc (by simp only [World.size_alloc]; omega) _
  have k2 := ((Bk.new W 35 #[.int .i64 h, .int .i64 w, .int .i64 c, .slice (some ⟨b, off, none⟩) n p]).alloc (.cells #[.int .i64 h2, .int .i64 w2, .int .i64 c2] 25)).alloc (.cells #[.int .i64 0, .int .i64 0, .int .i64 0, .slice none 0 0] 35)
  have k3 := (Bk.new (W.alloc (.cells #[.int .i64 h, .int .i64 w, .int .i64 c, .slice (some ⟨b, off, none⟩) n p] 35)) 25 #[.int .i64 h2, .int .i64 w2, .int .i64 c2]).alloc (.cells #[.int .i64 0, .int .i64 0, .int .i64 0, .slice none 0 0] 35)
  have k4 := Bk.new ((W.alloc (.cells #[.int .i64 h, .int .i64 w, .int .i64 c, .slice (some ⟨b, off, none⟩) n p] 35)).alloc (.cells #[.int .i64 h2, .int .i64 w2, .int .i64 c2] 25)) 35 #[.int .i64 0, .int .i64 0, .int .i64 0, .slice none 0 0]
  have r0 := hr.of_below a0
  simp only [World.size_alloc] at k3 k4
  have i3 : W.heap.size ≤ W.heap.size + 1 + 1 := by omega
  have HRR := Lib.hid hrr
  clear hr hn hrr
  go_enter Try.func32, Try.ntmps32
  go_wp2_with fail
  generalize ((W.alloc (.cells #[.int .i64 h, .int .i64 w, .int .i64 c, .slice (some ⟨b, off, none⟩) n p] 35)).alloc (.cells #[.int .i64 h2, .int .i64 w2, .int .i64 c2] 25)).alloc (.cells #[.int .i64 0, .int .i64 0, .int .i64 0, .slice none 0 0] 35) = v at k2 k3 k4 a0 r0 ⊢
  generalize W.heap.size + 1 + 1 = g4 at k4 i3 ⊢
  generalize W.heap.size + 1 = g3 at k3 ⊢
  have K2 := Lib.hid k2; have K3 := Lib.hid k3; have K4 := Lib.hid k4; have A0 := Lib.hid a0; have R0 := Lib.hid r0; have I3 := Lib.hid i3
  clear k2 k3 k4 a0 r0 i3
  rcases hb : tOk h w c xs with _ | _
  · obtain rfl : r = false := by rw [← HRR.out]; simp [reOk, hb]
    refine (blockOf_not h w c _ n p xs hb _ R0.out HN.out).mono ?_
    rintro e u1 ⟨rfl, b1⟩
    replace K2 := Lib.hid (K2.out.below b1); replace K3 := Lib.hid (K3.out.below b1); replace K4 := Lib.hid (K4.out.below b1)
    replace A0 := Lib.hid (A0.out.trans (b1.mono A0.out.size)); replace R0 := Lib.hid (R0.out.of_below b1)
    clear b1 hb
    go_wp2_with fail
    have ba := (Below.refl _ u1).alloc (Nat.le_refl _) (.cells #[.int .i64 0, .int .i64 0, .int .i64 0, .slice none 0 0] 64)
    replace K2 := Lib.hid (K2.out.below ba); replace K3 := Lib.hid (K3.out.below ba); replace K4 := Lib.hid (K4.out.below ba)
    replace A0 := Lib.hid (A0.out.trans (ba.mono A0.out.size)); replace R0 := Lib.hid (R0.out.of_below ba)
    clear ba
    generalize u1.alloc (.cells #[.int .i64 0, .int .i64 0, .int .i64 0, .slice none 0 0] 64) = y at K2 K3 K4 R0 A0 ⊢
    refine wp_region_quiet_below mixed (by kernel_rfl) ?_
    repeat (go_big_quiet_step (fail))
    refine wpQuiet_nil ?_
    intro _ hw'
    obtain ⟨⟨dq, osq⟩, rfl⟩ := hw'
    have hbq := below_regrown y dq osq
    replace K2 := Lib.hid (K2.out.below hbq); replace K3 := Lib.hid (K3.out.below hbq); replace K4 := Lib.hid (K4.out.below hbq)
    replace A0 := Lib.hid (A0.out.trans (hbq.mono A0.out.size)); replace R0 := Lib.hid (R0.out.of_below hbq)
    clear hbq
    generalize grow (redrawn y dq) osq = z at K2 K3 K4 R0 A0 ⊢
    obtain ⟨c0, c1, c2', c3⟩ := K2.out.cell4
    go_wp2_with fail
    clear c0 c1 c2' c3
    refine (copyOfI h w c b off n p xs _ R0.out HN.out).mono ?_
    rintro e u2 ⟨B, cap2, rfl, o2, b2⟩
    have L4 := Lib.hid K4.out.lt
    have Z4 := Lib.hid A0.out.size
    replace K4 := Lib.hid (K4.out.below b2)
    replace A0 := Lib.hid (A0.out.trans (b2.mono A0.out.size))
    have O2 := Lib.hid o2
    clear o2 b2 K2 K3 R0
    obtain ⟨j0, j1, j2, j3⟩ := K4.out.cell4
    obtain ⟨l0, l1, l2, l3⟩ := K4.out.free4
    go_wp2
    clear j0 j1 j2 j3 l0 l1 l2 l3
    have k9 := K4.out.set4 (x := .int .i64 h) (y := .int .i64 w) (z := .int .i64 c) (u := .slice B n cap2)
    have o9 := O2.out.farB L4.out (.int .i64 h) (.int .i64 w) (.int .i64 c) (.slice B n cap2)
    have b9 := below_set4 A0.out I3.out (.int .i64 h) (.int .i64 w) (.int .i64 c) (.slice B n cap2)
    obtain ⟨z0, z1, z2, z3⟩ := k9.cell4
    refine bodyPost_ret (v := .tuple #[.agg #[.int .i64 h, .int .i64 w, .int .i64 c, .slice B n cap2], .bool false]) ?_ rfl (Reshaped.no HRR.out (o9.base Z4.out) b9)
    clear k9 o9 b9 K4 O2 A0
    simp [results, Try.results32, go_sem, z0, z1, z2, z3]
  · have hz := szOf_bd h2 w2 c2
    have hn0 : (0 : Int) ≤ n := Int.natCast_nonneg n
    have ht := tOk_iff.1 hb
    have hpos : 0 < n := by have h1 := szOf_yes ht.1; have h2 := ht.2.1; have := HL.out; omega
    have hfit : ∀ j, j < n → -128 ≤ xs[j]?.getD 0 ∧ xs[j]?.getD 0 ≤ 127 := fun j hj => by
      have hx : j < xs.length := by have := HL.out; omega
      have := ht.2.2 _ (List.getElem_mem hx)
      simpa [hx] using this
    have HF := Lib.hid hfit
    have HP := Lib.hid hpos
    refine (blockOf_ok h w c _ n p xs hb _ R0.out HN.out).mono ?_
    rintro e u1 ⟨g, cap, rfl, hg, r1, b1⟩
    replace K2 := Lib.hid (K2.out.below b1); replace K3 := Lib.hid (K3.out.below b1); replace K4 := Lib.hid (K4.out.below b1)
    replace A0 := Lib.hid (A0.out.trans (b1.mono A0.out.size)); replace R0 := Lib.hid (R0.out.of_below b1)
    have RS := Lib.hid r1
    have NG := Lib.hid (show g ≠ u1.heap.size from Nat.ne_of_lt (r1.lt0 hpos))
    have N4 := Lib.hid (show g4 ≠ u1.heap.size from Nat.ne_of_lt K4.out.lt)
    have L6 := Lib.hid A0.out.size
    clear b1 r1 hg ht hpos hfit
    go_wp2_with fail
    have ba := (Below.refl _ u1).alloc (Nat.le_refl _) (.cells #[.int .i64 h, .int .i64 w, .int .i64 c, .slice (some ⟨g, 0, none⟩) n cap] 64)
    replace K2 := Lib.hid (K2.out.below ba); replace K3 := Lib.hid (K3.out.below ba); replace K4 := Lib.hid (K4.out.below ba)
    replace A0 := Lib.hid (A0.out.trans (ba.mono A0.out.size)); replace R0 := Lib.hid (R0.out.of_below ba)
    replace RS := Lib.hid (RS.out.of_below ba)
    clear ba
    have K6 := Lib.hid (Bk.new u1 64 #[.int .i64 h, .int .i64 w, .int .i64 c, .slice (some ⟨g, 0, none⟩) n cap])
    generalize u1.alloc (.cells #[.int .i64 h, .int .i64 w, .int .i64 c, .slice (some ⟨g, 0, none⟩) n cap] 64) = y at K2 K3 K4 K6 R0 RS A0 ⊢
    generalize u1.heap.size = g6 at K6 NG N4 L6 ⊢
    have m0 := cell_regrown (K3.out.cell 0 rfl); have m1 := cell_regrown (K3.out.cell 1 rfl); have m2 := cell_regrown (K3.out.cell 2 rfl)
    have n3 := cell_regrown (K6.out.cell 3 rfl)
    have q0 := Lib.hid (fun d os => Calls.regrown_of (sizeOfI h2 w2 c2 (grow (redrawn y d) os)))
    have hn1 : (n : Int) ≤ 1048576 := by have := HN.out; omega
    by_cases hlen : szOf h2 w2 c2 = (n : Int)
    · obtain rfl : r = true := by rw [← HRR.out]; have := HL.out; have := HP.out; simp [reOk, hb, szOf_pos (h := h2) (w := w2) (c := c2) (by omega)]; omega
      have hd : (szOf h2 w2 c2 != (n : Int)) = false := by simpa using hlen
      clear hb hlen
      refine wp_region_quiet_below mixed (by kernel_rfl) ?_
      repeat (go_big_quiet_step (first | exact q0.out _ _))
      refine wpQuiet_nil ?_
      intro _ hw'
      obtain ⟨⟨dq, osq⟩, rfl⟩ := hw'
      have hbq := below_regrown y dq osq
      replace K2 := Lib.hid (K2.out.below hbq); replace K3 := Lib.hid (K3.out.below hbq); replace K4 := Lib.hid (K4.out.below hbq)
      replace A0 := Lib.hid (A0.out.trans (hbq.mono A0.out.size)); replace R0 := Lib.hid (R0.out.of_below hbq)
      replace K6 := Lib.hid (K6.out.below hbq)
      replace RS := Lib.hid (RS.out.of_below hbq)
      clear m0 m1 m2 n3 q0 hbq hd hz hn0 hn1
      generalize grow (redrawn y dq) osq = z at K2 K3 K4 K6 R0 RS A0 ⊢
      obtain ⟨s0, s1, s2⟩ := K3.out.cell3
      go_wp2_with fail
      clear s0 s1 s2
      refine (sidesOfI h2 w2 c2 _).mono ?_
      rintro e u2 ⟨rfl, b2⟩
      replace K2 := Lib.hid (K2.out.below b2); replace K3 := Lib.hid (K3.out.below b2); replace K4 := Lib.hid (K4.out.below b2)
      replace A0 := Lib.hid (A0.out.trans (b2.mono A0.out.size)); replace R0 := Lib.hid (R0.out.of_below b2)
      replace K6 := Lib.hid (K6.out.below b2)
      replace RS := Lib.hid (RS.out.of_below b2)
      clear b2
      obtain ⟨f0, f1, f2, f3⟩ := K6.out.cell4
      obtain ⟨o0, o1, o2, o3⟩ := K6.out.free4
      go_wp2_with fail
      clear f0 f1 f2 f3 o0 o1 o2 o3 K2 K3 R0
      replace K4 := Lib.hid (K4.out.far3 N4.out (.int .i64 h2) (.int .i64 w2) (.int .i64 c2))
      replace RS := Lib.hid (RS.out.far3 NG.out (.int .i64 h2) (.int .i64 w2) (.int .i64 c2))
      replace A0 := Lib.hid (below_set3 A0.out L6.out (.int .i64 h2) (.int .i64 w2) (.int .i64 c2))
      generalize ((u2.setCell { block := g6, off := 0 } (.int .i64 h2)).setCell { block := g6, off := 1 } (.int .i64 w2)).setCell { block := g6, off := 2 } (.int .i64 c2) = u3 at K4 RS A0 ⊢
      refine (tensorOfI h2 w2 c2 _ n cap xs _ RS.out HP.out HN.out HF.out).mono ?_
      rintro e u4 ⟨gr, rfl, hgr, rr, b4⟩
      have L4 := Lib.hid (show g4 < u3.heap.size from K4.out.lt)
      have Z4 := Lib.hid A0.out.size
      have O4 := Lib.hid (rr.ownI HL.out hgr)
      replace K4 := Lib.hid (K4.out.below b4)
      replace A0 := Lib.hid (A0.out.trans (b4.mono A0.out.size))
      clear hgr rr b4 RS K6
      obtain ⟨j0, j1, j2, j3⟩ := K4.out.cell4
      obtain ⟨l0, l1, l2, l3⟩ := K4.out.free4
      go_wp2
      clear j0 j1 j2 j3 l0 l1 l2 l3
      have k9 := K4.out.set4 (x := .int .i64 h2) (y := .int .i64 w2) (z := .int .i64 c2) (u := .slice (some ⟨gr, 0, none⟩) n n)
      have o9 := O4.out.farB L4.out (.int .i64 h2) (.int .i64 w2) (.int .i64 c2) (.slice (some ⟨gr, 0, none⟩) n n)
      have b9 := below_set4 A0.out I3.out (.int .i64 h2) (.int .i64 w2) (.int .i64 c2) (.slice (some ⟨gr, 0, none⟩) n n)
      obtain ⟨z0, z1, z2, z3⟩ := k9.cell4
      refine bodyPost_ret (v := .tuple #[.agg #[.int .i64 h2, .int .i64 w2, .int .i64 c2, .slice (some ⟨gr, 0, none⟩) n n], .bool true]) ?_ rfl (Reshaped.yes HRR.out (o9.base Z4.out) b9)
      clear k9 o9 b9 K4 O4 A0
      simp [results, Try.results32, go_sem, z0, z1, z2, z3]
    · obtain rfl : r = false := by rw [← HRR.out]; have := HL.out; simp [reOk]; intro _ _; omega
      have hd : (szOf h2 w2 c2 != (n : Int)) = true := by simpa using hlen
      clear hb hlen
      refine wp_region_quiet_below mixed (by kernel_rfl) ?_
      repeat (go_big_quiet_step (first | exact q0.out _ _))
      refine wpQuiet_nil ?_
      intro _ hw'
      obtain ⟨⟨dq, osq⟩, rfl⟩ := hw'
      have hbq := below_regrown y dq osq
      replace K2 := Lib.hid (K2.out.below hbq); replace K3 := Lib.hid (K3.out.below hbq); replace K4 := Lib.hid (K4.out.below hbq)
      replace A0 := Lib.hid (A0.out.trans (hbq.mono A0.out.size)); replace R0 := Lib.hid (R0.out.of_below hbq)
      replace K6 := Lib.hid (K6.out.below hbq)
      replace RS := Lib.hid (RS.out.of_below hbq)
      clear m0 m1 m2 n3 q0 hbq hd hz hn0 hn1
      generalize grow (redrawn y dq) osq = z at K2 K3 K4 K6 R0 RS A0 ⊢
      obtain ⟨c0, c1, c2', c3⟩ := K2.out.cell4
      go_wp2_with fail
      clear c0 c1 c2' c3
      refine (copyOfI h w c b off n p xs _ R0.out HN.out).mono ?_
      rintro e u2 ⟨B, cap2, rfl, o2, b2⟩
      have L4 := Lib.hid K4.out.lt
      have Z4 := Lib.hid A0.out.size
      replace K4 := Lib.hid (K4.out.below b2)
      replace A0 := Lib.hid (A0.out.trans (b2.mono A0.out.size))
      have O2 := Lib.hid o2
      clear o2 b2 K2 K3 R0
      obtain ⟨j0, j1, j2, j3⟩ := K4.out.cell4
      obtain ⟨l0, l1, l2, l3⟩ := K4.out.free4
      go_wp2
      clear j0 j1 j2 j3 l0 l1 l2 l3
      have k9 := K4.out.set4 (x := .int .i64 h) (y := .int .i64 w) (z := .int .i64 c) (u := .slice B n cap2)
      have o9 := O2.out.farB L4.out (.int .i64 h) (.int .i64 w) (.int .i64 c) (.slice B n cap2)
      have b9 := below_set4 A0.out I3.out (.int .i64 h) (.int .i64 w) (.int .i64 c) (.slice B n cap2)
      obtain ⟨z0, z1, z2, z3⟩ := k9.cell4
      refine bodyPost_ret (v := .tuple #[.agg #[.int .i64 h, .int .i64 w, .int .i64 c, .slice B n cap2], .bool false]) ?_ rfl (Reshaped.no HRR.out (o9.base Z4.out) b9)
      clear k9 o9 b9 K4 O2 A0
      simp [results, Try.results32, go_sem, z0, z1, z2, z3]
end Qt
end Go.Proofs.Ytgbpomjdcglfmaa
