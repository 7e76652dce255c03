/- What OutShape of the model gives when the shape is not right or there is no such kind. -/
import Derived.Test.YtbmchpoffceehaaQPlain
import Derived.Test.YtbmchpoffceehaaQBaseA
import Derived.Deep.RegionHeld3
namespace Go.Proofs.Ytbmchpoffceehaa
open Go.RowKit Go.Sort
set_option linter.unusedSimpArgs false
namespace Qt
set_option maxRecDepth 100000 in
set_option maxHeartbeats 2000000 in
theorem outS_bad (h w c k o s t m f z : Int) (A : Option Addr) (n p : Nat) (xs : List Int) (B : Option Addr) (q r : Nat) (ys : List Int) (W : World) (hr : RdI W A n xs) (hr2 : RdI W B q ys) (hn : n ≤ 1048576) (hq : q ≤ 1048576) (hs : shOk h w c = false) :
    Calls Try.prog 83 #[.agg #[.int .i64 h, .int .i64 w, .int .i64 c], .agg #[.int .i64 k, .int .i64 o, .int .i64 s, .int .i64 t, .int .i64 m, .int .i64 f, .int .i64 z, .slice A n p, .slice B q r]] W fun e W' => e = .returned (outV (outL h w c k o s t m f z xs ys)) ∧ Below W.heap.size W W' := by
  have HN := Lib.hid hn
  have HQ := Lib.hid hq
  have b0 : Below W.heap.size W ((((W.alloc (.cells #[.int .i64 h, .int .i64 w, .int .i64 c] 34)).alloc (.cells #[.int .i64 k, .int .i64 o, .int .i64 s, .int .i64 t, .int .i64 m, .int .i64 f, .int .i64 z, .slice A n p, .slice B q r] 104)).alloc (.cells #[.int .i64 0, .int .i64 0, .int .i64 0] 34)).alloc (.cells #[.int .i64 0, .int .i64 0, .int .i64 0] 34)) := (((Below.refl _ W).alloc (Nat.le_refl _) _).alloc (by simp) _).alloc (by simp only [World.size_alloc]; omega) _ |>.alloc (by simp only [World.size_alloc]; omega) _
  have RA := Lib.hid (hr.of_below b0)
  have RB := Lib.hid (hr2.of_below b0)
  have Bl := Lib.hid b0
  have KS : Hid (Bk ((((W.alloc (.cells #[.int .i64 h, .int .i64 w, .int .i64 c] 34)).alloc (.cells #[.int .i64 k, .int .i64 o, .int .i64 s, .int .i64 t, .int .i64 m, .int .i64 f, .int .i64 z, .slice A n p, .slice B q r] 104)).alloc (.cells #[.int .i64 0, .int .i64 0, .int .i64 0] 34)).alloc (.cells #[.int .i64 0, .int .i64 0, .int .i64 0] 34)) W.heap.size 34 #[.int .i64 h, .int .i64 w, .int .i64 c]) := Lib.hid ((((Bk.new W 34 #[.int .i64 h, .int .i64 w, .int .i64 c]).alloc _).alloc _).alloc _)
  have KL : Hid (Bk ((((W.alloc (.cells #[.int .i64 h, .int .i64 w, .int .i64 c] 34)).alloc (.cells #[.int .i64 k, .int .i64 o, .int .i64 s, .int .i64 t, .int .i64 m, .int .i64 f, .int .i64 z, .slice A n p, .slice B q r] 104)).alloc (.cells #[.int .i64 0, .int .i64 0, .int .i64 0] 34)).alloc (.cells #[.int .i64 0, .int .i64 0, .int .i64 0] 34)) (W.heap.size + 1) 104 #[.int .i64 k, .int .i64 o, .int .i64 s, .int .i64 t, .int .i64 m, .int .i64 f, .int .i64 z, .slice A n p, .slice B q r]) := Lib.hid (by
    have := (((Bk.new (W.alloc (.cells #[.int .i64 h, .int .i64 w, .int .i64 c] 34)) 104 #[.int .i64 k, .int .i64 o, .int .i64 s, .int .i64 t, .int .i64 m, .int .i64 f, .int .i64 z, .slice A n p, .slice B q r]).alloc (.cells #[.int .i64 0, .int .i64 0, .int .i64 0] 34)).alloc (.cells #[.int .i64 0, .int .i64 0, .int .i64 0] 34))
    simpa only [World.size_alloc] using this)
  have KR : Hid (Bk ((((W.alloc (.cells #[.int .i64 h, .int .i64 w, .int .i64 c] 34)).alloc (.cells #[.int .i64 k, .int .i64 o, .int .i64 s, .int .i64 t, .int .i64 m, .int .i64 f, .int .i64 z, .slice A n p, .slice B q r] 104)).alloc (.cells #[.int .i64 0, .int .i64 0, .int .i64 0] 34)).alloc (.cells #[.int .i64 0, .int .i64 0, .int .i64 0] 34)) (W.heap.size + 1 + 1) 34 #[.int .i64 0, .int .i64 0, .int .i64 0]) := Lib.hid (by
    have := ((Bk.new ((W.alloc (.cells #[.int .i64 h, .int .i64 w, .int .i64 c] 34)).alloc (.cells #[.int .i64 k, .int .i64 o, .int .i64 s, .int .i64 t, .int .i64 m, .int .i64 f, .int .i64 z, .slice A n p, .slice B q r] 104)) 34 #[.int .i64 0, .int .i64 0, .int .i64 0]).alloc (.cells #[.int .i64 0, .int .i64 0, .int .i64 0] 34))
    simpa only [World.size_alloc] using this)
  have KN : Hid (Bk ((((W.alloc (.cells #[.int .i64 h, .int .i64 w, .int .i64 c] 34)).alloc (.cells #[.int .i64 k, .int .i64 o, .int .i64 s, .int .i64 t, .int .i64 m, .int .i64 f, .int .i64 z, .slice A n p, .slice B q r] 104)).alloc (.cells #[.int .i64 0, .int .i64 0, .int .i64 0] 34)).alloc (.cells #[.int .i64 0, .int .i64 0, .int .i64 0] 34)) (W.heap.size + 1 + 1 + 1) 34 #[.int .i64 0, .int .i64 0, .int .i64 0]) := Lib.hid (by
    have := (Bk.new (((W.alloc (.cells #[.int .i64 h, .int .i64 w, .int .i64 c] 34)).alloc (.cells #[.int .i64 k, .int .i64 o, .int .i64 s, .int .i64 t, .int .i64 m, .int .i64 f, .int .i64 z, .slice A n p, .slice B q r] 104)).alloc (.cells #[.int .i64 0, .int .i64 0, .int .i64 0] 34)) 34 #[.int .i64 0, .int .i64 0, .int .i64 0])
    simpa only [World.size_alloc] using this)
  clear hr hr2 hn hq b0
  obtain ⟨R, hR⟩ : ∃ R, outL h w c k o s t m f z xs ys = R := ⟨_, rfl⟩
  have HR0 := Lib.hid hR
  clear hR
  have GR := Lib.hid (show W.heap.size ≤ W.heap.size + 1 + 1 by omega)
  have NRN := Lib.hid (show W.heap.size + 1 + 1 + 1 ≠ W.heap.size + 1 + 1 by omega)
  have NRS := Lib.hid (show W.heap.size ≠ W.heap.size + 1 + 1 by omega)
  have NRL := Lib.hid (show W.heap.size + 1 ≠ W.heap.size + 1 + 1 by omega)
  have HS := Lib.hid hs
  have HR : Hid (outL h w c k o s t m f z xs ys = none) := Lib.hid (by simp [outL, HS.out])
  clear HR0
  clear hs
  go_enter Try.func83, Try.ntmps83
  go_wp2_with fail
  generalize ((((W.alloc (.cells #[.int .i64 h, .int .i64 w, .int .i64 c] 34)).alloc (.cells #[.int .i64 k, .int .i64 o, .int .i64 s, .int .i64 t, .int .i64 m, .int .i64 f, .int .i64 z, .slice A n p, .slice B q r] 104)).alloc (.cells #[.int .i64 0, .int .i64 0, .int .i64 0] 34)).alloc (.cells #[.int .i64 0, .int .i64 0, .int .i64 0] 34)) = v at KS KL KR KN RA RB Bl ⊢
  generalize W.heap.size + 1 + 1 + 1 = gN at KN NRN ⊢
  generalize W.heap.size + 1 + 1 = gR at KR GR NRN NRS NRL ⊢
  generalize W.heap.size + 1 = gL at KL NRL ⊢
  with_reducible refine (shapeOkS h w c false HS.out _).mono ?_
  rintro e u1 ⟨rfl, b1⟩
  replace KS := Lib.hid (KS.out.below b1)
  replace KL := Lib.hid (KL.out.below b1)
  replace KR := Lib.hid (KR.out.below b1)
  replace KN := Lib.hid (KN.out.below b1)
  replace RA := Lib.hid (RA.out.of_below b1)
  replace RB := Lib.hid (RB.out.of_below b1)
  replace Bl := Lib.hid (Bl.out.trans (b1.mono Bl.out.size))
  clear b1
  obtain ⟨a0, a1, a2⟩ := KS.out.cell3
  obtain ⟨c0, c1, c2, c3, c4, c5, c6, c7, c8⟩ := KL.out.cell9
  obtain ⟨n0, n1, n2⟩ := KN.out.cell3
  obtain ⟨f0, f1, f2⟩ := KR.out.free3
  obtain ⟨d0, d1, d2⟩ := KR.out.cell3
  go_wp2
  have kR := KR.out.set3 (x := .int .i64 0) (y := .int .i64 0) (z := .int .i64 0)
  have b9 := below_set3 Bl.out GR.out (.int .i64 0) (.int .i64 0) (.int .i64 0)
  obtain ⟨z0, z1, z2⟩ := kR.cell3
  refine bodyPost_ret (v := .tuple #[.agg #[.int .i64 0, .int .i64 0, .int .i64 0], .bool false]) ?_ rfl ⟨by rw [HR.out]; rfl, b9⟩
  clear kR b9 a0 a1 a2 c0 c1 c2 c3 c4 c5 c6 c7 c8 n0 n1 n2 f0 f1 f2 d0 d1 d2
  generalize ((u1.setCell ⟨gR, 0, none⟩ (.int .i64 0)).setCell ⟨gR, 1, none⟩ (.int .i64 0)).setCell ⟨gR, 2, none⟩ (.int .i64 0) = w9 at z0 z1 z2 ⊢
  simp [results, Try.results83, go_sem, z0, z1, z2]

set_option maxRecDepth 100000 in
set_option maxHeartbeats 2000000 in
theorem outS_kind (h w c k o s t m f z : Int) (A : Option Addr) (n p : Nat) (xs : List Int) (B : Option Addr) (q r : Nat) (ys : List Int) (W : World) (hr : RdI W A n xs) (hr2 : RdI W B q ys) (hn : n ≤ 1048576) (hq : q ≤ 1048576) (hs : shOk h w c = true) (hk : ¬ (0 ≤ k ∧ k ≤ 5)) :
    Calls Try.prog 83 #[.agg #[.int .i64 h, .int .i64 w, .int .i64 c], .agg #[.int .i64 k, .int .i64 o, .int .i64 s, .int .i64 t, .int .i64 m, .int .i64 f, .int .i64 z, .slice A n p, .slice B q r]] W fun e W' => e = .returned (outV (outL h w c k o s t m f z xs ys)) ∧ Below W.heap.size W W' := by
  have HN := Lib.hid hn
  have HQ := Lib.hid hq
  have b0 : Below W.heap.size W ((((W.alloc (.cells #[.int .i64 h, .int .i64 w, .int .i64 c] 34)).alloc (.cells #[.int .i64 k, .int .i64 o, .int .i64 s, .int .i64 t, .int .i64 m, .int .i64 f, .int .i64 z, .slice A n p, .slice B q r] 104)).alloc (.cells #[.int .i64 0, .int .i64 0, .int .i64 0] 34)).alloc (.cells #[.int .i64 0, .int .i64 0, .int .i64 0] 34)) := (((Below.refl _ W).alloc (Nat.le_refl _) _).alloc (by simp) _).alloc (by simp only [World.size_alloc]; omega) _ |>.alloc (by simp only [World.size_alloc]; omega) _
  have RA := Lib.hid (hr.of_below b0)
  have RB := Lib.hid (hr2.of_below b0)
  have Bl := Lib.hid b0
  have KS : Hid (Bk ((((W.alloc (.cells #[.int .i64 h, .int .i64 w, .int .i64 c] 34)).alloc (.cells #[.int .i64 k, .int .i64 o, .int .i64 s, .int .i64 t, .int .i64 m, .int .i64 f, .int .i64 z, .slice A n p, .slice B q r] 104)).alloc (.cells #[.int .i64 0, .int .i64 0, .int .i64 0] 34)).alloc (.cells #[.int .i64 0, .int .i64 0, .int .i64 0] 34)) W.heap.size 34 #[.int .i64 h, .int .i64 w, .int .i64 c]) := Lib.hid ((((Bk.new W 34 #[.int .i64 h, .int .i64 w, .int .i64 c]).alloc _).alloc _).alloc _)
  have KL : Hid (Bk ((((W.alloc (.cells #[.int .i64 h, .int .i64 w, .int .i64 c] 34)).alloc (.cells #[.int .i64 k, .int .i64 o, .int .i64 s, .int .i64 t, .int .i64 m, .int .i64 f, .int .i64 z, .slice A n p, .slice B q r] 104)).alloc (.cells #[.int .i64 0, .int .i64 0, .int .i64 0] 34)).alloc (.cells #[.int .i64 0, .int .i64 0, .int .i64 0] 34)) (W.heap.size + 1) 104 #[.int .i64 k, .int .i64 o, .int .i64 s, .int .i64 t, .int .i64 m, .int .i64 f, .int .i64 z, .slice A n p, .slice B q r]) := Lib.hid (by
    have := (((Bk.new (W.alloc (.cells #[.int .i64 h, .int .i64 w, .int .i64 c] 34)) 104 #[.int .i64 k, .int .i64 o, .int .i64 s, .int .i64 t, .int .i64 m, .int .i64 f, .int .i64 z, .slice A n p, .slice B q r]).alloc (.cells #[.int .i64 0, .int .i64 0, .int .i64 0] 34)).alloc (.cells #[.int .i64 0, .int .i64 0, .int .i64 0] 34))
    simpa only [World.size_alloc] using this)
  have KR : Hid (Bk ((((W.alloc (.cells #[.int .i64 h, .int .i64 w, .int .i64 c] 34)).alloc (.cells #[.int .i64 k, .int .i64 o, .int .i64 s, .int .i64 t, .int .i64 m, .int .i64 f, .int .i64 z, .slice A n p, .slice B q r] 104)).alloc (.cells #[.int .i64 0, .int .i64 0, .int .i64 0] 34)).alloc (.cells #[.int .i64 0, .int .i64 0, .int .i64 0] 34)) (W.heap.size + 1 + 1) 34 #[.int .i64 0, .int .i64 0, .int .i64 0]) := Lib.hid (by
    have := ((Bk.new ((W.alloc (.cells #[.int .i64 h, .int .i64 w, .int .i64 c] 34)).alloc (.cells #[.int .i64 k, .int .i64 o, .int .i64 s, .int .i64 t, .int .i64 m, .int .i64 f, .int .i64 z, .slice A n p, .slice B q r] 104)) 34 #[.int .i64 0, .int .i64 0, .int .i64 0]).alloc (.cells #[.int .i64 0, .int .i64 0, .int .i64 0] 34))
    simpa only [World.size_alloc] using this)
  have KN : Hid (Bk ((((W.alloc (.cells #[.int .i64 h, .int .i64 w, .int .i64 c] 34)).alloc (.cells #[.int .i64 k, .int .i64 o, .int .i64 s, .int .i64 t, .int .i64 m, .int .i64 f, .int .i64 z, .slice A n p, .slice B q r] 104)).alloc (.cells #[.int .i64 0, .int .i64 0, .int .i64 0] 34)).alloc (.cells #[.int .i64 0, .int .i64 0, .int .i64 0] 34)) (W.heap.size + 1 + 1 + 1) 34 #[.int .i64 0, .int .i64 0, .int .i64 0]) := Lib.hid (by
    have := (Bk.new (((W.alloc (.cells #[.int .i64 h, .int .i64 w, .int .i64 c] 34)).alloc (.cells #[.int .i64 k, .int .i64 o, .int .i64 s, .int .i64 t, .int .i64 m, .int .i64 f, .int .i64 z, .slice A n p, .slice B q r] 104)).alloc (.cells #[.int .i64 0, .int .i64 0, .int .i64 0] 34)) 34 #[.int .i64 0, .int .i64 0, .int .i64 0])
    simpa only [World.size_alloc] using this)
  clear hr hr2 hn hq b0
  obtain ⟨R, hR⟩ : ∃ R, outL h w c k o s t m f z xs ys = R := ⟨_, rfl⟩
  have HR0 := Lib.hid hR
  clear hR
  have GR := Lib.hid (show W.heap.size ≤ W.heap.size + 1 + 1 by omega)
  have NRN := Lib.hid (show W.heap.size + 1 + 1 + 1 ≠ W.heap.size + 1 + 1 by omega)
  have NRS := Lib.hid (show W.heap.size ≠ W.heap.size + 1 + 1 by omega)
  have NRL := Lib.hid (show W.heap.size + 1 ≠ W.heap.size + 1 + 1 by omega)
  have HS := Lib.hid hs
  have HK := Lib.hid hk
  have HR : Hid (outL h w c k o s t m f z xs ys = none) := Lib.hid (by simp only [outL, HS.out, if_true]; have := HK.out; rw [if_neg (by omega), if_neg (by omega), if_neg (by omega), if_neg (by omega), if_neg (by omega)])
  clear HR0
  clear hs hk
  go_enter Try.func83, Try.ntmps83
  go_wp2_with fail
  generalize ((((W.alloc (.cells #[.int .i64 h, .int .i64 w, .int .i64 c] 34)).alloc (.cells #[.int .i64 k, .int .i64 o, .int .i64 s, .int .i64 t, .int .i64 m, .int .i64 f, .int .i64 z, .slice A n p, .slice B q r] 104)).alloc (.cells #[.int .i64 0, .int .i64 0, .int .i64 0] 34)).alloc (.cells #[.int .i64 0, .int .i64 0, .int .i64 0] 34)) = v at KS KL KR KN RA RB Bl ⊢
  generalize W.heap.size + 1 + 1 + 1 = gN at KN NRN ⊢
  generalize W.heap.size + 1 + 1 = gR at KR GR NRN NRS NRL ⊢
  generalize W.heap.size + 1 = gL at KL NRL ⊢
  with_reducible refine (shapeOkS h w c true HS.out _).mono ?_
  rintro e u1 ⟨rfl, b1⟩
  replace KS := Lib.hid (KS.out.below b1)
  replace KL := Lib.hid (KL.out.below b1)
  replace KR := Lib.hid (KR.out.below b1)
  replace KN := Lib.hid (KN.out.below b1)
  replace RA := Lib.hid (RA.out.of_below b1)
  replace RB := Lib.hid (RB.out.of_below b1)
  replace Bl := Lib.hid (Bl.out.trans (b1.mono Bl.out.size))
  clear b1
  obtain ⟨a0, a1, a2⟩ := KS.out.cell3
  obtain ⟨c0, c1, c2, c3, c4, c5, c6, c7, c8⟩ := KL.out.cell9
  obtain ⟨n0, n1, n2⟩ := KN.out.cell3
  obtain ⟨f0, f1, f2⟩ := KR.out.free3
  obtain ⟨d0, d1, d2⟩ := KR.out.cell3
  go_wp2_with fail
  clear a0 a1 a2 c0 c1 c2 c3 c4 c5 c6 c7 c8 n0 n1 n2 f0 f1 f2 d0 d1 d2
  with_reducible refine (inS_no k 0 5 HK.out _).mono ?_
  rintro e w1 ⟨rfl, rfl⟩
  obtain ⟨a0, a1, a2⟩ := KS.out.cell3
  obtain ⟨c0, c1, c2, c3, c4, c5, c6, c7, c8⟩ := KL.out.cell9
  obtain ⟨n0, n1, n2⟩ := KN.out.cell3
  obtain ⟨f0, f1, f2⟩ := KR.out.free3
  obtain ⟨d0, d1, d2⟩ := KR.out.cell3
  go_wp2
  have kR := KR.out.set3 (x := .int .i64 0) (y := .int .i64 0) (z := .int .i64 0)
  have b9 := below_set3 Bl.out GR.out (.int .i64 0) (.int .i64 0) (.int .i64 0)
  obtain ⟨z0, z1, z2⟩ := kR.cell3
  refine bodyPost_ret (v := .tuple #[.agg #[.int .i64 0, .int .i64 0, .int .i64 0], .bool false]) ?_ rfl ⟨by rw [HR.out]; rfl, b9⟩
  clear kR b9 a0 a1 a2 c0 c1 c2 c3 c4 c5 c6 c7 c8 n0 n1 n2 f0 f1 f2 d0 d1 d2
  generalize ((u1.setCell ⟨gR, 0, none⟩ (.int .i64 0)).setCell ⟨gR, 1, none⟩ (.int .i64 0)).setCell ⟨gR, 2, none⟩ (.int .i64 0) = w9 at z0 z1 z2 ⊢
  simp [results, Try.results83, go_sem, z0, z1, z2]
end Qt
end Go.Proofs.Ytbmchpoffceehaa
