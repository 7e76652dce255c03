/- What the method 'then' of the program's conv layers gives when it is called. Conditions: those that are named. -/
import Derived.Test.YtbmchpoffceehaaQThen
import Derived.Lib.QuietBelow
namespace Go.Proofs.Ytbmchpoffceehaa
open Go.RowKit Go.Sort
set_option linter.unusedSimpArgs false
set_option linter.unusedVariables false
namespace Qt
set_option maxRecDepth 100000 in
set_option maxHeartbeats 1000000 in
theorem convThenI (o m f z : Int) (A : Option Addr) (n p : Nat) (xs : List Int) (B : Option Addr) (q r : Nat) (ys : List Int) (s t : Int) (h w c : Int) (W : World) (hr : RdI W A n xs) (hr2 : RdI W B q ys) (hn : n ≤ 1048576) (hq : q ≤ 1048576) (hs : shOk h w c = true) :
    Calls Try.prog 143 #[.agg #[.int .i64 o, .int .i64 m, .int .i64 f, .int .i64 z, .slice A n p, .slice B q r, .int .i64 s, .int .i64 t], .agg #[.int .i64 h, .int .i64 w, .int .i64 c]] W fun e W' => e = .returned (outV (if fitsB h w s t && (rightB o m f z xs ys (s * s * c) && decide (xs.length ≤ 600)) then some ((h - s).tdiv t + 1, (w - s).tdiv t + 1, o) else none)) ∧ Below W.heap.size W W' := by
  have P := Pk.start W 166 34 #[.int .i64 o, .int .i64 m, .int .i64 f, .int .i64 z, .slice A n p, .slice B q r, .int .i64 s, .int .i64 t] #[.int .i64 h, .int .i64 w, .int .i64 c] hr hr2
  have HN := Lib.hid hn
  have HQ := Lib.hid hq
  have HS := Lib.hid hs
  have HL := Lib.hid hr.1
  clear hn hq hr hr2 hs
  obtain ⟨R, hR⟩ : ∃ R, outV (if fitsB h w s t && (rightB o m f z xs ys (s * s * c) && decide (xs.length ≤ 600)) then some ((h - s).tdiv t + 1, (w - s).tdiv t + 1, o) else none) = R := ⟨_, rfl⟩
  rw [hR]
  have HR := Lib.hid hR
  clear hR
  go_enter Try.func143, Try.ntmps143
  go_wp2_with fail
  generalize (((W.alloc (.cells #[.int .i64 o, .int .i64 m, .int .i64 f, .int .i64 z, .slice A n p, .slice B q r, .int .i64 s, .int .i64 t] 166)).alloc (.cells #[.int .i64 h, .int .i64 w, .int .i64 c] 34)).alloc (.cells #[.int .i64 0, .int .i64 0, .int .i64 0] 34)) = v at P ⊢
  generalize W.heap.size + 1 + 1 = gR at P ⊢
  generalize W.heap.size + 1 = gS at P ⊢
  rcases hf : fitsB h w s t with _ | _
  · have HF := Lib.hid hf
    clear hf
    have q0 := Lib.hid (fun d os => Calls.regrown_of (v := .bool false) (by have := fitsI s t h w c (grow (redrawn v d) os); rw [HF.out] at this; exact this))
    have k0 := cell_regrown (P.out.f.cell 0 rfl)
    have k1 := cell_regrown (P.out.f.cell 1 rfl)
    have k2 := cell_regrown (P.out.f.cell 2 rfl)
    have k3 := cell_regrown (P.out.f.cell 3 rfl)
    have k4 := cell_regrown (P.out.f.cell 4 rfl)
    have k5 := cell_regrown (P.out.f.cell 5 rfl)
    have k6 := cell_regrown (P.out.f.cell 6 rfl)
    have k7 := cell_regrown (P.out.f.cell 7 rfl)
    have a0 := cell_regrown (P.out.s.cell 0 rfl)
    have a1 := cell_regrown (P.out.s.cell 1 rfl)
    have a2 := cell_regrown (P.out.s.cell 2 rfl)
    refine wp_region_quiet_below mixed (by kernel_rfl) ?_
    repeat (go_big_quiet_step (first | exact q0.out _ _))
    refine wpQuiet_nil ?_
    intro _ hw'
    obtain ⟨⟨dq, osq⟩, rfl⟩ := hw'
    have PP := Pk.below P (below_regrown v dq osq)
    clear k0 k1 k2 k3 k4 k5 k6 k7 a0 a1 a2 q0
    generalize grow (redrawn v dq) osq = v1 at PP ⊢
    obtain ⟨b0, b1, b2⟩ := PP.out.r.cell3
    obtain ⟨c0, c1, c2⟩ := PP.out.r.free3
    go_wp2_with fail
    have kR := PP.out.r.set3 (x := .int .i64 0) (y := .int .i64 0) (z := .int .i64 0)
    have b9 := below_set3 PP.out.bl PP.out.le (.int .i64 0) (.int .i64 0) (.int .i64 0)
    obtain ⟨z0, z1, z2⟩ := kR.cell3
    go_wp2_with fail
    refine bodyPost_ret (v := .tuple #[.agg #[.int .i64 0, .int .i64 0, .int .i64 0], .bool false]) ?_ rfl ⟨by rw [← HR.out, HF.out]; rfl, b9⟩
    generalize ((v1.setCell ⟨gR, 0, none⟩ (.int .i64 0)).setCell ⟨gR, 1, none⟩ (.int .i64 0)).setCell ⟨gR, 2, none⟩ (.int .i64 0) = w9 at z0 z1 z2 ⊢
    simp [results, Try.results143, go_sem, z0, z1, z2]
  have HF := Lib.hid hf
  clear hf
  have hf2 := HF.out
  rw [fitsB_eq] at hf2
  simp only [Bool.and_eq_true, decide_eq_true_eq, winB, inB_iff] at hf2
  obtain ⟨⟨⟨s1, s2⟩, t1, t2⟩, j1, j2⟩ := hf2
  obtain ⟨h1, h2, w1, w2, c1, c2⟩ := shOk_iff.1 HS.out
  have HB := Lib.hid (And.intro s1 (And.intro s2 (And.intro t1 (And.intro t2 (And.intro j1 (And.intro j2 (And.intro h2 w2)))))))
  clear s1 s2 t1 t2 j1 j2 h1 h2 w1 w2
  obtain ⟨y1, y2⟩ := mulBd (by have := HB.out; omega : 0 ≤ s) HB.out.2.1 (by have := HB.out; omega : 0 ≤ s) HB.out.2.1
  obtain ⟨y3, y4⟩ := mulBd y1 y2 (by omega : 0 ≤ c) c2
  have HY : Hid (0 ≤ s * s * c ∧ s * s * c ≤ 4096) := Lib.hid ⟨y3, by omega⟩
  have hw0 : IntKind.i64.wrap (s * s * c) = s * s * c := by rw [IntKind.wrap_i64]; omega
  clear y1 y2 y3 y4 c1 c2
  rcases hg : rightB o m f z xs ys (s * s * c) with _ | _
  · have HG := Lib.hid hg
    clear hg
    have q0 := Lib.hid (fun d os => Calls.regrown_of (v := .bool true) (by have := fitsI s t h w c (grow (redrawn v d) os); rw [HF.out] at this; exact this))
    have q1 := Lib.hid (fun d os => Calls.regrown_of (areaI s t (grow (redrawn v d) os) HB.out.1 HB.out.2.1))
    have q2 := Lib.hid (fun d os => Calls.regrown_of (v := .bool false) (by have := rightI o m f z A n p xs B q r ys (s * s * c) (grow (redrawn v d) os) (P.out.ra.of_below (below_regrown v d os)) (P.out.rb.of_below (below_regrown v d os)) HN.out HQ.out HY.out.1 HY.out.2; rw [HG.out] at this; exact this))
    have k0 := cell_regrown (P.out.f.cell 0 rfl)
    have k1 := cell_regrown (P.out.f.cell 1 rfl)
    have k2 := cell_regrown (P.out.f.cell 2 rfl)
    have k3 := cell_regrown (P.out.f.cell 3 rfl)
    have k4 := cell_regrown (P.out.f.cell 4 rfl)
    have k5 := cell_regrown (P.out.f.cell 5 rfl)
    have k6 := cell_regrown (P.out.f.cell 6 rfl)
    have k7 := cell_regrown (P.out.f.cell 7 rfl)
    have a0 := cell_regrown (P.out.s.cell 0 rfl)
    have a1 := cell_regrown (P.out.s.cell 1 rfl)
    have a2 := cell_regrown (P.out.s.cell 2 rfl)
    refine wp_region_quiet_below mixed (by kernel_rfl) ?_
    repeat (go_big_quiet_step (first | exact q0.out _ _ | exact q1.out _ _ | exact q2.out _ _))
    refine wpQuiet_nil ?_
    intro _ hw'
    obtain ⟨⟨dq, osq⟩, rfl⟩ := hw'
    have PP := Pk.below P (below_regrown v dq osq)
    clear k0 k1 k2 k3 k4 k5 k6 k7 a0 a1 a2 q0 q1 q2
    generalize grow (redrawn v dq) osq = v1 at PP ⊢
    clear hw0
    obtain ⟨b0, b1, b2⟩ := PP.out.r.cell3
    obtain ⟨c0, c1, c2⟩ := PP.out.r.free3
    go_wp2_with fail
    have kR := PP.out.r.set3 (x := .int .i64 0) (y := .int .i64 0) (z := .int .i64 0)
    have b9 := below_set3 PP.out.bl PP.out.le (.int .i64 0) (.int .i64 0) (.int .i64 0)
    obtain ⟨z0, z1, z2⟩ := kR.cell3
    go_wp2_with fail
    refine bodyPost_ret (v := .tuple #[.agg #[.int .i64 0, .int .i64 0, .int .i64 0], .bool false]) ?_ rfl ⟨by rw [← HR.out, HF.out, HG.out]; rfl, b9⟩
    generalize ((v1.setCell ⟨gR, 0, none⟩ (.int .i64 0)).setCell ⟨gR, 1, none⟩ (.int .i64 0)).setCell ⟨gR, 2, none⟩ (.int .i64 0) = w9 at z0 z1 z2 ⊢
    simp [results, Try.results143, go_sem, z0, z1, z2]
  have HG := Lib.hid hg
  clear hg
  have hn0 : (0 : Int) ≤ n := Int.natCast_nonneg n
  have hn1 : (n : Int) ≤ 1048576 := by have := HN.out; omega
  by_cases h6 : (n : Int) ≤ 600
  case neg =>
    have h6a : (600 : Int) < n := by omega
    have HH : Hid (decide (xs.length ≤ 600) = false) := Lib.hid (by rw [HL.out, decide_eq_false_iff_not]; omega)
    clear h6
    have q0 := Lib.hid (fun d os => Calls.regrown_of (v := .bool true) (by have := fitsI s t h w c (grow (redrawn v d) os); rw [HF.out] at this; exact this))
    have q1 := Lib.hid (fun d os => Calls.regrown_of (areaI s t (grow (redrawn v d) os) HB.out.1 HB.out.2.1))
    have q2 := Lib.hid (fun d os => Calls.regrown_of (v := .bool true) (by have := rightI o m f z A n p xs B q r ys (s * s * c) (grow (redrawn v d) os) (P.out.ra.of_below (below_regrown v d os)) (P.out.rb.of_below (below_regrown v d os)) HN.out HQ.out HY.out.1 HY.out.2; rw [HG.out] at this; exact this))
    have k0 := cell_regrown (P.out.f.cell 0 rfl)
    have k1 := cell_regrown (P.out.f.cell 1 rfl)
    have k2 := cell_regrown (P.out.f.cell 2 rfl)
    have k3 := cell_regrown (P.out.f.cell 3 rfl)
    have k4 := cell_regrown (P.out.f.cell 4 rfl)
    have k5 := cell_regrown (P.out.f.cell 5 rfl)
    have k6 := cell_regrown (P.out.f.cell 6 rfl)
    have k7 := cell_regrown (P.out.f.cell 7 rfl)
    have a0 := cell_regrown (P.out.s.cell 0 rfl)
    have a1 := cell_regrown (P.out.s.cell 1 rfl)
    have a2 := cell_regrown (P.out.s.cell 2 rfl)
    refine wp_region_quiet_below mixed (by kernel_rfl) ?_
    repeat (go_big_quiet_step (first | exact q0.out _ _ | exact q1.out _ _ | exact q2.out _ _))
    refine wpQuiet_nil ?_
    intro _ hw'
    obtain ⟨⟨dq, osq⟩, rfl⟩ := hw'
    have PP := Pk.below P (below_regrown v dq osq)
    clear k0 k1 k2 k3 k4 k5 k6 k7 a0 a1 a2 q0 q1 q2
    generalize grow (redrawn v dq) osq = v1 at PP ⊢
    clear hw0
    obtain ⟨b0, b1, b2⟩ := PP.out.r.cell3
    obtain ⟨c0, c1, c2⟩ := PP.out.r.free3
    go_wp2_with fail
    have kR := PP.out.r.set3 (x := .int .i64 0) (y := .int .i64 0) (z := .int .i64 0)
    have b9 := below_set3 PP.out.bl PP.out.le (.int .i64 0) (.int .i64 0) (.int .i64 0)
    obtain ⟨z0, z1, z2⟩ := kR.cell3
    go_wp2_with fail
    refine bodyPost_ret (v := .tuple #[.agg #[.int .i64 0, .int .i64 0, .int .i64 0], .bool false]) ?_ rfl ⟨by rw [← HR.out, HF.out, HG.out, HH.out]; rfl, b9⟩
    generalize ((v1.setCell ⟨gR, 0, none⟩ (.int .i64 0)).setCell ⟨gR, 1, none⟩ (.int .i64 0)).setCell ⟨gR, 2, none⟩ (.int .i64 0) = w9 at z0 z1 z2 ⊢
    simp [results, Try.results143, go_sem, z0, z1, z2]
  have HH : Hid (decide (xs.length ≤ 600) = true) := Lib.hid (by rw [HL.out, decide_eq_true_eq]; omega)
  have h6a : ¬ (600 : Int) < n := by omega
  have q0 := Lib.hid (fun d os => Calls.regrown_of (v := .bool true) (by have := fitsI s t h w c (grow (redrawn v d) os); rw [HF.out] at this; exact this))
  have q1 := Lib.hid (fun d os => Calls.regrown_of (areaI s t (grow (redrawn v d) os) HB.out.1 HB.out.2.1))
  have q2 := Lib.hid (fun d os => Calls.regrown_of (v := .bool true) (by have := rightI o m f z A n p xs B q r ys (s * s * c) (grow (redrawn v d) os) (P.out.ra.of_below (below_regrown v d os)) (P.out.rb.of_below (below_regrown v d os)) HN.out HQ.out HY.out.1 HY.out.2; rw [HG.out] at this; exact this))
  have k0 := cell_regrown (P.out.f.cell 0 rfl)
  have k1 := cell_regrown (P.out.f.cell 1 rfl)
  have k2 := cell_regrown (P.out.f.cell 2 rfl)
  have k3 := cell_regrown (P.out.f.cell 3 rfl)
  have k4 := cell_regrown (P.out.f.cell 4 rfl)
  have k5 := cell_regrown (P.out.f.cell 5 rfl)
  have k6 := cell_regrown (P.out.f.cell 6 rfl)
  have k7 := cell_regrown (P.out.f.cell 7 rfl)
  have a0 := cell_regrown (P.out.s.cell 0 rfl)
  have a1 := cell_regrown (P.out.s.cell 1 rfl)
  have a2 := cell_regrown (P.out.s.cell 2 rfl)
  refine wp_region_quiet_below mixed (by kernel_rfl) ?_
  repeat (go_big_quiet_step (first | exact q0.out _ _ | exact q1.out _ _ | exact q2.out _ _))
  refine wpQuiet_nil ?_
  intro _ hw'
  obtain ⟨⟨dq, osq⟩, rfl⟩ := hw'
  have PP := Pk.below P (below_regrown v dq osq)
  clear k0 k1 k2 k3 k4 k5 k6 k7 a0 a1 a2 q0 q1 q2
  generalize grow (redrawn v dq) osq = v1 at PP ⊢
  clear hw0
  have k0 := PP.out.f.cell 0 rfl
  have k1 := PP.out.f.cell 1 rfl
  have k2 := PP.out.f.cell 2 rfl
  have k3 := PP.out.f.cell 3 rfl
  have k4 := PP.out.f.cell 4 rfl
  have k5 := PP.out.f.cell 5 rfl
  have k6 := PP.out.f.cell 6 rfl
  have k7 := PP.out.f.cell 7 rfl
  obtain ⟨a0, a1, a2⟩ := PP.out.s.cell3
  go_wp2_with fail
  clear k0 k1 k2 k3 k4 k5 k6 k7 a0 a1 a2
  have k0 := PP.out.f.cell 0 rfl
  have k1 := PP.out.f.cell 1 rfl
  have k2 := PP.out.f.cell 2 rfl
  have k3 := PP.out.f.cell 3 rfl
  have k4 := PP.out.f.cell 4 rfl
  have k5 := PP.out.f.cell 5 rfl
  have k6 := PP.out.f.cell 6 rfl
  have k7 := PP.out.f.cell 7 rfl
  obtain ⟨a0, a1, a2⟩ := PP.out.s.cell3
  obtain ⟨b0, b1, b2⟩ := PP.out.r.cell3
  obtain ⟨c0, c1, c2⟩ := PP.out.r.free3
  have P1 := Pk.drew PP
  go_region_held3 (fun w' => w'.cell? ⟨W.heap.size, 0, none⟩ = some (.int .i64 o) ∧ w'.cell? ⟨W.heap.size, 1, none⟩ = some (.int .i64 m) ∧ w'.cell? ⟨W.heap.size, 2, none⟩ = some (.int .i64 f) ∧ w'.cell? ⟨W.heap.size, 3, none⟩ = some (.int .i64 z) ∧ w'.cell? ⟨W.heap.size, 4, none⟩ = some (.slice A n p) ∧ w'.cell? ⟨W.heap.size, 5, none⟩ = some (.slice B q r) ∧ w'.cell? ⟨W.heap.size, 6, none⟩ = some (.int .i64 s) ∧ w'.cell? ⟨W.heap.size, 7, none⟩ = some (.int .i64 t) ∧ w'.cell? ⟨gS, 0, none⟩ = some (.int .i64 h) ∧ w'.cell? ⟨gS, 1, none⟩ = some (.int .i64 w) ∧ w'.cell? ⟨gS, 2, none⟩ = some (.int .i64 c))
    (first
      | exact ⟨k0, k1, k2, k3, k4, k5, k6, k7, a0, a1, a2⟩
      | exact ⟨l0, l1, l2, l3, l4, l5, l6, l7, m0, m1, m2⟩
      | exact ⟨cellFar3 (Ne.symm PP.out.nf) l0 _ _ _, cellFar3 (Ne.symm PP.out.nf) l1 _ _ _, cellFar3 (Ne.symm PP.out.nf) l2 _ _ _, cellFar3 (Ne.symm PP.out.nf) l3 _ _ _, cellFar3 (Ne.symm PP.out.nf) l4 _ _ _, cellFar3 (Ne.symm PP.out.nf) l5 _ _ _, cellFar3 (Ne.symm PP.out.nf) l6 _ _ _, cellFar3 (Ne.symm PP.out.nf) l7 _ _ _, cellFar3 (Ne.symm PP.out.ns) m0 _ _ _, cellFar3 (Ne.symm PP.out.ns) m1 _ _ _, cellFar3 (Ne.symm PP.out.ns) m2 _ _ _⟩)
    (first
      | (go_at_call 145; (with_reducible refine (winTimesI s t h _ HB.out.1 HB.out.2.1 HB.out.2.2.1 HB.out.2.2.2.1 HB.out.2.2.2.2.1 HB.out.2.2.2.2.2.2.1).mono ?_); rintro e uq ⟨rfl, bb⟩; have PP := Pk.below (by assumption) bb; obtain ⟨g0, g1, g2⟩ := PP.out.r.free3; obtain ⟨e0, e1, e2⟩ := PP.out.r.cell3; have l0 := PP.out.f.cell 0 rfl; have l1 := PP.out.f.cell 1 rfl; have l2 := PP.out.f.cell 2 rfl; have l3 := PP.out.f.cell 3 rfl; have l4 := PP.out.f.cell 4 rfl; have l5 := PP.out.f.cell 5 rfl; have l6 := PP.out.f.cell 6 rfl; have l7 := PP.out.f.cell 7 rfl; obtain ⟨m0, m1, m2⟩ := PP.out.s.cell3)
      | (go_at_call 145; (with_reducible refine (winTimesI s t w _ HB.out.1 HB.out.2.1 HB.out.2.2.1 HB.out.2.2.2.1 HB.out.2.2.2.2.2.1 HB.out.2.2.2.2.2.2.2).mono ?_); rintro e uq ⟨rfl, bb⟩; have PP := Pk.below (by assumption) bb; obtain ⟨g0, g1, g2⟩ := PP.out.r.free3; obtain ⟨e0, e1, e2⟩ := PP.out.r.cell3; have l0 := PP.out.f.cell 0 rfl; have l1 := PP.out.f.cell 1 rfl; have l2 := PP.out.f.cell 2 rfl; have l3 := PP.out.f.cell 3 rfl; have l4 := PP.out.f.cell 4 rfl; have l5 := PP.out.f.cell 5 rfl; have l6 := PP.out.f.cell 6 rfl; have l7 := PP.out.f.cell 7 rfl; obtain ⟨m0, m1, m2⟩ := PP.out.s.cell3))
  clear k0 k1 k2 k3 k4 k5 k6 k7 a0 a1 a2 b0 b1 b2 c0 c1 c2
  have kR := PP.out.r.set3 (x := .int .i64 ((h - s).tdiv t + 1)) (y := .int .i64 ((w - s).tdiv t + 1)) (z := .int .i64 o)
  have b9 := below_set3 PP.out.bl PP.out.le (.int .i64 ((h - s).tdiv t + 1)) (.int .i64 ((w - s).tdiv t + 1)) (.int .i64 o)
  obtain ⟨z0, z1, z2⟩ := kR.cell3
  go_wp2_with fail
  refine bodyPost_ret (v := .tuple #[.agg #[.int .i64 ((h - s).tdiv t + 1), .int .i64 ((w - s).tdiv t + 1), .int .i64 o], .bool true]) ?_ rfl ⟨by rw [← HR.out, HF.out, HG.out, HH.out]; rfl, b9⟩
  generalize ((uq.setCell ⟨gR, 0, none⟩ (.int .i64 ((h - s).tdiv t + 1))).setCell ⟨gR, 1, none⟩ (.int .i64 ((w - s).tdiv t + 1))).setCell ⟨gR, 2, none⟩ (.int .i64 o) = w9 at z0 z1 z2 ⊢
  simp [results, Try.results143, go_sem, z0, z1, z2]
end Qt
end Go.Proofs.Ytbmchpoffceehaa
