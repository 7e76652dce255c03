/- What the program finds by its rules when it picks the next task: the first with the least number of its kind. Conditions: the list of duties reads as the tasks that are named. -/
import Derived.Test.YtihnpfcjnfkfjaaQLateI
import Derived.Test.YtihnpfcjnfkfjaaQPickMath
import Derived.Lib.QuietBelow
import Derived.Laws.EntriesVeiled
namespace Go.Proofs.Ytihnpfcjnfkfjaa
open Go.RowKit Go.Sort
set_option linter.unusedSimpArgs false
set_option linter.unusedVariables false
namespace Qt
def cmpV (x y : Int) : Int := if x < y then -1 else if y < x then 1 else 0
theorem cmpV_lt {x y : Int} : cmpV x y < 0 ↔ x < y := by
  unfold cmpV
  split <;> (try split) <;> omega
theorem isNaNI (x : Int) (W : World) : Calls Try.prog 112 #[.int .i64 x] W fun e W' => e = .returned (.bool false) ∧ W' = W := by
  have hxx : (x != x) = false := by simp
  go_enter Try.func112, Try.ntmps112
  go_wp2_with fail
  go_ret
  exact ⟨rfl, rfl⟩
theorem compareI (x y : Int) (W : World) : Calls Try.prog 100 #[.int .i64 x, .int .i64 y] W fun e W' => e = .returned (.int .i64 (cmpV x y)) ∧ W' = W := by
  by_cases h1 : x < y
  · have hR : cmpV x y = -1 := by unfold cmpV; rw [if_pos h1]
    rw [hR]
    clear hR
    go_enter Try.func100, Try.ntmps100
    go_wp2_with (first | (go_at_call 112; refine (isNaNI _ _).mono ?_; rintro e w' ⟨rfl, rfl⟩) | fail)
    go_ret
    exact ⟨rfl, rfl⟩
  by_cases h2 : y < x
  · have hR : cmpV x y = 1 := by unfold cmpV; rw [if_neg h1, if_pos h2]
    rw [hR]
    clear hR
    go_enter Try.func100, Try.ntmps100
    go_wp2_with (first | (go_at_call 112; refine (isNaNI _ _).mono ?_; rintro e w' ⟨rfl, rfl⟩) | fail)
    go_ret
    exact ⟨rfl, rfl⟩
  have hR : cmpV x y = 0 := by unfold cmpV; rw [if_neg h1, if_neg h2]
  rw [hR]
  clear hR
  go_enter Try.func100, Try.ntmps100
  go_wp2_with (first | (go_at_call 112; refine (isNaNI _ _).mono ?_; rintro e w' ⟨rfl, rfl⟩) | fail)
  go_ret
  exact ⟨rfl, rfl⟩
theorem byBornI (s r : Tsk) (W : World) : Calls Try.prog 90 #[.agg #[.int .i64 s.ti, .int .i64 s.ta, .int .i64 s.td, .int .i64 s.tb], .agg #[.int .i64 r.ti, .int .i64 r.ta, .int .i64 r.td, .int .i64 r.tb]] W fun e W' => e = .returned (.int .i64 (cmpV s.tb r.tb)) ∧ Below W.heap.size W W' := by
  obtain ⟨a0, a1, a2, a3, xs⟩ := s
  obtain ⟨b0, b1, b2, b3, ys⟩ := r
  simp only
  have ba := ((Below.refl _ W).alloc (Nat.le_refl _) (.cells #[.int .i64 a0, .int .i64 a1, .int .i64 a2, .int .i64 a3] 68)).alloc (by simp) (.cells #[.int .i64 b0, .int .i64 b1, .int .i64 b2, .int .i64 b3] 68)
  have Bl := Lib.hid ba
  clear ba
  go_enter Try.func90, Try.ntmps90
  go_wp2_with fail
  refine (compareI _ _ _).mono ?_
  rintro e w' ⟨rfl, rfl⟩
  go_wp2_with fail
  go_ret
  exact ⟨rfl, Bl.out⟩
theorem byDueI (s r : Tsk) (W : World) : Calls Try.prog 92 #[.agg #[.int .i64 s.ti, .int .i64 s.ta, .int .i64 s.td, .int .i64 s.tb], .agg #[.int .i64 r.ti, .int .i64 r.ta, .int .i64 r.td, .int .i64 r.tb]] W fun e W' => e = .returned (.int .i64 (cmpV s.td r.td)) ∧ Below W.heap.size W W' := by
  obtain ⟨a0, a1, a2, a3, xs⟩ := s
  obtain ⟨b0, b1, b2, b3, ys⟩ := r
  simp only
  have ba := ((Below.refl _ W).alloc (Nat.le_refl _) (.cells #[.int .i64 a0, .int .i64 a1, .int .i64 a2, .int .i64 a3] 68)).alloc (by simp) (.cells #[.int .i64 b0, .int .i64 b1, .int .i64 b2, .int .i64 b3] 68)
  have Bl := Lib.hid ba
  clear ba
  go_enter Try.func92, Try.ntmps92
  go_wp2_with fail
  refine (compareI _ _ _).mono ?_
  rintro e w' ⟨rfl, rfl⟩
  go_wp2_with fail
  go_ret
  exact ⟨rfl, Bl.out⟩
set_option maxRecDepth 100000 in
set_option maxHeartbeats 2000000 in
theorem minBornI (g n cap : Nat) (ys : List Tsk) (t0 m : Tsk) (W : World) (hl : ys.length = n) (hn : n ≤ 12) (h0 : ys[0]? = some t0) (hm : minBy Tsk.tb ys = some m) (hg : g < W.heap.size) (hc : ∀ (k : Nat) (t : Tsk), ys[k]? = some t → W.cell? ⟨g, k * 4, none⟩ = some (.int .i64 t.ti) ∧ W.cell? ⟨g, k * 4 + 1, none⟩ = some (.int .i64 t.ta) ∧ W.cell? ⟨g, k * 4 + 2, none⟩ = some (.int .i64 t.td) ∧ W.cell? ⟨g, k * 4 + 3, none⟩ = some (.int .i64 t.tb)) :
    Calls Try.prog 93 #[.slice (some ⟨g, 0, none⟩) n cap, .func (.func 90) #[] #[]] W fun e W' => e = .returned (.agg #[.int .i64 m.ti, .int .i64 m.ta, .int .i64 m.td, .int .i64 m.tb]) ∧ Below W.heap.size W W' := by
  have b1 := (Below.refl _ W).alloc (Nat.le_refl _) (.cells #[.int .i64 0, .int .i64 0, .int .i64 0, .int .i64 0] 68)
  have b2 := b1.alloc (by simp) (.cells #[.int .i64 t0.ti, .int .i64 t0.ta, .int .i64 t0.td, .int .i64 t0.tb] 68)
  have kr := (Bk.new W 68 #[.int .i64 0, .int .i64 0, .int .i64 0, .int .i64 0]).alloc (.cells #[.int .i64 t0.ti, .int .i64 t0.ta, .int .i64 t0.td, .int .i64 t0.tb] 68)
  have km := Bk.new (W.alloc (.cells #[.int .i64 0, .int .i64 0, .int .i64 0, .int .i64 0] 68)) 68 #[.int .i64 t0.ti, .int .i64 t0.ta, .int .i64 t0.td, .int .i64 t0.tb]
  simp only [World.size_alloc] at km
  have KR := Lib.hid kr
  have KM := Lib.hid km
  have B2 := Lib.hid b2
  have HC := Lib.hid hc
  have HG := Lib.hid hg
  have HM := Lib.hid hm
  have HL := Lib.hid hl
  have h1 : 0 < n := by have := (List.getElem?_eq_some_iff.1 h0).1; omega
  have HGM := Lib.hid (show W.heap.size ≤ W.heap.size + 1 by omega)
  have HNE := Lib.hid (show W.heap.size ≠ W.heap.size + 1 by omega)
  have H01 : Hid (minBy Tsk.tb (ys.take 1) = some t0) := Lib.hid (by rw [List.take_one, List.head?_eq_getElem?, h0]; rfl)
  obtain ⟨e0, e1, e2, e3⟩ := hc 0 t0 h0
  simp only [Nat.zero_mul, Nat.zero_add] at e0 e1 e2 e3
  clear b1 b2 kr km hc hm hl h0
  have hn1 : (0 : Int) < (n : Int) := by omega
  go_enter Try.func93, Try.ntmps93
  go_wp2_with fail
  clear e0 e1 e2 e3
  generalize (W.alloc (.cells #[.int .i64 0, .int .i64 0, .int .i64 0, .int .i64 0] 68)).alloc (.cells #[.int .i64 t0.ti, .int .i64 t0.ta, .int .i64 t0.td, .int .i64 t0.tb] 68) = v at KR KM B2 ⊢
  generalize hgm : W.heap.size + 1 = gm at KM HGM HNE ⊢
  clear hgm
  generalize hgr : W.heap.size = gr at KR HGM HNE ⊢
  have HGR := Lib.hid hgr
  clear hgr
  go_loopw [6] (fun i wr => ∃ (k : Nat) (t : Tsk), 1 ≤ k ∧ k ≤ n ∧ i = .int .i64 k ∧ Hid (minBy Tsk.tb (ys.take k) = some t) ∧ Hid (Bk wr gm 68 #[.int .i64 t.ti, .int .i64 t.ta, .int .i64 t.td, .int .i64 t.tb]) ∧ Hid (Bk wr gr 68 #[.int .i64 0, .int .i64 0, .int .i64 0, .int .i64 0]) ∧ Hid (Below W.heap.size W wr)) (fun i _ => n - (intOf i).toNat)
  case atStart => exact ⟨1, t0, Nat.le_refl _, by omega, rfl, H01, KM, KR, B2⟩
  case round =>
    clear KM KR B2 H01
    obtain ⟨k, t, hk1, hk, rfl, HT, KM, KR, Bl⟩ := hrel
    obtain ⟨z0, z1, z2, z3⟩ := KM.out.cell4
    by_cases hlt : k < n
    · obtain ⟨s, hs⟩ : ∃ s, ys[k]? = some s := ⟨_, List.getElem?_eq_getElem (by have := HL.out; omega)⟩
      have hts : minBy Tsk.tb (ys.take (k + 1)) = if s.tb < t.tb then some s else some t := by rw [List.take_add_one, hs, Option.toList_some, minBy_snoc, HT.out]; rfl
      have HTS := Lib.hid hts
      obtain ⟨e0, e1, e2, e3⟩ := HC.out k s hs
      rw [← Bl.out.cell (p := ⟨g, _, none⟩) HG.out] at e0 e1 e2 e3
      have E0 := Lib.hid (And.intro e0 (And.intro e1 (And.intro e2 e3)))
      have hi : (k : Int) < (n : Int) := by omega
      have f4 := KM.out.free4
      have F4 := Lib.hid f4
      have q0 := Lib.hid (fun dd os => Calls.regrown_of (byBornI s t (grow (redrawn wr dd) os)))
      have HS := Lib.hid hs
      clear hts hs f4
      go_wp2_with fail
      replace z0 := cell_regrown z0
      replace z1 := cell_regrown z1
      replace z2 := cell_regrown z2
      replace z3 := cell_regrown z3
      replace e0 := cell_regrown e0
      replace e1 := cell_regrown e1
      replace e2 := cell_regrown e2
      replace e3 := cell_regrown e3
      refine wp_region_quiet_below mixed (by kernel_rfl) ?_
      repeat (go_big_quiet_step (with_reducible exact q0.out _ _))
      refine wpQuiet_nil ?_
      intro _ hw'
      obtain ⟨⟨dq, osq⟩, rfl⟩ := hw'
      have br := below_regrown wr dq osq
      have KM1 := Lib.hid (KM.out.below br)
      have KR1 := Lib.hid (KR.out.below br)
      have Bl1 := Lib.hid (Bl.out.trans (br.mono Bl.out.size))
      clear z0 z1 z2 z3 e0 e1 e2 e3 q0 br KM KR Bl E0 F4
      generalize grow (redrawn wr dq) osq = u9 at KM1 KR1 Bl1 ⊢
      by_cases hlt2 : s.tb < t.tb
      · have hcv : cmpV s.tb t.tb < 0 := cmpV_lt.2 hlt2
        have HX : Hid (minBy Tsk.tb (ys.take (k + 1)) = some s) := Lib.hid (by rw [HTS.out, if_pos hlt2])
        have hs2 : ys[k]? = some s := by rw [HS.out]
        obtain ⟨e0, e1, e2, e3⟩ := HC.out k s hs2
        rw [← Bl1.out.cell (p := ⟨g, _, none⟩) HG.out] at e0 e1 e2 e3
        obtain ⟨z0, z1, z2, z3⟩ := KM1.out.cell4
        obtain ⟨f0, f1, f2, f3⟩ := KM1.out.free4
        have KM2 := Lib.hid (KM1.out.set4 (x := .int .i64 s.ti) (y := .int .i64 s.ta) (z := .int .i64 s.td) (u := .int .i64 s.tb))
        have KR2 := Lib.hid ((((KR1.out.far (p := ⟨gm, 0, none⟩) HNE.out (.int .i64 s.ti)).far (p := ⟨gm, 1, none⟩) HNE.out (.int .i64 s.ta)).far (p := ⟨gm, 2, none⟩) HNE.out (.int .i64 s.td)).far (p := ⟨gm, 3, none⟩) HNE.out (.int .i64 s.tb))
        have Bl2 := Lib.hid ((((Bl1.out.setCell (p := ⟨gm, 0, none⟩) (by rw [HGR.out]; exact HGM.out) (.int .i64 s.ti)).setCell (p := ⟨gm, 1, none⟩) (by rw [HGR.out]; exact HGM.out) (.int .i64 s.ta)).setCell (p := ⟨gm, 2, none⟩) (by rw [HGR.out]; exact HGM.out) (.int .i64 s.td)).setCell (p := ⟨gm, 3, none⟩) (by rw [HGR.out]; exact HGM.out) (.int .i64 s.tb))
        clear hs2 hlt2 HTS
        go_wp2_with fail
        go_roundw
        case rel => exact ⟨k + 1, s, by omega, by omega, by go_num, HX, KM2, KR2, Bl2⟩
        case measure => simp [intOf]; omega
      · have hcv : ¬ cmpV s.tb t.tb < 0 := fun h => hlt2 (cmpV_lt.1 h)
        have HX : Hid (minBy Tsk.tb (ys.take (k + 1)) = some t) := Lib.hid (by rw [HTS.out, if_neg hlt2])
        clear hlt2 HTS
        go_wp2_with fail
        go_roundw
        case rel => exact ⟨k + 1, t, by omega, by omega, by go_num, HX, KM1, KR1, Bl1⟩
        case measure => simp [intOf]; omega
    · obtain rfl : k = n := by omega
      have hm2 := HT.out
      rw [List.take_of_length_le (by have := HL.out; omega), HM.out] at hm2
      cases hm2
      obtain ⟨y0, y1, y2, y3⟩ := KR.out.cell4
      obtain ⟨f0, f1, f2, f3⟩ := KR.out.free4
      have kr2 := KR.out.set4 (x := .int .i64 m.ti) (y := .int .i64 m.ta) (z := .int .i64 m.td) (u := .int .i64 m.tb)
      have hgw : W.heap.size ≤ gr := by have := HGR.out; omega
      have Bl2 := Lib.hid ((((Bl.out.setCell (p := ⟨gr, 0, none⟩) hgw (.int .i64 m.ti)).setCell (p := ⟨gr, 1, none⟩) hgw (.int .i64 m.ta)).setCell (p := ⟨gr, 2, none⟩) hgw (.int .i64 m.td)).setCell (p := ⟨gr, 3, none⟩) hgw (.int .i64 m.tb))
      have KR2 := Lib.hid kr2
      clear kr2 hgw HT
      go_wp2_with fail
      obtain ⟨y0, y1, y2, y3⟩ := KR2.out.cell4
      refine bodyPost_ret (v := .agg #[.int .i64 m.ti, .int .i64 m.ta, .int .i64 m.td, .int .i64 m.tb]) ?_ rfl ⟨rfl, Bl2.out⟩
      simp [results, Try.results93, go_sem, y0, y1, y2, y3]
set_option maxRecDepth 100000 in
set_option maxHeartbeats 2000000 in
theorem minDueI (g n cap : Nat) (ys : List Tsk) (t0 m : Tsk) (W : World) (hl : ys.length = n) (hn : n ≤ 12) (h0 : ys[0]? = some t0) (hm : minBy Tsk.td ys = some m) (hg : g < W.heap.size) (hc : ∀ (k : Nat) (t : Tsk), ys[k]? = some t → W.cell? ⟨g, k * 4, none⟩ = some (.int .i64 t.ti) ∧ W.cell? ⟨g, k * 4 + 1, none⟩ = some (.int .i64 t.ta) ∧ W.cell? ⟨g, k * 4 + 2, none⟩ = some (.int .i64 t.td) ∧ W.cell? ⟨g, k * 4 + 3, none⟩ = some (.int .i64 t.tb)) :
    Calls Try.prog 93 #[.slice (some ⟨g, 0, none⟩) n cap, .func (.func 92) #[] #[]] W fun e W' => e = .returned (.agg #[.int .i64 m.ti, .int .i64 m.ta, .int .i64 m.td, .int .i64 m.tb]) ∧ Below W.heap.size W W' := by
  have b1 := (Below.refl _ W).alloc (Nat.le_refl _) (.cells #[.int .i64 0, .int .i64 0, .int .i64 0, .int .i64 0] 68)
  have b2 := b1.alloc (by simp) (.cells #[.int .i64 t0.ti, .int .i64 t0.ta, .int .i64 t0.td, .int .i64 t0.tb] 68)
  have kr := (Bk.new W 68 #[.int .i64 0, .int .i64 0, .int .i64 0, .int .i64 0]).alloc (.cells #[.int .i64 t0.ti, .int .i64 t0.ta, .int .i64 t0.td, .int .i64 t0.tb] 68)
  have km := Bk.new (W.alloc (.cells #[.int .i64 0, .int .i64 0, .int .i64 0, .int .i64 0] 68)) 68 #[.int .i64 t0.ti, .int .i64 t0.ta, .int .i64 t0.td, .int .i64 t0.tb]
  simp only [World.size_alloc] at km
  have KR := Lib.hid kr
  have KM := Lib.hid km
  have B2 := Lib.hid b2
  have HC := Lib.hid hc
  have HG := Lib.hid hg
  have HM := Lib.hid hm
  have HL := Lib.hid hl
  have h1 : 0 < n := by have := (List.getElem?_eq_some_iff.1 h0).1; omega
  have HGM := Lib.hid (show W.heap.size ≤ W.heap.size + 1 by omega)
  have HNE := Lib.hid (show W.heap.size ≠ W.heap.size + 1 by omega)
  have H01 : Hid (minBy Tsk.td (ys.take 1) = some t0) := Lib.hid (by rw [List.take_one, List.head?_eq_getElem?, h0]; rfl)
  obtain ⟨e0, e1, e2, e3⟩ := hc 0 t0 h0
  simp only [Nat.zero_mul, Nat.zero_add] at e0 e1 e2 e3
  clear b1 b2 kr km hc hm hl h0
  have hn1 : (0 : Int) < (n : Int) := by omega
  go_enter Try.func93, Try.ntmps93
  go_wp2_with fail
  clear e0 e1 e2 e3
  generalize (W.alloc (.cells #[.int .i64 0, .int .i64 0, .int .i64 0, .int .i64 0] 68)).alloc (.cells #[.int .i64 t0.ti, .int .i64 t0.ta, .int .i64 t0.td, .int .i64 t0.tb] 68) = v at KR KM B2 ⊢
  generalize hgm : W.heap.size + 1 = gm at KM HGM HNE ⊢
  clear hgm
  generalize hgr : W.heap.size = gr at KR HGM HNE ⊢
  have HGR := Lib.hid hgr
  clear hgr
  go_loopw [6] (fun i wr => ∃ (k : Nat) (t : Tsk), 1 ≤ k ∧ k ≤ n ∧ i = .int .i64 k ∧ Hid (minBy Tsk.td (ys.take k) = some t) ∧ Hid (Bk wr gm 68 #[.int .i64 t.ti, .int .i64 t.ta, .int .i64 t.td, .int .i64 t.tb]) ∧ Hid (Bk wr gr 68 #[.int .i64 0, .int .i64 0, .int .i64 0, .int .i64 0]) ∧ Hid (Below W.heap.size W wr)) (fun i _ => n - (intOf i).toNat)
  case atStart => exact ⟨1, t0, Nat.le_refl _, by omega, rfl, H01, KM, KR, B2⟩
  case round =>
    clear KM KR B2 H01
    obtain ⟨k, t, hk1, hk, rfl, HT, KM, KR, Bl⟩ := hrel
    obtain ⟨z0, z1, z2, z3⟩ := KM.out.cell4
    by_cases hlt : k < n
    · obtain ⟨s, hs⟩ : ∃ s, ys[k]? = some s := ⟨_, List.getElem?_eq_getElem (by have := HL.out; omega)⟩
      have hts : minBy Tsk.td (ys.take (k + 1)) = if s.td < t.td then some s else some t := by rw [List.take_add_one, hs, Option.toList_some, minBy_snoc, HT.out]; rfl
      have HTS := Lib.hid hts
      obtain ⟨e0, e1, e2, e3⟩ := HC.out k s hs
      rw [← Bl.out.cell (p := ⟨g, _, none⟩) HG.out] at e0 e1 e2 e3
      have E0 := Lib.hid (And.intro e0 (And.intro e1 (And.intro e2 e3)))
      have hi : (k : Int) < (n : Int) := by omega
      have f4 := KM.out.free4
      have F4 := Lib.hid f4
      have q0 := Lib.hid (fun dd os => Calls.regrown_of (byDueI s t (grow (redrawn wr dd) os)))
      have HS := Lib.hid hs
      clear hts hs f4
      go_wp2_with fail
      replace z0 := cell_regrown z0
      replace z1 := cell_regrown z1
      replace z2 := cell_regrown z2
      replace z3 := cell_regrown z3
      replace e0 := cell_regrown e0
      replace e1 := cell_regrown e1
      replace e2 := cell_regrown e2
      replace e3 := cell_regrown e3
      refine wp_region_quiet_below mixed (by kernel_rfl) ?_
      repeat (go_big_quiet_step (with_reducible exact q0.out _ _))
      refine wpQuiet_nil ?_
      intro _ hw'
      obtain ⟨⟨dq, osq⟩, rfl⟩ := hw'
      have br := below_regrown wr dq osq
      have KM1 := Lib.hid (KM.out.below br)
      have KR1 := Lib.hid (KR.out.below br)
      have Bl1 := Lib.hid (Bl.out.trans (br.mono Bl.out.size))
      clear z0 z1 z2 z3 e0 e1 e2 e3 q0 br KM KR Bl E0 F4
      generalize grow (redrawn wr dq) osq = u9 at KM1 KR1 Bl1 ⊢
      by_cases hlt2 : s.td < t.td
      · have hcv : cmpV s.td t.td < 0 := cmpV_lt.2 hlt2
        have HX : Hid (minBy Tsk.td (ys.take (k + 1)) = some s) := Lib.hid (by rw [HTS.out, if_pos hlt2])
        have hs2 : ys[k]? = some s := by rw [HS.out]
        obtain ⟨e0, e1, e2, e3⟩ := HC.out k s hs2
        rw [← Bl1.out.cell (p := ⟨g, _, none⟩) HG.out] at e0 e1 e2 e3
        obtain ⟨z0, z1, z2, z3⟩ := KM1.out.cell4
        obtain ⟨f0, f1, f2, f3⟩ := KM1.out.free4
        have KM2 := Lib.hid (KM1.out.set4 (x := .int .i64 s.ti) (y := .int .i64 s.ta) (z := .int .i64 s.td) (u := .int .i64 s.tb))
        have KR2 := Lib.hid ((((KR1.out.far (p := ⟨gm, 0, none⟩) HNE.out (.int .i64 s.ti)).far (p := ⟨gm, 1, none⟩) HNE.out (.int .i64 s.ta)).far (p := ⟨gm, 2, none⟩) HNE.out (.int .i64 s.td)).far (p := ⟨gm, 3, none⟩) HNE.out (.int .i64 s.tb))
        have Bl2 := Lib.hid ((((Bl1.out.setCell (p := ⟨gm, 0, none⟩) (by rw [HGR.out]; exact HGM.out) (.int .i64 s.ti)).setCell (p := ⟨gm, 1, none⟩) (by rw [HGR.out]; exact HGM.out) (.int .i64 s.ta)).setCell (p := ⟨gm, 2, none⟩) (by rw [HGR.out]; exact HGM.out) (.int .i64 s.td)).setCell (p := ⟨gm, 3, none⟩) (by rw [HGR.out]; exact HGM.out) (.int .i64 s.tb))
        clear hs2 hlt2 HTS
        go_wp2_with fail
        go_roundw
        case rel => exact ⟨k + 1, s, by omega, by omega, by go_num, HX, KM2, KR2, Bl2⟩
        case measure => simp [intOf]; omega
      · have hcv : ¬ cmpV s.td t.td < 0 := fun h => hlt2 (cmpV_lt.1 h)
        have HX : Hid (minBy Tsk.td (ys.take (k + 1)) = some t) := Lib.hid (by rw [HTS.out, if_neg hlt2])
        clear hlt2 HTS
        go_wp2_with fail
        go_roundw
        case rel => exact ⟨k + 1, t, by omega, by omega, by go_num, HX, KM1, KR1, Bl1⟩
        case measure => simp [intOf]; omega
    · obtain rfl : k = n := by omega
      have hm2 := HT.out
      rw [List.take_of_length_le (by have := HL.out; omega), HM.out] at hm2
      cases hm2
      obtain ⟨y0, y1, y2, y3⟩ := KR.out.cell4
      obtain ⟨f0, f1, f2, f3⟩ := KR.out.free4
      have kr2 := KR.out.set4 (x := .int .i64 m.ti) (y := .int .i64 m.ta) (z := .int .i64 m.td) (u := .int .i64 m.tb)
      have hgw : W.heap.size ≤ gr := by have := HGR.out; omega
      have Bl2 := Lib.hid ((((Bl.out.setCell (p := ⟨gr, 0, none⟩) hgw (.int .i64 m.ti)).setCell (p := ⟨gr, 1, none⟩) hgw (.int .i64 m.ta)).setCell (p := ⟨gr, 2, none⟩) hgw (.int .i64 m.td)).setCell (p := ⟨gr, 3, none⟩) hgw (.int .i64 m.tb))
      have KR2 := Lib.hid kr2
      clear kr2 hgw HT
      go_wp2_with fail
      obtain ⟨y0, y1, y2, y3⟩ := KR2.out.cell4
      refine bodyPost_ret (v := .agg #[.int .i64 m.ti, .int .i64 m.ta, .int .i64 m.td, .int .i64 m.tb]) ?_ rfl ⟨rfl, Bl2.out⟩
      simp [results, Try.results93, go_sem, y0, y1, y2, y3]
end Qt
end Go.Proofs.Ytihnpfcjnfkfjaa
