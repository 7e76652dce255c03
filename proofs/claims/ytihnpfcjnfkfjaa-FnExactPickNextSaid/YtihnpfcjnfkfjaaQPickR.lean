/- What the program picks next, when it is called. Conditions: the schedule is right, or there is no task. -/
import Derived.Test.YtihnpfcjnfkfjaaQPickI
import Derived.Test.YtihnpfcjnfkfjaaQPickD
namespace Go.Proofs.Ytihnpfcjnfkfjaa
open Go.RowKit Go.Sort
set_option linter.unusedSimpArgs false
set_option linter.unusedVariables false
namespace Qt
def duV : Option Tsk → Value
  | none => .agg #[.int .i64 0, .int .i64 0, .int .i64 0, .int .i64 0]
  | some t => .agg #[.int .i64 t.ti, .int .i64 t.ta, .int .i64 t.td, .int .i64 t.tb]
set_option maxRecDepth 100000 in
theorem rulesOld (nw sk ag rn lf tu nx : Int) (mb : Option Nat) (W : World) (h0 : 0 ≤ tu) (h1 : 0 < ag) (h2 : tu % ag = 0) :
    Calls Try.prog 80 #[.agg #[.int .i64 nw, .int .i64 sk, .int .i64 ag, .slice none 0 0, .int .i64 rn, .int .i64 lf, .int .i64 tu, .int .i64 nx, .map mb]] W fun e W' => ∃ g, e = .returned (.slice (some ⟨g, 0, none⟩) 2 2) ∧ Bk W' g 96 #[.func (.func 55) #[.agg #[.int .i64 nw, .int .i64 sk, .int .i64 ag, .slice none 0 0, .int .i64 rn, .int .i64 lf, .int .i64 tu, .int .i64 nx, .map mb]] #[], .func (.func 90) #[] #[], .func (.func 91) #[.agg #[.int .i64 nw, .int .i64 sk, .int .i64 ag, .slice none 0 0, .int .i64 rn, .int .i64 lf, .int .i64 tu, .int .i64 nx, .map mb]] #[], .func (.func 92) #[] #[]] ∧ Below W.heap.size W W' := by
  have b1 := (((Below.refl _ W).alloc (Nat.le_refl _) (.cells #[.int .i64 nw, .int .i64 sk, .int .i64 ag, .slice none 0 0, .int .i64 rn, .int .i64 lf, .int .i64 tu, .int .i64 nx, .map mb] 58)).alloc (by simp) (.cells #[.func (.func 55) #[.agg #[.int .i64 nw, .int .i64 sk, .int .i64 ag, .slice none 0 0, .int .i64 rn, .int .i64 lf, .int .i64 tu, .int .i64 nx, .map mb]] #[], .func (.func 90) #[] #[]] 96)).alloc (by simp only [World.size_alloc]; omega) (.cells #[.func (.func 91) #[.agg #[.int .i64 nw, .int .i64 sk, .int .i64 ag, .slice none 0 0, .int .i64 rn, .int .i64 lf, .int .i64 tu, .int .i64 nx, .map mb]] #[], .func (.func 92) #[] #[]] 96)
  have B1 := Lib.hid b1
  clear b1
  have h3 : (tu % ag == 0) = true := by simpa using h2
  have h4 : ¬ ag = 0 := by omega
  clear h2
  go_enter Try.func80, Try.ntmps80
  go_wp2_with fail
  go_ret
  refine ⟨_, rfl, ?_, B1.out.alloc (by simp only [World.size_alloc]; omega) _⟩
  have k := Bk.new (((W.alloc (.cells #[.int .i64 nw, .int .i64 sk, .int .i64 ag, .slice none 0 0, .int .i64 rn, .int .i64 lf, .int .i64 tu, .int .i64 nx, .map mb] 58)).alloc (.cells #[.func (.func 55) #[.agg #[.int .i64 nw, .int .i64 sk, .int .i64 ag, .slice none 0 0, .int .i64 rn, .int .i64 lf, .int .i64 tu, .int .i64 nx, .map mb]] #[], .func (.func 90) #[] #[]] 96)).alloc (.cells #[.func (.func 91) #[.agg #[.int .i64 nw, .int .i64 sk, .int .i64 ag, .slice none 0 0, .int .i64 rn, .int .i64 lf, .int .i64 tu, .int .i64 nx, .map mb]] #[], .func (.func 92) #[] #[]] 96)) 96 #[.func (.func 55) #[.agg #[.int .i64 nw, .int .i64 sk, .int .i64 ag, .slice none 0 0, .int .i64 rn, .int .i64 lf, .int .i64 tu, .int .i64 nx, .map mb]] #[], .func (.func 90) #[] #[], .func (.func 91) #[.agg #[.int .i64 nw, .int .i64 sk, .int .i64 ag, .slice none 0 0, .int .i64 rn, .int .i64 lf, .int .i64 tu, .int .i64 nx, .map mb]] #[], .func (.func 92) #[] #[]]
  simp only [World.size_alloc] at k ⊢
  exact k
set_option maxRecDepth 100000 in
theorem rulesNew (nw sk ag rn lf tu nx : Int) (mb : Option Nat) (W : World) (h0 : 0 ≤ tu) (h1 : 0 < ag) (h2 : ¬ tu % ag = 0) :
    Calls Try.prog 80 #[.agg #[.int .i64 nw, .int .i64 sk, .int .i64 ag, .slice none 0 0, .int .i64 rn, .int .i64 lf, .int .i64 tu, .int .i64 nx, .map mb]] W fun e W' => ∃ g, e = .returned (.slice (some ⟨g, 0, none⟩) 2 2) ∧ Bk W' g 96 #[.func (.func 91) #[.agg #[.int .i64 nw, .int .i64 sk, .int .i64 ag, .slice none 0 0, .int .i64 rn, .int .i64 lf, .int .i64 tu, .int .i64 nx, .map mb]] #[], .func (.func 92) #[] #[], .func (.func 55) #[.agg #[.int .i64 nw, .int .i64 sk, .int .i64 ag, .slice none 0 0, .int .i64 rn, .int .i64 lf, .int .i64 tu, .int .i64 nx, .map mb]] #[], .func (.func 90) #[] #[]] ∧ Below W.heap.size W W' := by
  have b1 := (((Below.refl _ W).alloc (Nat.le_refl _) (.cells #[.int .i64 nw, .int .i64 sk, .int .i64 ag, .slice none 0 0, .int .i64 rn, .int .i64 lf, .int .i64 tu, .int .i64 nx, .map mb] 58)).alloc (by simp) (.cells #[.func (.func 55) #[.agg #[.int .i64 nw, .int .i64 sk, .int .i64 ag, .slice none 0 0, .int .i64 rn, .int .i64 lf, .int .i64 tu, .int .i64 nx, .map mb]] #[], .func (.func 90) #[] #[]] 96)).alloc (by simp only [World.size_alloc]; omega) (.cells #[.func (.func 91) #[.agg #[.int .i64 nw, .int .i64 sk, .int .i64 ag, .slice none 0 0, .int .i64 rn, .int .i64 lf, .int .i64 tu, .int .i64 nx, .map mb]] #[], .func (.func 92) #[] #[]] 96)
  have B1 := Lib.hid b1
  clear b1
  have h3 : (tu % ag == 0) = false := by simpa using h2
  have h4 : ¬ ag = 0 := by omega
  clear h2
  go_enter Try.func80, Try.ntmps80
  go_wp2_with fail
  go_ret
  refine ⟨_, rfl, ?_, B1.out.alloc (by simp only [World.size_alloc]; omega) _⟩
  have k := Bk.new (((W.alloc (.cells #[.int .i64 nw, .int .i64 sk, .int .i64 ag, .slice none 0 0, .int .i64 rn, .int .i64 lf, .int .i64 tu, .int .i64 nx, .map mb] 58)).alloc (.cells #[.func (.func 55) #[.agg #[.int .i64 nw, .int .i64 sk, .int .i64 ag, .slice none 0 0, .int .i64 rn, .int .i64 lf, .int .i64 tu, .int .i64 nx, .map mb]] #[], .func (.func 90) #[] #[]] 96)).alloc (.cells #[.func (.func 91) #[.agg #[.int .i64 nw, .int .i64 sk, .int .i64 ag, .slice none 0 0, .int .i64 rn, .int .i64 lf, .int .i64 tu, .int .i64 nx, .map mb]] #[], .func (.func 92) #[] #[]] 96)) 96 #[.func (.func 91) #[.agg #[.int .i64 nw, .int .i64 sk, .int .i64 ag, .slice none 0 0, .int .i64 rn, .int .i64 lf, .int .i64 tu, .int .i64 nx, .map mb]] #[], .func (.func 92) #[] #[], .func (.func 55) #[.agg #[.int .i64 nw, .int .i64 sk, .int .i64 ag, .slice none 0 0, .int .i64 rn, .int .i64 lf, .int .i64 tu, .int .i64 nx, .map mb]] #[], .func (.func 90) #[] #[]]
  simp only [World.size_alloc] at k ⊢
  exact k
set_option maxRecDepth 100000 in
theorem rulesNo (nw sk ag rn lf tu nx : Int) (mb : Option Nat) (W : World) (h1 : ¬ 0 < ag) :
    Calls Try.prog 80 #[.agg #[.int .i64 nw, .int .i64 sk, .int .i64 ag, .slice none 0 0, .int .i64 rn, .int .i64 lf, .int .i64 tu, .int .i64 nx, .map mb]] W fun e W' => ∃ g, e = .returned (.slice (some ⟨g, 0, none⟩) 2 2) ∧ Bk W' g 96 #[.func (.func 91) #[.agg #[.int .i64 nw, .int .i64 sk, .int .i64 ag, .slice none 0 0, .int .i64 rn, .int .i64 lf, .int .i64 tu, .int .i64 nx, .map mb]] #[], .func (.func 92) #[] #[], .func (.func 55) #[.agg #[.int .i64 nw, .int .i64 sk, .int .i64 ag, .slice none 0 0, .int .i64 rn, .int .i64 lf, .int .i64 tu, .int .i64 nx, .map mb]] #[], .func (.func 90) #[] #[]] ∧ Below W.heap.size W W' := by
  have b1 := (((Below.refl _ W).alloc (Nat.le_refl _) (.cells #[.int .i64 nw, .int .i64 sk, .int .i64 ag, .slice none 0 0, .int .i64 rn, .int .i64 lf, .int .i64 tu, .int .i64 nx, .map mb] 58)).alloc (by simp) (.cells #[.func (.func 55) #[.agg #[.int .i64 nw, .int .i64 sk, .int .i64 ag, .slice none 0 0, .int .i64 rn, .int .i64 lf, .int .i64 tu, .int .i64 nx, .map mb]] #[], .func (.func 90) #[] #[]] 96)).alloc (by simp only [World.size_alloc]; omega) (.cells #[.func (.func 91) #[.agg #[.int .i64 nw, .int .i64 sk, .int .i64 ag, .slice none 0 0, .int .i64 rn, .int .i64 lf, .int .i64 tu, .int .i64 nx, .map mb]] #[], .func (.func 92) #[] #[]] 96)
  have B1 := Lib.hid b1
  clear b1
  go_enter Try.func80, Try.ntmps80
  go_wp2_with fail
  go_ret
  refine ⟨_, rfl, ?_, B1.out.alloc (by simp only [World.size_alloc]; omega) _⟩
  have k := Bk.new (((W.alloc (.cells #[.int .i64 nw, .int .i64 sk, .int .i64 ag, .slice none 0 0, .int .i64 rn, .int .i64 lf, .int .i64 tu, .int .i64 nx, .map mb] 58)).alloc (.cells #[.func (.func 55) #[.agg #[.int .i64 nw, .int .i64 sk, .int .i64 ag, .slice none 0 0, .int .i64 rn, .int .i64 lf, .int .i64 tu, .int .i64 nx, .map mb]] #[], .func (.func 90) #[] #[]] 96)).alloc (.cells #[.func (.func 91) #[.agg #[.int .i64 nw, .int .i64 sk, .int .i64 ag, .slice none 0 0, .int .i64 rn, .int .i64 lf, .int .i64 tu, .int .i64 nx, .map mb]] #[], .func (.func 92) #[] #[]] 96)) 96 #[.func (.func 91) #[.agg #[.int .i64 nw, .int .i64 sk, .int .i64 ag, .slice none 0 0, .int .i64 rn, .int .i64 lf, .int .i64 tu, .int .i64 nx, .map mb]] #[], .func (.func 92) #[] #[], .func (.func 55) #[.agg #[.int .i64 nw, .int .i64 sk, .int .i64 ag, .slice none 0 0, .int .i64 rn, .int .i64 lf, .int .i64 tu, .int .i64 nx, .map mb]] #[], .func (.func 90) #[] #[]]
  simp only [World.size_alloc] at k ⊢
  exact k
set_option maxRecDepth 100000 in
set_option maxHeartbeats 1000000 in
theorem firstOld (nw sk ag rn lf tu nx : Int) (mb : Option Nat) (ys : List Tsk) (h12 : ys.length ≤ 12) (W : World) (hd : ∀ w, Below W.heap.size W w → Calls Try.prog 54 #[.agg #[.int .i64 nw, .int .i64 sk, .int .i64 ag, .slice none 0 0, .int .i64 rn, .int .i64 lf, .int .i64 tu, .int .i64 nx, .map mb], .func (.func 55) #[.agg #[.int .i64 nw, .int .i64 sk, .int .i64 ag, .slice none 0 0, .int .i64 rn, .int .i64 lf, .int .i64 tu, .int .i64 nx, .map mb]] #[]] w fun e W' => ∃ V, e = .returned V ∧ W'.ownsRow w.heap.size 68 4 V ys.length (duC ys) ∧ Below w.heap.size w W') :
    Calls Try.prog 81 #[.agg #[.int .i64 nw, .int .i64 sk, .int .i64 ag, .slice none 0 0, .int .i64 rn, .int .i64 lf, .int .i64 tu, .int .i64 nx, .map mb], .agg #[.func (.func 55) #[.agg #[.int .i64 nw, .int .i64 sk, .int .i64 ag, .slice none 0 0, .int .i64 rn, .int .i64 lf, .int .i64 tu, .int .i64 nx, .map mb]] #[], .func (.func 90) #[] #[]]] W fun e W' => e = .returned (duV (minBy Tsk.tb ys)) ∧ Below W.heap.size W W' := by
  have b1 := (((Below.refl _ W).alloc (Nat.le_refl _) (.cells #[.int .i64 nw, .int .i64 sk, .int .i64 ag, .slice none 0 0, .int .i64 rn, .int .i64 lf, .int .i64 tu, .int .i64 nx, .map mb] 58)).alloc (by simp) (.cells #[.func (.func 55) #[.agg #[.int .i64 nw, .int .i64 sk, .int .i64 ag, .slice none 0 0, .int .i64 rn, .int .i64 lf, .int .i64 tu, .int .i64 nx, .map mb]] #[], .func (.func 90) #[] #[]] 96)).alloc (by simp only [World.size_alloc]; omega) (.cells #[.int .i64 0, .int .i64 0, .int .i64 0, .int .i64 0] 68)
  have kw := (Bk.new (W.alloc (.cells #[.int .i64 nw, .int .i64 sk, .int .i64 ag, .slice none 0 0, .int .i64 rn, .int .i64 lf, .int .i64 tu, .int .i64 nx, .map mb] 58)) 96 #[.func (.func 55) #[.agg #[.int .i64 nw, .int .i64 sk, .int .i64 ag, .slice none 0 0, .int .i64 rn, .int .i64 lf, .int .i64 tu, .int .i64 nx, .map mb]] #[], .func (.func 90) #[] #[]]).alloc (.cells #[.int .i64 0, .int .i64 0, .int .i64 0, .int .i64 0] 68)
  have kd := Bk.new ((W.alloc (.cells #[.int .i64 nw, .int .i64 sk, .int .i64 ag, .slice none 0 0, .int .i64 rn, .int .i64 lf, .int .i64 tu, .int .i64 nx, .map mb] 58)).alloc (.cells #[.func (.func 55) #[.agg #[.int .i64 nw, .int .i64 sk, .int .i64 ag, .slice none 0 0, .int .i64 rn, .int .i64 lf, .int .i64 tu, .int .i64 nx, .map mb]] #[], .func (.func 90) #[] #[]] 96)) 68 #[.int .i64 0, .int .i64 0, .int .i64 0, .int .i64 0]
  simp only [World.size_alloc] at kw kd
  have B1 := Lib.hid b1
  have KW := Lib.hid kw
  have KD := Lib.hid kd
  have HGD := Lib.hid (show W.heap.size ≤ W.heap.size + 1 + 1 by omega)
  have HD := Lib.hid (hd _ b1)
  clear b1 kw kd hd
  go_enter Try.func81, Try.ntmps81
  go_wp2_with fail
  generalize ((W.alloc (.cells #[.int .i64 nw, .int .i64 sk, .int .i64 ag, .slice none 0 0, .int .i64 rn, .int .i64 lf, .int .i64 tu, .int .i64 nx, .map mb] 58)).alloc (.cells #[.func (.func 55) #[.agg #[.int .i64 nw, .int .i64 sk, .int .i64 ag, .slice none 0 0, .int .i64 rn, .int .i64 lf, .int .i64 tu, .int .i64 nx, .map mb]] #[], .func (.func 90) #[] #[]] 96)).alloc (.cells #[.int .i64 0, .int .i64 0, .int .i64 0, .int .i64 0] 68) = v at B1 KW KD HD ⊢
  generalize W.heap.size + 1 + 1 = gd at KD HGD ⊢
  generalize W.heap.size + 1 = gw at KW ⊢
  refine HD.out.mono ?_
  rintro e w1 ⟨VD, rfl, hrow, bb⟩
  have Bl := Lib.hid (B1.out.trans (bb.mono B1.out.size))
  replace KW := Lib.hid (KW.out.below bb)
  replace KD := Lib.hid (KD.out.below bb)
  obtain ⟨A3, cap3, rfl, hcl⟩ := du_cells hrow
  have HCL := Lib.hid hcl
  clear hcl hrow bb HD B1
  obtain ⟨y0, y1, y2, y3⟩ := KD.out.cell4
  obtain ⟨f0, f1, f2, f3⟩ := KD.out.free4
  have z0 := KW.out.cell 0 rfl
  have z1 := KW.out.cell 1 rfl
  have hgw := HGD.out
  by_cases h0 : ys.length = 0
  · obtain rfl : ys = [] := List.length_eq_zero_iff.1 h0
    have kr2 := KD.out.set4 (x := .int .i64 0) (y := .int .i64 0) (z := .int .i64 0) (u := .int .i64 0)
    have Bl2 := Lib.hid ((((Bl.out.setCell (p := ⟨gd, 0, none⟩) hgw (.int .i64 0)).setCell (p := ⟨gd, 1, none⟩) hgw (.int .i64 0)).setCell (p := ⟨gd, 2, none⟩) hgw (.int .i64 0)).setCell (p := ⟨gd, 3, none⟩) hgw (.int .i64 0))
    have KR2 := Lib.hid kr2
    clear kr2 hgw Bl
    go_wp2_with fail
    obtain ⟨y0, y1, y2, y3⟩ := KR2.out.cell4
    refine bodyPost_ret (v := .agg #[.int .i64 0, .int .i64 0, .int .i64 0, .int .i64 0]) ?_ rfl ⟨rfl, Bl2.out⟩
    simp [results, Try.results81, go_sem, y0, y1, y2, y3]
  · obtain ⟨g, rfl, hg, hc⟩ := HCL.out (by omega)
    obtain ⟨t0, h0t⟩ : ∃ t, ys[0]? = some t := ⟨_, List.getElem?_eq_getElem (by omega)⟩
    obtain ⟨m, hm⟩ : ∃ m, minBy Tsk.tb ys = some m := by
      rcases hx : minBy Tsk.tb ys with _ | m
      · rw [minBy_none] at hx
        subst hx
        exact absurd rfl h0
      · exact ⟨m, rfl⟩
    have HM := Lib.hid hm
    have HI := Lib.hid (minBornI g ys.length cap3 ys t0 m w1 rfl h12 h0t hm hg hc)
    have hn0 : ((ys.length : Int) == 0) = false := by simpa using h0
    clear HCL hg hc h0t hm y0 y1 y2 y3
    go_wp2_with fail
    refine HI.out.mono ?_
    rintro e w2 ⟨rfl, bb⟩
    replace Bl := Lib.hid (Bl.out.trans (bb.mono Bl.out.size))
    replace KD := Lib.hid (KD.out.below bb)
    clear bb HI f0 f1 f2 f3 KW z0 z1
    obtain ⟨y0, y1, y2, y3⟩ := KD.out.cell4
    obtain ⟨f0, f1, f2, f3⟩ := KD.out.free4
    have kr2 := KD.out.set4 (x := .int .i64 m.ti) (y := .int .i64 m.ta) (z := .int .i64 m.td) (u := .int .i64 m.tb)
    have Bl2 := Lib.hid ((((Bl.out.setCell (p := ⟨gd, 0, none⟩) hgw (.int .i64 m.ti)).setCell (p := ⟨gd, 1, none⟩) hgw (.int .i64 m.ta)).setCell (p := ⟨gd, 2, none⟩) hgw (.int .i64 m.td)).setCell (p := ⟨gd, 3, none⟩) hgw (.int .i64 m.tb))
    have KR2 := Lib.hid kr2
    clear kr2 hgw Bl
    go_wp2_with fail
    obtain ⟨y0, y1, y2, y3⟩ := KR2.out.cell4
    refine bodyPost_ret (v := .agg #[.int .i64 m.ti, .int .i64 m.ta, .int .i64 m.td, .int .i64 m.tb]) ?_ rfl ⟨by rw [HM.out]; rfl, Bl2.out⟩
    simp [results, Try.results81, go_sem, y0, y1, y2, y3]
set_option maxRecDepth 100000 in
set_option maxHeartbeats 1000000 in
theorem firstNew (nw sk ag rn lf tu nx : Int) (mb : Option Nat) (ys : List Tsk) (h12 : ys.length ≤ 12) (W : World) (hd : ∀ w, Below W.heap.size W w → Calls Try.prog 54 #[.agg #[.int .i64 nw, .int .i64 sk, .int .i64 ag, .slice none 0 0, .int .i64 rn, .int .i64 lf, .int .i64 tu, .int .i64 nx, .map mb], .func (.func 91) #[.agg #[.int .i64 nw, .int .i64 sk, .int .i64 ag, .slice none 0 0, .int .i64 rn, .int .i64 lf, .int .i64 tu, .int .i64 nx, .map mb]] #[]] w fun e W' => ∃ V, e = .returned V ∧ W'.ownsRow w.heap.size 68 4 V ys.length (duC ys) ∧ Below w.heap.size w W') :
    Calls Try.prog 81 #[.agg #[.int .i64 nw, .int .i64 sk, .int .i64 ag, .slice none 0 0, .int .i64 rn, .int .i64 lf, .int .i64 tu, .int .i64 nx, .map mb], .agg #[.func (.func 91) #[.agg #[.int .i64 nw, .int .i64 sk, .int .i64 ag, .slice none 0 0, .int .i64 rn, .int .i64 lf, .int .i64 tu, .int .i64 nx, .map mb]] #[], .func (.func 92) #[] #[]]] W fun e W' => e = .returned (duV (minBy Tsk.td ys)) ∧ Below W.heap.size W W' := by
  have b1 := (((Below.refl _ W).alloc (Nat.le_refl _) (.cells #[.int .i64 nw, .int .i64 sk, .int .i64 ag, .slice none 0 0, .int .i64 rn, .int .i64 lf, .int .i64 tu, .int .i64 nx, .map mb] 58)).alloc (by simp) (.cells #[.func (.func 91) #[.agg #[.int .i64 nw, .int .i64 sk, .int .i64 ag, .slice none 0 0, .int .i64 rn, .int .i64 lf, .int .i64 tu, .int .i64 nx, .map mb]] #[], .func (.func 92) #[] #[]] 96)).alloc (by simp only [World.size_alloc]; omega) (.cells #[.int .i64 0, .int .i64 0, .int .i64 0, .int .i64 0] 68)
  have kw := (Bk.new (W.alloc (.cells #[.int .i64 nw, .int .i64 sk, .int .i64 ag, .slice none 0 0, .int .i64 rn, .int .i64 lf, .int .i64 tu, .int .i64 nx, .map mb] 58)) 96 #[.func (.func 91) #[.agg #[.int .i64 nw, .int .i64 sk, .int .i64 ag, .slice none 0 0, .int .i64 rn, .int .i64 lf, .int .i64 tu, .int .i64 nx, .map mb]] #[], .func (.func 92) #[] #[]]).alloc (.cells #[.int .i64 0, .int .i64 0, .int .i64 0, .int .i64 0] 68)
  have kd := Bk.new ((W.alloc (.cells #[.int .i64 nw, .int .i64 sk, .int .i64 ag, .slice none 0 0, .int .i64 rn, .int .i64 lf, .int .i64 tu, .int .i64 nx, .map mb] 58)).alloc (.cells #[.func (.func 91) #[.agg #[.int .i64 nw, .int .i64 sk, .int .i64 ag, .slice none 0 0, .int .i64 rn, .int .i64 lf, .int .i64 tu, .int .i64 nx, .map mb]] #[], .func (.func 92) #[] #[]] 96)) 68 #[.int .i64 0, .int .i64 0, .int .i64 0, .int .i64 0]
  simp only [World.size_alloc] at kw kd
  have B1 := Lib.hid b1
  have KW := Lib.hid kw
  have KD := Lib.hid kd
  have HGD := Lib.hid (show W.heap.size ≤ W.heap.size + 1 + 1 by omega)
  have HD := Lib.hid (hd _ b1)
  clear b1 kw kd hd
  go_enter Try.func81, Try.ntmps81
  go_wp2_with fail
  generalize ((W.alloc (.cells #[.int .i64 nw, .int .i64 sk, .int .i64 ag, .slice none 0 0, .int .i64 rn, .int .i64 lf, .int .i64 tu, .int .i64 nx, .map mb] 58)).alloc (.cells #[.func (.func 91) #[.agg #[.int .i64 nw, .int .i64 sk, .int .i64 ag, .slice none 0 0, .int .i64 rn, .int .i64 lf, .int .i64 tu, .int .i64 nx, .map mb]] #[], .func (.func 92) #[] #[]] 96)).alloc (.cells #[.int .i64 0, .int .i64 0, .int .i64 0, .int .i64 0] 68) = v at B1 KW KD HD ⊢
  generalize W.heap.size + 1 + 1 = gd at KD HGD ⊢
  generalize W.heap.size + 1 = gw at KW ⊢
  refine HD.out.mono ?_
  rintro e w1 ⟨VD, rfl, hrow, bb⟩
  have Bl := Lib.hid (B1.out.trans (bb.mono B1.out.size))
  replace KW := Lib.hid (KW.out.below bb)
  replace KD := Lib.hid (KD.out.below bb)
  obtain ⟨A3, cap3, rfl, hcl⟩ := du_cells hrow
  have HCL := Lib.hid hcl
  clear hcl hrow bb HD B1
  obtain ⟨y0, y1, y2, y3⟩ := KD.out.cell4
  obtain ⟨f0, f1, f2, f3⟩ := KD.out.free4
  have z0 := KW.out.cell 0 rfl
  have z1 := KW.out.cell 1 rfl
  have hgw := HGD.out
  by_cases h0 : ys.length = 0
  · obtain rfl : ys = [] := List.length_eq_zero_iff.1 h0
    have kr2 := KD.out.set4 (x := .int .i64 0) (y := .int .i64 0) (z := .int .i64 0) (u := .int .i64 0)
    have Bl2 := Lib.hid ((((Bl.out.setCell (p := ⟨gd, 0, none⟩) hgw (.int .i64 0)).setCell (p := ⟨gd, 1, none⟩) hgw (.int .i64 0)).setCell (p := ⟨gd, 2, none⟩) hgw (.int .i64 0)).setCell (p := ⟨gd, 3, none⟩) hgw (.int .i64 0))
    have KR2 := Lib.hid kr2
    clear kr2 hgw Bl
    go_wp2_with fail
    obtain ⟨y0, y1, y2, y3⟩ := KR2.out.cell4
    refine bodyPost_ret (v := .agg #[.int .i64 0, .int .i64 0, .int .i64 0, .int .i64 0]) ?_ rfl ⟨rfl, Bl2.out⟩
    simp [results, Try.results81, go_sem, y0, y1, y2, y3]
  · obtain ⟨g, rfl, hg, hc⟩ := HCL.out (by omega)
    obtain ⟨t0, h0t⟩ : ∃ t, ys[0]? = some t := ⟨_, List.getElem?_eq_getElem (by omega)⟩
    obtain ⟨m, hm⟩ : ∃ m, minBy Tsk.td ys = some m := by
      rcases hx : minBy Tsk.td ys with _ | m
      · rw [minBy_none] at hx
        subst hx
        exact absurd rfl h0
      · exact ⟨m, rfl⟩
    have HM := Lib.hid hm
    have HI := Lib.hid (minDueI g ys.length cap3 ys t0 m w1 rfl h12 h0t hm hg hc)
    have hn0 : ((ys.length : Int) == 0) = false := by simpa using h0
    clear HCL hg hc h0t hm y0 y1 y2 y3
    go_wp2_with fail
    refine HI.out.mono ?_
    rintro e w2 ⟨rfl, bb⟩
    replace Bl := Lib.hid (Bl.out.trans (bb.mono Bl.out.size))
    replace KD := Lib.hid (KD.out.below bb)
    clear bb HI f0 f1 f2 f3 KW z0 z1
    obtain ⟨y0, y1, y2, y3⟩ := KD.out.cell4
    obtain ⟨f0, f1, f2, f3⟩ := KD.out.free4
    have kr2 := KD.out.set4 (x := .int .i64 m.ti) (y := .int .i64 m.ta) (z := .int .i64 m.td) (u := .int .i64 m.tb)
    have Bl2 := Lib.hid ((((Bl.out.setCell (p := ⟨gd, 0, none⟩) hgw (.int .i64 m.ti)).setCell (p := ⟨gd, 1, none⟩) hgw (.int .i64 m.ta)).setCell (p := ⟨gd, 2, none⟩) hgw (.int .i64 m.td)).setCell (p := ⟨gd, 3, none⟩) hgw (.int .i64 m.tb))
    have KR2 := Lib.hid kr2
    clear kr2 hgw Bl
    go_wp2_with fail
    obtain ⟨y0, y1, y2, y3⟩ := KR2.out.cell4
    refine bodyPost_ret (v := .agg #[.int .i64 m.ti, .int .i64 m.ta, .int .i64 m.td, .int .i64 m.tb]) ?_ rfl ⟨by rw [HM.out]; rfl, Bl2.out⟩
    simp [results, Try.results81, go_sem, y0, y1, y2, y3]
set_option maxRecDepth 100000 in
set_option maxHeartbeats 1000000 in
theorem pickOld (nw sk ag rn lf tu nx : Int) (mb : Option Nat) (o1 o2 : Option Tsk) (p1 : ∀ t, o1 = some t → 1 ≤ t.ti) (p2 : ∀ t, o2 = some t → 1 ≤ t.ti) (W : World)
    (hru : ∀ w, Calls Try.prog 80 #[.agg #[.int .i64 nw, .int .i64 sk, .int .i64 ag, .slice none 0 0, .int .i64 rn, .int .i64 lf, .int .i64 tu, .int .i64 nx, .map mb]] w fun e W' => ∃ g, e = .returned (.slice (some ⟨g, 0, none⟩) 2 2) ∧ Bk W' g 96 #[.func (.func 55) #[.agg #[.int .i64 nw, .int .i64 sk, .int .i64 ag, .slice none 0 0, .int .i64 rn, .int .i64 lf, .int .i64 tu, .int .i64 nx, .map mb]] #[], .func (.func 90) #[] #[], .func (.func 91) #[.agg #[.int .i64 nw, .int .i64 sk, .int .i64 ag, .slice none 0 0, .int .i64 rn, .int .i64 lf, .int .i64 tu, .int .i64 nx, .map mb]] #[], .func (.func 92) #[] #[]] ∧ Below w.heap.size w W')
    (h1 : ∀ w, Below W.heap.size W w → Calls Try.prog 81 #[.agg #[.int .i64 nw, .int .i64 sk, .int .i64 ag, .slice none 0 0, .int .i64 rn, .int .i64 lf, .int .i64 tu, .int .i64 nx, .map mb], .agg #[.func (.func 55) #[.agg #[.int .i64 nw, .int .i64 sk, .int .i64 ag, .slice none 0 0, .int .i64 rn, .int .i64 lf, .int .i64 tu, .int .i64 nx, .map mb]] #[], .func (.func 90) #[] #[]]] w fun e W' => e = .returned (duV o1) ∧ Below w.heap.size w W')
    (h2 : ∀ w, Below W.heap.size W w → Calls Try.prog 81 #[.agg #[.int .i64 nw, .int .i64 sk, .int .i64 ag, .slice none 0 0, .int .i64 rn, .int .i64 lf, .int .i64 tu, .int .i64 nx, .map mb], .agg #[.func (.func 91) #[.agg #[.int .i64 nw, .int .i64 sk, .int .i64 ag, .slice none 0 0, .int .i64 rn, .int .i64 lf, .int .i64 tu, .int .i64 nx, .map mb]] #[], .func (.func 92) #[] #[]]] w fun e W' => e = .returned (duV o2) ∧ Below w.heap.size w W') :
    Calls Try.prog 57 #[.agg #[.int .i64 nw, .int .i64 sk, .int .i64 ag, .slice none 0 0, .int .i64 rn, .int .i64 lf, .int .i64 tu, .int .i64 nx, .map mb]] W fun e W' => e = .returned (duV (o1.or o2)) ∧ Below W.heap.size W W' := by
  have b1 := ((Below.refl _ W).alloc (Nat.le_refl _) (.cells #[.int .i64 nw, .int .i64 sk, .int .i64 ag, .slice none 0 0, .int .i64 rn, .int .i64 lf, .int .i64 tu, .int .i64 nx, .map mb] 58)).alloc (by simp) (.cells #[.int .i64 0, .int .i64 0, .int .i64 0, .int .i64 0] 68)
  have kt := (Bk.new W 58 #[.int .i64 nw, .int .i64 sk, .int .i64 ag, .slice none 0 0, .int .i64 rn, .int .i64 lf, .int .i64 tu, .int .i64 nx, .map mb]).alloc (.cells #[.int .i64 0, .int .i64 0, .int .i64 0, .int .i64 0] 68)
  have kd := Bk.new (W.alloc (.cells #[.int .i64 nw, .int .i64 sk, .int .i64 ag, .slice none 0 0, .int .i64 rn, .int .i64 lf, .int .i64 tu, .int .i64 nx, .map mb] 58)) 68 #[.int .i64 0, .int .i64 0, .int .i64 0, .int .i64 0]
  simp only [World.size_alloc] at kd
  have B1 := Lib.hid b1
  have KT := Lib.hid kt
  have KD := Lib.hid kd
  have HRU := Lib.hid hru
  have H1 := Lib.hid h1
  have H2 := Lib.hid h2
  have P1 := Lib.hid p1
  have P2 := Lib.hid p2
  have HGD := Lib.hid (show W.heap.size ≤ W.heap.size + 1 by omega)
  clear b1 kt kd hru h1 h2 p1 p2
  go_enter Try.func57, Try.ntmps57
  go_wp2_with fail
  generalize (W.alloc (.cells #[.int .i64 nw, .int .i64 sk, .int .i64 ag, .slice none 0 0, .int .i64 rn, .int .i64 lf, .int .i64 tu, .int .i64 nx, .map mb] 58)).alloc (.cells #[.int .i64 0, .int .i64 0, .int .i64 0, .int .i64 0] 68) = v at B1 KT KD ⊢
  generalize W.heap.size + 1 = gd at KD HGD ⊢
  generalize hgt : W.heap.size = gt at KT ⊢
  have HGT := Lib.hid hgt
  clear hgt
  refine (HRU.out v).mono ?_
  rintro e w1 ⟨g, rfl, kr, bb⟩
  have KR := Lib.hid kr
  have Bl := Lib.hid (B1.out.trans (bb.mono B1.out.size))
  replace KT := Lib.hid (KT.out.below bb)
  replace KD := Lib.hid (KD.out.below bb)
  clear kr bb HRU B1
  go_wp2_with fail
  go_loopw [9] (fun i wr => ∃ k : Nat, k ≤ 2 ∧ i = .int .i64 k ∧ Hid (1 ≤ k → o1 = none) ∧ Hid (2 ≤ k → o2 = none) ∧ Hid (Bk wr gt 58 #[.int .i64 nw, .int .i64 sk, .int .i64 ag, .slice none 0 0, .int .i64 rn, .int .i64 lf, .int .i64 tu, .int .i64 nx, .map mb]) ∧ Hid (Bk wr gd 68 #[.int .i64 0, .int .i64 0, .int .i64 0, .int .i64 0]) ∧ Hid (Bk wr g 96 #[.func (.func 55) #[.agg #[.int .i64 nw, .int .i64 sk, .int .i64 ag, .slice none 0 0, .int .i64 rn, .int .i64 lf, .int .i64 tu, .int .i64 nx, .map mb]] #[], .func (.func 90) #[] #[], .func (.func 91) #[.agg #[.int .i64 nw, .int .i64 sk, .int .i64 ag, .slice none 0 0, .int .i64 rn, .int .i64 lf, .int .i64 tu, .int .i64 nx, .map mb]] #[], .func (.func 92) #[] #[]]) ∧ Hid (Below W.heap.size W wr)) (fun i _ => 2 - (intOf i).toNat)
  case atStart => exact ⟨0, by omega, rfl, Lib.hid (fun h => by omega), Lib.hid (fun h => by omega), KT, KD, KR, Bl⟩
  case round =>
    clear KT KD KR Bl
    obtain ⟨k, hk, rfl, N1, N2, KT, KD, KR, Bl⟩ := hrel
    obtain ⟨r0, r1, r2, r3⟩ := KR.out.cell4
    obtain rfl | rfl | rfl : k = 0 ∨ k = 1 ∨ k = 2 := by omega
    · have ba := (Below.refl wr.heap.size wr).alloc (Nat.le_refl _) (.cells #[.func (.func 55) #[.agg #[.int .i64 nw, .int .i64 sk, .int .i64 ag, .slice none 0 0, .int .i64 rn, .int .i64 lf, .int .i64 tu, .int .i64 nx, .map mb]] #[], .func (.func 90) #[] #[]] 96)
      have HC := Lib.hid (H1.out _ (Bl.out.trans (ba.mono Bl.out.size)))
      replace KT := Lib.hid (KT.out.below ba)
      replace KD := Lib.hid (KD.out.below ba)
      replace KR := Lib.hid (KR.out.below ba)
      replace Bl := Lib.hid (Bl.out.trans (ba.mono Bl.out.size))
      have c0 := KT.out.cell 0 rfl
      have c1 := KT.out.cell 1 rfl
      have c2 := KT.out.cell 2 rfl
      have c3 := KT.out.cell 3 rfl
      have c4 := KT.out.cell 4 rfl
      have c5 := KT.out.cell 5 rfl
      have c6 := KT.out.cell 6 rfl
      have c7 := KT.out.cell 7 rfl
      have c8 := KT.out.cell 8 rfl
      clear ba
      go_wp2_with fail
      clear c0 c1 c2 c3 c4 c5 c6 c7 c8 r0 r1 r2 r3
      generalize wr.alloc (.cells #[.func (.func 55) #[.agg #[.int .i64 nw, .int .i64 sk, .int .i64 ag, .slice none 0 0, .int .i64 rn, .int .i64 lf, .int .i64 tu, .int .i64 nx, .map mb]] #[], .func (.func 90) #[] #[]] 96) = v2 at KT KD KR Bl HC ⊢
      refine HC.out.mono ?_
      clear HC
      rcases o1 with _ | t
      · rintro e w2 ⟨rfl, bb⟩
        have ba := (Below.refl w2.heap.size w2).alloc (Nat.le_refl _) (.cells #[.int .i64 0, .int .i64 0, .int .i64 0, .int .i64 0] 68)
        have bb := bb.trans (ba.mono bb.size)
        replace KT := Lib.hid (KT.out.below bb)
        replace KD := Lib.hid (KD.out.below bb)
        replace KR := Lib.hid (KR.out.below bb)
        replace Bl := Lib.hid (Bl.out.trans (bb.mono Bl.out.size))
        clear bb ba
        simp only [duV]
        go_wp2_with fail
        go_roundw
        case rel => exact ⟨0 + 1, by omega, by go_num, Lib.hid (fun _ => by first | rfl | trivial), Lib.hid (fun h => by omega), KT, KD, KR, Bl⟩
        case measure => simp [intOf]; try omega
      · rintro e w2 ⟨rfl, bb⟩
        have hp := P1.out t rfl
        have ba := (Below.refl w2.heap.size w2).alloc (Nat.le_refl _) (.cells #[.int .i64 t.ti, .int .i64 t.ta, .int .i64 t.td, .int .i64 t.tb] 68)
        have bb := bb.trans (ba.mono bb.size)
        replace KD := Lib.hid (KD.out.below bb)
        replace Bl := Lib.hid (Bl.out.trans (bb.mono Bl.out.size))
        clear bb ba KT KR
        simp only [duV]
        have ht0 : (t.ti == 0) = false := by simp; omega
        obtain ⟨y0, y1, y2, y3⟩ := KD.out.cell4
        obtain ⟨f0, f1, f2, f3⟩ := KD.out.free4
        have hgw : W.heap.size ≤ gd := by have := HGD.out; have := HGT.out; omega
        have kr2 := KD.out.set4 (x := .int .i64 t.ti) (y := .int .i64 t.ta) (z := .int .i64 t.td) (u := .int .i64 t.tb)
        have Bl2 := Lib.hid ((((Bl.out.setCell (p := ⟨gd, 0, none⟩) hgw (.int .i64 t.ti)).setCell (p := ⟨gd, 1, none⟩) hgw (.int .i64 t.ta)).setCell (p := ⟨gd, 2, none⟩) hgw (.int .i64 t.td)).setCell (p := ⟨gd, 3, none⟩) hgw (.int .i64 t.tb))
        have KR2 := Lib.hid kr2
        clear kr2 hgw Bl hp
        go_wp2_with fail
        obtain ⟨y0, y1, y2, y3⟩ := KR2.out.cell4
        refine bodyPost_ret (v := .agg #[.int .i64 t.ti, .int .i64 t.ta, .int .i64 t.td, .int .i64 t.tb]) ?_ rfl ⟨rfl, Bl2.out⟩
        simp [results, Try.results57, go_sem, y0, y1, y2, y3]
    · have ba := (Below.refl wr.heap.size wr).alloc (Nat.le_refl _) (.cells #[.func (.func 91) #[.agg #[.int .i64 nw, .int .i64 sk, .int .i64 ag, .slice none 0 0, .int .i64 rn, .int .i64 lf, .int .i64 tu, .int .i64 nx, .map mb]] #[], .func (.func 92) #[] #[]] 96)
      have HC := Lib.hid (H2.out _ (Bl.out.trans (ba.mono Bl.out.size)))
      replace KT := Lib.hid (KT.out.below ba)
      replace KD := Lib.hid (KD.out.below ba)
      replace KR := Lib.hid (KR.out.below ba)
      replace Bl := Lib.hid (Bl.out.trans (ba.mono Bl.out.size))
      have c0 := KT.out.cell 0 rfl
      have c1 := KT.out.cell 1 rfl
      have c2 := KT.out.cell 2 rfl
      have c3 := KT.out.cell 3 rfl
      have c4 := KT.out.cell 4 rfl
      have c5 := KT.out.cell 5 rfl
      have c6 := KT.out.cell 6 rfl
      have c7 := KT.out.cell 7 rfl
      have c8 := KT.out.cell 8 rfl
      clear ba
      go_wp2_with fail
      clear c0 c1 c2 c3 c4 c5 c6 c7 c8 r0 r1 r2 r3
      generalize wr.alloc (.cells #[.func (.func 91) #[.agg #[.int .i64 nw, .int .i64 sk, .int .i64 ag, .slice none 0 0, .int .i64 rn, .int .i64 lf, .int .i64 tu, .int .i64 nx, .map mb]] #[], .func (.func 92) #[] #[]] 96) = v2 at KT KD KR Bl HC ⊢
      refine HC.out.mono ?_
      clear HC
      rcases o2 with _ | t
      · rintro e w2 ⟨rfl, bb⟩
        have ba := (Below.refl w2.heap.size w2).alloc (Nat.le_refl _) (.cells #[.int .i64 0, .int .i64 0, .int .i64 0, .int .i64 0] 68)
        have bb := bb.trans (ba.mono bb.size)
        replace KT := Lib.hid (KT.out.below bb)
        replace KD := Lib.hid (KD.out.below bb)
        replace KR := Lib.hid (KR.out.below bb)
        replace Bl := Lib.hid (Bl.out.trans (bb.mono Bl.out.size))
        clear bb ba
        simp only [duV]
        go_wp2_with fail
        go_roundw
        case rel => exact ⟨1 + 1, by omega, by go_num, Lib.hid (fun _ => N1.out (by omega)), Lib.hid (fun _ => by first | rfl | trivial), KT, KD, KR, Bl⟩
        case measure => simp [intOf]; try omega
      · rintro e w2 ⟨rfl, bb⟩
        have hp := P2.out t rfl
        have ba := (Below.refl w2.heap.size w2).alloc (Nat.le_refl _) (.cells #[.int .i64 t.ti, .int .i64 t.ta, .int .i64 t.td, .int .i64 t.tb] 68)
        have bb := bb.trans (ba.mono bb.size)
        replace KD := Lib.hid (KD.out.below bb)
        replace Bl := Lib.hid (Bl.out.trans (bb.mono Bl.out.size))
        clear bb ba KT KR
        simp only [duV]
        have ht0 : (t.ti == 0) = false := by simp; omega
        obtain ⟨y0, y1, y2, y3⟩ := KD.out.cell4
        obtain ⟨f0, f1, f2, f3⟩ := KD.out.free4
        have hgw : W.heap.size ≤ gd := by have := HGD.out; have := HGT.out; omega
        have kr2 := KD.out.set4 (x := .int .i64 t.ti) (y := .int .i64 t.ta) (z := .int .i64 t.td) (u := .int .i64 t.tb)
        have Bl2 := Lib.hid ((((Bl.out.setCell (p := ⟨gd, 0, none⟩) hgw (.int .i64 t.ti)).setCell (p := ⟨gd, 1, none⟩) hgw (.int .i64 t.ta)).setCell (p := ⟨gd, 2, none⟩) hgw (.int .i64 t.td)).setCell (p := ⟨gd, 3, none⟩) hgw (.int .i64 t.tb))
        have KR2 := Lib.hid kr2
        clear kr2 hgw Bl hp
        go_wp2_with fail
        obtain ⟨y0, y1, y2, y3⟩ := KR2.out.cell4
        refine bodyPost_ret (v := .agg #[.int .i64 t.ti, .int .i64 t.ta, .int .i64 t.td, .int .i64 t.tb]) ?_ rfl ⟨by rw [N1.out (by omega)]; rfl, Bl2.out⟩
        simp [results, Try.results57, go_sem, y0, y1, y2, y3]
    · obtain rfl := N1.out (by omega)
      obtain rfl := N2.out (by omega)
      obtain ⟨y0, y1, y2, y3⟩ := KD.out.cell4
      obtain ⟨f0, f1, f2, f3⟩ := KD.out.free4
      have hgw : W.heap.size ≤ gd := by have := HGD.out; have := HGT.out; omega
      have kr2 := KD.out.set4 (x := .int .i64 0) (y := .int .i64 0) (z := .int .i64 0) (u := .int .i64 0)
      have Bl2 := Lib.hid ((((Bl.out.setCell (p := ⟨gd, 0, none⟩) hgw (.int .i64 0)).setCell (p := ⟨gd, 1, none⟩) hgw (.int .i64 0)).setCell (p := ⟨gd, 2, none⟩) hgw (.int .i64 0)).setCell (p := ⟨gd, 3, none⟩) hgw (.int .i64 0))
      have KR2 := Lib.hid kr2
      clear kr2 hgw Bl r0 r1 r2 r3
      go_wp2_with fail
      obtain ⟨y0, y1, y2, y3⟩ := KR2.out.cell4
      refine bodyPost_ret (v := .agg #[.int .i64 0, .int .i64 0, .int .i64 0, .int .i64 0]) ?_ rfl ⟨rfl, Bl2.out⟩
      simp [results, Try.results57, go_sem, y0, y1, y2, y3]
set_option maxRecDepth 100000 in
set_option maxHeartbeats 1000000 in
theorem pickNew (nw sk ag rn lf tu nx : Int) (mb : Option Nat) (o1 o2 : Option Tsk) (p1 : ∀ t, o1 = some t → 1 ≤ t.ti) (p2 : ∀ t, o2 = some t → 1 ≤ t.ti) (W : World)
    (hru : ∀ w, Calls Try.prog 80 #[.agg #[.int .i64 nw, .int .i64 sk, .int .i64 ag, .slice none 0 0, .int .i64 rn, .int .i64 lf, .int .i64 tu, .int .i64 nx, .map mb]] w fun e W' => ∃ g, e = .returned (.slice (some ⟨g, 0, none⟩) 2 2) ∧ Bk W' g 96 #[.func (.func 91) #[.agg #[.int .i64 nw, .int .i64 sk, .int .i64 ag, .slice none 0 0, .int .i64 rn, .int .i64 lf, .int .i64 tu, .int .i64 nx, .map mb]] #[], .func (.func 92) #[] #[], .func (.func 55) #[.agg #[.int .i64 nw, .int .i64 sk, .int .i64 ag, .slice none 0 0, .int .i64 rn, .int .i64 lf, .int .i64 tu, .int .i64 nx, .map mb]] #[], .func (.func 90) #[] #[]] ∧ Below w.heap.size w W')
    (h1 : ∀ w, Below W.heap.size W w → Calls Try.prog 81 #[.agg #[.int .i64 nw, .int .i64 sk, .int .i64 ag, .slice none 0 0, .int .i64 rn, .int .i64 lf, .int .i64 tu, .int .i64 nx, .map mb], .agg #[.func (.func 91) #[.agg #[.int .i64 nw, .int .i64 sk, .int .i64 ag, .slice none 0 0, .int .i64 rn, .int .i64 lf, .int .i64 tu, .int .i64 nx, .map mb]] #[], .func (.func 92) #[] #[]]] w fun e W' => e = .returned (duV o1) ∧ Below w.heap.size w W')
    (h2 : ∀ w, Below W.heap.size W w → Calls Try.prog 81 #[.agg #[.int .i64 nw, .int .i64 sk, .int .i64 ag, .slice none 0 0, .int .i64 rn, .int .i64 lf, .int .i64 tu, .int .i64 nx, .map mb], .agg #[.func (.func 55) #[.agg #[.int .i64 nw, .int .i64 sk, .int .i64 ag, .slice none 0 0, .int .i64 rn, .int .i64 lf, .int .i64 tu, .int .i64 nx, .map mb]] #[], .func (.func 90) #[] #[]]] w fun e W' => e = .returned (duV o2) ∧ Below w.heap.size w W') :
    Calls Try.prog 57 #[.agg #[.int .i64 nw, .int .i64 sk, .int .i64 ag, .slice none 0 0, .int .i64 rn, .int .i64 lf, .int .i64 tu, .int .i64 nx, .map mb]] W fun e W' => e = .returned (duV (o1.or o2)) ∧ Below W.heap.size W W' := by
  have b1 := ((Below.refl _ W).alloc (Nat.le_refl _) (.cells #[.int .i64 nw, .int .i64 sk, .int .i64 ag, .slice none 0 0, .int .i64 rn, .int .i64 lf, .int .i64 tu, .int .i64 nx, .map mb] 58)).alloc (by simp) (.cells #[.int .i64 0, .int .i64 0, .int .i64 0, .int .i64 0] 68)
  have kt := (Bk.new W 58 #[.int .i64 nw, .int .i64 sk, .int .i64 ag, .slice none 0 0, .int .i64 rn, .int .i64 lf, .int .i64 tu, .int .i64 nx, .map mb]).alloc (.cells #[.int .i64 0, .int .i64 0, .int .i64 0, .int .i64 0] 68)
  have kd := Bk.new (W.alloc (.cells #[.int .i64 nw, .int .i64 sk, .int .i64 ag, .slice none 0 0, .int .i64 rn, .int .i64 lf, .int .i64 tu, .int .i64 nx, .map mb] 58)) 68 #[.int .i64 0, .int .i64 0, .int .i64 0, .int .i64 0]
  simp only [World.size_alloc] at kd
  have B1 := Lib.hid b1
  have KT := Lib.hid kt
  have KD := Lib.hid kd
  have HRU := Lib.hid hru
  have H1 := Lib.hid h1
  have H2 := Lib.hid h2
  have P1 := Lib.hid p1
  have P2 := Lib.hid p2
  have HGD := Lib.hid (show W.heap.size ≤ W.heap.size + 1 by omega)
  clear b1 kt kd hru h1 h2 p1 p2
  go_enter Try.func57, Try.ntmps57
  go_wp2_with fail
  generalize (W.alloc (.cells #[.int .i64 nw, .int .i64 sk, .int .i64 ag, .slice none 0 0, .int .i64 rn, .int .i64 lf, .int .i64 tu, .int .i64 nx, .map mb] 58)).alloc (.cells #[.int .i64 0, .int .i64 0, .int .i64 0, .int .i64 0] 68) = v at B1 KT KD ⊢
  generalize W.heap.size + 1 = gd at KD HGD ⊢
  generalize hgt : W.heap.size = gt at KT ⊢
  have HGT := Lib.hid hgt
  clear hgt
  refine (HRU.out v).mono ?_
  rintro e w1 ⟨g, rfl, kr, bb⟩
  have KR := Lib.hid kr
  have Bl := Lib.hid (B1.out.trans (bb.mono B1.out.size))
  replace KT := Lib.hid (KT.out.below bb)
  replace KD := Lib.hid (KD.out.below bb)
  clear kr bb HRU B1
  go_wp2_with fail
  go_loopw [9] (fun i wr => ∃ k : Nat, k ≤ 2 ∧ i = .int .i64 k ∧ Hid (1 ≤ k → o1 = none) ∧ Hid (2 ≤ k → o2 = none) ∧ Hid (Bk wr gt 58 #[.int .i64 nw, .int .i64 sk, .int .i64 ag, .slice none 0 0, .int .i64 rn, .int .i64 lf, .int .i64 tu, .int .i64 nx, .map mb]) ∧ Hid (Bk wr gd 68 #[.int .i64 0, .int .i64 0, .int .i64 0, .int .i64 0]) ∧ Hid (Bk wr g 96 #[.func (.func 91) #[.agg #[.int .i64 nw, .int .i64 sk, .int .i64 ag, .slice none 0 0, .int .i64 rn, .int .i64 lf, .int .i64 tu, .int .i64 nx, .map mb]] #[], .func (.func 92) #[] #[], .func (.func 55) #[.agg #[.int .i64 nw, .int .i64 sk, .int .i64 ag, .slice none 0 0, .int .i64 rn, .int .i64 lf, .int .i64 tu, .int .i64 nx, .map mb]] #[], .func (.func 90) #[] #[]]) ∧ Hid (Below W.heap.size W wr)) (fun i _ => 2 - (intOf i).toNat)
  case atStart => exact ⟨0, by omega, rfl, Lib.hid (fun h => by omega), Lib.hid (fun h => by omega), KT, KD, KR, Bl⟩
  case round =>
    clear KT KD KR Bl
    obtain ⟨k, hk, rfl, N1, N2, KT, KD, KR, Bl⟩ := hrel
    obtain ⟨r0, r1, r2, r3⟩ := KR.out.cell4
    obtain rfl | rfl | rfl : k = 0 ∨ k = 1 ∨ k = 2 := by omega
    · have ba := (Below.refl wr.heap.size wr).alloc (Nat.le_refl _) (.cells #[.func (.func 91) #[.agg #[.int .i64 nw, .int .i64 sk, .int .i64 ag, .slice none 0 0, .int .i64 rn, .int .i64 lf, .int .i64 tu, .int .i64 nx, .map mb]] #[], .func (.func 92) #[] #[]] 96)
      have HC := Lib.hid (H1.out _ (Bl.out.trans (ba.mono Bl.out.size)))
      replace KT := Lib.hid (KT.out.below ba)
      replace KD := Lib.hid (KD.out.below ba)
      replace KR := Lib.hid (KR.out.below ba)
      replace Bl := Lib.hid (Bl.out.trans (ba.mono Bl.out.size))
      have c0 := KT.out.cell 0 rfl
      have c1 := KT.out.cell 1 rfl
      have c2 := KT.out.cell 2 rfl
      have c3 := KT.out.cell 3 rfl
      have c4 := KT.out.cell 4 rfl
      have c5 := KT.out.cell 5 rfl
      have c6 := KT.out.cell 6 rfl
      have c7 := KT.out.cell 7 rfl
      have c8 := KT.out.cell 8 rfl
      clear ba
      go_wp2_with fail
      clear c0 c1 c2 c3 c4 c5 c6 c7 c8 r0 r1 r2 r3
      generalize wr.alloc (.cells #[.func (.func 91) #[.agg #[.int .i64 nw, .int .i64 sk, .int .i64 ag, .slice none 0 0, .int .i64 rn, .int .i64 lf, .int .i64 tu, .int .i64 nx, .map mb]] #[], .func (.func 92) #[] #[]] 96) = v2 at KT KD KR Bl HC ⊢
      refine HC.out.mono ?_
      clear HC
      rcases o1 with _ | t
      · rintro e w2 ⟨rfl, bb⟩
        have ba := (Below.refl w2.heap.size w2).alloc (Nat.le_refl _) (.cells #[.int .i64 0, .int .i64 0, .int .i64 0, .int .i64 0] 68)
        have bb := bb.trans (ba.mono bb.size)
        replace KT := Lib.hid (KT.out.below bb)
        replace KD := Lib.hid (KD.out.below bb)
        replace KR := Lib.hid (KR.out.below bb)
        replace Bl := Lib.hid (Bl.out.trans (bb.mono Bl.out.size))
        clear bb ba
        simp only [duV]
        go_wp2_with fail
        go_roundw
        case rel => exact ⟨0 + 1, by omega, by go_num, Lib.hid (fun _ => by first | rfl | trivial), Lib.hid (fun h => by omega), KT, KD, KR, Bl⟩
        case measure => simp [intOf]; try omega
      · rintro e w2 ⟨rfl, bb⟩
        have hp := P1.out t rfl
        have ba := (Below.refl w2.heap.size w2).alloc (Nat.le_refl _) (.cells #[.int .i64 t.ti, .int .i64 t.ta, .int .i64 t.td, .int .i64 t.tb] 68)
        have bb := bb.trans (ba.mono bb.size)
        replace KD := Lib.hid (KD.out.below bb)
        replace Bl := Lib.hid (Bl.out.trans (bb.mono Bl.out.size))
        clear bb ba KT KR
        simp only [duV]
        have ht0 : (t.ti == 0) = false := by simp; omega
        obtain ⟨y0, y1, y2, y3⟩ := KD.out.cell4
        obtain ⟨f0, f1, f2, f3⟩ := KD.out.free4
        have hgw : W.heap.size ≤ gd := by have := HGD.out; have := HGT.out; omega
        have kr2 := KD.out.set4 (x := .int .i64 t.ti) (y := .int .i64 t.ta) (z := .int .i64 t.td) (u := .int .i64 t.tb)
        have Bl2 := Lib.hid ((((Bl.out.setCell (p := ⟨gd, 0, none⟩) hgw (.int .i64 t.ti)).setCell (p := ⟨gd, 1, none⟩) hgw (.int .i64 t.ta)).setCell (p := ⟨gd, 2, none⟩) hgw (.int .i64 t.td)).setCell (p := ⟨gd, 3, none⟩) hgw (.int .i64 t.tb))
        have KR2 := Lib.hid kr2
        clear kr2 hgw Bl hp
        go_wp2_with fail
        obtain ⟨y0, y1, y2, y3⟩ := KR2.out.cell4
        refine bodyPost_ret (v := .agg #[.int .i64 t.ti, .int .i64 t.ta, .int .i64 t.td, .int .i64 t.tb]) ?_ rfl ⟨rfl, Bl2.out⟩
        simp [results, Try.results57, go_sem, y0, y1, y2, y3]
    · have ba := (Below.refl wr.heap.size wr).alloc (Nat.le_refl _) (.cells #[.func (.func 55) #[.agg #[.int .i64 nw, .int .i64 sk, .int .i64 ag, .slice none 0 0, .int .i64 rn, .int .i64 lf, .int .i64 tu, .int .i64 nx, .map mb]] #[], .func (.func 90) #[] #[]] 96)
      have HC := Lib.hid (H2.out _ (Bl.out.trans (ba.mono Bl.out.size)))
      replace KT := Lib.hid (KT.out.below ba)
      replace KD := Lib.hid (KD.out.below ba)
      replace KR := Lib.hid (KR.out.below ba)
      replace Bl := Lib.hid (Bl.out.trans (ba.mono Bl.out.size))
      have c0 := KT.out.cell 0 rfl
      have c1 := KT.out.cell 1 rfl
      have c2 := KT.out.cell 2 rfl
      have c3 := KT.out.cell 3 rfl
      have c4 := KT.out.cell 4 rfl
      have c5 := KT.out.cell 5 rfl
      have c6 := KT.out.cell 6 rfl
      have c7 := KT.out.cell 7 rfl
      have c8 := KT.out.cell 8 rfl
      clear ba
      go_wp2_with fail
      clear c0 c1 c2 c3 c4 c5 c6 c7 c8 r0 r1 r2 r3
      generalize wr.alloc (.cells #[.func (.func 55) #[.agg #[.int .i64 nw, .int .i64 sk, .int .i64 ag, .slice none 0 0, .int .i64 rn, .int .i64 lf, .int .i64 tu, .int .i64 nx, .map mb]] #[], .func (.func 90) #[] #[]] 96) = v2 at KT KD KR Bl HC ⊢
      refine HC.out.mono ?_
      clear HC
      rcases o2 with _ | t
      · rintro e w2 ⟨rfl, bb⟩
        have ba := (Below.refl w2.heap.size w2).alloc (Nat.le_refl _) (.cells #[.int .i64 0, .int .i64 0, .int .i64 0, .int .i64 0] 68)
        have bb := bb.trans (ba.mono bb.size)
        replace KT := Lib.hid (KT.out.below bb)
        replace KD := Lib.hid (KD.out.below bb)
        replace KR := Lib.hid (KR.out.below bb)
        replace Bl := Lib.hid (Bl.out.trans (bb.mono Bl.out.size))
        clear bb ba
        simp only [duV]
        go_wp2_with fail
        go_roundw
        case rel => exact ⟨1 + 1, by omega, by go_num, Lib.hid (fun _ => N1.out (by omega)), Lib.hid (fun _ => by first | rfl | trivial), KT, KD, KR, Bl⟩
        case measure => simp [intOf]; try omega
      · rintro e w2 ⟨rfl, bb⟩
        have hp := P2.out t rfl
        have ba := (Below.refl w2.heap.size w2).alloc (Nat.le_refl _) (.cells #[.int .i64 t.ti, .int .i64 t.ta, .int .i64 t.td, .int .i64 t.tb] 68)
        have bb := bb.trans (ba.mono bb.size)
        replace KD := Lib.hid (KD.out.below bb)
        replace Bl := Lib.hid (Bl.out.trans (bb.mono Bl.out.size))
        clear bb ba KT KR
        simp only [duV]
        have ht0 : (t.ti == 0) = false := by simp; omega
        obtain ⟨y0, y1, y2, y3⟩ := KD.out.cell4
        obtain ⟨f0, f1, f2, f3⟩ := KD.out.free4
        have hgw : W.heap.size ≤ gd := by have := HGD.out; have := HGT.out; omega
        have kr2 := KD.out.set4 (x := .int .i64 t.ti) (y := .int .i64 t.ta) (z := .int .i64 t.td) (u := .int .i64 t.tb)
        have Bl2 := Lib.hid ((((Bl.out.setCell (p := ⟨gd, 0, none⟩) hgw (.int .i64 t.ti)).setCell (p := ⟨gd, 1, none⟩) hgw (.int .i64 t.ta)).setCell (p := ⟨gd, 2, none⟩) hgw (.int .i64 t.td)).setCell (p := ⟨gd, 3, none⟩) hgw (.int .i64 t.tb))
        have KR2 := Lib.hid kr2
        clear kr2 hgw Bl hp
        go_wp2_with fail
        obtain ⟨y0, y1, y2, y3⟩ := KR2.out.cell4
        refine bodyPost_ret (v := .agg #[.int .i64 t.ti, .int .i64 t.ta, .int .i64 t.td, .int .i64 t.tb]) ?_ rfl ⟨by rw [N1.out (by omega)]; rfl, Bl2.out⟩
        simp [results, Try.results57, go_sem, y0, y1, y2, y3]
    · obtain rfl := N1.out (by omega)
      obtain rfl := N2.out (by omega)
      obtain ⟨y0, y1, y2, y3⟩ := KD.out.cell4
      obtain ⟨f0, f1, f2, f3⟩ := KD.out.free4
      have hgw : W.heap.size ≤ gd := by have := HGD.out; have := HGT.out; omega
      have kr2 := KD.out.set4 (x := .int .i64 0) (y := .int .i64 0) (z := .int .i64 0) (u := .int .i64 0)
      have Bl2 := Lib.hid ((((Bl.out.setCell (p := ⟨gd, 0, none⟩) hgw (.int .i64 0)).setCell (p := ⟨gd, 1, none⟩) hgw (.int .i64 0)).setCell (p := ⟨gd, 2, none⟩) hgw (.int .i64 0)).setCell (p := ⟨gd, 3, none⟩) hgw (.int .i64 0))
      have KR2 := Lib.hid kr2
      clear kr2 hgw Bl r0 r1 r2 r3
      go_wp2_with fail
      obtain ⟨y0, y1, y2, y3⟩ := KR2.out.cell4
      refine bodyPost_ret (v := .agg #[.int .i64 0, .int .i64 0, .int .i64 0, .int .i64 0]) ?_ rfl ⟨rfl, Bl2.out⟩
      simp [results, Try.results57, go_sem, y0, y1, y2, y3]
theorem pick_pos {nw : Int} {ss : List Tsk} (f : Tsk → Int) (g : Tsk → Bool) (h : ∀ t ∈ ss, 1 ≤ t.ti) : ∀ t, minBy f (ss.filter g) = some t → 1 ≤ t.ti := fun t ht => h t ((List.mem_filter.1 (minBy_in ht)).1)
set_option maxRecDepth 100000 in
set_option maxHeartbeats 1000000 in
/-- The pick of a right schedule. -/
theorem pickI (nw sk ag rn lf tu nx : Int) (b m : Nat) (ss : List Tsk) (es : List (Int × Value)) (W : World) (hm : W.ownsMap Try.prog 3 asV b m (mapOf es)) (he : Ent W ss es) (hs : schB nw sk ag ss rn lf tu nx = true) (hmm : m ≤ 1000) :
    Calls Try.prog 57 #[.agg #[.int .i64 nw, .int .i64 sk, .int .i64 ag, .slice none 0 0, .int .i64 rn, .int .i64 lf, .int .i64 tu, .int .i64 nx, .map (some b)]] W fun e W' => e = .returned (duV (pickL nw ag tu ss)) ∧ Below W.heap.size W W' := by
  have hf := sch_facts hs
  have hd := hf.1
  have h12 : ss.length ≤ 12 := (schB_iff.1 hs).2.1
  have hpos : ∀ t ∈ ss, 1 ≤ t.ti := fun t ht => (inB_iff.1 (taskB_iff.1 (hf.2 t ht)).1).1
  have hwf : ∀ t ∈ ss, (Lit.int .i64 t.ti).wf = true := fun t ht => wf_small (by have := inB_iff.1 (taskB_iff.1 (hf.2 t ht)).1; omega)
  have hso := fun w (h : W.ownsMap Try.prog 3 asV b m (mapOf es)) (hb : Below W.heap.size W w) => (fun w2 (h2 : Below w.heap.size w w2) => sortP b m ss es w2 W (ownsMap_below (ownsMap_below h hb) h2) he hd hmm)
  have hO : ∀ w, Below W.heap.size W w → Calls Try.prog 81 #[.agg #[.int .i64 nw, .int .i64 sk, .int .i64 ag, .slice none 0 0, .int .i64 rn, .int .i64 lf, .int .i64 tu, .int .i64 nx, .map (some b)], .agg #[.func (.func 55) #[.agg #[.int .i64 nw, .int .i64 sk, .int .i64 ag, .slice none 0 0, .int .i64 rn, .int .i64 lf, .int .i64 tu, .int .i64 nx, .map (some b)]] #[], .func (.func 90) #[] #[]]] w fun e W' => e = .returned (duV (minBy Tsk.tb (oldT nw ss))) ∧ Below w.heap.size w W' := fun w hb =>
    firstOld nw sk ag rn lf tu nx (some b) (oldT nw ss) (Nat.le_trans (List.length_filter_le _ _) h12) w (fun w2 hb2 => dutiesLateI keyP nw sk ag rn lf tu nx b m ss es w2 (ownsMap_below (ownsMap_below hm hb) hb2) ((he.of_below hb).of_below hb2) hd hwf h12 (fun w3 hb3 => sortP b m ss es w3 W (ownsMap_below (ownsMap_below (ownsMap_below hm hb) hb2) hb3) he hd hmm))
  have hN : ∀ w, Below W.heap.size W w → Calls Try.prog 81 #[.agg #[.int .i64 nw, .int .i64 sk, .int .i64 ag, .slice none 0 0, .int .i64 rn, .int .i64 lf, .int .i64 tu, .int .i64 nx, .map (some b)], .agg #[.func (.func 91) #[.agg #[.int .i64 nw, .int .i64 sk, .int .i64 ag, .slice none 0 0, .int .i64 rn, .int .i64 lf, .int .i64 tu, .int .i64 nx, .map (some b)]] #[], .func (.func 92) #[] #[]]] w fun e W' => e = .returned (duV (minBy Tsk.td (inT nw ss))) ∧ Below w.heap.size w W' := fun w hb =>
    firstNew nw sk ag rn lf tu nx (some b) (inT nw ss) (Nat.le_trans (List.length_filter_le _ _) h12) w (fun w2 hb2 => dutiesInI keyP nw sk ag rn lf tu nx b m ss es w2 (ownsMap_below (ownsMap_below hm hb) hb2) ((he.of_below hb).of_below hb2) hd hwf h12 (fun w3 hb3 => sortP b m ss es w3 W (ownsMap_below (ownsMap_below (ownsMap_below hm hb) hb2) hb3) he hd hmm))
  have htu : 0 ≤ tu := (inB_iff.1 (headB_iff.1 (schB_iff.1 hs).1).2.1).1
  by_cases h1 : 0 < ag
  · by_cases h2 : tu % ag = 0
    · have hR : pickL nw ag tu ss = (minBy Tsk.tb (oldT nw ss)).or (minBy Tsk.td (inT nw ss)) := by rw [pickL, turnB]; simp [h1, h2]
      rw [hR]
      exact pickOld nw sk ag rn lf tu nx (some b) _ _ (pick_pos (nw := nw) _ _ hpos) (pick_pos (nw := nw) _ _ hpos) W (fun w => rulesOld nw sk ag rn lf tu nx (some b) w htu h1 h2) hO hN
    · have hR : pickL nw ag tu ss = (minBy Tsk.td (inT nw ss)).or (minBy Tsk.tb (oldT nw ss)) := by rw [pickL, turnB]; simp [h1, h2]
      rw [hR]
      exact pickNew nw sk ag rn lf tu nx (some b) _ _ (pick_pos (nw := nw) _ _ hpos) (pick_pos (nw := nw) _ _ hpos) W (fun w => rulesNew nw sk ag rn lf tu nx (some b) w htu h1 h2) hN hO
  · have hR : pickL nw ag tu ss = (minBy Tsk.td (inT nw ss)).or (minBy Tsk.tb (oldT nw ss)) := by rw [pickL, turnB]; simp [h1]
    rw [hR]
    exact pickNew nw sk ag rn lf tu nx (some b) _ _ (pick_pos (nw := nw) _ _ hpos) (pick_pos (nw := nw) _ _ hpos) W (fun w => rulesNo nw sk ag rn lf tu nx (some b) w h1) hN hO
/-- .. of none. -/
theorem pickNilI (W : World) : Calls Try.prog 57 #[.agg #[.int .i64 0, .int .i64 0, .int .i64 0, .slice none 0 0, .int .i64 0, .int .i64 0, .int .i64 0, .int .i64 0, .map none]] W fun e W' => e = .returned (duV none) ∧ Below W.heap.size W W' := by
  have nilD : ∀ (w : World), (∃ V, (Ending.returned (Value.slice none 0 0) : Ending) = .returned V ∧ w.ownsRow w.heap.size 68 4 V ([] : List Tsk).length (duC [])) := fun w => ⟨_, rfl, World.ownsRow_nil _ _ _ _⟩
  have hO : ∀ w, Below W.heap.size W w → Calls Try.prog 81 #[.agg #[.int .i64 0, .int .i64 0, .int .i64 0, .slice none 0 0, .int .i64 0, .int .i64 0, .int .i64 0, .int .i64 0, .map none], .agg #[.func (.func 55) #[.agg #[.int .i64 0, .int .i64 0, .int .i64 0, .slice none 0 0, .int .i64 0, .int .i64 0, .int .i64 0, .int .i64 0, .map none]] #[], .func (.func 90) #[] #[]]] w fun e W' => e = .returned (duV none) ∧ Below w.heap.size w W' := fun w hb =>
    firstOld 0 0 0 0 0 0 0 none [] (by simp) w (fun w2 hb2 => (dutiesNilI keyP nilP w2).mono (by rintro e W' ⟨rfl, hb⟩; exact ⟨_, rfl, World.ownsRow_nil _ _ _ _, hb⟩))
  have hN : ∀ w, Below W.heap.size W w → Calls Try.prog 81 #[.agg #[.int .i64 0, .int .i64 0, .int .i64 0, .slice none 0 0, .int .i64 0, .int .i64 0, .int .i64 0, .int .i64 0, .map none], .agg #[.func (.func 91) #[.agg #[.int .i64 0, .int .i64 0, .int .i64 0, .slice none 0 0, .int .i64 0, .int .i64 0, .int .i64 0, .int .i64 0, .map none]] #[], .func (.func 92) #[] #[]]] w fun e W' => e = .returned (duV none) ∧ Below w.heap.size w W' := fun w hb =>
    firstNew 0 0 0 0 0 0 0 none [] (by simp) w (fun w2 hb2 => (dutiesNilInI keyP nilP w2).mono (by rintro e W' ⟨rfl, hb⟩; exact ⟨_, rfl, World.ownsRow_nil _ _ _ _, hb⟩))
  exact pickNew 0 0 0 0 0 0 0 none none none (fun _ h => by cases h) (fun _ h => by cases h) W (fun w => rulesNo 0 0 0 0 0 0 0 none w (by omega)) hN hO
theorem runField (a b c d : Int) (w : World) : (Instr.field 68 (.agg #[.int .i64 a, .int .i64 b, .int .i64 c, .int .i64 d]) 0).run Try.prog w = .ok (.int .i64 a) w := by kernel_rfl
theorem duV_id (o : Option Tsk) : ∃ (a b c : Int), duV o = .agg #[.int .i64 (ti? o), .int .i64 a, .int .i64 b, .int .i64 c] := by
  cases o with
  | none => exact ⟨0, 0, 0, rfl⟩
  | some t => exact ⟨_, _, _, rfl⟩
set_option maxRecDepth 100000 in
theorem pickNextI (nw sk ag : Int) (A : Option Addr) (n p : Nat) (ss : List Tsk) (rn lf tu nx : Int) (W : World) (hr : RdTsk W A n ss) (hn : n + bigTsk ss ≤ 1048576) (hw : (Lit.int .i64 rn).wf = true) :
    Calls Try.prog 28 #[.agg #[.int .i64 nw, .int .i64 sk, .int .i64 ag, .slice A n p, .int .i64 rn, .int .i64 lf, .int .i64 tu, .int .i64 nx]] W fun e W' => e = .returned (.int .i64 (pickW nw sk ag ss rn lf tu nx)) ∧ Below W.heap.size W W' := by
  have b0 := (Below.refl _ W).alloc (Nat.le_refl _) (.cells #[.int .i64 nw, .int .i64 sk, .int .i64 ag, .slice A n p, .int .i64 rn, .int .i64 lf, .int .i64 tu, .int .i64 nx] 29)
  have HRO := Lib.hid (rosterI nw sk ag A n p ss rn lf tu nx _ (hr.of_below b0) hn hw)
  have Bl := Lib.hid b0
  clear hr hn b0 hw
  obtain ⟨R, hR⟩ : ∃ R, schB nw sk ag ss rn lf tu nx = R := ⟨_, rfl⟩
  obtain ⟨V, hV⟩ : ∃ V, V = pickW nw sk ag ss rn lf tu nx := ⟨_, rfl⟩
  rw [← hV]
  have HR := Lib.hid hR
  have HV := Lib.hid hV
  rw [hR] at HRO
  clear hR hV
  have hfd := runField
  go_enter Try.func28, Try.ntmps28
  go_wp2_with fail
  refine HRO.out.mono ?_
  intro e w1 hc
  rcases R with _ | _
  · obtain ⟨rfl, bb⟩ := hc
    obtain rfl : V = 0 := by rw [HV.out, pickW, HR.out]; rfl
    have ba := (Below.refl _ w1).alloc (Nat.le_refl _) (.cells #[.int .i64 0, .int .i64 0, .int .i64 0, .slice none 0 0, .int .i64 0, .int .i64 0, .int .i64 0, .int .i64 0, .map none] 58)
    have Bl2 := Lib.hid ((Bl.out.trans (bb.mono Bl.out.size)).trans (ba.mono (Nat.le_trans Bl.out.size bb.size)))
    clear bb HRO ba
    go_wp2_with fail
    refine (pickNilI _).mono ?_
    simp only [duV]
    rintro e w2 ⟨rfl, bb⟩
    have Bl3 := Lib.hid (Bl2.out.trans (bb.mono Bl2.out.size))
    clear bb Bl2 Bl
    go_wp2_with fail
    go_ret
    exact ⟨rfl, Bl3.out⟩
  · obtain ⟨b, es, rfl, _, hm, he, _, bb⟩ := hc
    have ba := (Below.refl _ w1).alloc (Nat.le_refl _) (.cells #[.int .i64 nw, .int .i64 sk, .int .i64 ag, .slice none 0 0, .int .i64 rn, .int .i64 lf, .int .i64 tu, .int .i64 nx, .map (some b)] 58)
    have Bl2 := Lib.hid ((Bl.out.trans (bb.mono Bl.out.size)).trans (ba.mono (Nat.le_trans Bl.out.size bb.size)))
    have hVb : V = ti? (pickL nw ag tu ss) := by rw [HV.out, pickW, HR.out]; rfl
    have h12 : ss.length ≤ 12 := (schB_iff.1 HR.out).2.1
    have HC := Lib.hid (pickI nw sk ag rn lf tu nx b _ ss es _ (ownsMap_below hm ba) (he.of_below ba) HR.out (by omega))
    have HVB := Lib.hid hVb
    obtain ⟨a0, a1, a2, ha⟩ := duV_id (pickL nw ag tu ss)
    rw [ha, ← hVb] at HC
    clear bb ba hm he hVb HRO HV ha
    go_wp2_with fail
    refine HC.out.mono ?_
    rintro e w2 ⟨rfl, bb⟩
    have Bl3 := Lib.hid (Bl2.out.trans (bb.mono Bl2.out.size))
    clear bb HC Bl2 Bl
    go_wp2_with fail
    go_ret
    exact ⟨rfl, Bl3.out⟩
end Qt
end Go.Proofs.Ytihnpfcjnfkfjaa
