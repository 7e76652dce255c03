/- What NewSched of the program and of its model give when they are called, at every argument. No conditions. -/
import Derived.Test.YtihnpfcjnfkfjaaQNewS
import Derived.Maps.Own
namespace Go.Proofs.Ytihnpfcjnfkfjaa
open Go.RowKit Go.Sort
set_option linter.unusedSimpArgs false
set_option linter.unusedVariables false
namespace Qt
theorem runOkNewI (s a : Int) (M : Value) (W : World) :
    Calls Try.prog 74 #[.agg #[.int .i64 0, .int .i64 s, .int .i64 a, .slice none 0 0, .int .i64 0, .int .i64 0, .int .i64 0, .int .i64 1, M]] W fun e W' => e = .returned (.bool true) ∧ Below W.heap.size W W' := by
  go_enter Try.func74, Try.ntmps74
  go_wp2_with fail
  go_ret
  exact ⟨rfl, (Below.refl _ W).alloc (Nat.le_refl _) _⟩
set_option maxHeartbeats 1000000 in
theorem rosterNewI (s a : Int) (W : World) :
    Calls Try.prog 51 #[.agg #[.int .i64 0, .int .i64 s, .int .i64 a, .slice none 0 0, .int .i64 0, .int .i64 0, .int .i64 0, .int .i64 1]] W fun e W' => ∃ (n0 n1 n2 n4 n5 n6 n7 : Int) (mp : Option Nat), e = .returned (.tuple #[.agg #[.int .i64 n0, .int .i64 n1, .int .i64 n2, .slice none 0 0, .int .i64 n4, .int .i64 n5, .int .i64 n6, .int .i64 n7, .map mp], .bool (nsB s a)]) ∧ Below W.heap.size W W' := by
  obtain ⟨R, hR⟩ : ∃ R, R = nsB s a := ⟨_, rfl⟩
  rw [← hR]
  have HR := Lib.hid hR
  clear hR
  have hmm := @run_makeMap Try.prog
  have kS := (Bk.new W 29 #[.int .i64 0, .int .i64 s, .int .i64 a, .slice none 0 0, .int .i64 0, .int .i64 0, .int .i64 0, .int .i64 1]).alloc (.cells #[.int .i64 0, .int .i64 0, .int .i64 0, .slice none 0 0, .int .i64 0, .int .i64 0, .int .i64 0, .int .i64 0, .map none] 58)
  have kR := Bk.new (W.alloc (.cells #[.int .i64 0, .int .i64 s, .int .i64 a, .slice none 0 0, .int .i64 0, .int .i64 0, .int .i64 0, .int .i64 1] 29)) 58 #[.int .i64 0, .int .i64 0, .int .i64 0, .slice none 0 0, .int .i64 0, .int .i64 0, .int .i64 0, .int .i64 0, .map none]
  have b0 := ((Below.refl _ W).alloc (Nat.le_refl _) (.cells #[.int .i64 0, .int .i64 s, .int .i64 a, .slice none 0 0, .int .i64 0, .int .i64 0, .int .i64 0, .int .i64 1] 29)).alloc (by simp) (.cells #[.int .i64 0, .int .i64 0, .int .i64 0, .slice none 0 0, .int .i64 0, .int .i64 0, .int .i64 0, .int .i64 0, .map none] 58)
  simp only [World.size_alloc] at kR
  have KS := Lib.hid kS; have KR := Lib.hid kR; have Bl := Lib.hid b0
  have G1 := Lib.hid (show W.heap.size ≤ W.heap.size + 1 by omega)
  have N1 := Lib.hid (show W.heap.size ≠ W.heap.size + 1 by omega)
  clear kS kR b0
  go_enter Try.func51, Try.ntmps51
  go_wp2_with fail
  generalize (W.alloc (.cells #[.int .i64 0, .int .i64 s, .int .i64 a, .slice none 0 0, .int .i64 0, .int .i64 0, .int .i64 0, .int .i64 1] 29)).alloc (.cells #[.int .i64 0, .int .i64 0, .int .i64 0, .slice none 0 0, .int .i64 0, .int .i64 0, .int .i64 0, .int .i64 0, .map none] 58) = v0 at KS KR Bl ⊢
  generalize W.heap.size + 1 = gR at KR G1 N1 ⊢
  generalize hgS : W.heap.size = gS at KS N1 ⊢
  have HH := headOkNewI s a v0
  rw [← HR.out] at HH
  refine HH.mono ?_
  clear HH
  rintro e w1 ⟨rfl, bb⟩
  replace KS := Lib.hid (KS.out.below bb)
  replace KR := Lib.hid (KR.out.below bb)
  replace Bl := Lib.hid (Bl.out.trans (bb.mono Bl.out.size))
  clear bb
  obtain ⟨c0, c1, c2, c3, c4, c5, c6, c7⟩ := KS.out.cell8
  obtain ⟨r0, r1, r2, r3, r4, r5, r6, r7, r8⟩ := KR.out.cell9
  have fr := fun i => KR.out.frozen i
  have q0 := fr 0; have q1 := fr 1; have q2 := fr 2; have q3 := fr 3; have q4 := fr 4; have q5 := fr 5; have q6 := fr 6; have q7 := fr 7; have q8 := fr 8
  clear fr
  have l1 := KS.out.lt
  have l2 := KR.out.lt
  cases R
  · go_wp2_with fail
    have k9 := KR.out.set9 (y0 := .int .i64 0) (y1 := .int .i64 0) (y2 := .int .i64 0) (y3 := .slice none 0 0) (y4 := .int .i64 0) (y5 := .int .i64 0) (y6 := .int .i64 0) (y7 := .int .i64 0) (y8 := .map none)
    have b9 := below_set9 Bl.out G1.out (.int .i64 0) (.int .i64 0) (.int .i64 0) (.slice none 0 0) (.int .i64 0) (.int .i64 0) (.int .i64 0) (.int .i64 0) (.map none)
    obtain ⟨z0, z1, z2, z3, z4, z5, z6, z7, z8⟩ := k9.cell9
    refine bodyPost_ret (v := .tuple #[.agg #[.int .i64 0, .int .i64 0, .int .i64 0, .slice none 0 0, .int .i64 0, .int .i64 0, .int .i64 0, .int .i64 0, .map none], .bool false]) ?_ rfl ⟨_, _, _, _, _, _, _, _, rfl, b9⟩
    simp [results, Try.results51, go_sem, z0, z1, z2, z3, z4, z5, z6, z7, z8]
  · go_wp2_with fail
    refine wp_loop_rounds 1 ?_
    rw [rounds_succ]
    go_wp2_with fail
    clear c0 c1 c2 c3 c4 c5 c6 c7 r0 r1 r2 r3 r4 r5 r6 r7 r8 q0 q1 q2 q3 q4 q5 q6 q7 q8
    have kQ := Bk.new (w1.alloc (.map #[] 0)) 58 #[.int .i64 0, .int .i64 s, .int .i64 a, .slice none 0 0, .int .i64 0, .int .i64 0, .int .i64 0, .int .i64 1, .map (some w1.heap.size)]
    simp only [World.size_alloc] at kQ
    have ba := ((Below.refl _ w1).alloc (Nat.le_refl _) (.map #[] 0)).alloc (by simp) (.cells #[.int .i64 0, .int .i64 s, .int .i64 a, .slice none 0 0, .int .i64 0, .int .i64 0, .int .i64 0, .int .i64 1, .map (some w1.heap.size)] 58)
    have KQ := Lib.hid kQ
    replace KR := Lib.hid (KR.out.below ba)
    replace Bl := Lib.hid (Bl.out.trans (ba.mono Bl.out.size))
    have NE : gR ≠ w1.heap.size + 1 := by omega
    generalize (w1.alloc (.map #[] 0)).alloc (.cells #[.int .i64 0, .int .i64 s, .int .i64 a, .slice none 0 0, .int .i64 0, .int .i64 0, .int .i64 0, .int .i64 1, .map (some w1.heap.size)] 58) = x2 at KQ KR Bl ⊢
    clear kQ ba
    generalize w1.heap.size + 1 = gQ at KQ NE ⊢
    generalize w1.heap.size = gm at KQ ⊢
    clear l1 l2
    refine (runOkNewI s a _ _).mono ?_
    rintro e w3 ⟨rfl, bb⟩
    replace KQ := Lib.hid (KQ.out.below bb)
    replace KR := Lib.hid (KR.out.below bb)
    replace Bl := Lib.hid (Bl.out.trans (bb.mono Bl.out.size))
    clear bb
    obtain ⟨c0, c1, c2, c3, c4, c5, c6, c7, c8⟩ := KQ.out.cell9
    obtain ⟨r0, r1, r2, r3, r4, r5, r6, r7, r8⟩ := KR.out.cell9
    obtain ⟨q0, q1, q2, q3, q4, q5, q6, q7, q8⟩ := KR.out.free9
    have l3 := KR.out.lt
    go_wp2_with fail
    have k9 := KR.out.set9 (y0 := .int .i64 0) (y1 := .int .i64 s) (y2 := .int .i64 a) (y3 := .slice none 0 0) (y4 := .int .i64 0) (y5 := .int .i64 0) (y6 := .int .i64 0) (y7 := .int .i64 1) (y8 := .map (some gm))
    have b9 := below_set9 Bl.out G1.out (.int .i64 0) (.int .i64 s) (.int .i64 a) (.slice none 0 0) (.int .i64 0) (.int .i64 0) (.int .i64 0) (.int .i64 1) (.map (some gm))
    obtain ⟨z0, z1, z2, z3, z4, z5, z6, z7, z8⟩ := k9.cell9
    refine bodyPost_ret (v := .tuple #[.agg #[.int .i64 0, .int .i64 s, .int .i64 a, .slice none 0 0, .int .i64 0, .int .i64 0, .int .i64 0, .int .i64 1, .map (some gm)], .bool true]) ?_ rfl ⟨_, _, _, _, _, _, _, _, rfl, b9⟩
    simp [results, Try.results51, go_sem, z0, z1, z2, z3, z4, z5, z6, z7, z8]
theorem schedOkNewI (s a : Int) (W : World) :
    Calls Try.prog 17 #[.agg #[.int .i64 0, .int .i64 s, .int .i64 a, .slice none 0 0, .int .i64 0, .int .i64 0, .int .i64 0, .int .i64 1]] W fun e W' => e = .returned (.bool (nsB s a)) ∧ Below W.heap.size W W' := by
  have bl := (Below.refl _ W).alloc (Nat.le_refl _) (.cells #[.int .i64 0, .int .i64 s, .int .i64 a, .slice none 0 0, .int .i64 0, .int .i64 0, .int .i64 0, .int .i64 1] 29)
  have Bl := Lib.hid bl
  clear bl
  go_enter Try.func17, Try.ntmps17
  go_wp2_with fail
  refine (rosterNewI s a _).mono ?_
  rintro e w1 ⟨n0, n1, n2, n4, n5, n6, n7, mp, rfl, bb⟩
  replace Bl := Lib.hid (Bl.out.trans (bb.mono Bl.out.size))
  clear bb
  go_wp2_with fail
  go_ret
  exact ⟨rfl, Bl.out.alloc Bl.out.size _⟩
/-- A schedule as a value. -/
abbrev Sc (now s a : Int) (nx : Int) : Value := .agg #[.int .i64 now, .int .i64 s, .int .i64 a, .slice none 0 0, .int .i64 0, .int .i64 0, .int .i64 0, .int .i64 nx]
def nsS (s a : Int) : Int := if nsB s a then s else 0
def nsA (s a : Int) : Int := if nsB s a then a else 0
def nsN (s a : Int) : Int := if nsB s a then 1 else 0
theorem Bk.set8 {w : World} {g : Nat} {t : TypeId} {x0 x1 x2 x3 x4 x5 x6 x7 : Value} (h : Bk w g t #[x0, x1, x2, x3, x4, x5, x6, x7]) (y0 y1 y2 y3 y4 y5 y6 y7 : Value) : Bk ((((((((w.setCell ⟨g, 0, none⟩ y0).setCell ⟨g, 1, none⟩ y1).setCell ⟨g, 2, none⟩ y2).setCell ⟨g, 3, none⟩ y3).setCell ⟨g, 4, none⟩ y4).setCell ⟨g, 5, none⟩ y5).setCell ⟨g, 6, none⟩ y6).setCell ⟨g, 7, none⟩ y7) g t #[y0, y1, y2, y3, y4, y5, y6, y7] := by
  have h0 : Bk (w.setCell ⟨g, 0, none⟩ y0) g t #[y0, x1, x2, x3, x4, x5, x6, x7] := h.set 0 y0
  have h1 : Bk ((w.setCell ⟨g, 0, none⟩ y0).setCell ⟨g, 1, none⟩ y1) g t #[y0, y1, x2, x3, x4, x5, x6, x7] := h0.set 1 y1
  have h2 : Bk (((w.setCell ⟨g, 0, none⟩ y0).setCell ⟨g, 1, none⟩ y1).setCell ⟨g, 2, none⟩ y2) g t #[y0, y1, y2, x3, x4, x5, x6, x7] := h1.set 2 y2
  have h3 : Bk ((((w.setCell ⟨g, 0, none⟩ y0).setCell ⟨g, 1, none⟩ y1).setCell ⟨g, 2, none⟩ y2).setCell ⟨g, 3, none⟩ y3) g t #[y0, y1, y2, y3, x4, x5, x6, x7] := h2.set 3 y3
  have h4 : Bk (((((w.setCell ⟨g, 0, none⟩ y0).setCell ⟨g, 1, none⟩ y1).setCell ⟨g, 2, none⟩ y2).setCell ⟨g, 3, none⟩ y3).setCell ⟨g, 4, none⟩ y4) g t #[y0, y1, y2, y3, y4, x5, x6, x7] := h3.set 4 y4
  have h5 : Bk ((((((w.setCell ⟨g, 0, none⟩ y0).setCell ⟨g, 1, none⟩ y1).setCell ⟨g, 2, none⟩ y2).setCell ⟨g, 3, none⟩ y3).setCell ⟨g, 4, none⟩ y4).setCell ⟨g, 5, none⟩ y5) g t #[y0, y1, y2, y3, y4, y5, x6, x7] := h4.set 5 y5
  have h6 : Bk (((((((w.setCell ⟨g, 0, none⟩ y0).setCell ⟨g, 1, none⟩ y1).setCell ⟨g, 2, none⟩ y2).setCell ⟨g, 3, none⟩ y3).setCell ⟨g, 4, none⟩ y4).setCell ⟨g, 5, none⟩ y5).setCell ⟨g, 6, none⟩ y6) g t #[y0, y1, y2, y3, y4, y5, y6, x7] := h5.set 6 y6
  have h7 : Bk ((((((((w.setCell ⟨g, 0, none⟩ y0).setCell ⟨g, 1, none⟩ y1).setCell ⟨g, 2, none⟩ y2).setCell ⟨g, 3, none⟩ y3).setCell ⟨g, 4, none⟩ y4).setCell ⟨g, 5, none⟩ y5).setCell ⟨g, 6, none⟩ y6).setCell ⟨g, 7, none⟩ y7) g t #[y0, y1, y2, y3, y4, y5, y6, y7] := h6.set 7 y7
  exact h7
theorem below_set8 {B g : Nat} {W w : World} (h : Below B W w) (hB : B ≤ g) (y0 y1 y2 y3 y4 y5 y6 y7 : Value) : Below B W ((((((((w.setCell ⟨g, 0, none⟩ y0).setCell ⟨g, 1, none⟩ y1).setCell ⟨g, 2, none⟩ y2).setCell ⟨g, 3, none⟩ y3).setCell ⟨g, 4, none⟩ y4).setCell ⟨g, 5, none⟩ y5).setCell ⟨g, 6, none⟩ y6).setCell ⟨g, 7, none⟩ y7) :=
  (((((((h.setCell (p := ⟨g, 0, none⟩) hB y0).setCell (p := ⟨g, 1, none⟩) hB y1).setCell (p := ⟨g, 2, none⟩) hB y2).setCell (p := ⟨g, 3, none⟩) hB y3).setCell (p := ⟨g, 4, none⟩) hB y4).setCell (p := ⟨g, 5, none⟩) hB y5).setCell (p := ⟨g, 6, none⟩) hB y6).setCell (p := ⟨g, 7, none⟩) hB y7
end Qt
end Go.Proofs.Ytihnpfcjnfkfjaa
