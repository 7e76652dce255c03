/- What NewSched (of the program and of its model) gives when it is called, at every argument. No conditions. -/
import Derived.Test.YtihnpfcjnfkfjaaQSchB
namespace Go.Proofs.Ytihnpfcjnfkfjaa
open Go.RowKit Go.Sort
set_option linter.unusedSimpArgs false
set_option linter.unusedVariables false
namespace Qt
def nsB (s a : Int) : Bool := inB 0 1000 s && inB 0 20 a
theorem Bk.cell8 {w : World} {g : Nat} {t : TypeId} {x0 x1 x2 x3 x4 x5 x6 x7 : Value} (h : Bk w g t #[x0, x1, x2, x3, x4, x5, x6, x7]) : w.cell? ⟨g, 0, none⟩ = some x0 ∧ w.cell? ⟨g, 1, none⟩ = some x1 ∧ w.cell? ⟨g, 2, none⟩ = some x2 ∧ w.cell? ⟨g, 3, none⟩ = some x3 ∧ w.cell? ⟨g, 4, none⟩ = some x4 ∧ w.cell? ⟨g, 5, none⟩ = some x5 ∧ w.cell? ⟨g, 6, none⟩ = some x6 ∧ w.cell? ⟨g, 7, none⟩ = some x7 :=
  ⟨h.cell 0 rfl, h.cell 1 rfl, h.cell 2 rfl, h.cell 3 rfl, h.cell 4 rfl, h.cell 5 rfl, h.cell 6 rfl, h.cell 7 rfl⟩
set_option maxHeartbeats 1000000 in
theorem schedOkNewS (s a : Int) (W : World) :
    Calls Try.prog 15 #[.agg #[.int .i64 0, .int .i64 s, .int .i64 a, .slice none 0 0, .int .i64 0, .int .i64 0, .int .i64 0, .int .i64 1]] W fun e W' => e = .returned (.bool (nsB s a)) ∧ Below W.heap.size W W' := by
  obtain ⟨R, hR⟩ : ∃ R, R = nsB s a := ⟨_, rfl⟩
  rw [← hR]
  have HR := Lib.hid hR
  have K := Lib.hid (Bk.new W 29 #[.int .i64 0, .int .i64 s, .int .i64 a, .slice none 0 0, .int .i64 0, .int .i64 0, .int .i64 0, .int .i64 1])
  have Bl := Lib.hid ((Below.refl _ W).alloc (Nat.le_refl _) (.cells #[.int .i64 0, .int .i64 s, .int .i64 a, .slice none 0 0, .int .i64 0, .int .i64 0, .int .i64 0, .int .i64 1] 29))
  have t0 : inB 0 1000000 0 = true := by decide
  have T0 := Lib.hid t0
  clear hR t0
  go_enter Try.func15, Try.ntmps15
  go_wp2_with fail
  generalize W.alloc (.cells #[.int .i64 0, .int .i64 s, .int .i64 a, .slice none 0 0, .int .i64 0, .int .i64 0, .int .i64 0, .int .i64 1] 29) = v0 at K Bl ⊢
  generalize hgT : W.heap.size = gT at K ⊢
  clear hgT
  refine (tickS 0 _).mono ?_
  rw [T0.out]
  rintro e w1 ⟨rfl, rfl⟩
  obtain ⟨c0, c1, c2, c3, c4, c5, c6, c7⟩ := K.out.cell8
  go_wp2_with fail
  refine (inS 0 1000 s _).mono ?_
  rintro e w1 ⟨rfl, rfl⟩
  rcases h1 : inB 0 1000 s with _ | _
  · obtain rfl : R = false := by rw [HR.out]; simp [nsB, h1]
    go_wp2_with fail
    go_ret
    exact ⟨rfl, Bl.out⟩
  have H1 := Lib.hid h1
  clear h1
  go_wp2_with fail
  refine (inS 0 20 a _).mono ?_
  rintro e w1 ⟨rfl, rfl⟩
  rcases h2 : inB 0 20 a with _ | _
  · obtain rfl : R = false := by rw [HR.out]; simp [nsB, h2]
    go_wp2_with fail
    go_ret
    exact ⟨rfl, Bl.out⟩
  obtain rfl : R = true := by rw [HR.out]; simp [nsB, h2, H1.out]
  clear h2
  go_wp2_with fail
  refine (tickS 0 _).mono ?_
  rw [T0.out]
  rintro e w1 ⟨rfl, rfl⟩
  go_wp2_with fail
  refine (inS_yes 1 1 1000000 (by omega) (by omega) _).mono ?_
  rintro e w1 ⟨rfl, rfl⟩
  go_wp2_with fail
  refine wp_loop_rounds 1 ?_
  rw [rounds_succ]
  go_wp2_with fail
  go_ret
  exact ⟨rfl, Bl.out⟩
set_option maxHeartbeats 1000000 in
theorem headOkNewI (s a : Int) (W : World) :
    Calls Try.prog 72 #[.agg #[.int .i64 0, .int .i64 s, .int .i64 a, .slice none 0 0, .int .i64 0, .int .i64 0, .int .i64 0, .int .i64 1]] W fun e W' => e = .returned (.bool (nsB s a)) ∧ Below W.heap.size W W' := by
  obtain ⟨R, hR⟩ : ∃ R, R = nsB s a := ⟨_, rfl⟩
  rw [← hR]
  have HR := Lib.hid hR
  have K := Lib.hid (Bk.new W 29 #[.int .i64 0, .int .i64 s, .int .i64 a, .slice none 0 0, .int .i64 0, .int .i64 0, .int .i64 0, .int .i64 1])
  have Bl := Lib.hid ((Below.refl _ W).alloc (Nat.le_refl _) (.cells #[.int .i64 0, .int .i64 s, .int .i64 a, .slice none 0 0, .int .i64 0, .int .i64 0, .int .i64 0, .int .i64 1] 29))
  have t0 : (inB 0 1000000 0 && inB 0 1000000 0) = true := by decide
  have T0 := Lib.hid t0
  clear hR t0
  go_enter Try.func72, Try.ntmps72
  go_wp2_with fail
  have hv : (W.alloc (.cells #[.int .i64 0, .int .i64 s, .int .i64 a, .slice none 0 0, .int .i64 0, .int .i64 0, .int .i64 0, .int .i64 1] 29)).heap.size = W.heap.size + 1 := by simp
  generalize W.alloc (.cells #[.int .i64 0, .int .i64 s, .int .i64 a, .slice none 0 0, .int .i64 0, .int .i64 0, .int .i64 0, .int .i64 1] 29) = v0 at K Bl hv ⊢
  rw [← hv]
  clear hv
  generalize hgT : W.heap.size = gT at K ⊢
  clear hgT
  refine (inside2I 0 1000000 0 0 _ _ _ (Bk.new v0 3 #[.int .i64 0, .int .i64 0])).mono ?_
  rw [T0.out]
  rintro e w1 ⟨rfl, bb⟩
  replace bb := after1 bb
  replace K := Lib.hid (K.out.below bb)
  replace Bl := Lib.hid (Bl.out.trans (bb.mono Bl.out.size))
  clear bb
  obtain ⟨c0, c1, c2, c3, c4, c5, c6, c7⟩ := K.out.cell8
  go_wp2_with fail
  clear c0 c1 c2 c3 c4 c5 c6 c7
  refine (inside1I 0 1000 s _ _ _ (Bk.new w1 3 #[.int .i64 s])).mono ?_
  rintro e w2 ⟨rfl, bb⟩
  replace bb := after1 bb
  replace K := Lib.hid (K.out.below bb)
  replace Bl := Lib.hid (Bl.out.trans (bb.mono Bl.out.size))
  clear bb
  rcases h1 : inB 0 1000 s with _ | _
  · obtain rfl : R = false := by rw [HR.out]; simp [nsB, h1]
    go_wp2_with fail
    go_ret
    exact ⟨rfl, Bl.out⟩
  have H1 := Lib.hid h1
  clear h1
  obtain ⟨c0, c1, c2, c3, c4, c5, c6, c7⟩ := K.out.cell8
  go_wp2_with fail
  clear c0 c1 c2 c3 c4 c5 c6 c7
  refine (inside1I 0 20 a _ _ _ (Bk.new w2 3 #[.int .i64 a])).mono ?_
  rintro e w3 ⟨rfl, bb⟩
  replace bb := after1 bb
  replace K := Lib.hid (K.out.below bb)
  replace Bl := Lib.hid (Bl.out.trans (bb.mono Bl.out.size))
  clear bb
  rcases h2 : inB 0 20 a with _ | _
  · obtain rfl : R = false := by rw [HR.out]; simp [nsB, h2]
    go_wp2_with fail
    go_ret
    exact ⟨rfl, Bl.out⟩
  obtain rfl : R = true := by rw [HR.out]; simp [nsB, h2, H1.out]
  clear h2
  obtain ⟨c0, c1, c2, c3, c4, c5, c6, c7⟩ := K.out.cell8
  go_wp2_with fail
  clear c0 c1 c2 c3 c4 c5 c6 c7
  have t1 : inB 1 1000000 1 = true := by decide
  have HI := inside1I 1 1000000 1 _ _ _ (Bk.new w3 3 #[.int .i64 1])
  rw [t1] at HI
  refine HI.mono ?_
  rintro e w4 ⟨rfl, bb⟩
  replace bb := after1 bb
  replace Bl := Lib.hid (Bl.out.trans (bb.mono Bl.out.size))
  clear bb HI t1
  go_wp2_with fail
  go_ret
  exact ⟨rfl, Bl.out⟩
end Qt
end Go.Proofs.Ytihnpfcjnfkfjaa
