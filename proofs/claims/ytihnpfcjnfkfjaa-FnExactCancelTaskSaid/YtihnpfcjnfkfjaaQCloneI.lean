/- What slices.Clone at ints and ownTask of the program give when they are called: a copy in memory of the call's own. Conditions: the slice reads as the list that is named. -/
import Derived.Test.YtihnpfcjnfkfjaaQClone
import Derived.Test.YtihnpfcjnfkfjaaQSchA
namespace Go.Proofs.Ytihnpfcjnfkfjaa
open Go.RowKit Go.Sort
set_option linter.unusedSimpArgs false
set_option linter.unusedVariables false
namespace Qt
theorem OwnI.setO {B n : Nat} {w : World} {A : Option Addr} {xs : List Int} (h : OwnI B w A n xs) {p : Addr} (hp : 0 < n → ∀ a, A = some a → a.block ≠ p.block) (u : Value) : OwnI B (w.setCell p u) A n xs := ⟨h.1, fun hn => by
  obtain ⟨g, e, hB, hl, hc⟩ := h.2 hn
  have hne := hp hn _ e
  exact ⟨g, e, hB, by rw [World.size_setCell]; exact hl, fun j hj => ⟨(World.cell?_setCell_other _ _ _ _ (fun e => hne (by rw [e]))).trans (hc j hj).1, by rw [World.frozen?_setCell]; exact (hc j hj).2⟩⟩⟩
theorem cloneNilI (p : Nat) (W : World) :
    Calls Try.prog 94 #[.slice none 0 p] W (CopyC W 0 []) := by
  have hq : ∀ W0, (binOp .eql 35 (.slice none 0 p) (.slice none 0 0)).run Try.prog W0 = .ok (.bool true) W0 := fun W0 => by
    have := Go.Lib.run_eql_slice_nil (P := Try.prog) W0 35 3 none 0 p 0 0 Try.underlying35
    simpa using this
  go_enter Try.func94, Try.ntmps94
  go_wp2
  go_ret
  exact CopyC.of_own (World.ownsRow_nil _ _ _ _) (Below.refl _ _)
theorem cloneZeroI (a : Addr) (p : Nat) (W : World) :
    Calls Try.prog 94 #[.slice (some a) 0 p] W (CopyC W 0 []) := by
  obtain ⟨i0, hi, hz0, hz1, hz2⟩ := info_parts info3
  have hq : ∀ W0, (binOp .eql 35 (.slice (some a) 0 p) (.slice none 0 0)).run Try.prog W0 = .ok (.bool false) W0 := fun W0 => by
    have := Go.Lib.run_eql_slice_nil (P := Try.prog) W0 35 3 (some a) 0 p 0 0 Try.underlying35
    simpa using this
  go_enter Try.func94, Try.ntmps94
  go_wp2_with (at_builtin; go_loud (refine wpList_append_own _ rfl _ _ 35 rfl W.heap.size 3 i0 (.int .i64 0) 1 8 Try.underlying35 hi hz0 hz1 hz2 rfl (by decide) _ _ _ rfl (World.ownsRow_lit W #[] 0 (Nat.le_refl _) (by decide) rfl) a 0 p [] rfl ?c0 ?c1 ?c2 ?c3 ?c4 ?c5 ?_))
  case c0 => rfl
  case c1 => intro j v hj; simp at hj
  case c2 => intro v hv; simp at hv
  case c3 => unfold maxLen; omega
  case c4 => omega
  case c5 => simp
  · intro v' w1 hown' hgrow _
    have hB1 : Below W.heap.size W w1 := ((Below.refl _ W).alloc (Nat.le_refl _) _).grown hgrow (by simp) (fun r hr => by
      simp [Value.ownBlock] at hr; omega)
    have HC : Hid (CopyC W 0 [] (.returned v') w1) := Lib.hid (CopyC.of_own (by simpa using hown') hB1)
    clear hown' hgrow hB1
    go_wp2
    go_ret
    exact HC.out
theorem cloneAny (A : Option Addr) (n p : Nat) (xs : List Int) (W : World) (hr : RdI W A n xs) (hn : n ≤ 1048576) :
    Calls Try.prog 94 #[.slice A n p] W (CopyC W n xs) := by
  by_cases h0 : 0 < n
  · obtain ⟨b, off, rfl, _⟩ := hr.2 h0
    exact cloneI b off n p xs W hr hn
  · obtain rfl : n = 0 := by omega
    obtain rfl : xs = [] := List.length_eq_zero_iff.1 hr.1
    rcases A with _ | a
    · exact cloneNilI p W
    · exact cloneZeroI a p W
set_option maxRecDepth 100000 in
theorem ownTaskI (ti1 : Int) (A1 : Option Addr) (n1 p1 : Nat) (ta1 td1 tb1 : Int) (xs : List Int) (W : World) (hr : RdI W A1 n1 xs) (hn : n1 ≤ 1048576) :
    Calls Try.prog 83 #[.agg #[.int .i64 ti1, .slice A1 n1 p1, .int .i64 ta1, .int .i64 td1, .int .i64 tb1]] W fun e W' => ∃ A cap, e = .returned (.agg #[.int .i64 ti1, .slice A n1 cap, .int .i64 ta1, .int .i64 td1, .int .i64 tb1]) ∧ OwnI W.heap.size W' A n1 xs ∧ Below W.heap.size W W' := by
  have b9 := ((Below.refl _ W).alloc (Nat.le_refl _) (.cells #[.int .i64 ti1, .slice A1 n1 p1, .int .i64 ta1, .int .i64 td1, .int .i64 tb1] 53)).alloc (by simp) (.cells #[.int .i64 0, .slice none 0 0, .int .i64 0, .int .i64 0, .int .i64 0] 53)
  have kt := (Bk.new W 53 #[.int .i64 ti1, .slice A1 n1 p1, .int .i64 ta1, .int .i64 td1, .int .i64 tb1]).alloc (.cells #[.int .i64 0, .slice none 0 0, .int .i64 0, .int .i64 0, .int .i64 0] 53)
  have kd := Bk.new (W.alloc (.cells #[.int .i64 ti1, .slice A1 n1 p1, .int .i64 ta1, .int .i64 td1, .int .i64 tb1] 53)) 53 #[.int .i64 0, .slice none 0 0, .int .i64 0, .int .i64 0, .int .i64 0]
  simp only [World.size_alloc] at kd
  have HR := Lib.hid (hr.of_below b9)
  have B9 := Lib.hid b9
  have KT := Lib.hid kt
  have KD := Lib.hid kd
  have HG := Lib.hid (show W.heap.size ≤ W.heap.size + 1 by omega)
  have HNE := Lib.hid (show W.heap.size + 1 ≠ W.heap.size by omega)
  clear b9 kt kd hr
  go_enter Try.func83, Try.ntmps83
  go_wp2_with fail
  generalize (W.alloc (.cells #[.int .i64 ti1, .slice A1 n1 p1, .int .i64 ta1, .int .i64 td1, .int .i64 tb1] 53)).alloc (.cells #[.int .i64 0, .slice none 0 0, .int .i64 0, .int .i64 0, .int .i64 0] 53) = v at HR B9 KT KD ⊢
  generalize W.heap.size + 1 = gd at KD HG HNE ⊢
  refine (cloneAny A1 n1 p1 xs v HR.out hn).mono ?_
  rintro e w1 ⟨A2, cap2, rfl, ho, bb⟩
  have HO := Lib.hid (ho.base B9.out.size)
  have KT1 := Lib.hid (KT.out.below bb)
  have KD1 := Lib.hid (KD.out.below bb)
  have Bl := Lib.hid (B9.out.trans (bb.mono B9.out.size))
  have hne2 : ∀ a, A2 = some a → 0 < n1 → a.block ≠ gd ∧ a.block ≠ W.heap.size := fun a e h0 => by
    obtain ⟨g, e2, hB, _⟩ := ho.2 h0
    rw [e] at e2
    cases e2
    have h1 := KD.out.lt
    have h2 := KT.out.lt
    simp only
    omega
  have HN2 := Lib.hid hne2
  clear ho bb hne2 KT KD HR
  have c0 := KT1.out.cell 0 rfl
  have c1 := KT1.out.cell 1 rfl
  have c2 := KT1.out.cell 2 rfl
  have c3 := KT1.out.cell 3 rfl
  have c4 := KT1.out.cell 4 rfl
  have f1 := KT1.out.frozen 1
  have d0 := KD1.out.cell 0 rfl
  have d1 := KD1.out.cell 1 rfl
  have d2 := KD1.out.cell 2 rfl
  have d3 := KD1.out.cell 3 rfl
  have d4 := KD1.out.cell 4 rfl
  have g0 := KD1.out.frozen 0
  have g1 := KD1.out.frozen 1
  have g2 := KD1.out.frozen 2
  have g3 := KD1.out.frozen 3
  have g4 := KD1.out.frozen 4
  have hne := HNE.out
  have hne' := Ne.symm HNE.out
  go_wp2_with fail
  have hgw : W.heap.size ≤ gd := HG.out
  have k9 := (((((KD1.out.far (p := ⟨W.heap.size, 1, none⟩) hne (.slice A2 n1 cap2)).set 0 (.int .i64 ti1)).set 1 (.slice A2 n1 cap2)).set 2 (.int .i64 ta1)).set 3 (.int .i64 td1)).set 4 (.int .i64 tb1)
  have o9 := (((((HO.out.setO (p := ⟨W.heap.size, 1, none⟩) (fun h a e => (HN2.out a e h).2) (.slice A2 n1 cap2)).setO (p := ⟨gd, 0, none⟩) (fun h a e => (HN2.out a e h).1) (.int .i64 ti1)).setO (p := ⟨gd, 1, none⟩) (fun h a e => (HN2.out a e h).1) (.slice A2 n1 cap2)).setO (p := ⟨gd, 2, none⟩) (fun h a e => (HN2.out a e h).1) (.int .i64 ta1)).setO (p := ⟨gd, 3, none⟩) (fun h a e => (HN2.out a e h).1) (.int .i64 td1)).setO (p := ⟨gd, 4, none⟩) (fun h a e => (HN2.out a e h).1) (.int .i64 tb1)
  have b9 := (((((Bl.out.setCell (p := ⟨W.heap.size, 1, none⟩) (Nat.le_refl _) (.slice A2 n1 cap2)).setCell (p := ⟨gd, 0, none⟩) hgw (.int .i64 ti1)).setCell (p := ⟨gd, 1, none⟩) hgw (.slice A2 n1 cap2)).setCell (p := ⟨gd, 2, none⟩) hgw (.int .i64 ta1)).setCell (p := ⟨gd, 3, none⟩) hgw (.int .i64 td1)).setCell (p := ⟨gd, 4, none⟩) hgw (.int .i64 tb1)
  have z0 := k9.cell 0 rfl
  have z1 := k9.cell 1 rfl
  have z2 := k9.cell 2 rfl
  have z3 := k9.cell 3 rfl
  have z4 := k9.cell 4 rfl
  refine bodyPost_ret (v := .agg #[.int .i64 ti1, .slice A2 n1 cap2, .int .i64 ta1, .int .i64 td1, .int .i64 tb1]) ?_ rfl ⟨A2, cap2, rfl, o9, b9⟩
  clear k9 o9 b9 c0 c1 c2 c3 c4 d0 d1 d2 d3 d4
  generalize ((((((w1.setCell ⟨W.heap.size, 1, none⟩ (.slice A2 n1 cap2)).setCell ⟨gd, 0, none⟩ (.int .i64 ti1)).setCell ⟨gd, 1, none⟩ (.slice A2 n1 cap2)).setCell ⟨gd, 2, none⟩ (.int .i64 ta1)).setCell ⟨gd, 3, none⟩ (.int .i64 td1)).setCell ⟨gd, 4, none⟩ (.int .i64 tb1)) = w9 at z0 z1 z2 z3 z4 ⊢
  simp [results, Try.results83, go_sem, z0, z1, z2, z3, z4]
end Qt
end Go.Proofs.Ytihnpfcjnfkfjaa
