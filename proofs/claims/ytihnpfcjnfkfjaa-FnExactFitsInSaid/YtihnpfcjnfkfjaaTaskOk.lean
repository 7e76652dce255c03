/- What TaskOk (of the program and of its model) gives when it is called, and its law. Conditions: the slice of costs reads as the list that is named. -/
import Derived.Test.YtihnpfcjnfkfjaaTask
namespace Go.Proofs.Ytihnpfcjnfkfjaa
open Go.RowKit Go.Sort
set_option linter.unusedSimpArgs false
set_option linter.unusedVariables false
namespace Qt
theorem taskB_iff {id a d b : Int} {xs : List Int} : taskB id xs a d b = true ↔ inB 1 1000000 id = true ∧ inB 1 6 (xs.length : Int) = true ∧ allIn 1 1000 xs = true ∧ inB 0 ((xs.length : Int) - 1) a = true ∧ inB 0 1000000 d = true ∧ inB 0 1000000 b = true := by
  simp only [taskB, Bool.and_eq_true]
theorem taskB_no {id a d b : Int} {xs : List Int} (h : inB 1 1000000 id = false ∨ inB 1 6 (xs.length : Int) = false ∨ allIn 1 1000 xs = false ∨ inB 0 ((xs.length : Int) - 1) a = false ∨ inB 0 1000000 d = false ∨ inB 0 1000000 b = false) : taskB id xs a d b = false := by
  rcases h with h | h | h | h | h | h <;> simp [taskB, h]
theorem allIn_two (lo hi x y : Int) : allIn lo hi [x, y] = (inB lo hi x && inB lo hi y) := by simp [allIn]
theorem inside2I (lo hi x y : Int) (g : Nat) (t : TypeId) (W : World) (h : Bk W g t #[.int .i64 x, .int .i64 y]) :
    Calls Try.prog 86 #[.int .i64 lo, .int .i64 hi, .slice (some ⟨g, 0, none⟩) 2 2] W fun e W' => e = .returned (.bool (inB lo hi x && inB lo hi y)) ∧ Below W.heap.size W W' := by
  rw [← allIn_two]
  exact insideB lo hi _ 2 2 [x, y] W ⟨rfl, fun _ => ⟨g, 0, rfl, h.lt, fun j hj => by
    rcases (by omega : j = 0 ∨ j = 1) with rfl | rfl
    · exact h.cell 0 rfl
    · exact h.cell 1 rfl⟩⟩ (by omega)
theorem tickS (x : Int) (W : World) : Calls Try.prog 46 #[.int .i64 x] W fun e W' => e = .returned (.bool (inB 0 1000000 x)) ∧ W = W' := by
  go_enter Try.func46, Try.ntmps46
  go_wp2_with fail
  refine (inS 0 1000000 x _).mono ?_
  rintro e w1 ⟨rfl, rfl⟩
  go_wp2_with fail
  go_ret
  exact ⟨rfl, rfl⟩
set_option maxHeartbeats 1000000 in
theorem taskOkS (id : Int) (A : Option Addr) (n p : Nat) (xs : List Int) (a d b : Int) (W : World) (hr : RdI W A n xs) (hn : n ≤ 1048576) :
    Calls Try.prog 48 #[.agg #[.int .i64 id, .slice A n p, .int .i64 a, .int .i64 d, .int .i64 b]] W fun e W' => e = .returned (.bool (taskB id xs a d b)) ∧ Below W.heap.size W W' := by
  obtain ⟨R, hR⟩ : ∃ R, R = taskB id xs a d b := ⟨_, rfl⟩
  rw [← hR]
  have HR := Lib.hid hR
  have K := Lib.hid (Bk.new W 53 #[.int .i64 id, .slice A n p, .int .i64 a, .int .i64 d, .int .i64 b])
  have bl := (Below.refl _ W).alloc (Nat.le_refl _) (.cells #[.int .i64 id, .slice A n p, .int .i64 a, .int .i64 d, .int .i64 b] 53)
  have RA := Lib.hid (hr.of_below bl)
  have Bl := Lib.hid bl
  have HN := Lib.hid hn
  have HLN := Lib.hid hr.1
  have hn1 : (n : Int) ≤ 1048576 := by omega
  have hn0 : (0 : Int) ≤ n := Int.natCast_nonneg n
  clear hR hr bl hn
  go_enter Try.func48, Try.ntmps48
  go_wp2_with fail
  generalize W.alloc (.cells #[.int .i64 id, .slice A n p, .int .i64 a, .int .i64 d, .int .i64 b] 53) = v0 at K RA Bl ⊢
  generalize hgT : W.heap.size = gT at K ⊢
  clear hgT
  refine (inS 1 1000000 id _).mono ?_
  rintro e w1 ⟨rfl, rfl⟩
  rcases h1 : inB 1 1000000 id with _ | _
  · obtain rfl : R = false := by rw [HR.out]; exact taskB_no (Or.inl h1)
    go_wp2_with fail
    go_ret
    exact ⟨rfl, Bl.out⟩
  have H1 := Lib.hid h1
  clear h1
  obtain ⟨c0, c1, c2, c3, c4⟩ := K.out.cell5
  go_wp2_with fail
  clear c0 c1 c2 c3 c4
  refine (inS 1 6 n _).mono ?_
  rintro e w2 ⟨rfl, rfl⟩
  rcases h2 : inB 1 6 (n : Int) with _ | _
  · obtain rfl : R = false := by rw [HR.out]; exact taskB_no (Or.inr (Or.inl (by rw [HLN.out]; exact h2)))
    go_wp2_with fail
    go_ret
    exact ⟨rfl, Bl.out⟩
  have H2 := Lib.hid h2
  clear h2
  obtain ⟨c0, c1, c2, c3, c4⟩ := K.out.cell5
  go_wp2_with fail
  clear c0 c1 c2 c3 c4
  have hl := inB_iff.1 H2.out
  refine (inS 0 ((n : Int) - 1) a _).mono ?_
  rintro e w3 ⟨rfl, rfl⟩
  rcases h3 : inB 0 ((n : Int) - 1) a with _ | _
  · obtain rfl : R = false := by rw [HR.out]; exact taskB_no (Or.inr (Or.inr (Or.inr (Or.inl (by rw [HLN.out]; exact h3)))))
    go_wp2_with fail
    go_ret
    exact ⟨rfl, Bl.out⟩
  have H3 := Lib.hid h3
  clear h3
  obtain ⟨c0, c1, c2, c3, c4⟩ := K.out.cell5
  go_wp2_with fail
  clear c0 c1 c2 c3 c4
  refine (tickS d _).mono ?_
  rintro e w4 ⟨rfl, rfl⟩
  rcases h4 : inB 0 1000000 d with _ | _
  · obtain rfl : R = false := by rw [HR.out]; exact taskB_no (Or.inr (Or.inr (Or.inr (Or.inr (Or.inl h4)))))
    go_wp2_with fail
    go_ret
    exact ⟨rfl, Bl.out⟩
  have H4 := Lib.hid h4
  clear h4
  obtain ⟨c0, c1, c2, c3, c4⟩ := K.out.cell5
  go_wp2_with fail
  clear c0 c1 c2 c3 c4
  refine (tickS b _).mono ?_
  rintro e w5 ⟨rfl, rfl⟩
  rcases h5 : inB 0 1000000 b with _ | _
  · obtain rfl : R = false := by rw [HR.out]; exact taskB_no (Or.inr (Or.inr (Or.inr (Or.inr (Or.inr h5)))))
    go_wp2_with fail
    go_ret
    exact ⟨rfl, Bl.out⟩
  have H5 := Lib.hid h5
  clear h5
  go_wp2_with fail
  have HE : Hid (allIn 1 1000 xs = R) := Lib.hid (by
    rw [HR.out]
    unfold taskB
    rw [H1.out, HLN.out, H2.out, H3.out, H4.out, H5.out]
    simp)
  go_loop [3] (fun i => ∃ k : Nat, k ≤ n ∧ i = .int .i64 k ∧ Hid (∀ j, j < k → inB 1 1000 (xs[j]?.getD 0) = true)) (fun i => n - (intOf i).toNat)
  case atStart => exact ⟨0, Nat.zero_le _, rfl, Lib.hid (fun j hj => absurd hj (Nat.not_lt_zero _))⟩
  case round =>
    obtain ⟨k, hk, rfl, HP⟩ := hrel
    obtain ⟨c0, c1, c2, c3, c4⟩ := K.out.cell5
    by_cases hlt : k < n
    · obtain ⟨b', off, rfl, hbl, hcell⟩ := RA.out.2 (by omega)
      have hc1 := hcell k hlt
      have hx1 : xs.getD k 0 = xs[k]?.getD 0 := List.getD_eq_getElem?_getD ..
      rw [hx1] at hc1
      have HKL : Hid (k < xs.length) := Lib.hid (by rw [HLN.out]; exact hlt)
      obtain ⟨x, hx⟩ : ∃ x, x = xs[k]?.getD 0 := ⟨_, rfl⟩
      rw [← hx] at hc1
      have HX := Lib.hid hx
      have hi1 : (k : Int) < (n : Int) := by omega
      clear hcell hbl hx1 hx
      go_wp2_with fail
      refine (inS 1 1000 x _).mono ?_
      rintro e w6 ⟨rfl, rfl⟩
      rcases hr : inB 1 1000 x with _ | _
      · obtain rfl : R = false := by rw [← HE.out]; exact allIn_no HKL.out (by rw [← HX.out]; exact hr)
        clear hr
        go_wp2_with fail
        go_ret
        exact ⟨rfl, Bl.out⟩
      have HRX := Lib.hid hr
      clear hr
      go_wp2_with fail
      go_round
      case rel =>
        refine ⟨k + 1, by omega, by go_num, Lib.hid (fun j hj => ?_)⟩
        rcases (by omega : j < k ∨ j = k) with h1 | rfl
        · exact HP.out j h1
        · rw [← HX.out]; exact HRX.out
      case measure => simp [intOf]; omega
    · obtain rfl : k = n := by omega
      obtain rfl : R = true := by rw [← HE.out]; exact allIn_yes (fun j hj => HP.out j (by rw [HLN.out] at hj; exact hj))
      go_wp2_with fail
      go_ret
      exact ⟨rfl, Bl.out⟩
set_option maxHeartbeats 1000000 in
theorem taskOkI (id : Int) (A : Option Addr) (n p : Nat) (xs : List Int) (a d b : Int) (W : World) (hr : RdI W A n xs) (hn : n ≤ 1048576) :
    Calls Try.prog 73 #[.agg #[.int .i64 id, .slice A n p, .int .i64 a, .int .i64 d, .int .i64 b]] W fun e W' => e = .returned (.bool (taskB id xs a d b)) ∧ Below W.heap.size W W' := by
  obtain ⟨R, hR⟩ : ∃ R, R = taskB id xs a d b := ⟨_, rfl⟩
  rw [← hR]
  have HR := Lib.hid hR
  have K := Lib.hid (Bk.new W 53 #[.int .i64 id, .slice A n p, .int .i64 a, .int .i64 d, .int .i64 b])
  have bl := (Below.refl _ W).alloc (Nat.le_refl _) (.cells #[.int .i64 id, .slice A n p, .int .i64 a, .int .i64 d, .int .i64 b] 53)
  have RA := Lib.hid (hr.of_below bl)
  have Bl := Lib.hid bl
  have HN := Lib.hid hn
  have HLN := Lib.hid hr.1
  have hn1 : (n : Int) ≤ 1048576 := by omega
  have hn0 : (0 : Int) ≤ n := Int.natCast_nonneg n
  clear hR hr bl hn
  go_enter Try.func73, Try.ntmps73
  go_wp2_with fail
  have hv : (W.alloc (.cells #[.int .i64 id, .slice A n p, .int .i64 a, .int .i64 d, .int .i64 b] 53)).heap.size = W.heap.size + 1 := by simp
  generalize W.alloc (.cells #[.int .i64 id, .slice A n p, .int .i64 a, .int .i64 d, .int .i64 b] 53) = v0 at K RA Bl hv ⊢
  rw [← hv]
  clear hv
  generalize hgT : W.heap.size = gT at K ⊢
  clear hgT
  refine (inside1I 1 1000000 id _ _ _ (Bk.new v0 3 #[.int .i64 id])).mono ?_
  rintro e w1 ⟨rfl, bb⟩
  replace bb := after1 bb
  replace K := Lib.hid (K.out.below bb)
  replace RA := Lib.hid (RA.out.of_below bb)
  replace Bl := Lib.hid (Bl.out.trans (bb.mono Bl.out.size))
  clear bb
  rcases h1 : inB 1 1000000 id with _ | _
  · obtain rfl : R = false := by rw [HR.out]; exact taskB_no (Or.inl h1)
    go_wp2_with fail
    go_ret
    exact ⟨rfl, Bl.out⟩
  have H1 := Lib.hid h1
  clear h1
  obtain ⟨c0, c1, c2, c3, c4⟩ := K.out.cell5
  go_wp2_with fail
  clear c0 c1 c2 c3 c4
  refine (inside1I 1 6 n _ _ _ (Bk.new w1 3 #[.int .i64 n])).mono ?_
  rintro e w2 ⟨rfl, bb⟩
  replace bb := after1 bb
  replace K := Lib.hid (K.out.below bb)
  replace RA := Lib.hid (RA.out.of_below bb)
  replace Bl := Lib.hid (Bl.out.trans (bb.mono Bl.out.size))
  clear bb
  rcases h2 : inB 1 6 (n : Int) with _ | _
  · obtain rfl : R = false := by rw [HR.out]; exact taskB_no (Or.inr (Or.inl (by rw [HLN.out]; exact h2)))
    go_wp2_with fail
    go_ret
    exact ⟨rfl, Bl.out⟩
  have H2 := Lib.hid h2
  clear h2
  obtain ⟨c0, c1, c2, c3, c4⟩ := K.out.cell5
  go_wp2_with fail
  clear c0 c1 c2 c3 c4
  have hl := inB_iff.1 H2.out
  refine (insideB 1 1000 A n p xs _ RA.out HN.out).mono ?_
  rintro e w3 ⟨rfl, bb⟩
  replace K := Lib.hid (K.out.below bb)
  replace RA := Lib.hid (RA.out.of_below bb)
  replace Bl := Lib.hid (Bl.out.trans (bb.mono Bl.out.size))
  clear bb
  rcases h3 : allIn 1 1000 xs with _ | _
  · obtain rfl : R = false := by rw [HR.out]; exact taskB_no (Or.inr (Or.inr (Or.inl h3)))
    go_wp2_with fail
    go_ret
    exact ⟨rfl, Bl.out⟩
  have H3 := Lib.hid h3
  clear h3
  obtain ⟨c0, c1, c2, c3, c4⟩ := K.out.cell5
  go_wp2_with fail
  clear c0 c1 c2 c3 c4
  refine (inside1I 0 ((n : Int) - 1) a _ _ _ (Bk.new w3 3 #[.int .i64 a])).mono ?_
  rintro e w4 ⟨rfl, bb⟩
  replace bb := after1 bb
  replace K := Lib.hid (K.out.below bb)
  replace RA := Lib.hid (RA.out.of_below bb)
  replace Bl := Lib.hid (Bl.out.trans (bb.mono Bl.out.size))
  clear bb
  rcases h4 : inB 0 ((n : Int) - 1) a with _ | _
  · obtain rfl : R = false := by rw [HR.out]; exact taskB_no (Or.inr (Or.inr (Or.inr (Or.inl (by rw [HLN.out]; exact h4)))))
    go_wp2_with fail
    go_ret
    exact ⟨rfl, Bl.out⟩
  have H4 := Lib.hid h4
  clear h4
  obtain ⟨c0, c1, c2, c3, c4⟩ := K.out.cell5
  go_wp2_with fail
  clear c0 c1 c2 c3 c4
  refine (inside2I 0 1000000 d b _ _ _ (Bk.new w4 3 #[.int .i64 d, .int .i64 b])).mono ?_
  rintro e w5 ⟨rfl, bb⟩
  replace bb := after1 bb
  replace Bl := Lib.hid (Bl.out.trans (bb.mono Bl.out.size))
  clear bb
  have hE : R = (inB 0 1000000 d && inB 0 1000000 b) := by
    rw [HR.out]
    unfold taskB
    rw [H1.out, HLN.out, H2.out, H3.out, H4.out]
    simp
  have HE := Lib.hid hE
  clear hE
  rw [← HE.out]
  go_wp2_with fail
  go_ret
  exact ⟨rfl, Bl.out⟩
end Qt
end Go.Proofs.Ytihnpfcjnfkfjaa
