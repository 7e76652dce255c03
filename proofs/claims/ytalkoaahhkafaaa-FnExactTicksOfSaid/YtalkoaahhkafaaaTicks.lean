/- What EndTick (of the program and of its model) gives when it is called: the ticks of all the steps together. Conditions: the slice of steps reads as the list that is named. -/
import Derived.Test.YtalkoaahhkafaaaStepEq
import Derived.Test.YtalkoaahhkafaaaStepToS
import Derived.Test.YtalkoaahhkafaaaTaskOk
namespace Go.Proofs.Ytalkoaahhkafaaa
open Go.RowKit Go.Sort
set_option linter.unusedSimpArgs false
set_option linter.unusedVariables false
namespace Qt
/-- The ticks of one step. -/
def tickV (k a : Int) : Int := if inB 4 5 k && inB 0 200 a then a else 0
def tickSum : List Stp → Int
  | [] => 0
  | s :: r => tickV s.k s.a + tickSum r
theorem tickV_bd (k a : Int) : 0 ≤ tickV k a ∧ tickV k a ≤ 200 := by
  unfold tickV
  split
  · rename_i h
    simp only [Bool.and_eq_true, inB_iff] at h
    omega
  · omega
theorem tickSum_bd (ss : List Stp) : 0 ≤ tickSum ss ∧ tickSum ss ≤ 200 * (ss.length : Int) := by
  induction ss with
  | nil => simp [tickSum]
  | cons s r ih =>
    have := tickV_bd s.k s.a
    simp only [tickSum, List.length_cons]
    omega
theorem tickSum_append (a b : List Stp) : tickSum (a ++ b) = tickSum a + tickSum b := by
  induction a with
  | nil => simp [tickSum]
  | cons s r ih => simp only [List.cons_append, tickSum, ih]; omega
theorem tickSum_take {ss : List Stp} {j : Nat} {s : Stp} (h : ss[j]? = some s) : tickSum (ss.take (j + 1)) = tickSum (ss.take j) + tickV s.k s.a := by
  rw [List.take_add_one, h, tickSum_append]
  simp [tickSum]
theorem takesS (k a b h w c : Int) (A : Option Addr) (n p : Nat) (B : Option Addr) (q r : Nat) (W : World) :
    Calls Try.prog 51 #[.agg #[.int .i64 k, .int .i64 a, .int .i64 b, .slice A n p, .int .i64 h, .int .i64 w, .int .i64 c, .slice B q r]] W fun e W' => e = .returned (.int .i64 (tickV k a)) ∧ Below W.heap.size W W' := by
  have k0 := Bk.new W 59 #[.int .i64 k, .int .i64 a, .int .i64 b, .slice A n p, .int .i64 h, .int .i64 w, .int .i64 c, .slice B q r]
  have b0 := (Below.refl _ W).alloc (Nat.le_refl _) (.cells #[.int .i64 k, .int .i64 a, .int .i64 b, .slice A n p, .int .i64 h, .int .i64 w, .int .i64 c, .slice B q r] 59)
  have K := Lib.hid k0
  have Bl := Lib.hid b0
  obtain ⟨R, hR⟩ : ∃ R, R = tickV k a := ⟨_, rfl⟩
  rw [← hR]
  have HR := Lib.hid hR
  clear k0 b0 hR
  go_enter Try.func51, Try.ntmps51
  go_wp2_with fail
  generalize W.alloc (.cells #[.int .i64 k, .int .i64 a, .int .i64 b, .slice A n p, .int .i64 h, .int .i64 w, .int .i64 c, .slice B q r] 59) = v at K Bl ⊢
  generalize W.heap.size = g at K ⊢
  refine (inS 4 5 k _).mono ?_
  rintro e w1 ⟨rfl, rfl⟩
  obtain ⟨c0, c1, c2, c3, c4, c5, c6, c7⟩ := K.out.cell8
  rcases h1 : inB 4 5 k with _ | _
  · obtain rfl : R = 0 := by rw [HR.out]; simp [tickV, h1]
    go_wp2_with fail
    go_ret
    exact ⟨rfl, Bl.out⟩
  go_wp2_with fail
  refine (inS 0 200 a _).mono ?_
  rintro e w2 ⟨rfl, rfl⟩
  rcases h2 : inB 0 200 a with _ | _
  · obtain rfl : R = 0 := by rw [HR.out]; simp [tickV, h2]
    go_wp2_with fail
    go_ret
    exact ⟨rfl, Bl.out⟩
  obtain rfl : R = a := by rw [HR.out]; simp [tickV, h1, h2]
  go_wp2_with fail
  go_ret
  exact ⟨rfl, Bl.out⟩
set_option maxRecDepth 10000 in
theorem endTickS (A : Option Addr) (n p : Nat) (ss : List Stp) (W : World) (hr : RdSt W A n ss) (hn : n + bigS ss ≤ 1048576) :
    Calls Try.prog 58 #[.slice A n p] W fun e W' => e = .returned (.int .i64 (tickSum ss)) ∧ Below W.heap.size W W' := by
  have HR := Lib.hid hr
  have HN := Lib.hid hn
  have hn1 : (n : Int) ≤ 1048576 := by omega
  clear hr hn
  go_enter Try.func58, Try.ntmps58
  go_wp2_with fail
  go_loopw [3, 4] (fun s i wr => ∃ k : Nat, k ≤ n ∧ i = .int .i64 k ∧ s = .int .i64 (tickSum (ss.take k)) ∧ Below W.heap.size W wr) (fun _ i _ => n - (intOf i).toNat)
  case atStart => exact ⟨0, Nat.zero_le _, rfl, rfl, Below.refl _ _⟩
  case round =>
    obtain ⟨k, hk, rfl, rfl, hb⟩ := hrel
    have HB := Lib.hid hb
    clear hb
    by_cases hlt : k < n
    · obtain ⟨b, off, k', a', b', h', w', c', A', n', p', B', q', r', bs, xs, rfl, hbs, hj, hat⟩ := (HR.out.of_below HB.out).at hlt
      obtain ⟨c0, c1, c2, c3, c4, c5, c6, c7⟩ := hat.cells8
      have hT := tickSum_take hj
      simp only at hT
      have hb1 := tickSum_bd (ss.take k)
      have hb2 := tickV_bd k' a'
      have hlen : (ss.take k).length = k := by rw [List.length_take, HR.out.1]; omega
      rw [hlen] at hb1
      have HT := Lib.hid hT
      clear hat hj hbs hlen hT
      generalize hsum : tickSum (ss.take k) = T at HT hb1 ⊢
      have hi : (k : Int) < (n : Int) := by omega
      go_wp2_with fail
      clear c0 c1 c2 c3 c4 c5 c6 c7
      refine (takesS k' a' b' h' w' c' A' n' p' B' q' r' _).mono ?_
      rintro e w2 ⟨rfl, bb⟩
      generalize hv : tickV k' a' = V at HT hb2 ⊢
      have HB2 := Lib.hid (HB.out.trans (bb.mono HB.out.size))
      clear bb HB
      go_wp2_with fail
      go_roundw
      case rel => exact ⟨k + 1, by omega, by go_num, by rw [HT.out], HB2.out⟩
      case measure => simp [intOf]; omega
    · obtain rfl : k = n := by omega
      have hall : ss.take k = ss := List.take_of_length_le (by rw [HR.out.1]; omega)
      rw [hall]
      go_wp2_with fail
      go_ret
      exact ⟨rfl, HB.out⟩
theorem ticksOfI (k a b h w c : Int) (A : Option Addr) (n p : Nat) (B : Option Addr) (q r : Nat) (W : World) :
    Calls Try.prog 52 #[.agg #[.int .i64 k, .int .i64 a, .int .i64 b, .slice A n p, .int .i64 h, .int .i64 w, .int .i64 c, .slice B q r]] W fun e W' => e = .returned (.int .i64 (tickV k a)) ∧ Below W.heap.size W W' := by
  have k0 := Bk.new W 59 #[.int .i64 k, .int .i64 a, .int .i64 b, .slice A n p, .int .i64 h, .int .i64 w, .int .i64 c, .slice B q r]
  have b0 := (Below.refl _ W).alloc (Nat.le_refl _) (.cells #[.int .i64 k, .int .i64 a, .int .i64 b, .slice A n p, .int .i64 h, .int .i64 w, .int .i64 c, .slice B q r] 59)
  have K := Lib.hid k0
  have Bl := Lib.hid b0
  obtain ⟨R, hR⟩ : ∃ R, R = tickV k a := ⟨_, rfl⟩
  rw [← hR]
  have HR := Lib.hid hR
  clear k0 b0 hR
  by_cases h45 : inB 4 5 k = true
  case neg =>
    have h45' : inB 4 5 k = false := by simpa using h45
    obtain rfl : R = 0 := by rw [HR.out]; simp [tickV, h45']
    have h4 : ¬ k = 4 := by have := inB_no h45'; omega
    have h5 : ¬ k = 5 := by have := inB_no h45'; omega
    clear h45 h45'
    go_enter Try.func52, Try.ntmps52
    go_wp2_with fail
    go_ret
    exact ⟨rfl, Bl.out⟩
  have h1 := inB_iff.1 h45
  have main : (k = 4 ∨ k = 5) := by omega
  rcases main with rfl | rfl
  · have H45 := Lib.hid h45
    clear h1 h45
    go_enter Try.func52, Try.ntmps52
    go_wp2_with fail
    have hv : (W.alloc (.cells #[.int .i64 4, .int .i64 a, .int .i64 b, .slice A n p, .int .i64 h, .int .i64 w, .int .i64 c, .slice B q r] 59)).heap.size = W.heap.size + 1 := by simp
    generalize W.alloc (.cells #[.int .i64 4, .int .i64 a, .int .i64 b, .slice A n p, .int .i64 h, .int .i64 w, .int .i64 c, .slice B q r] 59) = v at K Bl hv ⊢
    rw [← hv]
    generalize W.heap.size = g at K ⊢
    clear hv
    refine (inside1I 0 200 a _ _ _ (Bk.new v 3 #[.int .i64 a])).mono ?_
    rintro e w1 ⟨rfl, b1⟩
    replace K := Lib.hid ((K.out.alloc (.cells #[.int .i64 a] 3)).below b1)
    replace Bl := Lib.hid (Bl.out.trans ((after1 b1).mono Bl.out.size))
    clear b1
    obtain ⟨c0, c1, c2, c3, c4, c5, c6, c7⟩ := K.out.cell8
    rcases h2 : inB 0 200 a with _ | _
    · obtain rfl : R = 0 := by rw [HR.out]; simp [tickV, h2]
      go_wp2_with fail
      go_ret
      exact ⟨rfl, Bl.out⟩
    · obtain rfl : R = a := by rw [HR.out]; simp [tickV, H45.out, h2]
      go_wp2_with fail
      go_ret
      exact ⟨rfl, Bl.out⟩
  · have H45 := Lib.hid h45
    clear h1 h45
    go_enter Try.func52, Try.ntmps52
    go_wp2_with fail
    have hv : (W.alloc (.cells #[.int .i64 5, .int .i64 a, .int .i64 b, .slice A n p, .int .i64 h, .int .i64 w, .int .i64 c, .slice B q r] 59)).heap.size = W.heap.size + 1 := by simp
    generalize W.alloc (.cells #[.int .i64 5, .int .i64 a, .int .i64 b, .slice A n p, .int .i64 h, .int .i64 w, .int .i64 c, .slice B q r] 59) = v at K Bl hv ⊢
    rw [← hv]
    generalize W.heap.size = g at K ⊢
    clear hv
    refine (inside1I 0 200 a _ _ _ (Bk.new v 3 #[.int .i64 a])).mono ?_
    rintro e w1 ⟨rfl, b1⟩
    replace K := Lib.hid ((K.out.alloc (.cells #[.int .i64 a] 3)).below b1)
    replace Bl := Lib.hid (Bl.out.trans ((after1 b1).mono Bl.out.size))
    clear b1
    obtain ⟨c0, c1, c2, c3, c4, c5, c6, c7⟩ := K.out.cell8
    rcases h2 : inB 0 200 a with _ | _
    · obtain rfl : R = 0 := by rw [HR.out]; simp [tickV, h2]
      go_wp2_with fail
      go_ret
      exact ⟨rfl, Bl.out⟩
    · obtain rfl : R = a := by rw [HR.out]; simp [tickV, H45.out, h2]
      go_wp2_with fail
      go_ret
      exact ⟨rfl, Bl.out⟩
end Qt
end Go.Proofs.Ytalkoaahhkafaaa
