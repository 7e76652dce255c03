/- What DonesOf (of the program and of its model) gives when it is called: the numbers of what was done. Conditions: the slice reads as the list that is named. -/
import Derived.Test.YtalkoaahhkafaaaEvtMark
import Derived.Test.YtalkoaahhkafaaaAns
namespace Go.Proofs.Ytalkoaahhkafaaa
open Go.RowKit Go.Sort
set_option linter.unusedSimpArgs false
set_option linter.unusedVariables false
namespace Qt
def donesL : List Evt → List Int
  | [] => []
  | s :: r => (if s.k = 3 then [s.a] else []) ++ donesL r
theorem donesL_append (a b : List Evt) : donesL (a ++ b) = donesL a ++ donesL b := by
  induction a with
  | nil => rfl
  | cons s r ih => simp only [List.cons_append, donesL, ih, List.append_assoc]
theorem donesL_take {ss : List Evt} {j : Nat} {s : Evt} (h : ss[j]? = some s) : donesL (ss.take (j + 1)) = donesL (ss.take j) ++ (if s.k = 3 then [s.a] else []) := by
  rw [List.take_add_one, h, donesL_append]
  simp [donesL]
theorem donesL_len (ss : List Evt) : (donesL ss).length ≤ ss.length := by
  induction ss with
  | nil => simp [donesL]
  | cons s r ih =>
    rw [donesL, List.length_append, List.length_cons]
    split
    · simp only [List.length_cons, List.length_nil]; omega
    · simp only [List.length_nil]; omega
set_option maxRecDepth 10000 in
set_option maxHeartbeats 1000000 in
theorem donesS (A : Option Addr) (n p : Nat) (ss : List Evt) (W : World) (hr : RdEvt W A n ss) (hn : n + bigEvt ss ≤ 1048576) :
    Calls Try.prog 26 #[.slice A n p] W (AnsI W (donesL ss).length (donesL ss)) := by
  obtain ⟨i0, hi, hz0, hz1, hz2⟩ := info_parts info3
  have HR := Lib.hid hr
  have HL := Lib.hid hr.1
  have hn1 : (n : Int) ≤ 1048576 := by omega
  clear hr hn
  go_enter Try.func26, Try.ntmps26
  go_wp2_with fail
  go_loopw [3, 4] (fun v i wr => ∃ k : Nat, k ≤ n ∧ i = .int .i64 k ∧ wr.ownsRow W.heap.size 3 1 v (donesL (ss.take k)).length ((donesL (ss.take k)).map (Value.int .i64)) ∧ Below W.heap.size W wr) (fun _ i _ => n - (intOf i).toNat)
  case atStart => exact ⟨0, Nat.zero_le _, rfl, World.ownsRow_lit W #[] 0 (Nat.le_refl _) (by decide) rfl, (Below.refl _ _).alloc (Nat.le_refl _) _⟩
  case round =>
    obtain ⟨k, hk, rfl, hown, hb⟩ := hrel
    have HB := Lib.hid hb
    have HO := Lib.hid hown
    clear hb hown
    by_cases hlt : k < n
    · obtain ⟨b, off, k1, a1, b1, h1, w1, c1, A', n', p', xs, rfl, hbs, hj, hat⟩ := (HR.out.of_below HB.out).at hlt
      obtain ⟨e0, e1, e2, e3, e4, e5, e6⟩ := hat.cells
      have hT := donesL_take hj
      have hle := donesL_len (ss.take k)
      have hlk : (ss.take k).length ≤ k := List.length_take_le _ _
      have HT := Lib.hid hT
      clear hat hj hT
      generalize hY : donesL (ss.take k) = ys at HT HO hle
      clear hY
      have hi' : (k : Int) < (n : Int) := by omega
      by_cases h3 : k1 = 3
      case neg =>
        have HX : Hid (donesL (ss.take (k + 1)) = ys) := Lib.hid (by rw [HT.out, if_neg h3, List.append_nil])
        go_wp2_with fail
        go_roundw
        case rel => exact ⟨k + 1, by omega, by go_num, by rw [HX.out]; exact HO.out, HB.out⟩
        case measure => simp [intOf]; omega
      subst h3
      have HX : Hid (donesL (ss.take (k + 1)) = ys ++ [a1]) := Lib.hid (by rw [HT.out, if_pos rfl])
      go_wp2_with (at_builtin; go_loud (refine wpList_append_own _ rfl _ _ 31 rfl W.heap.size 3 i0 (.int .i64 0) 1 8 Try.underlying31 hi hz0 hz1 hz2 rfl (by decide) _ _ _ rfl (HO.out.alloc _) ⟨wr.heap.size, 0, none⟩ 1 1 [.int .i64 a1] rfl rfl ?p1 ?p2 ?p3 ?p4 ?p5 ?_))
      case p2 => rfl
      case p3 => unfold maxLen; omega
      case p4 => omega
      case p5 => have := HB.out.size; (try simp only [World.size_alloc] at this ⊢); omega
      · intro v' w2 hown' hgrow _
        have hold := HO.out
        have hB1 : Below W.heap.size W w2 := (HB.out.alloc HB.out.size _).grown hgrow (by have := HB.out.size; (try simp only [World.size_alloc] at this ⊢); omega) (fun r hr => (hold.lt r hr).1)
        have hts : ys.map (Value.int .i64) ++ [.int .i64 a1] = (ys ++ [a1]).map (Value.int .i64) := by simp
        rw [hts] at hown'
        have HO1 := Lib.hid hown'
        have HB1 := Lib.hid hB1
        clear hown' hgrow hB1 hold hts
        go_wp2_with fail
        go_roundw
        case rel => exact ⟨k + 1, by omega, by go_num, by rw [HX.out, List.length_append]; exact HO1.out, HB1.out⟩
        case measure => simp [intOf]; omega
    · obtain rfl : k = n := by omega
      have hO := HO.out
      rw [show ss.take k = ss from List.take_of_length_le (by have := HL.out; omega)] at hO
      have HC := Lib.hid (AnsI.of_own hO HB.out)
      clear hO HO
      go_wp2_with fail
      go_ret
      exact HC.out
set_option maxRecDepth 10000 in
set_option maxHeartbeats 1000000 in
theorem donesI (A : Option Addr) (n p : Nat) (ss : List Evt) (W : World) (hr : RdEvt W A n ss) (hn : n + bigEvt ss ≤ 1048576) :
    Calls Try.prog 27 #[.slice A n p] W (AnsI W (donesL ss).length (donesL ss)) := by
  obtain ⟨i0, hi, hz0, hz1, hz2⟩ := info_parts info3
  have HR := Lib.hid hr
  have HL := Lib.hid hr.1
  have hn1 : (n : Int) ≤ 1048576 := by omega
  clear hr hn
  go_enter Try.func27, Try.ntmps27
  go_wp2_with fail
  go_loopw [3, 8] (fun v i wr => ∃ k : Nat, k ≤ n ∧ i = .int .i64 k ∧ wr.ownsRow W.heap.size 3 1 v (donesL (ss.take k)).length ((donesL (ss.take k)).map (Value.int .i64)) ∧ Below W.heap.size W wr) (fun _ i _ => n - (intOf i).toNat)
  case atStart => exact ⟨0, Nat.zero_le _, rfl, World.ownsRow_nil _ _ _ _, Below.refl _ _⟩
  case round =>
    obtain ⟨k, hk, rfl, hown, hb⟩ := hrel
    have HB := Lib.hid hb
    have HO := Lib.hid hown
    clear hb hown
    by_cases hlt : k < n
    · obtain ⟨b, off, k1, a1, b1, h1, w1, c1, A', n', p', xs, rfl, hbs, hj, hat⟩ := (HR.out.of_below HB.out).at hlt
      obtain ⟨e0, e1, e2, e3, e4, e5, e6⟩ := hat.cells
      have hT := donesL_take hj
      have hle := donesL_len (ss.take k)
      have hlk : (ss.take k).length ≤ k := List.length_take_le _ _
      have HT := Lib.hid hT
      clear hat hj hT
      generalize hY : donesL (ss.take k) = ys at HT HO hle
      clear hY
      have hi' : (k : Int) < (n : Int) := by omega
      replace HO := Lib.hid (ownsRow_below HO.out ((Below.refl _ wr).alloc (Nat.le_refl _) (.cells #[.int .i64 k1, .int .i64 a1, .int .i64 b1, .int .i64 h1, .int .i64 w1, .int .i64 c1, .slice A' n' p'] 79)))
      replace HB := Lib.hid (HB.out.alloc HB.out.size (.cells #[.int .i64 k1, .int .i64 a1, .int .i64 b1, .int .i64 h1, .int .i64 w1, .int .i64 c1, .slice A' n' p'] 79))
      by_cases h3 : k1 = 3
      case neg =>
        have HX : Hid (donesL (ss.take (k + 1)) = ys) := Lib.hid (by rw [HT.out, if_neg h3, List.append_nil])
        go_wp2_with fail
        go_roundw
        case rel => exact ⟨k + 1, by omega, by go_num, by rw [HX.out]; exact HO.out, HB.out⟩
        case measure => simp [intOf]; omega
      subst h3
      have HX : Hid (donesL (ss.take (k + 1)) = ys ++ [a1]) := Lib.hid (by rw [HT.out, if_pos rfl])
      go_wp2_with (at_builtin; go_loud (refine wpList_append_own _ rfl _ _ 31 rfl W.heap.size 3 i0 (.int .i64 0) 1 8 Try.underlying31 hi hz0 hz1 hz2 rfl (by decide) _ _ _ rfl (HO.out.alloc _) ⟨wr.heap.size + 1, 0, none⟩ 1 1 [.int .i64 a1] rfl rfl ?p1 ?p2 ?p3 ?p4 ?p5 ?_))
      case p2 => rfl
      case p3 => unfold maxLen; omega
      case p4 => omega
      case p5 => have := HB.out.size; (try simp only [World.size_alloc] at this ⊢); omega
      · intro v' w2 hown' hgrow _
        have hold := HO.out
        have hB1 : Below W.heap.size W w2 := (HB.out.alloc HB.out.size _).grown hgrow (by have := HB.out.size; (try simp only [World.size_alloc] at this ⊢); omega) (fun r hr => (hold.lt r hr).1)
        have hts : ys.map (Value.int .i64) ++ [.int .i64 a1] = (ys ++ [a1]).map (Value.int .i64) := by simp
        rw [hts] at hown'
        have HO1 := Lib.hid hown'
        have HB1 := Lib.hid hB1
        clear hown' hgrow hB1 hold hts
        go_wp2_with fail
        go_roundw
        case rel => exact ⟨k + 1, by omega, by go_num, by rw [HX.out, List.length_append]; exact HO1.out, HB1.out⟩
        case measure => simp [intOf]; omega
    · obtain rfl : k = n := by omega
      have hO := HO.out
      rw [show ss.take k = ss from List.take_of_length_le (by have := HL.out; omega)] at hO
      have HC := Lib.hid (AnsI.of_own hO HB.out)
      clear hO HO
      go_wp2_with fail
      go_ret
      exact HC.out
end Qt
end Go.Proofs.Ytalkoaahhkafaaa
