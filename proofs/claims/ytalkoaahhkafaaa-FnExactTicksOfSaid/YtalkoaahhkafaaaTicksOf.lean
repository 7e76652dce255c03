/- What TicksOf (of the program and of its model) gives when it is called: the ticks at each step's end. Conditions: the slice reads as the list of steps that is named. -/
import Derived.Test.YtalkoaahhkafaaaStepMark
import Derived.Test.YtalkoaahhkafaaaTicks
import Derived.Test.YtalkoaahhkafaaaAns
namespace Go.Proofs.Ytalkoaahhkafaaa
open Go.RowKit Go.Sort
set_option linter.unusedSimpArgs false
set_option linter.unusedVariables false
namespace Qt
theorem RdSt.take {w : World} {A : Option Addr} {n : Nat} {ss : List Stp} (h : RdSt w A n ss) {m : Nat} (hm : m ≤ n) : RdSt w A m (ss.take m) := by
  refine ⟨by rw [List.length_take, h.1]; omega, fun h0 => ?_⟩
  obtain ⟨b, off, e, hlt, hc⟩ := h.2 (by omega)
  refine ⟨b, off, e, hlt, fun j s hj => hc j s ?_⟩
  rw [List.getElem?_take] at hj
  split at hj
  · exact hj
  · cases hj
def ticksL (ss : List Stp) (k : Nat) : List Int := (List.range k).map (fun i => tickSum (ss.take (i + 1)))
theorem ticksL_len (ss : List Stp) (k : Nat) : (ticksL ss k).length = k := by simp [ticksL]
theorem ticksL_next (ss : List Stp) (k : Nat) : ticksL ss (k + 1) = ticksL ss k ++ [tickSum (ss.take (k + 1))] := by
  unfold ticksL
  rw [List.range_succ, List.map_append]
  rfl
theorem ticksL_all {ss : List Stp} {k : Nat} (h : ss.length = k) : ticksL ss k = ticksL ss ss.length := by rw [h]
set_option maxRecDepth 10000 in
set_option maxHeartbeats 1000000 in
theorem ticksOfS (A : Option Addr) (n : Nat) (ss : List Stp) (W : World) (hr : RdSt W A n ss) (hn : n + bigS ss ≤ 1048576) :
    Calls Try.prog 28 #[.slice A n n] W (AnsI W (ticksL ss ss.length).length (ticksL ss ss.length)) := by
  obtain ⟨i0, hi, hz0, hz1, hz2⟩ := info_parts info3
  have HR := Lib.hid hr
  have HL := Lib.hid hr.1
  have HN := Lib.hid hn
  have hn1 : (n : Int) ≤ 1048576 := by omega
  clear hr hn
  go_enter Try.func28, Try.ntmps28
  go_wp2_with fail
  go_loopw [3, 4] (fun v i wr => ∃ k : Nat, k ≤ n ∧ i = .int .i64 k ∧ wr.ownsRow W.heap.size 3 1 v k ((ticksL ss k).map (Value.int .i64)) ∧ Below W.heap.size W wr) (fun _ i _ => n - (intOf i).toNat)
  case atStart => exact ⟨0, Nat.zero_le _, rfl, World.ownsRow_lit W #[] 0 (Nat.le_refl _) (by decide) rfl, (Below.refl _ _).alloc (Nat.le_refl _) _⟩
  case round =>
    obtain ⟨k, hk, rfl, hown, hb⟩ := hrel
    have HB := Lib.hid hb
    have HO := Lib.hid hown
    clear hb hown
    by_cases hlt : k < n
    · obtain ⟨b, off, hA, hbs⟩ : ∃ b off, A = some ⟨b, off, none⟩ ∧ b < W.heap.size := by
        obtain ⟨b, off, e, hlt, _⟩ := HR.out.2 (by omega)
        exact ⟨b, off, e, hlt⟩
      subst hA
      have HX := Lib.hid (ticksL_next ss k)
      have HE := Lib.hid (fun w h => endTickS (some ⟨b, off, none⟩) (k + 1) n (ss.take (k + 1)) w h (by have h1 := bigS_take_le ss (k + 1); have := HN.out; omega))
      have hkl : (ticksL ss k).length = k := ticksL_len ss k
      generalize hyy : tickSum (ss.take (k + 1)) = y at HX HE
      generalize hY : ticksL ss k = ys at HX HO hkl
      have HKL := Lib.hid hkl
      clear hY hyy hkl
      have hi' : (k : Int) < (n : Int) := by omega
      have hk1 : (k : Int) + 1 ≤ (n : Int) := by omega
      go_wp2_with fail
      have HTK := Lib.hid (HR.out.take (m := k + 1) (by omega))
      refine (HE.out _ (HTK.out.of_below HB.out)).mono ?_
      rintro e w2 ⟨rfl, bb⟩
      replace HO := Lib.hid (ownsRow_below HO.out bb)
      replace HB := Lib.hid (HB.out.trans (bb.mono HB.out.size))
      clear bb HE HTK
      go_wp2_with (at_builtin; go_loud (refine wpList_append_own _ rfl _ _ 31 rfl W.heap.size 3 i0 (.int .i64 0) 1 8 Try.underlying31 hi hz0 hz1 hz2 rfl (by decide) _ _ _ rfl (HO.out.alloc _) ⟨w2.heap.size, 0, none⟩ 1 1 [.int .i64 y] rfl rfl ?p1 ?p2 ?p3 ?p4 ?p5 ?_))
      case p1 =>
        intro j v hj
        match j, hj with
        | 0, hj => simp at hj; subst hj; simp [Addr.add]
      case p2 => intro v hv; simp at hv; subst hv; rfl
      case p3 => unfold maxLen; omega
      case p4 => omega
      case p5 => have := HB.out.size; (try simp only [World.size_alloc] at this ⊢); omega
      · intro v' w3 hown' hgrow _
        have hold := HO.out
        have hB1 : Below W.heap.size W w3 := (HB.out.alloc HB.out.size _).grown hgrow (by have := HB.out.size; (try simp only [World.size_alloc] at this ⊢); omega) (fun r hr => (hold.lt r hr).1)
        have hts : ys.map (Value.int .i64) ++ [.int .i64 y] = (ys ++ [y]).map (Value.int .i64) := by simp
        rw [hts] at hown'
        have HO1 := Lib.hid hown'
        have HB1 := Lib.hid hB1
        clear hown' hgrow hB1 hold hts
        go_wp2_with fail
        go_roundw
        case rel => exact ⟨k + 1, by omega, by go_num, by rw [HX.out]; exact HO1.out, HB1.out⟩
        case measure => simp [intOf]; omega
    · obtain rfl : k = n := by omega
      have hO := HO.out
      rw [ticksL_all HL.out] at hO
      have hz := AnsI.of_own (xs := ticksL ss ss.length) (by rw [HL.out]; rw [HL.out] at hO; exact hO) HB.out
      have HC := Lib.hid hz
      clear hO HO hz
      go_wp2_with fail
      go_ret
      exact HC.out
set_option maxRecDepth 10000 in
set_option maxHeartbeats 1000000 in
theorem ticksOfAI (A : Option Addr) (n p : Nat) (ss : List Stp) (W : World) (hr : RdSt W A n ss) (hn : n + bigS ss ≤ 1048576) :
    Calls Try.prog 29 #[.slice A n p] W (AnsI W (ticksL ss ss.length).length (ticksL ss ss.length)) := by
  obtain ⟨i0, hi, hz0, hz1, hz2⟩ := info_parts info3
  have HR := Lib.hid hr
  have HL := Lib.hid hr.1
  have HN := Lib.hid hn
  have hn1 : (n : Int) ≤ 1048576 := by omega
  clear hr hn
  go_enter Try.func29, Try.ntmps29
  go_wp2_with fail
  go_loopw [3, 4, 9] (fun v q i wr => ∃ k : Nat, k ≤ n ∧ i = .int .i64 k ∧ q = .int .i64 (tickSum (ss.take k)) ∧ wr.ownsRow W.heap.size 3 1 v k ((ticksL ss k).map (Value.int .i64)) ∧ Below W.heap.size W wr) (fun _ _ i _ => n - (intOf i).toNat)
  case atStart => exact ⟨0, Nat.zero_le _, rfl, rfl, World.ownsRow_nil _ _ _ _, Below.refl _ _⟩
  case round =>
    obtain ⟨k, hk, rfl, rfl, hown, hb⟩ := hrel
    have HB := Lib.hid hb
    have HO := Lib.hid hown
    clear hb hown
    by_cases hlt : k < n
    · obtain ⟨b, off, k', a', b', h', w', c', A', n', p', B', q', r', bs, xs, rfl, hbs, hj, hat⟩ := (HR.out.of_below HB.out).at hlt
      obtain ⟨c0, c1, c2, c3, c4, c5, c6, c7⟩ := hat.cells8
      have hT := tickSum_take hj
      simp only at hT
      have hb1 := tickSum_bd (ss.take k)
      have hb2 := tickV_bd k' a'
      have hlen : (ss.take k).length = k := by rw [List.length_take, HR.out.1]; omega
      rw [hlen] at hb1
      have hX := ticksL_next ss k
      rw [hT] at hX
      have HX := Lib.hid hX
      have HT := Lib.hid hT
      have hkl : (ticksL ss k).length = k := ticksL_len ss k
      have HTV := Lib.hid (fun W => ticksOfI k' a' b' h' w' c' A' n' p' B' q' r' W)
      clear hat hj hbs hlen hT hX
      generalize hY : ticksL ss k = ys at HX HO hkl
      generalize hsum : tickSum (ss.take k) = T at HX HT hb1 ⊢
      generalize tickV k' a' = V at HX HT HTV hb2
      have HKL := Lib.hid hkl
      clear hY hsum hkl
      have hi' : (k : Int) < (n : Int) := by omega
      go_wp2_with fail
      clear c0 c1 c2 c3 c4 c5 c6 c7
      refine (HTV.out _).mono ?_
      rintro e w2 ⟨rfl, bb⟩
      have ba := (Below.refl _ wr).alloc (Nat.le_refl _) (.cells #[.int .i64 k', .int .i64 a', .int .i64 b', .slice A' n' p', .int .i64 h', .int .i64 w', .int .i64 c', .slice B' q' r'] 59)
      replace HO := Lib.hid (ownsRow_below (ownsRow_below HO.out ba) bb)
      replace HB := Lib.hid ((HB.out.trans (ba.mono HB.out.size)).trans (bb.mono (Nat.le_trans HB.out.size ba.size)))
      clear bb ba HTV
      obtain ⟨y, hy⟩ : ∃ y, T + V = y := ⟨_, rfl⟩
      rw [hy] at HX HT
      have hy1 : -4000000000 ≤ y ∧ y ≤ 4000000000 := by omega
      have HTT := Lib.hid hy
      clear hy1
      go_wp2_with (at_builtin; go_loud (refine wpList_append_own _ rfl _ _ 31 rfl W.heap.size 3 i0 (.int .i64 0) 1 8 Try.underlying31 hi hz0 hz1 hz2 rfl (by decide) _ _ _ rfl (HO.out.alloc _) ⟨w2.heap.size, 0, none⟩ 1 1 [.int .i64 y] rfl rfl ?p1 ?p2 ?p3 ?p4 ?p5 ?_))
      case p1 =>
        intro j v hj
        match j, hj with
        | 0, hj => simp at hj; subst hj; simp [Addr.add]
      case p2 => intro v hv; simp at hv; subst hv; rfl
      case p3 => unfold maxLen; omega
      case p4 => omega
      case p5 => have := HB.out.size; (try simp only [World.size_alloc] at this ⊢); omega
      · intro v' w3 hown' hgrow _
        have hold := HO.out
        have hB1 : Below W.heap.size W w3 := (HB.out.alloc HB.out.size _).grown hgrow (by have := HB.out.size; (try simp only [World.size_alloc] at this ⊢); omega) (fun r hr => (hold.lt r hr).1)
        have hts : ys.map (Value.int .i64) ++ [.int .i64 y] = (ys ++ [y]).map (Value.int .i64) := by simp
        rw [hts] at hown'
        have HO1 := Lib.hid hown'
        have HB1 := Lib.hid hB1
        clear hown' hgrow hB1 hold hts
        go_wp2_with fail
        go_roundw
        case rel => exact ⟨k + 1, by omega, by go_num, by rw [HT.out], by rw [HX.out]; exact HO1.out, HB1.out⟩
        case measure => simp [intOf]; omega
    · obtain rfl : k = n := by omega
      have hO := HO.out
      rw [ticksL_all HL.out] at hO
      have hz := AnsI.of_own (xs := ticksL ss ss.length) (by rw [HL.out]; rw [HL.out] at hO; exact hO) HB.out
      have HC := Lib.hid hz
      clear hO HO hz
      go_wp2_with fail
      go_ret
      exact HC.out
end Qt
end Go.Proofs.Ytalkoaahhkafaaa
