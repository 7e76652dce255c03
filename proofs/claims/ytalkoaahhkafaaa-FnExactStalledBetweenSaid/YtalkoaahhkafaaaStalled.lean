/- What StalledBetween (of the program and of its model) gives when it is called: how many stalled ticks lie between the two. Conditions: the slice of steps reads as the list that is named; the two are ints. -/
import Derived.Test.YtalkoaahhkafaaaStalMath
import Derived.Test.YtalkoaahhkafaaaCal
namespace Go.Proofs.Ytalkoaahhkafaaa
open Go.RowKit Go.Sort
set_option linter.unusedSimpArgs false
set_option linter.unusedVariables false
namespace Qt
theorem run_minK {P : Program} (ts : Array TypeId) (t : TypeId) (x y : Int) (w : World) : (Builtin.min_ ts t #[.int .i64 x, .int .i64 y]).run P w = .ok (.int .i64 (min x y)) w := by
  have h : min x y = if y < x then y else x := by repeat' split <;> omega
  rw [h]
  simp [Builtin.min_, Builtin.min2]
/-- So much of a step of kind k has been counted behind t of its ticks. -/
def stP (k now t f g : Int) : Int := if k = 5 then cntV now t f g else 0
theorem stP_zero (k now f g : Int) : stP k now 0 f g = 0 := by
  unfold stP
  rw [cntV_zero]
  split <;> rfl
theorem stP_bd (k now t f g : Int) (h : 0 ≤ t) : 0 ≤ stP k now t f g ∧ stP k now t f g ≤ t := by
  have := cntV_bd now t f g h
  unfold stP
  split <;> omega
theorem stP_not {k now t f g : Int} (h : ¬ k = 5) : stP k now (t + 1) f g = stP k now t f g := by
  unfold stP
  rw [if_neg h, if_neg h]
theorem stP_lo {now t f g : Int} (h0 : 0 ≤ now) (hk : 0 ≤ t) (h1 : ¬ f < now + t + 1) : stP 5 now (t + 1) f g = stP 5 now t f g := by
  unfold stP
  rw [if_pos rfl, if_pos rfl, cntV_lo h0 hk h1]
theorem stP_hi {now t f g : Int} (h0 : 0 ≤ now) (hk : 0 ≤ t) (h1 : ¬ now + t + 1 ≤ g) : stP 5 now (t + 1) f g = stP 5 now t f g := by
  unfold stP
  rw [if_pos rfl, if_pos rfl, cntV_hi h0 hk h1]
theorem stP_yes {now t f g : Int} (h0 : 0 ≤ now) (hk : 0 ≤ t) (h1 : f < now + t + 1) (h2 : now + t + 1 ≤ g) : stP 5 now (t + 1) f g = stP 5 now t f g + 1 := by
  unfold stP
  rw [if_pos rfl, if_pos rfl, cntV_yes h0 hk h1 h2]
theorem stP_full (now f g : Int) (s : Stp) : stP s.k now (tickV s.k s.a) f g = stV now f g s := rfl
set_option maxRecDepth 10000 in
set_option maxHeartbeats 1000000 in
theorem stalS (A : Option Addr) (n p : Nat) (ss : List Stp) (f g : Int) (W : World) (hr : RdSt W A n ss) (hn : n + bigS ss ≤ 1048576) :
    Calls Try.prog 13 #[.slice A n p, .int .i64 f, .int .i64 g] W fun e W' => e = .returned (.int .i64 (stSum f g ss n)) ∧ Below W.heap.size W W' := by
  have HR := Lib.hid hr
  have HN := Lib.hid hn
  have hn1 : (n : Int) ≤ 1048576 := by omega
  clear hr hn
  go_enter Try.func13, Try.ntmps13
  go_wp2_with fail
  go_loopw [7, 8, 9] (fun q m i wr => ∃ j : Nat, j ≤ n ∧ i = .int .i64 j ∧ q = .int .i64 (stSum f g ss j) ∧ m = .int .i64 (tickSum (ss.take j)) ∧ Below W.heap.size W wr) (fun _ _ i _ => n - (intOf i).toNat)
  case atStart => exact ⟨0, Nat.zero_le _, rfl, rfl, rfl, Below.refl _ _⟩
  case round =>
    obtain ⟨j, hk, rfl, rfl, rfl, hb⟩ := hrel
    have HB := Lib.hid hb
    clear hb
    by_cases hlt : j < n
    · obtain ⟨b, off, k', a', b', h', w', c', A', n', p', B', q', r', bs, xs, rfl, hbs, hj, hat⟩ := (HR.out.of_below HB.out).at hlt
      have hT := tickSum_take hj
      have hS := stSum_next (f := f) (g := g) hj
      rw [← stP_full] at hS
      simp only at hT hS
      have hb1 := tickSum_bd (ss.take j)
      have hb2 := tickV_bd k' a'
      have hb3 := stSum_bd f g ss j
      have hlen : (ss.take j).length = j := by rw [List.length_take, HR.out.1]; omega
      rw [hlen] at hb1
      have HT := Lib.hid hT
      have HS := Lib.hid hS
      have HAT := Lib.hid hat
      have HBS := Lib.hid hbs
      clear hat hj hbs hlen hT hS
      generalize hsum : tickSum (ss.take j) = N at HT HS hb1 ⊢
      generalize hst : stSum f g ss j = Q at HS hb3 ⊢
      clear hsum hst
      have hi : (j : Int) < (n : Int) := by omega
      have HTV := Lib.hid (fun W => takesS k' a' b' h' w' c' A' n' p' B' q' r' W)
      generalize tickV k' a' = T at HT HS HTV hb2
      go_wp2_with fail
      go_loopw [7, 8, 10] (fun q m i wr2 => ∃ t : Nat, (t : Int) ≤ T ∧ i = .int .i64 t ∧ q = .int .i64 (Q + stP k' N t f g) ∧ m = .int .i64 (N + t) ∧ Below wr.heap.size wr wr2) (fun _ _ i _ => T.toNat - (intOf i).toNat)
      case atStart => exact ⟨0, by omega, rfl, by rw [show ((0 : Nat) : Int) = 0 from rfl, stP_zero, Int.add_zero], by go_num, Below.refl _ _⟩
      case round =>
        rename_i wr2 _ _ _
        obtain ⟨t, ht, rfl, rfl, rfl, hb⟩ := hrel
        have hat2 := HAT.out.of_below HBS.out hb
        obtain ⟨c0, c1, c2, c3, c4, c5, c6, c7⟩ := hat2.cells8
        have HB2 := Lib.hid hb
        clear hb hat2
        have hb4 := stP_bd k' N t f g (by omega)
        have h0t : (0 : Int) ≤ t := Int.natCast_nonneg t
        generalize hP : stP k' N t f g = P at hb4 ⊢
        have HP := Lib.hid hP
        clear hP
        go_wp2_with fail
        refine (HTV.out _).mono ?_
        rintro e w2 ⟨rfl, bb⟩
        have HB3 := Lib.hid (HB2.out.trans (bb.mono HB2.out.size))
        have d0 := (bb.cell (p := ⟨b, off + j * 8, none⟩) (Nat.lt_of_lt_of_le HBS.out HB2.out.size)).trans c0
        clear c0 c1 c2 c3 c4 c5 c6 c7 bb HB2
        by_cases hlt2 : (t : Int) < T
        · by_cases h5 : k' = 5
          case neg =>
            have HX := Lib.hid ((stP_not (t := (t : Int)) h5).trans HP.out)
            go_wp2_with fail
            go_roundw
            case rel => exact ⟨t + 1, by omega, by go_num, by rw [show ((t + 1 : Nat) : Int) = (t : Int) + 1 from by omega, HX.out], by go_num, HB3.out⟩
            case measure => simp [intOf]; omega
          subst h5
          by_cases hf : f < N + (t : Int) + 1
          case neg =>
            have HX := Lib.hid ((stP_lo hb1.1 h0t hf).trans HP.out)
            go_wp2_with fail
            go_roundw
            case rel => exact ⟨t + 1, by omega, by go_num, by rw [show ((t + 1 : Nat) : Int) = (t : Int) + 1 from by omega, HX.out], by go_num, HB3.out⟩
            case measure => simp [intOf]; omega
          by_cases hg : N + (t : Int) + 1 ≤ g
          case neg =>
            have HX := Lib.hid ((stP_hi (f := f) hb1.1 h0t hg).trans HP.out)
            go_wp2_with fail
            go_roundw
            case rel => exact ⟨t + 1, by omega, by go_num, by rw [show ((t + 1 : Nat) : Int) = (t : Int) + 1 from by omega, HX.out], by go_num, HB3.out⟩
            case measure => simp [intOf]; omega
          have HX := Lib.hid ((stP_yes hb1.1 h0t hf hg).trans (congrArg (· + 1) HP.out))
          go_wp2_with fail
          go_roundw
          case rel => exact ⟨t + 1, by omega, by go_num, by rw [show ((t + 1 : Nat) : Int) = (t : Int) + 1 from by omega, HX.out]; go_num, by go_num, HB3.out⟩
          case measure => simp [intOf]; omega
        · obtain rfl : T = t := by omega
          have HB4 := Lib.hid (HB.out.trans (HB3.out.mono HB.out.size))
          go_wp2_with fail
          go_roundw
          case rel => exact ⟨j + 1, by omega, by go_num, by rw [HS.out, HP.out], by rw [HT.out], HB4.out⟩
          case measure => simp [intOf]; omega
    · obtain rfl : j = n := by omega
      go_wp2_with fail
      go_ret
      exact ⟨rfl, HB.out⟩
set_option maxRecDepth 10000 in
set_option maxHeartbeats 1000000 in
theorem stalI (A : Option Addr) (n p : Nat) (ss : List Stp) (f g : Int) (W : World) (hr : RdSt W A n ss) (hn : n + bigS ss ≤ 1048576) (hf : -9223372036854775808 ≤ f ∧ f ≤ 9223372036854775807) :
    Calls Try.prog 15 #[.slice A n p, .int .i64 f, .int .i64 g] W fun e W' => e = .returned (.int .i64 (stSum f g ss n)) ∧ Below W.heap.size W W' := by
  have HR := Lib.hid hr
  have HN := Lib.hid hn
  have HF := Lib.hid hf
  have hn1 : (n : Int) ≤ 1048576 := by omega
  obtain ⟨G, hG⟩ : ∃ G, max g 0 = G := ⟨_, rfl⟩
  have hmx : ∀ ts ty w0, (Builtin.max_ ts ty #[.int .i64 g, .int .i64 0]).run Try.prog w0 = .ok (.int .i64 G) w0 := fun ts ty w0 => by rw [run_max2, hG]
  have HG := Lib.hid hG
  clear hr hn hf hG
  go_enter Try.func15, Try.ntmps15
  go_wp2_with fail
  clear hmx
  go_loopw [7, 8, 16] (fun q m i wr => ∃ j : Nat, j ≤ n ∧ i = .int .i64 j ∧ q = .int .i64 (stSum f g ss j) ∧ m = .int .i64 (tickSum (ss.take j)) ∧ Below W.heap.size W wr) (fun _ _ i _ => n - (intOf i).toNat)
  case atStart => exact ⟨0, Nat.zero_le _, rfl, rfl, rfl, Below.refl _ _⟩
  case round =>
    obtain ⟨j, hk, rfl, rfl, rfl, hb⟩ := hrel
    have HB := Lib.hid hb
    clear hb
    by_cases hlt : j < n
    · obtain ⟨b, off, k', a', b', h', w', c', A', n', p', B', q', r', bs, xs, rfl, hbs, hj, hat⟩ := (HR.out.of_below HB.out).at hlt
      obtain ⟨c0, c1, c2, c3, c4, c5, c6, c7⟩ := hat.cells8
      have hT := tickSum_take hj
      have hS := stSum_next (f := f) (g := g) hj
      rw [← stP_full] at hS
      simp only at hT hS
      have hb1 := tickSum_bd (ss.take j)
      have hb2 := tickV_bd k' a'
      have hb3 := stSum_bd f g ss j
      have hlen : (ss.take j).length = j := by rw [List.length_take, HR.out.1]; omega
      rw [hlen] at hb1
      have HT := Lib.hid hT
      have HS := Lib.hid hS
      have K := Lib.hid (Bk.new wr 59 #[.int .i64 k', .int .i64 a', .int .i64 b', .slice A' n' p', .int .i64 h', .int .i64 w', .int .i64 c', .slice B' q' r'])
      have HBA := Lib.hid (HB.out.alloc HB.out.size (.cells #[.int .i64 k', .int .i64 a', .int .i64 b', .slice A' n' p', .int .i64 h', .int .i64 w', .int .i64 c', .slice B' q' r'] 59))
      clear hat hj hbs hlen hT hS
      generalize hsum : tickSum (ss.take j) = N at HT HS hb1 ⊢
      generalize hst : stSum f g ss j = Q at HS hb3 ⊢
      clear hsum hst
      have hi : (j : Int) < (n : Int) := by omega
      have HTV := Lib.hid (fun W => ticksOfI k' a' b' h' w' c' A' n' p' B' q' r' W)
      generalize tickV k' a' = T at HT HS HTV hb2
      go_wp2_with fail
      clear c0 c1 c2 c3 c4 c5 c6 c7
      generalize wr.alloc (.cells #[.int .i64 k', .int .i64 a', .int .i64 b', .slice A' n' p', .int .i64 h', .int .i64 w', .int .i64 c', .slice B' q' r'] 59) = v at K HBA ⊢
      generalize wr.heap.size = gx at K ⊢
      refine (HTV.out _).mono ?_
      rintro e w2 ⟨rfl, bb⟩
      replace HBA := Lib.hid (HBA.out.trans (bb.mono HBA.out.size))
      replace K := Lib.hid (K.out.below bb)
      have d0 := K.out.cell 0 rfl
      clear bb HTV
      by_cases h5 : k' = 5
      case neg =>
        have HX : Hid (stP k' N T f g = 0) := Lib.hid (if_neg h5)
        go_wp2_with fail
        go_roundw
        case rel => exact ⟨j + 1, by omega, by go_num, by rw [HS.out, HX.out, Int.add_zero], by rw [HT.out], HBA.out⟩
        case measure => simp [intOf]; omega
      subst h5
      have hG0 : 0 ≤ G := by have := HG.out; omega
      obtain ⟨M1, hM1⟩ : ∃ M, min (N + T) G = M := ⟨_, rfl⟩
      obtain ⟨M2, hM2⟩ : ∃ M, max N f = M := ⟨_, rfl⟩
      obtain ⟨D, hD⟩ : ∃ M, M1 - M2 = M := ⟨_, rfl⟩
      obtain ⟨M3, hM3⟩ : ∃ M, max 0 D = M := ⟨_, rfl⟩
      have HX : Hid (stP 5 N T f g = M3) := Lib.hid (by unfold stP cntV; rw [if_pos rfl, HG.out, hM1, hM2, hD, hM3])
      have hf := HF.out
      have hb5 : 0 ≤ M3 ∧ M3 ≤ 200 := by omega
      have hw : IntKind.i64.wrap (M1 - M2) = D := by rw [IntWalk.i64_in _ (by omega), hD]
      have hmin : ∀ ts ty w0, (Builtin.min_ ts ty #[.int .i64 (N + T), .int .i64 G]).run Try.prog w0 = .ok (.int .i64 M1) w0 := fun ts ty w0 => by rw [run_minK, hM1]
      have hmax : ∀ ts ty w0, (Builtin.max_ ts ty #[.int .i64 N, .int .i64 f]).run Try.prog w0 = .ok (.int .i64 M2) w0 := fun ts ty w0 => by rw [run_max2, hM2]
      have hmax0 : ∀ ts ty w0, (Builtin.max_ ts ty #[.int .i64 0, .int .i64 D]).run Try.prog w0 = .ok (.int .i64 M3) w0 := fun ts ty w0 => by rw [run_max2, hM3]
      clear hM1 hM2 hD hM3 hf
      go_wp2_with fail
      go_roundw
      case rel => exact ⟨j + 1, by omega, by go_num, by rw [HS.out, HX.out], by rw [HT.out], HBA.out⟩
      case measure => simp [intOf]; omega
    · obtain rfl : j = n := by omega
      go_wp2_with fail
      go_ret
      exact ⟨rfl, HB.out⟩
end Qt
end Go.Proofs.Ytalkoaahhkafaaa
