/- PutWide of the program and of its model: both a new slice of the same bytes, none where the number is out of its bounds. -/
import Derived.Test.YtodjackfolaifaaSumY
import Derived.Test.YtodjackfolaifaaWideMath
namespace Go.Proofs.Ytodjackfolaifaa
open Go.RowKit
namespace Qt
def PutC (W : World) (xs : List Int) (e : Ending) (W' : World) : Prop := ∃ A n cap, e = .returned (.slice A n cap) ∧ OwnY W.heap.size W' A n xs ∧ Below W.heap.size W W'
theorem PutC.of_own {W w' : World} {V : Value} {n : Nat} {xs : List Int} (h : w'.ownsRow W.heap.size 5 1 V n (xs.map (Value.int .u8))) (hb : Below W.heap.size W w') : PutC W xs (.returned V) w' := by
  have h' := h
  rcases h.2 with ⟨rfl, h0⟩ | ⟨g, cap, cur, rfl, _⟩
  · subst h0
    exact ⟨_, _, _, rfl, OwnY.of_own h', hb⟩
  · exact ⟨_, _, _, rfl, OwnY.of_own h', hb⟩
theorem PutC.nil {W w' : World} (hb : Below W.heap.size W w') : PutC W [] (.returned (.slice none 0 0)) w' :=
  ⟨none, 0, 0, rfl, ⟨rfl, fun h => absurd h (by omega)⟩, hb⟩

theorem inWS (x lo hi : Int) (w : World) : Calls Try.prog 30 #[.int .i64 x, .int .i64 lo, .int .i64 hi] w fun e w' => e = .returned (.bool (decide (lo ≤ x ∧ x ≤ hi))) ∧ w = w' := by
  by_cases h : lo ≤ x
  · by_cases h2 : x ≤ hi
    · rw [decide_eq_true (And.intro h h2)]
      go_enter Try.func30, Try.ntmps30
      go_wp2
      go_ret
      exact ⟨rfl, rfl⟩
    · rw [decide_eq_false (fun c => h2 c.2)]
      go_enter Try.func30, Try.ntmps30
      go_wp2
      go_ret
      exact ⟨rfl, rfl⟩
  · rw [decide_eq_false (fun c => h c.1)]
    go_enter Try.func30, Try.ntmps30
    go_wp2
    go_ret
    exact ⟨rfl, rfl⟩

theorem foldI (x : Int) (h : -1099511627776 ≤ x ∧ x ≤ 1099511627775) (w : World) : Calls Try.prog 32 #[.int .i64 x] w fun e w' => e = .returned (.int .i64 (foldW x)) ∧ w = w' := by
  obtain ⟨h1, h2⟩ := h
  unfold foldW
  by_cases h3 : x < 0
  · rw [if_pos h3]
    go_enter Try.func32, Try.ntmps32
    go_wp2
    go_ret
    exact ⟨rfl, rfl⟩
  · rw [if_neg h3]
    go_enter Try.func32, Try.ntmps32
    go_wp2
    go_ret
    exact ⟨rfl, rfl⟩

theorem inside1I (lo hi x : Int) (b : Nat) (w : World) (h0 : w.cell? ⟨b, 0, none⟩ = some (.int .i64 x)) :
    Calls Try.prog 31 #[.int .i64 lo, .int .i64 hi, .slice (some ⟨b, 0, none⟩) 1 1] w fun e w' => e = .returned (.bool (decide (lo ≤ x ∧ x ≤ hi))) ∧ w = w' := by
  by_cases h : lo ≤ x
  · by_cases h2 : x ≤ hi
    · rw [decide_eq_true (And.intro h h2)]
      go_enter Try.func31, Try.ntmps31
      go_wp2
      refine wp_loop_rounds 2 ?_
      rw [rounds_succ]
      go_wp2
      rw [rounds_succ]
      go_wp2
      go_ret
      exact ⟨rfl, rfl⟩
    · rw [decide_eq_false (fun c => h2 c.2)]
      go_enter Try.func31, Try.ntmps31
      go_wp2
      refine wp_loop_rounds 2 ?_
      rw [rounds_succ]
      go_wp2
      go_ret
      exact ⟨rfl, rfl⟩
  · rw [decide_eq_false (fun c => h c.1)]
    go_enter Try.func31, Try.ntmps31
    go_wp2
    refine wp_loop_rounds 2 ?_
    rw [rounds_succ]
    go_wp2
    go_ret
    exact ⟨rfl, rfl⟩
theorem cellY_new {w : World} {x : Value} {T b : Nat} (hb : b = w.heap.size) : (w.alloc (.cells #[x] T)).cell? ⟨b, 0, none⟩ = some x := by subst hb; simp [go_sem]

set_option maxRecDepth 100000 in
theorem putS (x : Int) (W : World) : Calls Try.prog 9 #[.int .i64 x] W (PutC W (putW x)) := by
  obtain ⟨i0, hi, hz0, hz1, hz2⟩ := info_parts infoB8
  by_cases hin : -1099511627776 ≤ x ∧ x ≤ 1099511627775
  · rcases (by omega : x < 0 ∨ 0 ≤ x) with hneg | hneg
    · have hbd := foldW_bd hin
      have HF : Hid (putW x = grW 5 (foldW x)) := Lib.hid (putW_in hin)
      have HI := Lib.hid hin
      obtain ⟨h1, h2⟩ := hin
      obtain ⟨F, hF⟩ : ∃ F, F = foldW x := ⟨_, rfl⟩
      rw [← hF] at hbd HF
      obtain ⟨R, hR⟩ : ∃ R, R = putW x := ⟨_, rfl⟩
      rw [← hR] at HF ⊢
      have HFF : Hid (F = foldW x) := Lib.hid hF
      have HB0 := Lib.hid hbd
      clear hF hR hbd
      go_enter Try.func9, Try.ntmps9
      go_wp2_with (go_at_call 30; refine (inWS _ _ _ _).mono ?_; rw [decide_eq_true HI.out]; rintro e w' ⟨rfl, rfl⟩)
      go_loopw [3, 4] (fun v l wr => ∃ (i : Nat) (L : Int) (vs : List Int), i ≤ 5 ∧ l = .int .i64 L ∧ 0 ≤ L ∧ L < 2199023255552 ∧ Hid (L < bdW i) ∧ Hid (R = vs ++ grW (5 - i) L) ∧ wr.ownsRow W.heap.size 5 1 v i (vs.map (Value.int .u8)) ∧ Below W.heap.size W wr) (fun _ l _ => (intOf l).toNat)
      case atStart =>
        refine ⟨0, F, [], by omega, ?_, HB0.out.1, HB0.out.2, Lib.hid (by simp only [bdW]; exact HB0.out.2), Lib.hid (by rw [HF.out]; rfl), World.ownsRow_lit W #[] 0 (Nat.le_refl _) (by decide) rfl, (Below.refl _ _).alloc (Nat.le_refl _) _⟩
        rw [HFF.out]; congr 1; unfold foldW; split <;> omega
      case round =>
        clear h1 h2 hneg
        obtain ⟨i, L, vs, hi5, rfl, hL0, hL1, HL, HR, hown, hb⟩ := hrel
        have HB := Lib.hid hb
        have HO := Lib.hid hown
        clear hb hown
        by_cases hlt : 128 ≤ L
        · go_wp2_with (at_builtin; refine wpList_append_own _ rfl _ _ 22 rfl W.heap.size 5 i0 (.int .u8 0) 1 1 Try.underlying22 hi hz0 hz1 hz2 rfl (by decide) _ _ _ rfl (HO.out.alloc _) ⟨wr.heap.size, 0, none⟩ 1 1 [.int .u8 (128 + L % 128)] rfl rfl ?ca1 ?ca2 ?ca3 ?ca4 ?ca5 ?_)
          case ca1 =>
            intro j v hj
            match j, hj with
            | 0, hj => simp at hj; subst hj; simp [Addr.add]; try omega
          case ca2 => intro v hv; simp at hv; subst hv; rfl
          case ca3 => unfold maxLen; omega
          case ca4 => omega
          case ca5 => have := HB.out.size; simp; omega
          · intro v' w1 hown' hgrow _
            have hold := HO.out
            have hB1 : Below W.heap.size W w1 := (HB.out.alloc HB.out.size _).grown hgrow (by have := HB.out.size; simp; omega) (fun r hr => (hold.lt r hr).1)
            have hst := bdW_step hi5 hlt HL.out
            have HO1 := Lib.hid hown'
            have HB1 := Lib.hid hB1
            have HI5 := Lib.hid hst.1
            have HL1 := Lib.hid hst.2
            have HR1 : Hid (R = (vs ++ [128 + L % 128]) ++ grW (5 - (i + 1)) (L / 128)) := Lib.hid (by
              rw [HR.out, show 5 - i = (5 - (i + 1)) + 1 by omega, grW_more _ hlt, List.append_assoc]; rfl)
            clear hown' hgrow hB1 hold hst
            go_wp2
            go_roundw
            case rel => exact ⟨i + 1, L / 128, vs ++ [128 + L % 128], by have := HI5.out; omega, by go_num, by omega, by omega, HL1, HR1, by rw [List.map_append]; exact HO1.out, HB1.out⟩
            case measure => simp [intOf]; omega
        · go_wp2_with (at_builtin; refine wpList_append_own _ rfl _ _ 22 rfl W.heap.size 5 i0 (.int .u8 0) 1 1 Try.underlying22 hi hz0 hz1 hz2 rfl (by decide) _ _ _ rfl (HO.out.alloc _) ⟨wr.heap.size, 0, none⟩ 1 1 [.int .u8 L] rfl rfl ?cb1 ?cb2 ?cb3 ?cb4 ?cb5 ?_)
          try case cb1 =>
            intro j v hj
            match j, hj with
            | 0, hj => simp at hj; subst hj; simp [Addr.add]; try omega
          case cb2 => first | rfl | (intro v hv; simp at hv; subst hv; rfl)
          case cb3 => unfold maxLen; omega
          case cb4 => omega
          case cb5 => have := HB.out.size; simp; omega
          · intro v' w1 hown' hgrow _
            have hold := HO.out
            have hB1 : Below W.heap.size W w1 := (HB.out.alloc HB.out.size _).grown hgrow (by have := HB.out.size; simp; omega) (fun r hr => (hold.lt r hr).1)
            have HC : Hid (PutC W R (.returned v') w1) := Lib.hid (by
              rw [HR.out, grW_small _ (by omega)]
              exact PutC.of_own (n := i + 1) (by rw [List.map_append]; exact hown') hB1)
            clear hown' hgrow hB1 hold
            go_wp2
            go_ret
            exact HC.out
    · have hbd := foldW_bd hin
      have HF : Hid (putW x = grW 5 (foldW x)) := Lib.hid (putW_in hin)
      have HI := Lib.hid hin
      obtain ⟨h1, h2⟩ := hin
      obtain ⟨F, hF⟩ : ∃ F, F = foldW x := ⟨_, rfl⟩
      rw [← hF] at hbd HF
      obtain ⟨R, hR⟩ : ∃ R, R = putW x := ⟨_, rfl⟩
      rw [← hR] at HF ⊢
      have HFF : Hid (F = foldW x) := Lib.hid hF
      have HB0 := Lib.hid hbd
      clear hF hR hbd
      go_enter Try.func9, Try.ntmps9
      go_wp2_with (go_at_call 30; refine (inWS _ _ _ _).mono ?_; rw [decide_eq_true HI.out]; rintro e w' ⟨rfl, rfl⟩)
      go_loopw [3, 4] (fun v l wr => ∃ (i : Nat) (L : Int) (vs : List Int), i ≤ 5 ∧ l = .int .i64 L ∧ 0 ≤ L ∧ L < 2199023255552 ∧ Hid (L < bdW i) ∧ Hid (R = vs ++ grW (5 - i) L) ∧ wr.ownsRow W.heap.size 5 1 v i (vs.map (Value.int .u8)) ∧ Below W.heap.size W wr) (fun _ l _ => (intOf l).toNat)
      case atStart =>
        refine ⟨0, F, [], by omega, ?_, HB0.out.1, HB0.out.2, Lib.hid (by simp only [bdW]; exact HB0.out.2), Lib.hid (by rw [HF.out]; rfl), World.ownsRow_lit W #[] 0 (Nat.le_refl _) (by decide) rfl, (Below.refl _ _).alloc (Nat.le_refl _) _⟩
        rw [HFF.out]; congr 1; unfold foldW; split <;> omega
      case round =>
        clear h1 h2 hneg
        obtain ⟨i, L, vs, hi5, rfl, hL0, hL1, HL, HR, hown, hb⟩ := hrel
        have HB := Lib.hid hb
        have HO := Lib.hid hown
        clear hb hown
        by_cases hlt : 128 ≤ L
        · go_wp2_with (at_builtin; refine wpList_append_own _ rfl _ _ 22 rfl W.heap.size 5 i0 (.int .u8 0) 1 1 Try.underlying22 hi hz0 hz1 hz2 rfl (by decide) _ _ _ rfl (HO.out.alloc _) ⟨wr.heap.size, 0, none⟩ 1 1 [.int .u8 (128 + L % 128)] rfl rfl ?cc1 ?cc2 ?cc3 ?cc4 ?cc5 ?_)
          case cc1 =>
            intro j v hj
            match j, hj with
            | 0, hj => simp at hj; subst hj; simp [Addr.add]; try omega
          case cc2 => intro v hv; simp at hv; subst hv; rfl
          case cc3 => unfold maxLen; omega
          case cc4 => omega
          case cc5 => have := HB.out.size; simp; omega
          · intro v' w1 hown' hgrow _
            have hold := HO.out
            have hB1 : Below W.heap.size W w1 := (HB.out.alloc HB.out.size _).grown hgrow (by have := HB.out.size; simp; omega) (fun r hr => (hold.lt r hr).1)
            have hst := bdW_step hi5 hlt HL.out
            have HO1 := Lib.hid hown'
            have HB1 := Lib.hid hB1
            have HI5 := Lib.hid hst.1
            have HL1 := Lib.hid hst.2
            have HR1 : Hid (R = (vs ++ [128 + L % 128]) ++ grW (5 - (i + 1)) (L / 128)) := Lib.hid (by
              rw [HR.out, show 5 - i = (5 - (i + 1)) + 1 by omega, grW_more _ hlt, List.append_assoc]; rfl)
            clear hown' hgrow hB1 hold hst
            go_wp2
            go_roundw
            case rel => exact ⟨i + 1, L / 128, vs ++ [128 + L % 128], by have := HI5.out; omega, by go_num, by omega, by omega, HL1, HR1, by rw [List.map_append]; exact HO1.out, HB1.out⟩
            case measure => simp [intOf]; omega
        · go_wp2_with (at_builtin; refine wpList_append_own _ rfl _ _ 22 rfl W.heap.size 5 i0 (.int .u8 0) 1 1 Try.underlying22 hi hz0 hz1 hz2 rfl (by decide) _ _ _ rfl (HO.out.alloc _) ⟨wr.heap.size, 0, none⟩ 1 1 [.int .u8 L] rfl rfl ?cd1 ?cd2 ?cd3 ?cd4 ?cd5 ?_)
          try case cd1 =>
            intro j v hj
            match j, hj with
            | 0, hj => simp at hj; subst hj; simp [Addr.add]; try omega
          case cd2 => first | rfl | (intro v hv; simp at hv; subst hv; rfl)
          case cd3 => unfold maxLen; omega
          case cd4 => omega
          case cd5 => have := HB.out.size; simp; omega
          · intro v' w1 hown' hgrow _
            have hold := HO.out
            have hB1 : Below W.heap.size W w1 := (HB.out.alloc HB.out.size _).grown hgrow (by have := HB.out.size; simp; omega) (fun r hr => (hold.lt r hr).1)
            have HC : Hid (PutC W R (.returned v') w1) := Lib.hid (by
              rw [HR.out, grW_small _ (by omega)]
              exact PutC.of_own (n := i + 1) (by rw [List.map_append]; exact hown') hB1)
            clear hown' hgrow hB1 hold
            go_wp2
            go_ret
            exact HC.out
  · have HC : ∀ w', Below W.heap.size W w' → PutC W (putW x) (.returned (.slice none 0 0)) w' := fun w' hb => by
      rw [putW_out hin]; exact PutC.nil hb
    have HI := Lib.hid hin
    have HC := Lib.hid HC
    generalize putW x = R at HC ⊢
    clear hin
    go_enter Try.func9, Try.ntmps9
    go_wp2_with (go_at_call 30; refine (inWS _ _ _ _).mono ?_; rw [decide_eq_false HI.out]; rintro e w' ⟨rfl, rfl⟩)
    go_ret
    exact HC.out _ ((Below.refl _ _).alloc (Nat.le_refl _) _)
set_option maxRecDepth 100000 in
theorem putI (x : Int) (W : World) : Calls Try.prog 10 #[.int .i64 x] W (PutC W (putW x)) := by
  obtain ⟨i0, hi, hz0, hz1, hz2⟩ := info_parts infoB8
  by_cases hin : -1099511627776 ≤ x ∧ x ≤ 1099511627775
  · have hbd := foldW_bd hin
    have HF : Hid (putW x = grW 5 (foldW x)) := Lib.hid (putW_in hin)
    have HI := Lib.hid hin
    obtain ⟨F, hF⟩ : ∃ F, F = foldW x := ⟨_, rfl⟩
    rw [← hF] at hbd HF
    obtain ⟨R, hR⟩ : ∃ R, R = putW x := ⟨_, rfl⟩
    rw [← hR] at HF ⊢
    have HFF : Hid (F = foldW x) := Lib.hid hF
    have HB0 := Lib.hid hbd
    clear hF hR hbd hin
    go_enter Try.func10, Try.ntmps10
    go_wp2_with (first
      | (go_at_call 31; refine (inside1I _ _ _ _ _ (cellY_new rfl)).mono ?_; rw [decide_eq_true HI.out]; rintro e w' ⟨rfl, rfl⟩)
      | (go_at_call 32; refine (foldI x HI.out _).mono ?_; rintro e w' ⟨rfl, rfl⟩))
    go_loopw [3, 4] (fun v l wr => ∃ (i : Nat) (L : Int) (vs : List Int), i ≤ 5 ∧ l = .int .i64 L ∧ 0 ≤ L ∧ L < 2199023255552 ∧ Hid (L < bdW i) ∧ Hid (R = vs ++ grW (5 - i) L) ∧ wr.ownsRow W.heap.size 5 1 v i (vs.map (Value.int .u8)) ∧ Below W.heap.size W wr) (fun _ l _ => (intOf l).toNat)
    case atStart =>
      refine ⟨0, F, [], by omega, ?_, HB0.out.1, HB0.out.2, Lib.hid (by simp only [bdW]; exact HB0.out.2), Lib.hid (by rw [HF.out]; rfl), World.ownsRow_nil _ _ _ _, (Below.refl _ _).alloc (Nat.le_refl _) _⟩
      rw [HFF.out]
    case round =>
      skip
      obtain ⟨i, L, vs, hi5, rfl, hL0, hL1, HL, HR, hown, hb⟩ := hrel
      have HB := Lib.hid hb
      have HO := Lib.hid hown
      clear hb hown
      by_cases hlt : 128 ≤ L
      · go_wp2_with (at_builtin; refine wpList_append_own _ rfl _ _ 22 rfl W.heap.size 5 i0 (.int .u8 0) 1 1 Try.underlying22 hi hz0 hz1 hz2 rfl (by decide) _ _ _ rfl (HO.out.alloc _) ⟨wr.heap.size, 0, none⟩ 1 1 [.int .u8 (L % 128 + 128)] rfl rfl ?ca1 ?ca2 ?ca3 ?ca4 ?ca5 ?_)
        case ca1 =>
          intro j v hj
          match j, hj with
          | 0, hj => simp at hj; subst hj; simp [Addr.add]; try omega
        case ca2 => intro v hv; simp at hv; subst hv; rfl
        case ca3 => unfold maxLen; omega
        case ca4 => omega
        case ca5 => have := HB.out.size; simp; omega
        · intro v' w1 hown' hgrow _
          have hold := HO.out
          have hB1 : Below W.heap.size W w1 := (HB.out.alloc HB.out.size _).grown hgrow (by have := HB.out.size; simp; omega) (fun r hr => (hold.lt r hr).1)
          have hst := bdW_step hi5 hlt HL.out
          have HO1 := Lib.hid hown'
          have HB1 := Lib.hid hB1
          have HI5 := Lib.hid hst.1
          have HL1 := Lib.hid hst.2
          have HR1 : Hid (R = (vs ++ [L % 128 + 128]) ++ grW (5 - (i + 1)) (L / 128)) := Lib.hid (by
            rw [HR.out, show 5 - i = (5 - (i + 1)) + 1 by omega, grW_more _ hlt, List.append_assoc, Int.add_comm (L % 128) 128]; rfl)
          clear hown' hgrow hB1 hold hst
          go_wp2
          go_roundw
          case rel => exact ⟨i + 1, L / 128, vs ++ [L % 128 + 128], by have := HI5.out; omega, by go_num, by omega, by omega, HL1, HR1, by rw [List.map_append]; exact HO1.out, HB1.out⟩
          case measure => simp [intOf]; omega
      · go_wp2_with (at_builtin; refine wpList_append_own _ rfl _ _ 22 rfl W.heap.size 5 i0 (.int .u8 0) 1 1 Try.underlying22 hi hz0 hz1 hz2 rfl (by decide) _ _ _ rfl (HO.out.alloc _) ⟨wr.heap.size, 0, none⟩ 1 1 [.int .u8 L] rfl rfl ?cb1 ?cb2 ?cb3 ?cb4 ?cb5 ?_)
        try case cb1 =>
          intro j v hj
          match j, hj with
          | 0, hj => simp at hj; subst hj; simp [Addr.add]; try omega
        case cb2 => first | rfl | (intro v hv; simp at hv; subst hv; rfl)
        case cb3 => unfold maxLen; omega
        case cb4 => omega
        case cb5 => have := HB.out.size; simp; omega
        · intro v' w1 hown' hgrow _
          have hold := HO.out
          have hB1 : Below W.heap.size W w1 := (HB.out.alloc HB.out.size _).grown hgrow (by have := HB.out.size; simp; omega) (fun r hr => (hold.lt r hr).1)
          have HC : Hid (PutC W R (.returned v') w1) := Lib.hid (by
            rw [HR.out, grW_small _ (by omega)]
            exact PutC.of_own (n := i + 1) (by rw [List.map_append]; exact hown') hB1)
          clear hown' hgrow hB1 hold
          go_wp2
          go_ret
          exact HC.out
  · have HC : ∀ w', Below W.heap.size W w' → PutC W (putW x) (.returned (.slice none 0 0)) w' := fun w' hb => by
      rw [putW_out hin]; exact PutC.nil hb
    have HI := Lib.hid hin
    have HC := Lib.hid HC
    generalize putW x = R at HC ⊢
    clear hin
    go_enter Try.func10, Try.ntmps10
    go_wp2_with (go_at_call 31; refine (inside1I _ _ _ _ _ (cellY_new rfl)).mono ?_; rw [decide_eq_false HI.out]; rintro e w' ⟨rfl, rfl⟩)
    go_ret
    exact HC.out _ ((Below.refl _ _).alloc (Nat.le_refl _) _)
end Qt
end Go.Proofs.Ytodjackfolaifaa
