/- The law FnShifts returns true and writes nothing that was there, when its bytes can be read. -/
import Derived.Test.YtnldmonnbdkkkaaDot
import Derived.Test.YtnldmonnbdkkkaaDrawDot
import Derived.Test.YtnldmonnbdkkkaaOdd
import Derived.Deep.DeepCutAuto
namespace Go.Proofs.Ytnldmonnbdkkkaa
open Go.RowKit
namespace Qt
theorem bigC (A : Option Addr) (n c : Nat) (w : World) : Calls Try.prog 14 #[.slice A n c] w fun e w' => e = .returned (.bool (decide ((1048576 : Int) < (n : Int)))) ∧ w = w' := by
  go_enter Try.func14, Try.ntmps14
  go_wp2
  go_ret
  exact ⟨rfl, rfl⟩
theorem RdB.more {w w' : World} {B B' : Nat} {A : Option Addr} {n : Nat} (h : RdB w B A n) (hb : Below B w w') (hB : B ≤ B') : RdB w' B' A n := fun hn => by
  obtain ⟨b, off, e, hlt, hc⟩ := (h.of_block (w' := w') hb.block) hn
  exact ⟨b, off, e, by omega, hc⟩
theorem wrap_pow2_at {n : Int} (h1 : 0 ≤ n) (h2 : n ≤ 31) : wrap64 (2 ^ n.toNat) = pow2 n := by rw [pow2_at h1 h2]; exact IntWalk.wrap64_in _ (by have := pow2_bd n; omega)

def inB (x k : Int) : Bool := decide (0 ≤ k ∧ k ≤ 31 ∧ -2147483648 ≤ x ∧ x ≤ 2147483647)
theorem inB_yes {x k : Int} (h : 0 ≤ k ∧ k ≤ 31 ∧ -2147483648 ≤ x ∧ x ≤ 2147483647) : Value.bool true = Value.bool (inB x k) := by unfold inB; rw [decide_eq_true h]
theorem inB_no {x k : Int} (h : ¬ (0 ≤ k ∧ k ≤ 31 ∧ -2147483648 ≤ x ∧ x ≤ 2147483647)) : Value.bool false = Value.bool (inB x k) := by unfold inB; rw [decide_eq_false h]

set_option maxRecDepth 100000 in
set_option maxHeartbeats 2000000 in
theorem shiftsLaw (A : Option Addr) (n c : Nat) (w : World) (hr : RdB w w.heap.size A n) :
    Calls Try.prog 3 #[.slice A n c] w fun e w' => e = .returned (.bool true) ∧ Below w.heap.size w w' := by
  by_cases hbig : (1048576 : Int) < (n : Int)
  · go_enter Try.func3, Try.ntmps3
    go_wp2_with (go_at_call 14; refine (bigC A n c _).mono ?_; rintro e w' ⟨rfl, rfl⟩)
    go_ret
    exact ⟨rfl, Below.refl _ _⟩
  · have HR := Lib.hid hr
    have HN : Hid (n ≤ 1048577) := by unfold Hid; omega
    clear hr
    go_enter Try.func3, Try.ntmps3
    go_wp2_with (go_at_call 14; refine (bigC A n c _).mono ?_; rintro e w' ⟨rfl, rfl⟩)
    refine (drawRoundShiftC A n c _ HR.out HN.out).mono ?_
    rintro e w1 ⟨x, k, rfl, hb1⟩
    have HB1 := Lib.hid hb1
    clear hb1
    go_upto_region 7 with (first
      | (go_at_call 16; refine (roundShiftI x k _).mono ?_; rintro e w' ⟨rfl, m, rfl⟩)
      | (go_at_call 17; refine (roundShiftS x k _).mono ?_; rintro e w' ⟨rfl, rfl⟩))
    have HB2 := Lib.hid (below_drewN HB1.out m)
    clear HB1
    generalize w1.drewN m = w2 at HB2 ⊢
    go_cut [43] (fun q wx => q = .bool false ∧ Below w.heap.size w wx)
    case first =>
      by_cases h1 : -2147483648 < x
      · by_cases h2 : x ≤ 2147483647
        · have hodd := roundShift_odd (n := k) h1 h2
          have hbd := roundShift_bd x k
          go_wp2_with (go_at_call 16; refine (roundShiftI (-x) k _).mono ?_; rintro e w' ⟨rfl, m2, rfl⟩)
          go_meet
          case rel => exact ⟨by simp, below_drewN HB2.out m2⟩
        · go_wp2_with fail
          go_meet
          case rel => exact ⟨rfl, HB2.out⟩
      · go_wp2_with fail
        go_meet
        case rel => exact ⟨rfl, HB2.out⟩
    case rest =>
      obtain ⟨rfl, hb3⟩ := hcut
      have HB3 := Lib.hid hb3
      clear hb3 HB2
      go_upto_region 9 with fail
      go_cut [57] (fun q wx => q = .bool (inB x k) ∧ Below w.heap.size w wx)
      case first =>
        by_cases h1 : 0 ≤ k
        · by_cases h2 : k ≤ 31
          · by_cases h3 : -2147483648 ≤ x
            · by_cases h4 : x ≤ 2147483647
              · have HQ := Lib.hid (inB_yes ⟨h1, h2, h3, h4⟩)
                go_wp2_with fail
                go_meet
                case rel => exact ⟨HQ.out, HB3.out⟩
              · have HQ := Lib.hid (inB_no (x := x) (k := k) (by omega))
                have hd : decide (x ≤ 2147483647) = false := by simp; omega
                clear h4
                go_wp2_with fail
                go_meet
                case rel => exact ⟨HQ.out, HB3.out⟩
            · have HQ := Lib.hid (inB_no (x := x) (k := k) (by omega))
              have hd : decide (-2147483648 ≤ x) = false := by simp; omega
              clear h3
              go_wp2_with fail
              go_meet
              case rel => exact ⟨HQ.out, HB3.out⟩
          · have HQ := Lib.hid (inB_no (x := x) (k := k) (by omega))
            have hd : decide (k ≤ 31) = false := by simp; omega
            clear h2
            go_wp2_with fail
            go_meet
            case rel => exact ⟨HQ.out, HB3.out⟩
        · have HQ := Lib.hid (inB_no (x := x) (k := k) (by omega))
          go_wp2_with fail
          go_meet
          case rel => exact ⟨HQ.out, HB3.out⟩
      case rest =>
        obtain ⟨rfl, hb4⟩ := hcut
        have HB4 := Lib.hid hb4
        clear hb4 HB3
        go_upto_if 57 with fail
        go_cut [6, 7] (fun _ _ wx => Below w.heap.size w wx)
        case first =>
          cases hE : inB x k
          · go_wp2_with fail
            go_meet
            case rel => exact HB4.out
          · obtain ⟨h1, h2, h3, h4⟩ := of_decide_eq_true hE
            clear hE
            have hw := wrap_pow2_at h1 h2
            have hp := pow2_bd k
            have he := roundShift_err (n := k) h3 h4
            go_wp2_with fail
            go_meet
            case rel => exact HB4.out
        case rest =>
          have HB5 := Lib.hid hcut
          clear hcut HB4
          go_wp2_with fail
          refine (altC A n c 1 (by omega) (by omega) _ (HR.out.more HB5.out HB5.out.size) HN.out).mono ?_
          rintro e w6 ⟨A6, n6, c6, rfl, hn6, hr6, hb6⟩
          have HR6 := Lib.hid hr6; have HN6 := Lib.hid hn6; have HB6 := Lib.hid (HB5.out.trans (hb6.mono HB5.out.size))
          clear hr6 hn6 hb6 HB5
          go_wp2_with fail
          refine (drawClampToC A6 n6 c6 _ HR6.out HN6.out).mono ?_
          rintro e w7 ⟨v, lo, hi, rfl, hb7⟩
          have HB7 := Lib.hid (HB6.out.trans (hb7.mono HB6.out.size))
          clear hb7 HB6 HR6
          go_wp2_with fail
          refine (clampI v lo hi _).mono ?_
          rintro e w8 ⟨rfl, rfl⟩
          go_upto_region 16 with fail
          go_cut [109] (fun q wx => q = .bool false ∧ Below w.heap.size w wx)
          case first =>
            by_cases h1 : hi < lo
            · have hc := clamp_over (x := v) h1
              have hd : decide (lo ≤ hi) = false := by simp; omega
              go_wp2_with fail
              go_meet
              case rel => exact ⟨by simp, HB7.out⟩
            · have hc := clamp_bd v lo hi (by omega)
              go_wp2_with fail
              go_meet
              case rel => exact ⟨by simp; exact hc, HB7.out⟩
          case rest =>
            obtain ⟨rfl, hb8⟩ := hcut
            have HB8 := Lib.hid hb8
            clear hb8 HB7
            go_wp2_with fail
            refine (altC A n c 2 (by omega) (by omega) _ (HR.out.more HB8.out HB8.out.size) HN.out).mono ?_
            rintro e w9 ⟨A9, n9, c9, rfl, hn9, hr9, hb9⟩
            have HR9 := Lib.hid hr9; have HN9 := Lib.hid hn9; have HB9 := Lib.hid (HB8.out.trans (hb9.mono HB8.out.size))
            clear hr9 hn9 hb9 HB8
            go_wp2_with fail
            refine (drawDotOfC A9 n9 c9 _ HR9.out HN9.out).mono ?_
            rintro e w10 ⟨P, Q, p, q, cp, cq, xs, ys, rfl, hp, hq, hxs, hys, hb10⟩
            have HX := Lib.hid hxs; have HY := Lib.hid hys; have HB10 := Lib.hid (HB9.out.trans (hb10.mono HB9.out.size))
            clear hxs hys hb10 HB9 HR9
            go_wp2_with fail
            refine (dotI P Q p q cp cq xs ys _ HX.out HY.out (by omega) (by omega)).mono ?_
            rintro e w11 ⟨rfl, hb11⟩
            have HX1 := Lib.hid (HX.out.of_below hb11); have HY1 := Lib.hid (HY.out.of_below hb11); have HB11 := Lib.hid (HB10.out.trans (hb11.mono HB10.out.size))
            clear hb11 HB10 HX HY
            go_wp2_with fail
            refine (dotS Q P q p cq cp ys xs _ HY1.out HX1.out (by omega) (by omega)).mono ?_
            rintro e w12 ⟨rfl, m12, hm12⟩
            have hb12 : Below w11.heap.size w11 w12 := hm12 ▸ below_drewN (Below.refl _ _) m12
            have HX2 := Lib.hid (HX1.out.of_below hb12); have HB12 := Lib.hid (HB11.out.trans (hb12.mono HB11.out.size))
            clear hb12 hm12 HB11 HX1 HY1
            have hcm := dot_comm ys xs
            go_wp2_with fail
            refine (dotI P none p 0 cp 0 xs [] _ HX2.out (RdI.nil _ _) (by omega) (by omega)).mono ?_
            rintro e w13 ⟨rfl, hb13⟩
            have HB13 := Lib.hid (HB12.out.trans (hb13.mono HB12.out.size))
            clear hb13 HB12 HX2
            have hdn := dot_nil xs
            go_wp2_with fail
            go_ret
            exact ⟨rfl, HB13.out⟩
end Qt
end Go.Proofs.Ytnldmonnbdkkkaa
