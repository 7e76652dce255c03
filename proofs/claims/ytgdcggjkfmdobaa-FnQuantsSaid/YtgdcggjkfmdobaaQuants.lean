/- The law FnQuants returns true and writes nothing that was there, when its bytes can be read. -/
import Derived.Test.YtgdcggjkfmdobaaShift
import Derived.Test.YtgdcggjkfmdobaaMult
import Derived.Test.YtgdcggjkfmdobaaDrawMult
import Derived.Test.YtgdcggjkfmdobaaQuantsMath
import Derived.Test.YtgdcggjkfmdobaaAid
import Derived.Deep.DeepCutAuto
namespace Go.Proofs.Ytgdcggjkfmdobaa
open Go.RowKit
namespace Qt
theorem mulHigh_comm (a b : Int) : mulHigh b a = mulHigh a b := by unfold mulHigh; rw [Int.mul_comm]
theorem addSat_comm (a b : Int) : addSat b a = addSat a b := by unfold addSat; rw [Int.add_comm]

set_option maxRecDepth 100000 in
set_option maxHeartbeats 4000000 in
theorem quantsLaw (A : Option Addr) (n c : Nat) (w : World) (hr : RdB w w.heap.size A n) :
    Calls Try.prog 3 #[.slice A n c] w fun e w' => e = .returned (.bool true) ∧ Below w.heap.size w w' := by
  by_cases hbig : (1048576 : Int) < (n : Int)
  · go_enter Try.func3, Try.ntmps3
    go_wp2_with (go_at_call 4; refine (bigC A n c _).mono ?_; rintro e w' ⟨rfl, rfl⟩)
    go_ret
    exact ⟨rfl, Below.refl _ _⟩
  · have HR := Lib.hid hr
    have HN : Hid (n ≤ 1048577) := by unfold Hid; omega
    clear hr
    go_enter Try.func3, Try.ntmps3
    go_wp2_with (go_at_call 4; refine (bigC A n c _).mono ?_; rintro e w' ⟨rfl, rfl⟩)
    refine (drawMulHighC A n c _ HR.out HN.out).mono ?_
    rintro e w1 ⟨a, b, rfl, hb1⟩
    have HB1 := Lib.hid hb1
    clear hb1
    go_wp2_with fail
    refine (mulHighI a b _).mono ?_
    rintro e w2 ⟨rfl, m2, hm2⟩
    have HB2 := Lib.hid (show Below w.heap.size w w2 from hm2 ▸ below_drewN HB1.out m2)
    clear hm2 HB1
    go_wp2_with fail
    refine (addSatI a b _).mono ?_
    rintro e w3 ⟨rfl, hb3⟩
    have HB3 := Lib.hid (HB2.out.trans (hb3.mono HB2.out.size))
    clear hb3 HB2
    have hbm := mulHigh_bd a b
    have hba := addSat_bd a b
    have hcm := mulHigh_comm a b
    have hca := addSat_comm a b
    have hs8 := sat8_sat32 a
    go_wp2_with fail
    refine (mulHighS a b _).mono ?_
    rintro e w' ⟨rfl, rfl⟩
    go_wp2_with fail
    refine (mulHighI b a _).mono ?_
    rintro e w4 ⟨rfl, m4, hm4⟩
    have HB4 := Lib.hid (show Below w.heap.size w w4 from hm4 ▸ below_drewN HB3.out m4)
    clear hm4 HB3
    go_wp2_with fail
    refine (addSatI b a _).mono ?_
    rintro e w5 ⟨rfl, hb5⟩
    have HB5 := Lib.hid (HB4.out.trans (hb5.mono HB4.out.size))
    clear hb5 HB4
    go_wp2_with fail
    refine (sat8I a _).mono ?_
    rintro e w' ⟨rfl, rfl⟩
    go_wp2_with fail
    refine (sat32I a _).mono ?_
    rintro e w' ⟨rfl, rfl⟩
    go_wp2_with fail
    refine (sat8I (sat32 a) _).mono ?_
    rintro e w' ⟨rfl, rfl⟩
    go_wp2_with fail
    clear hbm hba hcm hca hs8
    refine (altC A n c 1 (by omega) (by omega) _ (HR.out.more HB5.out HB5.out.size) HN.out).mono ?_
    rintro e w6 ⟨A6, n6, c6, rfl, hn6, hr6, hb6⟩
    have HR6 := Lib.hid hr6; have HN6 := Lib.hid hn6; have HB6 := Lib.hid (HB5.out.trans (hb6.mono HB5.out.size))
    clear hr6 hn6 hb6 HB5
    go_wp2_with fail
    refine (drawMultForC A6 n6 c6 _ HR6.out HN6.out).mono ?_
    rintro e w7 ⟨num, den, rfl, hb7⟩
    have HB7 := Lib.hid (HB6.out.trans (hb7.mono HB6.out.size))
    clear hb7 HB6 HR6
    by_cases hgood : 0 < num ∧ num < den ∧ den ≤ 1000000
    · obtain ⟨g1, g2, g3⟩ := hgood
      go_wp2_with fail
      refine (multForI_yes num den g1 g2 g3 _).mono ?_
      rintro e w' ⟨rfl, rfl⟩
      obtain ⟨k, hk, hk20, hNP, hM1, hM2, hM3, hM4⟩ := mult_facts g1 g2 g3
      have hkk : 0 ≤ multN num den ∧ multN num den < 20 := by omega
      clear hk hk20 hNP hM3 hM4
      go_wp2_with fail
      refine (atC A n c 0 _ (HR.out.more HB7.out HB7.out.size) HN.out (by omega) (by omega)).mono ?_
      rintro e w' ⟨⟨x0, hx0, rfl⟩, rfl⟩
      go_wp2_with fail
      refine (atC A n c 1 _ (HR.out.more HB7.out HB7.out.size) HN.out (by omega) (by omega)).mono ?_
      rintro e w' ⟨⟨x1, hx1, rfl⟩, rfl⟩
      have hA : -13000 ≤ (x0 - 128) * 97 + x1 ∧ (x0 - 128) * 97 + x1 ≤ 13000 := by omega
      go_wp2_with fail
      generalize (x0 - 128) * 97 + x1 = acc at hA ⊢
      clear hx0 hx1 hM1 hM2 hkk
      refine (requantI acc _ _ 0 _).mono ?_
      rintro e w8 ⟨rfl, hb8⟩
      have HB8 := Lib.hid (HB7.out.trans (hb8.mono HB7.out.size))
      clear hb8 HB7
      have han := mul_range (A := acc) (M := num) (B := 13000) (C := 1000000) hA.1 hA.2 (by omega) (by omega) (by omega)
      have hrb := requant_bd acc (multM num den) (multN num den) 0
      by_cases e1 : 126 * den < acc * num
      · go_wp2_with fail
        go_ret
        exact ⟨rfl, HB8.out⟩
      · by_cases e2 : acc * num < -127 * den
        · go_wp2_with fail
          go_ret
          exact ⟨rfl, HB8.out⟩
        · have he := requant_err hA g1 g2 g3 (by omega) (by omega)
          go_wp2_with fail
          go_ret
          exact ⟨rfl, HB8.out⟩
    · have HH := Lib.hid (show num ≤ 0 ∨ den ≤ num ∨ 1000000 < den by omega)
      clear hgood
      go_wp2_with fail
      refine (multForI_no num den HH.out _).mono ?_
      rintro e w' ⟨rfl, rfl⟩
      by_cases h1 : 1 ≤ den
      · by_cases h2 : den ≤ 1000000
        · by_cases h3 : 0 < num
          · have h4 : decide (num < den) = false := by have := HH.out; simp; omega
            go_wp2_with fail
            go_ret
            exact ⟨rfl, HB7.out⟩
          · go_wp2_with fail
            go_ret
            exact ⟨rfl, HB7.out⟩
        · go_wp2_with fail
          go_ret
          exact ⟨rfl, HB7.out⟩
      · go_wp2_with fail
        go_ret
        exact ⟨rfl, HB7.out⟩
end Qt
end Go.Proofs.Ytgdcggjkfmdobaa
