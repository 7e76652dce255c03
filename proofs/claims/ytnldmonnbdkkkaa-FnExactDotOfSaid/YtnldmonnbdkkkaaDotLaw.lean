/- The law of DotOf returns true and writes nothing that was there, when its two slices read as lists. -/
import Derived.Test.YtnldmonnbdkkkaaDot
namespace Go.Proofs.Ytnldmonnbdkkkaa
open Go.RowKit
namespace Qt
theorem dotLaw (a0 a1 : Option Addr) (len0 cap0 len1 cap1 : Nat) (xs ys : List Int) (w : World) (w0 : RdI w a0 len0 xs) (w1 : RdI w a1 len1 ys) :
    Calls Try.prog 11 #[.slice a0 len0 cap0, .slice a1 len1 cap1] w fun e w' => e = .returned (.bool true) ∧ Below w.heap.size w w' := by
  by_cases h0 : (1048576 : Int) < (len0 : Int)
  · go_enter Try.func11, Try.ntmps11
    go_wp2
    go_ret
    exact ⟨rfl, Below.refl _ _⟩
  · by_cases h1 : (1048576 : Int) < (len1 : Int)
    · go_enter Try.func11, Try.ntmps11
      go_wp2
      go_ret
      exact ⟨rfl, Below.refl _ _⟩
    · have HA := Lib.hid w0
      have HB := Lib.hid w1
      clear w0 w1
      have h0' : len0 ≤ 1048576 := by omega
      have h1' : len1 ≤ 1048576 := by omega
      go_enter Try.func11, Try.ntmps11
      go_wp2_with fail
      refine (toIntS_any _ _ _ xs _ HA.out h0').mono ?_
      rintro e v1 ⟨g1, rfl, r1, b1⟩
      have HA1 := Lib.hid (HA.out.of_below b1); have HB1 := Lib.hid (HB.out.of_below b1); have R1 := Lib.hid r1; have B1 := Lib.hid b1
      clear HA HB r1 b1
      go_wp2_with fail
      refine (toIntS_any _ _ _ ys _ HB1.out h1').mono ?_
      rintro e v2 ⟨g2, rfl, r2, b2⟩
      have HA2 := Lib.hid (HA1.out.of_below b2); have HB2 := Lib.hid (HB1.out.of_below b2); have R1b := Lib.hid (R1.out.of_below b2); have R2 := Lib.hid r2; have B2 := Lib.hid (B1.out.trans (b2.mono B1.out.size))
      clear HA1 HB1 R1 B1 r2 b2
      go_wp2_with fail
      refine (dotS _ _ _ _ _ _ xs ys _ R1b.out R2.out h0' h1').mono ?_
      rintro e v3 ⟨rfl, m, hm⟩
      have b3 : Below v2.heap.size v2 v3 := hm ▸ below_drewN (Below.refl _ _) m
      have HA3 := Lib.hid (HA2.out.of_below b3); have HB3 := Lib.hid (HB2.out.of_below b3); have B3 := Lib.hid (B2.out.trans (b3.mono B2.out.size))
      clear HA2 HB2 R1b R2 B2 b3 hm
      go_wp2_with fail
      refine (toIntS_any _ _ _ xs _ HA3.out h0').mono ?_
      rintro e v4 ⟨g4, rfl, r4, b4⟩
      have HA4 := Lib.hid (HA3.out.of_below b4); have HB4 := Lib.hid (HB3.out.of_below b4); have R4 := Lib.hid r4; have B4 := Lib.hid (B3.out.trans (b4.mono B3.out.size))
      clear HA3 HB3 B3 r4 b4
      go_wp2_with fail
      refine (toIntS_any _ _ _ ys _ HB4.out h1').mono ?_
      rintro e v5 ⟨g5, rfl, r5, b5⟩
      have HA5 := Lib.hid (HA4.out.of_below b5); have HB5 := Lib.hid (HB4.out.of_below b5); have R4b := Lib.hid (R4.out.of_below b5); have R5 := Lib.hid r5; have B5 := Lib.hid (B4.out.trans (b5.mono B4.out.size))
      clear HA4 HB4 R4 B4 r5 b5
      go_wp2_with fail
      refine (dotI _ _ _ _ _ _ xs ys _ R4b.out R5.out h0' h1').mono ?_
      rintro e v6 ⟨rfl, b6⟩
      have HA6 := Lib.hid (HA5.out.of_below b6); have HB6 := Lib.hid (HB5.out.of_below b6); have R4c := Lib.hid (R4b.out.of_below b6); have R5c := Lib.hid (R5.out.of_below b6); have B6 := Lib.hid (B5.out.trans (b6.mono B5.out.size))
      clear HA5 HB5 R4b R5 B5 b6
      go_wp2_with fail
      refine (toIntS_any _ _ _ xs _ HA6.out h0').mono ?_
      rintro e v7 ⟨g7, rfl, r7, b7⟩
      have HB7 := Lib.hid (HB6.out.of_below b7); have R4d := Lib.hid (R4c.out.of_below b7); have R5d := Lib.hid (R5c.out.of_below b7); have R7 := Lib.hid r7; have B7 := Lib.hid (B6.out.trans (b7.mono B6.out.size))
      clear HA6 HB6 R4c R5c B6 r7 b7
      go_wp2_with fail
      refine (eqIntS_same _ _ _ _ _ xs _ R4d.out R7.out h0').mono ?_
      rintro e v8 ⟨rfl, m8, hm8⟩
      have b8 : Below v7.heap.size v7 v8 := hm8 ▸ below_drewN (Below.refl _ _) m8
      have HB8 := Lib.hid (HB7.out.of_below b8); have R5e := Lib.hid (R5d.out.of_below b8); have B8 := Lib.hid (B7.out.trans (b8.mono B7.out.size))
      clear HB7 R4d R5d R7 B7 b8 hm8
      go_wp2_with fail
      refine (toIntS_any _ _ _ ys _ HB8.out h1').mono ?_
      rintro e v9 ⟨g9, rfl, r9, b9⟩
      have R5f := Lib.hid (R5e.out.of_below b9); have R9 := Lib.hid r9; have B9 := Lib.hid (B8.out.trans (b9.mono B8.out.size))
      clear HB8 R5e B8 r9 b9
      go_wp2_with fail
      refine (eqIntS_same _ _ _ _ _ ys _ R5f.out R9.out h1').mono ?_
      rintro e v10 ⟨rfl, m10, hm10⟩
      have B10 : Below w.heap.size w v10 := hm10 ▸ below_drewN B9.out m10
      clear R5f R9 B9 hm10
      go_wp2_with fail
      go_ret
      exact ⟨rfl, B10⟩
end Qt
end Go.Proofs.Ytnldmonnbdkkkaa
