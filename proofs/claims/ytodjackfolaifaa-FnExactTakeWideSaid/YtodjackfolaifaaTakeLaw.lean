/- The law of TakeWide returns true and writes nothing that was there, when its slice reads as a list of bytes. -/
import Derived.Test.YtodjackfolaifaaTakeI
namespace Go.Proofs.Ytodjackfolaifaa
open Go.RowKit
namespace Qt
theorem takeLaw (a0 : Option Addr) (len0 cap0 : Nat) (xs : List Int) (t : Int) (w : World) (w0 : RdB8 w a0 len0 xs) (hx : ByY xs) :
    Calls Try.prog 4 #[.slice a0 len0 cap0, .int .i64 t] w fun e w' => e = .returned (.bool true) ∧ Below w.heap.size w w' := by
  by_cases h0 : (1048576 : Int) < (len0 : Int)
  · go_enter Try.func4, Try.ntmps4
    go_wp2
    go_ret
    exact ⟨rfl, Below.refl _ _⟩
  · have HA := Lib.hid w0
    have HX := Lib.hid hx
    clear w0 hx
    have h0' : len0 ≤ 1048576 := by omega
    go_enter Try.func4, Try.ntmps4
    go_wp2_with fail
    refine (toByteS_any _ _ _ xs _ HA.out h0').mono ?_
    rintro e v1 ⟨g1, rfl, r1, b1⟩
    have HA1 := Lib.hid (HA.out.of_below b1); have R1 := Lib.hid r1; have B1 := Lib.hid b1
    clear HA r1 b1
    go_wp2_with fail
    have HS := takeS _ _ len0 xs t _ R1.out HX.out h0'
    have HI := fun (W : World) (g : Nat) (h : RdB8 W (some ⟨g, 0, none⟩) len0 xs) => takeI _ _ len0 xs t W h HX.out h0' (Nat.le_refl _)
    generalize takeW xs t = xy at HS HI
    obtain ⟨x, y⟩ := xy
    have HI := Lib.hid HI
    refine HS.mono ?_
    clear HS
    rintro e v2 ⟨rfl, m, hm⟩
    have b2 : Below v1.heap.size v1 v2 := hm ▸ below_drewN (Below.refl _ _) m
    have HA2 := Lib.hid (HA1.out.of_below b2); have B2 := Lib.hid (B1.out.trans (b2.mono B1.out.size))
    clear HA1 R1 B1 b2 hm
    go_wp2_with fail
    refine (toByteS_any _ _ _ xs _ HA2.out h0').mono ?_
    rintro e v3 ⟨g3, rfl, r3, b3⟩
    have HA3 := Lib.hid (HA2.out.of_below b3); have R3 := Lib.hid r3; have B3 := Lib.hid (B2.out.trans (b3.mono B2.out.size))
    clear HA2 B2 r3 b3
    go_wp2_with fail
    refine (HI.out _ _ R3.out).mono ?_
    rintro e v4 ⟨rfl, b4⟩
    have HA4 := Lib.hid (HA3.out.of_below b4); have R4 := Lib.hid (R3.out.of_below b4); have B4 := Lib.hid (B3.out.trans (b4.mono B3.out.size))
    clear HA3 R3 B3 b4 HI
    go_wp2_with fail
    refine (toByteS_any _ _ _ xs _ HA4.out h0').mono ?_
    rintro e v5 ⟨g5, rfl, r5, b5⟩
    have R4b := Lib.hid (R4.out.of_below b5); have R5 := Lib.hid r5; have B5 := Lib.hid (B4.out.trans (b5.mono B4.out.size))
    clear HA4 R4 B4 r5 b5
    go_wp2_with fail
    refine (eqByteS_same _ _ _ _ _ xs _ R4b.out R5.out h0').mono ?_
    rintro e v6 ⟨rfl, m6, hm6⟩
    have B6 : Below w.heap.size w v6 := hm6 ▸ below_drewN B5.out m6
    clear R4b R5 B5 hm6
    go_wp2_with fail
    go_ret
    exact ⟨rfl, B6⟩
end Qt
end Go.Proofs.Ytodjackfolaifaa
