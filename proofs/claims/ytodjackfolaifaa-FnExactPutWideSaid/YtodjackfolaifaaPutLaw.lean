/- The law of PutWide returns true and writes nothing that was there. No conditions. -/
import Derived.Test.YtodjackfolaifaaPutW
namespace Go.Proofs.Ytodjackfolaifaa
open Go.RowKit
namespace Qt
theorem RdB8.grownO {n g0 : Nat} {w w' : World} {A : Option Addr} {xs : List Int} (h : RdB8 w A n xs) (hg : w.grownBy w' (some g0)) (hl : ∀ b off, 0 < n → A = some ⟨b, off, none⟩ → b ≠ g0) : RdB8 w' A n xs := ⟨h.1, fun hn => by
  obtain ⟨b, off, e, hlt, hc⟩ := h.2 hn
  have hb := hg.block b hlt (fun e2 => by injection e2 with e2; exact hl b off hn e e2)
  exact ⟨b, off, e, Nat.lt_of_lt_of_le hlt hg.size, fun j hj => (World.cell?_of_block hb).trans (hc j hj)⟩⟩
theorem OwnY.place {B n : Nat} {w : World} {A : Option Addr} {xs : List Int} (h : OwnY B w A n xs) : ∃ g, (0 < n → A = some ⟨g, 0, none⟩) ∧ B ≤ g := by
  by_cases hn : 0 < n
  · obtain ⟨g, e, hB, _⟩ := h.2 hn
    exact ⟨g, fun _ => e, hB⟩
  · exact ⟨B, fun h => absurd h hn, Nat.le_refl _⟩
theorem OwnY.under {B n : Nat} {w : World} {A : Option Addr} {xs : List Int} (h : OwnY B w A n xs) : ∀ b off, 0 < n → A = some ⟨b, off, none⟩ → b < w.heap.size := fun b off hn e => by
  obtain ⟨g, e2, _, hl, _⟩ := h.2 hn
  rw [e] at e2; cases e2; exact hl
theorem putLaw (x : Int) (w : World) :
    Calls Try.prog 3 #[.int .i64 x] w fun e w' => e = .returned (.bool true) ∧ Below w.heap.size w w' := by
  have hl := putW_len x
  have HS := fun W => putS x W
  have HI := fun W => putI x W
  generalize putW x = xs at hl HS HI
  obtain ⟨n, hn⟩ : ∃ n, xs.length = n := ⟨_, rfl⟩
  rw [hn] at hl
  have HS := Lib.hid HS
  have HI := Lib.hid HI
  have HN := Lib.hid hn
  clear hn
  go_enter Try.func3, Try.ntmps3
  go_wp2_with fail
  refine (HS.out _).mono ?_
  rintro e v1 ⟨A0, n0, c0, rfl, o0, b1⟩
  obtain rfl : n0 = n := o0.1.symm.trans HN.out
  have U0 := Lib.hid o0.under
  have R0 := Lib.hid o0.rdI
  have B1 := Lib.hid b1
  clear o0 b1 HS
  go_wp2_with fail
  refine (HI.out _).mono ?_
  rintro e v2 ⟨A1, n1, c1, rfl, o1, b2⟩
  obtain rfl : n1 = n0 := o1.1.symm.trans HN.out
  have O1 := Lib.hid o1
  have R0b := Lib.hid (R0.out.of_below b2)
  have B2 := Lib.hid (B1.out.trans (b2.mono B1.out.size))
  have S1 := Lib.hid B1.out.size
  clear o1 b2 R0 B1
  go_wp2_with fail
  refine (eqByteS_same _ _ _ _ _ xs _ O1.out.rdI R0b.out (by omega)).mono ?_
  rintro e v3 ⟨rfl, m3, hm3⟩
  have b3 : Below v2.heap.size v2 v3 := hm3 ▸ below_drewN (Below.refl _ _) m3
  have O3 := Lib.hid (O1.out.of_below b3)
  have R3 := Lib.hid (R0b.out.of_below b3)
  have B3 := Lib.hid (B2.out.trans (b3.mono B2.out.size))
  clear O1 R0b B2 b3 hm3
  obtain ⟨g, hg, hgB⟩ := O3.out.place
  have HG := Lib.hid hg
  have HGB := Lib.hid hgB
  clear hg hgB
  go_wp2_with fail
  refine (markByteS_own _ _ _ _ g xs 1 _ O3.out HG.out (by omega) (by omega) (by omega)).mono ?_
  rintro e v4 ⟨rfl, o4, g4⟩
  have O4 := Lib.hid o4
  have R4 := Lib.hid (R3.out.grownO g4 (fun b off hn hA => by have := U0.out b off hn hA; have := HGB.out; omega))
  have B4 := Lib.hid (B3.out.grown g4 B3.out.size (fun r hr => by cases hr; have := HGB.out; have := S1.out; omega))
  clear O3 R3 B3 o4 g4 HG
  go_wp2_with fail
  refine (heldByteS_own _ _ _ _ 1 _ O4.out (by omega) (by omega) (by omega)).mono ?_
  rintro e v5 ⟨rfl, b5⟩
  have O5 := Lib.hid (O4.out.of_below b5)
  have R5 := Lib.hid (R4.out.of_below b5)
  have B5 := Lib.hid (B4.out.trans (b5.mono B4.out.size))
  clear O4 R4 B4 b5
  go_wp2_with fail
  refine (HI.out _).mono ?_
  rintro e v6 ⟨A2, n2, c2, rfl, o6, b6⟩
  obtain rfl : n2 = n1 := o6.1.symm.trans HN.out
  have O6 := Lib.hid (O5.out.of_below b6)
  have R6 := Lib.hid (R5.out.of_below b6)
  have H6 := Lib.hid o6.rdI
  have B6 := Lib.hid (B5.out.trans (b6.mono B5.out.size))
  clear O5 R5 B5 b6 o6 HI
  go_wp2_with fail
  refine (eqByteS_same _ _ _ _ _ xs _ H6.out R6.out (by omega)).mono ?_
  rintro e v7 ⟨rfl, m7, hm7⟩
  have b7 : Below v6.heap.size v6 v7 := hm7 ▸ below_drewN (Below.refl _ _) m7
  have O7 := Lib.hid (O6.out.of_below b7)
  have B7 := Lib.hid (B6.out.trans (b7.mono B6.out.size))
  clear O6 R6 H6 B6 b7 hm7
  go_wp2_with fail
  refine (heldByteS_own _ _ _ _ 1 _ O7.out (by omega) (by omega) (by omega)).mono ?_
  rintro e v8 ⟨rfl, b8⟩
  have B8 := Lib.hid (B7.out.trans (b8.mono B7.out.size))
  clear O7 B7 b8
  go_wp2_with fail
  go_ret
  exact ⟨rfl, B8.out⟩
end Qt
end Go.Proofs.Ytodjackfolaifaa
