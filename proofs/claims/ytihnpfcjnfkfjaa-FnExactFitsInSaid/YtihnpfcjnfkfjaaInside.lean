/- What inside of the program gives when it is called. Conditions: the slice reads as the list that is named. -/
import Derived.Test.YtihnpfcjnfkfjaaOutMath
namespace Go.Proofs.Ytihnpfcjnfkfjaa
open Go.RowKit Go.Sort
namespace Qt
theorem insideI (lo hi : Int) (A : Option Addr) (n p : Nat) (xs : List Int) (W : World) (hr : RdI W A n xs) (hn : n ≤ 1048576) :
    Calls Try.prog 86 #[.int .i64 lo, .int .i64 hi, .slice A n p] W fun e W' => e = .returned (.bool (allIn lo hi xs)) ∧ ∃ m, W' = W.drewN m := by
  have RA := Lib.hid hr
  have hn0 : (0 : Int) ≤ n := Int.natCast_nonneg n
  have hn1 : (n : Int) ≤ 1048576 := by omega
  obtain ⟨b, hb⟩ : ∃ b, allIn lo hi xs = b := ⟨_, rfl⟩
  rw [hb]
  have HB := Lib.hid hb
  clear hb hr hn
  go_enter Try.func86, Try.ntmps86
  go_wp2
  go_loopw [11] (fun x wr => ∃ kk : Nat, kk ≤ n ∧ x = .int .i64 kk ∧ (∃ m, wr = W.drewN m) ∧ Hid (∀ j, j < kk → inB lo hi (xs[j]?.getD 0) = true)) (fun x _ => n - (intOf x).toNat)
  case atStart => exact ⟨0, Nat.zero_le _, rfl, ⟨0, rfl⟩, Lib.hid (fun j hj => absurd hj (Nat.not_lt_zero _))⟩
  case round =>
    obtain ⟨kk, hk, rfl, ⟨m, rfl⟩, HR⟩ := hrel
    by_cases hlt : kk < n
    · obtain ⟨b', off, rfl, hbl, hcell⟩ := RA.out.2 (by omega)
      have hc1 := hcell kk hlt
      have hi1 : (kk : Int) < (n : Int) := by omega
      clear hcell hbl
      rcases hx : inB lo hi (xs[kk]?.getD 0) with _ | _
      · obtain rfl : b = false := by rw [← HB.out]; exact allIn_no (by have := RA.out.1; omega) hx
        have hx1 := inB_no hx
        clear hx
        by_cases hl : xs[kk]?.getD 0 < lo
        · go_wp2
          go_ret
          exact ⟨rfl, _, rfl⟩
        · have hl2 : hi < xs[kk]?.getD 0 := by omega
          go_wp2
          go_ret
          exact ⟨rfl, _, rfl⟩
      · have HX := Lib.hid hx
        obtain ⟨hx1, hx2⟩ := inB_yes hx
        clear hx
        go_wp2
        go_roundw
        case rel =>
          refine ⟨kk + 1, by omega, by go_num, ⟨_, rfl⟩, Lib.hid (fun j hj => ?_)⟩
          rcases (by omega : j < kk ∨ j = kk) with h1 | rfl
          · exact HR.out j h1
          · exact HX.out
        case measure => simp [intOf]; omega
    · obtain rfl : n = kk := by omega
      obtain rfl : b = true := by rw [← HB.out]; exact allIn_yes (fun j hj => HR.out j (by have := RA.out.1; omega))
      clear HR
      go_wp2
      go_ret
      exact ⟨rfl, _, rfl⟩
end Qt
end Go.Proofs.Ytihnpfcjnfkfjaa
