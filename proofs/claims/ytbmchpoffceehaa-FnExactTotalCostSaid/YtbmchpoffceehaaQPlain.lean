/- What l03Plain of the model gives when it is called. Conditions: the slices read as the lists that are named. -/
import Derived.Test.YtbmchpoffceehaaQBaseC
namespace Go.Proofs.Ytbmchpoffceehaa
open Go.RowKit
set_option linter.unusedSimpArgs false
namespace Qt
set_option maxRecDepth 100000 in
set_option maxHeartbeats 2000000 in
theorem plain_true_true (k o s t m f z : Int) (A : Option Addr) (n p : Nat) (xs : List Int) (B : Option Addr) (q r : Nat) (ys : List Int) (W : World) (hr : RdI W A n xs) (hr2 : RdI W B q ys) (hn : n ≤ 1048576) (hq : q ≤ 1048576) :
    Calls Try.prog 99 #[.agg #[.int .i64 k, .int .i64 o, .int .i64 s, .int .i64 t, .int .i64 m, .int .i64 f, .int .i64 z, .slice A n p, .slice B q r], .bool true, .bool true] W fun e W' => e = .returned (.bool (plainB k o s t m f z xs ys true true)) ∧ Below W.heap.size W W' := by
  have HN := Lib.hid hn
  have HQ := Lib.hid hq
  have b0 := (Below.refl _ W).alloc (Nat.le_refl _) (.cells #[.int .i64 k, .int .i64 o, .int .i64 s, .int .i64 t, .int .i64 m, .int .i64 f, .int .i64 z, .slice A n p, .slice B q r] 104)
  have RA := Lib.hid (hr.of_below b0)
  have RB := Lib.hid (hr2.of_below b0)
  have Bl := Lib.hid b0
  clear hr hr2 hn hq b0
  obtain ⟨b, hb⟩ : ∃ b, plainB k o s t m f z xs ys true true = b := ⟨_, rfl⟩
  rw [hb]
  have HB := Lib.hid hb
  clear hb
  go_enter Try.func99, Try.ntmps99
  go_wp2_with fail
  with_reducible refine (inS 1 3 s _).mono ?_
  rintro e w' ⟨rfl, rfl⟩
  rcases w1 : inB 1 3 s with _ | _
  · obtain rfl : b = false := by rw [← HB.out]; simp [plainB, winB, w1]
    go_wp2
    go_ret
    exact ⟨rfl, Bl.out⟩
  have Hw1 := Lib.hid w1
  clear w1
  go_wp2_with fail
  with_reducible refine (inS 1 2 t _).mono ?_
  rintro e w' ⟨rfl, rfl⟩
  rcases w2 : inB 1 2 t with _ | _
  · obtain rfl : b = false := by rw [← HB.out]; simp [plainB, winB, w2]
    go_wp2
    go_ret
    exact ⟨rfl, Bl.out⟩
  have Hw2 := Lib.hid w2
  clear w2
  go_wp2_with fail
  with_reducible refine (inS 1 8 o _).mono ?_
  rintro e w' ⟨rfl, rfl⟩
  rcases c1 : inB 1 8 o with _ | _
  · obtain rfl : b = false := by rw [← HB.out]; simp [plainB, weighB, c1]
    go_wp2
    go_ret
    exact ⟨rfl, Bl.out⟩
  have Hc1 := Lib.hid c1
  clear c1
  go_wp2_with fail
  with_reducible refine (inS 0 2147483647 m _).mono ?_
  rintro e w' ⟨rfl, rfl⟩
  rcases c2 : inB 0 2147483647 m with _ | _
  · obtain rfl : b = false := by rw [← HB.out]; simp [plainB, weighB, c2]
    go_wp2
    go_ret
    exact ⟨rfl, Bl.out⟩
  have Hc2 := Lib.hid c2
  clear c2
  go_wp2_with fail
  with_reducible refine (inS 0 31 f _).mono ?_
  rintro e w' ⟨rfl, rfl⟩
  rcases c3 : inB 0 31 f with _ | _
  · obtain rfl : b = false := by rw [← HB.out]; simp [plainB, weighB, c3]
    go_wp2
    go_ret
    exact ⟨rfl, Bl.out⟩
  have Hc3 := Lib.hid c3
  clear c3
  go_wp2_with fail
  with_reducible refine (int8B z _).mono ?_
  rintro e w' ⟨rfl, rfl⟩
  rcases c4 : inB (-128) 127 z with _ | _
  · obtain rfl : b = false := by rw [← HB.out]; simp [plainB, weighB, c4]
    go_wp2
    go_ret
    exact ⟨rfl, Bl.out⟩
  have Hc4 := Lib.hid c4
  clear c4
  by_cases c5 : (q : Int) = o
  case neg =>
    obtain rfl : b = false := by rw [← HB.out]; simp [plainB, weighB, RB.out.1, c5]
    go_wp2
    go_ret
    exact ⟨rfl, Bl.out⟩
  have hq0 : (0 : Int) ≤ q := Int.natCast_nonneg q
  have hn0 : (0 : Int) ≤ n := Int.natCast_nonneg n
  have hn1 : (n : Int) ≤ 1048576 := by have := HN.out; omega
  have hq1 : (q : Int) ≤ 1048576 := by have := HQ.out; omega
  go_wp2_with fail
  have C5 := Lib.hid c5
  clear c5
  go_loopw [7] (fun x wr => ∃ kk : Nat, kk ≤ q ∧ x = .int .i64 kk ∧ wr = W.alloc (.cells #[.int .i64 k, .int .i64 o, .int .i64 s, .int .i64 t, .int .i64 m, .int .i64 f, .int .i64 z, .slice A n p, .slice B q r] 104) ∧ Hid (∀ j, j < kk → inB (-1000000) 1000000 (ys[j]?.getD 0) = true)) (fun x _ => q - (intOf x).toNat)
  case atStart => exact ⟨0, Nat.zero_le _, rfl, rfl, Lib.hid (fun j hj => absurd hj (Nat.not_lt_zero _))⟩
  case round =>
    obtain ⟨kk, hk, rfl, rfl, HR⟩ := hrel
    by_cases hlt : kk < q
    · obtain ⟨b', off, rfl, hbl, hcell⟩ := RB.out.2 (by omega)
      have hc1 := hcell kk hlt
      have hi : (kk : Int) < (q : Int) := by omega
      clear hcell hbl
      go_wp2_with fail
      with_reducible refine (inS (-1000000) 1000000 (ys[kk]?.getD 0) _).mono ?_
      rintro e w' ⟨rfl, rfl⟩
      rcases hx : inB (-1000000) 1000000 (ys[kk]?.getD 0) with _ | _
      · obtain rfl : b = false := by rw [← HB.out]; simp [plainB, weighB, allIn_no (by have := RB.out.1; omega) hx]
        go_wp2
        go_ret
        exact ⟨rfl, Bl.out⟩
      · go_wp2
        go_roundw
        case rel =>
          refine ⟨kk + 1, by omega, by go_num, (by first | rfl | trivial), Lib.hid (fun j hj => ?_)⟩
          rcases (by omega : j < kk ∨ j = kk) with h1 | rfl
          · exact HR.out j h1
          · exact hx
        case measure => simp [intOf]; omega
    · obtain rfl : q = kk := by omega
      have Hc6 := Lib.hid (show allIn (-1000000) 1000000 ys = true from allIn_yes (fun j hj => HR.out j (by have := RB.out.1; omega)))
      clear HR
      go_wp2_with fail
      go_loopw [8] (fun x wr => ∃ kk : Nat, kk ≤ n ∧ x = .int .i64 kk ∧ wr = W.alloc (.cells #[.int .i64 k, .int .i64 o, .int .i64 s, .int .i64 t, .int .i64 m, .int .i64 f, .int .i64 z, .slice A n p, .slice B q r] 104) ∧ Hid (∀ j, j < kk → inB (-128) 127 (xs[j]?.getD 0) = true)) (fun x _ => n - (intOf x).toNat)
      case atStart => exact ⟨0, Nat.zero_le _, rfl, rfl, Lib.hid (fun j hj => absurd hj (Nat.not_lt_zero _))⟩
      case round =>
        obtain ⟨kk, hk, rfl, rfl, HR⟩ := hrel
        by_cases hlt : kk < n
        · obtain ⟨b', off, rfl, hbl, hcell⟩ := RA.out.2 (by omega)
          have hc1 := hcell kk hlt
          have hi : (kk : Int) < (n : Int) := by omega
          clear hcell hbl
          go_wp2_with fail
          with_reducible refine (int8B (xs[kk]?.getD 0) _).mono ?_
          rintro e w' ⟨rfl, rfl⟩
          rcases hx : inB (-128) 127 (xs[kk]?.getD 0) with _ | _
          · obtain rfl : b = false := by rw [← HB.out]; simp [plainB, weighB, allIn_no (by have := RA.out.1; omega) hx]
            go_wp2
            go_ret
            exact ⟨rfl, Bl.out⟩
          · go_wp2
            go_roundw
            case rel =>
              refine ⟨kk + 1, by omega, by go_num, (by first | rfl | trivial), Lib.hid (fun j hj => ?_)⟩
              rcases (by omega : j < kk ∨ j = kk) with h1 | rfl
              · exact HR.out j h1
              · exact hx
            case measure => simp [intOf]; omega
        · obtain rfl : n = kk := by omega
          have Hc7 := Lib.hid (show allIn (-128) 127 xs = true from allIn_yes (fun j hj => HR.out j (by have := RA.out.1; omega)))
          clear HR
          obtain rfl : b = true := by rw [← HB.out]; simp [plainB, weighB, winB, Hw1.out, Hw2.out, Hc1.out, Hc2.out, Hc3.out, Hc4.out, RB.out.1, C5.out, Hc6.out, Hc7.out]
          go_wp2
          go_ret
          exact ⟨rfl, Bl.out⟩

set_option maxRecDepth 100000 in
set_option maxHeartbeats 2000000 in
theorem plain_true_false (k o s t m f z : Int) (A : Option Addr) (n p : Nat) (xs : List Int) (B : Option Addr) (q r : Nat) (ys : List Int) (W : World) (hr : RdI W A n xs) (hr2 : RdI W B q ys) (hn : n ≤ 1048576) (hq : q ≤ 1048576) :
    Calls Try.prog 99 #[.agg #[.int .i64 k, .int .i64 o, .int .i64 s, .int .i64 t, .int .i64 m, .int .i64 f, .int .i64 z, .slice A n p, .slice B q r], .bool true, .bool false] W fun e W' => e = .returned (.bool (plainB k o s t m f z xs ys true false)) ∧ Below W.heap.size W W' := by
  have HN := Lib.hid hn
  have HQ := Lib.hid hq
  have b0 := (Below.refl _ W).alloc (Nat.le_refl _) (.cells #[.int .i64 k, .int .i64 o, .int .i64 s, .int .i64 t, .int .i64 m, .int .i64 f, .int .i64 z, .slice A n p, .slice B q r] 104)
  have RA := Lib.hid (hr.of_below b0)
  have RB := Lib.hid (hr2.of_below b0)
  have Bl := Lib.hid b0
  clear hr hr2 hn hq b0
  obtain ⟨b, hb⟩ : ∃ b, plainB k o s t m f z xs ys true false = b := ⟨_, rfl⟩
  rw [hb]
  have HB := Lib.hid hb
  clear hb
  go_enter Try.func99, Try.ntmps99
  go_wp2_with fail
  with_reducible refine (inS 1 3 s _).mono ?_
  rintro e w' ⟨rfl, rfl⟩
  rcases w1 : inB 1 3 s with _ | _
  · obtain rfl : b = false := by rw [← HB.out]; simp [plainB, winB, w1]
    go_wp2
    go_ret
    exact ⟨rfl, Bl.out⟩
  have Hw1 := Lib.hid w1
  clear w1
  go_wp2_with fail
  with_reducible refine (inS 1 2 t _).mono ?_
  rintro e w' ⟨rfl, rfl⟩
  rcases w2 : inB 1 2 t with _ | _
  · obtain rfl : b = false := by rw [← HB.out]; simp [plainB, winB, w2]
    go_wp2
    go_ret
    exact ⟨rfl, Bl.out⟩
  have Hw2 := Lib.hid w2
  clear w2
  by_cases e0 : o = 0
  case neg =>
    obtain rfl : b = false := by rw [← HB.out]; simp [plainB, emptyF, e0]
    go_wp2
    go_ret
    exact ⟨rfl, Bl.out⟩
  subst e0
  by_cases e1 : m = 0
  case neg =>
    obtain rfl : b = false := by rw [← HB.out]; simp [plainB, emptyF, e1]
    go_wp2
    go_ret
    exact ⟨rfl, Bl.out⟩
  subst e1
  by_cases e2 : f = 0
  case neg =>
    obtain rfl : b = false := by rw [← HB.out]; simp [plainB, emptyF, e2]
    go_wp2
    go_ret
    exact ⟨rfl, Bl.out⟩
  subst e2
  by_cases e3 : n = 0
  case neg =>
    obtain rfl : b = false := by rw [← HB.out]; simp only [plainB, emptyF, RA.out.1, e3]; simp
    have hp : (0 : Int) < n := by omega
    go_wp2
    go_ret
    exact ⟨rfl, Bl.out⟩
  subst e3
  by_cases e4 : q = 0
  case neg =>
    obtain rfl : b = false := by rw [← HB.out]; simp only [plainB, emptyF, RB.out.1, e4]; simp
    have hp : (0 : Int) < q := by omega
    go_wp2
    go_ret
    exact ⟨rfl, Bl.out⟩
  subst e4
  by_cases hk : k = 4
  · subst hk
    have hz : zeroB 4 z = inB (-128) 127 z := rfl
    go_wp2_with fail
    with_reducible refine (int8B z _).mono ?_
    rintro e w' ⟨rfl, rfl⟩
    obtain rfl : b = inB (-128) 127 z := by rw [← HB.out]; simp [plainB, emptyF, winB, Hw1.out, Hw2.out, hz, RA.out.1, RB.out.1]
    go_wp2_with fail
    go_ret
    exact ⟨rfl, Bl.out⟩
  · have hz : zeroB k z = (z == 0) := by rw [zeroB, if_neg hk]; rfl
    obtain rfl : b = (z == 0) := by rw [← HB.out]; simp [plainB, emptyF, winB, Hw1.out, Hw2.out, hz, RA.out.1, RB.out.1]
    go_wp2
    go_ret
    exact ⟨rfl, Bl.out⟩

set_option maxRecDepth 100000 in
set_option maxHeartbeats 2000000 in
theorem plain_false_true (k o s t m f z : Int) (A : Option Addr) (n p : Nat) (xs : List Int) (B : Option Addr) (q r : Nat) (ys : List Int) (W : World) (hr : RdI W A n xs) (hr2 : RdI W B q ys) (hn : n ≤ 1048576) (hq : q ≤ 1048576) :
    Calls Try.prog 99 #[.agg #[.int .i64 k, .int .i64 o, .int .i64 s, .int .i64 t, .int .i64 m, .int .i64 f, .int .i64 z, .slice A n p, .slice B q r], .bool false, .bool true] W fun e W' => e = .returned (.bool (plainB k o s t m f z xs ys false true)) ∧ Below W.heap.size W W' := by
  have HN := Lib.hid hn
  have HQ := Lib.hid hq
  have b0 := (Below.refl _ W).alloc (Nat.le_refl _) (.cells #[.int .i64 k, .int .i64 o, .int .i64 s, .int .i64 t, .int .i64 m, .int .i64 f, .int .i64 z, .slice A n p, .slice B q r] 104)
  have RA := Lib.hid (hr.of_below b0)
  have RB := Lib.hid (hr2.of_below b0)
  have Bl := Lib.hid b0
  clear hr hr2 hn hq b0
  obtain ⟨b, hb⟩ : ∃ b, plainB k o s t m f z xs ys false true = b := ⟨_, rfl⟩
  rw [hb]
  have HB := Lib.hid hb
  clear hb
  go_enter Try.func99, Try.ntmps99
  by_cases w1 : s = 0
  case neg =>
    obtain rfl : b = false := by rw [← HB.out]; simp [plainB, emptyW, w1]
    go_wp2
    go_ret
    exact ⟨rfl, Bl.out⟩
  subst w1
  by_cases w2 : t = 0
  case neg =>
    obtain rfl : b = false := by rw [← HB.out]; simp [plainB, emptyW, w2]
    go_wp2
    go_ret
    exact ⟨rfl, Bl.out⟩
  subst w2
  go_wp2_with fail
  with_reducible refine (inS 1 8 o _).mono ?_
  rintro e w' ⟨rfl, rfl⟩
  rcases c1 : inB 1 8 o with _ | _
  · obtain rfl : b = false := by rw [← HB.out]; simp [plainB, weighB, c1]
    go_wp2
    go_ret
    exact ⟨rfl, Bl.out⟩
  have Hc1 := Lib.hid c1
  clear c1
  go_wp2_with fail
  with_reducible refine (inS 0 2147483647 m _).mono ?_
  rintro e w' ⟨rfl, rfl⟩
  rcases c2 : inB 0 2147483647 m with _ | _
  · obtain rfl : b = false := by rw [← HB.out]; simp [plainB, weighB, c2]
    go_wp2
    go_ret
    exact ⟨rfl, Bl.out⟩
  have Hc2 := Lib.hid c2
  clear c2
  go_wp2_with fail
  with_reducible refine (inS 0 31 f _).mono ?_
  rintro e w' ⟨rfl, rfl⟩
  rcases c3 : inB 0 31 f with _ | _
  · obtain rfl : b = false := by rw [← HB.out]; simp [plainB, weighB, c3]
    go_wp2
    go_ret
    exact ⟨rfl, Bl.out⟩
  have Hc3 := Lib.hid c3
  clear c3
  go_wp2_with fail
  with_reducible refine (int8B z _).mono ?_
  rintro e w' ⟨rfl, rfl⟩
  rcases c4 : inB (-128) 127 z with _ | _
  · obtain rfl : b = false := by rw [← HB.out]; simp [plainB, weighB, c4]
    go_wp2
    go_ret
    exact ⟨rfl, Bl.out⟩
  have Hc4 := Lib.hid c4
  clear c4
  by_cases c5 : (q : Int) = o
  case neg =>
    obtain rfl : b = false := by rw [← HB.out]; simp [plainB, weighB, RB.out.1, c5]
    go_wp2
    go_ret
    exact ⟨rfl, Bl.out⟩
  have hq0 : (0 : Int) ≤ q := Int.natCast_nonneg q
  have hn0 : (0 : Int) ≤ n := Int.natCast_nonneg n
  have hn1 : (n : Int) ≤ 1048576 := by have := HN.out; omega
  have hq1 : (q : Int) ≤ 1048576 := by have := HQ.out; omega
  go_wp2_with fail
  have C5 := Lib.hid c5
  clear c5
  go_loopw [7] (fun x wr => ∃ kk : Nat, kk ≤ q ∧ x = .int .i64 kk ∧ wr = W.alloc (.cells #[.int .i64 k, .int .i64 o, .int .i64 0, .int .i64 0, .int .i64 m, .int .i64 f, .int .i64 z, .slice A n p, .slice B q r] 104) ∧ Hid (∀ j, j < kk → inB (-1000000) 1000000 (ys[j]?.getD 0) = true)) (fun x _ => q - (intOf x).toNat)
  case atStart => exact ⟨0, Nat.zero_le _, rfl, rfl, Lib.hid (fun j hj => absurd hj (Nat.not_lt_zero _))⟩
  case round =>
    obtain ⟨kk, hk, rfl, rfl, HR⟩ := hrel
    by_cases hlt : kk < q
    · obtain ⟨b', off, rfl, hbl, hcell⟩ := RB.out.2 (by omega)
      have hc1 := hcell kk hlt
      have hi : (kk : Int) < (q : Int) := by omega
      clear hcell hbl
      go_wp2_with fail
      with_reducible refine (inS (-1000000) 1000000 (ys[kk]?.getD 0) _).mono ?_
      rintro e w' ⟨rfl, rfl⟩
      rcases hx : inB (-1000000) 1000000 (ys[kk]?.getD 0) with _ | _
      · obtain rfl : b = false := by rw [← HB.out]; simp [plainB, weighB, allIn_no (by have := RB.out.1; omega) hx]
        go_wp2
        go_ret
        exact ⟨rfl, Bl.out⟩
      · go_wp2
        go_roundw
        case rel =>
          refine ⟨kk + 1, by omega, by go_num, (by first | rfl | trivial), Lib.hid (fun j hj => ?_)⟩
          rcases (by omega : j < kk ∨ j = kk) with h1 | rfl
          · exact HR.out j h1
          · exact hx
        case measure => simp [intOf]; omega
    · obtain rfl : q = kk := by omega
      have Hc6 := Lib.hid (show allIn (-1000000) 1000000 ys = true from allIn_yes (fun j hj => HR.out j (by have := RB.out.1; omega)))
      clear HR
      go_wp2_with fail
      go_loopw [8] (fun x wr => ∃ kk : Nat, kk ≤ n ∧ x = .int .i64 kk ∧ wr = W.alloc (.cells #[.int .i64 k, .int .i64 o, .int .i64 0, .int .i64 0, .int .i64 m, .int .i64 f, .int .i64 z, .slice A n p, .slice B q r] 104) ∧ Hid (∀ j, j < kk → inB (-128) 127 (xs[j]?.getD 0) = true)) (fun x _ => n - (intOf x).toNat)
      case atStart => exact ⟨0, Nat.zero_le _, rfl, rfl, Lib.hid (fun j hj => absurd hj (Nat.not_lt_zero _))⟩
      case round =>
        obtain ⟨kk, hk, rfl, rfl, HR⟩ := hrel
        by_cases hlt : kk < n
        · obtain ⟨b', off, rfl, hbl, hcell⟩ := RA.out.2 (by omega)
          have hc1 := hcell kk hlt
          have hi : (kk : Int) < (n : Int) := by omega
          clear hcell hbl
          go_wp2_with fail
          with_reducible refine (int8B (xs[kk]?.getD 0) _).mono ?_
          rintro e w' ⟨rfl, rfl⟩
          rcases hx : inB (-128) 127 (xs[kk]?.getD 0) with _ | _
          · obtain rfl : b = false := by rw [← HB.out]; simp [plainB, weighB, allIn_no (by have := RA.out.1; omega) hx]
            go_wp2
            go_ret
            exact ⟨rfl, Bl.out⟩
          · go_wp2
            go_roundw
            case rel =>
              refine ⟨kk + 1, by omega, by go_num, (by first | rfl | trivial), Lib.hid (fun j hj => ?_)⟩
              rcases (by omega : j < kk ∨ j = kk) with h1 | rfl
              · exact HR.out j h1
              · exact hx
            case measure => simp [intOf]; omega
        · obtain rfl : n = kk := by omega
          have Hc7 := Lib.hid (show allIn (-128) 127 xs = true from allIn_yes (fun j hj => HR.out j (by have := RA.out.1; omega)))
          clear HR
          obtain rfl : b = true := by rw [← HB.out]; simp [plainB, weighB, emptyW, Hc1.out, Hc2.out, Hc3.out, Hc4.out, RB.out.1, C5.out, Hc6.out, Hc7.out]
          go_wp2
          go_ret
          exact ⟨rfl, Bl.out⟩

set_option maxRecDepth 100000 in
set_option maxHeartbeats 2000000 in
theorem plain_false_false (k o s t m f z : Int) (A : Option Addr) (n p : Nat) (xs : List Int) (B : Option Addr) (q r : Nat) (ys : List Int) (W : World) (hr : RdI W A n xs) (hr2 : RdI W B q ys) (hn : n ≤ 1048576) (hq : q ≤ 1048576) :
    Calls Try.prog 99 #[.agg #[.int .i64 k, .int .i64 o, .int .i64 s, .int .i64 t, .int .i64 m, .int .i64 f, .int .i64 z, .slice A n p, .slice B q r], .bool false, .bool false] W fun e W' => e = .returned (.bool (plainB k o s t m f z xs ys false false)) ∧ Below W.heap.size W W' := by
  have HN := Lib.hid hn
  have HQ := Lib.hid hq
  have b0 := (Below.refl _ W).alloc (Nat.le_refl _) (.cells #[.int .i64 k, .int .i64 o, .int .i64 s, .int .i64 t, .int .i64 m, .int .i64 f, .int .i64 z, .slice A n p, .slice B q r] 104)
  have RA := Lib.hid (hr.of_below b0)
  have RB := Lib.hid (hr2.of_below b0)
  have Bl := Lib.hid b0
  clear hr hr2 hn hq b0
  obtain ⟨b, hb⟩ : ∃ b, plainB k o s t m f z xs ys false false = b := ⟨_, rfl⟩
  rw [hb]
  have HB := Lib.hid hb
  clear hb
  go_enter Try.func99, Try.ntmps99
  by_cases w1 : s = 0
  case neg =>
    obtain rfl : b = false := by rw [← HB.out]; simp [plainB, emptyW, w1]
    go_wp2
    go_ret
    exact ⟨rfl, Bl.out⟩
  subst w1
  by_cases w2 : t = 0
  case neg =>
    obtain rfl : b = false := by rw [← HB.out]; simp [plainB, emptyW, w2]
    go_wp2
    go_ret
    exact ⟨rfl, Bl.out⟩
  subst w2
  by_cases e0 : o = 0
  case neg =>
    obtain rfl : b = false := by rw [← HB.out]; simp [plainB, emptyF, e0]
    go_wp2
    go_ret
    exact ⟨rfl, Bl.out⟩
  subst e0
  by_cases e1 : m = 0
  case neg =>
    obtain rfl : b = false := by rw [← HB.out]; simp [plainB, emptyF, e1]
    go_wp2
    go_ret
    exact ⟨rfl, Bl.out⟩
  subst e1
  by_cases e2 : f = 0
  case neg =>
    obtain rfl : b = false := by rw [← HB.out]; simp [plainB, emptyF, e2]
    go_wp2
    go_ret
    exact ⟨rfl, Bl.out⟩
  subst e2
  by_cases e3 : n = 0
  case neg =>
    obtain rfl : b = false := by rw [← HB.out]; simp only [plainB, emptyF, RA.out.1, e3]; simp
    have hp : (0 : Int) < n := by omega
    go_wp2
    go_ret
    exact ⟨rfl, Bl.out⟩
  subst e3
  by_cases e4 : q = 0
  case neg =>
    obtain rfl : b = false := by rw [← HB.out]; simp only [plainB, emptyF, RB.out.1, e4]; simp
    have hp : (0 : Int) < q := by omega
    go_wp2
    go_ret
    exact ⟨rfl, Bl.out⟩
  subst e4
  by_cases hk : k = 4
  · subst hk
    have hz : zeroB 4 z = inB (-128) 127 z := rfl
    go_wp2_with fail
    with_reducible refine (int8B z _).mono ?_
    rintro e w' ⟨rfl, rfl⟩
    obtain rfl : b = inB (-128) 127 z := by rw [← HB.out]; simp [plainB, emptyF, emptyW, hz, RA.out.1, RB.out.1]
    go_wp2_with fail
    go_ret
    exact ⟨rfl, Bl.out⟩
  · have hz : zeroB k z = (z == 0) := by rw [zeroB, if_neg hk]; rfl
    obtain rfl : b = (z == 0) := by rw [← HB.out]; simp [plainB, emptyF, emptyW, hz, RA.out.1, RB.out.1]
    go_wp2
    go_ret
    exact ⟨rfl, Bl.out⟩

end Qt
end Go.Proofs.Ytbmchpoffceehaa
