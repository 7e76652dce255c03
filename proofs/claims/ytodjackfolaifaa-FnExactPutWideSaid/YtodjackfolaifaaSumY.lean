/- The sum over bytes, of the program and of its model: both the same number of the list of bytes. Conditions: the slice reads as the list that is named, each of it a byte. -/
import Derived.Test.YtodjackfolaifaaBytes
namespace Go.Proofs.Ytodjackfolaifaa
open Go.RowKit
namespace Qt
/-- Each of these is a byte. -/
def ByY (xs : List Int) : Prop := ∀ x ∈ xs, 0 ≤ x ∧ x ≤ 255
theorem ByY.at {xs : List Int} (h : ByY xs) (j : Nat) : 0 ≤ xs[j]?.getD 0 ∧ xs[j]?.getD 0 ≤ 255 := by
  by_cases hj : j < xs.length
  · rw [List.getElem?_eq_getElem hj, Option.getD_some]; exact h _ (List.getElem_mem hj)
  · rw [List.getElem?_eq_none (by omega)]; simp
theorem ByY.take {xs : List Int} (h : ByY xs) (k : Nat) : ByY (xs.take k) := fun x hx => h x (List.mem_of_mem_take hx)
def sumStep (s x : Int) : Int := (s * 257 + x + 1) % 1000003
def sumY (xs : List Int) : Int := xs.foldl sumStep 1
theorem sumY_bd (xs : List Int) : 0 ≤ sumY xs ∧ sumY xs ≤ 1000002 := by
  have h : ∀ (xs : List Int) (s : Int), 0 ≤ s ∧ s ≤ 1000002 → 0 ≤ xs.foldl sumStep s ∧ xs.foldl sumStep s ≤ 1000002 := by
    intro xs
    induction xs with
    | nil => intro s hs; exact hs
    | cons x xs ih => intro s hs; exact ih _ (by unfold sumStep; omega)
  exact h xs 1 (by omega)
theorem sumY_snoc (xs : List Int) (x : Int) : sumY (xs ++ [x]) = sumStep (sumY xs) x := by simp [sumY]
theorem sumY_take (xs : List Int) (k : Nat) (h : k < xs.length) : sumY (xs.take (k + 1)) = sumStep (sumY (xs.take k)) (xs[k]?.getD 0) := by
  rw [List.take_succ_eq_append_getElem h, sumY_snoc, List.getElem?_eq_getElem h, Option.getD_some]
theorem sumStep_eq (s x : Int) : (257 * s + x + 1) % 1000003 = sumStep s x := by unfold sumStep; rw [Int.mul_comm]
theorem sumStep_eq' (s x : Int) : (s * 257 + x + 1) % 1000003 = sumStep s x := rfl

theorem sumOfS (A : Option Addr) (n p : Nat) (xs : List Int) (W : World) (hr : RdB8 W A n xs) (hx : ByY xs) (hn : n ≤ 1048576) :
    Calls Try.prog 17 #[.slice A n p] W fun e W' => e = .returned (.int .i64 (sumY xs)) ∧ ∃ m, W' = W.drewN m := by
  have hn1 : (n : Int) ≤ 1048576 := by omega
  have HR := Lib.hid hr
  have HX := Lib.hid hx
  clear hr hx
  go_enter Try.func17, Try.ntmps17
  go_wp2
  go_loopw [3, 4] (fun q x wr => ∃ i : Nat, i ≤ n ∧ x = .int .i64 i ∧ q = .int .i64 (sumY (xs.take i)) ∧ ∃ m, wr = W.drewN m) (fun _ x _ => n - (intOf x).toNat)
  case atStart => exact ⟨0, Nat.zero_le _, rfl, by simp [sumY], 0, rfl⟩
  case round =>
    obtain ⟨i, hi, rfl, rfl, m, rfl⟩ := hrel
    have hb := sumY_bd (xs.take i)
    by_cases hlt : i < n
    · obtain ⟨b, off, rfl, _, hcc⟩ := HR.out.2 (by omega)
      have hc1 := hcc i hlt
      have hx1 := HX.out.at i
      have HS := Lib.hid (sumY_take xs i (by have := HR.out.1; omega))
      have hi2 : (i : Int) < (n : Int) := by omega
      clear hcc
      go_wp2
      try (go_quiet (fail); go_wp2)
      go_roundw
      case rel => exact ⟨i + 1, by omega, by go_num, by rw [HS.out, ← sumStep_eq], _, rfl⟩
      case measure => simp [intOf]; omega
    · obtain rfl : i = n := by omega
      rw [List.take_of_length_le (by have := HR.out.1; omega)]
      go_wp2
      go_ret
      exact ⟨rfl, _, rfl⟩

theorem sumOfI (A : Option Addr) (n p : Nat) (xs : List Int) (W : World) (hr : RdB8 W A n xs) (hx : ByY xs) (hn : n ≤ 1048576) :
    Calls Try.prog 18 #[.slice A n p] W fun e W' => e = .returned (.int .i64 (sumY xs)) ∧ ∃ m, W' = W.drewN m := by
  have hn1 : (n : Int) ≤ 1048576 := by omega
  have HR := Lib.hid hr
  have HX := Lib.hid hx
  clear hr hx
  go_enter Try.func18, Try.ntmps18
  go_wp2
  go_loopw [3, 8] (fun q x wr => ∃ i : Nat, i ≤ n ∧ x = .int .i64 i ∧ q = .int .i64 (sumY (xs.take i)) ∧ ∃ m, wr = W.drewN m) (fun _ x _ => n - (intOf x).toNat)
  case atStart => exact ⟨0, Nat.zero_le _, rfl, by simp [sumY], 0, rfl⟩
  case round =>
    obtain ⟨i, hi, rfl, rfl, m, rfl⟩ := hrel
    have hb := sumY_bd (xs.take i)
    by_cases hlt : i < n
    · obtain ⟨b, off, rfl, _, hcc⟩ := HR.out.2 (by omega)
      have hc1 := hcc i hlt
      have hx1 := HX.out.at i
      have HS := Lib.hid (sumY_take xs i (by have := HR.out.1; omega))
      have hi2 : (i : Int) < (n : Int) := by omega
      clear hcc
      go_wp2
      try (go_quiet (fail); go_wp2)
      go_roundw
      case rel => exact ⟨i + 1, by omega, by go_num, by rw [HS.out, ← sumStep_eq'], _, rfl⟩
      case measure => simp [intOf]; omega
    · obtain rfl : i = n := by omega
      rw [List.take_of_length_le (by have := HR.out.1; omega)]
      go_wp2
      go_ret
      exact ⟨rfl, _, rfl⟩
end Qt
end Go.Proofs.Ytodjackfolaifaa
