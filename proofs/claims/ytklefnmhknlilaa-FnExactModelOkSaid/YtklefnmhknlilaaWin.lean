/- What the small methods of window and filter of the program (empty, area, times) give when they are called. Conditions: those that are named. -/
import Derived.Test.YtklefnmhknlilaaRight
namespace Go.Proofs.Ytklefnmhknlilaa
open Go.RowKit Go.Sort
set_option linter.unusedSimpArgs false
namespace Qt
theorem winEmptyI (s t : Int) (W : World) :
    Calls Try.prog 95 #[.agg #[.int .i64 s, .int .i64 t]] W fun e W' => e = .returned (.bool (emptyW s t)) ∧ Below W.heap.size W W' := by
  have Bl := Lib.hid ((Below.refl _ W).alloc (Nat.le_refl _) (.cells #[.int .i64 s, .int .i64 t] 113))
  obtain ⟨R, hR⟩ : ∃ R, emptyW s t = R := ⟨_, rfl⟩
  rw [hR]
  have HR := Lib.hid hR
  clear hR
  by_cases e0 : s = 0
  · by_cases e1 : t = 0
    · obtain rfl : R = true := by rw [← HR.out]; simp [emptyW, e0, e1]
      subst e0 e1
      go_enter Try.func95, Try.ntmps95
      go_wp2
      go_ret
      exact ⟨rfl, Bl.out⟩
    · obtain rfl : R = false := by rw [← HR.out]; simp [emptyW, e0, e1]
      have e1b : (t == 0) = false := by simpa using e1
      subst e0
      go_enter Try.func95, Try.ntmps95
      go_wp2
      go_ret
      exact ⟨rfl, Bl.out⟩
  · obtain rfl : R = false := by rw [← HR.out]; simp [emptyW, e0]
    go_enter Try.func95, Try.ntmps95
    go_wp2
    go_ret
    exact ⟨rfl, Bl.out⟩
theorem filEmptyI (o m f z : Int) (A : Option Addr) (n p : Nat) (xs : List Int) (B : Option Addr) (q r : Nat) (ys : List Int) (W : World) (hl : xs.length = n) (hl2 : ys.length = q) (hn : n ≤ 1048576) (hq : q ≤ 1048576) :
    Calls Try.prog 97 #[.agg #[.int .i64 o, .int .i64 m, .int .i64 f, .int .i64 z, .slice A n p, .slice B q r]] W fun e W' => e = .returned (.bool (emptyF o m f xs ys)) ∧ Below W.heap.size W W' := by
  have hn0 : (0 : Int) ≤ n := Int.natCast_nonneg n
  have hn1 : (n : Int) ≤ 1048576 := by omega
  have hq0 : (0 : Int) ≤ q := Int.natCast_nonneg q
  have hq1 : (q : Int) ≤ 1048576 := by omega
  have Bl := Lib.hid ((Below.refl _ W).alloc (Nat.le_refl _) (.cells #[.int .i64 o, .int .i64 m, .int .i64 f, .int .i64 z, .slice A n p, .slice B q r] 109))
  obtain ⟨R, hR⟩ : ∃ R, emptyF o m f xs ys = R := ⟨_, rfl⟩
  rw [hR]
  have HR : Hid ((decide (o = 0) && (decide (m = 0) && (decide (f = 0) && (decide (n = 0) && decide (q = 0))))) = R) := Lib.hid (by rw [← hR, emptyF, hl, hl2])
  clear hR hn hq hl hl2
  by_cases e0 : o = 0
  case neg =>
    obtain rfl : R = false := by rw [← HR.out]; simp [e0]
    go_enter Try.func97, Try.ntmps97
    go_wp2
    go_ret
    exact ⟨rfl, Bl.out⟩
  subst e0
  by_cases e1 : m = 0
  case neg =>
    obtain rfl : R = false := by rw [← HR.out]; simp [e1]
    go_enter Try.func97, Try.ntmps97
    go_wp2
    go_ret
    exact ⟨rfl, Bl.out⟩
  subst e1
  by_cases e2 : f = 0
  case neg =>
    obtain rfl : R = false := by rw [← HR.out]; simp [e2]
    go_enter Try.func97, Try.ntmps97
    go_wp2
    go_ret
    exact ⟨rfl, Bl.out⟩
  subst e2
  by_cases e3 : n = 0
  case neg =>
    obtain rfl : R = false := by rw [← HR.out]; simp [e3]
    have e4 : (n : Int) ≠ 0 := by omega
    go_enter Try.func97, Try.ntmps97
    go_wp2
    go_ret
    exact ⟨rfl, Bl.out⟩
  subst e3
  by_cases e4 : q = 0
  case neg =>
    obtain rfl : R = false := by rw [← HR.out]; simp [e4]
    have e5 : (q : Int) ≠ 0 := by omega
    have e5b : ((q : Int) == 0) = false := by simpa using e5
    go_enter Try.func97, Try.ntmps97
    go_wp2
    go_ret
    exact ⟨rfl, Bl.out⟩
  subst e4
  obtain rfl : R = true := by rw [← HR.out]; simp
  go_enter Try.func97, Try.ntmps97
  go_wp2
  go_ret
  exact ⟨rfl, Bl.out⟩
theorem areaI (s t : Int) (W : World) (h1 : 1 ≤ s) (h2 : s ≤ 3) :
    Calls Try.prog 92 #[.agg #[.int .i64 s, .int .i64 t]] W fun e W' => e = .returned (.int .i64 (s * s)) ∧ Below W.heap.size W W' := by
  have Bl := Lib.hid ((Below.refl _ W).alloc (Nat.le_refl _) (.cells #[.int .i64 s, .int .i64 t] 113))
  obtain ⟨m1, m2⟩ := mulBd (by omega : 0 ≤ s) h2 (by omega : 0 ≤ s) h2
  go_enter Try.func92, Try.ntmps92
  go_wp2
  go_ret
  exact ⟨rfl, Bl.out⟩
theorem winTimesI (s t x : Int) (W : World) (h1 : 1 ≤ s) (h2 : s ≤ 3) (t1 : 1 ≤ t) (t2 : t ≤ 2) (x1 : s ≤ x) (x2 : x ≤ 8) :
    Calls Try.prog 120 #[.agg #[.int .i64 s, .int .i64 t], .int .i64 x] W fun e W' => e = .returned (.int .i64 ((x - s).tdiv t + 1)) ∧ Below W.heap.size W W' := by
  have Bl := Lib.hid ((Below.refl _ W).alloc (Nat.le_refl _) (.cells #[.int .i64 s, .int .i64 t] 113))
  obtain ⟨m1, m2⟩ := tdiv_bd (by omega : 0 ≤ x - s) (by omega) t1 t2
  have ht : t ≠ 0 := by omega
  go_enter Try.func120, Try.ntmps120
  go_wp2
  go_ret
  exact ⟨rfl, Bl.out⟩
end Qt
end Go.Proofs.Ytklefnmhknlilaa
