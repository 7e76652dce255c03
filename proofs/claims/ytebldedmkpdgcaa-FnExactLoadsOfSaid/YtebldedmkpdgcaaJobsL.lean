/- What JobsOk and LowerBound (of the program and of its model) give when they are called. Conditions: the slice reads as the list that is named. -/
import Derived.Test.YtebldedmkpdgcaaSca
import Derived.Test.YtebldedmkpdgcaaCal
import Derived.Test.YtebldedmkpdgcaaSumUp
namespace Go.Proofs.Ytebldedmkpdgcaa
open Go.RowKit Go.Sort
set_option linter.unusedSimpArgs false
set_option linter.unusedVariables false
namespace Qt
def jobsB (xs : List Int) : Bool := decide (xs.length ≤ 40) && allIn 1 1000 xs
def lowB (xs : List Int) (k : Int) : Int := if jobsB xs && inB 1 6 k then xs.foldl max (upD (sumL xs) k) else -1
theorem jobsB_len {xs : List Int} (h : ¬ xs.length ≤ 40) : jobsB xs = false := by simp [jobsB, h]
theorem jobsB_at {xs : List Int} {k : Nat} (hk : k < xs.length) (h : inB 1 1000 (xs[k]?.getD 0) = false) : jobsB xs = false := by
  have : allIn 1 1000 xs = false := allIn_no hk h
  simp [jobsB, this]
theorem jobsB_all {xs : List Int} (h1 : xs.length ≤ 40) (h : ∀ j, j < xs.length → inB 1 1000 (xs[j]?.getD 0) = true) : jobsB xs = true := by
  have : allIn 1 1000 xs = true := allIn_yes h
  simp [jobsB, this, h1]
theorem jobsB_yes {xs : List Int} (h : jobsB xs = true) : xs.length ≤ 40 ∧ allIn 1 1000 xs = true := by simpa [jobsB] using h
theorem jobsB_mem {xs : List Int} (h : jobsB xs = true) : ∀ x ∈ xs, 1 ≤ x ∧ x ≤ 1000 := fun x hx => inB_iff.1 (List.all_eq_true.1 (jobsB_yes h).2 x hx)
theorem sum_jobs {xs : List Int} (h : jobsB xs = true) (k : Nat) : 0 ≤ sumL (xs.take k) ∧ sumL (xs.take k) ≤ 40000 := by
  have h1 := sumL_bd (xs.take k) 0 1000 (fun x hx => by have := jobsB_mem h x (List.mem_of_mem_take hx); omega)
  have h2 := (jobsB_yes h).1
  have h3 := List.length_take_le k xs
  have h4 : (xs.take k).length ≤ xs.length := by rw [List.length_take]; omega
  omega
theorem jobsOkS (A : Option Addr) (n p : Nat) (xs : List Int) (W : World) (hr : RdI W A n xs) (hn : n ≤ 1048576) :
    Calls Try.prog 75 #[.slice A n p] W fun e W' => e = .returned (.bool (jobsB xs)) ∧ ∃ m, W' = W.drewN m := by
  obtain ⟨b, hb⟩ : ∃ b, b = jobsB xs := ⟨_, rfl⟩
  rw [← hb]
  have HB := Lib.hid hb
  have RA := Lib.hid hr
  have HLN := Lib.hid hr.1
  clear hb hr
  have hn0 : (0 : Int) ≤ n := Int.natCast_nonneg n
  have hn1 : (n : Int) ≤ 1048576 := by omega
  by_cases hl : (40 : Int) < (n : Int)
  · obtain rfl : b = false := by rw [HB.out]; exact jobsB_len (by rw [HLN.out]; omega)
    go_enter Try.func75, Try.ntmps75
    go_wp2_with fail
    go_ret
    exact ⟨rfl, 0, rfl⟩
  go_enter Try.func75, Try.ntmps75
  go_wp2_with fail
  go_loopw [3] (fun i wr => ∃ k : Nat, k ≤ n ∧ i = .int .i64 k ∧ Hid (∀ j, j < k → inB 1 1000 (xs[j]?.getD 0) = true) ∧ ∃ m, wr = W.drewN m) (fun i _ => n - (intOf i).toNat)
  case atStart => exact ⟨0, Nat.zero_le _, rfl, Lib.hid (fun j hj => absurd hj (Nat.not_lt_zero _)), 0, rfl⟩
  case round =>
    obtain ⟨k, hk, rfl, HR, m, rfl⟩ := hrel
    by_cases hlt : k < n
    · obtain ⟨b', off, rfl, hbl, hcell⟩ := RA.out.2 (by omega)
      have hc1 := hcell k hlt
      have hx1 : xs.getD k 0 = xs[k]?.getD 0 := List.getD_eq_getElem?_getD ..
      rw [hx1] at hc1
      have HKL : Hid (k < xs.length) := Lib.hid (by rw [HLN.out]; exact hlt)
      obtain ⟨x, hx⟩ : ∃ x, x = xs[k]?.getD 0 := ⟨_, rfl⟩
      rw [← hx] at hc1
      have HX := Lib.hid hx
      have hi1 : (k : Int) < (n : Int) := by omega
      clear hcell hbl hx1 hx
      go_wp2_with fail
      refine (inS 1 1000 x _).mono ?_
      rintro e w2 ⟨rfl, rfl⟩
      rcases hr : inB 1 1000 x with _ | _
      · obtain rfl : b = false := by rw [HB.out]; exact jobsB_at HKL.out (by rw [← HX.out]; exact hr)
        clear hr
        go_wp2_with fail
        go_ret
        exact ⟨rfl, _, rfl⟩
      have HRX := Lib.hid hr
      clear hr
      go_wp2_with fail
      go_roundw
      case rel =>
        refine ⟨k + 1, by omega, by go_num, Lib.hid (fun j hj => ?_), _, rfl⟩
        rcases (by omega : j < k ∨ j = k) with h1 | rfl
        · exact HR.out j h1
        · rw [← HX.out]; exact HRX.out
      case measure => simp [intOf]; omega
    · obtain rfl : k = n := by omega
      obtain rfl : b = true := by rw [HB.out]; exact jobsB_all (by rw [HLN.out]; omega) (fun j hj => HR.out j (by rw [HLN.out] at hj; exact hj))
      go_wp2_with fail
      go_ret
      exact ⟨rfl, _, rfl⟩
theorem jobsOkSB (A : Option Addr) (n p : Nat) (xs : List Int) (W : World) (hr : RdI W A n xs) (hn : n ≤ 1048576) :
    Calls Try.prog 75 #[.slice A n p] W fun e W' => e = .returned (.bool (jobsB xs)) ∧ Below W.heap.size W W' :=
  (jobsOkS A n p xs W hr hn).mono fun _ _ ⟨h1, m, h2⟩ => ⟨h1, h2 ▸ below_drewN (Below.refl _ _) m⟩
theorem jobsOkI (A : Option Addr) (n p : Nat) (xs : List Int) (W : World) (hr : RdI W A n xs) (hn : n ≤ 1048576) :
    Calls Try.prog 76 #[.slice A n p] W fun e W' => e = .returned (.bool (jobsB xs)) ∧ Below W.heap.size W W' := by
  have HI := Lib.hid (insideB 1 1000 A n p xs W hr hn)
  have HLN := Lib.hid hr.1
  clear hr
  have hn1 : (n : Int) ≤ 1048576 := by omega
  by_cases hl : n ≤ 40
  · have hb : jobsB xs = allIn 1 1000 xs := by simp [jobsB, HLN.out, hl]
    rw [hb]
    have hl2 : (n : Int) ≤ 40 := by omega
    clear hb hl
    go_enter Try.func76, Try.ntmps76
    go_wp2_with fail
    refine HI.out.mono ?_
    rintro e w1 ⟨rfl, b1⟩
    have B1 := Lib.hid b1
    clear b1 HI
    go_wp2_with fail
    go_ret
    exact ⟨rfl, B1.out⟩
  · have hb : jobsB xs = false := jobsB_len (by rw [HLN.out]; exact hl)
    rw [hb]
    have hl2 : (40 : Int) < (n : Int) := by omega
    clear hb hl
    go_enter Try.func76, Try.ntmps76
    go_wp2_with fail
    go_ret
    exact ⟨rfl, Below.refl _ _⟩
theorem workersOkI (x : Int) (W : World) : Calls Try.prog 72 #[.int .i64 x] W fun e W' => e = .returned (.bool (inB 1 6 x)) ∧ Below W.heap.size W W' := by
  go_enter Try.func72, Try.ntmps72
  go_wp2_with fail
  refine (inside1I 1 6 x _ _ _ (Bk.new W 3 #[.int .i64 x])).mono ?_
  rintro e w1 ⟨rfl, b1⟩
  have B1 := Lib.hid (after1 b1)
  clear b1
  go_wp2_with fail
  go_ret
  exact ⟨rfl, B1.out⟩
theorem lowB_a {xs : List Int} {k : Int} (h : jobsB xs = false) : lowB xs k = -1 := by simp [lowB, h]
theorem lowB_b {xs : List Int} {k : Int} (h : inB 1 6 k = false) : lowB xs k = -1 := by simp [lowB, h]
theorem lowB_c {xs : List Int} {k : Int} (h : jobsB xs = true) (h2 : inB 1 6 k = true) : lowB xs k = xs.foldl max (upD (sumL xs) k) := by simp [lowB, h, h2]
theorem low_snoc (xs : List Int) (k : Nat) (hk : k < xs.length) (a : Int) : (xs.take (k + 1)).foldl max a = max ((xs.take k).foldl max a) (xs[k]?.getD 0) := foldR_snoc xs k hk a
theorem low_bd {xs : List Int} (h : jobsB xs = true) (k : Nat) (a : Int) (ha : 0 ≤ a ∧ a ≤ 40000) : 0 ≤ (xs.take k).foldl max a ∧ (xs.take k).foldl max a ≤ 40000 :=
  foldR_bd (f := max) (fun a b => by omega) 0 40000 (xs.take k) a ha (fun x hx => by have := jobsB_mem h x (List.mem_of_mem_take hx); omega)
end Qt
end Go.Proofs.Ytebldedmkpdgcaa
