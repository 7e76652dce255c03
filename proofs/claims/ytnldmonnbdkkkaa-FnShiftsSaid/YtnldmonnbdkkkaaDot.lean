/- What DotOf (of the program and of its model) gives when it is called with two slices that read as lists: the sum of the products, cut behind each. -/
import Derived.Test.YtnldmonnbdkkkaaShift
import Derived.Test.YtnldmonnbdkkkaaSlice
import Derived.StillTailTactics
namespace Go.Proofs.Ytnldmonnbdkkkaa
open Go.RowKit
namespace Qt

theorem flip {P : Program} {f : FuncId} {args : Array Value} {w : World} {v : Value} (h : Calls P f args w fun e w' => e = .returned v ∧ w = w') : Calls P f args w fun e w' => e = .returned v ∧ w' = w :=
  h.mono fun _ _ ⟨he, hm⟩ => ⟨he, hm.symm⟩

theorem dot_zero (xs ys : List Int) : dot (xs.take 0) (ys.take 0) = 0 := by simp [dot]
theorem zip_take (xs ys : List Int) (k : Nat) : (xs.take k).zip (ys.take k) = (xs.zip ys).take k := by
  induction xs generalizing ys k with
  | nil => simp
  | cons x r ih =>
    cases ys with
    | nil => simp
    | cons y t =>
      cases k with
      | zero => simp
      | succ k => simp [ih]
theorem dot_end (xs ys : List Int) (k : Nat) (h : k = xs.length ∨ k = ys.length) (h1 : k ≤ xs.length) (h2 : k ≤ ys.length) : dot (xs.take k) (ys.take k) = dot xs ys := by
  unfold dot
  have : ∀ (xs ys : List Int) (k : Nat), (k = xs.length ∨ k = ys.length) → k ≤ xs.length → k ≤ ys.length → (xs.take k).zip (ys.take k) = xs.zip ys := by
    intro xs ys k h h1 h2
    rw [zip_take]
    exact List.take_of_length_le (by rw [List.length_zip]; omega)
  rw [this xs ys k h h1 h2]

theorem dotS (A A2 : Option Addr) (n n2 c c2 : Nat) (xs ys : List Int) (w : World) (h : RdI w A n xs) (h2 : RdI w A2 n2 ys) (hn : n ≤ 1048576) (hn2 : n2 ≤ 1048576) :
    Calls Try.prog 23 #[.slice A n c, .slice A2 n2 c2] w fun e w' => e = .returned (.int .i64 (dot xs ys)) ∧ ∃ m, w' = w.drewN m := by
  obtain ⟨hl, hc⟩ := h
  obtain ⟨hl2, hc2⟩ := h2
  have HC := Lib.hid hc
  have HC2 := Lib.hid hc2
  have HL := Lib.hid hl
  have HL2 := Lib.hid hl2
  clear hc hl hc2 hl2
  go_enter Try.func23, Try.ntmps23
  go_wp2
  go_loopw [5, 6] (fun s i wr => ∃ k : Nat, k ≤ n ∧ k ≤ n2 ∧ i = .int .i64 k ∧ s = .int .i64 (dot (xs.take k) (ys.take k)) ∧ ∃ m, wr = w.drewN m) (fun _ i _ => n - (intOf i).toNat)
  case atStart => exact ⟨0, Nat.zero_le _, Nat.zero_le _, rfl, by rw [dot_zero], 0, rfl⟩
  case round =>
    obtain ⟨k, hk, hk2, rfl, rfl, hw⟩ := hrel
    have HW := Lib.hid hw
    clear hw
    have hd := dot_bd (xs.take k) (ys.take k)
    by_cases hlt : k < n
    · by_cases hlt2 : k < n2
      · obtain ⟨b, off, rfl, hbl, hcell⟩ := HC.out (by omega)
        obtain ⟨b2, off2, rfl, hbl2, hcell2⟩ := HC2.out (by omega)
        have hc1 : wr.cell? ⟨b, off + k, none⟩ = some (.int .i64 (xs.getD k 0)) := by obtain ⟨m, hm⟩ := HW.out; rw [hm]; exact hcell k hlt
        have hc2 : wr.cell? ⟨b2, off2 + k, none⟩ = some (.int .i64 (ys.getD k 0)) := by obtain ⟨m, hm⟩ := HW.out; rw [hm]; exact hcell2 k hlt2
        clear hcell hcell2
        have hi : (k : Int) < (n : Int) := by omega
        have hi2 : (k : Int) < (n2 : Int) := by omega
        have HD : Hid (addSat (dot (xs.take k) (ys.take k)) (sat8 (xs.getD k 0) * sat8 (ys.getD k 0)) = dot (xs.take (k + 1)) (ys.take (k + 1))) := (dot_take xs ys k (by have := HL.out; omega) (by have := HL2.out; omega)).symm
        have hb1 := sat8_mul_bd (xs[k]?.getD 0) (ys[k]?.getD 0)
        go_wp2
        go_quiet (first
          | (go_at_call 24; exact Calls.quiet_of_same (flip (sat8S _ _)))
          | (go_at_call 28; exact Calls.quiet_of_same (flip (addSatS _ _ _))))
        go_wp2
        go_roundw
        case rel => exact ⟨k + 1, by omega, by omega, by go_num, by rw [← HD.out]; rfl, by obtain ⟨m, hm⟩ := HW.out; rw [hm]; exact ⟨_, World.drewN_drewN ..⟩⟩
        case measure => simp [intOf]; omega
      · have hi2 : decide ((k : Int) < (n2 : Int)) = false := by simp; omega
        go_wp2
        go_ret
        exact ⟨ret_int (dot_end xs ys k (Or.inr (by have := HL2.out; omega)) (by have := HL.out; omega) (by have := HL2.out; omega)), HW.out⟩
    · go_wp2
      go_ret
      exact ⟨ret_int (dot_end xs ys k (Or.inl (by have := HL.out; omega)) (by have := HL.out; omega) (by have := HL2.out; omega)), HW.out⟩

theorem dotI (A A2 : Option Addr) (n n2 c c2 : Nat) (xs ys : List Int) (w : World) (h : RdI w A n xs) (h2 : RdI w A2 n2 ys) (hn : n ≤ 1048576) (hn2 : n2 ≤ 1048576) :
    Calls Try.prog 22 #[.slice A n c, .slice A2 n2 c2] w fun e w' => e = .returned (.int .i64 (dot xs ys)) ∧ Below w.heap.size w w' := by
  obtain ⟨hl, hc⟩ := h
  obtain ⟨hl2, hc2⟩ := h2
  have HC := Lib.hid hc
  have HC2 := Lib.hid hc2
  have HL := Lib.hid hl
  have HL2 := Lib.hid hl2
  clear hc hl hc2 hl2
  go_enter Try.func22, Try.ntmps22
  go_wp2
  go_loopw [5, 6] (fun s i wr => ∃ k : Nat, k ≤ n ∧ k ≤ n2 ∧ i = .int .i64 k ∧ s = .int .i32 (dot (xs.take k) (ys.take k)) ∧ Below w.heap.size w wr) (fun _ i _ => n - (intOf i).toNat)
  case atStart => exact ⟨0, Nat.zero_le _, Nat.zero_le _, rfl, by rw [dot_zero], Below.refl _ _⟩
  case round =>
    obtain ⟨k, hk, hk2, rfl, rfl, hb⟩ := hrel
    have hd := dot_bd (xs.take k) (ys.take k)
    have HB := Lib.hid hb
    clear hb
    by_cases hlt : k < n
    · by_cases hlt2 : k < n2
      · obtain ⟨b, off, rfl, hbl, hcell⟩ := HC.out (by omega)
        obtain ⟨b2, off2, rfl, hbl2, hcell2⟩ := HC2.out (by omega)
        have hc1 := (HB.out.cell (p := ⟨b, off + k, none⟩) hbl).trans (hcell k hlt)
        have hc2 := (HB.out.cell (p := ⟨b2, off2 + k, none⟩) hbl2).trans (hcell2 k hlt2)
        clear hcell hcell2
        have hi : (k : Int) < (n : Int) := by omega
        have hi2 : (k : Int) < (n2 : Int) := by omega
        have HD : Hid (addSat (dot (xs.take k) (ys.take k)) (sat8 (xs.getD k 0) * sat8 (ys.getD k 0)) = dot (xs.take (k + 1)) (ys.take (k + 1))) := (dot_take xs ys k (by have := HL.out; omega) (by have := HL2.out; omega)).symm
        have hb1 := sat8_mul_bd (xs[k]?.getD 0) (ys[k]?.getD 0)
        have hx := sat8_bd (xs[k]?.getD 0)
        have hy := sat8_bd (ys[k]?.getD 0)
        go_wp2
        refine wp_region_still_tail 12 (by kernel_rfl) (by kernel_rfl) ?_
        simp only [List.take_succ_cons, List.take_zero, List.drop_succ_cons, List.drop_zero]
        repeat (first | still_step | (still_call (flip (smallOfI _ _))) | (still_call (flip (timesI _ _ hx hy (by omega) _))))
        refine wpStill_nil ?_
        change wpList _ _ _ _ _ wr.drew
        have HB2 := Lib.hid (HB.out.drew)
        clear HB hc1 hc2
        generalize wr.drew = w2 at HB2 ⊢
        go_wp2_with (go_at_call 48; refine (sumOf2I _ _ hd (by omega) _ _ (cell_new0 rfl) (cell_new1 rfl)).mono ?_; rintro e w' ⟨rfl, rfl⟩)
        go_roundw
        case rel => exact ⟨k + 1, by omega, by omega, by go_num, by rw [← HD.out]; rfl, HB2.out.alloc HB2.out.size _⟩
        case measure => simp [intOf]; omega
      · have hi2 : decide ((k : Int) < (n2 : Int)) = false := by simp; omega
        go_wp2
        go_ret
        exact ⟨ret_int (dot_end xs ys k (Or.inr (by have := HL2.out; omega)) (by have := HL.out; omega) (by have := HL2.out; omega)), HB.out⟩
    · go_wp2
      go_ret
      exact ⟨ret_int (dot_end xs ys k (Or.inl (by have := HL.out; omega)) (by have := HL.out; omega) (by have := HL2.out; omega)), HB.out⟩
end Qt
end Go.Proofs.Ytnldmonnbdkkkaa
