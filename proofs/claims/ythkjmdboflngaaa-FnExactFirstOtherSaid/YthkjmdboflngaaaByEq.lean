/- Two slices of bytes compared: l01Same of the model and bytes.Equal. Conditions: the slices read as the lists that are named. -/
import Derived.Test.YthkjmdboflngaaaSame
import Derived.Test.YthkjmdboflngaaaBytes
import Derived.Laws.BytesArg
namespace Go.Proofs.Ythkjmdboflngaaa
open Go.RowKit Go.Sort
set_option linter.unusedSimpArgs false
set_option linter.unusedVariables false
namespace Qt
/-- Numbers that are bytes. -/
def ByB (xs : List Int) : Prop := ∀ x ∈ xs, 0 ≤ x ∧ x ≤ 255
theorem byte_inj {x y : Int} (hx : 0 ≤ x ∧ x ≤ 255) (hy : 0 ≤ y ∧ y ≤ 255) (h : UInt8.ofNat x.toNat = UInt8.ofNat y.toNat) : x = y := by
  have := congrArg UInt8.toNat h
  simp only [UInt8.toNat_ofNat'] at this
  omega
theorem bytes_inj {xs ys : List Int} (hx : ByB xs) (hy : ByB ys) (h : (xs.map fun n => UInt8.ofNat n.toNat) = (ys.map fun n => UInt8.ofNat n.toNat)) : xs = ys := by
  induction xs generalizing ys with
  | nil => cases ys with
    | nil => rfl
    | cons b r => simp at h
  | cons a q ih => cases ys with
    | nil => simp at h
    | cons b r =>
      simp only [List.map_cons, List.cons.injEq] at h
      have h1 := byte_inj (hx a (List.mem_cons_self ..)) (hy b (List.mem_cons_self ..)) h.1
      have h2 := ih (fun x hm => hx x (List.mem_cons_of_mem _ hm)) (fun x hm => hy x (List.mem_cons_of_mem _ hm)) h.2
      rw [h1, h2]
theorem str_inj {xs ys : List Int} (hx : ByB xs) (hy : ByB ys) : (strOfNums xs = strOfNums ys) ↔ xs = ys :=
  ⟨fun h => bytes_inj hx hy (by rw [← strOfNums_data, ← strOfNums_data, h]), fun h => by rw [h]⟩
theorem sameByS (A A2 : Option Addr) (n n2 p p2 : Nat) (xs ys : List Int) (W : World) (hr : RdB8 W A n xs) (hr2 : RdB8 W A2 n2 ys) (hn : n ≤ 1048576) (hn2 : n2 ≤ 1048576) :
    Calls Try.prog 64 #[.slice A n p, .slice A2 n2 p2] W fun e W' => e = .returned (.bool (decide (xs = ys))) ∧ ∃ m, W' = W.drewN m := by
  have R0 := Lib.hid hr
  have R1 := Lib.hid hr2
  have hn0 : (0 : Int) ≤ n := Int.natCast_nonneg n
  have hn1 : (n : Int) ≤ 1048576 := by omega
  have hn3 : (0 : Int) ≤ n2 := Int.natCast_nonneg n2
  have hn4 : (n2 : Int) ≤ 1048576 := by omega
  obtain ⟨r, hrr⟩ : ∃ r, decide (xs = ys) = r := ⟨_, rfl⟩
  rw [hrr]
  have HRR := Lib.hid hrr
  clear hr hr2 hn hn2 hrr
  by_cases hne : n2 = n
  case neg =>
    obtain rfl : r = false := by
      rw [← HRR.out, decide_eq_false_iff_not]; rintro rfl
      have h1 := R0.out.1; have h2 := R1.out.1; omega
    have hne2 : (n : Int) ≠ (n2 : Int) := by omega
    go_enter Try.func64, Try.ntmps64
    go_wp2
    go_ret
    exact ⟨rfl, 0, rfl⟩
  subst hne
  go_enter Try.func64, Try.ntmps64
  go_wp2
  go_loopw [5] (fun x wr => ∃ k : Nat, k ≤ n2 ∧ x = .int .i64 k ∧ (∃ m, wr = W.drewN m) ∧ Hid (∀ j, j < k → xs[j]?.getD 0 = ys[j]?.getD 0)) (fun x _ => n2 - (intOf x).toNat)
  case atStart => exact ⟨0, Nat.zero_le _, rfl, ⟨0, rfl⟩, Lib.hid (fun j hj => absurd hj (Nat.not_lt_zero _))⟩
  case round =>
    obtain ⟨k, hk, rfl, ⟨m, rfl⟩, HQ⟩ := hrel
    by_cases hlt : k < n2
    · obtain ⟨b', off, rfl, hbl, hcell⟩ := R0.out.2 (by omega)
      obtain ⟨b2', off2, rfl, hbl2, hcell2⟩ := R1.out.2 (by omega)
      have hc1 := hcell k hlt
      have hc2 := hcell2 k hlt
      have hi : (k : Int) < (n2 : Int) := by omega
      clear hcell hcell2 hbl hbl2
      rcases hx : (xs[k]?.getD 0 != ys[k]?.getD 0) with _ | _
      · go_wp2
        go_quiet (fail)
        go_wp2
        go_round
        case rel =>
          refine ⟨k + 1, by omega, by go_num, ⟨_, rfl⟩, Lib.hid (fun j hj => ?_)⟩
          rcases (by omega : j < k ∨ j = k) with h1 | rfl
          · exact HQ.out j h1
          · simpa using hx
        case measure => simp [intOf]; omega
      · obtain rfl : r = false := by rw [← HRR.out]; exact list_ne hx
        go_wp2
        go_quiet (fail)
        go_wp2
        go_ret
        exact ⟨rfl, _, World.drewN_drewN ..⟩
    · obtain rfl : k = n2 := by omega
      obtain rfl : r = true := by rw [← HRR.out]; exact list_eq R0.out.1 R1.out.1 HQ.out
      go_wp2
      go_ret
      exact ⟨rfl, _, rfl⟩

theorem convB (A : Option Addr) (n p : Nat) (xs : List Int) (W : World) (hr : RdB8 W A n xs) : (convert 22 9 (.slice A n p)).run Try.prog W = .ok (.string (strOfNums xs)) W := by
  by_cases h0 : n = 0
  · subst h0
    have : xs = [] := List.length_eq_zero_iff.1 hr.1
    subst this
    have e := run_convert_bytes_string W 22 9 5 A 0 p Try.underlying22 Try.underlying5 Try.underlying9
    rcases A with _ | a
    · rw [e]; simp [Conv.bytesToString]; rfl
    · rw [e]; simp [Conv.bytesToString, loadCells]; rfl
  · obtain ⟨b, off, rfl, hlt, hc⟩ := hr.2 (by omega)
    exact run_convert_bytes_arg W 22 5 Try.underlying22 Try.underlying5 b off n p xs hr.1 hc 9 Try.underlying9
theorem bytesEqI (A A2 : Option Addr) (n n2 p p2 : Nat) (xs ys : List Int) (W : World) (hr : RdB8 W A n xs) (hr2 : RdB8 W A2 n2 ys) (hx : ByB xs) (hy : ByB ys) :
    Calls Try.prog 66 #[.slice A n p, .slice A2 n2 p2] W fun e W' => e = .returned (.bool (decide (xs = ys))) ∧ W = W' := by
  have hc1 := convB A n p xs W hr
  have hc2 := convB A2 n2 p2 ys W hr2
  have hs : decide (xs = ys) = ((strOfNums xs).toList == (strOfNums ys).toList) := by
    rw [ByteArray.toList_eq, ByteArray.toList_eq, strOfNums_data, strOfNums_data]
    by_cases h : xs = ys
    · subst h; simp
    · rw [decide_eq_false h]
      symm
      rw [beq_eq_false_iff_ne]
      exact fun e => h (bytes_inj hx hy e)
  rw [hs]
  clear hs hr hr2 hx hy
  generalize strOfNums xs = s1 at hc1 ⊢
  generalize strOfNums ys = s2 at hc2 ⊢
  go_enter Try.func66, Try.ntmps66
  go_wp2
  go_ret
  exact ⟨rfl, rfl⟩
end Qt
end Go.Proofs.Ythkjmdboflngaaa
