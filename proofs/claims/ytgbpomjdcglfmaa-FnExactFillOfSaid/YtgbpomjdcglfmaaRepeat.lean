/- What slices.Repeat gives for a slice of one number of eight bits. Conditions: the count is above 0 and no greater than a million. -/
import Derived.Test.YtgbpomjdcglfmaaBlock
import Derived.Laws.CopyOwn
import Derived.Shelf.Bits.Mul64
namespace Go.Proofs.Ytgbpomjdcglfmaa
open Go.RowKit Go.Sort
namespace Qt

theorem mul64_one (N : Nat) (hN : N ≤ 1048576) (w : World) :
    Calls Try.prog 68 #[.int .u64 1, .int .u64 N] w fun e w' => e = .returned (.tuple #[.int .u64 0, .int .u64 N]) ∧ w = w' := by
  have m1 : bits .and .u64 (N : Int) 4294967295 = N := by rw [Mul64.maskN N (by omega)]; omega
  have m2 : bits .and .u64 1 4294967295 = 1 := by decide
  have m3 : bits .and .u64 0 4294967295 = 0 := by decide
  have d1 : (N : Int) / 4294967296 = 0 := by omega
  have w1 : IntKind.u64.wrap (N : Int) = N := Mul64.wrapN N (by omega)
  go_enter Try.func68, Try.ntmps68
  go_wp2
  go_ret2
  refine ⟨?_, rfl⟩
  simp
theorem mul_one (N : Nat) (hN : N ≤ 1048576) (w : World) :
    Calls Try.prog 62 #[.int .u64 1, .int .u64 N] w fun e w' => e = .returned (.tuple #[.int .u64 0, .int .u64 N]) ∧ w = w' := by
  have HN := Lib.hid hN
  clear hN
  go_enter Try.func62, Try.ntmps62
  go_wp2_with ((with_reducible refine (mul64_one N HN.out _).mono ?_); rintro e w' ⟨rfl, rfl⟩)
  go_ret2
  exact ⟨rfl, rfl⟩

/-- The row while it is filled: m numbers, the rest noughts. -/
def half (v : Int) (N m : Nat) : List Value := (List.replicate m v ++ List.replicate (N - m) 0).map (Value.int .i8)
theorem half_len (v : Int) (N m : Nat) (h : m ≤ N) : (half v N m).length = N := by simp [half]; omega
theorem half_get (v : Int) (N m j : Nat) (hj : j < m) : (half v N m)[j]? = some (.int .i8 v) := by
  unfold half
  rw [List.getElem?_map, List.getElem?_append_left (by simpa using hj)]
  simp [hj]
theorem half_step (v : Int) (N m k : Nat) (h : m + k ≤ N) : splice (half v N m) m (List.replicate k (.int .i8 v)) = half v N (m + k) := by
  unfold splice half
  simp only [List.map_append, List.map_replicate, List.length_replicate]
  rw [List.take_append_of_le_length (by simp), List.take_of_length_le (by simp), List.drop_append, List.drop_eq_nil_of_le (by simp)]
  simp only [List.nil_append, List.length_replicate, List.drop_replicate]
  rw [← List.append_assoc, List.replicate_append_replicate]
  congr 2
  omega
theorem half_all (v : Int) (N : Nat) : half v N N = (List.replicate N v).map (Value.int .i8) := by simp [half]

theorem makeS (n : Nat) (hn : n ≤ 1048576) (W : World) : (Instr.makeSlice 62 (.int .i64 (n : Int)) (.int .i64 (n : Int))).run Try.prog W = .ok (.slice (some ⟨W.heap.size, 0, none⟩) n n) (W.alloc (.cells (madeCells #[.int .i8 0] n) 71)) := by
  obtain ⟨i0, hi, hz0, hz1, hz2⟩ := info_parts infoS
  have := run_makeSlice (P := Try.prog) W 62 71 i0 (.int .i8 0) Try.underlying62 hi hz0 .i64 .i64 (n : Int) (n : Int) (Int.natCast_nonneg n) (Int.le_refl _) (by rw [hz1]; simp; omega) (by rw [hz2]; omega) (by omega)
  rw [this]
  simp [hz1, Value.cells]
theorem madeS (W : World) (n : Nat) (v : Int) : Bk (W.alloc (.cells (madeCells #[.int .i8 0] n) 71)) W.heap.size 71 (half v n 0).toArray := by
  have := Bk.new W 71 (madeCells #[.int .i8 0] n)
  have e : (madeCells #[.int .i8 0] n) = (half v n 0).toArray := by
    rw [← Array.toArray_toList (xs := madeCells _ _), toList_madeCells_one]
    simp [half]
  rw [← e]; exact this
theorem szS : (Try.prog.info? 71).map (·.size) = some 1 := by kernel_rfl

theorem repeatI (b off p : Nat) (v : Int) (N : Nat) (hN : N ≤ 1048576) (hpos : 0 < N) (W : World) (hr : RdS W (some ⟨b, off, none⟩) 1 [v]) :
    Calls Try.prog 51 #[.slice (some ⟨b, off, none⟩) 1 p, .int .i64 N] W fun e W' =>
      ∃ g, e = .returned (.slice (some ⟨g, 0, none⟩) N N) ∧ W.heap.size ≤ g ∧ RdS W' (some ⟨g, 0, none⟩) N (List.replicate N v) ∧ Below W.heap.size W W' := by
  have hmk := makeS N hN
  have HN := Lib.hid hN
  have hn1 : (N : Int) ≤ 1048576 := by omega
  have hn0 : (0 : Int) < (N : Int) := by omega
  have hr2 := hr.of_below ((Below.refl _ W).alloc (Nat.le_refl _) (.cells (madeCells #[.int .i8 0] N) 71))
  have HC : Hid ((W.alloc (.cells (madeCells #[.int .i8 0] N) 71)).cell? ⟨b, off, none⟩ = some (.int .i8 v)) := Lib.hid (by
    obtain ⟨b', off', e, _, hc⟩ := hr2.2 (by omega)
    cases e
    simpa using hc 0 (by omega))
  have HB := Lib.hid ((Below.refl _ W).alloc (Nat.le_refl _) (.cells (madeCells #[.int .i8 0] N) 71))
  have HK := Lib.hid (madeS W N v)
  have HP := Lib.hid hpos
  clear hr hr2 hN hpos
  go_enter Try.func51, Try.ntmps51
  obtain ⟨w2, hcp, hk2, hb2⟩ : ∃ w2, (Builtin.copy_ #[62, 62] 3 #[.slice (some ⟨W.heap.size, 0, none⟩) N N, .slice (some ⟨b, off, none⟩) 1 p]).run Try.prog (W.alloc (.cells (madeCells #[.int .i8 0] N) 71)) = .ok (.int .i64 1) w2 ∧ Bk w2 W.heap.size 71 (half v N 1).toArray ∧ Below W.heap.size W w2 := by
    have h1 := run_copy_row (P := Try.prog) (W.alloc (.cells (madeCells #[.int .i8 0] N) 71)) 62 62 3 71 W.heap.size 0 N N ⟨b, off, none⟩ 1 p (half v N 0).toArray 71 [.int .i8 v] Try.underlying62 szS HK.out (by have := HP.out; show 1 = min 1 N; omega)
      (fun j u hj => by
        have hl := (List.getElem?_eq_some_iff.1 hj).1
        simp at hl
        subst hl
        simp at hj
        subst hj
        exact HC.out) (by rw [List.size_toArray, half_len v N 0 (Nat.zero_le _)]; have := HP.out; simp; omega) (by simp [Value.oneCell'])
    refine ⟨_, h1, ?_, below_setRow HB.out (Nat.le_refl _) _⟩
    have h2 := setRow_heap (W.alloc (.cells (madeCells #[.int .i8 0] N) 71)) W.heap.size _ ((half v N 0).toArray.toList.take 0 ++ [Value.int .i8 v] ++ (half v N 0).toArray.toList.drop (0 + [Value.int .i8 v].length)).toArray 71 _ HK.out
    have h3 := half_step v N 0 1 (by have := HP.out; omega)
    simp only [splice, List.replicate_one, Nat.zero_add] at h3
    unfold Bk
    rw [h2]
    simp only [Nat.zero_add, List.append_assoc]
    rw [h3]
  have HK2 := Lib.hid hk2
  have HB2 := Lib.hid hb2
  clear hk2 hb2
  go_wp2_with ((go_at_call 62; (with_reducible refine (mul_one N HN.out _).mono ?_); rintro e w' ⟨rfl, rfl⟩))
  go_loopw [8] (fun q wr => ∃ m : Nat, 1 ≤ m ∧ m ≤ N ∧ q = .int .i64 m ∧ Bk wr W.heap.size 71 (half v N m).toArray ∧ Below W.heap.size W wr) (fun q _ => N - (intOf q).toNat)
  case atStart => exact ⟨1, Nat.le_refl _, HP.out, rfl, HK2.out, HB2.out⟩
  case round =>
    clear hmk hcp
    obtain ⟨m, hm1, hm2, rfl, hk, hb⟩ := hrel
    have HKm := Lib.hid hk
    have HBm := Lib.hid hb
    clear hk hb
    by_cases hlt : m < N
    · have hi2 : (m : Int) < (N : Int) := by omega
      have hi0 : (0 : Int) ≤ (m : Int) := Int.natCast_nonneg m
      obtain ⟨k, hk⟩ : ∃ k, k = min m (N - m) := ⟨_, rfl⟩
      have hne : ¬ N = m := by omega
      have hk1 : 0 < k := by omega
      have hw : IntKind.i64.wrap ((m : Int) + (k : Int)) = ((m + k : Nat) : Int) := by rw [IntKind.wrap_i64]; omega
      have hk2 : m + k ≤ N := by omega
      have HSRC : Hid (∀ j u, (List.replicate k (Value.int .i8 v))[j]? = some u → wr.cell? ((⟨W.heap.size, 0, none⟩ : Addr).add j) = some u) := Lib.hid (fun j u hj => by
        have hl := (List.getElem?_eq_some_iff.1 hj).1
        simp at hl
        simp [hl] at hj
        subst hj
        have := HKm.out.cell j (v := .int .i8 v) (by rw [List.getElem?_toArray]; exact half_get v N m j (by omega))
        by_cases hj0 : j = 0 <;> simpa [Addr.add, hj0] using this)
      go_wp2_with fail
      go_region_law (first
        | (refine step_copy_splice rfl (.tmp 41) (.tmp 44) 62 62 rfl 71 Try.underlying62 szS (some ⟨W.heap.size, m, none⟩) (some ⟨W.heap.size, 0, none⟩) (N - m) (N - m) m N (by go_simp) (by go_simp) W.heap.size m (half v N m) 71 HKm.out (List.replicate k (.int .i8 v)) (by rw [List.length_replicate]; show _ = min _ _; omega) (fun _ => ⟨rfl, ⟨W.heap.size, 0, none⟩, rfl, HSRC.out⟩) (by rw [half_len _ _ _ hm2]; simp; omega) (by simp [Value.oneCell']) W.heap.size W HBm.out.drew (Nat.le_refl _) ?_
           intro w4 hg4 hb4))
      all_goals
        rw [half_step v N m k hk2] at hg4
        rw [← hk, hw]
        clear hk
        go_simp
        go_roundw
        case rel =>
          refine ⟨_, _, _, _, _, _, _, _, _, _, _, _, _, _, ⟨m + k, by omega, hk2, ?_, hg4.out, hb4⟩, rfl⟩
          simp
        case measure => simp [intOf]; omega
    · obtain rfl : m = N := by omega
      go_wp2
      go_ret
      rw [half_all] at HKm
      exact ⟨_, rfl, Nat.le_refl _, ⟨by simp, fun _ => ⟨_, 0, rfl, HKm.out.lt, fun j hj => by rw [Nat.zero_add, HKm.out.cell j (v := .int .i8 v) (by simp [hj])]; simp [List.getD_eq_getElem?_getD, hj]⟩⟩, HBm.out⟩
end Qt
end Go.Proofs.Ytgbpomjdcglfmaa
