/- What the methods on the three sides (ok, size, place), and PlaceOf and SizeOf of the program and of its model, give when they are called, each at every argument. No conditions but that a side fits its kind. -/
import Derived.Test.YtebldedmkpdgcaaShape
namespace Go.Proofs.Ytebldedmkpdgcaa
open Go.RowKit
namespace Qt

theorem keep {w1 w2 : World} (hb : Below w1.heap.size w1 w2) {p : Addr} {v : Value} (h : w1.cell? p = some v) : w2.cell? p = some v := (hb.cell (World.block_lt_of_cell? _ _ h)).trans h
theorem new3 (W : World) (t : TypeId) (x y z : Value) : (W.alloc (.cells #[x, y, z] t)).cell? ⟨W.heap.size, 0, none⟩ = some x ∧ (W.alloc (.cells #[x, y, z] t)).cell? ⟨W.heap.size, 1, none⟩ = some y ∧ (W.alloc (.cells #[x, y, z] t)).cell? ⟨W.heap.size, 2, none⟩ = some z := by
  refine ⟨?_, ?_, ?_⟩ <;> simp [go_sem]
theorem after1 {W : World} {o : Obj} {w1 : World} (b1 : Below (W.alloc o).heap.size (W.alloc o) w1) : Below W.heap.size W w1 := ((Below.refl _ W).alloc (Nat.le_refl _) _).trans (b1.mono (by simp))

theorem sidesOkI (h w c : Int) (b : Bool) (hb : shOk h w c = b) (W : World) :
    Calls Try.prog 144 #[.agg #[.int .i64 h, .int .i64 w, .int .i64 c]] W fun e W' => e = .returned (.bool b) ∧ Below W.heap.size W W' := by
  have HB := Lib.hid hb
  clear hb
  have i0 : ∀ w0, (Instr.index 126 (.agg #[.int .i64 h, .int .i64 w, .int .i64 c]) (.int .i64 0)).run Try.prog w0 = .ok (.int .i64 h) w0 := fun _ => by kernel_rfl
  have i1 : ∀ w0, (Instr.index 126 (.agg #[.int .i64 h, .int .i64 w, .int .i64 c]) (.int .i64 1)).run Try.prog w0 = .ok (.int .i64 w) w0 := fun _ => by kernel_rfl
  have i2 : ∀ w0, (Instr.index 126 (.agg #[.int .i64 h, .int .i64 w, .int .i64 c]) (.int .i64 2)).run Try.prog w0 = .ok (.int .i64 c) w0 := fun _ => by kernel_rfl
  go_enter Try.func144, Try.ntmps144
  go_wp2
  go_loop [6] (fun i => ∃ k : Nat, k ≤ 3 ∧ i = .int .i64 k ∧ (0 < k → 1 ≤ h ∧ h ≤ 8) ∧ (1 < k → 1 ≤ w ∧ w ≤ 8) ∧ (2 < k → 1 ≤ c ∧ c ≤ 8)) (fun i => 3 - (intOf i).toNat)
  case atStart => exact ⟨0, by omega, rfl, by omega, by omega, by omega⟩
  case round =>
    obtain ⟨k, hk, rfl, q0, q1, q2⟩ := hrel
    have hB : Below W.heap.size W (W.alloc (.cells #[.int .i64 h, .int .i64 w, .int .i64 c] 126)) := (Below.refl _ W).alloc (Nat.le_refl _) _
    have HBel := Lib.hid hB
    clear hB
    rcases (by omega : k = 0 ∨ k = 1 ∨ k = 2 ∨ k = 3) with rfl | rfl | rfl | rfl
    · clear q0 q1 q2
      by_cases hs : 1 ≤ h ∧ h ≤ 8
      · obtain ⟨h1, h2⟩ := hs
        go_wp2
        go_round
        case rel => exact ⟨1, by omega, by go_num, fun _ => ⟨h1, h2⟩, by omega, by omega⟩
        case measure => simp [intOf]
      · obtain rfl : b = false := by rw [← HB.out]; exact shOk_not.2 (by omega)
        rcases (by omega : h < 1 ∨ (1 ≤ h ∧ 8 < h)) with hs | ⟨hs, hs2⟩
        all_goals
          go_wp2
          go_ret
          exact ⟨rfl, HBel.out⟩
    · obtain ⟨h1, h2⟩ := q0 (by omega)
      clear q0 q1 q2
      by_cases hs : 1 ≤ w ∧ w ≤ 8
      · obtain ⟨h3, h4⟩ := hs
        go_wp2
        go_round
        case rel => exact ⟨2, by omega, by go_num, fun _ => ⟨h1, h2⟩, fun _ => ⟨h3, h4⟩, by omega⟩
        case measure => simp [intOf]
      · obtain rfl : b = false := by rw [← HB.out]; exact shOk_not.2 (by omega)
        rcases (by omega : w < 1 ∨ (1 ≤ w ∧ 8 < w)) with hs | ⟨hs, hs2⟩
        all_goals
          go_wp2
          go_ret
          exact ⟨rfl, HBel.out⟩
    · obtain ⟨h1, h2⟩ := q0 (by omega)
      obtain ⟨h3, h4⟩ := q1 (by omega)
      clear q0 q1 q2
      by_cases hs : 1 ≤ c ∧ c ≤ 8
      · obtain ⟨h5, h6⟩ := hs
        go_wp2
        go_round
        case rel => exact ⟨3, by omega, by go_num, fun _ => ⟨h1, h2⟩, fun _ => ⟨h3, h4⟩, fun _ => ⟨h5, h6⟩⟩
        case measure => simp [intOf]
      · obtain rfl : b = false := by rw [← HB.out]; exact shOk_not.2 (by omega)
        rcases (by omega : c < 1 ∨ (1 ≤ c ∧ 8 < c)) with hs | ⟨hs, hs2⟩
        all_goals
          go_wp2
          go_ret
          exact ⟨rfl, HBel.out⟩
    · obtain ⟨h1, h2⟩ := q0 (by omega)
      obtain ⟨h3, h4⟩ := q1 (by omega)
      obtain ⟨h5, h6⟩ := q2 (by omega)
      clear q0 q1 q2
      obtain rfl : b = true := by rw [← HB.out]; exact shOk_iff.2 ⟨h1, h2, h3, h4, h5, h6⟩
      go_wp2
      go_ret
      exact ⟨rfl, HBel.out⟩

theorem sizeI (h w c : Int) (W : World) :
    Calls Try.prog 145 #[.agg #[.int .i64 h, .int .i64 w, .int .i64 c]] W fun e W' => e = .returned (.int .i64 (szOf h w c)) ∧ Below W.heap.size W W' := by
  rcases hs : shOk h w c with _ | _
  · rw [szOf_no hs]
    have HS := Lib.hid hs
    clear hs
    go_enter Try.func145, Try.ntmps145
    go_wp2_with fail
    refine (sidesOkI h w c false HS.out _).mono ?_
    rintro e w1 ⟨rfl, b1⟩
    have B1 := Lib.hid (after1 b1)
    clear b1
    go_wp2_with fail
    go_ret
    exact ⟨rfl, B1.out⟩
  · obtain ⟨e, m1, m2, m3, m4⟩ := szOf_yes hs
    rw [e]
    have HS := Lib.hid hs
    clear hs e
    go_enter Try.func145, Try.ntmps145
    go_wp2_with fail
    refine (sidesOkI h w c true HS.out _).mono ?_
    rintro e w1 ⟨rfl, b1⟩
    obtain ⟨n0, n1, n2⟩ := new3 W 126 (.int .i64 h) (.int .i64 w) (.int .i64 c)
    have c0 := keep b1 n0
    have c1 := keep b1 n1
    have c2 := keep b1 n2
    have B1 := Lib.hid (after1 b1)
    clear b1 n0 n1 n2
    go_wp2_with fail
    go_ret
    exact ⟨rfl, B1.out⟩

theorem sizeOfS (h w c : Int) (W : World) :
    Calls Try.prog 109 #[.agg #[.int .i64 h, .int .i64 w, .int .i64 c]] W fun e W' => e = .returned (.int .i64 (szOf h w c)) ∧ Below W.heap.size W W' := by
  rcases hs : shOk h w c with _ | _
  · rw [szOf_no hs]
    have HS := Lib.hid hs
    clear hs
    go_enter Try.func109, Try.ntmps109
    go_wp2_with fail
    refine (shapeOkS h w c false HS.out _).mono ?_
    rintro e w1 ⟨rfl, b1⟩
    have B1 := Lib.hid (after1 b1)
    clear b1
    go_wp2_with fail
    go_ret
    exact ⟨rfl, B1.out⟩
  · obtain ⟨e, m1, m2, m3, m4⟩ := szOf_yes hs
    rw [e]
    have HS := Lib.hid hs
    clear hs e
    go_enter Try.func109, Try.ntmps109
    go_wp2_with fail
    refine (shapeOkS h w c true HS.out _).mono ?_
    rintro e w1 ⟨rfl, b1⟩
    obtain ⟨n0, n1, n2⟩ := new3 W 66 (.int .i64 h) (.int .i64 w) (.int .i64 c)
    have c0 := keep b1 n0
    have c1 := keep b1 n1
    have c2 := keep b1 n2
    have B1 := Lib.hid (after1 b1)
    clear b1 n0 n1 n2
    go_wp2_with fail
    go_ret
    exact ⟨rfl, B1.out⟩

theorem sizeOfI (h w c : Int) (W : World) :
    Calls Try.prog 112 #[.agg #[.int .i64 h, .int .i64 w, .int .i64 c]] W fun e W' => e = .returned (.int .i64 (szOf h w c)) ∧ Below W.heap.size W W' := by
  go_enter Try.func112, Try.ntmps112
  go_wp2_with fail
  refine (sidesOfI h w c _).mono ?_
  rintro e w1 ⟨rfl, b1⟩
  have B1 := Lib.hid (after1 b1)
  clear b1
  go_wp2_with fail
  refine (sizeI h w c _).mono ?_
  rintro e w2 ⟨rfl, b2⟩
  have B2 := Lib.hid (B1.out.trans (b2.mono B1.out.size))
  clear b2 B1
  go_wp2_with fail
  go_ret
  exact ⟨rfl, B2.out⟩
end Qt
end Go.Proofs.Ytebldedmkpdgcaa
