/- What PlaceOf (of the program and of its model) gives when it is called, at every argument. No conditions but that a number fits its kind. -/
import Derived.Test.YtnceiclgfogmiaaSides
namespace Go.Proofs.Ytnceiclgfogmiaa
open Go.RowKit
namespace Qt

def plIn (h w c i j k : Int) : Bool := decide (0 ≤ i ∧ i < h ∧ 0 ≤ j ∧ j < w ∧ 0 ≤ k ∧ k < c)
def plOf (h w c i j k : Int) : Int := if shOk h w c && plIn h w c i j k then (i * w + j) * c + k else -1
theorem plOf_no {h w c i j k : Int} (hs : shOk h w c = false) : plOf h w c i j k = -1 := by rw [plOf, hs]; rfl
theorem plOf_out {h w c i j k : Int} (hp : ¬ (0 ≤ i ∧ i < h ∧ 0 ≤ j ∧ j < w ∧ 0 ≤ k ∧ k < c)) : plOf h w c i j k = -1 := by
  have : plIn h w c i j k = false := by simpa [plIn] using hp
  rw [plOf, this, Bool.and_false]; rfl
theorem plOf_in {h w c i j k : Int} (hs : shOk h w c = true) (h1 : 0 ≤ i) (h2 : i < h) (h3 : 0 ≤ j) (h4 : j < w) (h5 : 0 ≤ k) (h6 : k < c) :
    plOf h w c i j k = (i * w + j) * c + k ∧ 0 ≤ i * w ∧ i * w ≤ 56 ∧ i * w + j < h * w ∧ 0 ≤ (i * w + j) * c ∧ (i * w + j) * c ≤ 504 ∧ (i * w + j) * c + k < h * w * c := by
  obtain ⟨a1, a2, a3, a4, a5, a6⟩ := shOk_iff.1 hs
  have hp : plIn h w c i j k = true := by simp [plIn]; omega
  refine ⟨by rw [plOf, hs, hp]; rfl, ?_⟩
  have e1 : 0 ≤ i * w := Int.mul_nonneg h1 (by omega)
  have e2 : i * w ≤ (h - 1) * w := Int.mul_le_mul_of_nonneg_right (by omega) (by omega)
  have e3 : (h - 1) * w ≤ 7 * 8 := Int.mul_le_mul (by omega) (by omega) (by omega) (by omega)
  have e4 : (h - 1) * w = h * w - w := by rw [Int.sub_mul]; omega
  have e5 : 0 ≤ (i * w + j) * c := Int.mul_nonneg (by omega) (by omega)
  have e6 : (i * w + j) * c ≤ (h * w - 1) * c := Int.mul_le_mul_of_nonneg_right (by omega) (by omega)
  have e7 : (h * w - 1) * c = h * w * c - c := by rw [Int.sub_mul]; omega
  have e8 : (i * w + j) * c ≤ 63 * 8 := Int.mul_le_mul (by omega) (by omega) (by omega) (by omega)
  omega
theorem plOf_bd (h w c i j k : Int) : -1 ≤ plOf h w c i j k ∧ (plOf h w c i j k < 0 → plOf h w c i j k = -1) ∧ (0 ≤ plOf h w c i j k → plOf h w c i j k < szOf h w c) := by
  rcases hs : shOk h w c with _ | _
  · rw [plOf_no hs]; omega
  · by_cases hp : 0 ≤ i ∧ i < h ∧ 0 ≤ j ∧ j < w ∧ 0 ≤ k ∧ k < c
    · have := plOf_in hs hp.1 hp.2.1 hp.2.2.1 hp.2.2.2.1 hp.2.2.2.2.1 hp.2.2.2.2.2
      have := szOf_yes hs
      omega
    · rw [plOf_out hp]; omega

theorem placeS (h w c i j k : Int) (W : World) :
    Calls Try.prog 84 #[.agg #[.int .i64 h, .int .i64 w, .int .i64 c], .int .i64 i, .int .i64 j, .int .i64 k] W fun e W' => e = .returned (.int .i64 (plOf h w c i j k)) ∧ Below W.heap.size W W' := by
  rcases hs : shOk h w c with _ | _
  · rw [plOf_no hs]
    have HS := Lib.hid hs
    clear hs
    go_enter Try.func84, Try.ntmps84
    go_wp2_with fail
    refine (shapeOkS h w c false HS.out _).mono ?_
    rintro e w1 ⟨rfl, b1⟩
    have B1 := Lib.hid (after1 b1)
    clear b1
    go_wp2_with fail
    go_ret
    exact ⟨rfl, B1.out⟩
  · by_cases hp : 0 ≤ i ∧ i < h ∧ 0 ≤ j ∧ j < w ∧ 0 ≤ k ∧ k < c
    · obtain ⟨p1, p2, p3, p4, p5, p6⟩ := hp
      obtain ⟨e, m1, m2, m3, m4, m5, m6⟩ := plOf_in hs p1 p2 p3 p4 p5 p6
      obtain ⟨a1, a2, a3, a4, a5, a6⟩ := shOk_iff.1 hs
      rw [e]
      have HS := Lib.hid hs
      clear hs e m3 m6
      go_enter Try.func84, Try.ntmps84
      go_wp2_with fail
      refine (shapeOkS h w c true HS.out _).mono ?_
      rintro e w1 ⟨rfl, b1⟩
      obtain ⟨n0, n1, n2⟩ := new3 W 25 (.int .i64 h) (.int .i64 w) (.int .i64 c)
      have c0 := keep b1 n0
      have c1 := keep b1 n1
      have c2 := keep b1 n2
      have B1 := Lib.hid (after1 b1)
      clear b1 n0 n1 n2
      go_wp2_with ((with_reducible refine (inS_yes _ _ _ (by omega) (by omega) _).mono ?_); rintro e w' ⟨rfl, rfl⟩)
      go_ret
      exact ⟨rfl, B1.out⟩
    · rw [plOf_out hp]
      obtain ⟨a1, a2, a3, a4, a5, a6⟩ := shOk_iff.1 hs
      have HS := Lib.hid hs
      clear hs
      have hq : ¬ (0 ≤ i ∧ i ≤ h - 1) ∨ ((0 ≤ i ∧ i ≤ h - 1) ∧ ¬ (0 ≤ j ∧ j ≤ w - 1)) ∨ ((0 ≤ i ∧ i ≤ h - 1) ∧ (0 ≤ j ∧ j ≤ w - 1) ∧ ¬ (0 ≤ k ∧ k ≤ c - 1)) := by omega
      clear hp
      rcases hq with h1 | ⟨⟨h1, h2⟩, h3⟩ | ⟨⟨h1, h2⟩, ⟨h3, h4⟩, h5⟩
      · have H1 := Lib.hid h1
        clear h1
        go_enter Try.func84, Try.ntmps84
        go_wp2_with fail
        refine (shapeOkS h w c true HS.out _).mono ?_
        rintro e w1 ⟨rfl, b1⟩
        obtain ⟨n0, n1, n2⟩ := new3 W 25 (.int .i64 h) (.int .i64 w) (.int .i64 c)
        have c0 := keep b1 n0
        have c1 := keep b1 n1
        have c2 := keep b1 n2
        have B1 := Lib.hid (after1 b1)
        clear b1 n0 n1 n2
        go_wp2_with ((with_reducible refine (inS_no i _ _ H1.out _).mono ?_); rintro e w' ⟨rfl, rfl⟩)
        go_ret
        exact ⟨rfl, B1.out⟩
      · have H1 := Lib.hid h3
        clear h3
        go_enter Try.func84, Try.ntmps84
        go_wp2_with fail
        refine (shapeOkS h w c true HS.out _).mono ?_
        rintro e w1 ⟨rfl, b1⟩
        obtain ⟨n0, n1, n2⟩ := new3 W 25 (.int .i64 h) (.int .i64 w) (.int .i64 c)
        have c0 := keep b1 n0
        have c1 := keep b1 n1
        have c2 := keep b1 n2
        have B1 := Lib.hid (after1 b1)
        clear b1 n0 n1 n2
        go_wp2_with (first
          | ((with_reducible refine (inS_no j _ _ H1.out _).mono ?_); rintro e w' ⟨rfl, rfl⟩)
          | ((with_reducible refine (inS_yes _ _ _ (by omega) (by omega) _).mono ?_); rintro e w' ⟨rfl, rfl⟩))
        go_ret
        exact ⟨rfl, B1.out⟩
      · have H1 := Lib.hid h5
        clear h5
        go_enter Try.func84, Try.ntmps84
        go_wp2_with fail
        refine (shapeOkS h w c true HS.out _).mono ?_
        rintro e w1 ⟨rfl, b1⟩
        obtain ⟨n0, n1, n2⟩ := new3 W 25 (.int .i64 h) (.int .i64 w) (.int .i64 c)
        have c0 := keep b1 n0
        have c1 := keep b1 n1
        have c2 := keep b1 n2
        have B1 := Lib.hid (after1 b1)
        clear b1 n0 n1 n2
        go_wp2_with (first
          | ((with_reducible refine (inS_no k _ _ H1.out _).mono ?_); rintro e w' ⟨rfl, rfl⟩)
          | ((with_reducible refine (inS_yes _ _ _ (by omega) (by omega) _).mono ?_); rintro e w' ⟨rfl, rfl⟩))
        go_ret
        exact ⟨rfl, B1.out⟩

theorem placeI (h w c i j k : Int) (W : World) :
    Calls Try.prog 131 #[.agg #[.int .i64 h, .int .i64 w, .int .i64 c], .int .i64 i, .int .i64 j, .int .i64 k] W fun e W' => e = .returned (.int .i64 (plOf h w c i j k)) ∧ Below W.heap.size W W' := by
  rcases hs : shOk h w c with _ | _
  · rw [plOf_no hs]
    have HS := Lib.hid hs
    clear hs
    go_enter Try.func131, Try.ntmps131
    go_wp2_with fail
    refine (sidesOkI h w c false HS.out _).mono ?_
    rintro e w1 ⟨rfl, b1⟩
    have B1 := Lib.hid (after1 b1)
    clear b1
    go_wp2_with fail
    go_ret
    exact ⟨rfl, B1.out⟩
  · obtain ⟨a1, a2, a3, a4, a5, a6⟩ := shOk_iff.1 hs
    have HS := Lib.hid hs
    clear hs
    have i0 : ∀ w0, (Instr.index 71 (.agg #[.int .i64 i, .int .i64 j, .int .i64 k]) (.int .i64 0)).run Try.prog w0 = .ok (.int .i64 i) w0 := fun _ => by kernel_rfl
    have i1 : ∀ w0, (Instr.index 71 (.agg #[.int .i64 i, .int .i64 j, .int .i64 k]) (.int .i64 1)).run Try.prog w0 = .ok (.int .i64 j) w0 := fun _ => by kernel_rfl
    have i2 : ∀ w0, (Instr.index 71 (.agg #[.int .i64 i, .int .i64 j, .int .i64 k]) (.int .i64 2)).run Try.prog w0 = .ok (.int .i64 k) w0 := fun _ => by kernel_rfl
    obtain ⟨r, hr⟩ : ∃ r, r = plOf h w c i j k := ⟨_, rfl⟩
    rw [← hr]
    have HR := Lib.hid hr
    clear hr
    go_enter Try.func131, Try.ntmps131
    go_wp2_with fail
    refine (sidesOkI h w c true HS.out _).mono ?_
    rintro e w1 ⟨rfl, b1⟩
    obtain ⟨n0, n1, n2⟩ := new3 W 72 (.int .i64 h) (.int .i64 w) (.int .i64 c)
    have c0 := keep b1 n0
    have c1 := keep b1 n1
    have c2 := keep b1 n2
    have B1 := Lib.hid (after1 b1)
    clear b1 n0 n1 n2
    go_wp2_with fail
    go_loop [9, 19] (fun p x => ∃ (n : Nat) (p0 : Int), n ≤ 3 ∧ x = .int .i64 n ∧ p = .int .i64 p0 ∧ (n = 0 → p0 = 0) ∧ (n = 1 → p0 = i) ∧ (n = 2 → p0 = i * w + j) ∧ (n = 3 → p0 = (i * w + j) * c + k) ∧ (0 < n → 0 ≤ i ∧ i < h) ∧ (1 < n → 0 ≤ j ∧ j < w) ∧ (2 < n → 0 ≤ k ∧ k < c)) (fun _ x => 3 - (intOf x).toNat)
    case atStart => exact ⟨0, 0, by omega, rfl, rfl, by omega, by omega, by omega, by omega, by omega, by omega, by omega⟩
    case round =>
      obtain ⟨n, p0, hn, rfl, rfl, d0, d1, d2, d3, q0, q1, q2⟩ := hrel
      rcases (by omega : n = 0 ∨ n = 1 ∨ n = 2 ∨ n = 3) with rfl | rfl | rfl | rfl
      · obtain rfl := d0 rfl
        clear d0 d1 d2 d3 q0 q1 q2
        by_cases hq : 0 ≤ i ∧ i < h
        · obtain ⟨h1, h2⟩ := hq
          go_wp2
          go_round
          case rel => exact ⟨1, i, by omega, by go_num, by go_num, by omega, fun _ => rfl, by omega, by omega, fun _ => ⟨h1, h2⟩, by omega, by omega⟩
          case measure => simp [intOf]
        · have hm : r = -1 := by rw [HR.out]; exact plOf_out (by omega)
          subst hm
          rcases (by omega : i < 0 ∨ (0 ≤ i ∧ h ≤ i)) with h1 | ⟨h1, h2⟩
          all_goals
            go_wp2
            go_ret
            exact ⟨rfl, B1.out⟩
      · obtain rfl := (d1 rfl).symm
        obtain ⟨h1, h2⟩ := q0 (by omega)
        clear d0 d1 d2 d3 q0 q1 q2
        by_cases hq : 0 ≤ j ∧ j < w
        · obtain ⟨h3, h4⟩ := hq
          have e1 : 0 ≤ i * w := Int.mul_nonneg h1 (by omega)
          have e2 : i * w ≤ 7 * 8 := Int.mul_le_mul (by omega) (by omega) (by omega) (by omega)
          go_wp2
          go_round
          case rel => exact ⟨2, i * w + j, by omega, by go_num, by go_num, by omega, by omega, fun _ => rfl, by omega, fun _ => ⟨h1, h2⟩, fun _ => ⟨h3, h4⟩, by omega⟩
          case measure => simp [intOf]
        · have hm : r = -1 := by rw [HR.out]; exact plOf_out (by omega)
          subst hm
          rcases (by omega : j < 0 ∨ (0 ≤ j ∧ w ≤ j)) with h3 | ⟨h3, h4⟩
          all_goals
            go_wp2
            go_ret
            exact ⟨rfl, B1.out⟩
      · have hp0 := d2 rfl
        obtain ⟨h1, h2⟩ := q0 (by omega)
        obtain ⟨h3, h4⟩ := q1 (by omega)
        clear d0 d1 d2 d3 q0 q1 q2
        by_cases hq : 0 ≤ k ∧ k < c
        · obtain ⟨h5, h6⟩ := hq
          obtain ⟨_, m1, m2, m3, m4, m5, m6⟩ := plOf_in HS.out h1 h2 h3 h4 h5 h6
          rw [← hp0] at m4 m5
          have e0 : 0 ≤ p0 := by omega
          have e1 : p0 ≤ 63 := by omega
          have HP := Lib.hid hp0
          clear hp0 m1 m2 m3 m6
          go_wp2
          go_round
          case rel => exact ⟨3, p0 * c + k, by omega, by go_num, by go_num, by omega, by omega, by omega, fun _ => by rw [HP.out], fun _ => ⟨h1, h2⟩, fun _ => ⟨h3, h4⟩, fun _ => ⟨h5, h6⟩⟩
          case measure => simp [intOf]
        · have hm : r = -1 := by rw [HR.out]; exact plOf_out (by omega)
          subst hm
          clear hp0
          rcases (by omega : k < 0 ∨ (0 ≤ k ∧ c ≤ k)) with h5 | ⟨h5, h6⟩
          all_goals
            go_wp2
            go_ret
            exact ⟨rfl, B1.out⟩
      · have hp0 := d3 rfl
        obtain ⟨h1, h2⟩ := q0 (by omega)
        obtain ⟨h3, h4⟩ := q1 (by omega)
        obtain ⟨h5, h6⟩ := q2 (by omega)
        clear d0 d1 d2 d3 q0 q1 q2
        have hm : r = p0 := by rw [HR.out, hp0]; exact (plOf_in HS.out h1 h2 h3 h4 h5 h6).1
        subst hm
        clear hp0
        go_wp2
        go_ret
        exact ⟨rfl, B1.out⟩

theorem placeOfI (h w c i j k : Int) (W : World) :
    Calls Try.prog 130 #[.agg #[.int .i64 h, .int .i64 w, .int .i64 c], .int .i64 i, .int .i64 j, .int .i64 k] W fun e W' => e = .returned (.int .i64 (plOf h w c i j k)) ∧ Below W.heap.size W W' := by
  go_enter Try.func130, Try.ntmps130
  go_wp2_with fail
  refine (sidesOfI h w c _).mono ?_
  rintro e w1 ⟨rfl, b1⟩
  have B1 := Lib.hid (after1 b1)
  clear b1
  go_wp2_with fail
  refine (placeI h w c i j k _).mono ?_
  rintro e w2 ⟨rfl, b2⟩
  have B2 := Lib.hid (B1.out.trans (b2.mono B1.out.size))
  clear b2 B1
  go_wp2_with fail
  go_ret
  exact ⟨rfl, B2.out⟩
end Qt
end Go.Proofs.Ytnceiclgfogmiaa
