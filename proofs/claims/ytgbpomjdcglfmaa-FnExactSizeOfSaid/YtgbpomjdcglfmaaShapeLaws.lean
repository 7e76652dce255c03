/- The laws of ShapeOk, SizeOf and PlaceOf return true, at every argument. -/
import Derived.Test.YtgbpomjdcglfmaaPlace
namespace Go.Proofs.Ytgbpomjdcglfmaa
open Go.RowKit
namespace Qt
theorem shapeOkLaw (h w c : Int) (W : World) :
    Calls Try.prog 3 #[.agg #[.int .i64 h, .int .i64 w, .int .i64 c]] W fun e W' => e = .returned (.bool true) ∧ Below W.heap.size W W' := by
  obtain ⟨b, hb⟩ : ∃ b, shOk h w c = b := ⟨_, rfl⟩
  have HB := Lib.hid hb
  clear hb
  go_enter Try.func3, Try.ntmps3
  go_wp2_with fail
  refine (toShapeL h w c _).mono ?_
  rintro e w1 ⟨rfl, b1⟩
  obtain ⟨n0, n1, n2⟩ := new3 W 23 (.int .i64 h) (.int .i64 w) (.int .i64 c)
  have d0 := keep b1 n0
  have d1 := keep b1 n1
  have d2 := keep b1 n2
  have B1 := Lib.hid (after1 b1)
  clear b1 n0 n1 n2
  go_wp2_with fail
  refine (shapeOkS h w c b HB.out _).mono ?_
  rintro e w2 ⟨rfl, b2⟩
  have f0 := keep b2 d0
  have f1 := keep b2 d1
  have f2 := keep b2 d2
  have B2 := Lib.hid (B1.out.trans (b2.mono B1.out.size))
  clear b2 B1 d0 d1 d2
  go_wp2_with fail
  refine (toShapeL h w c _).mono ?_
  rintro e w3 ⟨rfl, b3⟩
  have B3 := Lib.hid (B2.out.trans (b3.mono B2.out.size))
  clear b3 B2 f0 f1 f2
  go_wp2_with fail
  refine (shapeOkI h w c b HB.out _).mono ?_
  rintro e w4 ⟨rfl, b4⟩
  have B4 := Lib.hid (B3.out.trans (b4.mono B3.out.size))
  clear b4 B3
  go_wp2_with fail
  go_ret
  exact ⟨rfl, B4.out⟩

theorem sizeOfLaw (h w c : Int) (W : World) :
    Calls Try.prog 4 #[.agg #[.int .i64 h, .int .i64 w, .int .i64 c]] W fun e W' => e = .returned (.bool true) ∧ Below W.heap.size W W' := by
  go_enter Try.func4, Try.ntmps4
  go_wp2_with fail
  refine (toShapeL h w c _).mono ?_
  rintro e w1 ⟨rfl, b1⟩
  obtain ⟨n0, n1, n2⟩ := new3 W 23 (.int .i64 h) (.int .i64 w) (.int .i64 c)
  have d0 := keep b1 n0
  have d1 := keep b1 n1
  have d2 := keep b1 n2
  have B1 := Lib.hid (after1 b1)
  clear b1 n0 n1 n2
  go_wp2_with fail
  refine (sizeOfS h w c _).mono ?_
  rintro e w2 ⟨rfl, b2⟩
  have f0 := keep b2 d0
  have f1 := keep b2 d1
  have f2 := keep b2 d2
  have B2 := Lib.hid (B1.out.trans (b2.mono B1.out.size))
  clear b2 B1 d0 d1 d2
  go_wp2_with fail
  refine (toShapeL h w c _).mono ?_
  rintro e w3 ⟨rfl, b3⟩
  have B3 := Lib.hid (B2.out.trans (b3.mono B2.out.size))
  clear b3 B2 f0 f1 f2
  go_wp2_with fail
  refine (sizeOfI h w c _).mono ?_
  rintro e w4 ⟨rfl, b4⟩
  have B4 := Lib.hid (B3.out.trans (b4.mono B3.out.size))
  clear b4 B3
  go_wp2_with fail
  go_ret
  exact ⟨rfl, B4.out⟩

theorem placeOfLaw (h w c i j k : Int) (W : World) :
    Calls Try.prog 6 #[.agg #[.int .i64 h, .int .i64 w, .int .i64 c], .int .i64 i, .int .i64 j, .int .i64 k] W fun e W' => e = .returned (.bool true) ∧ Below W.heap.size W W' := by
  go_enter Try.func6, Try.ntmps6
  go_wp2_with fail
  refine (toShapeL h w c _).mono ?_
  rintro e w1 ⟨rfl, b1⟩
  obtain ⟨n0, n1, n2⟩ := new3 W 23 (.int .i64 h) (.int .i64 w) (.int .i64 c)
  have d0 := keep b1 n0
  have d1 := keep b1 n1
  have d2 := keep b1 n2
  have B1 := Lib.hid (after1 b1)
  clear b1 n0 n1 n2
  go_wp2_with fail
  refine (placeS h w c i j k _).mono ?_
  rintro e w2 ⟨rfl, b2⟩
  have f0 := keep b2 d0
  have f1 := keep b2 d1
  have f2 := keep b2 d2
  have B2 := Lib.hid (B1.out.trans (b2.mono B1.out.size))
  clear b2 B1 d0 d1 d2
  go_wp2_with fail
  refine (toShapeL h w c _).mono ?_
  rintro e w3 ⟨rfl, b3⟩
  have B3 := Lib.hid (B2.out.trans (b3.mono B2.out.size))
  clear b3 B2 f0 f1 f2
  go_wp2_with fail
  refine (placeOfI h w c i j k _).mono ?_
  rintro e w4 ⟨rfl, b4⟩
  have B4 := Lib.hid (B3.out.trans (b4.mono B3.out.size))
  clear b4 B3
  go_wp2_with fail
  go_ret
  exact ⟨rfl, B4.out⟩
end Qt
end Go.Proofs.Ytgbpomjdcglfmaa
