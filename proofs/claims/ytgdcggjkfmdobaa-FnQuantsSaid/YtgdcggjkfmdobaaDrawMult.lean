/- What the draws of MulHigh and MultFor give over bytes that can be read: two numbers; they write nothing that was there. -/
import Derived.Test.YtgdcggjkfmdobaaDraw
namespace Go.Proofs.Ytgdcggjkfmdobaa
open Go.RowKit
namespace Qt
theorem drawMultC (g : Nat) (A : Option Addr) (n : Nat) (w : World) (hc : Cur w g A n) :
    Calls Try.prog 19 #[.pointer (some ⟨g, 0, none⟩)] w (GetP w g A n fun _ => True) := by
  have HC := Lib.hid hc
  clear hc
  go_enter Try.func19, Try.ntmps19
  go_wp2_with fail
  refine (belowC g A n 16777216 _ HC.out (by omega) (by omega)).mono ?_
  rintro e w1 ⟨x1, hx1, rfl, hc1, hg1⟩
  have HC1 := Lib.hid hc1; have HG1 := Lib.hid hg1
  clear hc1 hg1 HC
  go_wp2_with fail
  refine (pickC (fun _ => True) g _ 6 A n _ _ _ (HC1.out.alloc _) (heap_alloc_new _ _) (by have := HC1.out.lt; omega) rfl (by omega) (by omega) (by exact ⟨⟨_, trivial, rfl⟩, ⟨_, trivial, rfl⟩, ⟨_, trivial, rfl⟩, ⟨_, trivial, rfl⟩, ⟨_, trivial, rfl⟩, ⟨_, trivial, rfl⟩, trivial⟩)).mono ?_
  rintro e w5 ⟨x5, hx5, rfl, hc5, hg5⟩
  have HC5 := Lib.hid hc5; have HG5 := Lib.hid (grown_trans (grown_alloc HG1.out _) hg5)
  clear hc5 hg5 HC1 HG1
  go_wp2
  go_ret
  exact ⟨_, trivial, rfl, HC5.out, HG5.out⟩

theorem drawMulHighC (A : Option Addr) (n c : Nat) (w : World) (hr : RdB w w.heap.size A n) (hn : n ≤ 1048577) :
    Calls Try.prog 5 #[.slice A n c] w (Get2 w) := by
  have HR := Lib.hid hr
  have HN := Lib.hid hn
  clear hr hn
  go_enter Try.func5, Try.ntmps5
  go_wp2_with fail
  refine (newC A n c _ HR.out HN.out).mono ?_
  rintro e w0 ⟨g, rfl, hle, hlt, hc0, hb0⟩
  have HC0 := Lib.hid hc0; have HB0 := Lib.hid hb0; have HL := Lib.hid hle
  clear hc0 hb0 HR hle hlt
  go_wp2_with fail
  refine (drawWideC g A n _ HC0.out).mono ?_
  rintro e w1 ⟨x1, hx1, rfl, hc1, hg1⟩
  have HC1 := Lib.hid hc1; have HB1 := Lib.hid (HB0.out.trans (grown_below hg1 HL.out HB0.out.size))
  clear hc1 hg1 HC0 HB0 hx1
  go_wp2_with fail
  refine (drawMultC g A n _ HC1.out).mono ?_
  rintro e w2 ⟨x2, hx2, rfl, hc2, hg2⟩
  have HC2 := Lib.hid hc2; have HB2 := Lib.hid (HB1.out.trans (grown_below hg2 HL.out HB1.out.size))
  clear hc2 hg2 HC1 HB1 hx2
  go_wp2_with fail
  refine (drawMultC g A n _ HC2.out).mono ?_
  rintro e w3 ⟨x3, hx3, rfl, hc3, hg3⟩
  have HC3 := Lib.hid hc3; have HB3 := Lib.hid (HB2.out.trans (grown_below hg3 HL.out HB2.out.size))
  clear hc3 hg3 HC2 HB2 hx3
  go_wp2_with fail
  refine (drawWideC g A n _ HC3.out).mono ?_
  rintro e w4 ⟨x4, hx4, rfl, hc4, hg4⟩
  have HC4 := Lib.hid hc4; have HB4 := Lib.hid (HB3.out.trans (grown_below hg4 HL.out HB3.out.size))
  clear hc4 hg4 HC3 HB3 hx4
  go_wp2_with fail
  refine (pickC (fun _ => True) g _ 3 A n _ _ _ (HC4.out.alloc _) (heap_alloc_new _ _) (by have := HC4.out.lt; omega) rfl (by omega) (by omega) (by exact ⟨⟨_, trivial, rfl⟩, ⟨_, trivial, rfl⟩, ⟨_, trivial, rfl⟩, trivial⟩)).mono ?_
  rintro e w5 ⟨x5, hx5, rfl, hc5, hg5⟩
  have HB5 := Lib.hid ((HB4.out.alloc HB4.out.size _).trans (grown_below hg5 HL.out (by have := HB4.out.size; simp; omega)))
  clear hc5 hg5 HC4 HB4 hx5
  go_wp2
  go_ret2
  exact ⟨_, _, rfl, HB5.out⟩

theorem drawMultForC (A : Option Addr) (n c : Nat) (w : World) (hr : RdB w w.heap.size A n) (hn : n ≤ 1048577) :
    Calls Try.prog 11 #[.slice A n c] w (Get2 w) := by
  have HR := Lib.hid hr
  have HN := Lib.hid hn
  clear hr hn
  go_enter Try.func11, Try.ntmps11
  go_wp2_with fail
  refine (newC A n c _ HR.out HN.out).mono ?_
  rintro e w0 ⟨g, rfl, hle, hlt, hc0, hb0⟩
  have HC0 := Lib.hid hc0; have HB0 := Lib.hid hb0; have HL := Lib.hid hle
  clear hc0 hb0 HR hle hlt
  go_wp2_with fail
  refine (belowC g A n 1000 _ HC0.out (by omega) (by omega)).mono ?_
  rintro e w1 ⟨x1, hx1, rfl, hc1, hg1⟩
  have HC1 := Lib.hid hc1; have HB1 := Lib.hid (HB0.out.trans (grown_below hg1 HL.out HB0.out.size))
  clear hc1 hg1 HC0 HB0
  go_wp2_with fail
  refine (belowC g A n 1000000 _ HC1.out (by omega) (by omega)).mono ?_
  rintro e w2 ⟨x2, hx2, rfl, hc2, hg2⟩
  have HC2 := Lib.hid hc2; have HB2 := Lib.hid (HB1.out.trans (grown_below hg2 HL.out HB1.out.size))
  clear hc2 hg2 HC1 HB1
  go_wp2_with fail
  refine (pickC (fun _ => True) g _ 5 A n _ _ _ (HC2.out.alloc _) (heap_alloc_new _ _) (by have := HC2.out.lt; omega) rfl (by omega) (by omega) (by exact ⟨⟨_, trivial, rfl⟩, ⟨_, trivial, rfl⟩, ⟨_, trivial, rfl⟩, ⟨_, trivial, rfl⟩, ⟨_, trivial, rfl⟩, trivial⟩)).mono ?_
  rintro e w3 ⟨x3, hx3, rfl, hc3, hg3⟩
  have HC3 := Lib.hid hc3; have HB3 := Lib.hid ((HB2.out.alloc HB2.out.size _).trans (grown_below hg3 HL.out (by have := HB2.out.size; simp; omega)))
  clear hc3 hg3 HC2 HB2 hx3 hx2 hx1
  go_wp2_with fail
  refine (belowC g A n 999 _ HC3.out (by omega) (by omega)).mono ?_
  rintro e w4 ⟨x4, hx4, rfl, hc4, hg4⟩
  have HC4 := Lib.hid hc4; have HB4 := Lib.hid (HB3.out.trans (grown_below hg4 HL.out HB3.out.size))
  clear hc4 hg4 HC3 HB3
  go_wp2_with fail
  refine (pickC (fun _ => True) g _ 5 A n _ _ _ (HC4.out.alloc _) (heap_alloc_new _ _) (by have := HC4.out.lt; omega) rfl (by omega) (by omega) (by exact ⟨⟨_, trivial, rfl⟩, ⟨_, trivial, rfl⟩, ⟨_, trivial, rfl⟩, ⟨_, trivial, rfl⟩, ⟨_, trivial, rfl⟩, trivial⟩)).mono ?_
  rintro e w5 ⟨x5, hx5, rfl, hc5, hg5⟩
  have HB5 := Lib.hid ((HB4.out.alloc HB4.out.size _).trans (grown_below hg5 HL.out (by have := HB4.out.size; simp; omega)))
  clear hc5 hg5 HC4 HB4 hx4 hx5
  go_wp2
  go_ret2
  exact ⟨_, _, rfl, HB5.out⟩
end Qt
end Go.Proofs.Ytgdcggjkfmdobaa
