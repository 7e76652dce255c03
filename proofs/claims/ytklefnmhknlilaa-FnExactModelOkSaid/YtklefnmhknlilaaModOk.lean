/- What ModelOk of the program and of its model give when they are called. Conditions: the slice of layers reads as the list that is named. -/
import Derived.Test.YtklefnmhknlilaaShS
import Derived.Test.YtklefnmhknlilaaLinksI
namespace Go.Proofs.Ytklefnmhknlilaa
open Go.RowKit Go.Sort
set_option linter.unusedSimpArgs false
set_option linter.unusedVariables false
namespace Qt
def okM (s : Sh) (ls : List Lay) : Bool := (modW s ls).isSome
theorem modelOkS (h w c : Int) (A : Option Addr) (n p : Nat) (ls : List Lay) (W : World) (hr : RdL W A n ls) (hn : n + big ls ≤ 1048576) :
    Calls Try.prog 13 #[.agg #[.int .i64 h, .int .i64 w, .int .i64 c, .slice A n p]] W fun e W' => e = .returned (.bool (okM (h, w, c) ls)) ∧ Below W.heap.size W W' := by
  have b0 := (Below.refl _ W).alloc (Nat.le_refl _) (.cells #[.int .i64 h, .int .i64 w, .int .i64 c, .slice A n p] 32)
  have HC := Lib.hid (l04ShapesS h w c A n p ls _ (hr.of_below b0) hn)
  have B0 := Lib.hid b0
  clear b0 hr
  go_enter Try.func13, Try.ntmps13
  go_wp2_with fail
  refine HC.out.mono ?_
  rintro e w1 ⟨b1, he⟩
  have B1 := Lib.hid (B0.out.trans (b1.mono B0.out.size))
  clear b1
  rcases hm : modW (h, w, c) ls with _ | ⟨ss, l⟩
  · rw [hm] at he
    have hb : Hid (okM (h, w, c) ls = false) := Lib.hid (by rw [okM, hm]; rfl)
    clear hm
    subst he
    go_wp2_with fail
    go_ret
    exact ⟨by rw [hb.out]; rfl, B1.out⟩
  · rw [hm] at he
    have hb : Hid (okM (h, w, c) ls = true) := Lib.hid (by rw [okM, hm]; rfl)
    clear hm
    obtain ⟨V, rfl, _⟩ := he
    go_wp2_with fail
    go_ret
    exact ⟨by rw [hb.out]; rfl, B1.out⟩
theorem modelOkI (h w c : Int) (A : Option Addr) (n p : Nat) (ls : List Lay) (W : World) (hr : RdL W A n ls) (hn : n + big ls ≤ 1048576) :
    Calls Try.prog 15 #[.agg #[.int .i64 h, .int .i64 w, .int .i64 c, .slice A n p]] W fun e W' => e = .returned (.bool (okM (h, w, c) ls)) ∧ Below W.heap.size W W' := by
  have b0 := (Below.refl _ W).alloc (Nat.le_refl _) (.cells #[.int .i64 h, .int .i64 w, .int .i64 c, .slice A n p] 32)
  have HC := Lib.hid (linksOfI h w c A n p ls _ (hr.of_below b0) hn)
  have B0 := Lib.hid b0
  clear b0 hr
  go_enter Try.func15, Try.ntmps15
  go_wp2_with fail
  refine HC.out.mono ?_
  rintro e w1 ⟨b1, he⟩
  have B1 := Lib.hid (B0.out.trans (b1.mono B0.out.size))
  clear b1
  rcases hm : modW (h, w, c) ls with _ | ⟨ss, l⟩
  · rw [hm] at he
    have hb : Hid (okM (h, w, c) ls = false) := Lib.hid (by rw [okM, hm]; rfl)
    clear hm
    subst he
    go_wp2_with fail
    go_ret
    exact ⟨by rw [hb.out]; rfl, B1.out⟩
  · rw [hm] at he
    have hb : Hid (okM (h, w, c) ls = true) := Lib.hid (by rw [okM, hm]; rfl)
    clear hm
    obtain ⟨g, gs, rfl, _⟩ := he
    go_wp2_with fail
    go_ret
    exact ⟨by rw [hb.out]; rfl, B1.out⟩
end Qt
end Go.Proofs.Ytklefnmhknlilaa
