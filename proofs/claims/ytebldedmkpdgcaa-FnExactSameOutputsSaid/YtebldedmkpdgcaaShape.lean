/- What the functions on shapes (of the program, of its model and of the laws) give when they are called, each at every argument. No conditions but that a side fits its kind. -/
import Derived.Test.YtebldedmkpdgcaaQuant
import Derived.Test.YtebldedmkpdgcaaMult
import Derived.Deep.QuietTactic
import Derived.StillTailTactics
namespace Go.Proofs.Ytebldedmkpdgcaa
open Go.RowKit
namespace Qt

def shOk (h w c : Int) : Bool := decide (1 ≤ h ∧ h ≤ 8 ∧ 1 ≤ w ∧ w ≤ 8 ∧ 1 ≤ c ∧ c ≤ 8)
def szOf (h w c : Int) : Int := if shOk h w c then h * w * c else 0
theorem shOk_iff {h w c : Int} : shOk h w c = true ↔ (1 ≤ h ∧ h ≤ 8 ∧ 1 ≤ w ∧ w ≤ 8 ∧ 1 ≤ c ∧ c ≤ 8) := by simp [shOk]
theorem shOk_not {h w c : Int} : shOk h w c = false ↔ ¬ (1 ≤ h ∧ h ≤ 8 ∧ 1 ≤ w ∧ w ≤ 8 ∧ 1 ≤ c ∧ c ≤ 8) := by simp [shOk]
theorem mulPos {a b m n : Int} (h1 : 1 ≤ a) (h2 : a ≤ m) (h3 : 1 ≤ b) (h4 : b ≤ n) : 1 ≤ a * b ∧ a * b ≤ m * n :=
  ⟨by have := Int.mul_le_mul h1 h3 (by omega) (by omega : (0:Int) ≤ a); omega, Int.mul_le_mul h2 h4 (by omega) (by omega)⟩
theorem szOf_yes {h w c : Int} (hs : shOk h w c = true) : szOf h w c = h * w * c ∧ 1 ≤ h * w ∧ h * w ≤ 64 ∧ 1 ≤ h * w * c ∧ h * w * c ≤ 512 := by
  obtain ⟨a1, a2, a3, a4, a5, a6⟩ := shOk_iff.1 hs
  have h1 := mulPos a1 a2 a3 a4
  have h2 := mulPos h1.1 h1.2 a5 a6
  refine ⟨by rw [szOf, if_pos hs], h1.1, by omega, h2.1, by omega⟩
theorem szOf_no {h w c : Int} (hs : shOk h w c = false) : szOf h w c = 0 := by rw [szOf, hs]; rfl
theorem szOf_bd (h w c : Int) : 0 ≤ szOf h w c ∧ szOf h w c ≤ 512 := by
  rcases hs : shOk h w c with _ | _
  · rw [szOf_no hs]; omega
  · have := szOf_yes hs; omega

theorem toShapeL (h w c : Int) (W : World) :
    Calls Try.prog 57 #[.agg #[.int .i64 h, .int .i64 w, .int .i64 c]] W fun e W' => e = .returned (.agg #[.int .i64 h, .int .i64 w, .int .i64 c]) ∧ Below W.heap.size W W' := by
  go_enter Try.func57, Try.ntmps57
  go_wp2
  exact bodyPost_ret (v := .agg #[.int .i64 h, .int .i64 w, .int .i64 c]) (by simp [results, Try.results57, go_sem]) rfl ⟨rfl, (((Below.refl _ W).alloc (Nat.le_refl _) _).alloc (by simp) _).alloc (by simp only [World.size_alloc]; omega) _⟩

theorem sidesOfI (h w c : Int) (W : World) :
    Calls Try.prog 113 #[.agg #[.int .i64 h, .int .i64 w, .int .i64 c]] W fun e W' => e = .returned (.agg #[.int .i64 h, .int .i64 w, .int .i64 c]) ∧ Below W.heap.size W W' := by
  go_enter Try.func113, Try.ntmps113
  go_wp2
  exact bodyPost_ret (v := .agg #[.int .i64 h, .int .i64 w, .int .i64 c]) (by simp [results, Try.results113, go_sem]) rfl ⟨rfl, ((Below.refl _ W).alloc (Nat.le_refl _) _).alloc (by simp) _⟩

theorem shapeI (h w c : Int) (W : World) :
    Calls Try.prog 158 #[.agg #[.int .i64 h, .int .i64 w, .int .i64 c]] W fun e W' => e = .returned (.agg #[.int .i64 h, .int .i64 w, .int .i64 c]) ∧ Below W.heap.size W W' := by
  go_enter Try.func158, Try.ntmps158
  go_wp2
  exact bodyPost_ret (v := .agg #[.int .i64 h, .int .i64 w, .int .i64 c]) (by simp [results, Try.results158, go_sem]) rfl ⟨rfl, ((Below.refl _ W).alloc (Nat.le_refl _) _).alloc (by simp) _⟩

theorem shapeOkS (h w c : Int) (b : Bool) (hb : shOk h w c = b) (W : World) :
    Calls Try.prog 108 #[.agg #[.int .i64 h, .int .i64 w, .int .i64 c]] W fun e W' => e = .returned (.bool b) ∧ Below W.heap.size W W' := by
  cases b with
  | true =>
    obtain ⟨a1, a2, a3, a4, a5, a6⟩ := shOk_iff.1 hb
    clear hb
    go_enter Try.func108, Try.ntmps108
    go_wp2_with ((with_reducible refine (inS_yes _ _ _ (by omega) (by omega) _).mono ?_); rintro e w' ⟨rfl, rfl⟩)
    go_ret
    exact ⟨rfl, (Below.refl _ W).alloc (Nat.le_refl _) _⟩
  | false =>
    have hn := shOk_not.1 hb
    clear hb
    by_cases h1 : 1 ≤ h ∧ h ≤ 8
    · by_cases h2 : 1 ≤ w ∧ w ≤ 8
      · have h3 : ¬ (1 ≤ c ∧ c ≤ 8) := fun hc => hn ⟨h1.1, h1.2, h2.1, h2.2, hc.1, hc.2⟩
        clear hn
        obtain ⟨h11, h12⟩ := h1
        obtain ⟨h21, h22⟩ := h2
        have H3 := Lib.hid h3
        clear h3
        go_enter Try.func108, Try.ntmps108
        go_wp2_with (first
          | ((with_reducible refine (inS_no c _ _ H3.out _).mono ?_); rintro e w' ⟨rfl, rfl⟩)
          | ((with_reducible refine (inS_yes _ _ _ (by omega) (by omega) _).mono ?_); rintro e w' ⟨rfl, rfl⟩))
        go_ret
        exact ⟨rfl, (Below.refl _ W).alloc (Nat.le_refl _) _⟩
      · clear hn
        obtain ⟨h11, h12⟩ := h1
        have H2 := Lib.hid h2
        clear h2
        go_enter Try.func108, Try.ntmps108
        go_wp2_with (first
          | ((with_reducible refine (inS_no w _ _ H2.out _).mono ?_); rintro e w' ⟨rfl, rfl⟩)
          | ((with_reducible refine (inS_yes _ _ _ (by omega) (by omega) _).mono ?_); rintro e w' ⟨rfl, rfl⟩))
        go_ret
        exact ⟨rfl, (Below.refl _ W).alloc (Nat.le_refl _) _⟩
    · have H1 := Lib.hid h1
      clear h1 hn
      go_enter Try.func108, Try.ntmps108
      go_wp2_with ((with_reducible refine (inS_no h _ _ H1.out _).mono ?_); rintro e w' ⟨rfl, rfl⟩)
      go_ret
      exact ⟨rfl, (Below.refl _ W).alloc (Nat.le_refl _) _⟩
end Qt
end Go.Proofs.Ytebldedmkpdgcaa
