/- What TensorOk of the model gives when it is called. Conditions: the slice reads as the list that is named. -/
import Derived.Test.YtklefnmhknlilaaTen
import Derived.Test.YtklefnmhknlilaaPlace
import Derived.Lib.QuietBelow
namespace Go.Proofs.Ytklefnmhknlilaa
open Go.RowKit Go.Sort
namespace Qt

def fit8 (x : Int) : Bool := decide (-128 ≤ x ∧ x ≤ 127)
def tOk (h w c : Int) (xs : List Int) : Bool := shOk h w c && (decide ((xs.length : Int) = szOf h w c) && xs.all fit8)
theorem tOk_iff {h w c : Int} {xs : List Int} : tOk h w c xs = true ↔ shOk h w c = true ∧ (xs.length : Int) = szOf h w c ∧ ∀ x ∈ xs, -128 ≤ x ∧ x ≤ 127 := by
  simp [tOk, fit8]
theorem tOk_no1 {h w c : Int} {xs : List Int} (hs : shOk h w c = false) : tOk h w c xs = false := by simp [tOk, hs]
theorem tOk_no2 {h w c : Int} {xs : List Int} (hs : (xs.length : Int) ≠ szOf h w c) : tOk h w c xs = false := by simp [tOk, hs]
theorem tOk_no3 {h w c : Int} {xs : List Int} {k : Nat} (hk : k < xs.length) (hx : ¬ (-128 ≤ xs.getD k 0 ∧ xs.getD k 0 ≤ 127)) : tOk h w c xs = false := by
  have e : xs.getD k 0 = xs[k] := by simp [List.getD_eq_getElem?_getD, hk]
  rw [e] at hx
  rcases hb : tOk h w c xs with _ | _
  · rfl
  · exact absurd ((tOk_iff.1 hb).2.2 _ (List.getElem_mem hk)) hx

theorem int8S (x : Int) (b : Bool) (hb : fit8 x = b) (W : World) : Calls Try.prog 89 #[.int .i64 x] W fun e W' => e = .returned (.bool b) ∧ W = W' := by
  cases b with
  | true =>
    have h1 : -128 ≤ x ∧ x ≤ 127 := by simpa [fit8] using hb
    obtain ⟨h1, h2⟩ := h1
    clear hb
    go_enter Try.func89, Try.ntmps89
    go_wp2_with ((with_reducible refine (inS_yes _ _ _ (by omega) (by omega) _).mono ?_); rintro e w' ⟨rfl, rfl⟩)
    go_ret
    exact ⟨rfl, rfl⟩
  | false =>
    have h1 : ¬ (-128 ≤ x ∧ x ≤ 127) := by simp [fit8] at hb; omega
    have H1 := Lib.hid h1
    clear hb h1
    go_enter Try.func89, Try.ntmps89
    go_wp2_with ((with_reducible refine (inS_no x _ _ H1.out _).mono ?_); rintro e w' ⟨rfl, rfl⟩)
    go_ret
    exact ⟨rfl, rfl⟩

theorem mixed : Try.prog.follows .mixedOrders = true := by kernel_rfl
end Qt
end Go.Proofs.Ytklefnmhknlilaa
