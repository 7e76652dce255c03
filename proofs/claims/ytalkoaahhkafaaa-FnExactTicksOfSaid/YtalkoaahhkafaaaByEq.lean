/- Two slices of bytes compared: l01Same of the model and bytes.Equal. Conditions: the slices read as the lists that are named. -/
import Derived.Test.YtalkoaahhkafaaaSame
import Derived.Test.YtalkoaahhkafaaaBytes
import Derived.Laws.BytesArg
namespace Go.Proofs.Ytalkoaahhkafaaa
open Go.RowKit Go.Sort
set_option linter.unusedSimpArgs false
set_option linter.unusedVariables false
namespace Qt
/-- Numbers that are bytes. -/
def ByB (xs : List Int) : Prop := ∀ x ∈ xs, 0 ≤ x ∧ x ≤ 255
theorem byte_inj {x y : Int} (hx : 0 ≤ x ∧ x ≤ 255) (hy : 0 ≤ y ∧ y ≤ 255) (h : UInt8.ofNat x.toNat = UInt8.ofNat y.toNat) : x = y := by
  have := congrArg UInt8.toNat h
  simp only [UInt8.toNat_ofNat'] at this
  omega
theorem bytes_inj {xs ys : List Int} (hx : ByB xs) (hy : ByB ys) (h : (xs.map fun n => UInt8.ofNat n.toNat) = (ys.map fun n => UInt8.ofNat n.toNat)) : xs = ys := by
  induction xs generalizing ys with
  | nil => cases ys with
    | nil => rfl
    | cons b r => simp at h
  | cons a q ih => cases ys with
    | nil => simp at h
    | cons b r =>
      simp only [List.map_cons, List.cons.injEq] at h
      have h1 := byte_inj (hx a (List.mem_cons_self ..)) (hy b (List.mem_cons_self ..)) h.1
      have h2 := ih (fun x hm => hx x (List.mem_cons_of_mem _ hm)) (fun x hm => hy x (List.mem_cons_of_mem _ hm)) h.2
      rw [h1, h2]
theorem str_inj {xs ys : List Int} (hx : ByB xs) (hy : ByB ys) : (strOfNums xs = strOfNums ys) ↔ xs = ys :=
  ⟨fun h => bytes_inj hx hy (by rw [← strOfNums_data, ← strOfNums_data, h]), fun h => by rw [h]⟩
theorem convB (A : Option Addr) (n p : Nat) (xs : List Int) (W : World) (hr : RdB8 W A n xs) : (convert 45 9 (.slice A n p)).run Try.prog W = .ok (.string (strOfNums xs)) W := by
  by_cases h0 : n = 0
  · subst h0
    have : xs = [] := List.length_eq_zero_iff.1 hr.1
    subst this
    have e := run_convert_bytes_string W 45 9 5 A 0 p Try.underlying45 Try.underlying5 Try.underlying9
    rcases A with _ | a
    · rw [e]; simp [Conv.bytesToString]; rfl
    · rw [e]; simp [Conv.bytesToString, loadCells]; rfl
  · obtain ⟨b, off, rfl, hlt, hc⟩ := hr.2 (by omega)
    exact run_convert_bytes_arg W 45 5 Try.underlying45 Try.underlying5 b off n p xs hr.1 hc 9 Try.underlying9
end Qt
end Go.Proofs.Ytalkoaahhkafaaa
