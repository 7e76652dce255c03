/- Slices of whole numbers that are read, copied and compared: what the laws' own helpers toIntS and eqIntS give. Conditions: the slice reads as the list that is named. -/
import Derived.Test.YtgdcggjkfmdobaaProg
import Derived.WalkKit
import Derived.ProofKit
import Derived.BigQuiet
import Derived.Deep.QuietTactic
import Derived.Below
import Derived.Lib.Hide
import Derived.Outline
import Derived.Handy
import Derived.WalkSmall
namespace Go.Proofs.Ytgdcggjkfmdobaa
open Go.RowKit
namespace Qt

/-- The slice at A of n elements reads as xs. -/
def RdI (w : World) (A : Option Addr) (n : Nat) (xs : List Int) : Prop :=
  xs.length = n ∧ (0 < n → ∃ b off, A = some ⟨b, off, none⟩ ∧ b < w.heap.size ∧ ∀ j, j < n → w.cell? ⟨b, off + j, none⟩ = some (.int .i64 (xs.getD j 0)))
theorem RdI.nil (w : World) (A : Option Addr) : RdI w A 0 [] := ⟨rfl, fun h => absurd h (by omega)⟩
theorem RdI.of_below {w w' : World} {A : Option Addr} {n : Nat} {xs : List Int} (h : RdI w A n xs) (hb : Below w.heap.size w w') : RdI w' A n xs :=
  ⟨h.1, fun hn => by
    obtain ⟨b, off, e, hlt, hc⟩ := h.2 hn
    exact ⟨b, off, e, Nat.lt_of_lt_of_le hlt hb.size, fun j hj => (hb.cell (p := ⟨b, off + j, none⟩) hlt).trans (hc j hj)⟩⟩
theorem RdI.of_drewN {w : World} {A : Option Addr} {n : Nat} {xs : List Int} (h : RdI w A n xs) (m : Nat) : RdI (w.drewN m) A n xs := h
theorem RdI.of_own {w : World} {base c e n : Nat} {A : Option Addr} {xs : List Int} (h : w.ownsRow base e 1 (.slice A n c) n (xs.map (Value.int .i64))) : RdI w A n xs := by
  refine ⟨by simpa using h.1, fun hn => ?_⟩
  rcases h.2 with ⟨_, h0⟩ | ⟨g, cap, cur, hv, _, hg, _⟩
  · omega
  · injection hv with hA _ hc
    subst hA hc
    refine ⟨g, 0, rfl, ?_, fun j hj => ?_⟩
    · rcases Nat.lt_or_ge g w.heap.size with hlt | hge
      · exact hlt
      · rw [Array.getElem?_eq_none hge] at hg; cases hg
    · have := h.cellAt j (by omega)
      have hl : j < xs.length := by have := h.1; simp at this; omega
      rw [Nat.zero_add, this]; simp [List.getD_eq_getElem?_getD, hl]

def vals (xs : List Int) (n k : Nat) : List Int := xs.take k ++ List.replicate (n - k) 0
theorem vals_zero (xs : List Int) (n : Nat) : vals xs n 0 = List.replicate n 0 := by simp [vals]
theorem vals_all (xs : List Int) (n : Nat) (h : xs.length = n) : vals xs n n = xs := by simp [vals, ← h]
theorem vals_set (xs : List Int) (n k : Nat) (h : xs.length = n) (hk : k < n) : (vals xs n k).set k (xs.getD k 0) = vals xs n (k + 1) := by
  have e1 : (xs.take k).length = k := by rw [List.length_take]; omega
  obtain ⟨m, hm⟩ : ∃ m, n - k = m + 1 := ⟨n - k - 1, by omega⟩
  have hm2 : n - (k + 1) = m := by omega
  have hx : xs.getD k 0 = xs[k]'(by omega) := by rw [List.getD_eq_getElem?_getD, List.getElem?_eq_getElem (by omega)]; rfl
  unfold vals
  rw [List.set_append_right _ _ (by omega), e1, Nat.sub_self, hm, hm2, List.replicate_succ, List.set_cons_zero, List.take_succ_eq_append_getElem (by omega), List.append_assoc, hx]
  rfl
theorem vals_map_set (xs : List Int) (n k : Nat) (h : xs.length = n) (hk : k < n) : ((vals xs n k).map (Value.int .i64)).set k (.int .i64 (xs.getD k 0)) = (vals xs n (k + 1)).map (Value.int .i64) := by
  rw [← vals_set xs n k h hk, List.map_set]

def NewI (w : World) (n : Nat) (xs : List Int) (e : Ending) (w' : World) : Prop := ∃ g, e = .returned (.slice (some ⟨g, 0, none⟩) n n) ∧ RdI w' (some ⟨g, 0, none⟩) n xs ∧ Below w.heap.size w w'

theorem info3 : (Try.prog.info? 3).map (fun i => (i.zero, i.size, i.bytes)) = some (some (.int .i64 0), 1, 8) := by kernel_rfl
end Qt
end Go.Proofs.Ytgdcggjkfmdobaa
