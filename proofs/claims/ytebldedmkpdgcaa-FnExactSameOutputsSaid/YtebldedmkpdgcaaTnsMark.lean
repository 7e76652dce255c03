/- What the laws' own helper markTensorS leaves: ints in place of ints in blocks of a known range. Conditions: the slice and its elements' lists lie in blocks of that range. -/
import Derived.Test.YtebldedmkpdgcaaTnsToS
import Derived.Test.YtebldedmkpdgcaaRem
namespace Go.Proofs.Ytebldedmkpdgcaa
open Go.RowKit Go.Sort
set_option linter.unusedSimpArgs false
set_option linter.unusedVariables false
namespace Qt
/-- The rows of the slice stand in block g, from B on, below C; its ints may be written, and those of the elements' lists. -/
def MarTns (B C : Nat) (w : World) (g n : Nat) (ss : List Tns) : Prop :=
  ss.length = n ∧ B ≤ g ∧ g < C ∧ g < w.heap.size ∧ (∀ c, w.frozen? ⟨g, c, none⟩ = false) ∧ ∀ j s, ss[j]? = some s → ∃ P, (∀ c v, (tnsC s P)[c]? = some v → w.cell? ⟨g, j * 4 + c, none⟩ = some v) ∧ Free .i64 B C w P.A P.n ∧ P.n = s.xs.length
theorem OwnTns.mar {B C : Nat} {w : World} {g n : Nat} {ss : List Tns} (h : OwnTns B w g n ss) (hC : w.heap.size ≤ C) : MarTns B C w g n ss := by
  obtain ⟨hl, hB, cs, hk, hs, hr⟩ := h
  refine ⟨hl, hB, Nat.lt_of_lt_of_le hk.lt hC, hk.lt, fun c => hk.frozen c, fun j s hj => ?_⟩
  have hjn : j < n := by have := (List.getElem?_eq_some_iff.1 hj).1; omega
  obtain ⟨ga, h1, h3, h4⟩ := hr j s hjn hj
  exact ⟨posTns s ga, fun c v hv => hk.cell _ (h3 c v hv), h4.free hC, rfl⟩
theorem MarTns.of_below {B C : Nat} {w w' : World} {g n : Nat} {ss : List Tns} (h : MarTns B C w g n ss) (hb : Below w.heap.size w w') : MarTns B C w' g n ss := by
  obtain ⟨hl, hB, hC, hlt, hf, hr⟩ := h
  refine ⟨hl, hB, hC, Nat.lt_of_lt_of_le hlt hb.size, fun c => (hb.frozen (p := ⟨g, c, none⟩) hlt).trans (hf c), fun j s hj => ?_⟩
  obtain ⟨P, h1, h2, h3⟩ := hr j s hj
  exact ⟨P, fun c v hv => (hb.cell (p := ⟨g, j * 4 + c, none⟩) hlt).trans (h1 c v hv), h2.of_below hb, h3⟩
theorem MarTns.at {B C : Nat} {w w' : World} {g n : Nat} {ss : List Tns} (h : MarTns B C w g n ss) (hr : Rem B C w w') {j : Nat} {s : Tns} (hj : ss[j]? = some s) : ∃ d0 d1 d2 A n' p, w'.cell? ⟨g, j * 4, none⟩ = some (.int .i64 d0) ∧ w'.cell? ⟨g, j * 4 + 1, none⟩ = some (.int .i64 d1) ∧ w'.cell? ⟨g, j * 4 + 2, none⟩ = some (.int .i64 d2) ∧ w'.cell? ⟨g, j * 4 + 3, none⟩ = some (.slice A n' p) ∧ Free .i64 B C w A n' ∧ n' = s.xs.length := by
  obtain ⟨P, h1, h2, h3⟩ := h.2.2.2.2.2 j s hj
  obtain ⟨d0, e0⟩ := hr.int (h1 0 _ rfl)
  obtain ⟨d1, e1⟩ := hr.int (h1 1 _ rfl)
  obtain ⟨d2, e2⟩ := hr.int (h1 2 _ rfl)
  have e3 := hr.slice (h1 3 _ rfl)
  exact ⟨d0, d1, d2, P.A, P.n, P.p, e0, e1, e2, e3, h2, h3⟩
theorem MarTns.free {B C : Nat} {w w' : World} {g n : Nat} {ss : List Tns} (h : MarTns B C w g n ss) (hr : Rem B C w w') (c : Nat) : w'.frozen? ⟨g, c, none⟩ = false := (hr.f ⟨g, c, none⟩ h.2.2.2.1).trans (h.2.2.2.2.1 c)
end Qt
end Go.Proofs.Ytebldedmkpdgcaa
