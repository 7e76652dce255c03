/- What the laws' own helper markSlotS leaves: ints in place of ints in blocks of a known range. Conditions: the slice and its elements' lists lie in blocks of that range. -/
import Derived.Test.YtebldedmkpdgcaaSltToS
import Derived.Test.YtebldedmkpdgcaaRem
namespace Go.Proofs.Ytebldedmkpdgcaa
open Go.RowKit Go.Sort
set_option linter.unusedSimpArgs false
set_option linter.unusedVariables false
namespace Qt
/-- The rows of the slice stand in block g, from B on, below C; its ints may be written, and those of the elements' lists. -/
def MarSlt (B C : Nat) (w : World) (g n : Nat) (ss : List Slt) : Prop :=
  ss.length = n ∧ B ≤ g ∧ g < C ∧ g < w.heap.size ∧ (∀ c, w.frozen? ⟨g, c, none⟩ = false) ∧ ∀ j s, ss[j]? = some s → ∃ P, (∀ c v, (sltC s P)[c]? = some v → w.cell? ⟨g, j * 4 + c, none⟩ = some v)
theorem OwnSlt.mar {B C : Nat} {w : World} {g n : Nat} {ss : List Slt} (h : OwnSlt B w g n ss) (hC : w.heap.size ≤ C) : MarSlt B C w g n ss := by
  obtain ⟨hl, hB, cs, hk, hs, hr⟩ := h
  refine ⟨hl, hB, Nat.lt_of_lt_of_le hk.lt hC, hk.lt, fun c => hk.frozen c, fun j s hj => ?_⟩
  have hjn : j < n := by have := (List.getElem?_eq_some_iff.1 hj).1; omega
  obtain ⟨ga, h1, h3, h4⟩ := hr j s hjn hj
  exact ⟨posSlt s ga, fun c v hv => hk.cell _ (h3 c v hv)⟩
theorem MarSlt.of_below {B C : Nat} {w w' : World} {g n : Nat} {ss : List Slt} (h : MarSlt B C w g n ss) (hb : Below w.heap.size w w') : MarSlt B C w' g n ss := by
  obtain ⟨hl, hB, hC, hlt, hf, hr⟩ := h
  refine ⟨hl, hB, hC, Nat.lt_of_lt_of_le hlt hb.size, fun c => (hb.frozen (p := ⟨g, c, none⟩) hlt).trans (hf c), fun j s hj => ?_⟩
  obtain ⟨P, h1⟩ := hr j s hj
  exact ⟨P, fun c v hv => (hb.cell (p := ⟨g, j * 4 + c, none⟩) hlt).trans (h1 c v hv)⟩
theorem MarSlt.at {B C : Nat} {w w' : World} {g n : Nat} {ss : List Slt} (h : MarSlt B C w g n ss) (hr : Rem B C w w') {j : Nat} {s : Slt} (hj : ss[j]? = some s) : ∃ d0 d1 d2 d3, w'.cell? ⟨g, j * 4, none⟩ = some (.int .i64 d0) ∧ w'.cell? ⟨g, j * 4 + 1, none⟩ = some (.int .i64 d1) ∧ w'.cell? ⟨g, j * 4 + 2, none⟩ = some (.int .i64 d2) ∧ w'.cell? ⟨g, j * 4 + 3, none⟩ = some (.int .i64 d3) := by
  obtain ⟨P, h1⟩ := h.2.2.2.2.2 j s hj
  obtain ⟨d0, e0⟩ := hr.int (h1 0 _ rfl)
  obtain ⟨d1, e1⟩ := hr.int (h1 1 _ rfl)
  obtain ⟨d2, e2⟩ := hr.int (h1 2 _ rfl)
  obtain ⟨d3, e3⟩ := hr.int (h1 3 _ rfl)
  exact ⟨d0, d1, d2, d3, e0, e1, e2, e3⟩
theorem MarSlt.free {B C : Nat} {w w' : World} {g n : Nat} {ss : List Slt} (h : MarSlt B C w g n ss) (hr : Rem B C w w') (c : Nat) : w'.frozen? ⟨g, c, none⟩ = false := (hr.f ⟨g, c, none⟩ h.2.2.2.1).trans (h.2.2.2.2.1 c)
set_option maxRecDepth 100000 in
set_option maxHeartbeats 2000000 in
theorem markSltSL (g n p B C : Nat) (ss : List Slt) (W : World) (k : Int) (h : MarSlt B C W g n ss) (hn : n + bigSlt ss ≤ 1048576) (hk0 : 0 ≤ k) (hk1 : k ≤ 10000000) :
    Calls Try.prog 20 #[.slice (some ⟨g, 0, none⟩) n p, .int .i64 k] W fun e W' => e = .returned (.int .i64 (k + 4 * n + bigSlt ss)) ∧ Rem B C W W' := by
  have HM := Lib.hid h
  have HN := Lib.hid hn
  have HLL := Lib.hid h.1
  have HBG := Lib.hid (And.intro h.2.1 h.2.2.1)
  have hn1 : (n : Int) ≤ 1048576 := by omega
  clear h hn
  go_enter Try.func20, Try.ntmps20
  go_wp2_with fail
  go_loopw [1, 5] (fun q i wr => ∃ j : Nat, j ≤ n ∧ i = .int .i64 j ∧ q = .int .i64 (k + 4 * j + bigSlt (ss.take j)) ∧ Rem B C W wr) (fun _ i _ => n - (intOf i).toNat)
  case atStart => exact ⟨0, Nat.zero_le _, rfl, by simp [bigSlt], Rem.refl _ _ _⟩
  case round =>
    obtain ⟨j, hj, rfl, rfl, hr⟩ := hrel
    by_cases hlt : j < n
    · obtain ⟨s, hs⟩ : ∃ s, ss[j]? = some s := ⟨_, List.getElem?_eq_getElem (by rw [HLL.out]; exact hlt)⟩
      have hbt := bigSlt_take hs
      have hble := bigSlt_take_le ss (j + 1)
      have hij : (j : Int) < (n : Int) := by omega
      obtain ⟨d0, d1, d2, d3, e0, e1, e2, e3⟩ := HM.out.at hr hs
      have f0 := HM.out.free hr (j * 4)
      have f1 := HM.out.free hr (j * 4 + 1)
      have f2 := HM.out.free hr (j * 4 + 2)
      have f3 := HM.out.free hr (j * 4 + 3)
      generalize hK : k + 4 * (j : Int) + bigSlt (ss.take j) = K
      have hK0 : 0 ≤ K := by omega
      have hK1 : K ≤ 20000000 := by have := HN.out; omega
      have HKK := Lib.hid hK
      have HBT := Lib.hid hbt
      have HBLE := Lib.hid hble
      have hqa0 := hr.set (g := g) (i := j * 4) (k := .i64) (by exact e0) HBG.out.1 HBG.out.2 (K)
      have hqa1 := hqa0.set (g := g) (i := j * 4 + 1) (k := .i64) (by exact (World.cell?_setCell_other _ _ _ _ (fun e => by injection e with _ e _; omega)).trans (e1)) HBG.out.1 HBG.out.2 (K + 1)
      have hqa2 := hqa1.set (g := g) (i := j * 4 + 2) (k := .i64) (by exact (World.cell?_setCell_other _ _ _ _ (fun e => by injection e with _ e _; omega)).trans ((World.cell?_setCell_other _ _ _ _ (fun e => by injection e with _ e _; omega)).trans (e2))) HBG.out.1 HBG.out.2 (K + 1 + 1)
      have hqa3 := hqa2.set (g := g) (i := j * 4 + 3) (k := .i64) (by exact (World.cell?_setCell_other _ _ _ _ (fun e => by injection e with _ e _; omega)).trans ((World.cell?_setCell_other _ _ _ _ (fun e => by injection e with _ e _; omega)).trans ((World.cell?_setCell_other _ _ _ _ (fun e => by injection e with _ e _; omega)).trans (e3)))) HBG.out.1 HBG.out.2 (K + 1 + 1 + 1)
      have HQ := Lib.hid hqa3
      clear hqa0 hqa1 hqa2 hqa3 hr hbt hble hs hK
      go_wp2_with fail
      go_roundw
      case rel => exact ⟨j + 1, by omega, by go_num, by have h1 := HBT.out; have h2 := HKK.out; congr 1; omega, HQ.out⟩
      case measure => simp [intOf]; omega
    · obtain rfl : j = n := by omega
      have htk : ss.take j = ss := List.take_of_length_le (by rw [HLL.out]; exact Nat.le_refl _)
      rw [htk]
      have HR := Lib.hid hr
      clear htk hr
      go_wp2_with fail
      go_ret
      exact ⟨rfl, HR.out⟩
end Qt
end Go.Proofs.Ytebldedmkpdgcaa
