/- What the laws' own helper markTaskS leaves: ints in place of ints in blocks of a known range. Conditions: the slice and its elements' lists lie in blocks of that range. -/
import Derived.Test.YtihnpfcjnfkfjaaQTskToS
import Derived.Test.YtihnpfcjnfkfjaaQRem
namespace Go.Proofs.Ytihnpfcjnfkfjaa
open Go.RowKit Go.Sort
set_option linter.unusedSimpArgs false
set_option linter.unusedVariables false
namespace Qt
/-- The rows of the slice stand in block g, from B on, below C; its ints may be written, and those of the elements' lists. -/
def MarTsk (B C : Nat) (w : World) (g n : Nat) (ss : List Tsk) : Prop :=
  ss.length = n ∧ B ≤ g ∧ g < C ∧ g < w.heap.size ∧ (∀ c, w.frozen? ⟨g, c, none⟩ = false) ∧ ∀ j s, ss[j]? = some s → ∃ P, (∀ c v, (tskC s P)[c]? = some v → w.cell? ⟨g, j * 5 + c, none⟩ = some v) ∧ Free .i64 B C w P.A P.n ∧ P.n = s.xs.length
theorem OwnTsk.mar {B C : Nat} {w : World} {g n : Nat} {ss : List Tsk} (h : OwnTsk B w g n ss) (hC : w.heap.size ≤ C) : MarTsk B C w g n ss := by
  obtain ⟨hl, hB, cs, hk, hs, hr⟩ := h
  refine ⟨hl, hB, Nat.lt_of_lt_of_le hk.lt hC, hk.lt, fun c => hk.frozen c, fun j s hj => ?_⟩
  have hjn : j < n := by have := (List.getElem?_eq_some_iff.1 hj).1; omega
  obtain ⟨ga, h1, h3, h4⟩ := hr j s hjn hj
  exact ⟨posTsk s ga, fun c v hv => hk.cell _ (h3 c v hv), h4.free hC, rfl⟩
theorem MarTsk.of_below {B C : Nat} {w w' : World} {g n : Nat} {ss : List Tsk} (h : MarTsk B C w g n ss) (hb : Below w.heap.size w w') : MarTsk B C w' g n ss := by
  obtain ⟨hl, hB, hC, hlt, hf, hr⟩ := h
  refine ⟨hl, hB, hC, Nat.lt_of_lt_of_le hlt hb.size, fun c => (hb.frozen (p := ⟨g, c, none⟩) hlt).trans (hf c), fun j s hj => ?_⟩
  obtain ⟨P, h1, h2, h3⟩ := hr j s hj
  exact ⟨P, fun c v hv => (hb.cell (p := ⟨g, j * 5 + c, none⟩) hlt).trans (h1 c v hv), h2.of_below hb, h3⟩
theorem MarTsk.at {B C : Nat} {w w' : World} {g n : Nat} {ss : List Tsk} (h : MarTsk B C w g n ss) (hr : Rem B C w w') {j : Nat} {s : Tsk} (hj : ss[j]? = some s) : ∃ d0 d2 d3 d4 A n' p, w'.cell? ⟨g, j * 5, none⟩ = some (.int .i64 d0) ∧ w'.cell? ⟨g, j * 5 + 1, none⟩ = some (.slice A n' p) ∧ w'.cell? ⟨g, j * 5 + 2, none⟩ = some (.int .i64 d2) ∧ w'.cell? ⟨g, j * 5 + 3, none⟩ = some (.int .i64 d3) ∧ w'.cell? ⟨g, j * 5 + 4, none⟩ = some (.int .i64 d4) ∧ Free .i64 B C w A n' ∧ n' = s.xs.length := by
  obtain ⟨P, h1, h2, h3⟩ := h.2.2.2.2.2 j s hj
  obtain ⟨d0, e0⟩ := hr.int (h1 0 _ rfl)
  have e1 := hr.slice (h1 1 _ rfl)
  obtain ⟨d2, e2⟩ := hr.int (h1 2 _ rfl)
  obtain ⟨d3, e3⟩ := hr.int (h1 3 _ rfl)
  obtain ⟨d4, e4⟩ := hr.int (h1 4 _ rfl)
  exact ⟨d0, d2, d3, d4, P.A, P.n, P.p, e0, e1, e2, e3, e4, h2, h3⟩
theorem MarTsk.free {B C : Nat} {w w' : World} {g n : Nat} {ss : List Tsk} (h : MarTsk B C w g n ss) (hr : Rem B C w w') (c : Nat) : w'.frozen? ⟨g, c, none⟩ = false := (hr.f ⟨g, c, none⟩ h.2.2.2.1).trans (h.2.2.2.2.1 c)
set_option maxRecDepth 100000 in
set_option maxHeartbeats 2000000 in
theorem markTskSL (g n p B C : Nat) (ss : List Tsk) (W : World) (k : Int) (h : MarTsk B C W g n ss) (hn : n + bigTsk ss ≤ 1048576) (hk0 : 0 ≤ k) (hk1 : k ≤ 10000000) :
    Calls Try.prog 56 #[.slice (some ⟨g, 0, none⟩) n p, .int .i64 k] W fun e W' => e = .returned (.int .i64 (k + 4 * n + bigTsk ss)) ∧ Rem B C W W' := by
  have HM := Lib.hid h
  have HN := Lib.hid hn
  have HLL := Lib.hid h.1
  have HBG := Lib.hid (And.intro h.2.1 h.2.2.1)
  have hn1 : (n : Int) ≤ 1048576 := by omega
  clear h hn
  go_enter Try.func56, Try.ntmps56
  go_wp2_with fail
  go_loopw [1, 5] (fun q i wr => ∃ j : Nat, j ≤ n ∧ i = .int .i64 j ∧ q = .int .i64 (k + 4 * j + bigTsk (ss.take j)) ∧ Rem B C W wr) (fun _ i _ => n - (intOf i).toNat)
  case atStart => exact ⟨0, Nat.zero_le _, rfl, by simp [bigTsk], Rem.refl _ _ _⟩
  case round =>
    obtain ⟨j, hj, rfl, rfl, hr⟩ := hrel
    by_cases hlt : j < n
    · obtain ⟨s, hs⟩ : ∃ s, ss[j]? = some s := ⟨_, List.getElem?_eq_getElem (by rw [HLL.out]; exact hlt)⟩
      have hbt := bigTsk_take hs
      have hble := bigTsk_take_le ss (j + 1)
      have hij : (j : Int) < (n : Int) := by omega
      obtain ⟨d0, d2, d3, d4, A, n1, p1, e0, e1, e2, e3, e4, hfr, hn1e⟩ := HM.out.at hr hs
      have f0 := HM.out.free hr (j * 5)
      have f2 := HM.out.free hr (j * 5 + 2)
      have f3 := HM.out.free hr (j * 5 + 3)
      have f4 := HM.out.free hr (j * 5 + 4)
      generalize hK : k + 4 * (j : Int) + bigTsk (ss.take j) = K
      have hK0 : 0 ≤ K := by omega
      have hK1 : K ≤ 20000000 := by have := HN.out; omega
      have HKK := Lib.hid hK
      have HBT := Lib.hid hbt
      have HBLE := Lib.hid hble
      have hqa0 := hr.set (g := g) (i := j * 5) (k := .i64) (by exact e0) HBG.out.1 HBG.out.2 (K)
      have HQ := Lib.hid hqa0
      have HS := Lib.hid hs
      have HFR := Lib.hid hfr
      have HNE := Lib.hid hn1e
      have hlx : n1 ≤ 1048576 := by have := HN.out; omega
      have HLX := Lib.hid hlx
      clear hqa0 hbt hble hK hfr hn1e hlx hs
      clear hr
      go_wp2_with fail
      clear e0 e1 e2 e3 e4 f0 f2 f3 f4
      generalize (wr.setCell ⟨g, j * 5, none⟩ (.int .i64 (K))) = w2 at HQ ⊢
      generalize hK7 : K + 1 = K7
      have hq0 : 0 ≤ K7 := by omega
      have hq1 : K7 ≤ 20000010 := by omega
      have HK7 := Lib.hid hK7
      clear hK7 hK0 hK1
      with_reducible refine (markIntS_free A n1 p1 B C K7 _ (HFR.out.rem HQ.out) HLX.out hq0 (by omega)).mono ?_
      rintro e w3 ⟨rfl, hr3⟩
      have hr4 := HQ.out.trans hr3
      clear hr3 HQ
      obtain ⟨d0, d2, d3, d4, A2, n2, p2, e0, e1, e2, e3, e4, _, _⟩ := HM.out.at hr4 HS.out
      have f0 := HM.out.free hr4 (j * 5)
      have f2 := HM.out.free hr4 (j * 5 + 2)
      have f3 := HM.out.free hr4 (j * 5 + 3)
      have f4 := HM.out.free hr4 (j * 5 + 4)
      generalize hK8 : K7 + (n1 : Int) = K8
      have hz : 0 ≤ K8 := by omega
      have hz1 : K8 ≤ 30000000 := by have := HLX.out; omega
      have HK8 := Lib.hid hK8
      clear hK8
      have hqb0 := hr4.set (g := g) (i := j * 5 + 2) (k := .i64) (by exact e2) HBG.out.1 HBG.out.2 (K8)
      have hqb1 := hqb0.set (g := g) (i := j * 5 + 3) (k := .i64) (by exact (World.cell?_setCell_other _ _ _ _ (fun e => by injection e with _ e _; omega)).trans (e3)) HBG.out.1 HBG.out.2 (K8 + 1)
      have hqb2 := hqb1.set (g := g) (i := j * 5 + 4) (k := .i64) (by exact (World.cell?_setCell_other _ _ _ _ (fun e => by injection e with _ e _; omega)).trans ((World.cell?_setCell_other _ _ _ _ (fun e => by injection e with _ e _; omega)).trans (e4))) HBG.out.1 HBG.out.2 (K8 + 1 + 1)
      have HQ := Lib.hid hqb2
      clear hqb0 hqb1 hqb2 hr4
      go_wp2_with fail
      go_roundw
      case rel => exact ⟨j + 1, by omega, by go_num, by have h1 := HBT.out; have h2 := HKK.out; have h3 := HK7.out; have h4 := HNE.out; have h5 := HK8.out; congr 1; omega, HQ.out⟩
      case measure => simp [intOf]; omega
    · obtain rfl : j = n := by omega
      have htk : ss.take j = ss := List.take_of_length_le (by rw [HLL.out]; exact Nat.le_refl _)
      rw [htk]
      have HR := Lib.hid hr
      clear htk hr
      go_wp2_with fail
      go_ret
      exact ⟨rfl, HR.out⟩
end Qt
end Go.Proofs.Ytihnpfcjnfkfjaa
