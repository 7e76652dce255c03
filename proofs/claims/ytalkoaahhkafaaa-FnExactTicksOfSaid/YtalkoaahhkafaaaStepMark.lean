/- What the laws' own helper markStepS leaves: ints in place of ints in blocks of a known range. Conditions: the slice and its steps' lists lie in blocks of that range. -/
import Derived.Test.YtalkoaahhkafaaaStepOwn
namespace Go.Proofs.Ytalkoaahhkafaaa
open Go.RowKit Go.Sort
set_option linter.unusedSimpArgs false
set_option linter.unusedVariables false
namespace Qt
/-- The rows of the slice stand in block g, from B on, below C; its ints may be written, and those of the steps' lists. -/
def MarStp (B C : Nat) (w : World) (g n : Nat) (ss : List Stp) : Prop :=
  ss.length = n ∧ B ≤ g ∧ g < C ∧ g < w.heap.size ∧ (∀ c, w.frozen? ⟨g, c, none⟩ = false) ∧ ∀ j s, ss[j]? = some s → ∃ P, (∀ c v, (stpC s P)[c]? = some v → w.cell? ⟨g, j * 8 + c, none⟩ = some v) ∧ Free .u8 B C w P.A P.n ∧ P.n = s.bs.length ∧ Free .i64 B C w P.B P.q ∧ P.q = s.xs.length
theorem OwnStp.mar {B C : Nat} {w : World} {g n : Nat} {ss : List Stp} (h : OwnStp B w g n ss) (hC : w.heap.size ≤ C) : MarStp B C w g n ss := by
  obtain ⟨hl, hB, cs, hk, hs, hr⟩ := h
  refine ⟨hl, hB, Nat.lt_of_lt_of_le hk.lt hC, hk.lt, fun c => hk.frozen c, fun j s hj => ?_⟩
  have hjn : j < n := by have := (List.getElem?_eq_some_iff.1 hj).1; omega
  obtain ⟨ga, gb, h1, h2, h3, h4, h5⟩ := hr j s hjn hj
  exact ⟨posS s ga gb, fun c v hv => hk.cell _ (h3 c v hv), h4.free hC, rfl, h5.free hC, rfl⟩
theorem MarStp.of_below {B C : Nat} {w w' : World} {g n : Nat} {ss : List Stp} (h : MarStp B C w g n ss) (hb : Below w.heap.size w w') : MarStp B C w' g n ss := by
  obtain ⟨hl, hB, hC, hlt, hf, hr⟩ := h
  refine ⟨hl, hB, hC, Nat.lt_of_lt_of_le hlt hb.size, fun c => (hb.frozen (p := ⟨g, c, none⟩) hlt).trans (hf c), fun j s hj => ?_⟩
  obtain ⟨P, h1, h2, h3, h4, h5⟩ := hr j s hj
  exact ⟨P, fun c v hv => (hb.cell (p := ⟨g, j * 8 + c, none⟩) hlt).trans (h1 c v hv), h2.of_below hb, h3, h4.of_below hb, h5⟩
theorem MarStp.free {B C : Nat} {w w' : World} {g n : Nat} {ss : List Stp} (h : MarStp B C w g n ss) (hr : Rem B C w w') (c : Nat) : w'.frozen? ⟨g, c, none⟩ = false := (hr.f ⟨g, c, none⟩ h.2.2.2.1).trans (h.2.2.2.2.1 c)
theorem MarStp.at {B C : Nat} {w w' : World} {g n : Nat} {ss : List Stp} (h : MarStp B C w g n ss) (hr : Rem B C w w') {j : Nat} {s : Stp} (hj : ss[j]? = some s) : ∃ d0 d1 d2 d4 d5 d6 A nA p B' q r, w'.cell? ⟨g, j * 8, none⟩ = some (.int .i64 d0) ∧ w'.cell? ⟨g, j * 8 + 1, none⟩ = some (.int .i64 d1) ∧ w'.cell? ⟨g, j * 8 + 2, none⟩ = some (.int .i64 d2) ∧ w'.cell? ⟨g, j * 8 + 3, none⟩ = some (.slice A nA p) ∧ w'.cell? ⟨g, j * 8 + 4, none⟩ = some (.int .i64 d4) ∧ w'.cell? ⟨g, j * 8 + 5, none⟩ = some (.int .i64 d5) ∧ w'.cell? ⟨g, j * 8 + 6, none⟩ = some (.int .i64 d6) ∧ w'.cell? ⟨g, j * 8 + 7, none⟩ = some (.slice B' q r) ∧ Free .u8 B C w A nA ∧ nA = s.bs.length ∧ Free .i64 B C w B' q ∧ q = s.xs.length := by
  obtain ⟨P, h1, h2, h3, h4, h5⟩ := h.2.2.2.2.2 j s hj
  obtain ⟨d0, e0⟩ := hr.int (h1 0 _ rfl)
  obtain ⟨d1, e1⟩ := hr.int (h1 1 _ rfl)
  obtain ⟨d2, e2⟩ := hr.int (h1 2 _ rfl)
  have e3 := hr.slice (h1 3 _ rfl)
  obtain ⟨d4, e4⟩ := hr.int (h1 4 _ rfl)
  obtain ⟨d5, e5⟩ := hr.int (h1 5 _ rfl)
  obtain ⟨d6, e6⟩ := hr.int (h1 6 _ rfl)
  have e7 := hr.slice (h1 7 _ rfl)
  exact ⟨d0, d1, d2, d4, d5, d6, P.A, P.n, P.p, P.B, P.q, P.r, e0, e1, e2, e3, e4, e5, e6, e7, h2, h3, h4, h5⟩
set_option maxRecDepth 100000 in
set_option maxHeartbeats 2000000 in
theorem markStpSL (g n p B C : Nat) (ss : List Stp) (W : World) (k : Int) (h : MarStp B C W g n ss) (hn : n + bigS ss ≤ 1048576) (hk0 : 0 ≤ k) (hk1 : k ≤ 10000000) :
    Calls Try.prog 30 #[.slice (some ⟨g, 0, none⟩) n p, .int .i64 k] W fun e W' => e = .returned (.int .i64 (k + 6 * n + bigS ss)) ∧ Rem B C W W' := by
  have HM := Lib.hid h
  have HN := Lib.hid hn
  have HLL := Lib.hid h.1
  have HBG := Lib.hid (And.intro h.2.1 h.2.2.1)
  have hn1 : (n : Int) ≤ 1048576 := by omega
  clear h hn
  go_enter Try.func30, Try.ntmps30
  go_wp2_with fail
  go_loopw [1, 5] (fun q i wr => ∃ j : Nat, j ≤ n ∧ i = .int .i64 j ∧ q = .int .i64 (k + 6 * j + bigS (ss.take j)) ∧ Rem B C W wr) (fun _ i _ => n - (intOf i).toNat)
  case atStart => exact ⟨0, Nat.zero_le _, rfl, by simp [bigS], Rem.refl _ _ _⟩
  case round =>
    obtain ⟨j, hj, rfl, rfl, hr⟩ := hrel
    by_cases hlt : j < n
    · obtain ⟨s, hs⟩ : ∃ s, ss[j]? = some s := ⟨_, List.getElem?_eq_getElem (by rw [HLL.out]; exact hlt)⟩
      have hbt := bigS_take hs
      have hble := bigS_take_le ss (j + 1)
      have hij : (j : Int) < (n : Int) := by omega
      obtain ⟨d0, d1, d2, d4, d5, d6, A1, n1, p1, B1, q1, r1, e0, e1, e2, e3, e4, e5, e6, e7, hfa, hna, hfb, hnb⟩ := HM.out.at hr hs
      have f0 := HM.out.free hr (j * 8)
      have f1 := HM.out.free hr (j * 8 + 1)
      have f2 := HM.out.free hr (j * 8 + 2)
      generalize hK : k + 6 * (j : Int) + bigS (ss.take j) = K
      have hK0 : 0 ≤ K := by omega
      have hK1 : K ≤ 20000000 := by have := HN.out; omega
      have HKK := Lib.hid hK
      have HBT := Lib.hid hbt
      have HBLE := Lib.hid hble
      have hqa0 := hr.set (g := g) (i := j * 8) (k := .i64) (by exact e0) HBG.out.1 HBG.out.2 (K)
      have hqa1 := hqa0.set (g := g) (i := j * 8 + 1) (k := .i64) (by exact (World.cell?_setCell_other _ _ _ _ (fun e => by injection e with _ e _; omega)).trans (e1)) HBG.out.1 HBG.out.2 (K + 1)
      have hqa2 := hqa1.set (g := g) (i := j * 8 + 2) (k := .i64) (by exact (World.cell?_setCell_other _ _ _ _ (fun e => by injection e with _ e _; omega)).trans ((World.cell?_setCell_other _ _ _ _ (fun e => by injection e with _ e _; omega)).trans (e2))) HBG.out.1 HBG.out.2 (K + 1 + 1)
      have HQ := Lib.hid hqa2
      have HS := Lib.hid hs
      have HFA := Lib.hid hfa
      have HFB := Lib.hid hfb
      have HNA := Lib.hid hna
      have HNB := Lib.hid hnb
      have HLX : Hid (n1 ≤ 1048576 ∧ q1 ≤ 1048576) := Lib.hid (by have := HN.out; omega)
      clear hqa0 hqa1 hqa2 hbt hble hK hfa hna hfb hnb hs hr
      go_wp2_with fail
      clear e0 e1 e2 e3 e4 e5 e6 e7 f0 f1 f2
      generalize (((wr.setCell ⟨g, j * 8, none⟩ (.int .i64 (K))).setCell ⟨g, j * 8 + 1, none⟩ (.int .i64 (K + 1))).setCell ⟨g, j * 8 + 2, none⟩ (.int .i64 (K + 1 + 1))) = w2 at HQ ⊢
      generalize hK7 : K + 1 + 1 + 1 = K7
      have hq0 : 0 ≤ K7 := by omega
      have hq1 : K7 ≤ 20000010 := by omega
      have HK7 := Lib.hid hK7
      clear hK7 hK0 hK1
      with_reducible refine (markByteS_free A1 n1 p1 B C K7 _ (HFA.out.rem HQ.out) HLX.out.1 hq0 (by omega)).mono ?_
      rintro e w3 ⟨rfl, hr3⟩
      have hr4 := HQ.out.trans hr3
      clear hr3 HQ
      obtain ⟨d0, d1, d2, d4, d5, d6, A2, n2, p2, B2, q2, r2, e0, e1, e2, e3, e4, e5, e6, e7, hfa, hna, hfb, hnb⟩ := HM.out.at hr4 HS.out
      have f4 := HM.out.free hr4 (j * 8 + 4)
      have f5 := HM.out.free hr4 (j * 8 + 5)
      have f6 := HM.out.free hr4 (j * 8 + 6)
      generalize hK8 : K7 + (n1 : Int) = K8
      have hz : 0 ≤ K8 := by omega
      have hz1 : K8 ≤ 30000000 := by have := HLX.out; omega
      have HK8 := Lib.hid hK8
      clear hK8 hq0 hq1
      have hqb0 := hr4.set (g := g) (i := j * 8 + 4) (k := .i64) (by exact e4) HBG.out.1 HBG.out.2 (K8)
      have hqb1 := hqb0.set (g := g) (i := j * 8 + 5) (k := .i64) (by exact (World.cell?_setCell_other _ _ _ _ (fun e => by injection e with _ e _; omega)).trans (e5)) HBG.out.1 HBG.out.2 (K8 + 1)
      have hqb2 := hqb1.set (g := g) (i := j * 8 + 6) (k := .i64) (by exact (World.cell?_setCell_other _ _ _ _ (fun e => by injection e with _ e _; omega)).trans ((World.cell?_setCell_other _ _ _ _ (fun e => by injection e with _ e _; omega)).trans (e6))) HBG.out.1 HBG.out.2 (K8 + 1 + 1)
      have HQ := Lib.hid hqb2
      replace HFB := Lib.hid hfb
      have HNB2 := Lib.hid hnb
      have HLX2 : Hid (q2 ≤ 1048576) := Lib.hid (by have h1 := HNB.out; have h2 := HLX.out; omega)
      clear hqb0 hqb1 hqb2 hfa hna hfb hnb hr4
      go_wp2_with fail
      clear e0 e1 e2 e3 e4 e5 e6 e7 f4 f5 f6
      generalize (((w3.setCell ⟨g, j * 8 + 4, none⟩ (.int .i64 (K8))).setCell ⟨g, j * 8 + 5, none⟩ (.int .i64 (K8 + 1))).setCell ⟨g, j * 8 + 6, none⟩ (.int .i64 (K8 + 1 + 1))) = w4 at HQ ⊢
      generalize hK9 : K8 + 1 + 1 + 1 = K9
      have hq0 : 0 ≤ K9 := by omega
      have hq1 : K9 ≤ 30000010 := by omega
      have HK9 := Lib.hid hK9
      clear hK9 hz hz1
      with_reducible refine (markIntS_free B2 q2 r2 B C K9 _ (HFB.out.rem HQ.out) HLX2.out hq0 (by omega)).mono ?_
      rintro e w5 ⟨rfl, hr5⟩
      have HR := Lib.hid (HQ.out.trans hr5)
      clear hr5 HQ
      have hz : 0 ≤ K9 + (q2 : Int) := by omega
      have hz1 : K9 + (q2 : Int) ≤ 40000000 := by have := HLX2.out; omega
      go_wp2_with fail
      go_roundw
      case rel => exact ⟨j + 1, by omega, by go_num, by have h1 := HBT.out; have h2 := HKK.out; have h3 := HK7.out; have h4 := HK8.out; have h5 := HK9.out; have h6 := HNA.out; have h7 := HNB2.out; congr 1; omega, HR.out⟩
      case measure => simp [intOf]; omega
    · obtain rfl : j = n := by omega
      have htk : ss.take j = ss := List.take_of_length_le (by rw [HLL.out]; exact Nat.le_refl _)
      rw [htk]
      have HR := Lib.hid hr
      clear htk hr
      go_wp2_with fail
      go_ret
      exact ⟨rfl, HR.out⟩
end Qt
end Go.Proofs.Ytalkoaahhkafaaa
