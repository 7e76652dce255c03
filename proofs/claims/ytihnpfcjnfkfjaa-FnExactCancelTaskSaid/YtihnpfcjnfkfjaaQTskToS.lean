/- What the laws' own helpers toTask and toTaskS give when they are called: a slice that reads as the same list, its elements in blocks of the call's own. Conditions: the slice reads as the list that is named. -/
import Derived.Test.YtihnpfcjnfkfjaaQSchA
import Derived.Test.YtihnpfcjnfkfjaaQRowB
import Derived.OwnWalk
import Derived.Outline
namespace Go.Proofs.Ytihnpfcjnfkfjaa
open Go.RowKit Go.Sort
set_option linter.unusedSimpArgs false
set_option linter.unusedVariables false
namespace Qt
def posTsk (s : Tsk) (ga : Nat) : TskP := ⟨some ⟨ga, 0, none⟩, s.xs.length, s.xs.length⟩
section
variable {B : Nat} {w w' : World} {g n k : Nat} {cs : Array Value} {ss : List Tsk}
def rowTsk (cs : Array Value) (i : Nat) (v0 v1 v2 v3 v4 : Value) : Array Value := (((((cs.setIfInBounds i v0).setIfInBounds (i + 1) v1).setIfInBounds (i + 2) v2).setIfInBounds (i + 3) v3).setIfInBounds (i + 4) v4)
def wrowTsk (w : World) (g i : Nat) (v0 v1 v2 v3 v4 : Value) : World := (((((w.setCell ⟨g, i, none⟩ v0).setCell ⟨g, i + 1, none⟩ v1).setCell ⟨g, i + 2, none⟩ v2).setCell ⟨g, i + 3, none⟩ v3).setCell ⟨g, i + 4, none⟩ v4)
theorem Bk.rowTsk {t : TypeId} (h : Bk w g t cs) (i : Nat) (v0 v1 v2 v3 v4 : Value) : Bk (wrowTsk w g i v0 v1 v2 v3 v4) g t (Qt.rowTsk cs i v0 v1 v2 v3 v4) := (((((h.set i v0).set (i + 1) v1).set (i + 2) v2).set (i + 3) v3).set (i + 4) v4)
theorem rowTsk_size (cs : Array Value) (i : Nat) (v0 v1 v2 v3 v4 : Value) : (rowTsk cs i v0 v1 v2 v3 v4).size = cs.size := by simp [rowTsk]
theorem rowTsk_old {cs : Array Value} {i j : Nat} (h : j < i) (v0 v1 v2 v3 v4 : Value) : (rowTsk cs i v0 v1 v2 v3 v4)[j]? = cs[j]? := by
  simp only [rowTsk, Array.getElem?_setIfInBounds]
  repeat rw [if_neg (by omega)]
theorem rowTsk_new {cs : Array Value} {i : Nat} (h : i + 5 ≤ cs.size) (s : Tsk) (P : TskP) (c : Nat) (v : Value) (hv : (tskC s P)[c]? = some v) :
    (rowTsk cs i (.int .i64 s.ti) (.slice P.A P.n P.p) (.int .i64 s.ta) (.int .i64 s.td) (.int .i64 s.tb))[i + c]? = some v := by
  have hc : c < 5 := by have := (List.getElem?_eq_some_iff.1 hv).1; simpa [tskC] using this
  obtain rfl | rfl | rfl | rfl | rfl : c = 0 ∨ c = 1 ∨ c = 2 ∨ c = 3 ∨ c = 4 := by omega
  all_goals
    simp [tskC] at hv
    subst hv
    simp [rowTsk, Array.getElem?_setIfInBounds]
    omega
theorem OwnI.wrowTsk {b m : Nat} {xs : List Int} (h : OwnI B w (some ⟨b, 0, none⟩) m xs) (hp : b ≠ g) (i : Nat) (v0 v1 v2 v3 v4 : Value) : OwnI B (wrowTsk w g i v0 v1 v2 v3 v4) (some ⟨b, 0, none⟩) m xs := (((((h.far (p := ⟨g, i, none⟩) hp v0).far (p := ⟨g, i + 1, none⟩) hp v1).far (p := ⟨g, i + 2, none⟩) hp v2).far (p := ⟨g, i + 3, none⟩) hp v3).far (p := ⟨g, i + 4, none⟩) hp v4)
theorem below_wrowTsk {C : Nat} {W : World} (h : Below C W w) (hC : C ≤ g) (i : Nat) (v0 v1 v2 v3 v4 : Value) : Below C W (wrowTsk w g i v0 v1 v2 v3 v4) := (((((h.setCell (p := ⟨g, i, none⟩) hC v0).setCell (p := ⟨g, i + 1, none⟩) hC v1).setCell (p := ⟨g, i + 2, none⟩) hC v2).setCell (p := ⟨g, i + 3, none⟩) hC v3).setCell (p := ⟨g, i + 4, none⟩) hC v4)
/-- The first k stand in block g, which is wholly known; their lists lie in blocks of the call's own. -/
def FillTsk (B : Nat) (w : World) (g n k : Nat) (ss : List Tsk) : Prop :=
  ∃ cs, Bk w g 53 cs ∧ cs.size = n * 5 ∧ ∀ j s, j < k → ss[j]? = some s → ∃ ga, ga ≠ g ∧ (∀ c v, (tskC s (posTsk s ga))[c]? = some v → cs[j * 5 + c]? = some v) ∧ OwnI B w (some ⟨ga, 0, none⟩) s.xs.length s.xs
theorem FillTsk.of_below (h : FillTsk B w g n k ss) (hb : Below w.heap.size w w') : FillTsk B w' g n k ss := by
  obtain ⟨cs, hB, hs, hr⟩ := h
  exact ⟨cs, hB.below hb, hs, fun j s hj he => by
    obtain ⟨ga, h1, h3, h4⟩ := hr j s hj he
    exact ⟨ga, h1, h3, h4.of_below hb⟩⟩
theorem FillTsk.zero (h : Bk w g 53 cs) (hs : cs.size = n * 5) : FillTsk B w g n 0 ss := ⟨cs, h, hs, fun j s hj => absurd hj (by omega)⟩
theorem FillTsk.room (h : FillTsk B w g n k ss) {c : Nat} (hc : c < n * 5) : ∃ v, w.cell? ⟨g, c, none⟩ = some v := by
  obtain ⟨cs, hB, hs, _⟩ := h
  exact ⟨cs[c]'(by omega), hB.cell c (Array.getElem?_eq_getElem (by omega))⟩
theorem FillTsk.free (h : FillTsk B w g n k ss) (c : Nat) : w.frozen? ⟨g, c, none⟩ = false := by
  obtain ⟨cs, hB, _⟩ := h
  exact hB.frozen c
theorem FillTsk.lt (h : FillTsk B w g n k ss) : g < w.heap.size := by
  obtain ⟨cs, hB, _⟩ := h
  exact hB.lt
theorem FillTsk.rd (h : FillTsk B w g n n ss) (hl : ss.length = n) : RdTsk w (some ⟨g, 0, none⟩) n ss := by
  obtain ⟨cs, hB, hs, hr⟩ := h
  refine ⟨hl, fun hn => ⟨g, 0, rfl, hB.lt, fun j s hj => ?_⟩⟩
  have hjn : j < n := by have := (List.getElem?_eq_some_iff.1 hj).1; omega
  obtain ⟨ga, _, h3, h4⟩ := hr j s hjn hj
  exact ⟨posTsk s ga, fun i v hv => by rw [Nat.zero_add]; exact hB.cell _ (h3 i v hv), h4.rdI⟩
/-- The next one is laid into its place. -/
theorem FillTsk.next {w0 : World} (h0 : FillTsk B w0 g n k ss) (hb : Below w0.heap.size w0 w) (hk : k < n) {s : Tsk} (hl : ss[k]? = some s) (ga : Nat) (hga : w0.heap.size ≤ ga) (ha : OwnI B w (some ⟨ga, 0, none⟩) s.xs.length s.xs) :
    FillTsk B (wrowTsk w g (k * 5) (.int .i64 s.ti) (.slice (some ⟨ga, 0, none⟩) s.xs.length s.xs.length) (.int .i64 s.ta) (.int .i64 s.td) (.int .i64 s.tb)) g n (k + 1) ss := by
  obtain ⟨cs, hB0, hs, hr0⟩ := h0
  have hg0 := hB0.lt
  have hB := hB0.below hb
  refine ⟨_, hB.rowTsk (k * 5) _ _ _ _ _, by rw [rowTsk_size]; exact hs, fun j s' hj hjs => ?_⟩
  by_cases e : j < k
  · obtain ⟨xa, h1, h3, h4⟩ := hr0 j s' e hjs
    refine ⟨xa, h1, fun c v hv => ?_, (h4.of_below hb).wrowTsk h1 _ _ _ _ _ _⟩
    have hc : c < 5 := by have := (List.getElem?_eq_some_iff.1 hv).1; simpa [tskC] using this
    rw [rowTsk_old (by omega)]
    exact h3 c v hv
  · have hjk : j = k := by omega
    subst hjk
    rw [hl] at hjs
    cases hjs
    exact ⟨ga, by omega, fun c v hv => rowTsk_new (by omega) s (posTsk s ga) c v hv, ha.wrowTsk (by omega) _ _ _ _ _ _⟩
end
def NewTsk (W : World) (ti ta td tb : Int) (n : Nat) (xs : List Int) (e : Ending) (W' : World) : Prop :=
  ∃ ga, e = .returned (.agg #[.int .i64 ti, .slice (some ⟨ga, 0, none⟩) n n, .int .i64 ta, .int .i64 td, .int .i64 tb]) ∧ W.heap.size ≤ ga ∧ OwnI W.heap.size W' (some ⟨ga, 0, none⟩) n xs ∧ Below W.heap.size W W'
set_option maxHeartbeats 2000000 in
theorem toTskO (ti ta td tb : Int) (A : Option Addr) (n p : Nat) (xs : List Int) (W : World) (hr : RdI W A n xs) (hn : n ≤ 1048576) :
    Calls Try.prog 71 #[.agg #[.int .i64 ti, .slice A n p, .int .i64 ta, .int .i64 td, .int .i64 tb]] W (NewTsk W ti ta td tb n xs) := by
  have HN := Lib.hid hn
  have k0 := ((Bk.new W 83 #[.int .i64 ti, .slice A n p, .int .i64 ta, .int .i64 td, .int .i64 tb]).alloc (.cells #[.int .i64 0, .slice none 0 0, .int .i64 0, .int .i64 0, .int .i64 0] 53)).alloc (.cells #[.int .i64 ti, .slice none 0 0, .int .i64 0, .int .i64 0, .int .i64 0] 53)
  have k2 := (Bk.new (W.alloc (.cells #[.int .i64 ti, .slice A n p, .int .i64 ta, .int .i64 td, .int .i64 tb] 83)) 53 #[.int .i64 0, .slice none 0 0, .int .i64 0, .int .i64 0, .int .i64 0]).alloc (.cells #[.int .i64 ti, .slice none 0 0, .int .i64 0, .int .i64 0, .int .i64 0] 53)
  have k3 := Bk.new ((W.alloc (.cells #[.int .i64 ti, .slice A n p, .int .i64 ta, .int .i64 td, .int .i64 tb] 83)).alloc (.cells #[.int .i64 0, .slice none 0 0, .int .i64 0, .int .i64 0, .int .i64 0] 53)) 53 #[.int .i64 ti, .slice none 0 0, .int .i64 0, .int .i64 0, .int .i64 0]
  have b0 : Below W.heap.size W (((W.alloc (.cells #[.int .i64 ti, .slice A n p, .int .i64 ta, .int .i64 td, .int .i64 tb] 83)).alloc (.cells #[.int .i64 0, .slice none 0 0, .int .i64 0, .int .i64 0, .int .i64 0] 53)).alloc (.cells #[.int .i64 ti, .slice none 0 0, .int .i64 0, .int .i64 0, .int .i64 0] 53)) := (((Below.refl _ W).alloc (Nat.le_refl _) _).alloc (by simp) _).alloc (by simp only [World.size_alloc]; omega) _
  simp only [World.size_alloc] at k2 k3
  have G2 := Lib.hid (show W.heap.size ≤ W.heap.size + 1 by omega)
  have G3 := Lib.hid (show W.heap.size ≤ W.heap.size + 1 + 1 by omega)
  have N02 := Lib.hid (show W.heap.size ≠ W.heap.size + 1 + 1 by omega)
  have N23 := Lib.hid (show W.heap.size + 1 ≠ W.heap.size + 1 + 1 by omega)
  have HR := Lib.hid (hr.of_below b0)
  have K0 := Lib.hid k0; have K2 := Lib.hid k2; have K3 := Lib.hid k3; have B1 := Lib.hid b0
  clear hn hr k0 k2 k3 b0
  go_enter Try.func71, Try.ntmps71
  go_wp2_with fail
  generalize (((W.alloc (.cells #[.int .i64 ti, .slice A n p, .int .i64 ta, .int .i64 td, .int .i64 tb] 83)).alloc (.cells #[.int .i64 0, .slice none 0 0, .int .i64 0, .int .i64 0, .int .i64 0] 53)).alloc (.cells #[.int .i64 ti, .slice none 0 0, .int .i64 0, .int .i64 0, .int .i64 0] 53)) = w1 at K0 K2 K3 B1 HR ⊢
  generalize W.heap.size + 1 + 1 = g3 at K3 G3 N02 N23 ⊢
  generalize W.heap.size + 1 = g2 at K2 G2 N23 ⊢
  refine (toIntS_own A n p xs _ HR.out HN.out).mono ?_
  rintro e w5 ⟨ga, rfl, hg, _, r5, b5⟩
  have hg3 := K3.out.lt
  have hg2 := K2.out.lt
  have NG := Lib.hid (show ga ≠ g3 ∧ ga ≠ g2 by omega)
  have LG := Lib.hid (show W.heap.size ≤ ga from Nat.le_trans B1.out.size hg)
  have r5 := r5.base (B' := W.heap.size) B1.out.size
  replace K0 := Lib.hid (K0.out.below b5)
  replace K2 := Lib.hid (K2.out.below b5)
  replace K3 := Lib.hid (K3.out.below b5)
  have B5 := Lib.hid (B1.out.trans (b5.mono B1.out.size))
  have R5 := Lib.hid r5
  clear hg3 hg2 hg r5 b5 B1 HR HN
  have c0 := K0.out.cell 0 rfl
  have d0 := K3.out.cell 0 rfl
  have f0 := K3.out.frozen 0
  have i0 := K2.out.cell 0 rfl
  have j0 := K2.out.frozen 0
  have c1 := K0.out.cell 1 rfl
  have d1 := K3.out.cell 1 rfl
  have f1 := K3.out.frozen 1
  have i1 := K2.out.cell 1 rfl
  have j1 := K2.out.frozen 1
  have c2 := K0.out.cell 2 rfl
  have d2 := K3.out.cell 2 rfl
  have f2 := K3.out.frozen 2
  have i2 := K2.out.cell 2 rfl
  have j2 := K2.out.frozen 2
  have c3 := K0.out.cell 3 rfl
  have d3 := K3.out.cell 3 rfl
  have f3 := K3.out.frozen 3
  have i3 := K2.out.cell 3 rfl
  have j3 := K2.out.frozen 3
  have c4 := K0.out.cell 4 rfl
  have d4 := K3.out.cell 4 rfl
  have f4 := K3.out.frozen 4
  have i4 := K2.out.cell 4 rfl
  have j4 := K2.out.frozen 4
  have hne : g2 ≠ g3 := N23.out
  have hne0 : W.heap.size ≠ g3 := N02.out
  have l3 := K3.out.lt
  have l2 := K2.out.lt
  go_wp2_with fail
  have k9 := (((((((((K2.out.far (p := ⟨g3, 1, none⟩) hne (.slice (some ⟨ga, 0, none⟩) n n)).far (p := ⟨g3, 2, none⟩) hne (.int .i64 ta)).far (p := ⟨g3, 3, none⟩) hne (.int .i64 td)).far (p := ⟨g3, 4, none⟩) hne (.int .i64 tb)).set 0 (.int .i64 ti)).set 1 (.slice (some ⟨ga, 0, none⟩) n n)).set 2 (.int .i64 ta)).set 3 (.int .i64 td)).set 4 (.int .i64 tb))
  have r9 := (((((((((R5.out.far (p := ⟨g3, 1, none⟩) NG.out.1 (.slice (some ⟨ga, 0, none⟩) n n)).far (p := ⟨g3, 2, none⟩) NG.out.1 (.int .i64 ta)).far (p := ⟨g3, 3, none⟩) NG.out.1 (.int .i64 td)).far (p := ⟨g3, 4, none⟩) NG.out.1 (.int .i64 tb)).far (p := ⟨g2, 0, none⟩) NG.out.2 (.int .i64 ti)).far (p := ⟨g2, 1, none⟩) NG.out.2 (.slice (some ⟨ga, 0, none⟩) n n)).far (p := ⟨g2, 2, none⟩) NG.out.2 (.int .i64 ta)).far (p := ⟨g2, 3, none⟩) NG.out.2 (.int .i64 td)).far (p := ⟨g2, 4, none⟩) NG.out.2 (.int .i64 tb))
  have b9 := (((((((((B5.out.setCell (p := ⟨g3, 1, none⟩) G3.out (.slice (some ⟨ga, 0, none⟩) n n)).setCell (p := ⟨g3, 2, none⟩) G3.out (.int .i64 ta)).setCell (p := ⟨g3, 3, none⟩) G3.out (.int .i64 td)).setCell (p := ⟨g3, 4, none⟩) G3.out (.int .i64 tb)).setCell (p := ⟨g2, 0, none⟩) G2.out (.int .i64 ti)).setCell (p := ⟨g2, 1, none⟩) G2.out (.slice (some ⟨ga, 0, none⟩) n n)).setCell (p := ⟨g2, 2, none⟩) G2.out (.int .i64 ta)).setCell (p := ⟨g2, 3, none⟩) G2.out (.int .i64 td)).setCell (p := ⟨g2, 4, none⟩) G2.out (.int .i64 tb))
  have k9' : Bk _ g2 53 #[.int .i64 ti, .slice (some ⟨ga, 0, none⟩) n n, .int .i64 ta, .int .i64 td, .int .i64 tb] := k9
  have z0 := k9'.cell 0 rfl
  have z1 := k9'.cell 1 rfl
  have z2 := k9'.cell 2 rfl
  have z3 := k9'.cell 3 rfl
  have z4 := k9'.cell 4 rfl
  refine bodyPost_ret (v := .agg #[.int .i64 ti, .slice (some ⟨ga, 0, none⟩) n n, .int .i64 ta, .int .i64 td, .int .i64 tb]) ?_ rfl ⟨ga, rfl, LG.out, r9, b9⟩
  clear k9 k9' r9 b9 c0 d0 f0 i0 j0 c1 d1 f1 i1 j1 c2 d2 f2 i2 j2 c3 d3 f3 i3 j3 c4 d4 f4 i4 j4
  generalize ((((((((w5.setCell ⟨g3, 1, none⟩ (.slice (some ⟨ga, 0, none⟩) n n)).setCell ⟨g3, 2, none⟩ (.int .i64 ta)).setCell ⟨g3, 3, none⟩ (.int .i64 td)).setCell ⟨g3, 4, none⟩ (.int .i64 tb)).setCell ⟨g2, 0, none⟩ (.int .i64 ti)).setCell ⟨g2, 1, none⟩ (.slice (some ⟨ga, 0, none⟩) n n)).setCell ⟨g2, 2, none⟩ (.int .i64 ta)).setCell ⟨g2, 3, none⟩ (.int .i64 td)) = w8 at z0 z1 z2 z3 z4 ⊢
  generalize w8.setCell ⟨g2, 4, none⟩ (.int .i64 tb) = w9 at z0 z1 z2 z3 z4 ⊢
  simp [results, Try.results71, go_sem, z0, z1, z2, z3, z4]
def zeroTsk : Value := .agg #[.int .i64 0, .slice none 0 0, .int .i64 0, .int .i64 0, .int .i64 0]
theorem infoTsk : (Try.prog.info? 53).map (fun i => (i.zero, i.size, i.bytes)) = some (some zeroTsk, 5, 56) := by kernel_rfl
/-- A slice of the call's own: its elements stand in one block, their lists in blocks of the call's own besides. -/
def OwnTsk (B : Nat) (w : World) (g n : Nat) (ss : List Tsk) : Prop := ss.length = n ∧ B ≤ g ∧ FillTsk B w g n n ss
theorem OwnTsk.rd {B : Nat} {w : World} {g n : Nat} {ss : List Tsk} (h : OwnTsk B w g n ss) : RdTsk w (some ⟨g, 0, none⟩) n ss := h.2.2.rd h.1
theorem OwnTsk.of_below {B : Nat} {w w' : World} {g n : Nat} {ss : List Tsk} (h : OwnTsk B w g n ss) (hb : Below w.heap.size w w') : OwnTsk B w' g n ss := ⟨h.1, h.2.1, h.2.2.of_below hb⟩
theorem OwnTsk.low {B : Nat} {w : World} {g n : Nat} {ss : List Tsk} (h : OwnTsk B w g n ss) {p : Addr} (hp : p.block < B) (u : Value) : OwnTsk B (w.setCell p u) g n ss := by
  obtain ⟨hl, hB, cs, hk, hs, hr⟩ := h
  refine ⟨hl, hB, cs, hk.far (by omega) u, hs, fun j s hj he => ?_⟩
  obtain ⟨ga, h1, h3, h4⟩ := hr j s hj he
  exact ⟨ga, h1, h3, OwnI.lowR h4 hp u⟩
theorem OwnTsk.base {B B' : Nat} {w : World} {g n : Nat} {ss : List Tsk} (h : OwnTsk B w g n ss) (hB' : B' ≤ B) : OwnTsk B' w g n ss := by
  obtain ⟨hl, hB, cs, hk, hs, hr⟩ := h
  refine ⟨hl, by omega, cs, hk, hs, fun j s hj he => ?_⟩
  obtain ⟨ga, h1, h3, h4⟩ := hr j s hj he
  exact ⟨ga, h1, h3, h4.base hB'⟩
def NewsTsk (W : World) (n : Nat) (ss : List Tsk) (e : Ending) (W' : World) : Prop := ∃ g, e = .returned (.slice (some ⟨g, 0, none⟩) n n) ∧ g < W'.heap.size ∧ OwnTsk W.heap.size W' g n ss ∧ Below W.heap.size W W'
set_option maxRecDepth 10000 in
set_option maxHeartbeats 1000000 in
theorem toTskSL (A : Option Addr) (n p : Nat) (ss : List Tsk) (W : World) (hr : RdTsk W A n ss) (hn : n + bigTsk ss ≤ 1048576) :
    Calls Try.prog 50 #[.slice A n p] W (NewsTsk W n ss) := by
  obtain ⟨i0, hi, hz0, hz1, hz2⟩ := info_parts infoTsk
  have HR := Lib.hid hr
  have HN := Lib.hid hn
  have hn1 : (n : Int) ≤ 1048576 := by omega
  clear hr hn
  go_enter Try.func50, Try.ntmps50
  go_wp2_with (at_make; go_loud (refine wpList_make_full _ rfl _ _ 27 rfl W.heap.size 53 i0 zeroTsk 5 Try.underlying27 hi hz0 hz1 .i64 .i64 _ _ n rfl rfl rfl rfl (by rw [hz2]; omega) (by unfold maxLen; omega) (Nat.le_refl _) ?_); intro w1 hown hg)
  obtain ⟨g, hgd⟩ : ∃ g, g = W.heap.size := ⟨_, rfl⟩
  obtain ⟨cs, hbk, hcs⟩ := ownsRow_bkR hown
  rw [← hgd] at hbk ⊢
  have hf0 : FillTsk g w1 g n 0 ss := FillTsk.zero hbk hcs
  have hb0 : Below g W w1 := hgd ▸ (Below.refl W.heap.size W).grown hg (Nat.le_refl _) (fun k hk => by cases hk)
  have HG := Lib.hid hgd
  clear hown hg hgd hbk hcs
  go_loopw [4] (fun i wr => ∃ k : Nat, k ≤ n ∧ i = .int .i64 k ∧ FillTsk g wr g n k ss ∧ Below g W wr) (fun i _ => n - (intOf i).toNat)
  case atStart => exact ⟨0, Nat.zero_le _, rfl, hf0, hb0⟩
  case round =>
    clear hf0 hb0
    obtain ⟨k, hk, rfl, hfl, hb⟩ := hrel
    by_cases hlt : k < n
    · obtain ⟨b, off, ti1, ta1, td1, tb1, A', n', p', xs, rfl, hbs, hj, hat⟩ := (HR.out.of_below (HG.out ▸ hb)).at hlt
      obtain rfl := hat.lens
      obtain ⟨c0, c1, c2, c3, c4⟩ := hat.cells
      have hbig := bigTsk_at1 hj
      have hn2 : xs.length ≤ 1048576 := by have := HN.out; omega
      have HJ := Lib.hid hj
      have HB := Lib.hid hb
      have HF := Lib.hid hfl
      have R1 := Lib.hid hat.rds
      have HN2 := Lib.hid hn2
      clear hat hj hbs hbig hn2 hfl hb
      have hi : (k : Int) < (n : Int) := by omega
      go_wp2_with fail
      clear c0 c1 c2 c3 c4
      with_reducible refine (toTskO ti1 ta1 td1 tb1 A' _ p' xs _ R1.out HN2.out).mono ?_
      rintro e w2 ⟨ga, rfl, hga, oa, b2⟩
      have hfl := HF.out.of_below b2
      have hgl := HF.out.lt
      have hb2 := HB.out.trans (b2.mono (Nat.le_of_lt hgl))
      obtain ⟨d0, e0⟩ := hfl.room (c := k * 5) (by omega)
      have f0 := hfl.free (k * 5)
      obtain ⟨d1, e1⟩ := hfl.room (c := k * 5 + 1) (by omega)
      have f1 := hfl.free (k * 5 + 1)
      obtain ⟨d2, e2⟩ := hfl.room (c := k * 5 + 2) (by omega)
      have f2 := hfl.free (k * 5 + 2)
      obtain ⟨d3, e3⟩ := hfl.room (c := k * 5 + 3) (by omega)
      have f3 := hfl.free (k * 5 + 3)
      obtain ⟨d4, e4⟩ := hfl.room (c := k * 5 + 4) (by omega)
      have f4 := hfl.free (k * 5 + 4)
      have hnx := FillTsk.next HF.out b2 hlt HJ.out ga hga (oa.base (Nat.le_of_lt hgl))
      have HX := Lib.hid hnx
      have HBX := Lib.hid (below_wrowTsk hb2 (Nat.le_refl g) (k * 5) (.int .i64 ti1) (.slice (some ⟨ga, 0, none⟩) xs.length xs.length) (.int .i64 ta1) (.int .i64 td1) (.int .i64 tb1))
      clear hfl hgl hb2 hnx oa b2 hga HJ HB HF R1 HN2
      go_wp2_with fail
      go_roundw
      case rel => exact ⟨k + 1, by omega, by go_num, HX.out, HBX.out⟩
      case measure => simp [intOf]; omega
    · obtain rfl : k = n := by omega
      have HB := Lib.hid hb
      have HF := Lib.hid hfl
      clear hb hfl
      go_wp2_with fail
      go_ret
      exact ⟨g, rfl, HF.out.lt, HG.out ▸ ⟨HR.out.1, Nat.le_refl _, HF.out⟩, HG.out ▸ HB.out⟩
end Qt
end Go.Proofs.Ytihnpfcjnfkfjaa
