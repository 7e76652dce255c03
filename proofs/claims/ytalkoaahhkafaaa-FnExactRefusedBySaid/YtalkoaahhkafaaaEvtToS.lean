/- What the laws' own helpers toEvent and toEventS give when they are called: a slice that reads as the same list, its elements in blocks of the call's own. Conditions: the slice reads as the list that is named. -/
import Derived.Test.YtalkoaahhkafaaaEvts
import Derived.Test.YtalkoaahhkafaaaRowB
import Derived.OwnWalk
import Derived.Outline
namespace Go.Proofs.Ytalkoaahhkafaaa
open Go.RowKit Go.Sort
set_option linter.unusedSimpArgs false
set_option linter.unusedVariables false
namespace Qt
def posEvt (s : Evt) (ga : Nat) : EvtP := ⟨some ⟨ga, 0, none⟩, s.xs.length, s.xs.length⟩
section
variable {B : Nat} {w w' : World} {g n k : Nat} {cs : Array Value} {ss : List Evt}
def rowEvt (cs : Array Value) (i : Nat) (v0 v1 v2 v3 v4 v5 v6 : Value) : Array Value := (((((((cs.setIfInBounds i v0).setIfInBounds (i + 1) v1).setIfInBounds (i + 2) v2).setIfInBounds (i + 3) v3).setIfInBounds (i + 4) v4).setIfInBounds (i + 5) v5).setIfInBounds (i + 6) v6)
def wrowEvt (w : World) (g i : Nat) (v0 v1 v2 v3 v4 v5 v6 : Value) : World := (((((((w.setCell ⟨g, i, none⟩ v0).setCell ⟨g, i + 1, none⟩ v1).setCell ⟨g, i + 2, none⟩ v2).setCell ⟨g, i + 3, none⟩ v3).setCell ⟨g, i + 4, none⟩ v4).setCell ⟨g, i + 5, none⟩ v5).setCell ⟨g, i + 6, none⟩ v6)
theorem Bk.rowEvt {t : TypeId} (h : Bk w g t cs) (i : Nat) (v0 v1 v2 v3 v4 v5 v6 : Value) : Bk (wrowEvt w g i v0 v1 v2 v3 v4 v5 v6) g t (Qt.rowEvt cs i v0 v1 v2 v3 v4 v5 v6) := (((((((h.set i v0).set (i + 1) v1).set (i + 2) v2).set (i + 3) v3).set (i + 4) v4).set (i + 5) v5).set (i + 6) v6)
theorem rowEvt_size (cs : Array Value) (i : Nat) (v0 v1 v2 v3 v4 v5 v6 : Value) : (rowEvt cs i v0 v1 v2 v3 v4 v5 v6).size = cs.size := by simp [rowEvt]
theorem rowEvt_old {cs : Array Value} {i j : Nat} (h : j < i) (v0 v1 v2 v3 v4 v5 v6 : Value) : (rowEvt cs i v0 v1 v2 v3 v4 v5 v6)[j]? = cs[j]? := by
  simp only [rowEvt, Array.getElem?_setIfInBounds]
  repeat rw [if_neg (by omega)]
theorem rowEvt_new {cs : Array Value} {i : Nat} (h : i + 7 ≤ cs.size) (s : Evt) (P : EvtP) (c : Nat) (v : Value) (hv : (evtC s P)[c]? = some v) :
    (rowEvt cs i (.int .i64 s.k) (.int .i64 s.a) (.int .i64 s.b) (.int .i64 s.h) (.int .i64 s.w) (.int .i64 s.c) (.slice P.A P.n P.p))[i + c]? = some v := by
  have hc : c < 7 := by have := (List.getElem?_eq_some_iff.1 hv).1; simpa [evtC] using this
  obtain rfl | rfl | rfl | rfl | rfl | rfl | rfl : c = 0 ∨ c = 1 ∨ c = 2 ∨ c = 3 ∨ c = 4 ∨ c = 5 ∨ c = 6 := by omega
  all_goals
    simp [evtC] at hv
    subst hv
    simp [rowEvt, Array.getElem?_setIfInBounds]
    omega
theorem OwnI.wrowEvt {b m : Nat} {xs : List Int} (h : OwnI B w (some ⟨b, 0, none⟩) m xs) (hp : b ≠ g) (i : Nat) (v0 v1 v2 v3 v4 v5 v6 : Value) : OwnI B (wrowEvt w g i v0 v1 v2 v3 v4 v5 v6) (some ⟨b, 0, none⟩) m xs := (((((((h.far (p := ⟨g, i, none⟩) hp v0).far (p := ⟨g, i + 1, none⟩) hp v1).far (p := ⟨g, i + 2, none⟩) hp v2).far (p := ⟨g, i + 3, none⟩) hp v3).far (p := ⟨g, i + 4, none⟩) hp v4).far (p := ⟨g, i + 5, none⟩) hp v5).far (p := ⟨g, i + 6, none⟩) hp v6)
theorem below_wrowEvt {C : Nat} {W : World} (h : Below C W w) (hC : C ≤ g) (i : Nat) (v0 v1 v2 v3 v4 v5 v6 : Value) : Below C W (wrowEvt w g i v0 v1 v2 v3 v4 v5 v6) := (((((((h.setCell (p := ⟨g, i, none⟩) hC v0).setCell (p := ⟨g, i + 1, none⟩) hC v1).setCell (p := ⟨g, i + 2, none⟩) hC v2).setCell (p := ⟨g, i + 3, none⟩) hC v3).setCell (p := ⟨g, i + 4, none⟩) hC v4).setCell (p := ⟨g, i + 5, none⟩) hC v5).setCell (p := ⟨g, i + 6, none⟩) hC v6)
/-- The first k stand in block g, which is wholly known; their lists lie in blocks of the call's own. -/
def FillEvt (B : Nat) (w : World) (g n k : Nat) (ss : List Evt) : Prop :=
  ∃ cs, Bk w g 79 cs ∧ cs.size = n * 7 ∧ ∀ j s, j < k → ss[j]? = some s → ∃ ga, ga ≠ g ∧ (∀ c v, (evtC s (posEvt s ga))[c]? = some v → cs[j * 7 + c]? = some v) ∧ OwnI B w (some ⟨ga, 0, none⟩) s.xs.length s.xs
theorem FillEvt.of_below (h : FillEvt B w g n k ss) (hb : Below w.heap.size w w') : FillEvt B w' g n k ss := by
  obtain ⟨cs, hB, hs, hr⟩ := h
  exact ⟨cs, hB.below hb, hs, fun j s hj he => by
    obtain ⟨ga, h1, h3, h4⟩ := hr j s hj he
    exact ⟨ga, h1, h3, h4.of_below hb⟩⟩
theorem FillEvt.zero (h : Bk w g 79 cs) (hs : cs.size = n * 7) : FillEvt B w g n 0 ss := ⟨cs, h, hs, fun j s hj => absurd hj (by omega)⟩
theorem FillEvt.room (h : FillEvt B w g n k ss) {c : Nat} (hc : c < n * 7) : ∃ v, w.cell? ⟨g, c, none⟩ = some v := by
  obtain ⟨cs, hB, hs, _⟩ := h
  exact ⟨cs[c]'(by omega), hB.cell c (Array.getElem?_eq_getElem (by omega))⟩
theorem FillEvt.free (h : FillEvt B w g n k ss) (c : Nat) : w.frozen? ⟨g, c, none⟩ = false := by
  obtain ⟨cs, hB, _⟩ := h
  exact hB.frozen c
theorem FillEvt.lt (h : FillEvt B w g n k ss) : g < w.heap.size := by
  obtain ⟨cs, hB, _⟩ := h
  exact hB.lt
theorem FillEvt.rd (h : FillEvt B w g n n ss) (hl : ss.length = n) : RdEvt w (some ⟨g, 0, none⟩) n ss := by
  obtain ⟨cs, hB, hs, hr⟩ := h
  refine ⟨hl, fun hn => ⟨g, 0, rfl, hB.lt, fun j s hj => ?_⟩⟩
  have hjn : j < n := by have := (List.getElem?_eq_some_iff.1 hj).1; omega
  obtain ⟨ga, _, h3, h4⟩ := hr j s hjn hj
  exact ⟨posEvt s ga, fun i v hv => by rw [Nat.zero_add]; exact hB.cell _ (h3 i v hv), h4.rdI⟩
/-- The next one is laid into its place. -/
theorem FillEvt.next {w0 : World} (h0 : FillEvt B w0 g n k ss) (hb : Below w0.heap.size w0 w) (hk : k < n) {s : Evt} (hl : ss[k]? = some s) (ga : Nat) (hga : w0.heap.size ≤ ga) (ha : OwnI B w (some ⟨ga, 0, none⟩) s.xs.length s.xs) :
    FillEvt B (wrowEvt w g (k * 7) (.int .i64 s.k) (.int .i64 s.a) (.int .i64 s.b) (.int .i64 s.h) (.int .i64 s.w) (.int .i64 s.c) (.slice (some ⟨ga, 0, none⟩) s.xs.length s.xs.length)) g n (k + 1) ss := by
  obtain ⟨cs, hB0, hs, hr0⟩ := h0
  have hg0 := hB0.lt
  have hB := hB0.below hb
  refine ⟨_, hB.rowEvt (k * 7) _ _ _ _ _ _ _, by rw [rowEvt_size]; exact hs, fun j s' hj hjs => ?_⟩
  by_cases e : j < k
  · obtain ⟨xa, h1, h3, h4⟩ := hr0 j s' e hjs
    refine ⟨xa, h1, fun c v hv => ?_, (h4.of_below hb).wrowEvt h1 _ _ _ _ _ _ _ _⟩
    have hc : c < 7 := by have := (List.getElem?_eq_some_iff.1 hv).1; simpa [evtC] using this
    rw [rowEvt_old (by omega)]
    exact h3 c v hv
  · have hjk : j = k := by omega
    subst hjk
    rw [hl] at hjs
    cases hjs
    exact ⟨ga, by omega, fun c v hv => rowEvt_new (by omega) s (posEvt s ga) c v hv, ha.wrowEvt (by omega) _ _ _ _ _ _ _ _⟩
end
def NewEvt (W : World) (k a b h w c : Int) (n : Nat) (xs : List Int) (e : Ending) (W' : World) : Prop :=
  ∃ ga, e = .returned (.agg #[.int .i64 k, .int .i64 a, .int .i64 b, .int .i64 h, .int .i64 w, .int .i64 c, .slice (some ⟨ga, 0, none⟩) n n]) ∧ W.heap.size ≤ ga ∧ OwnI W.heap.size W' (some ⟨ga, 0, none⟩) n xs ∧ Below W.heap.size W W'
set_option maxHeartbeats 2000000 in
theorem toEvtO (k a b h w c : Int) (A : Option Addr) (n p : Nat) (xs : List Int) (W : World) (hr : RdI W A n xs) (hn : n ≤ 1048576) :
    Calls Try.prog 55 #[.agg #[.int .i64 k, .int .i64 a, .int .i64 b, .int .i64 h, .int .i64 w, .int .i64 c, .slice A n p]] W (NewEvt W k a b h w c n xs) := by
  have HN := Lib.hid hn
  have k0 := ((Bk.new W 77 #[.int .i64 k, .int .i64 a, .int .i64 b, .int .i64 h, .int .i64 w, .int .i64 c, .slice A n p]).alloc (.cells #[.int .i64 0, .int .i64 0, .int .i64 0, .int .i64 0, .int .i64 0, .int .i64 0, .slice none 0 0] 79)).alloc (.cells #[.int .i64 k, .int .i64 a, .int .i64 b, .int .i64 0, .int .i64 0, .int .i64 0, .slice none 0 0] 79)
  have k2 := (Bk.new (W.alloc (.cells #[.int .i64 k, .int .i64 a, .int .i64 b, .int .i64 h, .int .i64 w, .int .i64 c, .slice A n p] 77)) 79 #[.int .i64 0, .int .i64 0, .int .i64 0, .int .i64 0, .int .i64 0, .int .i64 0, .slice none 0 0]).alloc (.cells #[.int .i64 k, .int .i64 a, .int .i64 b, .int .i64 0, .int .i64 0, .int .i64 0, .slice none 0 0] 79)
  have k3 := Bk.new ((W.alloc (.cells #[.int .i64 k, .int .i64 a, .int .i64 b, .int .i64 h, .int .i64 w, .int .i64 c, .slice A n p] 77)).alloc (.cells #[.int .i64 0, .int .i64 0, .int .i64 0, .int .i64 0, .int .i64 0, .int .i64 0, .slice none 0 0] 79)) 79 #[.int .i64 k, .int .i64 a, .int .i64 b, .int .i64 0, .int .i64 0, .int .i64 0, .slice none 0 0]
  have b0 : Below W.heap.size W (((W.alloc (.cells #[.int .i64 k, .int .i64 a, .int .i64 b, .int .i64 h, .int .i64 w, .int .i64 c, .slice A n p] 77)).alloc (.cells #[.int .i64 0, .int .i64 0, .int .i64 0, .int .i64 0, .int .i64 0, .int .i64 0, .slice none 0 0] 79)).alloc (.cells #[.int .i64 k, .int .i64 a, .int .i64 b, .int .i64 0, .int .i64 0, .int .i64 0, .slice none 0 0] 79)) := (((Below.refl _ W).alloc (Nat.le_refl _) _).alloc (by simp) _).alloc (by simp only [World.size_alloc]; omega) _
  simp only [World.size_alloc] at k2 k3
  have G2 := Lib.hid (show W.heap.size ≤ W.heap.size + 1 by omega)
  have G3 := Lib.hid (show W.heap.size ≤ W.heap.size + 1 + 1 by omega)
  have N02 := Lib.hid (show W.heap.size ≠ W.heap.size + 1 + 1 by omega)
  have N23 := Lib.hid (show W.heap.size + 1 ≠ W.heap.size + 1 + 1 by omega)
  have HR := Lib.hid (hr.of_below b0)
  have K0 := Lib.hid k0; have K2 := Lib.hid k2; have K3 := Lib.hid k3; have B1 := Lib.hid b0
  clear hn hr k0 k2 k3 b0
  go_enter Try.func55, Try.ntmps55
  go_wp2_with fail
  generalize (((W.alloc (.cells #[.int .i64 k, .int .i64 a, .int .i64 b, .int .i64 h, .int .i64 w, .int .i64 c, .slice A n p] 77)).alloc (.cells #[.int .i64 0, .int .i64 0, .int .i64 0, .int .i64 0, .int .i64 0, .int .i64 0, .slice none 0 0] 79)).alloc (.cells #[.int .i64 k, .int .i64 a, .int .i64 b, .int .i64 0, .int .i64 0, .int .i64 0, .slice none 0 0] 79)) = w1 at K0 K2 K3 B1 HR ⊢
  generalize W.heap.size + 1 + 1 = g3 at K3 G3 N02 N23 ⊢
  generalize W.heap.size + 1 = g2 at K2 G2 N23 ⊢
  refine (toTensorO h w c A n p xs _ HR.out HN.out).mono ?_
  rintro e w5 ⟨ga, rfl, hg, r5, b5⟩
  have hg3 := K3.out.lt
  have hg2 := K2.out.lt
  have NG := Lib.hid (show ga ≠ g3 ∧ ga ≠ g2 by omega)
  have LG := Lib.hid (show W.heap.size ≤ ga from Nat.le_trans B1.out.size hg)
  have r5 := r5.base (B' := W.heap.size) B1.out.size
  replace K0 := Lib.hid (K0.out.below b5)
  replace K2 := Lib.hid (K2.out.below b5)
  replace K3 := Lib.hid (K3.out.below b5)
  have B5 := Lib.hid (B1.out.trans (b5.mono B1.out.size))
  have R5 := Lib.hid r5
  clear hg3 hg2 hg r5 b5 B1 HR HN
  have c0 := K0.out.cell 0 rfl
  have d0 := K3.out.cell 0 rfl
  have f0 := K3.out.frozen 0
  have i0 := K2.out.cell 0 rfl
  have j0 := K2.out.frozen 0
  have c1 := K0.out.cell 1 rfl
  have d1 := K3.out.cell 1 rfl
  have f1 := K3.out.frozen 1
  have i1 := K2.out.cell 1 rfl
  have j1 := K2.out.frozen 1
  have c2 := K0.out.cell 2 rfl
  have d2 := K3.out.cell 2 rfl
  have f2 := K3.out.frozen 2
  have i2 := K2.out.cell 2 rfl
  have j2 := K2.out.frozen 2
  have c3 := K0.out.cell 3 rfl
  have d3 := K3.out.cell 3 rfl
  have f3 := K3.out.frozen 3
  have i3 := K2.out.cell 3 rfl
  have j3 := K2.out.frozen 3
  have c4 := K0.out.cell 4 rfl
  have d4 := K3.out.cell 4 rfl
  have f4 := K3.out.frozen 4
  have i4 := K2.out.cell 4 rfl
  have j4 := K2.out.frozen 4
  have c5 := K0.out.cell 5 rfl
  have d5 := K3.out.cell 5 rfl
  have f5 := K3.out.frozen 5
  have i5 := K2.out.cell 5 rfl
  have j5 := K2.out.frozen 5
  have c6 := K0.out.cell 6 rfl
  have d6 := K3.out.cell 6 rfl
  have f6 := K3.out.frozen 6
  have i6 := K2.out.cell 6 rfl
  have j6 := K2.out.frozen 6
  have hne : g2 ≠ g3 := N23.out
  have hne0 : W.heap.size ≠ g3 := N02.out
  have l3 := K3.out.lt
  have l2 := K2.out.lt
  go_wp2_with fail
  have k9 := (((((((((((K2.out.far (p := ⟨g3, 3, none⟩) hne (.int .i64 h)).far (p := ⟨g3, 4, none⟩) hne (.int .i64 w)).far (p := ⟨g3, 5, none⟩) hne (.int .i64 c)).far (p := ⟨g3, 6, none⟩) hne (.slice (some ⟨ga, 0, none⟩) n n)).set 0 (.int .i64 k)).set 1 (.int .i64 a)).set 2 (.int .i64 b)).set 3 (.int .i64 h)).set 4 (.int .i64 w)).set 5 (.int .i64 c)).set 6 (.slice (some ⟨ga, 0, none⟩) n n))
  have r9 := (((((((((((R5.out.far (p := ⟨g3, 3, none⟩) NG.out.1 (.int .i64 h)).far (p := ⟨g3, 4, none⟩) NG.out.1 (.int .i64 w)).far (p := ⟨g3, 5, none⟩) NG.out.1 (.int .i64 c)).far (p := ⟨g3, 6, none⟩) NG.out.1 (.slice (some ⟨ga, 0, none⟩) n n)).far (p := ⟨g2, 0, none⟩) NG.out.2 (.int .i64 k)).far (p := ⟨g2, 1, none⟩) NG.out.2 (.int .i64 a)).far (p := ⟨g2, 2, none⟩) NG.out.2 (.int .i64 b)).far (p := ⟨g2, 3, none⟩) NG.out.2 (.int .i64 h)).far (p := ⟨g2, 4, none⟩) NG.out.2 (.int .i64 w)).far (p := ⟨g2, 5, none⟩) NG.out.2 (.int .i64 c)).far (p := ⟨g2, 6, none⟩) NG.out.2 (.slice (some ⟨ga, 0, none⟩) n n))
  have b9 := (((((((((((B5.out.setCell (p := ⟨g3, 3, none⟩) G3.out (.int .i64 h)).setCell (p := ⟨g3, 4, none⟩) G3.out (.int .i64 w)).setCell (p := ⟨g3, 5, none⟩) G3.out (.int .i64 c)).setCell (p := ⟨g3, 6, none⟩) G3.out (.slice (some ⟨ga, 0, none⟩) n n)).setCell (p := ⟨g2, 0, none⟩) G2.out (.int .i64 k)).setCell (p := ⟨g2, 1, none⟩) G2.out (.int .i64 a)).setCell (p := ⟨g2, 2, none⟩) G2.out (.int .i64 b)).setCell (p := ⟨g2, 3, none⟩) G2.out (.int .i64 h)).setCell (p := ⟨g2, 4, none⟩) G2.out (.int .i64 w)).setCell (p := ⟨g2, 5, none⟩) G2.out (.int .i64 c)).setCell (p := ⟨g2, 6, none⟩) G2.out (.slice (some ⟨ga, 0, none⟩) n n))
  have k9' : Bk _ g2 79 #[.int .i64 k, .int .i64 a, .int .i64 b, .int .i64 h, .int .i64 w, .int .i64 c, .slice (some ⟨ga, 0, none⟩) n n] := k9
  have z0 := k9'.cell 0 rfl
  have z1 := k9'.cell 1 rfl
  have z2 := k9'.cell 2 rfl
  have z3 := k9'.cell 3 rfl
  have z4 := k9'.cell 4 rfl
  have z5 := k9'.cell 5 rfl
  have z6 := k9'.cell 6 rfl
  refine bodyPost_ret (v := .agg #[.int .i64 k, .int .i64 a, .int .i64 b, .int .i64 h, .int .i64 w, .int .i64 c, .slice (some ⟨ga, 0, none⟩) n n]) ?_ rfl ⟨ga, rfl, LG.out, r9, b9⟩
  clear k9 k9' r9 b9 c0 d0 f0 i0 j0 c1 d1 f1 i1 j1 c2 d2 f2 i2 j2 c3 d3 f3 i3 j3 c4 d4 f4 i4 j4 c5 d5 f5 i5 j5 c6 d6 f6 i6 j6
  generalize ((((((((((w5.setCell ⟨g3, 3, none⟩ (.int .i64 h)).setCell ⟨g3, 4, none⟩ (.int .i64 w)).setCell ⟨g3, 5, none⟩ (.int .i64 c)).setCell ⟨g3, 6, none⟩ (.slice (some ⟨ga, 0, none⟩) n n)).setCell ⟨g2, 0, none⟩ (.int .i64 k)).setCell ⟨g2, 1, none⟩ (.int .i64 a)).setCell ⟨g2, 2, none⟩ (.int .i64 b)).setCell ⟨g2, 3, none⟩ (.int .i64 h)).setCell ⟨g2, 4, none⟩ (.int .i64 w)).setCell ⟨g2, 5, none⟩ (.int .i64 c)) = w8 at z0 z1 z2 z3 z4 z5 z6 ⊢
  generalize w8.setCell ⟨g2, 6, none⟩ (.slice (some ⟨ga, 0, none⟩) n n) = w9 at z0 z1 z2 z3 z4 z5 z6 ⊢
  simp [results, Try.results55, go_sem, z0, z1, z2, z3, z4, z5, z6]
def zeroEvt : Value := .agg #[.int .i64 0, .int .i64 0, .int .i64 0, .int .i64 0, .int .i64 0, .int .i64 0, .slice none 0 0]
theorem infoEvt : (Try.prog.info? 79).map (fun i => (i.zero, i.size, i.bytes)) = some (some zeroEvt, 7, 72) := by kernel_rfl
/-- A slice of the call's own: its elements stand in one block, their lists in blocks of the call's own besides. -/
def OwnEvt (B : Nat) (w : World) (g n : Nat) (ss : List Evt) : Prop := ss.length = n ∧ B ≤ g ∧ FillEvt B w g n n ss
theorem OwnEvt.rd {B : Nat} {w : World} {g n : Nat} {ss : List Evt} (h : OwnEvt B w g n ss) : RdEvt w (some ⟨g, 0, none⟩) n ss := h.2.2.rd h.1
theorem OwnEvt.of_below {B : Nat} {w w' : World} {g n : Nat} {ss : List Evt} (h : OwnEvt B w g n ss) (hb : Below w.heap.size w w') : OwnEvt B w' g n ss := ⟨h.1, h.2.1, h.2.2.of_below hb⟩
def NewsEvt (W : World) (n : Nat) (ss : List Evt) (e : Ending) (W' : World) : Prop := ∃ g, e = .returned (.slice (some ⟨g, 0, none⟩) n n) ∧ g < W'.heap.size ∧ OwnEvt W.heap.size W' g n ss ∧ Below W.heap.size W W'
set_option maxRecDepth 10000 in
set_option maxHeartbeats 1000000 in
theorem toEvtSL (A : Option Addr) (n p : Nat) (ss : List Evt) (W : World) (hr : RdEvt W A n ss) (hn : n + bigEvt ss ≤ 1048576) :
    Calls Try.prog 19 #[.slice A n p] W (NewsEvt W n ss) := by
  obtain ⟨i0, hi, hz0, hz1, hz2⟩ := info_parts infoEvt
  have HR := Lib.hid hr
  have HN := Lib.hid hn
  have hn1 : (n : Int) ≤ 1048576 := by omega
  clear hr hn
  go_enter Try.func19, Try.ntmps19
  go_wp2_with (at_make; go_loud (refine wpList_make_full _ rfl _ _ 33 rfl W.heap.size 79 i0 zeroEvt 7 Try.underlying33 hi hz0 hz1 .i64 .i64 _ _ n rfl rfl rfl rfl (by rw [hz2]; omega) (by unfold maxLen; omega) (Nat.le_refl _) ?_); intro w1 hown hg)
  obtain ⟨g, hgd⟩ : ∃ g, g = W.heap.size := ⟨_, rfl⟩
  obtain ⟨cs, hbk, hcs⟩ := ownsRow_bkR hown
  rw [← hgd] at hbk ⊢
  have hf0 : FillEvt g w1 g n 0 ss := FillEvt.zero hbk hcs
  have hb0 : Below g W w1 := hgd ▸ (Below.refl W.heap.size W).grown hg (Nat.le_refl _) (fun k hk => by cases hk)
  have HG := Lib.hid hgd
  clear hown hg hgd hbk hcs
  go_loopw [4] (fun i wr => ∃ k : Nat, k ≤ n ∧ i = .int .i64 k ∧ FillEvt g wr g n k ss ∧ Below g W wr) (fun i _ => n - (intOf i).toNat)
  case atStart => exact ⟨0, Nat.zero_le _, rfl, hf0, hb0⟩
  case round =>
    clear hf0 hb0
    obtain ⟨k, hk, rfl, hfl, hb⟩ := hrel
    by_cases hlt : k < n
    · obtain ⟨b, off, k1, a1, b1, h1, w1, c1, A', n', p', xs, rfl, hbs, hj, hat⟩ := (HR.out.of_below (HG.out ▸ hb)).at hlt
      obtain rfl := hat.lens
      obtain ⟨c0, c1, c2, c3, c4, c5, c6⟩ := hat.cells
      have hbig := bigEvt_at1 hj
      have hn2 : xs.length ≤ 1048576 := by have := HN.out; omega
      have HJ := Lib.hid hj
      have HB := Lib.hid hb
      have HF := Lib.hid hfl
      have R1 := Lib.hid hat.rds
      have HN2 := Lib.hid hn2
      clear hat hj hbs hbig hn2 hfl hb
      have hi : (k : Int) < (n : Int) := by omega
      go_wp2_with fail
      clear c0 c1 c2 c3 c4 c5 c6
      with_reducible refine (toEvtO k1 a1 b1 h1 w1 c1 A' _ p' xs _ R1.out HN2.out).mono ?_
      rintro e w2 ⟨ga, rfl, hga, oa, b2⟩
      have hfl := HF.out.of_below b2
      have hgl := HF.out.lt
      have hb2 := HB.out.trans (b2.mono (Nat.le_of_lt hgl))
      obtain ⟨d0, e0⟩ := hfl.room (c := k * 7) (by omega)
      have f0 := hfl.free (k * 7)
      obtain ⟨d1, e1⟩ := hfl.room (c := k * 7 + 1) (by omega)
      have f1 := hfl.free (k * 7 + 1)
      obtain ⟨d2, e2⟩ := hfl.room (c := k * 7 + 2) (by omega)
      have f2 := hfl.free (k * 7 + 2)
      obtain ⟨d3, e3⟩ := hfl.room (c := k * 7 + 3) (by omega)
      have f3 := hfl.free (k * 7 + 3)
      obtain ⟨d4, e4⟩ := hfl.room (c := k * 7 + 4) (by omega)
      have f4 := hfl.free (k * 7 + 4)
      obtain ⟨d5, e5⟩ := hfl.room (c := k * 7 + 5) (by omega)
      have f5 := hfl.free (k * 7 + 5)
      obtain ⟨d6, e6⟩ := hfl.room (c := k * 7 + 6) (by omega)
      have f6 := hfl.free (k * 7 + 6)
      have hnx := FillEvt.next HF.out b2 hlt HJ.out ga hga (oa.base (Nat.le_of_lt hgl))
      have HX := Lib.hid hnx
      have HBX := Lib.hid (below_wrowEvt hb2 (Nat.le_refl g) (k * 7) (.int .i64 k1) (.int .i64 a1) (.int .i64 b1) (.int .i64 h1) (.int .i64 w1) (.int .i64 c1) (.slice (some ⟨ga, 0, none⟩) xs.length xs.length))
      clear hfl hgl hb2 hnx oa b2 hga HJ HB HF R1 HN2
      go_wp2_with fail
      go_roundw
      case rel => exact ⟨k + 1, by omega, by go_num, HX.out, HBX.out⟩
      case measure => simp [intOf]; omega
    · obtain rfl : k = n := by omega
      have HB := Lib.hid hb
      have HF := Lib.hid hfl
      clear hb hfl
      go_wp2_with fail
      go_ret
      exact ⟨g, rfl, HF.out.lt, HG.out ▸ ⟨HR.out.1, Nat.le_refl _, HF.out⟩, HG.out ▸ HB.out⟩
end Qt
end Go.Proofs.Ytalkoaahhkafaaa
