/- Lists of layers that lie in blocks of the call's own: what keeps them. No conditions. -/
import Derived.Test.YtklefnmhknlilaaLays
import Derived.Test.YtklefnmhknlilaaOwn
namespace Go.Proofs.Ytklefnmhknlilaa
open Go.RowKit
namespace Qt
/-- The layer's nine values stand in these cells from place i on, and its two slices are the call's own, behind B, none of them block g. -/
def InRow (B : Nat) (w : World) (g : Nat) (cs : Array Value) (i : Nat) (l : Lay) (P : Pos) : Prop :=
  (∀ c v, (layC l P)[c]? = some v → cs[i + c]? = some v) ∧ OwnI B w P.A P.n l.xs ∧ OwnI B w P.B P.q l.ys ∧ (∀ a, P.A = some a → a.block ≠ g) ∧ (∀ a, P.B = some a → a.block ≠ g)
/-- The first k of the layers stand in block g, which is wholly known. -/
def Filled (B : Nat) (w : World) (g : Nat) (n k : Nat) (ls : List Lay) : Prop :=
  ∃ cs, Bk w g 62 cs ∧ cs.size = n * 9 ∧ ∀ j l, j < k → ls[j]? = some l → ∃ P, InRow B w g cs (j * 9) l P
def OwnL (B : Nat) (w : World) (A : Option Addr) (n : Nat) (ls : List Lay) : Prop :=
  ls.length = n ∧ ∃ g, A = some ⟨g, 0, none⟩ ∧ B ≤ g ∧ Filled B w g n n ls
section
variable {B : Nat} {w w' : World} {g n k : Nat} {A : Option Addr} {ls : List Lay} {cs : Array Value} {i : Nat} {l : Lay} {P : Pos}
theorem InRow.of_below (h : InRow B w g cs i l P) (hb : Below w.heap.size w w') : InRow B w' g cs i l P := ⟨h.1, h.2.1.of_below hb, h.2.2.1.of_below hb, h.2.2.2⟩
theorem Filled.of_below (h : Filled B w g n k ls) (hb : Below w.heap.size w w') : Filled B w' g n k ls := by
  obtain ⟨cs, hk, hs, hr⟩ := h
  exact ⟨cs, hk.below hb, hs, fun j l hj hl => by obtain ⟨P, hP⟩ := hr j l hj hl; exact ⟨P, hP.of_below hb⟩⟩
theorem OwnL.of_below (h : OwnL B w A n ls) (hb : Below w.heap.size w w') : OwnL B w' A n ls := by
  obtain ⟨h1, g, e, hB, hf⟩ := h
  exact ⟨h1, g, e, hB, hf.of_below hb⟩
theorem Filled.rdL (h : Filled B w g n n ls) (hl : ls.length = n) : RdL w (some ⟨g, 0, none⟩) n ls := by
  obtain ⟨cs, hk, hs, hr⟩ := h
  refine ⟨hl, fun _ => ⟨g, 0, rfl, hk.lt, fun j l hj => ?_⟩⟩
  obtain ⟨P, h1, h2, h3, _⟩ := hr j l (by have := (List.getElem?_eq_some_iff.1 hj).1; omega) hj
  exact ⟨P, fun c v hv => hk.cell _ (by rw [Nat.zero_add]; exact h1 c v hv), h2.rdI, h3.rdI⟩
theorem OwnL.rdL (h : OwnL B w A n ls) : RdL w A n ls := by
  obtain ⟨h1, g, rfl, _, hf⟩ := h
  exact hf.rdL h1
theorem OwnI.apart {A : Option Addr} {n : Nat} {xs : List Int} (h : OwnI B w A n xs) {p : Addr} (hp : ∀ a, A = some a → a.block ≠ p.block) (u : Value) : OwnI B (w.setCell p u) A n xs := ⟨h.1, fun hn => by
  obtain ⟨g, rfl, r⟩ := h.2 hn
  exact (OwnI.far (g := g) ⟨h.1, fun _ => ⟨g, rfl, r⟩⟩ (hp _ rfl) u).2 hn⟩
theorem OwnI.low {A : Option Addr} {n : Nat} {xs : List Int} (h : OwnI B w A n xs) {p : Addr} (hp : p.block < B) (u : Value) : OwnI B (w.setCell p u) A n xs := ⟨h.1, fun hn => by
  obtain ⟨g, rfl, hB, r⟩ := h.2 hn
  exact (OwnI.far (g := g) ⟨h.1, fun _ => ⟨g, rfl, hB, r⟩⟩ (by omega) u).2 hn⟩
theorem OwnL.low (h : OwnL B w A n ls) {p : Addr} (hp : p.block < B) (u : Value) : OwnL B (w.setCell p u) A n ls := by
  obtain ⟨h1, g, rfl, hB, cs, hk, hs, hr⟩ := h
  refine ⟨h1, g, rfl, hB, cs, hk.far (by omega) u, hs, fun j l hj hl => ?_⟩
  obtain ⟨P, a, b, c, d, e⟩ := hr j l hj hl
  exact ⟨P, a, b.low hp u, c.low hp u, d, e⟩
theorem OwnL.base {B' : Nat} (h : OwnL B w A n ls) (hB' : B' ≤ B) : OwnL B' w A n ls := by
  obtain ⟨h1, g, rfl, hB, cs, hk, hs, hr⟩ := h
  refine ⟨h1, g, rfl, by omega, cs, hk, hs, fun j l hj hl => ?_⟩
  obtain ⟨P, a, b, c, d, e⟩ := hr j l hj hl
  exact ⟨P, a, b.base hB', c.base hB', d, e⟩
/-- Nine values more. -/
def row9 (cs : Array Value) (i : Nat) (v0 v1 v2 v3 v4 v5 v6 v7 v8 : Value) : Array Value :=
  ((((((((cs.setIfInBounds i v0).setIfInBounds (i + 1) v1).setIfInBounds (i + 2) v2).setIfInBounds (i + 3) v3).setIfInBounds (i + 4) v4).setIfInBounds (i + 5) v5).setIfInBounds (i + 6) v6).setIfInBounds (i + 7) v7).setIfInBounds (i + 8) v8
def wset9 (w : World) (g i : Nat) (v0 v1 v2 v3 v4 v5 v6 v7 v8 : Value) : World :=
  ((((((((w.setCell ⟨g, i, none⟩ v0).setCell ⟨g, i + 1, none⟩ v1).setCell ⟨g, i + 2, none⟩ v2).setCell ⟨g, i + 3, none⟩ v3).setCell ⟨g, i + 4, none⟩ v4).setCell ⟨g, i + 5, none⟩ v5).setCell ⟨g, i + 6, none⟩ v6).setCell ⟨g, i + 7, none⟩ v7).setCell ⟨g, i + 8, none⟩ v8
theorem Bk.row9 {t : TypeId} (h : Bk w g t cs) (i : Nat) (v0 v1 v2 v3 v4 v5 v6 v7 v8 : Value) : Bk (wset9 w g i v0 v1 v2 v3 v4 v5 v6 v7 v8) g t (row9 cs i v0 v1 v2 v3 v4 v5 v6 v7 v8) :=
  ((((((((h.set i v0).set (i + 1) v1).set (i + 2) v2).set (i + 3) v3).set (i + 4) v4).set (i + 5) v5).set (i + 6) v6).set (i + 7) v7).set (i + 8) v8
theorem row9_size (cs : Array Value) (i : Nat) (v0 v1 v2 v3 v4 v5 v6 v7 v8 : Value) : (row9 cs i v0 v1 v2 v3 v4 v5 v6 v7 v8).size = cs.size := by simp [row9]
theorem row9_old {cs : Array Value} {i j : Nat} (h : j < i) (v0 v1 v2 v3 v4 v5 v6 v7 v8 : Value) : (row9 cs i v0 v1 v2 v3 v4 v5 v6 v7 v8)[j]? = cs[j]? := by
  simp only [row9, Array.getElem?_setIfInBounds]
  repeat rw [if_neg (by omega)]
theorem row9_new {cs : Array Value} {i : Nat} (h : i + 9 ≤ cs.size) (l : Lay) (P : Pos) (c : Nat) (v : Value) (hv : (layC l P)[c]? = some v) :
    (row9 cs i (.int .i64 l.k) (.int .i64 l.o) (.int .i64 l.s) (.int .i64 l.t) (.int .i64 l.m) (.int .i64 l.f) (.int .i64 l.z) (.slice P.A P.n P.p) (.slice P.B P.q P.r))[i + c]? = some v := by
  have hc : c < 9 := by have := (List.getElem?_eq_some_iff.1 hv).1; simpa [layC] using this
  obtain rfl | rfl | rfl | rfl | rfl | rfl | rfl | rfl | rfl : c = 0 ∨ c = 1 ∨ c = 2 ∨ c = 3 ∨ c = 4 ∨ c = 5 ∨ c = 6 ∨ c = 7 ∨ c = 8 := by omega
  all_goals
    simp [layC] at hv
    subst hv
    simp [row9, Array.getElem?_setIfInBounds]
    omega
theorem OwnI.set9 {A : Option Addr} {n : Nat} {xs : List Int} (h : OwnI B w A n xs) (hp : ∀ a, A = some a → a.block ≠ g) (i : Nat) (v0 v1 v2 v3 v4 v5 v6 v7 v8 : Value) : OwnI B (wset9 w g i v0 v1 v2 v3 v4 v5 v6 v7 v8) A n xs :=
  ((((((((h.apart (p := ⟨g, i, none⟩) hp v0).apart (p := ⟨g, i + 1, none⟩) hp v1).apart (p := ⟨g, i + 2, none⟩) hp v2).apart (p := ⟨g, i + 3, none⟩) hp v3).apart (p := ⟨g, i + 4, none⟩) hp v4).apart (p := ⟨g, i + 5, none⟩) hp v5).apart (p := ⟨g, i + 6, none⟩) hp v6).apart (p := ⟨g, i + 7, none⟩) hp v7).apart (p := ⟨g, i + 8, none⟩) hp v8
theorem below_set9i {C : Nat} {W : World} (h : Below C W w) (hC : C ≤ g) (i : Nat) (v0 v1 v2 v3 v4 v5 v6 v7 v8 : Value) : Below C W (wset9 w g i v0 v1 v2 v3 v4 v5 v6 v7 v8) :=
  ((((((((h.setCell (p := ⟨g, i, none⟩) hC v0).setCell (p := ⟨g, i + 1, none⟩) hC v1).setCell (p := ⟨g, i + 2, none⟩) hC v2).setCell (p := ⟨g, i + 3, none⟩) hC v3).setCell (p := ⟨g, i + 4, none⟩) hC v4).setCell (p := ⟨g, i + 5, none⟩) hC v5).setCell (p := ⟨g, i + 6, none⟩) hC v6).setCell (p := ⟨g, i + 7, none⟩) hC v7).setCell (p := ⟨g, i + 8, none⟩) hC v8
/-- The next layer is laid into its place. -/
theorem Filled.next (h : Filled B w g n k ls) (hk : k < n) {l : Lay} (hl : ls[k]? = some l) (P : Pos) (ha : OwnI B w P.A P.n l.xs) (hb : OwnI B w P.B P.q l.ys) (na : ∀ a, P.A = some a → a.block ≠ g) (nb : ∀ a, P.B = some a → a.block ≠ g) :
    Filled B (wset9 w g (k * 9) (.int .i64 l.k) (.int .i64 l.o) (.int .i64 l.s) (.int .i64 l.t) (.int .i64 l.m) (.int .i64 l.f) (.int .i64 l.z) (.slice P.A P.n P.p) (.slice P.B P.q P.r)) g n (k + 1) ls := by
  obtain ⟨cs, hB, hs, hr⟩ := h
  refine ⟨_, hB.row9 (k * 9) _ _ _ _ _ _ _ _ _, by rw [row9_size]; exact hs, fun j l' hj hl' => ?_⟩
  by_cases e : j = k
  · subst e
    rw [hl] at hl'
    cases hl'
    exact ⟨P, fun c v hv => row9_new (by omega) l P c v hv, ha.set9 na _ _ _ _ _ _ _ _ _ _, hb.set9 nb _ _ _ _ _ _ _ _ _ _, na, nb⟩
  · obtain ⟨P', h1, h2, h3, h4, h5⟩ := hr j l' (by omega) hl'
    refine ⟨P', fun c v hv => ?_, h2.set9 h4 _ _ _ _ _ _ _ _ _ _, h3.set9 h5 _ _ _ _ _ _ _ _ _ _, h4, h5⟩
    have hc : c < 9 := by have := (List.getElem?_eq_some_iff.1 hv).1; simpa [layC] using this
    rw [row9_old (by omega)]
    exact h1 c v hv
end
end Qt
end Go.Proofs.Ytklefnmhknlilaa
