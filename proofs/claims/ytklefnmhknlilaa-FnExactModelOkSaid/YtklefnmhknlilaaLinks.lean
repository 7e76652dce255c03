/- Layers that hang together by pointers: how such a chain lies in memory, and how it grows. No conditions. -/
import Derived.Test.YtklefnmhknlilaaWay
import Derived.Test.YtklefnmhknlilaaKept
namespace Go.Proofs.Ytklefnmhknlilaa
open Go.RowKit Go.Sort
set_option linter.unusedVariables false
namespace Qt
def linkA (l : Lay) (P : Pos) (a b : Sh) (nx : Option Addr) : Array Value := #[.int .i64 l.k, .int .i64 l.o, .int .i64 l.s, .int .i64 l.t, .int .i64 l.m, .int .i64 l.f, .int .i64 l.z, .slice P.A P.n P.p, .slice P.B P.q P.r, .int .i64 a.1, .int .i64 a.2.1, .int .i64 a.2.2, .int .i64 b.1, .int .i64 b.2.1, .int .i64 b.2.2, .pointer nx]
def ptrAt (gs : List Nat) (j : Nat) : Option Addr := gs[j]?.map fun g => ⟨g, 0, none⟩
/-- The links gs, one behind the other, hold these layers and shapes; the slices are those that lay in the world W. -/
structure Chain (W : World) (B : Nat) (w : World) (gs : List Nat) (ls : List Lay) (ss : List Sh) : Prop where
  len : gs.length = ls.length
  node : ∀ (j g : Nat) (l : Lay), gs[j]? = some g → ls[j]? = some l → ∃ P a b, ss[j]? = some a ∧ ss[j + 1]? = some b ∧ Bk w g 64 (linkA l P a b (ptrAt gs (j + 1))) ∧ RdY W l P
  lo : ∀ (j g : Nat), gs[j]? = some g → B ≤ g
  inc : ∀ (i j g g' : Nat), i < j → gs[i]? = some g → gs[j]? = some g' → g < g'
/-- Where the next link is to be hung. -/
def endAt (GF : Nat) (gs : List Nat) : Nat × Nat := match gs.getLast? with
  | none => (GF, 0)
  | some g => (g, 15)
/-- What linksOf keeps while it hangs the layers together. -/
structure LinkW (W : World) (h w c : Int) (A : Option Addr) (n p GF GI : Nat) (gs : List Nat) (ls : List Lay) (ss : List Sh) (e : Sh) (u : World) : Prop where
  bm : Bk u W.heap.size 32 #[.int .i64 h, .int .i64 w, .int .i64 c, .slice A n p]
  bf : Bk u GF 56 #[.pointer (ptrAt gs 0)]
  bi : Bk u GI 29 #[.int .i64 e.1, .int .i64 e.2.1, .int .i64 e.2.2]
  ch : Chain W (GI + 1) u gs ls ss
  f1 : W.heap.size < GF
  f2 : GF < GI
section
variable {W u u' : World} {h w c : Int} {A : Option Addr} {n p GF GI B : Nat} {gs : List Nat} {ls : List Lay} {ss : List Sh} {e : Sh}
theorem Chain.keep (hc : Chain W B u gs ls ss) (hk : ∀ (j g : Nat) cs, gs[j]? = some g → Bk u g 64 cs → Bk u' g 64 cs) : Chain W B u' gs ls ss :=
  ⟨hc.len, fun j g l hg hl => by
    obtain ⟨P, a, b, h1, h2, h3, h4⟩ := hc.node j g l hg hl
    exact ⟨P, a, b, h1, h2, hk j g _ hg h3, h4⟩, hc.lo, hc.inc⟩
theorem Chain.below (hc : Chain W B u gs ls ss) (hb : Below u.heap.size u u') : Chain W B u' gs ls ss := hc.keep fun _ _ _ _ h => h.below hb
theorem LinkW.st : ∀ u u', LinkW W h w c A n p GF GI gs ls ss e u → Below u.heap.size u u' → LinkW W h w c A n p GF GI gs ls ss e u' := fun u u' h hb =>
  ⟨h.bm.below hb, h.bf.below hb, h.bi.below hb, h.ch.below hb, h.f1, h.f2⟩
theorem endAt_nil (GF : Nat) : endAt GF [] = (GF, 0) := rfl
theorem endAt_snoc (GF : Nat) (gs : List Nat) (g : Nat) : endAt GF (gs ++ [g]) = (g, 15) := by simp [endAt]
/-- What stands at the end: nothing yet. -/
theorem LinkW.atEnd (hL : LinkW W h w c A n p GF GI gs ls ss e u) {eb eo : Nat} (he : endAt GF gs = (eb, eo)) :
    u.cell? ⟨eb, eo, none⟩ = some (.pointer none) ∧ u.frozen? ⟨eb, eo, none⟩ = false ∧ eb < u.heap.size ∧ eb ≠ GI ∧ W.heap.size < eb := by
  unfold endAt at he
  rcases hl : gs.getLast? with _ | g
  · have hg : gs = [] := List.getLast?_eq_none_iff.1 hl
    subst hg
    rw [hl] at he
    cases he
    have := hL.bf
    exact ⟨this.cell 0 rfl, this.frozen 0, this.lt, Nat.ne_of_lt hL.f2, hL.f1⟩
  · rw [hl] at he
    cases he
    have hne : gs ≠ [] := by intro h; subst h; simp at hl
    have hlen : 0 < gs.length := List.length_pos_iff.2 hne
    have hj : gs[gs.length - 1]? = some eb := by rw [← List.getLast?_eq_getElem?]; exact hl
    have hjl : ls[gs.length - 1]? = some (ls[gs.length - 1]'(by rw [← hL.ch.len]; omega)) := List.getElem?_eq_getElem _
    obtain ⟨P, a, b, _, _, h3, _⟩ := hL.ch.node _ _ _ hj hjl
    have hlo := hL.ch.lo _ _ hj
    have hnx : ptrAt gs (gs.length - 1 + 1) = none := by unfold ptrAt; rw [List.getElem?_eq_none (by omega)]; rfl
    rw [hnx] at h3
    have f1 := hL.f1
    have f2 := hL.f2
    exact ⟨h3.cell 15 rfl, h3.frozen 15, h3.lt, by omega, by omega⟩
/-- One link more. -/
theorem LinkW.grow (hL : LinkW W h w c A n p GF GI gs ls ss e u) {eb eo : Nat} (he : endAt GF gs = (eb, eo)) (hss : ss.length = ls.length + 1) (hse : ss[ls.length]? = some e) (l : Lay) (P : Pos) (e' : Sh) (hy : RdY W l P) (g : Nat) (hg : g = u.heap.size) (u1 : World)
    (hu : u1 = (u.alloc (.cells (linkA l P e e' none) 64)).setCell ⟨eb, eo, none⟩ (.pointer (some ⟨g, 0, none⟩))) (u2 : World)
    (hu2 : ∀ k, k ≠ GI → k < u1.heap.size → u2.heap[k]? = u1.heap[k]?) (hi : Bk u2 GI 29 #[.int .i64 e'.1, .int .i64 e'.2.1, .int .i64 e'.2.2]) :
    LinkW W h w c A n p GF GI (gs ++ [g]) (ls ++ [l]) (ss ++ [e']) e' u2 := by
  obtain ⟨_, _, q3, q4, q5⟩ := hL.atEnd he
  subst hg
  have hf1 := hL.f1
  have hf2 := hL.f2
  have hGI := hL.bi.lt
  have hs1 : u1.heap.size = u.heap.size + 1 := by rw [hu, World.size_setCell, World.size_alloc]
  -- what is not at the end lies as it lay
  have old : ∀ {t : TypeId} {x : Nat} {cs : Array Value}, Bk u x t cs → x ≠ eb → x ≠ GI → Bk u2 x t cs := by
    intro t x cs hb hne hnI
    have h1 : Bk u1 x t cs := by rw [hu]; exact (hb.alloc _).far (p := ⟨eb, eo, none⟩) hne _
    exact (hu2 x hnI h1.lt).trans h1
  have new : Bk u2 u.heap.size 64 (linkA l P e e' none) := by
    have h1 : Bk u1 u.heap.size 64 (linkA l P e e' none) := by rw [hu]; exact (Bk.new u _ _).far (p := ⟨eb, eo, none⟩) (by show u.heap.size ≠ eb; omega) _
    exact (hu2 _ (by omega) h1.lt).trans h1
  have hlt : ∀ (j x : Nat), gs[j]? = some x → x < u.heap.size := by
    intro j x hx
    have hjl : ls[j]? = some (ls[j]'(by rw [← hL.ch.len]; exact (List.getElem?_eq_some_iff.1 hx).1)) := List.getElem?_eq_getElem _
    obtain ⟨_, _, _, _, _, h3, _⟩ := hL.ch.node _ _ _ hx hjl
    exact h3.lt
  refine ⟨old hL.bm (by omega) (by omega), ?_, hi, ⟨by simp [hL.ch.len], ?_, ?_, ?_⟩, hf1, hf2⟩
  · -- the first
    by_cases hg : gs = []
    · subst hg
      cases he
      have h1 : Bk u1 GF 56 #[.pointer (some ⟨u.heap.size, 0, none⟩)] := by
        rw [hu]
        have := (hL.bf.alloc (.cells (linkA l P e e' none) 64)).set 0 (.pointer (some ⟨u.heap.size, 0, none⟩))
        simpa using this
      exact (hu2 GF (by omega) h1.lt).trans h1
    · have hp : ptrAt (gs ++ [u.heap.size]) 0 = ptrAt gs 0 := by
        unfold ptrAt; rw [List.getElem?_append_left (List.length_pos_iff.2 hg)]
      rw [hp]
      refine old hL.bf ?_ (by omega)
      unfold endAt at he
      rcases hl : gs.getLast? with _ | g
      · exact absurd (List.getLast?_eq_none_iff.1 hl) hg
      · rw [hl] at he
        cases he
        have hj : gs[gs.length - 1]? = some eb := by rw [← List.getLast?_eq_getElem?]; exact hl
        have hlo := hL.ch.lo _ _ hj
        omega
  · intro j x l' hx hl'
    by_cases hj : j < gs.length
    · rw [List.getElem?_append_left hj] at hx
      rw [List.getElem?_append_left (by rw [← hL.ch.len]; exact hj)] at hl'
      obtain ⟨P', a, b, h1, h2, h3, h4⟩ := hL.ch.node j x l' hx hl'
      have hlo := hL.ch.lo _ _ hx
      refine ⟨P', a, b, by rw [List.getElem?_append_left (by rw [hss, ← hL.ch.len]; omega)]; exact h1, by rw [List.getElem?_append_left (by rw [hss, ← hL.ch.len]; omega)]; exact h2, ?_, h4⟩
      by_cases hj1 : j + 1 < gs.length
      · have hp : ptrAt (gs ++ [u.heap.size]) (j + 1) = ptrAt gs (j + 1) := by unfold ptrAt; rw [List.getElem?_append_left hj1]
        rw [hp]
        refine old h3 ?_ (by omega)
        have hgl : gs.getLast? = some (gs[gs.length - 1]'(by omega)) := by rw [List.getLast?_eq_getElem?]; exact List.getElem?_eq_getElem _
        unfold endAt at he
        rw [hgl] at he
        have heb : gs[gs.length - 1]'(by omega) = eb := congrArg Prod.fst he
        have := hL.ch.inc j (gs.length - 1) x _ (by omega) hx (List.getElem?_eq_getElem (by omega))
        omega
      · have hjl : j = gs.length - 1 := by omega
        have hgl : gs.getLast? = some x := by rw [List.getLast?_eq_getElem?, ← hjl]; exact hx
        unfold endAt at he
        rw [hgl] at he
        obtain rfl : eo = 15 := (congrArg Prod.snd he).symm
        have hxe : eb = x := (congrArg Prod.fst he).symm
        rw [hxe] at hu
        have hp0 : ptrAt gs (j + 1) = none := by unfold ptrAt; rw [List.getElem?_eq_none (by omega)]; rfl
        have hp1 : ptrAt (gs ++ [u.heap.size]) (j + 1) = some ⟨u.heap.size, 0, none⟩ := by unfold ptrAt; rw [show j + 1 = gs.length by omega, List.getElem?_append_right (Nat.le_refl _)]; simp
        rw [hp1]
        rw [hp0] at h3
        have h5 : Bk u1 x 64 (linkA l' P' a b (some ⟨u.heap.size, 0, none⟩)) := by
          rw [hu]
          have := (h3.alloc (.cells (linkA l P e e' none) 64)).set 15 (.pointer (some ⟨u.heap.size, 0, none⟩))
          simpa [linkA] using this
        exact (hu2 x (by omega) h5.lt).trans h5
    · have hjl : j = gs.length := by have := (List.getElem?_eq_some_iff.1 hx).1; simp at this; omega
      subst hjl
      rw [List.getElem?_append_right (Nat.le_refl _)] at hx
      rw [hL.ch.len, List.getElem?_append_right (Nat.le_refl _)] at hl'
      simp at hx hl'
      subst hx hl'
      have hp : ptrAt (gs ++ [u.heap.size]) (gs.length + 1) = none := by unfold ptrAt; rw [List.getElem?_eq_none (by simp)]; rfl
      rw [hp]
      refine ⟨P, e, e', ?_, ?_, new, hy⟩
      · rw [hL.ch.len, List.getElem?_append_left (by omega)]; exact hse
      · rw [hL.ch.len, ← hss, List.getElem?_append_right (Nat.le_refl _)]; simp
  · intro j x hx
    by_cases hj : j < gs.length
    · rw [List.getElem?_append_left hj] at hx
      exact hL.ch.lo j x hx
    · have hjl : j = gs.length := by have := (List.getElem?_eq_some_iff.1 hx).1; simp at this; omega
      subst hjl
      rw [List.getElem?_append_right (Nat.le_refl _)] at hx
      simp at hx
      omega
  · intro i j x y hij hx hy'
    by_cases hj : j < gs.length
    · rw [List.getElem?_append_left (by omega)] at hx
      rw [List.getElem?_append_left hj] at hy'
      exact hL.ch.inc i j x y hij hx hy'
    · have hjl : j = gs.length := by have := (List.getElem?_eq_some_iff.1 hy').1; simp at this; omega
      subst hjl
      rw [List.getElem?_append_right (Nat.le_refl _)] at hy'
      rw [List.getElem?_append_left hij] at hx
      simp at hy'
      have := hlt i x hx
      omega
end
end Qt
end Go.Proofs.Ytklefnmhknlilaa
