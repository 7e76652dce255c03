/- A range over a function that is a method's value (the receiver stands ahead of yield): what the caller owes, where the body never leaves the loop; and the method that hands on a block's items one after the other. Conditions: the items read as the list that is named. -/
import Derived.Test.YtebldedmkpdgcaaBlock
import Derived.RangeFuncNested
import Derived.RangeFuncBound
import Derived.RangeFuncCalls
import Derived.RangeFuncLeaves
import Derived.Shelf.Abstract
import Derived.Shelf.RegionOpen
import Derived.OwnWalkIn
import Derived.TacticsInMore
import Derived.LoopNIn
import Derived.LoopIn
namespace Go.Proofs.Ytebldedmkpdgcaa
open Go.RowKit Go.Shelf Go.Sort
namespace Qt
attribute [local go_sem] Oper.semAt_some

/-- How a round's body ends: it goes on; the loop's own two blocks, and what lay below n0, lie as they lay. -/
def GoesOn (B n0 : Nat) (I : Nat → World → Prop) (k : Nat) (W : World) : Exit → Act → World → Prop
  | .normal, _, W' => KeepsFrom B W W' ∧ Below n0 W W' ∧ I (k + 1) W'
  | .ret, _, _ => False
  | .exit _, _, _ => False
  | .goto _, _, _ => False
  | .panic _, _, _ => False
  | .outgrown, _, _ => False

/-- What a method's value gives as an iterator: N rounds, the k-th with 'enc k', then it returns; for whatever loop body keeps what lay below n0. -/
def Gives (F : Fence) (n : Nat) (P : Program) (gf : Nat) (recv : Value) (enc : Nat → Array Value) (N n0 : Nat) (w : World) : Prop :=
  ∀ (l : Nat) (J : Nat → World → Prop) (W : World), Below w.heap.size w W → AbidesFrom W.heap.size J →
    (∀ k W1, k < N → J k W1 → YieldAt F (n - 1) P l (enc k) W1 fun e W' => e = .returned (.bool true) ∧ J (k + 1) W' ∧ Below n0 W1 W') →
    J 0 W → CallsIn F n P gf #[recv, .func (.yield l) #[] #[]] W fun e W' => (∃ v, e = .returned v) ∧ J N W'

theorem wpIn_rangeMethod {F : Fence} {n : Nat} {P : Program} {g : Operand} {ps : Array Tmp} {assign body : Code} {Q : Exit → Act → World → Prop} {a : Act} {w : World}
    (hro : F.round = none) (h1 : 1 ≤ n) {gf : Nat} {recv : Value} (hg : a.eval g = .func (.func gf) #[recv] #[]) (hFg : F.fn gf) (eg : ∀ args w, (callFunc gf args).run P w = .ok (.enter gf args) w)
    {enc : Nat → Array Value} {N n0 : Nat} (hn0 : n0 ≤ w.heap.size) (hseq : Gives F (n - 1) P gf recv enc N n0 w) (hps : ∀ k, (enc k).size = ps.size)
    (I : Nat → World → Prop) (hI : OwnFrom w.heap.size I) (h0 : I 0 w) (a₁ : Nat → Act)
    (hassign : ∀ (l k : Nat) (W : World) (K : Act → World → Prop), K (a₁ k) W →
      assign.wpIn (F.inRound l) (n - 1 - 1) P (Exit.then K (fun _ _ _ => False)) { tmps := (ps.zip (enc k)).foldl (fun t (p, v) => t.setIfInBounds p v) a.tmps, defers := [] } W)
    (hbody : ∀ (l k : Nat) (W : World), I k W → k < N → body.wpIn (F.inRound l) (n - 1 - 1) P (GoesOn w.heap.size n0 I k W) (a₁ k) W)
    (hdone : ∀ (D : Nat) (W : World), w.heap.size ≤ D → I N W → W.heap[D]? = some (.deferred (some [])) → Q .normal { a with defers := { target := .collected D, args := #[] } :: a.defers } W) :
    (Code.rangeFunc g ps assign body).wpIn F n P Q a w := by
  refine wpIn_rangeFunc ?_
  intro fn hfn
  rw [hro]
  obtain ⟨rec, hrec⟩ : ∃ rec : LoopState → Loop, rec = fun st => { state := st, pending := none, fn, tmps := a.tmps, params := ps, assign, body, defers := w.heap.size } := ⟨_, rfl⟩
  obtain ⟨L, hL⟩ : ∃ L, L = w.heap.size + 1 := ⟨_, rfl⟩
  obtain ⟨V, hV⟩ : ∃ V, V = (w.alloc (.deferred (some []))).alloc (.loop (rec .ready)) := ⟨_, rfl⟩
  have hVL : V.heap[L]? = some (.loop (rec .ready)) := by
    have := World.alloc_heap_new (w.alloc (.deferred (some []))) (.loop (rec .ready))
    rw [World.size_alloc] at this
    rw [hV, hL]; exact this
  have hVD : V.heap[w.heap.size]? = some (.deferred (some [])) := by
    rw [hV]; exact (Below.heap_alloc _ _ _ (by simp)).trans (World.alloc_heap_new w _)
  have hVI : I 0 V := by rw [hV]; exact hI.alloc _ (hI.alloc _ h0)
  have hVB : Below w.heap.size w V := by rw [hV]; exact ((Below.refl _ w).alloc (Nat.le_refl _) _).alloc (by simp) _
  refine ⟨L, [{ target := .collected w.heap.size, args := #[] }], V, { target := .fn (.func gf) #[], args := #[recv, .func (.yield L) #[] #[]] }, V, gf, #[recv, .func (.yield L) #[] #[]], V, ?_, ?_, ?_, ?_, fun _ => h1, ?_⟩
  · rw [hV, hL, hrec]; exact run_enterLoop_outer _ _ _ _ _
  · simp only [resolve, hg]
    simp [go_sem]
  · intro f' hf'; simp [Target.leads] at hf'; subst hf'; exact hFg
  · simp [invoke, eg]
  · have turn : ∀ {k : Nat} {W : World} {o o' : Obj}, I k W → W.heap[L]? = some o → o.isCells = false → I k (W.putObj L o') := fun h hl ho => hI.putObj _ h (by omega) hl ho
    refine (hseq L (fun k W => I k W ∧ W.heap[L]? = some (.loop (rec .ready)) ∧ W.heap[w.heap.size]? = some (.deferred (some []))) V hVB ?_ ?_ ⟨hVI, hVL, hVD⟩).mono ?_
    · -- what the iterator does of its own leaves the invariant
      intro k A B row hs hgr hr
      have hr' : ∀ r, row = some r → w.heap.size ≤ r ∧ ∃ o : Obj, A.heap[r]? = some o ∧ o.isCells = false := fun r e => by
        obtain ⟨hB, o, ho, hw⟩ := hr r e
        exact ⟨Nat.le_trans hVB.size hB, o, ho, Obj.not_cells_of_walk hw⟩
      exact ⟨hI k A B row hs.1 hgr hr', (grownBy_keeps hgr (fun r e => (hr r e).2) hs.2.1 rfl).trans hs.2.1, (grownBy_keeps hgr (fun r e => (hr r e).2) hs.2.2 rfl).trans hs.2.2⟩
    · -- one round
      rintro k W hk ⟨hi, hl, hd⟩
      have hlt : L < W.heap.size := (Array.getElem?_eq_some_iff.1 hl).1
      have hy := run_yield (P := P) (args := enc k) hl (by rw [hrec]; exact hps k)
      rw [hrec] at hy
      refine ⟨fn, _, assign, body, hy, roundIn_of_wpIn hfn (hassign _ k W _ ⟨_, run_beginRound hl (by rw [hrec]), ?_⟩)⟩
      have hb1 : Below n0 W (W.putObj L (.loop { rec .ready with state := .busy })) := belowK_b hn0 W L _ _ (by omega) hl rfl rfl
      have hl2 : (W.putObj L (.loop { rec .ready with state := .busy })).heap[L]? = some (.loop { rec .ready with state := .busy }) := World.putObj_heap_same hlt
      have hd2 : (W.putObj L (.loop { rec .ready with state := .busy })).heap[w.heap.size]? = some (.deferred (some [])) := (World.putObj_heap_other (by omega)).trans hd
      refine wpIn_mono (hbody _ k _ (turn hi hl rfl) hk) ?_
      rintro e a3 W3 hp
      cases e with
      | normal =>
        obtain ⟨hk3, hb3, hi3⟩ := hp
        have hl3 := hk3.same _ _ (by omega) hl2 rfl
        have hd3 := hk3.same _ _ (Nat.le_refl _) hd2 rfl
        have hr := run_endRound (P := P) none hl3
        have hl4 : (W3.putObj L (.loop (rec .ready))).heap[L]? = some (.loop (rec .ready)) := World.putObj_heap_same (Array.getElem?_eq_some_iff.1 hl3).1
        have hd4 : (W3.putObj L (.loop (rec .ready))).heap[w.heap.size]? = some (.deferred (some [])) := (World.putObj_heap_other (by omega)).trans hd3
        have hi4 : I (k + 1) (W3.putObj L (.loop (rec .ready))) := turn hi3 hl3 rfl
        have hb4 : Below n0 W (W3.putObj L (.loop (rec .ready))) := (hb1.trans hb3).trans (belowK_b hn0 W3 L _ _ (by omega) hl3 rfl rfl)
        have he : (Instr.endRound L none).run P W3 = .ok (.bool true) (W3.putObj L (.loop (rec .ready))) := by rw [hrec] at hr ⊢; exact hr
        exact ⟨_, _, he, rfl, ⟨hi4, hl4, hd4⟩, hb4⟩
      | ret => exact hp.elim
      | exit id => exact hp.elim
      | goto t => exact hp.elim
      | panic ch => exact hp.elim
      | outgrown => exact hp.elim
    · -- behind the iterator
      rintro e W2 ⟨⟨v, rfl⟩, hi, hl, hd⟩
      exact ⟨none, _, by have := run_endLoop (P := P) hl (by rw [hrec]; simp); rw [hrec] at this; exact this, hdone _ _ (Nat.le_refl _) (turn hi hl rfl) ((World.putObj_heap_other (by omega)).trans hd)⟩

/-- block.walk: the items one after the other, each with its place. -/
theorem walk_gives (F : Fence) (n : Nat) (hF : F.fn 104) (hro : F.round = none) (hn : 1 ≤ n) (h w c : Int) (A : Option Addr) (N p n0 : Nat) (xs : List Int) (w0 : World) (hr : RdS w0 A N xs) (hlt : ∀ b off, A = some ⟨b, off, none⟩ → b < n0) (hn0 : n0 ≤ w0.heap.size) (hN : N ≤ 1048576) :
    Gives F n Try.prog 104 (.agg #[.int .i64 h, .int .i64 w, .int .i64 c, .slice A N p]) (fun k => #[.int .i64 (k : Int), .int .i8 (xs[k]?.getD 0)]) N n0 w0 := by
  intro l J W hW hJ hY h0
  have HR := Lib.hid (hr.of_below hW)
  have HLT := Lib.hid hlt
  have hN0 : (0 : Int) ≤ N := Int.natCast_nonneg N
  have hN1 : (N : Int) ≤ 1048576 := by omega
  have ha : J 0 (W.alloc (.cells #[.int .i64 h, .int .i64 w, .int .i64 c, .slice A N p] 129)) := hJ 0 W _ none h0 (World.grownBy_alloc W _ none) (fun r e => by cases e)
  have HNW := Lib.hid (show n0 ≤ W.heap.size from Nat.le_trans hn0 hW.size)
  clear hr hlt hn0
  refine callsIn_of_wp Try.func104 rfl hF ?_ hro
  simp only [Try.ntmps104, List.size_toArray, List.length_cons, List.length_nil, Nat.reduceAdd, Nat.reduceSub, Array.replicate_succ, Array.replicate_zero, List.push_toArray, List.append_toArray, List.nil_append, List.cons_append]
  gi_wp2
  have hb0 : Below n0 W (W.alloc (.cells #[.int .i64 h, .int .i64 w, .int .i64 c, .slice A N p] 129)) := (Below.refl n0 W).alloc HNW.out _
  gi_loopw [9] (fun i wr => ∃ k : Nat, k ≤ N ∧ i = .int .i64 k ∧ J k wr ∧ Below n0 W wr) (fun i _ => N - (intOf i).toNat)
  case atStart => exact ⟨0, Nat.zero_le _, rfl, ha, hb0⟩
  case round =>
    obtain ⟨k, hk, rfl, hJs, hnx⟩ := hrel
    by_cases hlt : k < N
    · obtain ⟨b, off, rfl, hbl, hcell⟩ := HR.out.2 (by omega)
      have hcx : wr.cell? ⟨b, off + k, none⟩ = some (.int .i8 (xs[k]?.getD 0)) := (hnx.cell (p := ⟨b, off + k, none⟩) (HLT.out b off rfl)).trans (by simpa [List.getD_eq_getElem?_getD] using hcell k hlt)
      obtain ⟨fn, tmps, assign, body, hy, hR⟩ := hY k wr hlt hJs
      have hi : (k : Int) < (N : Int) := by omega
      clear hcell hbl
      gi_wp2
      refine hR.mono ?_
      rintro e W3 ⟨rfl, hJ3, hk3⟩
      gi_wp2
      go_roundw
      case rel => exact ⟨k + 1, by omega, by simp, hJ3, hnx.trans hk3⟩
      case measure => simp [intOf]; omega
    · obtain rfl : k = N := by omega
      gi_wp2
      go_end0
      exact ⟨⟨_, rfl⟩, hJs⟩
end Qt
end Go.Proofs.Ytebldedmkpdgcaa
