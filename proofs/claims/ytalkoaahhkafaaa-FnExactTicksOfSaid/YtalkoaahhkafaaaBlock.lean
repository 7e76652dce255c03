/- What blockOf of the program gives when it is called with a tensor: a block that holds the same numbers, of eight bits each, where the tensor is right; else nothing. Conditions: the slice reads as the list that is named. -/
import Derived.Test.YtalkoaahhkafaaaTenOk
import Derived.StillTailTactics
import Derived.Handy
import Derived.Deep.AppendLies
import Derived.Deep.RegionLaw
namespace Go.Proofs.Ytalkoaahhkafaaa
open Go.RowKit Go.Sort
namespace Qt

/-- The slice at A of n elements, of eight bits each, reads as xs. -/
def RdS (w : World) (A : Option Addr) (n : Nat) (xs : List Int) : Prop :=
  xs.length = n ∧ (0 < n → ∃ b off, A = some ⟨b, off, none⟩ ∧ b < w.heap.size ∧ ∀ j, j < n → w.cell? ⟨b, off + j, none⟩ = some (.int .i8 (xs.getD j 0)))
theorem RdS.of_below {w w' : World} {A : Option Addr} {n : Nat} {xs : List Int} (h : RdS w A n xs) (hb : Below w.heap.size w w') : RdS w' A n xs :=
  ⟨h.1, fun hn => by
    obtain ⟨b, off, e, hlt, hc⟩ := h.2 hn
    exact ⟨b, off, e, Nat.lt_of_lt_of_le hlt hb.size, fun j hj => (hb.cell (p := ⟨b, off + j, none⟩) hlt).trans (hc j hj)⟩⟩
theorem RdS.far {w : World} {b n : Nat} {xs : List Int} (h : RdS w (some ⟨b, 0, none⟩) n xs) {p : Addr} (hp : b ≠ p.block) (u : Value) : RdS (w.setCell p u) (some ⟨b, 0, none⟩) n xs :=
  ⟨h.1, fun hn => by
    obtain ⟨b', off, e, hlt, hc⟩ := h.2 hn
    cases e
    exact ⟨b, 0, rfl, by rw [World.size_setCell]; exact hlt, fun j hj => (World.cell?_setCell_other _ _ _ _ (fun e => hp (by subst e; rfl))).trans (hc j hj)⟩⟩
theorem RdS.far4 {w : World} {g n : Nat} {xs : List Int} (h : RdS w (some ⟨g, 0, none⟩) n xs) {b : Nat} (hb : g ≠ b) (x y z u : Value) : RdS ((((w.setCell ⟨b, 0, none⟩ x).setCell ⟨b, 1, none⟩ y).setCell ⟨b, 2, none⟩ z).setCell ⟨b, 3, none⟩ u) (some ⟨g, 0, none⟩) n xs :=
  (((h.far (p := ⟨b, 0, none⟩) hb x).far (p := ⟨b, 1, none⟩) hb y).far (p := ⟨b, 2, none⟩) hb z).far (p := ⟨b, 3, none⟩) hb u
theorem RdS.of_own {w : World} {base c e n : Nat} {A : Option Addr} {xs : List Int} (h : w.ownsRow base e 1 (.slice A n c) n (xs.map (Value.int .i8))) : RdS w A n xs := by
  refine ⟨by simpa using h.1, fun hn => ?_⟩
  rcases h.2 with ⟨_, h0⟩ | ⟨g, cap, cur, hv, _, hg, _⟩
  · omega
  · injection hv with hA _ hc
    subst hA hc
    refine ⟨g, 0, rfl, (Array.getElem?_eq_some_iff.1 hg).1, fun j hj => ?_⟩
    have := h.cellAt j (by omega)
    have hl : j < xs.length := by have := h.1; simp at this; omega
    rw [Nat.zero_add, this]; simp [List.getD_eq_getElem?_getD, hl]

/-- A new block that holds these numbers. -/
def NewB (W : World) (h w c : Int) (n : Nat) (xs : List Int) (e : Ending) (W' : World) : Prop :=
  ∃ g cap, e = .returned (.tuple #[.agg #[.int .i64 h, .int .i64 w, .int .i64 c, .slice (some ⟨g, 0, none⟩) n cap], .bool true]) ∧ W.heap.size ≤ g ∧ RdS W' (some ⟨g, 0, none⟩) n xs ∧ Below W.heap.size W W'
def NoB (W : World) (e : Ending) (W' : World) : Prop :=
  e = .returned (.tuple #[.agg #[.int .i64 0, .int .i64 0, .int .i64 0, .slice none 0 0], .bool false]) ∧ Below W.heap.size W W'

theorem own_set {w : World} {base e g k c : Nat} {vs : List Value} (h : w.ownsRow base e 1 (.slice (some ⟨g, 0, none⟩) k c) k vs) {b : Nat} (hb : g ≠ b) (i : Nat) (u : Value) :
    (w.setCell ⟨b, i, none⟩ u).ownsRow base e 1 (.slice (some ⟨g, 0, none⟩) k c) k vs := by
  have hh : (w.setCell ⟨b, i, none⟩ u).heap[g]? = w.heap[g]? := Below.heap_setCell w ⟨b, i, none⟩ u g hb
  refine ⟨h.1, ?_⟩
  rcases h.2 with ⟨h0, h1⟩ | ⟨g', cap, cur, hv, h1, hg, h2, h3⟩
  · exact .inl ⟨h0, h1⟩
  · have hv' := hv
    injection hv' with e1 e2 e3
    injection e1 with e1
    injection e1 with e1 _ _
    subst e1
    exact .inr ⟨g, cap, cur, hv, h1, hh.trans hg, h2, h3⟩
theorem take_snoc8 (xs : List Int) (k : Nat) (hl : k < xs.length) {y : Int} (hy : y = xs[k]?.getD 0) : (xs.take k).map (Value.int .i8) ++ [.int .i8 y] = (xs.take (k + 1)).map (Value.int .i8) := by
  subst hy
  rw [List.take_succ_eq_append_getElem hl, List.map_append]
  simp only [List.map_cons, List.map_nil, List.getElem?_eq_getElem hl, Option.getD_some]
def BlkC (W : World) (h w c : Int) (n : Nat) (xs : List Int) (b : Bool) (e : Ending) (W' : World) : Prop :=
  (b = true → NewB W h w c n xs e W') ∧ (b = false → NoB W e W')
theorem flipW {P : Program} {f : FuncId} {args : Array Value} {w : World} {v : Value} (h : Calls P f args w fun e w' => e = .returned v ∧ w = w') : Calls P f args w fun e w' => e = .returned v ∧ w' = w :=
  h.mono fun _ _ ⟨he, hm⟩ => ⟨he, hm.symm⟩
theorem sat8_fit {x : Int} : (sat8 x != x) = !(fit8 x) := by
  unfold sat8 clamp fit8
  by_cases h1 : x < -128
  · have : ¬ (-128 ≤ x ∧ x ≤ 127) := by omega
    simp [h1, this]; omega
  · by_cases h2 : 127 < x
    · have : ¬ (-128 ≤ x ∧ x ≤ 127) := by omega
      simp [h1, h2, this]; omega
    · have : -128 ≤ x ∧ x ≤ 127 := by omega
      simp [h1, h2, this]

theorem blkGrow {W wr w5 : World} {base g4 g2 k T t4 t2 : Nat} {V : Value} {vs : List Value} {c4 c2 : Array Value} {o : Obj} (hO : wr.ownsRow base T 1 V k vs) (h4 : Bk wr g4 t4 c4) (h2 : Bk wr g2 t2 c2)
    (hb : Below W.heap.size W wr) (hbs : base ≤ wr.heap.size) (l4 : g4 < base) (l2 : g2 < base) (hW : W.heap.size ≤ base) (hgrow : (wr.alloc o).drew.grownBy w5 V.ownBlock) :
    Bk w5 g4 t4 c4 ∧ Bk w5 g2 t2 c2 ∧ Below W.heap.size W w5 ∧ base ≤ w5.heap.size := by
  have hB5 : Below base wr w5 := (((Below.refl base wr).alloc hbs _).drew).grown hgrow (by simp; omega) (fun r hr => (hO.lt r hr).1)
  exact ⟨h4.belowN hB5 l4, h2.belowN hB5 l2, hb.trans (hB5.mono hW), Nat.le_trans hbs hB5.size⟩

end Qt
end Go.Proofs.Ytalkoaahhkafaaa
