/- What it is that the numbers of an answer, whose places are listed, have been written over by counting on, and nothing else; that they can be, and that they stand so. The laws' helpers markIntS and heldIntS in these words. Conditions: the places are places of ints that may be written. -/
import Derived.Test.YtihnpfcjnfkfjaaQTouch
namespace Go.Proofs.Ytihnpfcjnfkfjaa
open Go.RowKit Go.Sort
set_option linter.unusedSimpArgs false
set_option linter.unusedVariables false
namespace Qt
/-- The place of a number (of its kind; none: of a Bool). -/
abbrev Leaf := Addr × Option IntKind
def lfV : Option IntKind → Int → Value
  | some .u8, x => .int .u8 (IntKind.u8.wrap x)
  | some k, x => .int k x
  | none, x => .bool (x % 3 == 0)
def lfIs (o : Option IntKind) (v : Value) : Prop := match o with
  | some k => ∃ y, v = .int k y
  | none => ∃ q, v = .bool q
theorem lfV_i64 (x : Int) : lfV (some .i64) x = .int .i64 x := rfl
theorem lfIs_val (o : Option IntKind) (x : Int) : lfIs o (lfV o x) := by
  cases o with
  | none => exact ⟨_, rfl⟩
  | some k => cases k <;> exact ⟨_, rfl⟩
theorem lfIs_slice {o : Option IntKind} {A : Option Addr} {n c : Nat} (h : lfIs o (.slice A n c)) : False := by
  cases o with
  | none => obtain ⟨_, h⟩ := h; cases h
  | some k => obtain ⟨_, h⟩ := h; cases h
structure Marks (L : List Leaf) (x : Int) (w w' : World) : Prop where
  os : w'.os = w.os
  tape : w'.tape = w.tape
  output : w'.output = w.output
  size : w.heap.size ≤ w'.heap.size
  cells : ∀ p v, w.cell? p = some v → (∀ l ∈ L, l.1 ≠ p) → w'.cell? p = some v
  set : ∀ (i : Nat) (l : Leaf), L[i]? = some l → w'.cell? l.1 = some (lfV l.2 (x + i))
  fr : ∀ p, p.block < w.heap.size → w'.frozen? p = w.frozen? p
  block : ∀ b, b < w.heap.size → (∀ l ∈ L, l.1.block ≠ b) → w'.heap[b]? = w.heap[b]?
/-- The places hold numbers of their kinds that may be written. -/
def Liv (L : List Leaf) (w : World) : Prop := ∀ l ∈ L, (∃ v, w.cell? l.1 = some v ∧ lfIs l.2 v) ∧ w.frozen? l.1 = false
/-- The places hold x and the numbers that follow. -/
def IsSet (L : List Leaf) (x : Int) (w : World) : Prop := ∀ (i : Nat) (l : Leaf), L[i]? = some l → w.cell? l.1 = some (lfV l.2 (x + i))
def Apart (L : List Leaf) : Prop := L.Pairwise (fun a b => a.1 ≠ b.1)
section
variable {L L1 L2 : List Leaf} {x : Int} {w w1 w' : World}
theorem Marks.of_below (hb : Below w.heap.size w w') : Marks [] x w w' :=
  ⟨hb.os, hb.tape, hb.output, hb.size, fun p v h _ => (hb.cell (World.block_lt_of_cell? w p h)).trans h, fun i l h => by simp at h, fun p hp => hb.frozen hp, fun b hb' _ => hb.block b hb'⟩
theorem Marks.refl (x : Int) (w : World) : Marks [] x w w := Marks.of_below (Below.refl _ _)
theorem Marks.trans (h1 : Marks L1 x w w1) (h2 : Marks L2 (x + L1.length) w1 w') (hd : ∀ a ∈ L1, ∀ b ∈ L2, a.1 ≠ b.1) : Marks (L1 ++ L2) x w w' := by
  refine ⟨h2.os.trans h1.os, h2.tape.trans h1.tape, h2.output.trans h1.output, Nat.le_trans h1.size h2.size, fun p v hp hn => ?_, fun i l hl => ?_, fun p hp => (h2.fr p (Nat.lt_of_lt_of_le hp h1.size)).trans (h1.fr p hp), fun b hb hn => ?_⟩
  · exact h2.cells p v (h1.cells p v hp (fun l hl => hn l (List.mem_append_left _ hl))) (fun l hl => hn l (List.mem_append_right _ hl))
  · by_cases hi : i < L1.length
    · rw [List.getElem?_append_left hi] at hl
      exact h2.cells _ _ (h1.set i l hl) (fun b hb => Ne.symm (hd l (List.mem_of_getElem? hl) b hb))
    · rw [List.getElem?_append_right (by omega)] at hl
      have := h2.set _ l hl
      rw [this]
      congr 2
      omega
  · exact (h2.block b (Nat.lt_of_lt_of_le hb h1.size) (fun l hl => hn l (List.mem_append_right _ hl))).trans (h1.block b hb (fun l hl => hn l (List.mem_append_left _ hl)))
theorem Marks.then (h1 : Marks L x w w1) (hb : Below w1.heap.size w1 w') : Marks L x w w' := by
  have := h1.trans (Marks.of_below (x := x + L.length) hb) (fun _ _ b hb => by simp at hb)
  simpa using this
theorem Marks.ahead (hb : Below w.heap.size w w1) (h1 : Marks L x w1 w') : Marks L x w w' := by
  have := (Marks.of_below (x := x) hb).trans (by simpa using h1) (fun a ha => by simp at ha)
  simpa using this
theorem Marks.one {a : Addr} {o : Option IntKind} {v : Value} (hv : w.cell? a = some v) (x : Int) : Marks [(a, o)] x w (w.setCell a (lfV o x)) := by
  refine ⟨rfl, rfl, rfl, by simp, fun p u hp hn => ?_, fun i l hl => ?_, fun p _ => World.frozen?_setCell _ _ _ _, fun b hb hn => ?_⟩
  · exact (World.cell?_setCell_other _ _ _ _ (hn _ List.mem_cons_self)).trans hp
  · match i, hl with
    | 0, hl =>
      simp at hl
      subst hl
      rw [World.cell?_setCell_same' _ _ _ (by rw [hv]; rfl)]
      simp
  · exact Below.heap_setCell _ a _ b (fun e => hn _ List.mem_cons_self e.symm)
theorem Marks.next {a : Addr} {v : Value} (h : Marks L x w w1) (hv : w1.cell? a = some v) (hd : ∀ b ∈ L, b.1 ≠ a) (K : Int) (hK : K = x + L.length) : Marks (L ++ [(a, some .i64)]) x w (w1.setCell a (.int .i64 K)) := by
  subst hK
  exact h.trans (Marks.one (o := some .i64) hv _) (fun b hb c hc => by
    simp at hc
    subst hc
    exact hd b hb)
theorem Marks.touch {B C : Nat} (h : Marks L x w w') (hB : ∀ l ∈ L, B ≤ l.1.block ∧ l.1.block < C) : Touch B C w w' :=
  ⟨h.os, h.tape, h.output, h.size, fun k hk hc => h.block k hk (fun l hl e => by have := hB l hl; omega)⟩
theorem Marks.liv (h : Marks L1 x w w') (hl : Liv L w) (hl1 : Liv L1 w) : Liv L w' := fun l hm => by
  obtain ⟨⟨v, hv, hk⟩, hf⟩ := hl l hm
  refine ⟨?_, (h.fr _ (World.block_lt_of_cell? w _ hv)).trans hf⟩
  by_cases e : ∃ b ∈ L1, b.1 = l.1
  · obtain ⟨b, hb, hbe⟩ := e
    obtain ⟨i, hi, e⟩ := List.getElem_of_mem hb
    have hs := h.set i b (by rw [List.getElem?_eq_getElem hi, e])
    rw [hbe] at hs
    obtain ⟨⟨v1, hv1, hk1⟩, _⟩ := hl1 b hb
    rw [hbe, hv] at hv1
    cases hv1
    refine ⟨_, hs, ?_⟩
    have hkk : b.2 = l.2 := by
      rcases hb2 : b.2 with _ | k1 <;> rcases hl2 : l.2 with _ | k2 <;> rw [hb2] at hk1 <;> rw [hl2] at hk
      · obtain ⟨q, rfl⟩ := hk1; obtain ⟨y, h⟩ := hk; cases h
      · obtain ⟨q, rfl⟩ := hk1; obtain ⟨y, h⟩ := hk; cases h
      · obtain ⟨q, rfl⟩ := hk1; obtain ⟨y, h⟩ := hk; cases h; rfl
    rw [hkk]
    exact lfIs_val _ _
  · exact ⟨v, h.cells _ _ hv (fun b hb e' => e ⟨b, hb, e'⟩), hk⟩
theorem Liv.of_below (h : Liv L w) (hb : Below w.heap.size w w') : Liv L w' := fun l hm => by
  obtain ⟨⟨v, hv, hk⟩, hf⟩ := h l hm
  have hlt := World.block_lt_of_cell? w _ hv
  exact ⟨⟨v, (hb.cell hlt).trans hv, hk⟩, (hb.frozen hlt).trans hf⟩
theorem IsSet.of_below (h : IsSet L x w) (hb : Below w.heap.size w w') : IsSet L x w' := fun i l hl => (hb.cell (World.block_lt_of_cell? w _ (h i l hl))).trans (h i l hl)
theorem IsSet.of_below0 (h : IsSet L x w) (hb : Below w.heap.size w w') : IsSet L x w' := h.of_below hb
theorem Liv.lt (h : Liv L w) {l : Leaf} (hl : l ∈ L) : l.1.block < w.heap.size := by
  obtain ⟨⟨v, hv, _⟩, _⟩ := h l hl
  exact World.block_lt_of_cell? w _ hv
/-- A header is none of the places. -/
theorem Liv.no_slice (h : Liv L w) {p : Addr} {A : Option Addr} {n c : Nat} (hp : w.cell? p = some (.slice A n c)) : ∀ l ∈ L, l.1 ≠ p := fun l hl e => by
  obtain ⟨⟨v, hv, hk⟩, _⟩ := h l hl
  rw [e, hp] at hv
  cases hv
  exact lfIs_slice hk
theorem IsSet.left (h : IsSet (L1 ++ L2) x w) : IsSet L1 x w := fun i l hl => h i l (by
  rw [List.getElem?_append_left (List.getElem?_eq_some_iff.1 hl).1]; exact hl)
theorem IsSet.right (h : IsSet (L1 ++ L2) x w) : IsSet L2 (x + L1.length) w := fun i l hl => by
  have := h (L1.length + i) l (by rw [List.getElem?_append_right (by omega)]; simpa using hl)
  rw [this]
  congr 2
  omega
theorem Apart.of_append (h : Apart (L1 ++ L2)) : Apart L1 ∧ Apart L2 ∧ ∀ a ∈ L1, ∀ b ∈ L2, a.1 ≠ b.1 := List.pairwise_append.1 h
theorem Liv.left (h : Liv (L1 ++ L2) w) : Liv L1 w := fun l hl => h l (List.mem_append_left _ hl)
theorem Liv.right (h : Liv (L1 ++ L2) w) : Liv L2 w := fun l hl => h l (List.mem_append_right _ hl)
end
/-- The places of the n cells of a slice. -/
def sliL (k : Option IntKind) : Option Addr → Nat → List Leaf
  | none, _ => []
  | some a, n => (List.range n).map fun j => (⟨a.block, a.off + j, none⟩, k)
theorem sliL_some (k : Option IntKind) (b o n : Nat) : sliL k (some ⟨b, o, none⟩) n = (List.range n).map fun j => (⟨b, o + j, none⟩, k) := rfl
theorem sliL_get {k : Option IntKind} {b o n j : Nat} (h : j < n) : (sliL k (some ⟨b, o, none⟩) n)[j]? = some (⟨b, o + j, none⟩, k) := by
  rw [sliL_some, List.getElem?_map, List.getElem?_range h]; rfl
theorem sliL_len {k : Option IntKind} {A : Option Addr} {n : Nat} (hA : 0 < n → ∃ b o, A = some ⟨b, o, none⟩) : (sliL k A n).length = n := by
  rcases A with _ | a
  · have : n = 0 := by
      apply Classical.byContradiction
      intro h
      obtain ⟨_, _, e⟩ := hA (by omega)
      cases e
    simp [sliL, this]
  · simp [sliL]
theorem sliL_mem {k : Option IntKind} {b o n : Nat} {l : Leaf} (h : l ∈ sliL k (some ⟨b, o, none⟩) n) : ∃ j < n, l = (⟨b, o + j, none⟩, k) := by
  rw [sliL_some, List.mem_map] at h
  obtain ⟨j, hj, rfl⟩ := h
  exact ⟨j, List.mem_range.1 hj, rfl⟩
theorem sliL_snoc (k : Option IntKind) (b o n : Nat) : sliL k (some ⟨b, o, none⟩) (n + 1) = sliL k (some ⟨b, o, none⟩) n ++ [(⟨b, o + n, none⟩, k)] := by
  rw [sliL_some, sliL_some, List.range_succ, List.map_append]; rfl
theorem sliL_apart (k : Option IntKind) (A : Option Addr) (n : Nat) : Apart (sliL k A n) := by
  rcases A with _ | a
  · exact List.Pairwise.nil
  · unfold sliL Apart
    rw [List.pairwise_map]
    exact List.nodup_range.imp (fun h e => h (by injection e with _ e _; omega))
theorem Liv.of_ownI {B n : Nat} {w : World} {A : Option Addr} {xs : List Int} (h : OwnI B w A n xs) : Liv (sliL (some .i64) A n) w := fun l hl => by
  by_cases hn : 0 < n
  · obtain ⟨g, rfl, hB, hlt, hc⟩ := h.2 hn
    obtain ⟨j, hj, rfl⟩ := sliL_mem hl
    exact ⟨⟨_, by simpa using (hc j hj).1, _, rfl⟩, by simpa using (hc j hj).2⟩
  · obtain rfl : n = 0 := by omega
    rcases A with _ | a <;> simp [sliL] at hl
theorem markIntSM (A : Option Addr) (n p : Nat) (k : Int) (W : World) (hA : 0 < n → ∃ b o, A = some ⟨b, o, none⟩) (hr : Liv (sliL (some .i64) A n) W) (hn : n ≤ 10000000) (hk : 0 ≤ k) (hk2 : k ≤ 100000000) :
    Calls Try.prog 25 #[.slice A n p, .int .i64 k] W fun e W' => e = .returned (.int .i64 (k + n)) ∧ Marks (sliL (some .i64) A n) k W W' := by
  have hn1 : (n : Int) ≤ 10000000 := by omega
  have HA := Lib.hid hA
  have HL := Lib.hid hr
  obtain ⟨b, o, hbo⟩ : ∃ b o, 0 < n → A = some ⟨b, o, none⟩ := by
    by_cases h0 : 0 < n
    · obtain ⟨b, o, e⟩ := hA h0
      exact ⟨b, o, fun _ => e⟩
    · exact ⟨0, 0, fun h => absurd h h0⟩
  have HBO := Lib.hid hbo
  clear hr hA hbo
  go_enter Try.func25, Try.ntmps25
  go_wp2
  go_loopw [1, 5] (fun q x wr => ∃ i : Nat, i ≤ n ∧ x = .int .i64 i ∧ q = .int .i64 (k + (i : Nat)) ∧ Hid (Marks (sliL (some .i64) (some ⟨b, o, none⟩) i) k W wr)) (fun _ x _ => n - (intOf x).toNat)
  case atStart => exact ⟨0, Nat.zero_le _, rfl, by simp, Lib.hid (Marks.refl k W)⟩
  case round =>
    obtain ⟨i, hi, rfl, rfl, hm⟩ := hrel
    by_cases hlt : i < n
    · obtain rfl := HBO.out (by omega)
      have hall := HL.out
      have hli := hall _ (List.mem_of_getElem? (sliL_get (k := some .i64) (b := b) (o := o) hlt))
      obtain ⟨⟨v, hv, y, rfl⟩, hf⟩ := hli
      have hsub : Liv (sliL (some .i64) (some ⟨b, o, none⟩) i) W := fun l hl => by
        obtain ⟨j, hj, rfl⟩ := sliL_mem hl
        exact hall _ (List.mem_of_getElem? (sliL_get (k := some .i64) (b := b) (o := o) (by omega : j < n)))
      have hc1 := hm.out.cells _ _ hv (fun l hl e => by
        obtain ⟨j, hj, rfl⟩ := sliL_mem hl
        injection e with _ e _
        omega)
      have hf1 := (hm.out.fr _ (World.block_lt_of_cell? W _ hv)).trans hf
      simp only at hc1 hf1
      have hi2 : (i : Int) < (n : Int) := by omega
      have HM := Lib.hid (hm.out.trans (Marks.one (a := ⟨b, o + i, none⟩) (o := some .i64) hc1 (k + (sliL (some .i64) (some ⟨b, o, none⟩) i).length)) (fun a ha c hc e => by
        obtain ⟨j, hj, rfl⟩ := sliL_mem ha
        simp at hc
        subst hc
        injection e with _ e _
        omega))
      rw [← sliL_snoc, lfV_i64, sliL_len (fun _ => ⟨_, _, rfl⟩)] at HM
      clear hm hall hsub hv hf
      go_wp2
      go_roundw
      case rel => exact ⟨i + 1, by omega, by go_num, by go_num, HM⟩
      case measure => simp [intOf]; omega
    · obtain rfl : i = n := by omega
      have HM : Hid (Marks (sliL (some .i64) A i) k W wr) := by
        by_cases h0 : 0 < i
        · obtain rfl := HBO.out h0
          exact hm
        · obtain rfl : i = 0 := by omega
          have h2 := hm
          rcases A with _ | a <;> simpa [sliL] using h2
      clear hm
      go_wp2
      go_ret
      exact ⟨rfl, HM.out⟩
theorem heldIntSM (A : Option Addr) (n p : Nat) (k : Int) (W : World) (hA : 0 < n → ∃ b o, A = some ⟨b, o, none⟩) (hr : IsSet (sliL (some .i64) A n) k W) (hn : n ≤ 10000000) (hk : 0 ≤ k) (hk2 : k ≤ 100000000) :
    Calls Try.prog 26 #[.slice A n p, .int .i64 k] W fun e W' => e = .returned (.int .i64 (k + (n : Nat))) ∧ Below W.heap.size W W' := by
  have hn1 : (n : Int) ≤ 10000000 := by omega
  have HO := Lib.hid hr
  have HA := Lib.hid hA
  clear hr hA
  go_enter Try.func26, Try.ntmps26
  go_wp2
  go_loopw [1, 5] (fun q x wr => ∃ i : Nat, i ≤ n ∧ x = .int .i64 i ∧ q = .int .i64 (k + (i : Nat)) ∧ ∃ m, wr = W.drewN m) (fun _ x _ => n - (intOf x).toNat)
  case atStart => exact ⟨0, Nat.zero_le _, rfl, by simp, 0, rfl⟩
  case round =>
    obtain ⟨i, hi, rfl, rfl, m, rfl⟩ := hrel
    by_cases hlt : i < n
    · obtain ⟨b, o, rfl⟩ := HA.out (by omega)
      have hc1 := HO.out i _ (sliL_get (k := some .i64) (b := b) (o := o) hlt)
      rw [lfV_i64] at hc1
      simp only at hc1
      have hi2 : (i : Int) < (n : Int) := by omega
      go_wp2
      try (go_quiet (fail); go_wp2)
      go_round
      case rel => exact ⟨i + 1, by omega, by go_num, by go_num, _, rfl⟩
      case measure => simp [intOf]; omega
    · obtain rfl : i = n := by omega
      go_wp2
      go_ret
      exact ⟨rfl, below_drewN (Below.refl _ _) _⟩
end Qt
end Go.Proofs.Ytihnpfcjnfkfjaa
