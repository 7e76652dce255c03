/- A list of values of the type Task that was made by appending, their own lists in blocks of their own: what it is, how it grows, how it reads, and that its numbers may be counted over. No conditions. -/
import Derived.Test.YtihnpfcjnfkfjaaQTskLv
import Derived.Test.YtihnpfcjnfkfjaaQRem
import Derived.Test.YtihnpfcjnfkfjaaQRowB
namespace Go.Proofs.Ytihnpfcjnfkfjaa
open Go.RowKit Go.Sort
set_option linter.unusedSimpArgs false
set_option linter.unusedVariables false
namespace Qt
theorem OwnI.grownO {B n : Nat} {w w' : World} {A : Option Addr} {xs : List Int} (h : OwnI B w A n xs) {row : Option Nat} (hg : w.grownBy w' row) (hne : ∀ g, 0 < n → A = some ⟨g, 0, none⟩ → row ≠ some g) : OwnI B w' A n xs := ⟨h.1, fun hn => by
  obtain ⟨g, e, hB, hl, hc⟩ := h.2 hn
  have hb := hg.block g hl (fun e' => hne g hn e e'.symm)
  exact ⟨g, e, hB, Nat.lt_of_lt_of_le hl hg.size, fun j hj => ⟨(World.cell?_of_block hb).trans (hc j hj).1, by rw [← (hc j hj).2]; simp [World.frozen?, hb]⟩⟩⟩
def celTsk : List Tsk → List TskP → List Value
  | s :: r, P :: q => tskC s P ++ celTsk r q
  | _, _ => []
theorem celTsk_snoc : ∀ {a : List Tsk} {Ps : List TskP}, Ps.length = a.length → ∀ (s : Tsk) (P : TskP), celTsk (a ++ [s]) (Ps ++ [P]) = celTsk a Ps ++ tskC s P := by
  intro a
  induction a with
  | nil => intro Ps h s P; obtain rfl := List.length_eq_zero_iff.1 h; simp [celTsk]
  | cons x r ih =>
    intro Ps h s P
    cases Ps with
    | nil => simp at h
    | cons Q q => simp only [List.cons_append, celTsk, ih (by simpa using h), List.append_assoc]
theorem tskC_len (s : Tsk) (P : TskP) : (tskC s P).length = 5 := rfl
theorem celTsk_get : ∀ {a : List Tsk} {Ps : List TskP} {j : Nat} {s : Tsk} {P : TskP}, a[j]? = some s → Ps[j]? = some P → ∀ c < 5, (celTsk a Ps)[j * 5 + c]? = (tskC s P)[c]? := by
  intro a
  induction a with
  | nil => intro Ps j s P h; simp at h
  | cons x r ih =>
    intro Ps j s P h hP c hc
    cases Ps with
    | nil => simp at hP
    | cons Q q =>
      cases j with
      | zero =>
        simp at h hP
        subst h hP
        rw [celTsk, Nat.zero_mul, Nat.zero_add, List.getElem?_append_left (by rw [tskC_len]; exact hc)]
      | succ j =>
        have := ih (j := j) (by simpa using h) (by simpa using hP) c hc
        rw [celTsk, List.getElem?_append_right (by rw [tskC_len]; omega), ← this, tskC_len]
        congr 1
        omega
/-- The list as it grows: its rows in one block that is its own, their lists in blocks of their own, all apart. -/
structure GrTsk (B : Nat) (w : World) (V : Value) (ss : List Tsk) (Ps : List TskP) : Prop where
  row : w.ownsRow B 53 5 V ss.length (celTsk ss Ps)
  len : Ps.length = ss.length
  own : ∀ (j : Nat) (s : Tsk) (P : TskP), ss[j]? = some s → Ps[j]? = some P → OwnI B w P.A P.n s.xs
  off : ∀ P ∈ Ps, 0 < P.n → ∀ a, P.A = some a → V.ownBlock ≠ some a.block
  ap : Ps.Pairwise (fun (P Q : TskP) => 0 < P.n → 0 < Q.n → ∀ a b, P.A = some a → Q.A = some b → a.block ≠ b.block)
section
variable {B : Nat} {w w1 w2 w' : World} {V V' : Value} {ss : List Tsk} {Ps : List TskP}
theorem GrTsk.nil (B : Nat) (w : World) : GrTsk B w (.slice none 0 0) [] [] := ⟨World.ownsRow_nil _ _ _ _, rfl, fun j s P h => by simp at h, fun P h => by simp at h, List.Pairwise.nil⟩
theorem GrTsk.at (h : GrTsk B w V ss Ps) {j : Nat} {s : Tsk} (hj : ss[j]? = some s) : ∃ P, Ps[j]? = some P ∧ OwnI B w P.A P.n s.xs := by
  have hl : j < Ps.length := by rw [h.len]; exact (List.getElem?_eq_some_iff.1 hj).1
  exact ⟨_, List.getElem?_eq_getElem hl, h.own j s _ hj (List.getElem?_eq_getElem hl)⟩
theorem GrTsk.at' (h : GrTsk B w V ss Ps) {P : TskP} (hP : P ∈ Ps) : ∃ (j : Nat) (s : Tsk), ss[j]? = some s ∧ Ps[j]? = some P ∧ OwnI B w P.A P.n s.xs := by
  obtain ⟨j, hj, e⟩ := List.getElem_of_mem hP
  have hP' : Ps[j]? = some P := by rw [List.getElem?_eq_getElem hj, e]
  have hl : j < ss.length := by rw [← h.len]; exact hj
  exact ⟨j, _, List.getElem?_eq_getElem hl, hP', h.own j _ P (List.getElem?_eq_getElem hl) hP'⟩
theorem GrTsk.of_below (h : GrTsk B w V ss Ps) (hb : Below w.heap.size w w') : GrTsk B w' V ss Ps := ⟨ownsRow_below h.row hb, h.len, fun j s P hs hP => (h.own j s P hs hP).of_below hb, h.off, h.ap⟩
theorem GrTsk.base {B' : Nat} (h : GrTsk B w V ss Ps) (hB : B' ≤ B) : GrTsk B' w V ss Ps := ⟨ownsRow_base h.row hB, h.len, fun j s P hs hP => (h.own j s P hs hP).base hB, h.off, h.ap⟩
theorem ownsRow_low {B n z : Nat} {w : World} {V : Value} {e : TypeId} {xs : List Value} (h : w.ownsRow B e z V n xs) {p : Addr} (hp : p.block < B) (u : Value) : (w.setCell p u).ownsRow B e z V n xs := by
  refine ⟨h.1, ?_⟩
  rcases h.2 with hn | ⟨g, cap, cur, rfl, hB, hg, rest⟩
  · exact .inl hn
  · exact .inr ⟨g, cap, cur, rfl, hB, (Below.heap_setCell _ p u g (by omega)).trans hg, rest⟩
theorem GrTsk.low (h : GrTsk B w V ss Ps) {p : Addr} (hp : p.block < B) (u : Value) : GrTsk B (w.setCell p u) V ss Ps := ⟨ownsRow_low h.row hp u, h.len, fun j s P hs hP => (h.own j s P hs hP).lowR hp u, h.off, h.ap⟩
theorem GrTsk.far (h : GrTsk B w V ss Ps) {p : Addr} (hp : V.ownBlock ≠ some p.block) (hq : ∀ P ∈ Ps, 0 < P.n → ∀ a, P.A = some a → a.block ≠ p.block) (u : Value) : GrTsk B (w.setCell p u) V ss Ps := by
  refine ⟨⟨h.row.1, ?_⟩, h.len, fun j s P hs hP => ?_, h.off, h.ap⟩
  · rcases h.row.2 with hn | ⟨g, cap, cur, rfl, hB, hg, rest⟩
    · exact .inl hn
    · exact .inr ⟨g, cap, cur, rfl, hB, (Below.heap_setCell _ p u g (fun e => hp (by simp [Value.ownBlock, e]))).trans hg, rest⟩
  · have ho := h.own j s P hs hP
    refine ⟨ho.1, fun hn => ?_⟩
    obtain ⟨g, e, hB, hl, hc⟩ := ho.2 hn
    have hne := hq P (List.mem_of_getElem? hP) hn _ e
    exact ⟨g, e, hB, by rw [World.size_setCell]; exact hl, fun i hi => ⟨(World.cell?_setCell_other _ _ _ _ (fun e => hne (by rw [e]))).trans (hc i hi).1, by rw [World.frozen?_setCell]; exact (hc i hi).2⟩⟩
theorem GrTsk.lists (h : GrTsk B w V ss Ps) : ∀ P ∈ Ps, 0 < P.n → ∀ a, P.A = some a → B ≤ a.block ∧ a.block < w.heap.size := fun P hP hn a hA => by
  obtain ⟨j, s, _, _, hO⟩ := h.at' hP
  obtain ⟨g, e, hB, hl, _⟩ := hO.2 hn
  rw [hA] at e
  cases e
  exact ⟨hB, hl⟩
theorem GrTsk.lt (h : GrTsk B w V ss Ps) {g : Nat} (hg : V.ownBlock = some g) : B ≤ g ∧ g < w.heap.size := h.row.lt g hg
/-- One more. -/
theorem GrTsk.snoc (h : GrTsk B w V ss Ps) (hb : Below w.heap.size w w1) (hBw : B ≤ w.heap.size) {s : Tsk} {P : TskP} (ho : OwnI w.heap.size w1 P.A P.n s.xs) (hb1 : Below w1.heap.size w1 w2) (hrow : w'.ownsRow B 53 5 V' (ss.length + 1) (celTsk ss Ps ++ tskC s P)) (hg : w2.grownBy w' V.ownBlock) (hat : V'.ownBlock = V.ownBlock ∨ V'.ownBlock = some w2.heap.size) :
    GrTsk B w' V' (ss ++ [s]) (Ps ++ [P]) := by
  have hbb : Below w.heap.size w w2 := hb.trans (hb1.mono hb.size)
  have hsz : w1.heap.size ≤ w2.heap.size := hb1.size
  have hsz0 : w.heap.size ≤ w1.heap.size := hb.size
  have o2 := ho.of_below hb1
  have hlast : ∀ (j : Nat) (s' : Tsk) (P' : TskP), (ss ++ [s])[j]? = some s' → (Ps ++ [P])[j]? = some P' → (ss[j]? = some s' ∧ Ps[j]? = some P') ∨ (s' = s ∧ P' = P) := fun j s' P' h1 h2 => by
    by_cases hj : j < ss.length
    · rw [List.getElem?_append_left hj] at h1
      rw [List.getElem?_append_left (by rw [h.len]; exact hj)] at h2
      exact .inl ⟨h1, h2⟩
    · rw [List.getElem?_append_right (by omega)] at h1
      rw [List.getElem?_append_right (by rw [h.len]; omega)] at h2
      have hjl := (List.getElem?_eq_some_iff.1 h1).1
      simp at hjl
      have e1 : j - ss.length = 0 := by omega
      have e2 : j - Ps.length = 0 := by rw [h.len]; omega
      rw [e1] at h1
      rw [e2] at h2
      simp at h1 h2
      exact .inr ⟨h1.symm, h2.symm⟩
  have offN : ∀ a, 0 < P.n → P.A = some a → V.ownBlock ≠ some a.block := fun a hn hA e => by
    obtain ⟨g, e2, hB2, _⟩ := ho.2 hn
    rw [hA] at e2
    cases e2
    have := (h.lt e).2
    simp only at this
    omega
  refine ⟨by rw [celTsk_snoc h.len, List.length_append]; exact hrow, by simp [h.len], fun j s' P' h1 h2 => ?_, fun P' hP' hn a hA => ?_, ?_⟩
  · rcases hlast j s' P' h1 h2 with ⟨a1, a2⟩ | ⟨rfl, rfl⟩
    · exact ((h.own j s' P' a1 a2).of_below hbb).grownO hg (fun g hn hA e => h.off P' (List.mem_of_getElem? a2) hn _ hA e)
    · exact (o2.base hBw).grownO hg (fun g hn hA e => offN _ hn hA e)
  · rcases hat with e | e
    · rw [e]
      rcases List.mem_append.1 hP' with hm | hm
      · exact h.off P' hm hn a hA
      · simp at hm
        subst hm
        exact offN a hn hA
    · rw [e]
      intro e2
      have hlt : a.block < w2.heap.size := by
        rcases List.mem_append.1 hP' with hm | hm
        · obtain ⟨j, s', _, _, hO⟩ := h.at' hm
          obtain ⟨g, e3, _, hl, _⟩ := (hO.of_below hbb).2 hn
          rw [hA] at e3
          cases e3
          exact hl
        · simp at hm
          subst hm
          obtain ⟨g, e3, _, hl, _⟩ := o2.2 hn
          rw [hA] at e3
          cases e3
          exact hl
      injection e2 with e2
      omega
  · rw [List.pairwise_append]
    refine ⟨h.ap, List.pairwise_singleton _ _, fun Q hQ R hR => ?_⟩
    simp at hR
    subst hR
    intro hq hn a b hA hB2
    obtain ⟨j, s', _, _, hO⟩ := h.at' hQ
    obtain ⟨g, e3, _, hl, _⟩ := hO.2 hq
    rw [hA] at e3
    cases e3
    obtain ⟨g', e4, hB4, _⟩ := ho.2 hn
    rw [hB2] at e4
    cases e4
    simp only
    omega
theorem GrTsk.value (h : GrTsk B w V ss Ps) : ∃ A cap, V = .slice A ss.length cap ∧ (0 < ss.length → ∃ g, A = some ⟨g, 0, none⟩ ∧ B ≤ g ∧ g < w.heap.size) := by
  rcases h.row.2 with ⟨rfl, h0⟩ | ⟨g, cap, cur, rfl, hB, hg, _⟩
  · exact ⟨none, 0, by rw [h0], fun h => by omega⟩
  · exact ⟨_, cap, rfl, fun _ => ⟨g, rfl, hB, (Array.getElem?_eq_some_iff.1 hg).1⟩⟩
theorem GrTsk.cell {g cap : Nat} (h : GrTsk B w (.slice (some ⟨g, 0, none⟩) ss.length cap) ss Ps) {j : Nat} {s : Tsk} {P : TskP} (hj : ss[j]? = some s) (hP : Ps[j]? = some P) (c : Nat) (v : Value) (hv : (tskC s P)[c]? = some v) : w.cell? ⟨g, j * 5 + c, none⟩ = some v := by
  have hc : c < 5 := by have := (List.getElem?_eq_some_iff.1 hv).1; simpa [tskC] using this
  have hjl := (List.getElem?_eq_some_iff.1 hj).1
  have hlen := h.row.1
  rw [h.row.cellAt (j * 5 + c) (by omega)]
  have := celTsk_get hj hP c hc
  rw [hv] at this
  have hlt := (List.getElem?_eq_some_iff.1 this).1
  have h2 := (List.getElem?_eq_some_iff.1 this).2
  simp [List.getD_eq_getElem?_getD, this]
theorem GrTsk.rd {A : Option Addr} {n cap : Nat} (h : GrTsk B w (.slice A n cap) ss Ps) : ss.length = n ∧ RdTsk w A n ss := by
  obtain ⟨A', cap', e, hA⟩ := h.value
  cases e
  refine ⟨rfl, rfl, fun hn => ?_⟩
  obtain ⟨g, rfl, _, hlt⟩ := hA hn
  refine ⟨g, 0, rfl, hlt, fun j s hj => ?_⟩
  obtain ⟨P, hP, hO⟩ := h.at hj
  exact ⟨P, fun i v hv => by rw [Nat.zero_add]; exact h.cell hj hP i v hv, hO.rdI⟩
end
/-- Places in rows, and in lists in blocks of their own, are apart. -/
theorem rowLTsk_mem {g j : Nat} {P : TskP} {l : Leaf} (h : l ∈ rowLTsk g j P) : (l.1.block = g ∧ j * 5 ≤ l.1.off ∧ l.1.off < j * 5 + 5) ∨ (∃ i < P.n, ∃ a, P.A = some a ∧ l = (⟨a.block, a.off + i, none⟩, some .i64)) := by
  simp only [rowLTsk, List.mem_append, List.mem_singleton] at h
  have hsl : ∀ {l : Leaf}, l ∈ sliL (some .i64) P.A P.n → (∃ i < P.n, ∃ a, P.A = some a ∧ l = (⟨a.block, a.off + i, none⟩, some .i64)) := fun {l} hl => by
    rcases hA : P.A with _ | a
    · rw [hA] at hl; simp [sliL] at hl
    · rw [hA] at hl
      simp only [sliL, List.mem_map, List.mem_range] at hl
      obtain ⟨i, hi, rfl⟩ := hl
      exact ⟨i, hi, a, rfl, rfl⟩
  rcases h with h | h | h | h | h
  · subst h; exact .inl ⟨rfl, by simp only; omega, by simp only; omega⟩
  · exact .inr (hsl h)
  · subst h; exact .inl ⟨rfl, by simp only; omega, by simp only; omega⟩
  · subst h; exact .inl ⟨rfl, by simp only; omega, by simp only; omega⟩
  · subst h; exact .inl ⟨rfl, by simp only; omega, by simp only; omega⟩
theorem rowLTsk_apart {g j : Nat} {P : TskP} (hoff : 0 < P.n → ∀ a, P.A = some a → a.block ≠ g) : Apart (rowLTsk g j P) := by
  have hs := sliL_apart (some .i64) P.A P.n
  have hx : ∀ l ∈ sliL (some .i64) P.A P.n, l.1.block ≠ g := fun l hl => by
    rcases hA : P.A with _ | a
    · rw [hA] at hl; simp [sliL] at hl
    · rw [hA] at hl
      simp only [sliL, List.mem_map, List.mem_range] at hl
      obtain ⟨i, hi, rfl⟩ := hl
      exact hoff (by omega) a hA
  have hy : ∀ o, ∀ l ∈ sliL (some .i64) P.A P.n, l.1 ≠ ⟨g, o, none⟩ := fun o l hl e => hx l hl (by rw [e])
  have hy2 : ∀ o, ∀ l ∈ sliL (some .i64) P.A P.n, (⟨g, o, none⟩ : Addr) ≠ l.1 := fun o l hl e => hx l hl (by rw [← e])
  simp only [rowLTsk, Apart, List.pairwise_append, List.pairwise_singleton, List.mem_append, List.mem_singleton]
  refine ⟨trivial, ⟨hs, ⟨trivial, ⟨trivial, trivial, fun a ha b hb => by
    subst ha
    rcases hb with hb
    · subst hb; intro e; injection e with _ e _; omega
  ⟩, fun a ha b hb => by
    subst ha
    rcases hb with hb | hb
    · subst hb; intro e; injection e with _ e _; omega
    · subst hb; intro e; injection e with _ e _; omega
  ⟩, fun a ha b hb => by rcases hb with rfl | rfl | rfl <;> exact hy _ a ha⟩, fun a ha b hb => by
    subst ha
    rcases hb with hb | hb | hb | hb
    · exact hy2 _ b hb
    · subst hb; intro e; injection e with _ e _; omega
    · subst hb; intro e; injection e with _ e _; omega
    · subst hb; intro e; injection e with _ e _; omega
  ⟩
theorem lvTsk_apart {g : Nat} : ∀ {Ps : List TskP} {j : Nat}, (∀ P ∈ Ps, 0 < P.n → ∀ a, P.A = some a → a.block ≠ g) → Ps.Pairwise (fun (P Q : TskP) => 0 < P.n → 0 < Q.n → ∀ a b, P.A = some a → Q.A = some b → a.block ≠ b.block) → Apart (lvTsk g j Ps) := by
  intro Ps
  induction Ps with
  | nil => intros; exact List.Pairwise.nil
  | cons P r ih =>
    intro j hoff hap
    rw [List.pairwise_cons] at hap
    simp only [lvTsk, Apart]
    rw [List.pairwise_append]
    refine ⟨rowLTsk_apart (hoff P List.mem_cons_self), ih (fun Q hQ => hoff Q (List.mem_cons_of_mem _ hQ)) hap.2, fun a ha b hb e => ?_⟩
    have hb' : ∀ {Qs : List TskP} {i : Nat}, b ∈ lvTsk g i Qs → ∃ k Q, i ≤ k ∧ Q ∈ Qs ∧ b ∈ rowLTsk g k Q := by
      intro Qs
      induction Qs with
      | nil => intro i h; simp [lvTsk] at h
      | cons Q q ihq =>
        intro i h
        rw [lvTsk, List.mem_append] at h
        rcases h with h | h
        · exact ⟨i, Q, Nat.le_refl _, List.mem_cons_self, h⟩
        · obtain ⟨k, Q', hk, hQ', h'⟩ := ihq h
          exact ⟨k, Q', by omega, List.mem_cons_of_mem _ hQ', h'⟩
    obtain ⟨k, Q, hk, hQ, hbk⟩ := hb' hb
    rcases rowLTsk_mem ha with ⟨h1, h2, h3⟩ | ⟨i1, hi1, a1, hA1, h1⟩ <;> rcases rowLTsk_mem hbk with ⟨h4, h5, h6⟩ | ⟨i2, hi2, a2, hA2, h4⟩
    · rw [e] at h3
      omega
    · have := hoff Q (List.mem_cons_of_mem _ hQ) (by omega) a2 hA2
      rw [h4] at e
      rw [e] at h1
      exact this h1
    · have := hoff P List.mem_cons_self (by omega) a1 hA1
      rw [h1] at e
      rw [← e] at h4
      exact this h4
    · have := hap.1 Q hQ (by omega) (by omega) a1 a2 hA1 hA2
      rw [h1, h4] at e
      injection e with e _ _
      exact this e
/-- An answer that is such a list: it reads as the list, and its numbers may be counted over. -/
structure AnsTsk (B : Nat) (w : World) (A : Option Addr) (n : Nat) (ss : List Tsk) : Prop where
  rd : RdTsk w A n ss
  own : 0 < n → ∃ g Ps, A = some ⟨g, 0, none⟩ ∧ Ps.length = n ∧ StrTsk w g Ps ∧ Liv (lvTsk g 0 Ps) w ∧ Apart (lvTsk g 0 Ps) ∧ szPTsk Ps = 4 * n + bigTsk ss ∧ ∀ l ∈ lvTsk g 0 Ps, B ≤ l.1.block
theorem AnsTsk.of_below {B : Nat} {w w' : World} {A : Option Addr} {n : Nat} {ss : List Tsk} (h : AnsTsk B w A n ss) (hb : Below w.heap.size w w') : AnsTsk B w' A n ss := ⟨h.rd.of_below hb, fun hn => by
  obtain ⟨g, Ps, e, hl, hs, hv, ha, hz, hB⟩ := h.own hn
  exact ⟨g, Ps, e, hl, hs.of_below hb, hv.of_below hb, ha, hz, hB⟩⟩
theorem AnsTsk.base {B B' : Nat} {w : World} {A : Option Addr} {n : Nat} {ss : List Tsk} (h : AnsTsk B w A n ss) (hB : B' ≤ B) : AnsTsk B' w A n ss := ⟨h.rd, fun hn => by
  obtain ⟨g, Ps, e, hl, hs, hv, ha, hz, hBB⟩ := h.own hn
  exact ⟨g, Ps, e, hl, hs, hv, ha, hz, fun l hl => Nat.le_trans hB (hBB l hl)⟩⟩
theorem szPTsk_big : ∀ {ss : List Tsk} {Ps : List TskP}, Ps.length = ss.length → (∀ (j : Nat) (s : Tsk) (P : TskP), ss[j]? = some s → Ps[j]? = some P → P.n = s.xs.length) → szPTsk Ps = 4 * ss.length + bigTsk ss := by
  intro ss
  induction ss with
  | nil => intro Ps h _; obtain rfl := List.length_eq_zero_iff.1 h; rfl
  | cons s r ih =>
    intro Ps h hn
    cases Ps with
    | nil => simp at h
    | cons P q =>
      have h0 := hn 0 s P rfl rfl
      have h1 := ih (Ps := q) (by simpa using h) (fun j s' P' a b => hn (j + 1) s' P' (by simpa using a) (by simpa using b))
      simp only [szPTsk, bigTsk, List.length_cons, h1]
      omega
theorem GrTsk.parts {B : Nat} {w : World} {g cap : Nat} {ss : List Tsk} {Ps : List TskP} (h : GrTsk B w (.slice (some ⟨g, 0, none⟩) ss.length cap) ss Ps) : StrTsk w g Ps ∧ Liv (lvTsk g 0 Ps) w ∧ Apart (lvTsk g 0 Ps) ∧ szPTsk Ps = 4 * ss.length + bigTsk ss ∧ ∀ l ∈ lvTsk g 0 Ps, B ≤ l.1.block := by
  have hB : ∀ l : Leaf, l.1.block = g → B ≤ l.1.block := fun l e => by rw [e]; exact (h.row.lt g rfl).1
  have hoff : ∀ P ∈ Ps, 0 < P.n → ∀ a, P.A = some a → a.block ≠ g := fun P hP hn a hA e => h.off P hP hn a hA (by rw [e]; rfl)
  have hcell := fun (j : Nat) (s : Tsk) (P : TskP) (hj : ss[j]? = some s) (hP : Ps[j]? = some P) => h.cell (j := j) hj hP
  have hst : StrTsk w g Ps := fun j P hP => by
    obtain ⟨i, s, hs, hP', hO⟩ := h.at' (List.mem_of_getElem? hP)
    have hjl : j < ss.length := by rw [← h.len]; exact (List.getElem?_eq_some_iff.1 hP).1
    have hs2 : ss[j]? = some ss[j] := List.getElem?_eq_getElem hjl
    exact ⟨hcell j _ P hs2 hP 1 _ rfl, fun h0 => by
      obtain ⟨b, e, _⟩ := (h.own j _ P hs2 hP).2 h0
      exact ⟨b, 0, e⟩⟩
  have hmem : ∀ {Qs : List TskP} {i : Nat} {l : Leaf}, l ∈ lvTsk g i Qs → ∃ k Q, Qs[k]? = some Q ∧ l ∈ rowLTsk g (i + k) Q := by
    intro Qs
    induction Qs with
    | nil => intro i l h; simp [lvTsk] at h
    | cons Q q ih =>
      intro i l h
      rw [lvTsk, List.mem_append] at h
      rcases h with h | h
      · exact ⟨0, Q, rfl, h⟩
      · obtain ⟨k, Q', hk, h'⟩ := ih h
        exact ⟨k + 1, Q', by simpa using hk, by rw [show i + (k + 1) = i + 1 + k by omega]; exact h'⟩
  refine ⟨hst, fun l hl => ?_, lvTsk_apart hoff h.ap, szPTsk_big h.len (fun j s P a b => (h.own j s P a b).1.symm), fun l hl => ?_⟩
  · obtain ⟨j, P, hP, hm⟩ := hmem hl
    rw [Nat.zero_add] at hm
    have hjl : j < ss.length := by rw [← h.len]; exact (List.getElem?_eq_some_iff.1 hP).1
    have hs2 : ss[j]? = some ss[j] := List.getElem?_eq_getElem hjl
    have hc := hcell j _ P hs2 hP
    simp only [rowLTsk, List.mem_append, List.mem_singleton] at hm
    have hint : ∀ (c : Nat) (x : Int), (tskC ss[j] P)[c]? = some (.int .i64 x) → l = (⟨g, j * 5 + c, none⟩, some .i64) → (∃ v, w.cell? l.1 = some v ∧ lfIs l.2 v) ∧ w.frozen? l.1 = false := fun c x hx e => by
      subst e
      exact ⟨⟨_, hc c _ hx, x, rfl⟩, h.row.frozenAt _⟩
    have hsl : l ∈ sliL (some .i64) P.A P.n → (∃ v, w.cell? l.1 = some v ∧ lfIs l.2 v) ∧ w.frozen? l.1 = false := fun hl => Liv.of_ownI (h.own j _ P hs2 hP) l hl
    rcases hm with hm | hm | hm | hm | hm
    · exact hint 0 _ rfl hm
    · exact hsl hm
    · exact hint 2 _ rfl hm
    · exact hint 3 _ rfl hm
    · exact hint 4 _ rfl hm
  · obtain ⟨j, P, hP, hm⟩ := hmem hl
    rcases rowLTsk_mem hm with ⟨h1, _, _⟩ | ⟨i, hi, a, hA, rfl⟩
    · exact hB _ h1
    · have hjl : j < ss.length := by rw [← h.len]; exact (List.getElem?_eq_some_iff.1 hP).1
      obtain ⟨b, e, hb, _⟩ := (h.own j _ P (List.getElem?_eq_getElem hjl) hP).2 (by omega)
      rw [hA] at e
      cases e
      exact hb
theorem GrTsk.ans {B : Nat} {w : World} {A : Option Addr} {n cap : Nat} {ss : List Tsk} {Ps : List TskP} (h : GrTsk B w (.slice A n cap) ss Ps) : AnsTsk B w A n ss := by
  obtain ⟨rfl, hrd⟩ := h.rd
  refine ⟨hrd, fun hn => ?_⟩
  obtain ⟨A', cap', e, hA⟩ := h.value
  cases e
  obtain ⟨g, rfl, hB, hlt⟩ := hA hn
  exact ⟨g, Ps, rfl, h.len, h.parts⟩
/-- The answer's numbers stand counted on from k. -/
def MkdTsk (w : World) (A : Option Addr) (n : Nat) (k : Int) (m : Nat) : Prop := m ≤ 10000000 ∧ (n = 0 → m = 0) ∧ (0 < n → ∃ g Ps, A = some ⟨g, 0, none⟩ ∧ Ps.length = n ∧ StrTsk w g Ps ∧ IsSet (lvTsk g 0 Ps) k w ∧ szPTsk Ps = m)
theorem MkdTsk.of_below {w w' : World} {A : Option Addr} {n : Nat} {k : Int} {m : Nat} (h : MkdTsk w A n k m) (hb : Below w.heap.size w w') : MkdTsk w' A n k m := ⟨h.1, h.2.1, fun hn => by
  obtain ⟨g, Ps, e, hl, hs, hv, hz⟩ := h.2.2 hn
  exact ⟨g, Ps, e, hl, hs.of_below hb, hv.of_below hb, hz⟩⟩
theorem markTaskSA (A : Option Addr) (n cap B : Nat) (ss : List Tsk) (W : World) (k : Int) (h : AnsTsk B W A n ss) (hb : 4 * n + bigTsk ss ≤ 10000000) (hk0 : 0 ≤ k) (hk1 : k ≤ 10000000) :
    Calls Try.prog 56 #[.slice A n cap, .int .i64 k] W fun e W' => e = .returned (.int .i64 (k + (4 * n + bigTsk ss : Nat))) ∧ Touch B W.heap.size W W' ∧ MkdTsk W' A n k (4 * n + bigTsk ss) := by
  by_cases h0 : 0 < n
  · obtain ⟨g, Ps, rfl, hl, hs, hv, ha, hz, hB⟩ := h.own h0
    refine (markTaskSM (some ⟨g, 0, none⟩) g n cap Ps W k (fun _ => rfl) hl hs hv ha (by omega) hk0 hk1).mono ?_
    rintro e W' ⟨rfl, hm⟩
    exact ⟨by rw [hz], hm.touch (fun l hl => ⟨hB l hl, hv.lt hl⟩), hb, fun e => by omega, fun _ => ⟨g, Ps, rfl, hl, hs.marks hm hv, hm.set, hz⟩⟩
  · obtain rfl : n = 0 := by omega
    obtain rfl : ss = [] := List.length_eq_zero_iff.1 h.rd.1
    refine (markTaskSM A 0 0 cap [] W k (fun h => by omega) rfl (fun j P h => by simp at h) (fun l hl => by simp [lvTsk] at hl) List.Pairwise.nil (by simp [szPTsk]) hk0 hk1).mono ?_
    rintro e W' ⟨rfl, hm⟩
    exact ⟨rfl, hm.touch (fun l hl => by simp [lvTsk] at hl), hb, fun _ => rfl, fun h => by omega⟩
theorem GrTsk.touch {B C B0 : Nat} {w w' : World} {V : Value} {ss : List Tsk} {Ps : List TskP} (h : GrTsk B w V ss Ps) (ht : Touch B0 C w w') (hB : C ≤ B) : GrTsk B w' V ss Ps := ⟨ht.ownsRow h.row (fun g e => .inr (Nat.le_trans hB (h.lt e).1)), h.len, fun j s P hs hP => ht.ownI (h.own j s P hs hP) (fun a hn e => .inr (Nat.le_trans hB (h.lists P (List.mem_of_getElem? hP) hn a e).1)), h.off, h.ap⟩
/-- .. and nothing else is written. -/
theorem markTaskSG (A : Option Addr) (n cap B : Nat) (ss : List Tsk) (Ps : List TskP) (W : World) (k : Int) (h : GrTsk B W (.slice A n cap) ss Ps) (hb : 4 * n + bigTsk ss ≤ 10000000) (hk0 : 0 ≤ k) (hk1 : k ≤ 10000000) :
    Calls Try.prog 56 #[.slice A n cap, .int .i64 k] W fun e W' => e = .returned (.int .i64 (k + (4 * n + bigTsk ss : Nat))) ∧ Touch B W.heap.size W W' ∧ MkdTsk W' A n k (4 * n + bigTsk ss) ∧ ∀ b, b < W.heap.size → (Value.slice A n cap).ownBlock ≠ some b → (∀ P ∈ Ps, 0 < P.n → ∀ a, P.A = some a → a.block ≠ b) → W'.heap[b]? = W.heap[b]? := by
  by_cases h0 : 0 < n
  · obtain ⟨rfl, hrd⟩ := h.rd
    obtain ⟨A', cap', e, hA⟩ := h.value
    cases e
    obtain ⟨g, rfl, hB, hlt⟩ := hA h0
    have han := h.ans
    have hst : StrTsk W g Ps ∧ Liv (lvTsk g 0 Ps) W ∧ Apart (lvTsk g 0 Ps) ∧ szPTsk Ps = 4 * ss.length + bigTsk ss ∧ ∀ l ∈ lvTsk g 0 Ps, B ≤ l.1.block := h.parts
    obtain ⟨hs, hv, ha, hz, hBB⟩ := hst
    refine (markTaskSM (some ⟨g, 0, none⟩) g ss.length cap Ps W k (fun _ => rfl) h.len hs hv ha (by omega) hk0 hk1).mono ?_
    rintro e W' ⟨rfl, hm⟩
    refine ⟨by rw [hz], hm.touch (fun l hl => ⟨hBB l hl, hv.lt hl⟩), ⟨hb, fun e => by omega, fun _ => ⟨g, Ps, rfl, h.len, hs.marks hm hv, hm.set, hz⟩⟩, fun b hb' hr hl => hm.block b hb' (fun l hm2 => ?_)⟩
    have hmem : ∀ {Qs : List TskP} {i : Nat} {l : Leaf}, l ∈ lvTsk g i Qs → ∃ k Q, Q ∈ Qs ∧ l ∈ rowLTsk g k Q := by
      intro Qs
      induction Qs with
      | nil => intro i l h; simp [lvTsk] at h
      | cons Q q ih =>
        intro i l h
        rw [lvTsk, List.mem_append] at h
        rcases h with h | h
        · exact ⟨i, Q, List.mem_cons_self, h⟩
        · obtain ⟨k, Q', hk, h'⟩ := ih h
          exact ⟨k, Q', List.mem_cons_of_mem _ hk, h'⟩
    obtain ⟨j, P, hP, hj⟩ := hmem hm2
    rcases rowLTsk_mem hj with ⟨e, _, _⟩ | ⟨i, hi, a, hA2, rfl⟩
    · rw [e]
      exact fun e2 => hr (by rw [← e2]; rfl)
    · exact hl P hP (by omega) a hA2
  · obtain ⟨rfl, hrd⟩ := h.rd
    have hss : ss = [] := List.length_eq_zero_iff.1 (by omega)
    subst hss
    refine (markTaskSM A 0 0 cap [] W k (fun h => by omega) rfl (fun j P h => by simp at h) (fun l hl => by simp [lvTsk] at hl) List.Pairwise.nil (by simp [szPTsk]) hk0 hk1).mono ?_
    rintro e W' ⟨rfl, hm⟩
    exact ⟨rfl, hm.touch (fun l hl => by simp [lvTsk] at hl), ⟨hb, fun _ => rfl, fun h => by simp at h⟩, fun b hb' _ _ => hm.block b hb' (fun l hl => by simp [lvTsk] at hl)⟩
theorem heldTaskSA (A : Option Addr) (n cap : Nat) (m : Nat) (W : World) (k : Int) (h : MkdTsk W A n k m) (hk0 : 0 ≤ k) (hk1 : k ≤ 10000000) :
    Calls Try.prog 66 #[.slice A n cap, .int .i64 k] W fun e W' => e = .returned (.int .i64 (k + (m : Nat))) ∧ Below W.heap.size W W' := by
  by_cases h0 : 0 < n
  · obtain ⟨g, Ps, rfl, hl, hs, hv, rfl⟩ := h.2.2 h0
    exact heldTaskSM (some ⟨g, 0, none⟩) g n cap Ps W k (fun _ => rfl) hl hs hv h.1 hk0 hk1
  · obtain rfl : n = 0 := by omega
    obtain rfl := h.2.1 rfl
    exact heldTaskSM A 0 0 cap [] W k (fun h => by omega) rfl (fun j P h => by simp at h) (fun i l hl => by simp [lvTsk] at hl) (by simp [szPTsk]) hk0 hk1
end Qt
end Go.Proofs.Ytihnpfcjnfkfjaa
