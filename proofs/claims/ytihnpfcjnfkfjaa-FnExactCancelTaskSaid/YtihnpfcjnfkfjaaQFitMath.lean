/- When a schedule fits, in plain numbers: what is demanded up to each task's due tick. No conditions. -/
import Derived.Test.YtihnpfcjnfkfjaaQDemMath
import Derived.Test.YtihnpfcjnfkfjaaQBlockAt
namespace Go.Proofs.Ytihnpfcjnfkfjaa
open Go.RowKit Go.Sort
set_option linter.unusedSimpArgs false
set_option linter.unusedVariables false
namespace Qt
def fitC (nw sk : Int) (ss : List Tsk) (rn lf d : Int) : Bool := decide (demV rn lf d ss + blockV ss rn lf d + sk ≤ d - nw)
def fitV (nw sk : Int) (ss : List Tsk) (rn lf : Int) : Bool := ss.all (fun t => fitC nw sk ss rn lf t.td)
def fitW (nw sk ag : Int) (ss : List Tsk) (rn lf tu nx : Int) : Bool := schB nw sk ag ss rn lf tu nx && fitV nw sk ss rn lf
def lateL (nw : Int) : List Tsk → List Int
  | [] => []
  | t :: r => (if t.td ≤ nw then [t.ti] else []) ++ lateL nw r
theorem lateL_append (nw : Int) (a b : List Tsk) : lateL nw (a ++ b) = lateL nw a ++ lateL nw b := by
  induction a with
  | nil => rfl
  | cons s r ih => simp only [List.cons_append, lateL, ih, List.append_assoc]
theorem lateL_take {nw : Int} {ss : List Tsk} {j : Nat} {s : Tsk} (h : ss[j]? = some s) : lateL nw (ss.take (j + 1)) = lateL nw (ss.take j) ++ (if s.td ≤ nw then [s.ti] else []) := by
  rw [List.take_add_one, h, lateL_append]
  simp [lateL]
theorem lateL_len (nw : Int) (ss : List Tsk) : (lateL nw ss).length ≤ ss.length := by
  induction ss with
  | nil => simp [lateL]
  | cons s r ih =>
    rw [lateL, List.length_append, List.length_cons]
    split
    · simp only [List.length_cons, List.length_nil]; omega
    · simp only [List.length_nil]; omega
theorem lateL_some {nw : Int} {ss : List Tsk} (h : 0 < (lateL nw ss).length) : ∃ t ∈ ss, t.td ≤ nw := by
  induction ss with
  | nil => simp [lateL] at h
  | cons s r ih =>
    by_cases hs : s.td ≤ nw
    · exact ⟨s, List.mem_cons_self .., hs⟩
    · rw [lateL, if_neg hs, List.nil_append] at h
      obtain ⟨t, ht, h2⟩ := ih h
      exact ⟨t, List.mem_cons_of_mem _ ht, h2⟩
theorem sumL_cons (y : Int) (r : List Int) : sumL (y :: r) = y + sumL r := by
  have : ∀ (xs : List Int) (a : Int), xs.foldl (· + ·) a = a + xs.foldl (· + ·) 0 := by
    intro xs
    induction xs with
    | nil => intro a; simp
    | cons z r ih => intro a; rw [List.foldl_cons, List.foldl_cons, ih (a + z), ih (0 + z)]; omega
  unfold sumL
  rw [List.foldl_cons, this r (0 + y)]
  omega
theorem sumL_ge : ∀ {xs : List Int} {j : Nat}, (∀ x ∈ xs, 0 ≤ x) → xs.getD j 0 ≤ sumL xs ∧ 0 ≤ sumL xs := by
  intro xs j h
  have h0 : ∀ {ys : List Int}, (∀ x ∈ ys, 0 ≤ x) → 0 ≤ sumL ys := by
    intro ys
    induction ys with
    | nil => intro _; simp [sumL]
    | cons y r ih =>
      intro h
      have h1 := ih (fun x hx => h x (List.mem_cons_of_mem _ hx))
      have h2 := h y (List.mem_cons_self ..)
      rw [sumL_cons]; omega
  refine ⟨?_, h0 h⟩
  induction xs generalizing j with
  | nil => simp [sumL]
  | cons y r ih =>
    have h1 := h0 (fun x hx => h x (List.mem_cons_of_mem _ hx))
    have h2 := h y (List.mem_cons_self ..)
    cases j with
    | zero => rw [List.getD_cons_zero, sumL_cons]; omega
    | succ j =>
      have h3 := ih (j := j) (fun x hx => h x (List.mem_cons_of_mem _ hx))
      rw [List.getD_cons_succ, sumL_cons]; omega
/-- A task of a right schedule has work left. -/
theorem rem_pos {nw sk ag : Int} {ss : List Tsk} {rn lf tu nx : Int} (h : schB nw sk ag ss rn lf tu nx = true) {t : Tsk} (ht : t ∈ ss) : 1 ≤ remV t rn lf := by
  have hok := taskB_iff.1 ((sch_facts h).2 t ht)
  have hta := inB_iff.1 hok.2.2.2.1
  have hn := inB_iff.1 hok.2.1
  have hc := cost_bd hok.2.2.1 (j := t.ta.toNat) (by omega)
  have hs := sumL_ge (xs := t.xs.drop t.ta.toNat) (j := 0) (fun x hx => by
    have h2 := List.all_eq_true.1 hok.2.2.1 x (List.mem_of_mem_drop hx)
    have := inB_iff.1 h2
    omega)
  have hg : (t.xs.drop t.ta.toNat).getD 0 0 = t.xs.getD t.ta.toNat 0 := by
    rw [List.getD_eq_getElem?_getD, List.getElem?_drop, List.getD_eq_getElem?_getD]
    simp
  rw [hg] at hs
  unfold remV
  split
  · rename_i hr
    have h3 := inB_iff.1 hok.1
    obtain ⟨_, _, _, h2⟩ := schB_iff.1 h
    unfold runB at h2
    rw [if_neg (by omega), hr, find_own h ht] at h2
    have h4 := inB_iff.1 h2
    omega
  · omega
theorem block_bd {nw sk ag : Int} {ss : List Tsk} {rn lf tu nx : Int} (h : schB nw sk ag ss rn lf tu nx = true) (d : Int) : 0 ≤ blockV ss rn lf d ∧ blockV ss rn lf d ≤ 1000 := by
  unfold blockV
  split
  · rename_i t hf
    have := run_facts h hf (by have := List.find?_some hf; simp at this; exact this.symm)
    split <;> omega
  · omega
theorem demV_ge {nw sk ag : Int} {ss : List Tsk} {rn lf tu nx : Int} (h : schB nw sk ag ss rn lf tu nx = true) {t : Tsk} (ht : t ∈ ss) {d : Int} (hd : t.td ≤ d) : 1 ≤ demV rn lf d ss := by
  have key : ∀ l : List Tsk, (∀ u ∈ l, u ∈ ss) → 0 ≤ demV rn lf d l ∧ (t ∈ l → 1 ≤ demV rn lf d l) := by
    intro l
    induction l with
    | nil => intro _; exact ⟨by simp [demV], fun h => by cases h⟩
    | cons s r ih =>
      intro hl
      obtain ⟨h1, h2⟩ := ih (fun u hu => hl u (List.mem_cons_of_mem _ hu))
      have hp := rem_pos h (hl s (List.mem_cons_self ..))
      have hT : 0 ≤ demT rn lf d s := by unfold demT; split <;> omega
      refine ⟨by rw [demV]; omega, fun hm => ?_⟩
      rw [demV]
      rcases List.mem_cons.1 hm with rfl | hm
      · unfold demT
        rw [if_pos hd]
        omega
      · have := h2 hm
        omega
  exact (key ss (fun _ h => h)).2 ht
theorem fit_bd {nw sk ag : Int} {ss : List Tsk} {rn lf tu nx : Int} (h : schB nw sk ag ss rn lf tu nx = true) : 0 ≤ nw ∧ nw ≤ 1000000 ∧ 0 ≤ sk ∧ sk ≤ 1000 := by
  have := headB_iff.1 (schB_iff.1 h).1
  have h1 := inB_iff.1 this.1
  have h2 := inB_iff.1 this.2.2.1
  omega
theorem late_unfit {nw sk ag : Int} {ss : List Tsk} {rn lf tu nx : Int} (h : schB nw sk ag ss rn lf tu nx = true) {t : Tsk} (ht : t ∈ ss) (hl : t.td ≤ nw) : fitV nw sk ss rn lf = false := by
  have h1 := demV_ge h ht (Int.le_refl t.td)
  have h2 := block_bd h t.td
  have h3 := fit_bd h
  rw [fitV, List.all_eq_false]
  refine ⟨t, ht, ?_⟩
  simp only [fitC, decide_eq_true_eq]
  omega
theorem fit_no {nw sk : Int} {ss : List Tsk} {rn lf : Int} {t : Tsk} (ht : t ∈ ss) (h : fitC nw sk ss rn lf t.td = false) : fitV nw sk ss rn lf = false := by
  rw [fitV, List.all_eq_false]
  exact ⟨t, ht, by rw [h]; simp⟩
theorem fit_yes {nw sk : Int} {ss : List Tsk} {rn lf : Int} (h : ∀ t ∈ ss, fitC nw sk ss rn lf t.td = true) : fitV nw sk ss rn lf = true := by
  rw [fitV, List.all_eq_true]
  exact h
theorem due_ge {nw sk ag : Int} {ss : List Tsk} {rn lf tu nx : Int} (h : schB nw sk ag ss rn lf tu nx = true) {t : Tsk} (ht : t ∈ ss) : 0 ≤ t.td ∧ t.td ≤ 1000000 := by
  have := inB_iff.1 (taskB_iff.1 ((sch_facts h).2 t ht)).2.2.2.2.1
  omega
end Qt
end Go.Proofs.Ytihnpfcjnfkfjaa
