/- What is demanded of a schedule up to a tick: a sum over the tasks, in whatever order they come. No conditions. -/
import Derived.Test.YtihnpfcjnfkfjaaQRemain
import Derived.Maps.RangeWalk
namespace Go.Proofs.Ytihnpfcjnfkfjaa
open Go.RowKit Go.Sort
set_option linter.unusedSimpArgs false
set_option linter.unusedVariables false
namespace Qt
def demT (rn lf d : Int) (t : Tsk) : Int := if t.td ≤ d then remV t rn lf else 0
/-- The sum over those tasks whose Ids are chosen. -/
def demS (rn lf d : Int) (sel : Int → Bool) : List Tsk → Int
  | [] => 0
  | t :: r => (if sel t.ti then demT rn lf d t else 0) + demS rn lf d sel r
def demV (rn lf d : Int) : List Tsk → Int
  | [] => 0
  | t :: r => demT rn lf d t + demV rn lf d r
def demW (nw sk ag : Int) (ss : List Tsk) (rn lf tu nx d : Int) : Int := if schB nw sk ag ss rn lf tu nx then demV rn lf d ss else -1
theorem demS_congr {rn lf d : Int} {sel sel' : Int → Bool} {ss : List Tsk} (h : ∀ t ∈ ss, sel t.ti = sel' t.ti) : demS rn lf d sel ss = demS rn lf d sel' ss := by
  induction ss with
  | nil => rfl
  | cons s r ih =>
    rw [demS, demS, h s (List.mem_cons_self ..), ih (fun t ht => h t (List.mem_cons_of_mem _ ht))]
theorem demS_none {rn lf d : Int} {sel : Int → Bool} {ss : List Tsk} (h : ∀ t ∈ ss, sel t.ti = false) : demS rn lf d sel ss = 0 := by
  induction ss with
  | nil => rfl
  | cons s r ih =>
    rw [demS, h s (List.mem_cons_self ..), ih (fun t ht => h t (List.mem_cons_of_mem _ ht))]
    rfl
theorem demS_all {rn lf d : Int} {sel : Int → Bool} {ss : List Tsk} (h : ∀ t ∈ ss, sel t.ti = true) : demS rn lf d sel ss = demV rn lf d ss := by
  induction ss with
  | nil => rfl
  | cons s r ih =>
    rw [demS, demV, h s (List.mem_cons_self ..), ih (fun t ht => h t (List.mem_cons_of_mem _ ht))]
    rfl
theorem demS_switch {rn lf d : Int} {sel sel' : Int → Bool} {ss : List Tsk} (hp : ss.Pairwise (fun s t => s.ti < t.ti)) {t : Tsk} (ht : t ∈ ss) (h0 : sel t.ti = false) (h1 : sel' t.ti = true) (h2 : ∀ x, x ≠ t.ti → sel' x = sel x) : demS rn lf d sel' ss = demS rn lf d sel ss + demT rn lf d t := by
  induction ss with
  | nil => cases ht
  | cons s r ih =>
    rw [List.pairwise_cons] at hp
    rw [demS, demS]
    rcases List.mem_cons.1 ht with rfl | hr
    · have e := demS_congr (rn := rn) (lf := lf) (d := d) (sel := sel') (sel' := sel) (ss := r) (fun u hu => h2 _ (by have := hp.1 u hu; omega))
      rw [e, h0, h1]
      simp only [if_true, Bool.false_eq_true, if_false]
      omega
    · have hne : s.ti ≠ t.ti := by have := hp.1 t hr; omega
      rw [ih hp.2 hr, h2 _ hne]
      omega
theorem demS_bd {rn lf d : Int} {sel : Int → Bool} {ss : List Tsk} (h : ∀ t ∈ ss, -1000 ≤ demT rn lf d t ∧ demT rn lf d t ≤ 7000) : -1000 * (ss.length : Int) ≤ demS rn lf d sel ss ∧ demS rn lf d sel ss ≤ 7000 * (ss.length : Int) := by
  induction ss with
  | nil => simp [demS]
  | cons s r ih =>
    have h1 := ih (fun t ht => h t (List.mem_cons_of_mem _ ht))
    have h2 := h s (List.mem_cons_self ..)
    rw [demS, List.length_cons]
    split <;> omega
theorem demV_bd {rn lf d : Int} {ss : List Tsk} (h : ∀ t ∈ ss, -1000 ≤ demT rn lf d t ∧ demT rn lf d t ≤ 7000) : -1000 * (ss.length : Int) ≤ demV rn lf d ss ∧ demV rn lf d ss ≤ 7000 * (ss.length : Int) := by
  rw [← demS_all (sel := fun _ => true) (fun _ _ => rfl)]
  exact demS_bd h
/-- What is known of a task of a right schedule. -/
theorem task_rem {nw sk ag : Int} {ss : List Tsk} {rn lf tu nx : Int} (h : schB nw sk ag ss rn lf tu nx = true) {t : Tsk} (ht : t ∈ ss) : -1000 ≤ remV t rn lf ∧ remV t rn lf ≤ 7000 := by
  have hok := taskB_iff.1 ((sch_facts h).2 t ht)
  have hta := inB_iff.1 hok.2.2.2.1
  have hn := inB_iff.1 hok.2.1
  have hs := sum_costs hok.2.2.1 (by omega) t.ta.toNat 100
  rw [List.take_of_length_le (by rw [List.length_drop]; omega)] at hs
  have hc := cost_bd hok.2.2.1 (j := t.ta.toNat) (by omega)
  have hf : findT ss t.ti = some t := by
    obtain ⟨i, hi, e⟩ := List.getElem_of_mem ht
    have hi' : ss[i]? = some t := by rw [List.getElem?_eq_getElem hi, e]
    exact (atV_some hi' rfl (fun j s hj hs e2 => by
      have hp := List.pairwise_iff_getElem.1 (sch_facts h).1
      obtain ⟨hjl, ej⟩ := List.getElem?_eq_some_iff.1 hs
      have := hp j i hjl hi hj
      rw [ej, e] at this
      omega)).2
  unfold remV
  split
  · rename_i hr
    have := run_facts h hf hr
    omega
  · omega
theorem find_own {nw sk ag : Int} {ss : List Tsk} {rn lf tu nx : Int} (h : schB nw sk ag ss rn lf tu nx = true) {t : Tsk} (ht : t ∈ ss) : findT ss t.ti = some t := by
  obtain ⟨i, hi, e⟩ := List.getElem_of_mem ht
  have hi' : ss[i]? = some t := by rw [List.getElem?_eq_getElem hi, e]
  exact (atV_some hi' rfl (fun j s hj hs e2 => by
    have hp := List.pairwise_iff_getElem.1 (sch_facts h).1
    obtain ⟨hjl, ej⟩ := List.getElem?_eq_some_iff.1 hs
    have := hp j i hjl hi hj
    rw [ej, e] at this
    omega)).2
theorem demT_bd {nw sk ag : Int} {ss : List Tsk} {rn lf tu nx : Int} (h : schB nw sk ag ss rn lf tu nx = true) (d : Int) : ∀ t ∈ ss, -1000 ≤ demT rn lf d t ∧ demT rn lf d t ≤ 7000 := fun t ht => by
  have := task_rem h ht
  unfold demT
  split <;> omega
/-- The sum over the first k tasks. -/
theorem demV_take {rn lf d : Int} {ss : List Tsk} {k : Nat} {t : Tsk} (h : ss[k]? = some t) : demV rn lf d (ss.take (k + 1)) = demV rn lf d (ss.take k) + demT rn lf d t := by
  rw [List.take_add_one, h]
  have : ∀ (a b : List Tsk), demV rn lf d (a ++ b) = demV rn lf d a + demV rn lf d b := by
    intro a b
    induction a with
    | nil => simp [demV]
    | cons s r ih => simp only [List.cons_append, demV, ih]; omega
  rw [this]
  simp [demV]
end Qt
end Go.Proofs.Ytihnpfcjnfkfjaa
