/- When a schedule is right, and what is left of a task: plain Bools and numbers over lists of tasks. No conditions. -/
import Derived.Test.YtihnpfcjnfkfjaaTsks
import Derived.Test.YtihnpfcjnfkfjaaTaskOk
namespace Go.Proofs.Ytihnpfcjnfkfjaa
open Go.RowKit Go.Sort
set_option linter.unusedSimpArgs false
set_option linter.unusedVariables false
namespace Qt
def tkB (t : Tsk) : Bool := taskB t.ti t.xs t.ta t.td t.tb
/-- The tasks are right, and their Ids rise from last on, below nx. -/
def tsksB (nx nw : Int) : Int → List Tsk → Bool
  | _, [] => true
  | last, t :: r => tkB t && (decide (last < t.ti) && (decide (t.ti < nx) && (decide (t.tb ≤ nw) && tsksB nx nw t.ti r)))
def lastId (ss : List Tsk) : Nat → Int
  | 0 => 0
  | k + 1 => match ss[k]? with | some t => t.ti | none => 0
def findT (ss : List Tsk) (id : Int) : Option Tsk := ss.find? (fun t => t.ti == id)
def headB (nw sk ag tu nx : Int) : Bool := inB 0 1000000 nw && (inB 0 1000000 tu && (inB 0 1000 sk && (inB 0 20 ag && inB 1 1000000 nx)))
def runB (ss : List Tsk) (rn lf : Int) : Bool := if rn = 0 then decide (lf = 0) else match findT ss rn with | some t => inB 1 (t.xs.getD t.ta.toNat 0) lf | none => false
def schB (nw sk ag : Int) (ss : List Tsk) (rn lf tu nx : Int) : Bool := headB nw sk ag tu nx && (decide (ss.length ≤ 12) && (tsksB nx nw 0 ss && runB ss rn lf))
theorem headB_iff {nw sk ag tu nx : Int} : headB nw sk ag tu nx = true ↔ inB 0 1000000 nw = true ∧ inB 0 1000000 tu = true ∧ inB 0 1000 sk = true ∧ inB 0 20 ag = true ∧ inB 1 1000000 nx = true := by simp [headB]
theorem headB_no {nw sk ag tu nx : Int} (h : inB 0 1000000 nw = false ∨ inB 0 1000000 tu = false ∨ inB 0 1000 sk = false ∨ inB 0 20 ag = false ∨ inB 1 1000000 nx = false) : headB nw sk ag tu nx = false := by
  rcases h with h | h | h | h | h <;> simp [headB, h]
theorem schB_head {nw sk ag : Int} {ss : List Tsk} {rn lf tu nx : Int} (h : headB nw sk ag tu nx = false) : schB nw sk ag ss rn lf tu nx = false := by simp [schB, h]
theorem schB_len {nw sk ag : Int} {ss : List Tsk} {rn lf tu nx : Int} (h : ¬ ss.length ≤ 12) : schB nw sk ag ss rn lf tu nx = false := by simp [schB, h]
theorem schB_yes {nw sk ag : Int} {ss : List Tsk} {rn lf tu nx : Int} (h : headB nw sk ag tu nx = true) (h2 : ss.length ≤ 12) : schB nw sk ag ss rn lf tu nx = (tsksB nx nw 0 ss && runB ss rn lf) := by simp [schB, h, h2]
theorem schB_iff {nw sk ag : Int} {ss : List Tsk} {rn lf tu nx : Int} : schB nw sk ag ss rn lf tu nx = true ↔ headB nw sk ag tu nx = true ∧ ss.length ≤ 12 ∧ tsksB nx nw 0 ss = true ∧ runB ss rn lf = true := by simp [schB]
/-- One step of the walk along the tasks. -/
theorem tsksB_step {nx nw : Int} {ss : List Tsk} {k : Nat} {t : Tsk} (h : ss[k]? = some t) : tsksB nx nw (lastId ss k) (ss.drop k) = (tkB t && (decide (lastId ss k < t.ti) && (decide (t.ti < nx) && (decide (t.tb ≤ nw) && tsksB nx nw (lastId ss (k + 1)) (ss.drop (k + 1)))))) := by
  obtain ⟨hk, e⟩ := List.getElem?_eq_some_iff.1 h
  rw [List.drop_eq_getElem_cons hk, e, tsksB]
  have : lastId ss (k + 1) = t.ti := by simp [lastId, h]
  rw [this]
theorem tsksB_end {nx nw : Int} {ss : List Tsk} {k : Nat} (h : ss.length = k) (l : Int) : tsksB nx nw l (ss.drop k) = true := by
  rw [List.drop_of_length_le (by omega)]; rfl
theorem lastId_succ {ss : List Tsk} {k : Nat} {t : Tsk} (h : ss[k]? = some t) : lastId ss (k + 1) = t.ti := by simp [lastId, h]
/-- What is right of each task of a right schedule. -/
theorem tsksB_all {nx nw : Int} : ∀ {last : Int} {ss : List Tsk}, tsksB nx nw last ss = true → ∀ t ∈ ss, tkB t = true ∧ last < t.ti ∧ t.ti < nx ∧ t.tb ≤ nw := by
  intro last ss
  induction ss generalizing last with
  | nil => intro _ t ht; cases ht
  | cons s r ih =>
    intro h t ht
    simp only [tsksB, Bool.and_eq_true, decide_eq_true_eq] at h
    obtain ⟨h1, h2, h3, h4, h5⟩ := h
    rcases List.mem_cons.1 ht with rfl | ht
    · exact ⟨h1, h2, h3, h4⟩
    · obtain ⟨a, b, c, d⟩ := ih h5 t ht
      exact ⟨a, by omega, c, d⟩
theorem tsksB_rise {nx nw : Int} : ∀ {last : Int} {ss : List Tsk}, tsksB nx nw last ss = true → ss.Pairwise (fun s t => s.ti < t.ti) := by
  intro last ss
  induction ss generalizing last with
  | nil => intro _; exact List.Pairwise.nil
  | cons s r ih =>
    intro h
    simp only [tsksB, Bool.and_eq_true, decide_eq_true_eq] at h
    obtain ⟨h1, h2, h3, h4, h5⟩ := h
    exact List.Pairwise.cons (fun t ht => (tsksB_all h5 t ht).2.1) (ih h5)
/-- The place of the first task with that Id; -1 where there is none. -/
def atV (ss : List Tsk) (id : Int) : Int := match ss.findIdx? (fun t => t.ti == id) with | some k => (k : Int) | none => -1
theorem atV_some {ss : List Tsk} {id : Int} {k : Nat} {t : Tsk} (h : ss[k]? = some t) (h2 : t.ti = id) (h3 : ∀ (j : Nat) (s : Tsk), j < k → ss[j]? = some s → s.ti ≠ id) : atV ss id = k ∧ findT ss id = some t := by
  obtain ⟨hk, e⟩ := List.getElem?_eq_some_iff.1 h
  constructor
  · have : ss.findIdx? (fun t => t.ti == id) = some k := by
      rw [List.findIdx?_eq_some_iff_getElem]
      refine ⟨hk, by rw [e]; simp [h2], fun j hj => ?_⟩
      have := h3 j _ hj (List.getElem?_eq_getElem (by omega))
      simp [this]
    simp [atV, this]
  · unfold findT
    rw [List.find?_eq_some_iff_getElem]
    refine ⟨by simp [h2], k, hk, e, fun j hj => ?_⟩
    have := h3 j _ hj (List.getElem?_eq_getElem (by omega))
    simp [this]
theorem atV_none {ss : List Tsk} {id : Int} (h3 : ∀ (j : Nat) (s : Tsk), ss[j]? = some s → s.ti ≠ id) : atV ss id = -1 ∧ findT ss id = none := by
  constructor
  · have : ss.findIdx? (fun t => t.ti == id) = none := by
      rw [List.findIdx?_eq_none_iff]
      intro t ht
      obtain ⟨j, hj, rfl⟩ := List.getElem_of_mem ht
      have := h3 j _ (List.getElem?_eq_getElem hj)
      simpa using this
    simp [atV, this]
  · unfold findT
    rw [List.find?_eq_none]
    intro t ht
    obtain ⟨j, hj, rfl⟩ := List.getElem_of_mem ht
    have := h3 j _ (List.getElem?_eq_getElem hj)
    simpa using this
/-- Either there is one, at its place, or none. -/
theorem at_cases (ss : List Tsk) (id : Int) : (∃ (k : Nat) (t : Tsk), ss[k]? = some t ∧ t.ti = id ∧ atV ss id = k ∧ findT ss id = some t) ∨ (atV ss id = -1 ∧ findT ss id = none) := by
  rcases hf : ss.findIdx? (fun t => t.ti == id) with _ | k
  · right
    rw [List.findIdx?_eq_none_iff] at hf
    exact atV_none fun j s hj e => by have := hf s (List.mem_of_getElem? hj); simp [e] at this
  · left
    rw [List.findIdx?_eq_some_iff_getElem] at hf
    obtain ⟨hk, he, hne⟩ := hf
    have h1 : ss[k]? = some (ss[k]'hk) := List.getElem?_eq_getElem hk
    have h2 : (ss[k]'hk).ti = id := by simpa using he
    have h4 := atV_some h1 h2 (fun j s hj hs e => by
      obtain ⟨hj', e'⟩ := List.getElem?_eq_some_iff.1 hs
      have := hne j hj
      rw [e'] at this
      simp [e] at this)
    exact ⟨k, _, h1, h2, h4.1, h4.2⟩
end Qt
end Go.Proofs.Ytihnpfcjnfkfjaa
