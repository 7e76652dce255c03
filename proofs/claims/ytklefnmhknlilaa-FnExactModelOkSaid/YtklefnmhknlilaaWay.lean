/- Plain numbers: the shapes behind the layers of a model. No conditions. -/
import Derived.Test.YtklefnmhknlilaaLays
import Derived.Test.YtklefnmhknlilaaOutMath
namespace Go.Proofs.Ytklefnmhknlilaa
open Go.RowKit
namespace Qt
abbrev Sh := Int × Int × Int
def outY (s : Sh) (l : Lay) : Option Sh := outL s.1 s.2.1 s.2.2 l.k l.o l.s l.t l.m l.f l.z l.xs l.ys
def wayStep (a : Option (List Sh × Sh)) (l : Lay) : Option (List Sh × Sh) := match a with
  | none => none
  | some (ss, s) => match outY s l with
    | none => none
    | some s' => some (ss ++ [s'], s')
/-- The shapes, the first one and the one behind each layer, and the last of them; nothing where a layer is not right. -/
def way (s : Sh) (ls : List Lay) : Option (List Sh × Sh) := ls.foldl wayStep (some ([s], s))
def modW (s : Sh) (ls : List Lay) : Option (List Sh × Sh) := if 1 ≤ ls.length ∧ ls.length ≤ 6 then way s ls else none
theorem way_nil (s : Sh) : way s [] = some ([s], s) := rfl
theorem fold_none (ls : List Lay) : ls.foldl wayStep none = none := by
  induction ls with
  | nil => rfl
  | cons l r ih => simpa [wayStep] using ih
theorem way_snoc (s : Sh) (ls : List Lay) (l : Lay) : way s (ls ++ [l]) = wayStep (way s ls) l := by simp [way, List.foldl_append]
theorem way_take {s : Sh} {ls : List Lay} {j : Nat} {l : Lay} (h : ls[j]? = some l) : way s (ls.take (j + 1)) = wayStep (way s (ls.take j)) l := by
  rw [List.take_add_one, h]
  exact way_snoc s _ l
theorem way_stop {s : Sh} {ls : List Lay} {j : Nat} (h : way s (ls.take j) = none) : way s ls = none := by
  conv => lhs; rw [← List.take_append_drop j ls]
  unfold way at *
  rw [List.foldl_append, h, fold_none]
theorem way_go {s : Sh} {ls : List Lay} {j : Nat} {l : Lay} {ss : List Sh} {e e' : Sh} (h : ls[j]? = some l) (hw : way s (ls.take j) = some (ss, e)) (ho : outY e l = some e') : way s (ls.take (j + 1)) = some (ss ++ [e'], e') := by
  rw [way_take h, hw]
  simp [wayStep, ho]
theorem way_bad {s : Sh} {ls : List Lay} {j : Nat} {l : Lay} {ss : List Sh} {e : Sh} (h : ls[j]? = some l) (hw : way s (ls.take j) = some (ss, e)) (ho : outY e l = none) : way s ls = none := by
  refine way_stop (j := j + 1) ?_
  rw [way_take h, hw]
  simp [wayStep, ho]
theorem wayStep_some {a : Option (List Sh × Sh)} {l : Lay} {r : List Sh × Sh} (h : wayStep a l = some r) : ∃ ss e e', a = some (ss, e) ∧ outY e l = some e' ∧ r = (ss ++ [e'], e') := by
  rcases a with _ | ⟨ss, e⟩
  · simp [wayStep] at h
  · simp only [wayStep] at h
    split at h
    · cases h
    · rename_i e' he
      exact ⟨ss, e, e', rfl, he, by cases h; rfl⟩
/-- How the shapes stand to the layers: as many and one more, each is what the layer gives for the one ahead, the last is the last. -/
theorem way_facts {s : Sh} {ls : List Lay} {ss : List Sh} {e : Sh} (h : way s ls = some (ss, e)) :
    ss.length = ls.length + 1 ∧ ss[0]? = some s ∧ ss[ls.length]? = some e ∧ ∀ j l, ls[j]? = some l → ∃ a b, ss[j]? = some a ∧ ss[j + 1]? = some b ∧ outY a l = some b := by
  obtain ⟨r, hr⟩ : ∃ r, r = ls.reverse := ⟨_, rfl⟩
  obtain rfl : ls = r.reverse := by rw [hr, List.reverse_reverse]
  clear hr
  induction r generalizing ss e with
  | nil => simp [way] at h; obtain ⟨rfl, rfl⟩ := h; simp
  | cons l r ih =>
    rw [List.reverse_cons, way_snoc] at h
    obtain ⟨ss1, e1, e2, h1, h2, h3⟩ := wayStep_some h
    cases h3
    obtain ⟨k1, k2, k3, k4⟩ := ih h1
    rw [List.reverse_cons]
    simp only [List.length_append, List.length_cons, List.length_nil]
    refine ⟨by omega, ?_, ?_, ?_⟩
    · rw [List.getElem?_append_left (by omega)]; exact k2
    · rw [show r.reverse.length + (0 + 1) = ss1.length by omega, List.getElem?_append_right (Nat.le_refl _)]; simp
    · intro j l' hj
      by_cases hlt : j < r.reverse.length
      · rw [List.getElem?_append_left hlt] at hj
        obtain ⟨a, b, q1, q2, q3⟩ := k4 j l' hj
        exact ⟨a, b, by rw [List.getElem?_append_left (by omega)]; exact q1, by rw [List.getElem?_append_left (by omega)]; exact q2, q3⟩
      · have hj2 : j = r.reverse.length := by have := (List.getElem?_eq_some_iff.1 hj).1; simp at this hlt ⊢; omega
        subst hj2
        rw [List.getElem?_append_right (Nat.le_refl _)] at hj
        simp only [Nat.sub_self, List.getElem?_cons_zero, Option.some.injEq] at hj
        subst hj
        refine ⟨e1, e, ?_, ?_, h2⟩
        · rw [List.getElem?_append_left (by omega)]; exact k3
        · rw [show r.reverse.length + 1 = ss1.length by omega, List.getElem?_append_right (Nat.le_refl _)]; simp
theorem outY_sh {s e : Sh} {l : Lay} (h : outY s l = some e) : shOk s.1 s.2.1 s.2.2 = true := by
  rcases hs : shOk s.1 s.2.1 s.2.2 with _ | _
  · simp [outY, outL, hs] at h
  · rfl
theorem way_noSh {s : Sh} {ls : List Lay} (hs : shOk s.1 s.2.1 s.2.2 = false) (hl : 1 ≤ ls.length) : way s ls = none := by
  have hj : ls[0]? = some (ls[0]'(by omega)) := List.getElem?_eq_getElem _
  refine way_bad (j := 0) hj (by rw [List.take_zero]; exact way_nil s) ?_
  simp [outY, outL, hs]
/-- The cells of a list of shapes, one behind the other. -/
def shC : List Sh → List Value
  | [] => []
  | (a, b, c) :: r => .int .i64 a :: .int .i64 b :: .int .i64 c :: shC r
theorem shC_append (x y : List Sh) : shC (x ++ y) = shC x ++ shC y := by
  induction x with
  | nil => rfl
  | cons a r ih => obtain ⟨a, b, c⟩ := a; simp [shC, ih]
theorem shC_length (x : List Sh) : (shC x).length = x.length * 3 := by
  induction x with
  | nil => rfl
  | cons a r ih => obtain ⟨a, b, c⟩ := a; simp [shC, ih]; omega
theorem shC_at {x : List Sh} {j : Nat} {a b c : Int} (h : x[j]? = some (a, b, c)) : (shC x)[j * 3]? = some (.int .i64 a) ∧ (shC x)[j * 3 + 1]? = some (.int .i64 b) ∧ (shC x)[j * 3 + 2]? = some (.int .i64 c) := by
  induction x generalizing j with
  | nil => simp at h
  | cons e r ih =>
    obtain ⟨x, y, z⟩ := e
    cases j with
    | zero => simp at h; obtain ⟨rfl, rfl, rfl⟩ := h; exact ⟨rfl, rfl, rfl⟩
    | succ j =>
      simp at h
      obtain ⟨h1, h2, h3⟩ := ih h
      rw [show (j + 1) * 3 = j * 3 + 3 by omega]
      exact ⟨h1, h2, h3⟩
end Qt
end Go.Proofs.Ytklefnmhknlilaa
