/- What PickNext gives, as a number: the first of those with the least number of their kind. No conditions. -/
import Derived.Test.YtihnpfcjnfkfjaaQFitMath
namespace Go.Proofs.Ytihnpfcjnfkfjaa
open Go.RowKit
namespace Qt
def minF (f : Tsk → Int) (o : Option Tsk) (t : Tsk) : Option Tsk := match o with | none => some t | some m => if f t < f m then some t else some m
/-- The first of those with the least number. -/
def minBy (f : Tsk → Int) (l : List Tsk) : Option Tsk := l.foldl (minF f) none
theorem minBy_snoc (f : Tsk → Int) (l : List Tsk) (t : Tsk) : minBy f (l ++ [t]) = minF f (minBy f l) t := by simp [minBy, List.foldl_append]
theorem minF_some (f : Tsk → Int) (o : Option Tsk) (t : Tsk) : ∃ m, minF f o t = some m ∧ (m = t ∨ o = some m) := by
  cases o with
  | none => exact ⟨t, rfl, .inl rfl⟩
  | some m =>
    simp only [minF]
    split
    · exact ⟨t, rfl, .inl rfl⟩
    · exact ⟨m, rfl, .inr rfl⟩
theorem minBy_mem {f : Tsk → Int} : ∀ {l : List Tsk} {o : Option Tsk} {m : Tsk}, l.foldl (minF f) o = some m → m ∈ l ∨ o = some m := by
  intro l
  induction l with
  | nil => intro o m h; exact .inr h
  | cons a r ih =>
    intro o m h
    rcases ih h with h1 | h1
    · exact .inl (List.mem_cons_of_mem _ h1)
    · obtain ⟨x, hx, hxx⟩ := minF_some f o a
      rw [hx] at h1
      cases h1
      rcases hxx with rfl | h2
      · exact .inl List.mem_cons_self
      · exact .inr h2
theorem minBy_in {f : Tsk → Int} {l : List Tsk} {m : Tsk} (h : minBy f l = some m) : m ∈ l := by
  rcases minBy_mem h with h | h
  · exact h
  · cases h
theorem minBy_none {f : Tsk → Int} {l : List Tsk} : minBy f l = none ↔ l = [] := by
  constructor
  · intro h
    rcases List.eq_nil_or_concat l with rfl | ⟨r, a, rfl⟩
    · rfl
    · rw [List.concat_eq_append, minBy_snoc] at h
      obtain ⟨x, hx, _⟩ := minF_some f (minBy f r) a
      rw [hx] at h
      cases h
  · rintro rfl
    rfl
def inT (nw : Int) (ss : List Tsk) : List Tsk := ss.filter (fun t => decide (nw < t.td))
def oldT (nw : Int) (ss : List Tsk) : List Tsk := ss.filter (fun t => decide (t.td ≤ nw))
def turnB (ag tu : Int) : Bool := decide (0 < ag) && decide (tu % ag = 0)
def ti? : Option Tsk → Int
  | none => 0
  | some t => t.ti
/-- The Id of the next one, 0 for none. -/
def pickL (nw ag tu : Int) (ss : List Tsk) : Option Tsk :=
  if turnB ag tu then (minBy Tsk.tb (oldT nw ss)).or (minBy Tsk.td (inT nw ss)) else (minBy Tsk.td (inT nw ss)).or (minBy Tsk.tb (oldT nw ss))
def pickW (nw sk ag : Int) (ss : List Tsk) (rn lf tu nx : Int) : Int := if schB nw sk ag ss rn lf tu nx then ti? (pickL nw ag tu ss) else 0
theorem inT_take {nw : Int} {ss : List Tsk} {j : Nat} {s : Tsk} (h : ss[j]? = some s) : inT nw (ss.take (j + 1)) = inT nw (ss.take j) ++ (if nw < s.td then [s] else []) := by
  rw [List.take_add_one, h, inT, List.filter_append]
  congr 1
  by_cases hs : nw < s.td <;> simp [hs]
theorem oldT_take {nw : Int} {ss : List Tsk} {j : Nat} {s : Tsk} (h : ss[j]? = some s) : oldT nw (ss.take (j + 1)) = oldT nw (ss.take j) ++ (if s.td ≤ nw then [s] else []) := by
  rw [List.take_add_one, h, oldT, List.filter_append]
  congr 1
  by_cases hs : s.td ≤ nw <;> simp [hs]
/-- What the model keeps: the place of the first of those with the least number, -1 for none. -/
def Spot (ss : List Tsk) (o : Option Tsk) (x : Int) : Prop := (o = none ∧ x = -1) ∨ ∃ (i : Nat) (t : Tsk), o = some t ∧ x = i ∧ ss[i]? = some t
end Qt
end Go.Proofs.Ytihnpfcjnfkfjaa
