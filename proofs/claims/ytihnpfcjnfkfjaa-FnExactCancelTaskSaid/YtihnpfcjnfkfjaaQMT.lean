/- A map of tasks by their Ids, known by its keys: how it reads, its sorted keys, and what becomes of it when a task goes, comes or is changed. Conditions: the map is one of the call's own. -/
import Derived.Test.YtihnpfcjnfkfjaaQSorted
import Derived.Test.YtihnpfcjnfkfjaaQSchC
namespace Go.Proofs.Ytihnpfcjnfkfjaa
open Go.RowKit Go.Maps Go.Sort
set_option linter.unusedSimpArgs false
set_option linter.unusedVariables false
namespace Qt
/-- The map reads as the tasks, by their Ids. -/
structure MT (w : World) (D : DataW Value) (ss : List Tsk) : Prop where
  hit : ∀ t ∈ ss, Maps.has D (.int .i64 t.ti) = true ∧ ∃ P : TskP, (∀ z, D.atKey (.int .i64 t.ti) z = .held (TV t P)) ∧ RdI w P.A P.n t.xs ∧ P.n ≤ P.p
  miss : ∀ x : Int, (∀ t ∈ ss, t.ti ≠ x) → Maps.has D (.int .i64 x) = false
theorem MT.of_below {w w' : World} {D : DataW Value} {ss : List Tsk} (h : MT w D ss) (hb : Below w.heap.size w w') : MT w' D ss := ⟨fun t ht => by
  obtain ⟨h1, P, h2, h3, h4⟩ := h.hit t ht
  exact ⟨h1, P, h2, h3.of_below hb, h4⟩, h.miss⟩
theorem MT.of_ent {w : World} {ss : List Tsk} {es : List (Int × Value)} (he : Ent w ss es) (hce : CapE ss es) (hd : ss.Pairwise (fun s t => s.ti < t.ti)) : MT w (mapOf es) ss := ⟨fun t ht => by
  obtain ⟨i, hi, e⟩ := List.getElem_of_mem ht
  have hi' : ss[i]? = some t := by rw [List.getElem?_eq_getElem hi, e]
  obtain ⟨P, hes, hr⟩ := he.2 i t hi'
  obtain ⟨P', hes', hc⟩ := hce i t hi'
  rw [hes] at hes'
  have hPP : P = P' := by
    obtain ⟨a1, a2, a3⟩ := P
    obtain ⟨b1, b2, b3⟩ := P'
    simpa [TV] using hes'
  subst hPP
  have hh := mapOf_hit (he.apart hd) (List.mem_of_getElem? hes)
  exact ⟨hh.1, P, hh.2, hr, hc⟩, fun x hx => (mapOf_miss (es := es) (id := x) (fun p hp e => by
    obtain ⟨t, ht, h2⟩ := he.mem hp
    exact hx t ht (by rw [← h2, e]))).1⟩
theorem lit_ne {a b : Int} (h : a ≠ b) : (Lit.int .i64 a) ≠ .int .i64 b := fun e => h (by injection e)
/-- A task goes. -/
theorem MT.del {w : World} {D : DataW Value} {ss : List Tsk} (h : MT w D ss) (id : Int) : MT w (D.del (.int .i64 id)) (ss.filter (fun t => decide (t.ti ≠ id))) := ⟨fun t ht => by
  obtain ⟨hm, hne⟩ := List.mem_filter.1 ht
  have hne : t.ti ≠ id := by simpa using hne
  obtain ⟨h1, P, h2, h3⟩ := h.hit t hm
  exact ⟨by rw [has_del_other (lit_ne hne)]; exact h1, P, fun z => by rw [atKey_del_other (lit_ne hne)]; exact h2 z, h3⟩, fun x hx => by
  by_cases e : x = id
  · subst e
    exact has_del_same
  · rw [has_del_other (lit_ne e)]
    exact h.miss x (fun t ht e2 => hx t (List.mem_filter.2 ⟨ht, by simp; omega⟩) e2)⟩
/-- A task comes. -/
theorem MT.add {w : World} {D : DataW Value} {ss : List Tsk} (h : MT w D ss) (hD : IsMap D) {t : Tsk} {P : TskP} (hr : RdI w P.A P.n t.xs) (hc : P.n ≤ P.p) (hn : ∀ s ∈ ss, s.ti ≠ t.ti) : MT w (D.put (.int .i64 t.ti) (.held (TV t P))) (ss ++ [t]) := ⟨fun s hs => by
  rcases List.mem_append.1 hs with hs | hs
  · obtain ⟨h1, Q, h2, h3⟩ := h.hit s hs
    have hne := lit_ne (hn s hs)
    exact ⟨by rw [has_put_other hne]; exact h1, Q, fun z => by rw [atKey_put_other hne]; exact h2 z, h3⟩
  · obtain rfl : s = t := by simpa using hs
    exact ⟨has_put_same hD (k := .int .i64 s.ti) trivial _, P, fun z => atKey_put_same hD (k := .int .i64 s.ti) trivial _ z, hr, hc⟩, fun x hx => by
  have h1 := hx t (by simp)
  rw [has_put_other (lit_ne (Ne.symm h1))]
  exact h.miss x (fun s hs => hx s (List.mem_append_left _ hs))⟩
/-- A task is changed. -/
theorem MT.turn {w : World} {D : DataW Value} {ss : List Tsk} (h : MT w D ss) (hD : IsMap D) {t : Tsk} {P : TskP} (hr : RdI w P.A P.n t.xs) (hc : P.n ≤ P.p) (hex : ∃ s ∈ ss, s.ti = t.ti) : MT w (D.put (.int .i64 t.ti) (.held (TV t P))) (ss.map (fun s => if s.ti = t.ti then t else s)) := ⟨fun u hu => by
  obtain ⟨s, hs, e⟩ := List.mem_map.1 hu
  by_cases hst : s.ti = t.ti
  · rw [if_pos hst] at e
    subst e
    exact ⟨has_put_same hD (k := .int .i64 t.ti) trivial _, P, fun z => atKey_put_same hD (k := .int .i64 t.ti) trivial _ z, hr, hc⟩
  · rw [if_neg hst] at e
    subst e
    obtain ⟨h1, Q, h2, h3⟩ := h.hit s hs
    have hne := lit_ne hst
    exact ⟨by rw [has_put_other hne]; exact h1, Q, fun z => by rw [atKey_put_other hne]; exact h2 z, h3⟩, fun x hx => by
  obtain ⟨s, hs, hst⟩ := hex
  have h1 : t.ti ≠ x := hx t (List.mem_map.2 ⟨s, hs, by rw [if_pos hst]⟩)
  rw [has_put_other (lit_ne (Ne.symm h1))]
  refine h.miss x (fun s' hs' e => ?_)
  by_cases hst' : s'.ti = t.ti
  · exact h1 (by rw [← hst', e])
  · exact hx s' (List.mem_map.2 ⟨s', hs', by rw [if_neg hst']⟩) e⟩
/-- The keys are the Ids. -/
theorem MT.keys {ss : List Tsk} {w w0 : World} {D : DataW Value} {b n : Nat} (hm : w.ownsMap Try.prog 3 asV b n D) (he : MT w0 D ss) (hd : ss.Pairwise (fun s t => s.ti < t.ti)) : (ss.map Tsk.ti).Perm (intKeys D) := by
  refine CollectedI.perm (left := fun _ => false) ⟨?_, fun x => ⟨fun hx => ⟨?_, rfl⟩, fun h => ?_⟩⟩ hm keyI Try.underlying3 (fun _ => rfl)
  · rw [List.nodup_iff_pairwise_ne, List.pairwise_map]
    exact hd.imp (fun h => by omega)
  · obtain ⟨t, ht, rfl⟩ := List.mem_map.1 hx
    exact (he.hit t ht).1
  · apply Classical.byContradiction
    intro hno
    have := he.miss x (fun t ht e => hno (List.mem_map.2 ⟨t, ht, e⟩))
    rw [h.1] at this
    cases this
theorem idsM {b n : Nat} {ss : List Tsk} {D : DataW Value} {w w0 : World} (hm : w.ownsMap Try.prog 3 asV b n D) (he : MT w0 D ss) (hd : ss.Pairwise (fun s t => s.ti < t.ti)) (hn : n ≤ 1000) :
    Calls Try.prog 77 #[.func (.func 89) #[] #[.pointer (some ⟨w.heap.size, 0, none⟩)]] (w.alloc (.cells #[.map (some b)] 56)) fun e w' => ∃ v : Value, e = .returned v ∧
      w'.ownsRow (w.heap.size + 1) 3 1 v ss.length ((ss.map Tsk.ti).map (Value.int .i64)) ∧ Below (w.heap.size + 1) (w.alloc (.cells #[.map (some b)] 56)) w' := by
  have hsz := hm.size_le
  refine (sortedC hm (by unfold maxLen; omega) (by omega)).mono ?_
  rintro e w' ⟨v, ids, rfl, hS, hrow, _, hb⟩
  have hp := (hS.trans (MT.keys hm he hd).symm)
  rw [sort_rise hd hp, hp.length_eq, List.length_map] at hrow
  exact ⟨v, rfl, hrow, hb⟩
theorem lookM {w : World} {b n : Nat} {D : DataW Value} (h : w.ownsMap Try.prog 3 asV b n D) {id : Int} {v : Value} (h2 : ∀ z, D.atKey (.int .i64 id) z = .held v) (hw : (Lit.int .i64 id).wf = true) :
    (Instr.lookup 56 (.map (some b)) (.int .i64 id) false).run Try.prog w = .ok v w := by
  obtain ⟨u, ps, hrun, hat⟩ := h.lookup keyI Try.underlying56 (zeroTkE w) (zd := .held zeroTk) (zp := []) rfl (Maps.keyOf_int_mk Try.underlying3 hw)
  rw [h2] at hat
  have : u = v := by simpa [asV] using congrArg (fun o => o.map Prod.fst) hat
  rw [hrun, this]
end Qt
end Go.Proofs.Ytihnpfcjnfkfjaa
