/- Maps from an int to whole values, as they are read by key: what a look-up and a store give. Conditions: the keys are ints. -/
import Derived.Test.YtihnpfcjnfkfjaaSchMath
import Derived.Test.YtihnpfcjnfkfjaaOpenB
import Derived.Maps.Own
import Derived.Maps.OwnSet
namespace Go.Proofs.Ytihnpfcjnfkfjaa
open Go.RowKit Go.Sort
set_option linter.unusedSimpArgs false
set_option linter.unusedVariables false
namespace Qt
theorem wf_small {x : Int} (h : -1000000000 ≤ x ∧ x ≤ 1000000000) : (Lit.int .i64 x).wf = true := by
  simp only [Lit.wf, Bool.and_eq_true, decide_eq_true_eq]
  have h1 : IntKind.i64.min = -9223372036854775808 := by decide
  have h2 : IntKind.i64.max = 9223372036854775807 := by decide
  rw [h1, h2]
  omega
/-- An element stands for itself. -/
def asV (v : Value) : Option (DataW Value × List MemPlace) := some (.held v, [])
def mapOf (es : List (Int × Value)) : DataW Value := es.foldl (fun D p => D.put (.int .i64 p.1) (.held p.2)) (.map [])
theorem mapOf_snoc (es : List (Int × Value)) (p : Int × Value) : mapOf (es ++ [p]) = (mapOf es).put (.int .i64 p.1) (.held p.2) := by simp [mapOf, List.foldl_append]
theorem key_ne {a b : Int} (h : a ≠ b) : (Lit.int .i64 a) ≠ .int .i64 b := fun e => h (by injection e)
theorem isMap_fold (es : List (Int × Value)) (D : DataW Value) (h : Maps.IsMap D) : Maps.IsMap (es.foldl (fun D p => D.put (.int .i64 p.1) (.held p.2)) D) := by
  induction es generalizing D with
  | nil => exact h
  | cons p r ih => exact ih _ (h.put _ _)
theorem fold_miss (es : List (Int × Value)) (D : DataW Value) {id : Int} (h : ∀ p ∈ es, p.1 ≠ id) : Maps.has (es.foldl (fun D p => D.put (.int .i64 p.1) (.held p.2)) D) (.int .i64 id) = Maps.has D (.int .i64 id) ∧ ∀ z, (es.foldl (fun D p => D.put (.int .i64 p.1) (.held p.2)) D).atKey (.int .i64 id) z = D.atKey (.int .i64 id) z := by
  induction es generalizing D with
  | nil => exact ⟨rfl, fun _ => rfl⟩
  | cons p r ih =>
    have hp : p.1 ≠ id := h p (List.mem_cons_self ..)
    obtain ⟨h1, h2⟩ := ih (D.put (.int .i64 p.1) (.held p.2)) (fun q hq => h q (List.mem_cons_of_mem _ hq))
    rw [List.foldl_cons]
    exact ⟨h1.trans (Maps.has_put_other (key_ne hp.symm) _), fun z => (h2 z).trans (Maps.atKey_put_other (key_ne hp.symm) _ z)⟩
theorem fold_hit (es : List (Int × Value)) (D : DataW Value) (hD : Maps.IsMap D) (hd : es.Pairwise (fun p q => p.1 ≠ q.1)) {id : Int} {v : Value} (h : (id, v) ∈ es) : Maps.has (es.foldl (fun D p => D.put (.int .i64 p.1) (.held p.2)) D) (.int .i64 id) = true ∧ ∀ z, (es.foldl (fun D p => D.put (.int .i64 p.1) (.held p.2)) D).atKey (.int .i64 id) z = .held v := by
  induction es generalizing D with
  | nil => cases h
  | cons p r ih =>
    rw [List.foldl_cons]
    rw [List.pairwise_cons] at hd
    rcases List.mem_cons.1 h with rfl | hr
    · obtain ⟨h1, h2⟩ := fold_miss r (D.put (.int .i64 id) (.held v)) (id := id) (fun q hq => (hd.1 q hq).symm)
      exact ⟨h1.trans (Maps.has_put_same hD (k := .int .i64 id) trivial _), fun z => (h2 z).trans (Maps.atKey_put_same hD (k := .int .i64 id) trivial _ z)⟩
    · exact ih _ (hD.put _ _) hd.2 hr
theorem mapOf_miss {es : List (Int × Value)} {id : Int} (h : ∀ p ∈ es, p.1 ≠ id) : Maps.has (mapOf es) (.int .i64 id) = false ∧ ∀ z, (mapOf es).atKey (.int .i64 id) z = z := by
  obtain ⟨h1, h2⟩ := fold_miss es (.map []) h
  exact ⟨h1.trans rfl, fun z => (h2 z).trans rfl⟩
theorem mapOf_hit {es : List (Int × Value)} (hd : es.Pairwise (fun p q => p.1 ≠ q.1)) {id : Int} {v : Value} (h : (id, v) ∈ es) : Maps.has (mapOf es) (.int .i64 id) = true ∧ ∀ z, (mapOf es).atKey (.int .i64 id) z = .held v := fold_hit es (.map []) Maps.isMap_empty hd h
def zeroTk : Value := .agg #[.int .i64 0, .slice none 0 0, .int .i64 0, .int .i64 0, .int .i64 0]
theorem zeroTkE (w : World) : (zeroValue 53).run Try.prog w = .ok zeroTk w := by kernel_rfl
theorem keyI : Maps.Keyed Try.prog 3 := Maps.int_keyed Try.underlying3
section
variable {w : World} {b n : Nat} {es : List (Int × Value)}
theorem look_hit (h : w.ownsMap Try.prog 3 asV b n (mapOf es)) (hd : es.Pairwise (fun p q => p.1 ≠ q.1)) {id : Int} {v : Value} (hv : (id, v) ∈ es) (hw : (Lit.int .i64 id).wf = true) :
    (Instr.lookup 56 (.map (some b)) (.int .i64 id) true).run Try.prog w = .ok (.tuple #[v, .bool true]) w := by
  obtain ⟨u, ps, hrun, hat⟩ := h.look_ok keyI Try.underlying56 (zeroTkE w) (zd := .held zeroTk) (zp := []) rfl (Maps.keyOf_int_mk Try.underlying3 hw)
  obtain ⟨h1, h2⟩ := mapOf_hit hd hv
  rw [h1] at hrun
  rw [h2] at hat
  have : u = v := by simpa [asV] using congrArg (fun o => o.map Prod.fst) hat
  rw [hrun, this]
theorem look_miss (h : w.ownsMap Try.prog 3 asV b n (mapOf es)) {id : Int} (hv : ∀ p ∈ es, p.1 ≠ id) (hw : (Lit.int .i64 id).wf = true) :
    (Instr.lookup 56 (.map (some b)) (.int .i64 id) true).run Try.prog w = .ok (.tuple #[zeroTk, .bool false]) w := by
  obtain ⟨u, ps, hrun, hat⟩ := h.look_ok keyI Try.underlying56 (zeroTkE w) (zd := .held zeroTk) (zp := []) rfl (Maps.keyOf_int_mk Try.underlying3 hw)
  obtain ⟨h1, h2⟩ := mapOf_miss hv
  rw [h1] at hrun
  rw [h2] at hat
  have : u = zeroTk := by simpa [asV] using congrArg (fun o => o.map Prod.fst) hat
  rw [hrun, this]
theorem look_none {id : Int} (hw : (Lit.int .i64 id).wf = true) : (Instr.lookup 56 (.map none) (.int .i64 id) true).run Try.prog w = .ok (.tuple #[zeroTk, .bool false]) w :=
  Maps.look_nil true keyI Try.underlying56 (zeroTkE w) (Maps.keyOf_int_mk Try.underlying3 hw)
theorem put_run (h : w.ownsMap Try.prog 3 asV b n (mapOf es)) (hn : n < 1000) (id : Int) (v : Value) (hw : (Lit.int .i64 id).wf = true) :
    ∃ w', (Instr.mapUpdate 56 (.map (some b)) (.int .i64 id) v).run Try.prog w = .ok () w' ∧ w'.ownsMap Try.prog 3 asV b (n + 1) (mapOf (es ++ [(id, v)])) ∧ w.grownBy w' (some b) := by
  obtain ⟨w', h1, h2, h3⟩ := h.update keyI Try.underlying56 (by unfold maxLen; omega) (Maps.keyOf_int_mk Try.underlying3 hw) (show asV v = some (.held v, []) from rfl)
  exact ⟨w', h1, by rw [mapOf_snoc]; exact h2, h3⟩
theorem ownsMap_below {w' : World} {D : DataW Value} (h : w.ownsMap Try.prog 3 asV b n D) (hb : Below w.heap.size w w') : w'.ownsMap Try.prog 3 asV b n D := by
  have hlt := h.lt
  obtain ⟨es, clock, hbk, F, hs, hD⟩ := h
  exact ⟨es, clock, (hb.block b hlt).trans hbk, F, hs, hD⟩
end
/-- A task as a value, its costs at P. -/
def TV (t : Tsk) (P : TskP) : Value := .agg #[.int .i64 t.ti, .slice P.A P.n P.p, .int .i64 t.ta, .int .i64 t.td, .int .i64 t.tb]
/-- The entries of the map that stands for the tasks: each by its Id, its costs where they lie. -/
def Ent (w : World) (ss : List Tsk) (es : List (Int × Value)) : Prop := es.length = ss.length ∧ ∀ (j : Nat) (t : Tsk), ss[j]? = some t → ∃ P, es[j]? = some (t.ti, TV t P) ∧ RdI w P.A P.n t.xs
theorem Ent.of_below {w w' : World} {ss : List Tsk} {es : List (Int × Value)} (h : Ent w ss es) (hb : Below w.heap.size w w') : Ent w' ss es := ⟨h.1, fun j t ht => by
  obtain ⟨P, h1, h2⟩ := h.2 j t ht
  exact ⟨P, h1, h2.of_below hb⟩⟩
theorem Ent.mem {w : World} {ss : List Tsk} {es : List (Int × Value)} (h : Ent w ss es) {p : Int × Value} (hp : p ∈ es) : ∃ t ∈ ss, p.1 = t.ti := by
  obtain ⟨j, hj, rfl⟩ := List.getElem_of_mem hp
  have hs : ss[j]? = some (ss[j]'(by rw [← h.1]; exact hj)) := List.getElem?_eq_getElem _
  obtain ⟨P, h1, _⟩ := h.2 j _ hs
  rw [List.getElem?_eq_getElem hj] at h1
  exact ⟨_, List.mem_of_getElem? hs, by rw [Option.some.inj h1]⟩
theorem Ent.apart {w : World} {ss : List Tsk} {es : List (Int × Value)} (h : Ent w ss es) (hr : ss.Pairwise (fun s t => s.ti < t.ti)) : es.Pairwise (fun p q => p.1 ≠ q.1) := by
  rw [List.pairwise_iff_getElem] at hr ⊢
  intro i j hi hj hij
  have hi' : ss[i]? = some (ss[i]'(by rw [← h.1]; exact hi)) := List.getElem?_eq_getElem _
  have hj' : ss[j]? = some (ss[j]'(by rw [← h.1]; exact hj)) := List.getElem?_eq_getElem _
  obtain ⟨P, h1, _⟩ := h.2 i _ hi'
  obtain ⟨Q, h2, _⟩ := h.2 j _ hj'
  rw [List.getElem?_eq_getElem hi] at h1
  rw [List.getElem?_eq_getElem hj] at h2
  rw [Option.some.inj h1, Option.some.inj h2]
  have := hr i j (by rw [← h.1]; exact hi) (by rw [← h.1]; exact hj) hij
  simp only
  omega
/-- Each task's slice of costs has room for what it holds. -/
def CapTsk (w : World) (A : Option Addr) (ss : List Tsk) : Prop := ∀ b off, A = some ⟨b, off, none⟩ → b < w.heap.size → ∀ (j : Nat) (t : Tsk) (P : TskP), ss[j]? = some t → TskAt w b (off + j * 5) t P → P.n ≤ P.p
def CapE (ss : List Tsk) (es : List (Int × Value)) : Prop := ∀ (j : Nat) (t : Tsk), ss[j]? = some t → ∃ P, es[j]? = some (t.ti, TV t P) ∧ P.n ≤ P.p
/-- A slice that reads as the tasks, whose costs have room. -/
def RdC (w : World) (A : Option Addr) (n : Nat) (ss : List Tsk) : Prop := RdTsk w A n ss ∧ CapTsk w A ss
theorem CapTsk.of_below {w w' : World} {A : Option Addr} {n : Nat} {ss : List Tsk} (hr : RdTsk w A n ss) (h : CapTsk w A ss) (hb : Below w.heap.size w w') : CapTsk w' A ss := fun b off e hlt j t P hj ht => by
  have hn : 0 < n := by have := (List.getElem?_eq_some_iff.1 hj).1; have := hr.1; omega
  obtain ⟨b0, off0, e0, hlt0, hc⟩ := hr.2 hn
  rw [e] at e0
  cases e0
  obtain ⟨Q, hQ⟩ := hc j t hj
  have h2 := h b off e hlt0 j t Q hj hQ
  have c1 := (hQ.of_below hlt0 hb).1 1 _ rfl
  have c2 := ht.1 1 _ rfl
  rw [c1] at c2
  simp only [Option.some.injEq, Value.slice.injEq] at c2
  omega
theorem RdC.rd {w : World} {A : Option Addr} {n : Nat} {ss : List Tsk} (h : RdC w A n ss) : RdTsk w A n ss := h.1
theorem RdC.of_below {w w' : World} {A : Option Addr} {n : Nat} {ss : List Tsk} (h : RdC w A n ss) (hb : Below w.heap.size w w') : RdC w' A n ss := ⟨h.1.of_below hb, h.2.of_below h.1 hb⟩
/-- The entries of a slice of tasks. -/
theorem ent_of {W : World} {A : Option Addr} {n : Nat} {ss : List Tsk} (h : RdTsk W A n ss) : ∃ es, Ent W ss es ∧ ∀ (j : Nat) (t : Tsk), ss[j]? = some t → ∃ P, es[j]? = some (t.ti, TV t P) ∧ ∀ b off, A = some ⟨b, off, none⟩ → TskAt W b (off + j * 5) t P := by
  obtain ⟨es, hl, hR⟩ := exists_list n (fun j (e : Int × Value) => ∀ t, ss[j]? = some t → ∃ P, e = (t.ti, TV t P) ∧ ∀ b off, A = some ⟨b, off, none⟩ → TskAt W b (off + j * 5) t P) (fun j hj => by
    obtain ⟨b, off, e, hlt, hc⟩ := h.2 (by omega)
    have hs : ss[j]? = some (ss[j]'(by rw [h.1]; exact hj)) := List.getElem?_eq_getElem _
    obtain ⟨P, hP⟩ := hc j _ hs
    refine ⟨((ss[j]'(by rw [h.1]; exact hj)).ti, TV (ss[j]'(by rw [h.1]; exact hj)) P), fun t ht => ?_⟩
    rw [hs] at ht
    cases ht
    refine ⟨P, rfl, fun b' off' e' => ?_⟩
    rw [e] at e'
    cases e'
    exact hP)
  have hall : ∀ (j : Nat) (t : Tsk), ss[j]? = some t → ∃ P, es[j]? = some (t.ti, TV t P) ∧ ∀ b off, A = some ⟨b, off, none⟩ → TskAt W b (off + j * 5) t P := fun j t ht => by
    have hj : j < n := by have := (List.getElem?_eq_some_iff.1 ht).1; have := h.1; omega
    have he : es[j]? = some (es[j]'(by omega)) := List.getElem?_eq_getElem _
    obtain ⟨P, h1, h2⟩ := hR j _ he t ht
    exact ⟨P, by rw [he, h1], h2⟩
  refine ⟨es, ⟨by rw [hl, h.1], fun j t ht => ?_⟩, hall⟩
  obtain ⟨P, h1, h2⟩ := hall j t ht
  have hj : j < n := by have := (List.getElem?_eq_some_iff.1 ht).1; have := h.1; omega
  obtain ⟨b, off, e, hlt, hc⟩ := h.2 (by omega)
  exact ⟨P, h1, (h2 b off e).2⟩
end Qt
end Go.Proofs.Ytihnpfcjnfkfjaa
