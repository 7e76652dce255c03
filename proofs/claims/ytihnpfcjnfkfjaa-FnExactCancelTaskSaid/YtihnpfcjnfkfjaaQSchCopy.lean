/- What slices.Clone at tasks and copyOfSched give when they are called: copies in memory of the call's own. Conditions: the slice of tasks reads as the list that is named. -/
import Derived.Test.YtihnpfcjnfkfjaaQSchOut
namespace Go.Proofs.Ytihnpfcjnfkfjaa
open Go.RowKit Go.Sort
set_option linter.unusedSimpArgs false
set_option linter.unusedVariables false
namespace Qt
theorem celTsk_len : ∀ {ss : List Tsk} {Ps : List TskP}, Ps.length = ss.length → (celTsk ss Ps).length = ss.length * 5 := by
  intro ss
  induction ss with
  | nil => intro Ps h; obtain rfl := List.length_eq_zero_iff.1 h; rfl
  | cons x r ih =>
    intro Ps h
    cases Ps with
    | nil => simp at h
    | cons Q q => simp only [celTsk, List.length_append, tskC_len, List.length_cons, ih (by simpa using h)]; omega
theorem celTsk_at {ss : List Tsk} {Ps : List TskP} (h : Ps.length = ss.length) {i : Nat} {v : Value} (hv : (celTsk ss Ps)[i]? = some v) : ∃ s P, ss[i / 5]? = some s ∧ Ps[i / 5]? = some P ∧ (tskC s P)[i % 5]? = some v := by
  have hi := (List.getElem?_eq_some_iff.1 hv).1
  rw [celTsk_len h] at hi
  have h1 : i / 5 < ss.length := by omega
  have hs : ss[i / 5]? = some ss[i / 5] := List.getElem?_eq_getElem h1
  have hP : Ps[i / 5]? = some Ps[i / 5] := List.getElem?_eq_getElem (by rw [h]; exact h1)
  refine ⟨_, _, hs, hP, ?_⟩
  rw [← celTsk_get hs hP (i % 5) (Nat.mod_lt _ (by omega)), ← hv]
  congr 1
  omega
theorem celTsk_set : ∀ {ss : List Tsk} {Ps : List TskP} {k : Nat} {s : Tsk} (P' : TskP), ss[k]? = some s → Ps.length = ss.length → (((((celTsk ss Ps).set (k * 5) (.int .i64 s.ti)).set (k * 5 + 1) (.slice P'.A P'.n P'.p)).set (k * 5 + 2) (.int .i64 s.ta)).set (k * 5 + 3) (.int .i64 s.td)).set (k * 5 + 4) (.int .i64 s.tb) = celTsk ss (Ps.set k P') := by
  intro ss
  induction ss with
  | nil => intro Ps k s P' h; simp at h
  | cons x r ih =>
    intro Ps k s P' h hl
    cases Ps with
    | nil => simp at hl
    | cons Q q =>
      cases k with
      | zero =>
        simp at h
        subst h
        simp [celTsk, tskC]
      | succ k =>
        have h2 := ih (Ps := q) (k := k) P' (by simpa using h) (by simpa using hl)
        rw [List.set_cons_succ, celTsk, celTsk, ← h2]
        rw [show (k + 1) * 5 = 5 + k * 5 by omega]
        have hset : ∀ (l : List Value) (c : Nat) (u : Value), (tskC x Q ++ l).set (5 + k * 5 + c) u = tskC x Q ++ l.set (k * 5 + c) u := fun l c u => by
          rw [List.set_append_right _ _ (by rw [tskC_len]; omega), tskC_len]
          congr 2
          omega
        have h0 := hset (celTsk r q) 0 (.int .i64 s.ti)
        simp only [Nat.add_zero] at h0
        rw [h0, hset, hset, hset, hset]
theorem rows_of {W : World} {A : Option Addr} {n : Nat} {ss : List Tsk} (h : RdTsk W A n ss) : ∃ Qs : List TskP, Qs.length = ss.length ∧ (∀ b off, A = some ⟨b, off, none⟩ → ∀ i v, (celTsk ss Qs)[i]? = some v → W.cell? ⟨b, off + i, none⟩ = some v) ∧ ∀ (j : Nat) (t : Tsk) (Q : TskP), ss[j]? = some t → Qs[j]? = some Q → RdI W Q.A Q.n t.xs := by
  obtain ⟨Qs, hl, hR⟩ := exists_list n (fun j (Q : TskP) => ∀ t, ss[j]? = some t → (∀ b off, A = some ⟨b, off, none⟩ → TskAt W b (off + j * 5) t Q) ∧ RdI W Q.A Q.n t.xs) (fun j hj => by
    obtain ⟨b, off, e, hlt, hc⟩ := h.2 (by omega)
    have hs : ss[j]? = some (ss[j]'(by rw [h.1]; exact hj)) := List.getElem?_eq_getElem _
    obtain ⟨P, hP⟩ := hc j _ hs
    refine ⟨P, fun t ht => ?_⟩
    rw [hs] at ht
    cases ht
    refine ⟨fun b' off' e' => ?_, hP.2⟩
    rw [e] at e'
    cases e'
    exact hP)
  have hlen : Qs.length = ss.length := by rw [hl, h.1]
  refine ⟨Qs, hlen, fun b off e i v hv => ?_, fun j t Q ht hQ => (hR j Q hQ t ht).2⟩
  obtain ⟨s, P, hs, hP, hc⟩ := celTsk_at hlen hv
  have := ((hR _ P hP s hs).1 b off e).1 _ v hc
  rw [← this]
  congr 2
  omega
set_option maxHeartbeats 1000000 in
theorem cloneTsks (A : Option Addr) (n p : Nat) (ss : List Tsk) (Qs : List TskP) (W : World) (hr : RdTsk W A n ss) (hq : Qs.length = ss.length) (hc : ∀ b off, A = some ⟨b, off, none⟩ → ∀ i v, (celTsk ss Qs)[i]? = some v → W.cell? ⟨b, off + i, none⟩ = some v) (hn : n ≤ 1048576) :
    Calls Try.prog 82 #[.slice A n p] W fun e W' => ∃ V, e = .returned V ∧ W'.ownsRow W.heap.size 53 5 V n (celTsk ss Qs) ∧ Below W.heap.size W W' := by
  obtain ⟨i0, hi, hz0, hz1, hz2⟩ := info_parts infoTk
  have hl := hr.1
  have hcl := celTsk_len hq
  have HC := Lib.hid hc
  have HR := Lib.hid hr
  have HCL := Lib.hid hcl
  have HL := Lib.hid hl
  clear hc hr hcl hl
  rcases A with _ | a
  · have h0 : n = 0 := by
      apply Classical.byContradiction
      intro h
      obtain ⟨_, _, e, _⟩ := HR.out.2 (by omega)
      cases e
    subst h0
    have hss : ss = [] := List.length_eq_zero_iff.1 HL.out
    subst hss
    have hq' : ∀ W0, (binOp .eql 27 (.slice none 0 p) (.slice none 0 0)).run Try.prog W0 = .ok (.bool true) W0 := fun W0 => by
      have := Go.Lib.run_eql_slice_nil (P := Try.prog) W0 27 53 none 0 p 0 0 Try.underlying27
      simpa using this
    go_enter Try.func82, Try.ntmps82
    go_wp2
    go_ret
    exact ⟨_, rfl, by have := World.ownsRow_nil W W.heap.size 53 5; simpa [celTsk] using this, Below.refl _ _⟩
  · have hq' : ∀ W0, (binOp .eql 27 (.slice (some a) n p) (.slice none 0 0)).run Try.prog W0 = .ok (.bool false) W0 := fun W0 => by
      have := Go.Lib.run_eql_slice_nil (P := Try.prog) W0 27 53 (some a) n p 0 0 Try.underlying27
      simpa using this
    go_enter Try.func82, Try.ntmps82
    go_wp2_with (at_builtin; go_loud (refine wpList_append_own _ rfl _ _ 27 rfl W.heap.size 53 i0 (.agg #[.int .i64 0, .slice none 0 0, .int .i64 0, .int .i64 0, .int .i64 0]) 5 56 Try.underlying27 hi hz0 hz1 hz2 rfl (by decide) _ _ _ rfl (World.ownsRow_lit W #[] 0 (Nat.le_refl _) (by decide) rfl) a n p (celTsk ss Qs) rfl ?c0 ?c1 ?c2 ?c3 ?c4 ?c5 ?_))
    case c0 => rw [HCL.out, HL.out]
    case c1 =>
      intro j v hj
      have hlt : j < n * 5 := by have h1 := (List.getElem?_eq_some_iff.1 hj).1; rw [HCL.out, HL.out] at h1; exact h1
      obtain ⟨b, off, e, hbb, _⟩ := HR.out.2 (by omega)
      cases e
      have h1 := HC.out b off rfl j v hj
      have h2 : (W.alloc (.cells #[] 53)).cell? ⟨b, off + j, none⟩ = some v := (((Below.refl W.heap.size W).alloc (Nat.le_refl _) (.cells #[] 53)).cell (p := ⟨b, off + j, none⟩) hbb).trans h1
      rw [← h2]
      by_cases hj0 : j = 0 <;> simp [Addr.add, hj0]
    case c2 =>
      intro v hv
      obtain ⟨j, hj, e⟩ := List.getElem_of_mem hv
      obtain ⟨s, P, _, _, hc⟩ := celTsk_at hq (i := j) (v := v) (by rw [List.getElem?_eq_getElem hj, e])
      have h5 : j % 5 < 5 := Nat.mod_lt _ (by omega)
      generalize j % 5 = c at hc h5
      obtain rfl | rfl | rfl | rfl | rfl : c = 0 ∨ c = 1 ∨ c = 2 ∨ c = 3 ∨ c = 4 := by omega
      all_goals
        simp [tskC] at hc
        subst hc
        rfl
    case c3 => unfold maxLen; omega
    case c4 => omega
    case c5 => simp
    · intro v' w1 hown' hgrow _
      have hB1 : Below W.heap.size W w1 := ((Below.refl _ W).alloc (Nat.le_refl _) _).grown hgrow (by simp) (fun r hr => by
        simp [Value.ownBlock] at hr; omega)
      have HO := Lib.hid (show w1.ownsRow W.heap.size 53 5 v' n (celTsk ss Qs) by simpa using hown')
      have HB1 := Lib.hid hB1
      clear hown' hgrow hB1
      go_wp2
      go_ret
      exact ⟨_, rfl, HO.out, HB1.out⟩
/-- The first k rows have lists of their own by now, the others still those that came in. -/
structure CpTsk (B : Nat) (w : World) (V : Value) (n : Nat) (ss : List Tsk) (Qs Ps : List TskP) (k : Nat) : Prop where
  row : w.ownsRow B 53 5 V n (celTsk ss Ps)
  len : Ps.length = ss.length
  old : ∀ j, k ≤ j → Ps[j]? = Qs[j]?
  own : ∀ (j : Nat) (s : Tsk) (P : TskP), j < k → ss[j]? = some s → Ps[j]? = some P → OwnI B w P.A P.n s.xs ∧ (0 < P.n → ∀ a, P.A = some a → V.ownBlock ≠ some a.block)
  ap : ∀ (i j : Nat) (P Q : TskP), i < j → j < k → Ps[i]? = some P → Ps[j]? = some Q → 0 < P.n → 0 < Q.n → ∀ a b, P.A = some a → Q.A = some b → a.block ≠ b.block
section
variable {B : Nat} {w w1 w2 : World} {V : Value} {n k : Nat} {ss : List Tsk} {Qs Ps : List TskP}
theorem CpTsk.of_below (h : CpTsk B w V n ss Qs Ps k) (hb : Below w.heap.size w w1) : CpTsk B w1 V n ss Qs Ps k := ⟨ownsRow_below h.row hb, h.len, h.old, fun j s P hj hs hP => ⟨(h.own j s P hj hs hP).1.of_below hb, (h.own j s P hj hs hP).2⟩, h.ap⟩
theorem CpTsk.low (h : CpTsk B w V n ss Qs Ps k) {p : Addr} (hp : p.block < B) (u : Value) : CpTsk B (w.setCell p u) V n ss Qs Ps k := ⟨ownsRow_low h.row hp u, h.len, h.old, fun j s P hj hs hP => ⟨(h.own j s P hj hs hP).1.lowR hp u, (h.own j s P hj hs hP).2⟩, h.ap⟩
theorem CpTsk.gr (h : CpTsk B w V n ss Qs Ps n) (hn : ss.length = n) : GrTsk B w V ss Ps := by
  subst hn
  have hj : ∀ {j : Nat} {P : TskP}, Ps[j]? = some P → j < ss.length := fun {j} {P} hP => by rw [← h.len]; exact (List.getElem?_eq_some_iff.1 hP).1
  refine ⟨h.row, h.len, fun j s P hs hP => (h.own j s P (hj hP) hs hP).1, fun P hP hn a hA => ?_, ?_⟩
  · obtain ⟨j, hjl, e⟩ := List.getElem_of_mem hP
    have hP' : Ps[j]? = some P := by rw [List.getElem?_eq_getElem hjl, e]
    exact (h.own j _ P (hj hP') (List.getElem?_eq_getElem (hj hP')) hP').2 hn a hA
  · rw [List.pairwise_iff_getElem]
    intro i j hi hj' hij h1 h2 a b hA hB
    exact h.ap i j _ _ hij (by rw [← h.len]; exact hj') (List.getElem?_eq_getElem hi) (List.getElem?_eq_getElem hj') h1 h2 a b hA hB
theorem Bk.wrow5 {w : World} {x g : Nat} {t : TypeId} {cs : Array Value} (h : Bk w x t cs) (hx : x ≠ g) (i : Nat) (v0 v1 v2 v3 v4 : Value) : Bk (((((w.setCell ⟨g, i, none⟩ v0).setCell ⟨g, i + 1, none⟩ v1).setCell ⟨g, i + 2, none⟩ v2).setCell ⟨g, i + 3, none⟩ v3).setCell ⟨g, i + 4, none⟩ v4) x t cs :=
  ((((h.far (p := ⟨g, i, none⟩) hx v0).far (p := ⟨g, i + 1, none⟩) hx v1).far (p := ⟨g, i + 2, none⟩) hx v2).far (p := ⟨g, i + 3, none⟩) hx v3).far (p := ⟨g, i + 4, none⟩) hx v4
def wrow5 (w : World) (g i : Nat) (v0 v1 v2 v3 v4 : Value) : World := ((((w.setCell ⟨g, i, none⟩ v0).setCell ⟨g, i + 1, none⟩ v1).setCell ⟨g, i + 2, none⟩ v2).setCell ⟨g, i + 3, none⟩ v3).setCell ⟨g, i + 4, none⟩ v4
/-- One more row is written. -/
theorem CpTsk.next {g cap : Nat} {s : Tsk} {P : TskP} (h : CpTsk B w (.slice (some ⟨g, 0, none⟩) n cap) n ss Qs Ps k) (hb : Below w.heap.size w w1) (hBw : B ≤ w.heap.size) (hs : ss[k]? = some s) (ho : OwnI w.heap.size w1 P.A P.n s.xs) :
    CpTsk B (wrow5 w1 g (k * 5) (.int .i64 s.ti) (.slice P.A P.n P.p) (.int .i64 s.ta) (.int .i64 s.td) (.int .i64 s.tb)) (.slice (some ⟨g, 0, none⟩) n cap) n ss Qs (Ps.set k P) (k + 1) := by
  have hk : k < ss.length := (List.getElem?_eq_some_iff.1 hs).1
  have hgl := (h.row.lt g rfl)
  have h1 := ownsRow_below h.row hb
  have r5 := (((((((h1.stored (k * 5) (.int .i64 s.ti)).1.stored (k * 5 + 1) (.slice P.A P.n P.p)).1.stored (k * 5 + 2) (.int .i64 s.ta)).1.stored (k * 5 + 3) (.int .i64 s.td)).1.stored (k * 5 + 4) (.int .i64 s.tb)).1))
  rw [celTsk_set P hs h.len] at r5
  have far5 : ∀ {C m : Nat} {A : Option Addr} {xs : List Int}, OwnI C w1 A m xs → (0 < m → ∀ a, A = some a → a.block ≠ g) → OwnI C (wrow5 w1 g (k * 5) (.int .i64 s.ti) (.slice P.A P.n P.p) (.int .i64 s.ta) (.int .i64 s.td) (.int .i64 s.tb)) A m xs := fun {C m A xs} h hp =>
    ((((h.setO (p := ⟨g, k * 5, none⟩) hp _).setO (p := ⟨g, k * 5 + 1, none⟩) hp _).setO (p := ⟨g, k * 5 + 2, none⟩) hp _).setO (p := ⟨g, k * 5 + 3, none⟩) hp _).setO (p := ⟨g, k * 5 + 4, none⟩) hp _
  have hnew : 0 < P.n → ∀ a, P.A = some a → a.block ≠ g ∧ w.heap.size ≤ a.block := fun hn a hA => by
    obtain ⟨x, e, hx, _⟩ := ho.2 hn
    rw [hA] at e
    cases e
    simp only
    omega
  refine ⟨r5, by simp [h.len], fun j hj => ?_, fun j s' P' hj hs' hP' => ?_, fun i j P1 P2 hij hj h1' h2' hn1 hn2 a b hA hB => ?_⟩
  · rw [List.getElem?_set_ne (by omega)]
    exact h.old j (by omega)
  · by_cases e : j = k
    · subst e
      rw [hs] at hs'
      cases hs'
      rw [List.getElem?_set_self (by rw [h.len]; exact hk)] at hP'
      cases hP'
      exact ⟨far5 (ho.base hBw) (fun hn a hA => (hnew hn a hA).1), fun hn a hA e => (hnew hn a hA).1 (by simpa [Value.ownBlock] using e.symm)⟩
    · rw [List.getElem?_set_ne (by omega)] at hP'
      obtain ⟨o1, o2⟩ := h.own j s' P' (by omega) hs' hP'
      exact ⟨far5 (o1.of_below hb) (fun hn a hA e => o2 hn a hA (by simp [Value.ownBlock, e])), o2⟩
  · by_cases e : j = k
    · subst e
      rw [List.getElem?_set_self (by rw [h.len]; exact hk)] at h2'
      cases h2'
      rw [List.getElem?_set_ne (by omega)] at h1'
      have hi : i < ss.length := by omega
      obtain ⟨x, e1, _, hx, _⟩ := ((h.own i _ P1 (by omega) (List.getElem?_eq_getElem hi) h1').1).2 hn1
      have h3 := (hnew hn2 b hB).2
      rw [hA] at e1
      cases e1
      simp only
      omega
    · rw [List.getElem?_set_ne (by omega)] at h1' h2'
      exact h.ap i j P1 P2 hij (by omega) h1' h2' hn1 hn2 a b hA hB
end
set_option maxRecDepth 100000 in
set_option maxHeartbeats 6000000 in
theorem copySchedI (nw sk ag : Int) (A : Option Addr) (n p : Nat) (ss : List Tsk) (rn lf tu nx : Int) (W : World) (hr : RdTsk W A n ss) (hn : n + bigTsk ss ≤ 1048576) :
    Calls Try.prog 63 #[.agg #[.int .i64 nw, .int .i64 sk, .int .i64 ag, .slice A n p, .int .i64 rn, .int .i64 lf, .int .i64 tu, .int .i64 nx]] W (SchR W nw sk ag ss rn lf tu nx) := by
  obtain ⟨i0, hi, hz0, hz1, hz2⟩ := info_parts infoTk
  obtain ⟨Qs, hq, hcq, hrq⟩ := rows_of hr
  have b1 := ((Below.refl _ W).alloc (Nat.le_refl _) (.cells #[.int .i64 nw, .int .i64 sk, .int .i64 ag, .slice A n p, .int .i64 rn, .int .i64 lf, .int .i64 tu, .int .i64 nx] 29)).alloc (by simp) (.cells #[.int .i64 0, .int .i64 0, .int .i64 0, .slice none 0 0, .int .i64 0, .int .i64 0, .int .i64 0, .int .i64 0] 29)
  have ks := (Bk.new W 29 #[.int .i64 nw, .int .i64 sk, .int .i64 ag, .slice A n p, .int .i64 rn, .int .i64 lf, .int .i64 tu, .int .i64 nx]).alloc (.cells #[.int .i64 0, .int .i64 0, .int .i64 0, .slice none 0 0, .int .i64 0, .int .i64 0, .int .i64 0, .int .i64 0] 29)
  have ko := Bk.new (W.alloc (.cells #[.int .i64 nw, .int .i64 sk, .int .i64 ag, .slice A n p, .int .i64 rn, .int .i64 lf, .int .i64 tu, .int .i64 nx] 29)) 29 #[.int .i64 0, .int .i64 0, .int .i64 0, .slice none 0 0, .int .i64 0, .int .i64 0, .int .i64 0, .int .i64 0]
  simp only [World.size_alloc] at ko
  have hlW : ∀ b off, A = some ⟨b, off, none⟩ → 0 < n → b < W.heap.size := fun b off e h0 => by
    obtain ⟨b', off', e', hlt, _⟩ := hr.2 h0
    rw [e] at e'
    cases e'
    exact hlt
  have hcl := celTsk_len hq
  have HCLO := Lib.hid (cloneTsks A n p ss Qs ((W.alloc (.cells #[.int .i64 nw, .int .i64 sk, .int .i64 ag, .slice A n p, .int .i64 rn, .int .i64 lf, .int .i64 tu, .int .i64 nx] 29)).alloc (.cells #[.int .i64 0, .int .i64 0, .int .i64 0, .slice none 0 0, .int .i64 0, .int .i64 0, .int .i64 0, .int .i64 0] 29)) (hr.of_below b1) hq (fun b off e i v hv => by
    have hi := (List.getElem?_eq_some_iff.1 hv).1
    rw [hcl, hr.1] at hi
    exact (b1.cell (p := ⟨b, off + i, none⟩) (hlW b off e (by omega))).trans (hcq b off e i v hv)) (by omega))
  have HL := Lib.hid hr.1
  have B1 := Lib.hid b1
  have KS := Lib.hid ks
  have KO := Lib.hid ko
  have HN := Lib.hid hn
  have HRQ := Lib.hid hrq
  have HQ := Lib.hid hq
  have HG := Lib.hid (show W.heap.size < W.heap.size + 1 by omega)
  clear b1 ks ko hr hn hcq hrq hq hlW hcl
  go_enter Try.func63, Try.ntmps63
  go_wp2_with fail
  generalize (W.alloc (.cells #[.int .i64 nw, .int .i64 sk, .int .i64 ag, .slice A n p, .int .i64 rn, .int .i64 lf, .int .i64 tu, .int .i64 nx] 29)).alloc (.cells #[.int .i64 0, .int .i64 0, .int .i64 0, .slice none 0 0, .int .i64 0, .int .i64 0, .int .i64 0, .int .i64 0] 29) = v at B1 KS KO HCLO ⊢
  generalize W.heap.size + 1 = go at KO HG ⊢
  generalize hgs : W.heap.size = gs at KS HG ⊢
  have HGS := Lib.hid hgs
  clear hgs
  refine HCLO.out.mono ?_
  rintro e w1 ⟨V, rfl, hrow, bb⟩
  obtain ⟨A2, cap2, rfl, hA2⟩ : ∃ A2 cap2, V = .slice A2 n cap2 ∧ (0 < n → ∃ g, A2 = some ⟨g, 0, none⟩ ∧ v.heap.size ≤ g) := by
    rcases hrow.2 with ⟨rfl, h0⟩ | ⟨g, cap, cur, rfl, hB, _⟩
    · exact ⟨none, 0, by rw [h0], fun h => by omega⟩
    · exact ⟨_, cap, rfl, fun _ => ⟨g, rfl, hB⟩⟩
  have hgv : gs < v.heap.size ∧ go < v.heap.size := ⟨KS.out.lt, KO.out.lt⟩
  have cp1 : CpTsk v.heap.size (w1.setCell ⟨gs, 3, none⟩ (.slice A2 n cap2)) (.slice A2 n cap2) n ss Qs Qs 0 := ⟨ownsRow_low hrow hgv.1 _, HQ.out, fun _ _ => rfl, fun j s P hj => by omega, fun i j P Q _ hj => by omega⟩
  have ks1 := (KS.out.below bb).set 3 (.slice A2 n cap2)
  simp only [List.setIfInBounds_toArray, List.set_cons_zero, List.set_cons_succ] at ks1
  have ko1 := (KO.out.below bb).far (p := ⟨gs, 3, none⟩) (by have := HG.out; simp only; omega) (.slice A2 n cap2)
  have bl1 := (B1.out.trans (bb.mono B1.out.size)).setCell (p := ⟨gs, 3, none⟩) (by have := HGS.out; simp only; omega) (.slice A2 n cap2)
  have c3 := (KS.out.below bb).cell 3 rfl
  have f3 := (KS.out.below bb).frozen 3
  have CP1 := Lib.hid cp1
  have KS1 := Lib.hid ks1
  have KO1 := Lib.hid ko1
  have Bl1 := Lib.hid bl1
  have HGV := Lib.hid hgv
  have HA2 := Lib.hid hA2
  have hszv : v.heap.size ≤ (w1.setCell ⟨gs, 3, none⟩ (.slice A2 n cap2)).heap.size := by rw [World.size_setCell]; exact bb.size
  have HSV := Lib.hid hszv
  clear cp1 ks1 ko1 bl1 hgv hA2 hrow bb KS KO B1 HCLO hszv
  go_wp2_with fail
  clear c3 f3
  generalize w1.setCell ⟨gs, 3, none⟩ (.slice A2 n cap2) = w2 at CP1 KS1 KO1 Bl1 HSV ⊢
  go_loopw [12] (fun i wr => ∃ (k : Nat) (Ps : List TskP), k ≤ n ∧ i = .int .i64 k ∧ Hid (CpTsk v.heap.size wr (.slice A2 n cap2) n ss Qs Ps k) ∧ Hid (Below v.heap.size w2 wr)) (fun i _ => n - (intOf i).toNat)
  case atStart => exact ⟨0, Qs, Nat.zero_le _, rfl, CP1, Lib.hid (Below.refl _ _)⟩
  case round =>
    clear CP1
    obtain ⟨k, Ps, hk, rfl, HCP, HB⟩ := hrel
    have KS := Lib.hid (KS1.out.belowN HB.out HGV.out.1)
    have KO := Lib.hid (KO1.out.belowN HB.out HGV.out.2)
    have hgs := HGS.out
    have hgo := HG.out
    have hgv := HGV.out
    have Bl := Lib.hid (Bl1.out.trans (HB.out.mono (by omega)))
    have hnb : (n : Int) ≤ 1048576 := by have := HN.out; omega
    have HWS := Lib.hid (show v.heap.size ≤ wr.heap.size from Nat.le_trans HSV.out HB.out.size)
    by_cases hlt : k < n
    · obtain ⟨g, rfl, hgB⟩ := HA2.out (by omega)
      obtain ⟨t, hj⟩ : ∃ t, ss[k]? = some t := ⟨_, List.getElem?_eq_getElem (by rw [HL.out]; exact hlt)⟩
      obtain ⟨Q, hQ⟩ : ∃ Q, Qs[k]? = some Q := ⟨_, List.getElem?_eq_getElem (by rw [HQ.out, HL.out]; exact hlt)⟩
      have hPk : Ps[k]? = some Q := (HCP.out.old k (Nat.le_refl _)).trans hQ
      have hrd := (HRQ.out k t Q hj hQ).of_below Bl.out
      have hcell : ∀ w', Below wr.heap.size wr w' → ∀ c v, (tskC t Q)[c]? = some v → w'.cell? ⟨g, k * 5 + c, none⟩ = some v := fun w' hb c v hv => by
        have hc : c < 5 := by have := (List.getElem?_eq_some_iff.1 hv).1; simpa [tskC] using this
        have h1 := (HCP.out.of_below hb).row.cellAt (k * 5 + c) (by omega)
        rw [h1, celTsk_get hj hPk c hc]
        exact hv
      have hxl := bigTsk_at hj
      have HXL : Hid (Q.n ≤ 1048576) := Lib.hid (by have h1 := hrd.1; have h2 := HN.out; omega)
      have HJ := Lib.hid hj
      have hi' : (k : Int) < (n : Int) := by omega
      obtain ⟨ti1, ta1, td1, tb1, xs⟩ := t
      obtain ⟨A1, n1, p1⟩ := Q
      have HRD := Lib.hid hrd
      simp only at HXL HRD
      have HCE := Lib.hid hcell
      have e0 := hcell wr (Below.refl _ _) 0 _ rfl
      rw [Nat.add_zero] at e0
      have e1 := hcell wr (Below.refl _ _) 1 _ rfl
      have e2 := hcell wr (Below.refl _ _) 2 _ rfl
      have e3 := hcell wr (Below.refl _ _) 3 _ rfl
      have e4 := hcell wr (Below.refl _ _) 4 _ rfl
      have ba := (Below.refl wr.heap.size wr).alloc (Nat.le_refl _) (.cells #[.int .i64 ti1, .slice A1 n1 p1, .int .i64 ta1, .int .i64 td1, .int .i64 tb1] 53)
      have KT := Lib.hid (Bk.new wr 53 #[.int .i64 ti1, .slice A1 n1 p1, .int .i64 ta1, .int .i64 td1, .int .i64 tb1])
      have KS3 := Lib.hid (KS.out.below ba)
      have BA := Lib.hid ba
      have HGB := Lib.hid hgB
      have HGT : Hid (g < wr.heap.size) := Lib.hid (HCP.out.row.lt g rfl).2
      clear hj hQ hPk hrd hcell hxl ba
      go_wp2_with fail
      clear e0 e1 e2 e3 e4
      have hgt : wr.heap.size = wr.heap.size := rfl
      generalize wr.alloc (.cells #[.int .i64 ti1, .slice A1 n1 p1, .int .i64 ta1, .int .i64 td1, .int .i64 tb1] 53) = w3 at KT KS3 BA ⊢
      obtain ⟨gt, hgtd⟩ : ∃ gt, wr.heap.size = gt := ⟨_, rfl⟩
      rw [hgtd] at KT ⊢
      have KT := Lib.hid KT.out
      have HGTD := Lib.hid hgtd
      clear hgtd hgt
      have SS0 : w3.drew.cell? ⟨gs, 3, none⟩ = some (.slice (some ⟨g, 0, none⟩) n cap2) ∧ w3.drew.cell? ⟨gt, 0, none⟩ = some (.int .i64 ti1) ∧ w3.drew.cell? ⟨gt, 1, none⟩ = some (.slice A1 n1 p1) ∧ w3.drew.cell? ⟨gt, 2, none⟩ = some (.int .i64 ta1) ∧ w3.drew.cell? ⟨gt, 3, none⟩ = some (.int .i64 td1) ∧ w3.drew.cell? ⟨gt, 4, none⟩ = some (.int .i64 tb1) := ⟨KS3.out.cell 3 rfl, KT.out.cell 0 rfl, KT.out.cell 1 rfl, KT.out.cell 2 rfl, KT.out.cell 3 rfl, KT.out.cell 4 rfl⟩
      go_region_held3 (fun w' => w'.cell? ⟨gs, 3, none⟩ = some (.slice (some ⟨g, 0, none⟩) n cap2) ∧ w'.cell? ⟨gt, 0, none⟩ = some (.int .i64 ti1) ∧ w'.cell? ⟨gt, 1, none⟩ = some (.slice A1 n1 p1) ∧ w'.cell? ⟨gt, 2, none⟩ = some (.int .i64 ta1) ∧ w'.cell? ⟨gt, 3, none⟩ = some (.int .i64 td1) ∧ w'.cell? ⟨gt, 4, none⟩ = some (.int .i64 tb1))
        (first
          | with_reducible exact SS5
          | with_reducible exact SS2
          | with_reducible exact SS0)
        (first
          | (go_at_call 83; (with_reducible refine (ownTaskI ti1 A1 n1 p1 ta1 td1 tb1 xs _ (HRD.out.of_below BA.out.drew) HXL.out).mono ?_); rintro e w4 ⟨A', cap', rfl, ho, bb⟩; have hb4 : Below wr.heap.size wr w4 := BA.out.drew.trans (bb.mono BA.out.size); have HB4 := Lib.hid hb4; have HO4 := Lib.hid ho; have HBB := Lib.hid bb; have KS4 := Lib.hid (KS3.out.below (show Below w3.heap.size w3 w4 from (Below.refl w3.heap.size w3).drew.trans bb)); have KT4 := Lib.hid (KT.out.below (show Below w3.heap.size w3 w4 from (Below.refl w3.heap.size w3).drew.trans bb)); have SS2 : w4.cell? ⟨gs, 3, none⟩ = some (.slice (some ⟨g, 0, none⟩) n cap2) ∧ w4.cell? ⟨gt, 0, none⟩ = some (.int .i64 ti1) ∧ w4.cell? ⟨gt, 1, none⟩ = some (.slice A1 n1 p1) ∧ w4.cell? ⟨gt, 2, none⟩ = some (.int .i64 ta1) ∧ w4.cell? ⟨gt, 3, none⟩ = some (.int .i64 td1) ∧ w4.cell? ⟨gt, 4, none⟩ = some (.int .i64 tb1) := ⟨KS4.out.cell 3 rfl, KT4.out.cell 0 rfl, KT4.out.cell 1 rfl, KT4.out.cell 2 rfl, KT4.out.cell 3 rfl, KT4.out.cell 4 rfl⟩; have r0 := HCE.out w4 HB4.out 0 _ rfl; rw [Nat.add_zero] at r0; have r1 := HCE.out w4 HB4.out 1 _ rfl; have r2 := HCE.out w4 HB4.out 2 _ rfl; have r3 := HCE.out w4 HB4.out 3 _ rfl; have r4 := HCE.out w4 HB4.out 4 _ rfl; have q0 := (HCP.out.of_below hb4).row.frozenAt (k * 5); have q1 := (HCP.out.of_below hb4).row.frozenAt (k * 5 + 1); have q2 := (HCP.out.of_below hb4).row.frozenAt (k * 5 + 2); have q3 := (HCP.out.of_below hb4).row.frozenAt (k * 5 + 3); have q4 := (HCP.out.of_below hb4).row.frozenAt (k * 5 + 4); have KS5 := Lib.hid (KS4.out.wrow5 (g := g) (by have := HGB.out; omega) (k * 5) (.int .i64 ti1) (.slice A' n1 cap') (.int .i64 ta1) (.int .i64 td1) (.int .i64 tb1)); have KT5 := Lib.hid (KT4.out.wrow5 (g := g) (by have := HGT.out; have := HGTD.out; omega) (k * 5) (.int .i64 ti1) (.slice A' n1 cap') (.int .i64 ta1) (.int .i64 td1) (.int .i64 tb1)); have SS5 : (((((w4.setCell ⟨g, k * 5, none⟩ (.int .i64 ti1)).setCell ⟨g, k * 5 + 1, none⟩ (.slice A' n1 cap')).setCell ⟨g, k * 5 + 2, none⟩ (.int .i64 ta1)).setCell ⟨g, k * 5 + 3, none⟩ (.int .i64 td1)).setCell ⟨g, k * 5 + 4, none⟩ (.int .i64 tb1)).cell? ⟨gs, 3, none⟩ = some (.slice (some ⟨g, 0, none⟩) n cap2) ∧ (((((w4.setCell ⟨g, k * 5, none⟩ (.int .i64 ti1)).setCell ⟨g, k * 5 + 1, none⟩ (.slice A' n1 cap')).setCell ⟨g, k * 5 + 2, none⟩ (.int .i64 ta1)).setCell ⟨g, k * 5 + 3, none⟩ (.int .i64 td1)).setCell ⟨g, k * 5 + 4, none⟩ (.int .i64 tb1)).cell? ⟨gt, 0, none⟩ = some (.int .i64 ti1) ∧ (((((w4.setCell ⟨g, k * 5, none⟩ (.int .i64 ti1)).setCell ⟨g, k * 5 + 1, none⟩ (.slice A' n1 cap')).setCell ⟨g, k * 5 + 2, none⟩ (.int .i64 ta1)).setCell ⟨g, k * 5 + 3, none⟩ (.int .i64 td1)).setCell ⟨g, k * 5 + 4, none⟩ (.int .i64 tb1)).cell? ⟨gt, 1, none⟩ = some (.slice A1 n1 p1) ∧ (((((w4.setCell ⟨g, k * 5, none⟩ (.int .i64 ti1)).setCell ⟨g, k * 5 + 1, none⟩ (.slice A' n1 cap')).setCell ⟨g, k * 5 + 2, none⟩ (.int .i64 ta1)).setCell ⟨g, k * 5 + 3, none⟩ (.int .i64 td1)).setCell ⟨g, k * 5 + 4, none⟩ (.int .i64 tb1)).cell? ⟨gt, 2, none⟩ = some (.int .i64 ta1) ∧ (((((w4.setCell ⟨g, k * 5, none⟩ (.int .i64 ti1)).setCell ⟨g, k * 5 + 1, none⟩ (.slice A' n1 cap')).setCell ⟨g, k * 5 + 2, none⟩ (.int .i64 ta1)).setCell ⟨g, k * 5 + 3, none⟩ (.int .i64 td1)).setCell ⟨g, k * 5 + 4, none⟩ (.int .i64 tb1)).cell? ⟨gt, 3, none⟩ = some (.int .i64 td1) ∧ (((((w4.setCell ⟨g, k * 5, none⟩ (.int .i64 ti1)).setCell ⟨g, k * 5 + 1, none⟩ (.slice A' n1 cap')).setCell ⟨g, k * 5 + 2, none⟩ (.int .i64 ta1)).setCell ⟨g, k * 5 + 3, none⟩ (.int .i64 td1)).setCell ⟨g, k * 5 + 4, none⟩ (.int .i64 tb1)).cell? ⟨gt, 4, none⟩ = some (.int .i64 tb1) := ⟨KS5.out.cell 3 rfl, KT5.out.cell 0 rfl, KT5.out.cell 1 rfl, KT5.out.cell 2 rfl, KT5.out.cell 3 rfl, KT5.out.cell 4 rfl⟩; clear bb hb4 ho)
          | fail)
      have HCW := HCP.out.of_below (BA.out.drew)
      have cp5 := HCW.next (s := ⟨ti1, ta1, td1, tb1, xs⟩) (P := ⟨A', n1, cap'⟩) HBB.out (Nat.le_trans HWS.out BA.out.size) HJ.out HO4.out
      have CP5 := Lib.hid cp5
      have hb5 := ((((((HB.out.trans (HB4.out.mono HWS.out)).setCell (p := ⟨g, k * 5, none⟩) HGB.out (.int .i64 ti1)).setCell (p := ⟨g, k * 5 + 1, none⟩) HGB.out (.slice A' n1 cap')).setCell (p := ⟨g, k * 5 + 2, none⟩) HGB.out (.int .i64 ta1)).setCell (p := ⟨g, k * 5 + 3, none⟩) HGB.out (.int .i64 td1)).setCell (p := ⟨g, k * 5 + 4, none⟩) HGB.out (.int .i64 tb1))
      have HB5 := Lib.hid hb5
      clear hb5 cp5 HCW SS5 SS2 SS0 r0 r1 r2 r3 r4 q0 q1 q2 q3 q4
      go_wp2_with fail
      go_roundw
      case rel => exact ⟨k + 1, _, by omega, by go_num, CP5, HB5⟩
      case measure => simp [intOf]; omega
    · obtain rfl : k = n := by omega
      have HGF := Lib.hid (HCP.out.gr HL.out)
      have hl := HL.out
      subst hl
      clear HCP
      have c0 := KS.out.cell 0 rfl
      have c1 := KS.out.cell 1 rfl
      have c2 := KS.out.cell 2 rfl
      have c3 := KS.out.cell 3 rfl
      have c4 := KS.out.cell 4 rfl
      have c5 := KS.out.cell 5 rfl
      have c6 := KS.out.cell 6 rfl
      have c7 := KS.out.cell 7 rfl
      have d0 := KO.out.cell 0 rfl
      have d1 := KO.out.cell 1 rfl
      have d2 := KO.out.cell 2 rfl
      have d3 := KO.out.cell 3 rfl
      have d4 := KO.out.cell 4 rfl
      have d5 := KO.out.cell 5 rfl
      have d6 := KO.out.cell 6 rfl
      have d7 := KO.out.cell 7 rfl
      have f0 := KO.out.frozen 0
      have f1 := KO.out.frozen 1
      have f2 := KO.out.frozen 2
      have f3 := KO.out.frozen 3
      have f4 := KO.out.frozen 4
      have f5 := KO.out.frozen 5
      have f6 := KO.out.frozen 6
      have f7 := KO.out.frozen 7
      have hgo : go < v.heap.size := HGV.out.2
      have k9 := (((((((KO.out.set 0 (.int .i64 nw)).set 1 (.int .i64 sk)).set 2 (.int .i64 ag)).set 3 (.slice A2 ss.length cap2)).set 4 (.int .i64 rn)).set 5 (.int .i64 lf)).set 6 (.int .i64 tu)).set 7 (.int .i64 nx)
      have g9 := (((((((HGF.out.low (p := ⟨go, 0, none⟩) hgo (.int .i64 nw)).low (p := ⟨go, 1, none⟩) hgo (.int .i64 sk)).low (p := ⟨go, 2, none⟩) hgo (.int .i64 ag)).low (p := ⟨go, 3, none⟩) hgo (.slice A2 ss.length cap2)).low (p := ⟨go, 4, none⟩) hgo (.int .i64 rn)).low (p := ⟨go, 5, none⟩) hgo (.int .i64 lf)).low (p := ⟨go, 6, none⟩) hgo (.int .i64 tu)).low (p := ⟨go, 7, none⟩) hgo (.int .i64 nx)
      have hgw : W.heap.size ≤ go := by omega
      have b9 := (((((((Bl.out.setCell (p := ⟨go, 0, none⟩) hgw (.int .i64 nw)).setCell (p := ⟨go, 1, none⟩) hgw (.int .i64 sk)).setCell (p := ⟨go, 2, none⟩) hgw (.int .i64 ag)).setCell (p := ⟨go, 3, none⟩) hgw (.slice A2 ss.length cap2)).setCell (p := ⟨go, 4, none⟩) hgw (.int .i64 rn)).setCell (p := ⟨go, 5, none⟩) hgw (.int .i64 lf)).setCell (p := ⟨go, 6, none⟩) hgw (.int .i64 tu)).setCell (p := ⟨go, 7, none⟩) hgw (.int .i64 nx)
      simp only [List.setIfInBounds_toArray, List.set_cons_zero, List.set_cons_succ] at k9
      have K9 := Lib.hid k9
      have R9 : Hid (SchR W nw sk ag ss rn lf tu nx (.returned (.agg #[.int .i64 nw, .int .i64 sk, .int .i64 ag, .slice A2 ss.length cap2, .int .i64 rn, .int .i64 lf, .int .i64 tu, .int .i64 nx])) _) := Lib.hid ⟨_, Ps, rfl, g9.base (by omega), b9⟩
      clear k9 g9 b9 hgw hgo
      go_wp2_with fail
      have z0 := K9.out.cell 0 rfl
      have z1 := K9.out.cell 1 rfl
      have z2 := K9.out.cell 2 rfl
      have z3 := K9.out.cell 3 rfl
      have z4 := K9.out.cell 4 rfl
      have z5 := K9.out.cell 5 rfl
      have z6 := K9.out.cell 6 rfl
      have z7 := K9.out.cell 7 rfl
      refine bodyPost_ret (v := .agg #[.int .i64 nw, .int .i64 sk, .int .i64 ag, .slice A2 ss.length cap2, .int .i64 rn, .int .i64 lf, .int .i64 tu, .int .i64 nx]) ?_ rfl R9.out
      clear R9
      simp [results, Try.results63, go_sem, z0, z1, z2, z3, z4, z5, z6, z7]
end Qt
end Go.Proofs.Ytihnpfcjnfkfjaa
