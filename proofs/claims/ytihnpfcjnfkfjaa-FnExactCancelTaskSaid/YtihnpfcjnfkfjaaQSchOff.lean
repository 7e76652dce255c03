/- What l07Off of the model and drop of the program leave: the schedule without that task. Conditions: the tasks lie in memory of the call's own; the map reads as them. -/
import Derived.Test.YtihnpfcjnfkfjaaQSchCS
namespace Go.Proofs.Ytihnpfcjnfkfjaa
open Go.RowKit Go.Sort
set_option linter.unusedSimpArgs false
set_option linter.unusedVariables false
namespace Qt
def offT (id : Int) (ss : List Tsk) : List Tsk := ss.filter (fun t => decide (t.ti ≠ id))
def rnC (id rn : Int) : Int := if rn = id then 0 else rn
def lfC (id rn lf : Int) : Int := if rn = id then 0 else lf
def offP (id : Int) : List Tsk → List TskP → List TskP
  | s :: r, P :: q => if s.ti ≠ id then P :: offP id r q else offP id r q
  | _, _ => []
theorem offT_snoc (id : Int) (a : List Tsk) (s : Tsk) : offT id (a ++ [s]) = if s.ti ≠ id then offT id a ++ [s] else offT id a := by
  unfold offT
  rw [List.filter_append]
  by_cases h : s.ti = id <;> simp [h]
theorem offP_snoc (id : Int) : ∀ {a : List Tsk} {Ps : List TskP}, Ps.length = a.length → ∀ (s : Tsk) (P : TskP), offP id (a ++ [s]) (Ps ++ [P]) = if s.ti ≠ id then offP id a Ps ++ [P] else offP id a Ps := by
  intro a
  induction a with
  | nil => intro Ps h s P; obtain rfl := List.length_eq_zero_iff.1 h; by_cases e : s.ti = id <;> simp [offP, e]
  | cons x r ih =>
    intro Ps h s P
    cases Ps with
    | nil => simp at h
    | cons Q q =>
      have := ih (Ps := q) (by simpa using h) s P
      by_cases e : s.ti = id <;> by_cases e2 : x.ti = id <;> simp [offP, e, e2] at this ⊢ <;> exact this
theorem offP_len (id : Int) : ∀ {a : List Tsk} {Ps : List TskP}, Ps.length = a.length → (offP id a Ps).length = (offT id a).length := by
  intro a
  induction a with
  | nil => intro Ps h; obtain rfl := List.length_eq_zero_iff.1 h; rfl
  | cons x r ih =>
    intro Ps h
    cases Ps with
    | nil => simp at h
    | cons Q q =>
      have := ih (Ps := q) (by simpa using h)
      unfold offT at this ⊢
      by_cases e2 : x.ti = id <;> simp [offP, e2] at this ⊢ <;> exact this
theorem offP_sub (id : Int) : ∀ {a : List Tsk} {Ps : List TskP}, (offP id a Ps).Sublist Ps := by
  intro a
  induction a with
  | nil => intro Ps; simp [offP]
  | cons x r ih =>
    intro Ps
    cases Ps with
    | nil => simp [offP]
    | cons Q q =>
      rw [offP]
      split
      · exact (ih (Ps := q)).cons_cons Q
      · exact (ih (Ps := q)).cons Q
theorem offP_at (id : Int) : ∀ {a : List Tsk} {Ps : List TskP} {j : Nat} {s : Tsk} {P : TskP}, (offT id a)[j]? = some s → (offP id a Ps)[j]? = some P → ∃ i : Nat, a[i]? = some s ∧ Ps[i]? = some P := by
  intro a
  induction a with
  | nil => intro Ps j s P h; simp [offT] at h
  | cons x r ih =>
    intro Ps j s P h hP
    cases Ps with
    | nil => simp [offP] at hP
    | cons Q q =>
      rw [offP] at hP
      unfold offT at h
      rw [List.filter_cons] at h
      by_cases e : x.ti = id
      · simp [e] at h hP
        obtain ⟨i, h1, h2⟩ := ih (Ps := q) (j := j) (by unfold offT; simpa using h) hP
        exact ⟨i + 1, by simpa using h1, by simpa using h2⟩
      · simp [e] at h hP
        cases j with
        | zero => simp at h hP; exact ⟨0, by simp [h], by simp [hP]⟩
        | succ j =>
          obtain ⟨i, h1, h2⟩ := ih (Ps := q) (j := j) (by unfold offT; simpa using h) (by simpa using hP)
          exact ⟨i + 1, by simpa using h1, by simpa using h2⟩
theorem big_off (id : Int) (ss : List Tsk) : bigTsk (offT id ss) ≤ bigTsk ss := by
  induction ss with
  | nil => simp [offT]
  | cons s r ih =>
    unfold offT at ih ⊢
    rw [List.filter_cons]
    split <;> simp only [bigTsk] <;> omega
theorem off_len (id : Int) (ss : List Tsk) : (offT id ss).length ≤ ss.length := List.length_filter_le _ _
/-- Rows of a list laid into new memory, their own lists left where they are. -/
theorem GrTsk.share {B N : Nat} {w w' : World} {V V' : Value} {ss ss' : List Tsk} {Ps Ps' : List TskP} (h : GrTsk B w V ss Ps) (hN : N = w.heap.size) (hb : Below N w w') (hrow : w'.ownsRow N 53 5 V' ss'.length (celTsk ss' Ps')) (hl : Ps'.length = ss'.length) (hsub : Ps'.Sublist Ps) (hat : ∀ (j : Nat) (s : Tsk) (P : TskP), ss'[j]? = some s → Ps'[j]? = some P → ∃ i : Nat, ss[i]? = some s ∧ Ps[i]? = some P) (hB : B ≤ N) : GrTsk B w' V' ss' Ps' := by
  subst hN
  refine ⟨ownsRow_base hrow hB, hl, fun j s P hs hP => ?_, fun P hP hn a hA e => ?_, h.ap.sublist hsub⟩
  · obtain ⟨i, h1, h2⟩ := hat j s P hs hP
    exact (h.own i s P h1 h2).of_below hb
  · obtain ⟨j, s, _, _, hO⟩ := h.at' (hsub.subset hP)
    obtain ⟨g, e2, _, hlt, _⟩ := hO.2 hn
    rw [hA] at e2
    cases e2
    have := (hrow.lt _ e).1
    simp only at this
    omega
/-- What has turned: blocks x and b alone. -/
structure Two (x b : Nat) (w w' : World) : Prop where
  os : w'.os = w.os
  tape : w'.tape = w.tape
  output : w'.output = w.output
  size : w.heap.size ≤ w'.heap.size
  block : ∀ k, k < w.heap.size → k ≠ x → k ≠ b → w'.heap[k]? = w.heap[k]?
theorem Two.refl (x b : Nat) (w : World) : Two x b w w := ⟨rfl, rfl, rfl, Nat.le_refl _, fun _ _ _ _ => rfl⟩
theorem Two.trans {x b : Nat} {w w1 w2 : World} (h : Two x b w w1) (k : Two x b w1 w2) : Two x b w w2 := ⟨k.os.trans h.os, k.tape.trans h.tape, k.output.trans h.output, Nat.le_trans h.size k.size, fun i hi h1 h2 => (k.block i (Nat.lt_of_lt_of_le hi h.size) h1 h2).trans (h.block i hi h1 h2)⟩
theorem Two.set {x b i : Nat} {w w1 : World} (h : Two x b w w1) (u : Value) : Two x b w (w1.setCell ⟨x, i, none⟩ u) := h.trans ⟨rfl, rfl, rfl, by simp, fun k _ h1 _ => Below.heap_setCell _ ⟨x, i, none⟩ u k (by simpa using h1)⟩
theorem Two.below {x b : Nat} {w w1 w2 : World} (h : Two x b w w1) (hb : Below w1.heap.size w1 w2) : Two x b w w2 := h.trans ⟨hb.os, hb.tape, hb.output, hb.size, fun k hk _ _ => hb.block k hk⟩
theorem Two.isBelow {x b B : Nat} {w w1 : World} (h : Two x b w w1) (hx : B ≤ x) (hb : B ≤ b) (hB : B ≤ w.heap.size) : Below B w w1 := ⟨h.os, h.tape, h.output, h.size, fun k hk => h.block k (by omega) (by omega) (by omega)⟩
theorem turned_same {w w' : World} {b : Nat} (h : w.mapTurned w' b) : w'.os = w.os ∧ w'.tape = w.tape ∧ w'.output = w.output ∧ w'.heap.size = w.heap.size ∧ ∀ k, k ≠ b → w'.heap[k]? = w.heap[k]? := by
  obtain ⟨es, cl, es', cl', h1, rfl⟩ := h
  refine ⟨rfl, rfl, rfl, by simp [Go.ChangeMaps.setBlock], fun k hk => ?_⟩
  simp only [Go.ChangeMaps.setBlock]
  rw [Array.getElem?_setIfInBounds_ne (by omega)]
theorem Two.turned {x b : Nat} {w w1 w2 : World} (h : Two x b w w1) (ht : w1.mapTurned w2 b) : Two x b w w2 := by
  obtain ⟨h1, h2, h3, h4, h5⟩ := turned_same ht
  exact h.trans ⟨h1, h2, h3, by omega, fun k _ _ hb => h5 k hb⟩
theorem Bk.turned {w w' : World} {g b : Nat} {t : TypeId} {cs : Array Value} (h : Bk w g t cs) (ht : w.mapTurned w' b) : Bk w' g t cs := by
  obtain ⟨_, _, _, _, h5⟩ := turned_same ht
  obtain ⟨es, cl, _, _, h1, _⟩ := ht
  refine (h5 g (fun e => ?_)).trans h
  subst e
  have h' : w.heap[g]? = _ := h
  rw [h1] at h'
  cases h'
theorem Bk.two {x b : Nat} {w w' : World} {g : Nat} {t : TypeId} {cs : Array Value} (h : Bk w g t cs) (ht : Two x b w w') (hx : g ≠ x) (hb : g ≠ b) : Bk w' g t cs := (ht.block g h.lt hx hb).trans h
theorem RdI.two {x b : Nat} {w w' : World} {A : Option Addr} {n : Nat} {xs : List Int} (h : RdI w A n xs) (ht : Two x b w w') (hx : 0 < n → ∀ a, A = some a → a.block ≠ x ∧ a.block ≠ b) : RdI w' A n xs := ⟨h.1, fun hn => by
  obtain ⟨c, o, e, hl, hc⟩ := h.2 hn
  have hne := hx hn _ e
  have hbl := ht.block c hl hne.1 hne.2
  exact ⟨c, o, e, Nat.lt_of_lt_of_le hl ht.size, fun j hj => (World.cell?_of_block hbl).trans (hc j hj)⟩⟩
theorem map_none {w : World} {b n : Nat} {D : DataW Value} (h : w.ownsMap Try.prog 3 asV b n D) {p : Addr} (hp : p.block = b) : w.cell? p = none := by
  obtain ⟨es, cl, hb, _⟩ := h
  subst hp
  simp [World.cell?, hb]
theorem MT.after {w0 w w' : World} {b n x : Nat} {D D0 : DataW Value} {ss : List Tsk} (h : MT w0 D ss) (hm : w0.ownsMap Try.prog 3 asV b n D0) (hb : Below w0.heap.size w0 w) (ht : Two x b w w') (hx : w0.heap.size ≤ x) : MT w' D ss := by
  refine ⟨fun t htt => ?_, h.miss⟩
  obtain ⟨h1, P, h2, h3, h4⟩ := h.hit t htt
  refine ⟨h1, P, h2, (h3.of_below hb).two ht (fun hn a e => ?_), h4⟩
  obtain ⟨c, o, e2, hl, hc⟩ := h3.2 hn
  rw [e] at e2
  cases e2
  refine ⟨by simp only; omega, fun e3 => ?_⟩
  have := hc 0 hn
  rw [map_none hm (p := ⟨c, o + 0, none⟩) e3] at this
  cases this
theorem Bk.not_map {w w' : World} {g b : Nat} {t : TypeId} {cs : Array Value} (h : Bk w g t cs) (ht : w.mapTurned w' b) : g ≠ b := fun e => by
  obtain ⟨es, cl, _, _, h1, _⟩ := ht
  subst e
  have h' : w.heap[g]? = _ := h
  rw [h1] at h'
  cases h'
theorem ownsMap_far {w : World} {b n : Nat} {D : DataW Value} (h : w.ownsMap Try.prog 3 asV b n D) {p : Addr} (hp : p.block ≠ b) (u : Value) : (w.setCell p u).ownsMap Try.prog 3 asV b n D := by
  obtain ⟨es, cl, hb, F, hs, hD⟩ := h
  exact ⟨es, cl, (Below.heap_setCell w p u b (fun e => hp e.symm)).trans hb, F, hs, hD⟩
set_option maxRecDepth 100000 in
set_option maxHeartbeats 1000000 in
theorem dropI (nw sk ag rn lf tu nx id : Int) (gr b m : Nat) (D : DataW Value) (W : World) (hK : Bk W gr 58 #[.int .i64 nw, .int .i64 sk, .int .i64 ag, .slice none 0 0, .int .i64 rn, .int .i64 lf, .int .i64 tu, .int .i64 nx, .map (some b)]) (hm : W.ownsMap Try.prog 3 asV b m D) (hw : (Lit.int .i64 id).wf = true) :
    Calls Try.prog 64 #[.pointer (some ⟨gr, 0, none⟩), .int .i64 id] W fun e W' => e = .returned (.tuple #[]) ∧ Bk W' gr 58 #[.int .i64 nw, .int .i64 sk, .int .i64 ag, .slice none 0 0, .int .i64 (rnC id rn), .int .i64 (lfC id rn lf), .int .i64 tu, .int .i64 nx, .map (some b)] ∧ W'.ownsMap Try.prog 3 asV b m (D.del (.int .i64 id)) ∧ Two gr b W W' := by
  have K := Lib.hid hK
  have HM := Lib.hid hm
  have c8 := hK.cell 8 rfl
  clear hK hm
  by_cases hc : rn = id
  · have hR1 : rnC id rn = 0 := if_pos hc
    have hR2 : lfC id rn lf = 0 := if_pos hc
    rw [hR1, hR2]
    clear hR1 hR2
    subst hc
    go_enter Try.func64, Try.ntmps64
    go_wp2_with (at_delete; go_loud (refine wpList_delete_own _ rfl _ _ 56 3 rfl 53 keyI Try.underlying56 asV b m D rfl HM.out _ (.int .i64 rn) rfl (Maps.keyOf_int_mk Try.underlying3 hw) ?_); intro w1 hm1 ht1; have K1 := Lib.hid (K.out.turned ht1); have HM1 := Lib.hid hm1; have T1 := Lib.hid ((Two.refl gr b W).turned ht1); have d4 := K1.out.cell 4 rfl; have d5 := K1.out.cell 5 rfl; have f4 := K1.out.frozen 4; have f5 := K1.out.frozen 5; have hne : gr ≠ b := (Bk.not_map K.out ht1); have HNE := Lib.hid hne; clear hm1 ht1 hne)
    have k9 := (K1.out.set 4 (.int .i64 0)).set 5 (.int .i64 0)
    simp only [List.setIfInBounds_toArray, List.set_cons_zero, List.set_cons_succ] at k9
    have m9 := ownsMap_far (p := ⟨gr, 5, none⟩) (ownsMap_far (p := ⟨gr, 4, none⟩) HM1.out HNE.out (.int .i64 0)) HNE.out (.int .i64 0)
    have t9 := (T1.out.set (i := 4) (.int .i64 0)).set (i := 5) (.int .i64 0)
    go_end0
    exact ⟨rfl, k9, m9, t9⟩
  · have hR1 : rnC id rn = rn := if_neg hc
    have hR2 : lfC id rn lf = lf := if_neg hc
    rw [hR1, hR2]
    clear hR1 hR2
    have hc2 : (rn == id) = false := by simpa using hc
    go_enter Try.func64, Try.ntmps64
    go_wp2_with (at_delete; go_loud (refine wpList_delete_own _ rfl _ _ 56 3 rfl 53 keyI Try.underlying56 asV b m D rfl HM.out _ (.int .i64 id) rfl (Maps.keyOf_int_mk Try.underlying3 hw) ?_); intro w1 hm1 ht1; have K1 := Lib.hid (K.out.turned ht1); have HM1 := Lib.hid hm1; have T1 := Lib.hid ((Two.refl gr b W).turned ht1); have d4 := K1.out.cell 4 rfl; have d5 := K1.out.cell 5 rfl; have f4 := K1.out.frozen 4; have f5 := K1.out.frozen 5; have hne : gr ≠ b := (Bk.not_map K.out ht1); have HNE := Lib.hid hne; clear hm1 ht1 hne)
    go_end0
    exact ⟨rfl, K1.out, HM1.out, T1.out⟩
theorem take_snocT {α : Type} {l : List α} {k : Nat} {x : α} (h : l[k]? = some x) : l.take (k + 1) = l.take k ++ [x] := by rw [List.take_add_one, h]; rfl
set_option maxRecDepth 100000 in
set_option maxHeartbeats 2000000 in
theorem l07OffS (nw sk ag rn lf tu nx id : Int) (gs B : Nat) (V : Value) (ss : List Tsk) (Ps : List TskP) (W : World) (hK : Bk W gs 29 #[.int .i64 nw, .int .i64 sk, .int .i64 ag, V, .int .i64 rn, .int .i64 lf, .int .i64 tu, .int .i64 nx]) (hg : GrTsk B W V ss Ps) (hB : B ≤ W.heap.size) (hq : ∀ P ∈ Ps, 0 < P.n → ∀ a, P.A = some a → a.block ≠ gs) (hn : ss.length ≤ 1048576) :
    Calls Try.prog 62 #[.pointer (some ⟨gs, 0, none⟩), .int .i64 id] W fun e W' => e = .returned (.tuple #[]) ∧ ∃ V' Ps', Bk W' gs 29 #[.int .i64 nw, .int .i64 sk, .int .i64 ag, V', .int .i64 rn, .int .i64 lf, .int .i64 tu, .int .i64 nx] ∧ GrTsk B W' V' (offT id ss) Ps' ∧ Touch gs (gs + 1) W W' ∧ V'.ownBlock ≠ some gs ∧ ∀ P ∈ Ps', 0 < P.n → ∀ a, P.A = some a → a.block ≠ gs := by
  obtain ⟨i0, hi, hz0, hz1, hz2⟩ := info_parts infoTk
  obtain ⟨A, cap, rfl, hA⟩ := hg.value
  have K := Lib.hid hK
  have HGR := Lib.hid hg
  have HA := Lib.hid hA
  have HBB := Lib.hid hB
  have HGS := Lib.hid hK.lt
  have HQ := Lib.hid hq
  obtain ⟨n, hnn⟩ : ∃ n, n = ss.length := ⟨_, rfl⟩
  rw [← hnn] at hn
  have hnb : (n : Int) ≤ 1048576 := by omega
  have HNN := Lib.hid hnn
  have O0 : Hid ((W.alloc (.cells #[] 53)).ownsRow W.heap.size 53 5 (.slice (some ⟨W.heap.size, 0, none⟩) 0 0) (offT id (ss.take 0)).length (celTsk (offT id (ss.take 0)) (offP id (ss.take 0) (Ps.take 0)))) := Lib.hid (World.ownsRow_lit W #[] 0 (Nat.le_refl _) (by decide) rfl)
  have B0 := Lib.hid ((Below.refl W.heap.size W).alloc (Nat.le_refl _) (.cells #[] 53))
  clear hK hg hA hB hq hn
  rw [← hnn] at K
  clear hnn
  have KP := Lib.hid (fun (w : World) (h : Below W.heap.size W w) => K.out.below h)
  clear K
  go_enter Try.func62, Try.ntmps62
  go_wp2_with fail
  generalize W.alloc (.cells #[] 53) = w0 at O0 B0 ⊢
  go_loopw [4, 5] (fun q i wr => ∃ k : Nat, k ≤ n ∧ i = .int .i64 k ∧ Hid (wr.ownsRow W.heap.size 53 5 q (offT id (ss.take k)).length (celTsk (offT id (ss.take k)) (offP id (ss.take k) (Ps.take k)))) ∧ Hid (Below W.heap.size W wr)) (fun _ i _ => n - (intOf i).toNat)
  case atStart => exact ⟨0, Nat.zero_le _, rfl, O0, B0⟩
  case round =>
    clear O0 B0
    obtain ⟨k, hk, rfl, HO, HB⟩ := hrel
    have c3 := (KP.out wr HB.out).cell 3 rfl
    by_cases hlt : k < n
    · obtain ⟨t, hj⟩ : ∃ t, ss[k]? = some t := ⟨_, List.getElem?_eq_getElem (by rw [← HNN.out]; exact hlt)⟩
      obtain ⟨g, rfl, hgB, hgl⟩ := HA.out (by rw [← HNN.out]; omega)
      obtain ⟨P, hP, _⟩ := HGR.out.at hj
      have hcell := fun c v hv => (HGR.out.of_below HB.out).cell hj hP c v hv
      have HLK : Hid ((ss.take k).length = k ∧ (Ps.take k).length = (ss.take k).length) := Lib.hid (by rw [List.length_take, List.length_take, HGR.out.len]; have := HNN.out; exact ⟨by omega, by omega⟩)
      have HTS := Lib.hid (take_snocT hj)
      have HTP := Lib.hid (take_snocT hP)
      have hle : (offT id (ss.take k)).length ≤ k := by have h1 := off_len id (ss.take k); have h2 := HLK.out; omega
      obtain ⟨ti1, ta1, td1, tb1, xs⟩ := t
      obtain ⟨A1, n1, p1⟩ := P
      have e0 := hcell 0 _ rfl
      rw [Nat.add_zero] at e0
      have e1 := hcell 1 _ rfl
      have e2 := hcell 2 _ rfl
      have e3 := hcell 3 _ rfl
      have e4 := hcell 4 _ rfl
      have hi' : (k : Int) < (n : Int) := by omega
      clear hj hP hcell
      by_cases hid2 : ti1 = id
      · have hc : (ti1 != id) = false := by simpa using hid2
        have HX : Hid (wr.ownsRow W.heap.size 53 5 u4 (offT id (ss.take (k + 1))).length (celTsk (offT id (ss.take (k + 1))) (offP id (ss.take (k + 1)) (Ps.take (k + 1))))) := Lib.hid (by
          rw [HTS.out, HTP.out, offT_snoc, offP_snoc id HLK.out.2, if_neg (by simpa using hid2), if_neg (by simpa using hid2)]
          exact HO.out)
        clear hid2
        go_wp2_with fail
        go_roundw
        case rel => exact ⟨k + 1, by omega, by go_num, HX, HB⟩
        case measure => simp [intOf]; omega
      · have hc : (ti1 != id) = true := by simpa using hid2
        have HX1 : Hid (offT id (ss.take (k + 1)) = offT id (ss.take k) ++ [⟨ti1, ta1, td1, tb1, xs⟩]) := Lib.hid (by rw [HTS.out, offT_snoc, if_pos (by simpa using hid2)])
        have HX2 : Hid (offP id (ss.take (k + 1)) (Ps.take (k + 1)) = offP id (ss.take k) (Ps.take k) ++ [⟨A1, n1, p1⟩]) := Lib.hid (by rw [HTS.out, HTP.out, offP_snoc id HLK.out.2, if_pos (by simpa using hid2)])
        have HPL := Lib.hid (offP_len id HLK.out.2)
        have HOA := Lib.hid (HO.out.alloc (.cells #[.int .i64 ti1, .slice A1 n1 p1, .int .i64 ta1, .int .i64 td1, .int .i64 tb1] 53))
        clear hid2
        generalize offT id (ss.take k) = ys at HO HOA HX1 HPL hle
        generalize offP id (ss.take k) (Ps.take k) = Qs at HO HOA HX2 HPL
        obtain ⟨L, hL⟩ : ∃ L, ys.length = L := ⟨_, rfl⟩
        rw [hL] at HO HOA HPL hle
        have HLL := Lib.hid hL
        clear hL
        go_wp2_with (at_builtin; go_loud (refine wpList_append_own _ rfl _ _ 27 rfl W.heap.size 53 i0 (.agg #[.int .i64 0, .slice none 0 0, .int .i64 0, .int .i64 0, .int .i64 0]) 5 56 Try.underlying27 hi hz0 hz1 hz2 rfl (by decide) _ _ _ rfl HOA.out ⟨wr.heap.size, 0, none⟩ 1 1 [.int .i64 ti1, .slice A1 n1 p1, .int .i64 ta1, .int .i64 td1, .int .i64 tb1] rfl rfl ?p1 ?p2 ?p3 ?p4 ?p5 ?_))
        case p2 => simp [Value.oneCell']
        case p3 => unfold maxLen; omega
        case p4 => omega
        case p5 => have := HB.out.size; simp; omega
        · intro v' w5 hown' hgrow _
          have hold := HO.out
          have hB1 : Below W.heap.size W w5 := (HB.out.alloc HB.out.size _).grown hgrow (by have := HB.out.size; simp; omega) (fun r hr => (hold.lt r hr).1)
          have HO1 : Hid (w5.ownsRow W.heap.size 53 5 v' (offT id (ss.take (k + 1))).length (celTsk (offT id (ss.take (k + 1))) (offP id (ss.take (k + 1)) (Ps.take (k + 1))))) := Lib.hid (by
            rw [HX1.out, HX2.out, celTsk_snoc (by rw [HPL.out, HLL.out]), List.length_append, HLL.out]
            exact hown')
          have HB1 := Lib.hid hB1
          clear hown' hgrow hB1 hold
          go_wp2_with fail
          go_roundw
          case rel => exact ⟨k + 1, by omega, by go_num, HO1, HB1⟩
          case measure => simp [intOf]; omega
    · obtain rfl : k = n := by omega
      have ho := HO.out
      rw [List.take_of_length_le (by rw [← HNN.out]; exact Nat.le_refl _), List.take_of_length_le (by rw [HGR.out.len, ← HNN.out]; exact Nat.le_refl _)] at ho
      obtain ⟨A9, cap9, rfl⟩ : ∃ A9 cap9, u4 = .slice A9 (offT id ss).length cap9 := by
        rcases ho.2 with ⟨e, h0⟩ | ⟨g, cap, cur, e, _⟩
        · exact ⟨none, 0, by rw [h0]; exact e⟩
        · exact ⟨_, cap, e⟩
      have f3 := (KP.out wr HB.out).frozen 3
      have g9 := (HGR.out.share rfl HB.out ho (offP_len id HGR.out.len) (offP_sub id) (fun j s P h1 h2 => offP_at id h1 h2) HBB.out).far (p := ⟨gs, 3, none⟩) (fun e => by have h1 := (ho.lt gs e).1; have h2 := HGS.out; omega) (fun P hP hn a hA => HQ.out P ((offP_sub id).subset hP) hn a hA) (.slice A9 (offT id ss).length cap9)
      have k9 := (KP.out wr HB.out).set 3 (.slice A9 (offT id ss).length cap9)
      simp only [List.setIfInBounds_toArray, List.set_cons_zero, List.set_cons_succ] at k9
      have t9 := (((Touch.refl gs (gs + 1) W).below HB.out).setCell (g := gs) (i := 3) (Nat.le_refl _) (Nat.lt_succ_self _) (.slice A9 (offT id ss).length cap9))
      have G9 := Lib.hid g9
      have K9 := Lib.hid k9
      have T9 := Lib.hid t9
      have R9 : Hid ((Value.slice A9 (offT id ss).length cap9).ownBlock ≠ some gs) := Lib.hid (fun e => by have h1 := (ho.lt gs e).1; have h2 := HGS.out; omega)
      clear g9 k9 t9 ho HO
      go_wp2_with fail
      go_end0
      exact ⟨rfl, _, _, K9.out, G9.out, T9.out, R9.out, fun P hP hn a hA => HQ.out P ((offP_sub id).subset hP) hn a hA⟩
end Qt
end Go.Proofs.Ytihnpfcjnfkfjaa
