/- What BlockAt (of the program and of its model) gives when it is called. Conditions: the slice of tasks reads as the list that is named; the task under way is an int. -/
import Derived.Test.YtihnpfcjnfkfjaaQSchS
import Derived.Test.YtihnpfcjnfkfjaaQRostI
import Derived.Test.YtihnpfcjnfkfjaaQSchedTo
namespace Go.Proofs.Ytihnpfcjnfkfjaa
open Go.RowKit Go.Sort
set_option linter.unusedSimpArgs false
set_option linter.unusedVariables false
namespace Qt
/-- A look-up by an Id gives the task of that Id, or none. -/
theorem look_cases {w : World} {b m : Nat} {es : List (Int × Value)} {ss : List Tsk} (hm : w.ownsMap Try.prog 3 asV b m (mapOf es)) (he : Ent w ss es) (hd : ss.Pairwise (fun s t => s.ti < t.ti)) {id : Int} (hw : (Lit.int .i64 id).wf = true) :
    (∃ ti1 ta1 td1 tb1 xs A1 n1 p1, findT ss id = some ⟨ti1, ta1, td1, tb1, xs⟩ ∧ (⟨ti1, ta1, td1, tb1, xs⟩ : Tsk) ∈ ss ∧ ti1 = id ∧ RdI w A1 n1 xs ∧ (Instr.lookup 56 (.map (some b)) (.int .i64 id) true).run Try.prog w = .ok (.tuple #[.agg #[.int .i64 ti1, .slice A1 n1 p1, .int .i64 ta1, .int .i64 td1, .int .i64 tb1], .bool true]) w)
    ∨ (findT ss id = none ∧ (Instr.lookup 56 (.map (some b)) (.int .i64 id) true).run Try.prog w = .ok (.tuple #[.agg #[.int .i64 0, .slice none 0 0, .int .i64 0, .int .i64 0, .int .i64 0], .bool false]) w) := by
  rcases at_cases ss id with ⟨i, u, hu, hui, hat, hfi⟩ | ⟨hat, hfi⟩
  · left
    obtain ⟨P, hes, hrd⟩ := he.2 i u hu
    have hrun := look_hit hm (he.apart hd) (List.mem_of_getElem? (hui ▸ hes)) hw
    obtain ⟨ti1, ta1, td1, tb1, xs⟩ := u
    obtain ⟨A1, n1, p1⟩ := P
    exact ⟨ti1, ta1, td1, tb1, xs, A1, n1, p1, hfi, List.mem_of_getElem? hu, hui, hrd, hrun⟩
  · right
    refine ⟨hfi, look_miss hm (id := id) (fun q hq e => ?_) hw⟩
    obtain ⟨t, ht, h1⟩ := he.mem hq
    rw [findT, List.find?_eq_none] at hfi
    have := hfi t ht
    simp [← h1, e] at this
def blockV (ss : List Tsk) (rn lf d : Int) : Int := match findT ss rn with | some t => if d < t.td then lf else 0 | none => 0
def blockW (nw sk ag : Int) (ss : List Tsk) (rn lf tu nx d : Int) : Int := if schB nw sk ag ss rn lf tu nx then blockV ss rn lf d else -1
theorem sch_facts {nw sk ag : Int} {ss : List Tsk} {rn lf tu nx : Int} (h : schB nw sk ag ss rn lf tu nx = true) : ss.Pairwise (fun s t => s.ti < t.ti) ∧ ∀ t ∈ ss, tkB t = true := by
  obtain ⟨_, _, h1, _⟩ := schB_iff.1 h
  exact ⟨tsksB_rise h1, fun t ht => (tsksB_all h1 t ht).1⟩
set_option maxRecDepth 100000 in
set_option maxHeartbeats 1000000 in
theorem blockI (nw sk ag rn lf tu nx d : Int) (b m : Nat) (ss : List Tsk) (es : List (Int × Value)) (W : World) (hm : W.ownsMap Try.prog 3 asV b m (mapOf es)) (he : Ent W ss es) (hd : ss.Pairwise (fun s t => s.ti < t.ti)) (hw : (Lit.int .i64 rn).wf = true) :
    Calls Try.prog 59 #[.agg #[.int .i64 nw, .int .i64 sk, .int .i64 ag, .slice none 0 0, .int .i64 rn, .int .i64 lf, .int .i64 tu, .int .i64 nx, .map (some b)], .int .i64 d] W fun e W' => e = .returned (.int .i64 (blockV ss rn lf d)) ∧ Below W.heap.size W W' := by
  have bl := (Below.refl _ W).alloc (Nat.le_refl _) (.cells #[.int .i64 nw, .int .i64 sk, .int .i64 ag, .slice none 0 0, .int .i64 rn, .int .i64 lf, .int .i64 tu, .int .i64 nx, .map (some b)] 58)
  have Bl := Lib.hid bl
  rcases look_cases (ownsMap_below hm bl) (he.of_below bl) hd hw with ⟨ti1, ta1, td1, tb1, xs, A1, n1, p1, hfi, _, rfl, _, hrun⟩ | ⟨hfi, hrun⟩
  · by_cases hdd : d < td1
    · obtain ⟨V, hV⟩ : ∃ V, blockV ss ti1 lf d = V := ⟨_, rfl⟩
      obtain rfl : V = lf := by rw [← hV]; simp [blockV, hfi, hdd]
      rw [hV]
      clear hV hfi hm he hd bl hw
      go_enter Try.func59, Try.ntmps59
      go_wp2_with fail
      go_ret
      exact ⟨rfl, Bl.out.alloc Bl.out.size _⟩
    · obtain ⟨V, hV⟩ : ∃ V, blockV ss ti1 lf d = V := ⟨_, rfl⟩
      obtain rfl : V = 0 := by rw [← hV]; simp [blockV, hfi, hdd]
      rw [hV]
      clear hV hfi hm he hd bl hw
      go_enter Try.func59, Try.ntmps59
      go_wp2_with fail
      go_ret
      exact ⟨rfl, Bl.out.alloc Bl.out.size _⟩
  · obtain ⟨V, hV⟩ : ∃ V, blockV ss rn lf d = V := ⟨_, rfl⟩
    obtain rfl : V = 0 := by rw [← hV]; simp [blockV, hfi]
    rw [hV]
    clear hV hfi hm he hd bl hw
    go_enter Try.func59, Try.ntmps59
    go_wp2_with fail
    go_ret
    exact ⟨rfl, Bl.out.alloc Bl.out.size _⟩
set_option maxRecDepth 100000 in
set_option maxHeartbeats 1000000 in
theorem blockAtI (nw sk ag : Int) (A : Option Addr) (n p : Nat) (ss : List Tsk) (rn lf tu nx d : Int) (W : World) (hr : RdTsk W A n ss) (hn : n + bigTsk ss ≤ 1048576) (hw : (Lit.int .i64 rn).wf = true) :
    Calls Try.prog 32 #[.agg #[.int .i64 nw, .int .i64 sk, .int .i64 ag, .slice A n p, .int .i64 rn, .int .i64 lf, .int .i64 tu, .int .i64 nx], .int .i64 d] W fun e W' => e = .returned (.int .i64 (blockW nw sk ag ss rn lf tu nx d)) ∧ Below W.heap.size W W' := by
  have b0 := (Below.refl _ W).alloc (Nat.le_refl _) (.cells #[.int .i64 nw, .int .i64 sk, .int .i64 ag, .slice A n p, .int .i64 rn, .int .i64 lf, .int .i64 tu, .int .i64 nx] 29)
  have HRO := Lib.hid (rosterI nw sk ag A n p ss rn lf tu nx _ (hr.of_below b0) hn hw)
  have Bl := Lib.hid b0
  have HW := Lib.hid hw
  clear hr hn b0 hw
  obtain ⟨R, hR⟩ : ∃ R, schB nw sk ag ss rn lf tu nx = R := ⟨_, rfl⟩
  obtain ⟨V, hV⟩ : ∃ V, V = blockW nw sk ag ss rn lf tu nx d := ⟨_, rfl⟩
  rw [← hV]
  have HR := Lib.hid hR
  have HV := Lib.hid hV
  rw [hR] at HRO
  clear hR hV
  go_enter Try.func32, Try.ntmps32
  go_wp2_with fail
  refine HRO.out.mono ?_
  intro e w1 hc
  rcases R with _ | _
  · obtain ⟨rfl, bb⟩ := hc
    obtain rfl : V = -1 := by rw [HV.out]; simp [blockW, HR.out]
    have Bl2 := Lib.hid (Bl.out.trans (bb.mono Bl.out.size))
    clear bb HRO
    go_wp2_with fail
    go_ret
    exact ⟨rfl, Bl2.out.alloc Bl2.out.size _⟩
  · obtain ⟨b, es, rfl, _, hm, he, _, bb⟩ := hc
    have ba := (Below.refl _ w1).alloc (Nat.le_refl _) (.cells #[.int .i64 nw, .int .i64 sk, .int .i64 ag, .slice none 0 0, .int .i64 rn, .int .i64 lf, .int .i64 tu, .int .i64 nx, .map (some b)] 58)
    have Bl2 := Lib.hid ((Bl.out.trans (bb.mono Bl.out.size)).trans (ba.mono (Nat.le_trans Bl.out.size bb.size)))
    have hVb : V = blockV ss rn lf d := by rw [HV.out]; simp [blockW, HR.out]
    have HC := blockI nw sk ag rn lf tu nx d b _ ss es _ (ownsMap_below hm ba) (he.of_below ba) (sch_facts HR.out).1 HW.out
    rw [← hVb] at HC
    have HC := Lib.hid HC
    clear bb ba hm he hVb HRO
    go_wp2_with fail
    refine HC.out.mono ?_
    rintro e w2 ⟨rfl, bb⟩
    have Bl3 := Lib.hid (Bl2.out.trans (bb.mono Bl2.out.size))
    clear bb HC
    go_wp2_with fail
    go_ret
    exact ⟨rfl, Bl3.out⟩
set_option maxRecDepth 100000 in
set_option maxHeartbeats 1000000 in
theorem blockAtS (nw sk ag : Int) (A : Option Addr) (n p : Nat) (ss : List Tsk) (rn lf tu nx d : Int) (W : World) (hr : RdTsk W A n ss) (hn : n + bigTsk ss ≤ 1048576) (_ : (Lit.int .i64 rn).wf = true) :
    Calls Try.prog 31 #[.agg #[.int .i64 nw, .int .i64 sk, .int .i64 ag, .slice A n p, .int .i64 rn, .int .i64 lf, .int .i64 tu, .int .i64 nx], .int .i64 d] W fun e W' => e = .returned (.int .i64 (blockW nw sk ag ss rn lf tu nx d)) ∧ Below W.heap.size W W' := by
  have b0 := (Below.refl _ W).alloc (Nat.le_refl _) (.cells #[.int .i64 nw, .int .i64 sk, .int .i64 ag, .slice A n p, .int .i64 rn, .int .i64 lf, .int .i64 tu, .int .i64 nx] 29)
  have K := Lib.hid (Bk.new W 29 #[.int .i64 nw, .int .i64 sk, .int .i64 ag, .slice A n p, .int .i64 rn, .int .i64 lf, .int .i64 tu, .int .i64 nx])
  have HR0 := Lib.hid (hr.of_below b0)
  have HSO := schedOkS nw sk ag A n p ss rn lf tu nx _ (hr.of_below b0) hn
  have Bl := Lib.hid b0
  have HN : Hid (n ≤ 1048576) := Lib.hid (by omega)
  have HL := Lib.hid hr.1
  obtain ⟨R, hR⟩ : ∃ R, schB nw sk ag ss rn lf tu nx = R := ⟨_, rfl⟩
  obtain ⟨V, hV⟩ : ∃ V, V = blockW nw sk ag ss rn lf tu nx d := ⟨_, rfl⟩
  rw [← hV]
  rw [hR] at HSO
  have HR := Lib.hid hR
  have HV := Lib.hid hV
  have HSO := Lib.hid HSO
  clear hr hn b0 hR hV
  go_enter Try.func31, Try.ntmps31
  go_wp2_with fail
  refine HSO.out.mono ?_
  rintro e w1 ⟨rfl, bb⟩
  replace K := Lib.hid (K.out.below bb)
  replace HR0 := Lib.hid (HR0.out.of_below bb)
  replace Bl := Lib.hid (Bl.out.trans (bb.mono Bl.out.size))
  clear bb HSO
  rcases R with _ | _
  · obtain rfl : V = -1 := by rw [HV.out]; simp [blockW, HR.out]
    go_wp2_with fail
    go_ret
    exact ⟨rfl, Bl.out⟩
  have c0 := K.out.cell 0 rfl
  have c1 := K.out.cell 1 rfl
  have c2 := K.out.cell 2 rfl
  have c3 := K.out.cell 3 rfl
  have c4 := K.out.cell 4 rfl
  have c5 := K.out.cell 5 rfl
  have c6 := K.out.cell 6 rfl
  have c7 := K.out.cell 7 rfl
  go_wp2_with fail
  have HVb : Hid (V = blockV ss rn lf d) := Lib.hid (by rw [HV.out]; simp [blockW, HR.out])
  rcases at_cases ss rn with ⟨i, u, hu, hui, hat, hfi⟩ | ⟨hat, hfi⟩
  case inr =>
    obtain rfl : V = 0 := by rw [HVb.out]; simp [blockV, hfi]
    have HC := atS nw sk ag A n p ss rn lf tu nx rn w1 HR0.out HN.out
    rw [hat] at HC
    clear hat hfi c0 c1 c2 c3 c4 c5 c6 c7
    refine HC.mono ?_
    rintro e w2 ⟨rfl, bb⟩
    have Bl3 := Lib.hid (Bl.out.trans (bb.mono Bl.out.size))
    clear bb HC
    go_wp2_with fail
    go_ret
    exact ⟨rfl, Bl3.out⟩
  have hik : i < n := by have := (List.getElem?_eq_some_iff.1 hu).1; have := HL.out; omega
  have HC := atS nw sk ag A n p ss rn lf tu nx rn w1 HR0.out HN.out
  rw [hat] at HC
  clear c0 c1 c2 c3 c4 c5 c6 c7
  refine HC.mono ?_
  rintro e w2 ⟨rfl, bb⟩
  have Bl3 := Lib.hid (Bl.out.trans (bb.mono Bl.out.size))
  replace K := Lib.hid (K.out.below bb)
  have HR2 := HR0.out.of_below bb
  obtain ⟨b, off, ti1, ta1, td1, tb1, A', n', p', xs, rfl, hbs, hj, ht⟩ := HR2.at hik
  have hjj := hj
  rw [hu] at hjj
  cases hjj
  obtain ⟨e0, e1, e2, e3, e4⟩ := ht.cells
  have c0 := K.out.cell 0 rfl
  have c1 := K.out.cell 1 rfl
  have c2 := K.out.cell 2 rfl
  have c3 := K.out.cell 3 rfl
  have c4 := K.out.cell 4 rfl
  have c5 := K.out.cell 5 rfl
  have c6 := K.out.cell 6 rfl
  have c7 := K.out.cell 7 rfl
  have hik2 : (i : Int) < (n : Int) := by omega
  have hi0 : (0 : Int) ≤ (i : Int) := by omega
  by_cases hdd : d < td1
  · obtain rfl : V = lf := by rw [HVb.out]; simp [blockV, hfi, hdd]
    clear hat hfi hu hj ht hui hbs HR2 bb HC
    go_wp2_with fail
    go_ret
    exact ⟨rfl, Bl3.out⟩
  · obtain rfl : V = 0 := by rw [HVb.out]; simp [blockV, hfi, hdd]
    clear hat hfi hu hj ht hui hbs HR2 bb HC
    go_wp2_with fail
    go_ret
    exact ⟨rfl, Bl3.out⟩
end Qt
end Go.Proofs.Ytihnpfcjnfkfjaa
