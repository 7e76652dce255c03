/- What the draws of chapter 11 give over bytes that can be read: a list; they write nothing that was there. -/
import Derived.Test.YtjdappmapkagjaaDraw
import Derived.Test.YtjdappmapkagjaaDrawDot
import Derived.Test.YtjdappmapkagjaaAid
namespace Go.Proofs.Ytjdappmapkagjaa
open Go.RowKit
set_option linter.unusedVariables false
namespace Qt
def ListC (w : World) (e : Ending) (w' : World) : Prop := ∃ (A : Option Addr) (m c : Nat) (xs : List Int), e = .returned (.slice A m c) ∧ m ≤ 1048576 ∧ RdI w' A m xs ∧ Below w.heap.size w w'
theorem sizeC (A : Option Addr) (n c : Nat) (k : Int) (w : World) (hn : n ≤ 1048577) (hk : 1 ≤ k ∧ k ≤ 1000) : Calls Try.prog 98 #[.slice A n c, .int .i64 k] w fun e w' => (∃ x : Int, e = .returned (.int .i64 x) ∧ 0 < x ∧ x ≤ 1000) ∧ w = w' := by
  have hq : (0 : Int) ≤ (n : Int) / 16 ∧ (n : Int) / 16 ≤ 1048577 := by omega
  by_cases h : k < 2 + (n : Int) / 16
  · go_enter Try.func98, Try.ntmps98
    go_wp2_with fail
    go_ret
    exact ⟨⟨_, rfl, by omega, by omega⟩, rfl⟩
  · go_enter Try.func98, Try.ntmps98
    go_wp2_with fail
    go_ret
    exact ⟨⟨_, rfl, by omega, by omega⟩, rfl⟩
/-- A list that is being drawn: the cursor, a row of the call's own with m numbers, nothing old written. -/
def DS (B0 : Nat) (W : World) (g : Nat) (A : Option Addr) (n m : Nat) (v : Value) (wr : World) : Prop :=
  Cur wr g A n ∧ (∃ xs : List Int, wr.ownsRow (g + 1) 3 1 v m (xs.map (Value.int .i64))) ∧ v.ownBlock ≠ none ∧ Below B0 W wr ∧ B0 ≤ g
section
variable {B0 g n m : Nat} {W wr w' : World} {A : Option Addr} {v : Value}
theorem DS.cur (h : Hid (DS B0 W g A n m v wr)) : Cur wr g A n := h.out.1
theorem DS.lt (h : Hid (DS B0 W g A n m v wr)) : g < wr.heap.size := h.out.1.lt
theorem DS.step (h : Hid (DS B0 W g A n m v wr)) (hc : Cur w' g A n) (hg : wr.grownBy w' (some g)) : Hid (DS B0 W g A n m v w') := by
  obtain ⟨_, ⟨xs, ho⟩, hv, hb, hB⟩ := h.out
  refine Lib.hid ⟨hc, ⟨xs, ho.kept hg (Or.inr fun e => ?_)⟩, hv, hb.trans (grown_below hg hB (by have := h.out.1.lt; omega)), hB⟩
  have := (ho.lt g e).1; omega
theorem DS.alloc (h : Hid (DS B0 W g A n m v wr)) (o : Obj) : Hid (DS B0 W g A n m v (wr.alloc o)) := by
  obtain ⟨hc, ⟨xs, ho⟩, hv, hb, hB⟩ := h.out
  exact Lib.hid ⟨hc.alloc o, ⟨xs, ho.alloc o⟩, hv, hb.alloc (by have := hc.lt; omega) o, hB⟩
theorem DS.drewN (h : Hid (DS B0 W g A n m v wr)) (q : Nat) : Hid (DS B0 W g A n m v (wr.drewN q)) := by
  obtain ⟨hc, ⟨xs, ho⟩, hv, hb, hB⟩ := h.out
  exact Lib.hid ⟨hc, ⟨xs, ho⟩, hv, below_drewN hb q, hB⟩
theorem DS.app (h : Hid (DS B0 W g A n m v wr)) {v' : Value} {xs : List Int} {x : Int} {w5 : World} (h5 : w5.ownsRow (g + 1) 3 1 v' (m + 1) (xs.map (Value.int .i64) ++ [.int .i64 x]))
    (hg : wr.grownBy w5 v.ownBlock) (hat : v'.ownBlock = v.ownBlock ∨ ∃ k, v'.ownBlock = some k) : Hid (DS B0 W g A n (m + 1) v' w5) := by
  obtain ⟨hc, ⟨ys, ho⟩, hv, hb, hB⟩ := h.out
  have hup : ∀ k, v.ownBlock = some k → g + 1 ≤ k := fun k hk => (ho.lt k hk).1
  refine Lib.hid ⟨hc.of_grown hg (fun k hk => by have := hup k hk; omega), ⟨xs ++ [x], by simpa using h5⟩, ?_, hb.grown hg (by have := hc.lt; omega) (fun k hk => by have := hup k hk; omega), hB⟩
  rcases hat with e | ⟨k, e⟩
  · rw [e]; exact hv
  · rw [e]; simp
end
theorem pick4 (x0 x1 x2 x3 : Int) (g : Nat) (A : Option Addr) (n : Nat) (T : TypeId) (w : World) (hc : Cur w g A n) :
    Calls Try.prog 99 #[.pointer (some ⟨g, 0, none⟩), .slice (some ⟨w.heap.size, 0, none⟩) 4 4] (w.alloc (.cells #[.int .i64 x0, .int .i64 x1, .int .i64 x2, .int .i64 x3] T)) (GetP (w.alloc (.cells #[.int .i64 x0, .int .i64 x1, .int .i64 x2, .int .i64 x3] T)) g A n fun _ => True) :=
  pickC (fun _ => True) g _ 4 A n _ _ _ (hc.alloc _) (heap_alloc_new _ _) (by have := hc.lt; omega) rfl (by omega) (by omega) (by exact ⟨⟨_, trivial, rfl⟩, ⟨_, trivial, rfl⟩, ⟨_, trivial, rfl⟩, ⟨_, trivial, rfl⟩, trivial⟩)
set_option maxRecDepth 20000 in
set_option maxHeartbeats 1000000 in
theorem drawRealsC (g : Nat) (A : Option Addr) (n c : Nat) (B0 : Nat) (w : World) (hc : Cur w g A n) (hg : B0 ≤ g) (hw : B0 ≤ w.heap.size) (hn : n ≤ 1048577) :
    Calls Try.prog 74 #[.pointer (some ⟨g, 0, none⟩), .slice A n c] w fun e w' => ∃ (A : Option Addr) (m c : Nat) (xs : List Int), e = .returned (.slice A m c) ∧ m ≤ 1048576 ∧ RdI w' A m xs ∧ Below B0 w w' := by
  obtain ⟨i0, hi, hz0, hz1, hz2⟩ := info_parts info3
  have hlt := hc.lt
  have D : Hid (DS B0 w g A n 0 (.slice (some ⟨w.heap.size, 0, none⟩) 0 0) (w.alloc (.cells #[] 3))) := Lib.hid ⟨hc.alloc _, ⟨[], World.ownsRow_lit w #[] 0 (by omega) (by decide) rfl⟩, by simp [Value.ownBlock], (Below.refl B0 w).alloc hw _, hg⟩
  clear hc hg hw hlt
  go_enter Try.func74, Try.ntmps74
  go_wp2_with fail
  generalize w.alloc (.cells #[] 3) = w1 at D ⊢
  generalize Value.slice (some ⟨w.heap.size, 0, none⟩) 0 0 = v at D ⊢
  refine (sizeC A n c 16 _ hn (by omega)).mono ?_
  rintro e w2 ⟨⟨k, rfl, hk1, hk2⟩, rfl⟩
  go_wp2_with fail
  refine (belowC g A n k _ (DS.cur D) (by omega) (by omega)).mono ?_
  rintro e w3 ⟨x, hx, rfl, hc3, hg3⟩
  replace D := DS.step D hc3 hg3
  clear hc3 hg3
  go_wp2_with fail
  refine (onceC g A n 40 _ (DS.cur D) (by omega) (by omega)).mono ?_
  rintro e w4 ⟨q, rfl, hc3, hg3⟩
  replace D := DS.step D hc3 hg3
  clear hc3 hg3
  cases q
  case' true =>
    go_wp2_with fail
    refine (belowC g A n 2 _ (DS.cur D) (by omega) (by omega)).mono ?_
    rintro e w5 ⟨y, hy, rfl, hc3, hg3⟩
    replace D := DS.step D hc3 hg3
    clear hc3 hg3 hx
    replace hx : 0 ≤ 300 + y ∧ 300 + y ≤ 1000 := by omega
    go_wp2_with fail
    generalize 300 + y = N at hx ⊢
    clear hy
  case' false =>
    replace hx : 0 ≤ x ∧ x ≤ 1000 := by omega
    go_wp2_with fail
    generalize x = N at hx ⊢
  all_goals
    go_loopw [5, 7] (fun v i wr => ∃ m : Nat, (m : Int) ≤ N ∧ i = .int .i64 m ∧ Hid (DS B0 w g A n m v wr)) (fun _ i _ => 1000 - (intOf i).toNat)
  all_goals first
    | (case atStart => exact ⟨0, by omega, rfl, D⟩)
    | skip
  all_goals
    obtain ⟨m, hm, rfl, D⟩ := hrel
    by_cases hlt : (m : Int) < N
    · skip
      go_wp2_with fail
      refine (belowC g A n 20000 _ (DS.cur D) (by omega) (by omega)).mono ?_
      rintro e w6 ⟨y1, hy1, rfl, hc3, hg3⟩
      replace D := DS.step D hc3 hg3
      clear hc3 hg3
      go_wp2_with fail
      refine (belowC g A n 200 _ (DS.cur D) (by omega) (by omega)).mono ?_
      rintro e w7 ⟨y2, hy2, rfl, hc3, hg3⟩
      replace D := DS.step D hc3 hg3
      clear hc3 hg3
      go_wp2_with fail
      refine (belowC g A n 300 _ (DS.cur D) (by omega) (by omega)).mono ?_
      rintro e w8 ⟨y3, hy3, rfl, hc3, hg3⟩
      replace D := DS.step D hc3 hg3
      clear hc3 hg3
      go_wp2_with fail
      refine (pick4 _ _ _ _ g A n _ _ (DS.cur D)).mono ?_
      rintro e w9 ⟨y4, hy4, rfl, hc3, hg3⟩
      replace D := DS.step (DS.alloc D _) hc3 hg3
      clear hc3 hg3
      obtain ⟨xs, ho⟩ := D.out.2.1
      have HO := Lib.hid ho
      clear ho
      have hlt9 := DS.lt D
      go_wp2_with (at_builtin; refine wpList_append_own_at _ rfl _ _ 24 rfl (g + 1) 3 i0 (.int .i64 0) 1 8 Try.underlying24 hi hz0 hz1 hz2 rfl (by decide) _ _ _ rfl (HO.out.alloc _) ⟨w9.heap.size, 0, none⟩ 1 1 [.int .i64 y4] rfl rfl ?c1 ?c2 ?c3 ?c4 ?c5 ?_)
      case c1 =>
        intro j u hj
        match j, hj with
        | 0, hj => simp at hj; subst hj; simp [Addr.add]
      case c2 => intro u hu; simp at hu; subst hu; rfl
      case c3 => unfold maxLen; omega
      case c4 => omega
      case c5 => simp; omega
      intro v' w10 hown' hgrow _ hat
      have D2 := DS.app (DS.alloc D _) hown' hgrow (by rcases hat with h | h; exact Or.inl h; exact Or.inr ⟨_, h⟩)
      clear D hown' hgrow hat HO
      go_wp2_with fail
      go_roundw
      case rel => exact ⟨m + 1, by omega, by go_num, D2⟩
      case measure => simp [intOf]; omega
    · obtain rfl : N = (m : Int) := by omega
      go_wp2_with fail
      refine (onceC g A n 15 _ (DS.cur D) (by omega) (by omega)).mono ?_
      rintro e w6 ⟨q, rfl, hc3, hg3⟩
      replace D := DS.step D hc3 hg3
      clear hc3 hg3
      obtain ⟨xs, ho⟩ := D.out.2.1
      obtain ⟨gb, cb, rfl, hcb⟩ := own_shape ho D.out.2.2.1
      have hbl := D.out.2.2.2.1
      have HO := Lib.hid ho
      have HBL := Lib.hid hbl
      clear ho hbl
      cases q
      · go_wp2_with fail
        go_ret
        exact ⟨_, m, cb, xs, rfl, by omega, RdI.of_own HO.out, HBL.out⟩
      · by_cases hm0 : m = 0
        · subst hm0
          go_wp2_with fail
          go_ret
          exact ⟨_, 0, cb, xs, rfl, by omega, RdI.of_own HO.out, HBL.out⟩
        · have hmp : 0 < m := by omega
          go_wp2_with fail
          refine (pick4 _ _ _ _ g A n _ _ (DS.cur D)).mono ?_
          rintro e w9 ⟨y4, hy4, rfl, hc3, hg3⟩
          replace D := DS.step (DS.alloc D _) hc3 hg3
          clear hc3 hg3 HO HBL
          obtain ⟨ys, ho⟩ := D.out.2.1
          have hbl := D.out.2.2.2.1
          have hB := D.out.2.2.2.2
          have hgb := (ho.lt gb rfl).1
          have hgx : ∃ u, w9.cell? ⟨gb, 0, none⟩ = some u := by
            have := ho.cellAt 0 (by omega)
            have hl := ho.1
            exact ⟨(ys.map (Value.int .i64))[0]'(by omega), by rw [this]; exact List.getElem?_eq_getElem (by omega)⟩
          obtain ⟨u, hgx⟩ := hgx
          have hfr := ho.frozenAt 0
          have hst := (ho.stored 0 (.int .i64 y4)).1
          have e2 : (ys.map (Value.int .i64)).set 0 (.int .i64 y4) = (ys.set 0 y4).map (Value.int .i64) := by rw [List.map_set]
          rw [e2] at hst
          have HS := Lib.hid hst
          have HBL := Lib.hid (hbl.setCell (p := ⟨gb, 0, none⟩) (by show B0 ≤ gb; omega) (.int .i64 y4))
          clear ho hbl hst e2
          go_wp2_with fail
          go_ret
          exact ⟨_, m, cb, ys.set 0 y4, rfl, by omega, RdI.of_own HS.out, HBL.out⟩
theorem drawScaleForC (A : Option Addr) (n c : Nat) (w : World) (hr : RdB w w.heap.size A n) (hn : n ≤ 1048577) :
    Calls Try.prog 16 #[.slice A n c] w (ListC w) := by
  have H1 : Calls Try.prog 55 #[.slice A n c] w (ListC w) := by
    have HR := Lib.hid hr
    have HN := Lib.hid hn
    clear hr hn
    go_enter Try.func55, Try.ntmps55
    go_wp2_with fail
    refine (newC A n c _ HR.out HN.out).mono ?_
    rintro e w0 ⟨g, rfl, hle, hlt, hc0, hb0⟩
    have HC0 := Lib.hid hc0; have HB0 := Lib.hid hb0; have HL := Lib.hid hle
    clear hc0 hb0 HR hle hlt
    go_wp2_with fail
    refine (drawRealsC g A n c w.heap.size w0 HC0.out HL.out HB0.out.size HN.out).mono ?_
    rintro e w1 ⟨A1, m, c1, xs, rfl, hm, hr1, hb1⟩
    have HR1 := Lib.hid hr1; have HB1 := Lib.hid (HB0.out.trans hb1)
    clear hr1 hb1 HC0 HB0 HL
    go_wp2_with fail
    go_ret
    exact ⟨A1, m, c1, xs, rfl, hm, HR1.out, HB1.out⟩
  have H1 := Lib.hid H1
  go_enter Try.func16, Try.ntmps16
  go_wp2_with fail
  refine H1.out.mono ?_
  rintro e w1 ⟨A1, m, c1, xs, rfl, hm, hr1, hb1⟩
  have HR1 := Lib.hid hr1; have HB1 := Lib.hid hb1
  clear hr1 hb1 H1
  go_wp2_with fail
  go_ret
  exact ⟨A1, m, c1, xs, rfl, hm, HR1.out, HB1.out⟩
end Qt
end Go.Proofs.Ytjdappmapkagjaa
