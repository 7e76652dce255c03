/- The copies of a slice, of the program and of its model: a slice of its own with the same numbers. Conditions: the slice reads as the list that is named. -/
import Derived.Test.YtihnpfcjnfkfjaaQSchA
import Derived.Lib.SliceRun
namespace Go.Proofs.Ytihnpfcjnfkfjaa
open Go.RowKit Go.Sort
namespace Qt

def CopyC (W : World) (n : Nat) (xs : List Int) (e : Ending) (W' : World) : Prop := ∃ B cap, e = .returned (.slice B n cap) ∧ OwnI W.heap.size W' B n xs ∧ Below W.heap.size W W'
theorem CopyC.of_own {W w' : World} {V : Value} {n : Nat} {xs : List Int} (h : w'.ownsRow W.heap.size 3 1 V n (xs.map (Value.int .i64))) (hb : Below W.heap.size W w') : CopyC W n xs (.returned V) w' := by
  have h' := h
  rcases h.2 with ⟨rfl, h0⟩ | ⟨g, cap, cur, rfl, _⟩
  · subst h0
    exact ⟨_, _, rfl, OwnI.of_own h', hb⟩
  · exact ⟨_, _, rfl, OwnI.of_own h', hb⟩
theorem take_snoc (xs : List Int) (k : Nat) (hl : k < xs.length) : (xs.take k).map (Value.int .i64) ++ [.int .i64 (xs[k]?.getD 0)] = (xs.take (k + 1)).map (Value.int .i64) := by
  rw [List.take_succ_eq_append_getElem hl, List.map_append]
  simp only [List.map_cons, List.map_nil, List.getElem?_eq_getElem hl, Option.getD_some]

theorem copyS (A : Option Addr) (n p : Nat) (xs : List Int) (W : World) (hr : RdI W A n xs) (hn : n ≤ 1048576) :
    Calls Try.prog 68 #[.slice A n p] W (CopyC W n xs) := by
  obtain ⟨i0, hi, hz0, hz1, hz2⟩ := info_parts info3
  have HR := Lib.hid hr
  have HL := Lib.hid hr.1
  have hn1 : (n : Int) ≤ 1048576 := by omega
  clear hr hn
  go_enter Try.func68, Try.ntmps68
  go_wp2
  go_loopw [3, 4] (fun v i wr => ∃ k : Nat, k ≤ n ∧ i = .int .i64 k ∧ wr.ownsRow W.heap.size 3 1 v k ((xs.take k).map (Value.int .i64)) ∧ Below W.heap.size W wr) (fun _ i _ => n - (intOf i).toNat)
  case atStart => exact ⟨0, Nat.zero_le _, rfl, World.ownsRow_lit W #[] 0 (Nat.le_refl _) (by decide) rfl, (Below.refl _ _).alloc (Nat.le_refl _) _⟩
  case round =>
    obtain ⟨k, hk, rfl, hown, hb⟩ := hrel
    have HB := Lib.hid hb
    have HO := Lib.hid hown
    clear hb hown
    by_cases hlt : k < n
    · obtain ⟨b, off, rfl, hbg, hcell⟩ := (HR.out.of_below HB.out).2 (by omega)
      have hcx : wr.cell? ⟨b, off + k, none⟩ = some (.int .i64 (xs[k]?.getD 0)) := by simpa [List.getD_eq_getElem?_getD] using hcell k hlt
      have hik : (k : Int) < (n : Int) := by omega
      clear hcell hbg
      go_wp2_with (at_builtin; refine wpList_append_own _ rfl _ _ 35 rfl W.heap.size 3 i0 (.int .i64 0) 1 8 Try.underlying35 hi hz0 hz1 hz2 rfl (by decide) _ _ _ rfl (HO.out.alloc _) ⟨wr.heap.size, 0, none⟩ 1 1 [.int .i64 (xs[k]?.getD 0)] rfl rfl ?c1 ?c2 ?c3 ?c4 ?c5 ?_)
      case c1 =>
        intro j v hj
        match j, hj with
        | 0, hj => simp at hj; subst hj; simp [Addr.add]
      case c2 => intro v hv; simp at hv; subst hv; rfl
      case c3 => unfold maxLen; omega
      case c4 => omega
      case c5 => have := HB.out.size; simp; omega
      · intro v' w1 hown' hgrow _
        have hold := HO.out
        have hB1 : Below W.heap.size W w1 := (HB.out.alloc HB.out.size _).grown hgrow (by have := HB.out.size; simp; omega) (fun r hr => (hold.lt r hr).1)
        have hts := take_snoc xs k (by have := HL.out; omega)
        rw [List.map_take] at hts
        rw [hts] at hown'
        have HO1 := Lib.hid hown'
        have HB1 := Lib.hid hB1
        clear hown' hgrow hB1 hold
        go_wp2
        go_roundw
        case rel => exact ⟨k + 1, by omega, by go_num, HO1.out, HB1.out⟩
        case measure => simp [intOf]; omega
    · obtain rfl : k = n := by omega
      have hO := HO.out
      rw [show xs.take k = xs from List.take_of_length_le (by have := HL.out; omega)] at hO
      have HC := Lib.hid (CopyC.of_own hO HB.out)
      clear hO HO
      go_wp2
      go_ret
      exact HC.out

theorem cloneI (b off n p : Nat) (xs : List Int) (W : World) (hr : RdI W (some ⟨b, off, none⟩) n xs) (hn : n ≤ 1048576) :
    Calls Try.prog 94 #[.slice (some ⟨b, off, none⟩) n p] W (CopyC W n xs) := by
  obtain ⟨i0, hi, hz0, hz1, hz2⟩ := info_parts info3
  have HR := Lib.hid hr
  have HL := Lib.hid hr.1
  have hn1 : (n : Int) ≤ 1048576 := by omega
  have HN := Lib.hid hn
  clear hr hn
  have hq : ∀ W0, (binOp .eql 35 (.slice (some ⟨b, off, none⟩) n p) (.slice none 0 0)).run Try.prog W0 = .ok (.bool false) W0 := fun W0 => by
    have := Go.Lib.run_eql_slice_nil (P := Try.prog) W0 35 3 (some ⟨b, off, none⟩) n p 0 0 Try.underlying35
    simpa using this
  go_enter Try.func94, Try.ntmps94
  go_wp2_with (at_builtin; go_loud (refine wpList_append_own _ rfl _ _ 35 rfl W.heap.size 3 i0 (.int .i64 0) 1 8 Try.underlying35 hi hz0 hz1 hz2 rfl (by decide) _ _ _ rfl (World.ownsRow_lit W #[] 0 (Nat.le_refl _) (by decide) rfl) ⟨b, off, none⟩ n p (xs.map (Value.int .i64)) rfl ?c0 ?c1 ?c2 ?c3 ?c4 ?c5 ?_))
  case c0 => simpa using HL.out
  case c1 =>
    intro j v hj
    have hl : j < n := by have h1 := (List.getElem?_eq_some_iff.1 hj).1; rw [List.length_map] at h1; have := HL.out; omega
    obtain ⟨b', off', e, hbb, hcell⟩ := (HR.out.of_below ((Below.refl _ W).alloc (Nat.le_refl _) (.cells #[] 3))).2 (by omega)
    cases e
    have h1 := hcell j hl
    have h2 : v = .int .i64 (xs.getD j 0) := by
      have hx : j < xs.length := by have := HL.out; omega
      simp [hx] at hj
      simp [List.getD_eq_getElem?_getD, hx, hj]
    rw [h2, ← h1]
    by_cases hj0 : j = 0 <;> simp [Addr.add, hj0]
  case c2 => intro v hv; simp at hv; obtain ⟨x, _, rfl⟩ := hv; rfl
  case c3 => unfold maxLen; have := HN.out; omega
  case c4 => have := HN.out; omega
  case c5 => simp
  · intro v' w1 hown' hgrow _
    have hB1 : Below W.heap.size W w1 := ((Below.refl _ W).alloc (Nat.le_refl _) _).grown hgrow (by simp) (fun r hr => by
      simp [Value.ownBlock] at hr; omega)
    have HC : Hid (CopyC W n xs (.returned v') w1) := Lib.hid (CopyC.of_own (by simpa using hown') hB1)
    clear hown' hgrow hB1
    go_wp2
    go_ret
    exact HC.out

def CopyT (W : World) (h w c : Int) (n : Nat) (xs : List Int) (e : Ending) (W' : World) : Prop :=
  ∃ B cap, e = .returned (.agg #[.int .i64 h, .int .i64 w, .int .i64 c, .slice B n cap]) ∧ OwnI W.heap.size W' B n xs ∧ Below W.heap.size W W'
end Qt
end Go.Proofs.Ytihnpfcjnfkfjaa
