/- The copies of a slice and of a tensor, of the program and of its model: each a slice of its own with the same numbers. Conditions: the slice reads as the list that is named. -/
import Derived.Test.YtfihjehpkpminaaOwn
import Derived.Deep.RegionHeld3
import Derived.Lib.SliceRun
namespace Go.Proofs.Ytfihjehpkpminaa
open Go.RowKit Go.Sort
namespace Qt

def CopyC (W : World) (n : Nat) (xs : List Int) (e : Ending) (W' : World) : Prop := ∃ B cap, e = .returned (.slice B n cap) ∧ OwnI W.heap.size W' B n xs ∧ Below W.heap.size W W'
theorem CopyC.of_own {W w' : World} {V : Value} {n : Nat} {xs : List Int} (h : w'.ownsRow W.heap.size 3 1 V n (xs.map (Value.int .i64))) (hb : Below W.heap.size W w') : CopyC W n xs (.returned V) w' := by
  have h' := h
  rcases h.2 with ⟨rfl, h0⟩ | ⟨g, cap, cur, rfl, _⟩
  · subst h0
    exact ⟨_, _, rfl, OwnI.of_own h', hb⟩
  · exact ⟨_, _, rfl, OwnI.of_own h', hb⟩
theorem take_snoc (xs : List Int) (k : Nat) (hl : k < xs.length) : (xs.take k).map (Value.int .i64) ++ [.int .i64 (xs[k]?.getD 0)] = (xs.take (k + 1)).map (Value.int .i64) := by
  rw [List.take_succ_eq_append_getElem hl, List.map_append]
  simp only [List.map_cons, List.map_nil, List.getElem?_eq_getElem hl, Option.getD_some]

theorem copyS (A : Option Addr) (n p : Nat) (xs : List Int) (W : World) (hr : RdI W A n xs) (hn : n ≤ 1048576) :
    Calls Try.prog 96 #[.slice A n p] W (CopyC W n xs) := by
  obtain ⟨i0, hi, hz0, hz1, hz2⟩ := info_parts info3
  have HR := Lib.hid hr
  have HL := Lib.hid hr.1
  have hn1 : (n : Int) ≤ 1048576 := by omega
  clear hr hn
  go_enter Try.func96, Try.ntmps96
  go_wp2
  go_loopw [3, 4] (fun v i wr => ∃ k : Nat, k ≤ n ∧ i = .int .i64 k ∧ wr.ownsRow W.heap.size 3 1 v k ((xs.take k).map (Value.int .i64)) ∧ Below W.heap.size W wr) (fun _ i _ => n - (intOf i).toNat)
  case atStart => exact ⟨0, Nat.zero_le _, rfl, World.ownsRow_lit W #[] 0 (Nat.le_refl _) (by decide) rfl, (Below.refl _ _).alloc (Nat.le_refl _) _⟩
  case round =>
    obtain ⟨k, hk, rfl, hown, hb⟩ := hrel
    have HB := Lib.hid hb
    have HO := Lib.hid hown
    clear hb hown
    by_cases hlt : k < n
    · obtain ⟨b, off, rfl, hbg, hcell⟩ := (HR.out.of_below HB.out).2 (by omega)
      have hcx : wr.cell? ⟨b, off + k, none⟩ = some (.int .i64 (xs[k]?.getD 0)) := by simpa [List.getD_eq_getElem?_getD] using hcell k hlt
      have hik : (k : Int) < (n : Int) := by omega
      clear hcell hbg
      go_wp2_with (at_builtin; refine wpList_append_own _ rfl _ _ 22 rfl W.heap.size 3 i0 (.int .i64 0) 1 8 Try.underlying22 hi hz0 hz1 hz2 rfl (by decide) _ _ _ rfl (HO.out.alloc _) ⟨wr.heap.size, 0, none⟩ 1 1 [.int .i64 (xs[k]?.getD 0)] rfl rfl ?c1 ?c2 ?c3 ?c4 ?c5 ?_)
      case c1 =>
        intro j v hj
        match j, hj with
        | 0, hj => simp at hj; subst hj; simp [Addr.add]
      case c2 => intro v hv; simp at hv; subst hv; rfl
      case c3 => unfold maxLen; omega
      case c4 => omega
      case c5 => have := HB.out.size; simp; omega
      · intro v' w1 hown' hgrow _
        have hold := HO.out
        have hB1 : Below W.heap.size W w1 := (HB.out.alloc HB.out.size _).grown hgrow (by have := HB.out.size; simp; omega) (fun r hr => (hold.lt r hr).1)
        have hts := take_snoc xs k (by have := HL.out; omega)
        rw [List.map_take] at hts
        rw [hts] at hown'
        have HO1 := Lib.hid hown'
        have HB1 := Lib.hid hB1
        clear hown' hgrow hB1 hold
        go_wp2
        go_roundw
        case rel => exact ⟨k + 1, by omega, by go_num, HO1.out, HB1.out⟩
        case measure => simp [intOf]; omega
    · obtain rfl : k = n := by omega
      have hO := HO.out
      rw [show xs.take k = xs from List.take_of_length_le (by have := HL.out; omega)] at hO
      have HC := Lib.hid (CopyC.of_own hO HB.out)
      clear hO HO
      go_wp2
      go_ret
      exact HC.out

def CopyT (W : World) (h w c : Int) (n : Nat) (xs : List Int) (e : Ending) (W' : World) : Prop :=
  ∃ B cap, e = .returned (.agg #[.int .i64 h, .int .i64 w, .int .i64 c, .slice B n cap]) ∧ OwnI W.heap.size W' B n xs ∧ Below W.heap.size W W'
theorem OwnI.farB {B : Nat} {w : World} {A : Option Addr} {n : Nat} {xs : List Int} (h : OwnI B w A n xs) {b : Nat} (hb : b < B) (x y z u : Value) : OwnI B ((((w.setCell ⟨b, 0, none⟩ x).setCell ⟨b, 1, none⟩ y).setCell ⟨b, 2, none⟩ z).setCell ⟨b, 3, none⟩ u) A n xs := ⟨h.1, fun hn => by
  obtain ⟨g, rfl, hB, _⟩ := h.2 hn
  exact (h.far4 (b := b) (by omega) x y z u).2 hn⟩
/-- What is known where a copy has been made in a world u and laid into block g2. -/
def Copied (W u : World) (h w c : Int) (n g g2 p : Nat) (A B : Option Addr) (cap : Nat) (xs : List Int) : Prop :=
    (u.cell? ⟨g, 0, none⟩ = some (.int .i64 h) ∧ u.cell? ⟨g, 1, none⟩ = some (.int .i64 w) ∧ u.cell? ⟨g, 2, none⟩ = some (.int .i64 c) ∧ u.cell? ⟨g, 3, none⟩ = some (.slice A n p)) ∧
    (u.cell? ⟨g2, 0, none⟩ = some (.int .i64 0) ∧ u.cell? ⟨g2, 1, none⟩ = some (.int .i64 0) ∧ u.cell? ⟨g2, 2, none⟩ = some (.int .i64 0) ∧ u.cell? ⟨g2, 3, none⟩ = some (.slice none 0 0) ∧ u.frozen? ⟨g2, 0, none⟩ = false ∧ u.frozen? ⟨g2, 1, none⟩ = false ∧ u.frozen? ⟨g2, 2, none⟩ = false ∧ u.frozen? ⟨g2, 3, none⟩ = false) ∧
    Hid ((((((u.setCell ⟨g2, 0, none⟩ (.int .i64 h)).setCell ⟨g2, 1, none⟩ (.int .i64 w)).setCell ⟨g2, 2, none⟩ (.int .i64 c)).setCell ⟨g2, 3, none⟩ (.slice B n cap)).cell? ⟨g, 0, none⟩ = some (.int .i64 h) ∧ ((((u.setCell ⟨g2, 0, none⟩ (.int .i64 h)).setCell ⟨g2, 1, none⟩ (.int .i64 w)).setCell ⟨g2, 2, none⟩ (.int .i64 c)).setCell ⟨g2, 3, none⟩ (.slice B n cap)).cell? ⟨g, 1, none⟩ = some (.int .i64 w) ∧ ((((u.setCell ⟨g2, 0, none⟩ (.int .i64 h)).setCell ⟨g2, 1, none⟩ (.int .i64 w)).setCell ⟨g2, 2, none⟩ (.int .i64 c)).setCell ⟨g2, 3, none⟩ (.slice B n cap)).cell? ⟨g, 2, none⟩ = some (.int .i64 c) ∧ ((((u.setCell ⟨g2, 0, none⟩ (.int .i64 h)).setCell ⟨g2, 1, none⟩ (.int .i64 w)).setCell ⟨g2, 2, none⟩ (.int .i64 c)).setCell ⟨g2, 3, none⟩ (.slice B n cap)).cell? ⟨g, 3, none⟩ = some (.slice A n p)) ∧ Bk ((((u.setCell ⟨g2, 0, none⟩ (.int .i64 h)).setCell ⟨g2, 1, none⟩ (.int .i64 w)).setCell ⟨g2, 2, none⟩ (.int .i64 c)).setCell ⟨g2, 3, none⟩ (.slice B n cap)) g2 93 #[.int .i64 h, .int .i64 w, .int .i64 c, .slice B n cap] ∧ OwnI W.heap.size ((((u.setCell ⟨g2, 0, none⟩ (.int .i64 h)).setCell ⟨g2, 1, none⟩ (.int .i64 w)).setCell ⟨g2, 2, none⟩ (.int .i64 c)).setCell ⟨g2, 3, none⟩ (.slice B n cap)) B n xs ∧ Below W.heap.size W ((((u.setCell ⟨g2, 0, none⟩ (.int .i64 h)).setCell ⟨g2, 1, none⟩ (.int .i64 w)).setCell ⟨g2, 2, none⟩ (.int .i64 c)).setCell ⟨g2, 3, none⟩ (.slice B n cap)))
theorem copied {W v u : World} {h w c : Int} {n g g2 p : Nat} {A B : Option Addr} {cap : Nat} {xs : List Int} (hb : Below v.drew.heap.size v.drew u) (ho : OwnI v.drew.heap.size u B n xs) (hv : Below W.heap.size W v) (hg : W.heap.size ≤ g2) (hgn : g ≠ g2)
    (k2 : Bk v g2 93 #[.int .i64 0, .int .i64 0, .int .i64 0, .slice none 0 0]) (k1 : Bk v g 93 #[.int .i64 h, .int .i64 w, .int .i64 c, .slice A n p]) :
    Copied W u h w c n g g2 p A B cap xs := by
  have q1 : Bk u g 93 #[.int .i64 h, .int .i64 w, .int .i64 c, .slice A n p] := Bk.below (w := v.drew) k1 hb
  have q2 : Bk u g2 93 #[.int .i64 0, .int .i64 0, .int .i64 0, .slice none 0 0] := Bk.below (w := v.drew) k2 hb
  have q9 := q1.far4 hgn (.int .i64 h) (.int .i64 w) (.int .i64 c) (.slice B n cap)
  exact ⟨q1.cell4, ⟨q2.cell 0 rfl, q2.cell 1 rfl, q2.cell 2 rfl, q2.cell 3 rfl, q2.frozen 0, q2.frozen 1, q2.frozen 2, q2.frozen 3⟩,
    q9.cell4, q2.set4, (ho.farB k2.lt _ _ _ _).base hv.size, below_set4 (hv.trans ((below_a hb).mono hv.size)) hg _ _ _ _⟩

end Qt
end Go.Proofs.Ytfihjehpkpminaa
