/- What TensorOk and ItemAt of the program, and ItemAt of the model, give when they are called. Conditions: the slice reads as the list that is named. -/
import Derived.Test.YteiacbmakhkemaaBlock
namespace Go.Proofs.Yteiacbmakhkemaa
open Go.RowKit Go.Sort
namespace Qt

theorem tensorOkI (h w c : Int) (A : Option Addr) (n p : Nat) (xs : List Int) (b : Bool) (hb : tOk h w c xs = b) (W : World) (hr : RdI W A n xs) (hn : n ≤ 1048576) :
    Calls Try.prog 42 #[.agg #[.int .i64 h, .int .i64 w, .int .i64 c, .slice A n p]] W fun e W' => e = .returned (.bool b) ∧ Below W.heap.size W W' := by
  have B0 := (Below.refl _ W).alloc (Nat.le_refl _) (.cells #[.int .i64 h, .int .i64 w, .int .i64 c, .slice A n p] 28)
  have HR := Lib.hid (hr.of_below B0)
  have HN := Lib.hid hn
  have HB := Lib.hid hb
  clear hr hn hb B0
  cases b with
  | true =>
    go_enter Try.func42, Try.ntmps42
    go_wp2_with fail
    refine (blockOf_ok h w c A n p xs HB.out _ HR.out HN.out).mono ?_
    rintro e w1 ⟨g, cap, rfl, hg, r1, b1⟩
    have B1 := Lib.hid (after1 b1)
    clear hg r1 b1
    go_wp2
    go_ret
    exact ⟨rfl, B1.out.alloc B1.out.size _⟩
  | false =>
    go_enter Try.func42, Try.ntmps42
    go_wp2_with fail
    refine (blockOf_not h w c A n p xs HB.out _ HR.out HN.out).mono ?_
    rintro e w1 ⟨rfl, b1⟩
    have B1 := Lib.hid (after1 b1)
    clear b1
    go_wp2
    go_ret
    exact ⟨rfl, B1.out.alloc B1.out.size _⟩

def itemOk (h w c i j k : Int) (xs : List Int) : Bool := tOk h w c xs && decide (0 ≤ plOf h w c i j k)
def itemOf (h w c i j k : Int) (xs : List Int) : Int := if itemOk h w c i j k xs then xs.getD (plOf h w c i j k).toNat 0 else 0
theorem ret_item {x y : Int} {b : Bool} (h : x = y) : Ending.returned (.tuple #[.int .i64 x, .bool b]) = .returned (.tuple #[.int .i64 y, .bool b]) := by rw [h]

theorem itemAtS (h w c i j k : Int) (A : Option Addr) (n p : Nat) (xs : List Int) (W : World) (hr : RdI W A n xs) (hn : n ≤ 1048576) :
    Calls Try.prog 68 #[.agg #[.int .i64 h, .int .i64 w, .int .i64 c, .slice A n p], .int .i64 i, .int .i64 j, .int .i64 k] W fun e W' => e = .returned (.tuple #[.int .i64 (itemOf h w c i j k xs), .bool (itemOk h w c i j k xs)]) ∧ Below W.heap.size W W' := by
  have HN := Lib.hid hn
  have HR := Lib.hid hr
  have HL := Lib.hid hr.1
  clear hr hn
  rcases hb : tOk h w c xs with _ | _
  · have e1 : itemOk h w c i j k xs = false := by simp [itemOk, hb]
    have e2 : itemOf h w c i j k xs = 0 := by simp [itemOf, e1]
    rw [e1, e2]
    have HB := Lib.hid hb
    clear hb e1 e2
    go_enter Try.func68, Try.ntmps68
    go_wp2_with fail
    refine (placeS h w c i j k _).mono ?_
    rintro e w1 ⟨rfl, b1⟩
    have k0 := (Bk.new W 28 #[.int .i64 h, .int .i64 w, .int .i64 c, .slice A n p]).below b1
    have B1 := Lib.hid (after1 b1)
    have K0 := Lib.hid k0
    obtain ⟨c0, c1, c2, c3⟩ := k0.cell4
    clear b1 k0
    go_wp2_with fail
    refine (tensorOkS h w c A n p xs false HB.out _ (HR.out.of_below B1.out) HN.out).mono ?_
    rintro e w2 ⟨rfl, b2⟩
    have k0 := K0.out.below b2
    have B2 := Lib.hid (B1.out.trans (b2.mono B1.out.size))
    clear c0 c1 c2 c3
    obtain ⟨c0, c1, c2, c3⟩ := k0.cell4
    clear b2 k0 K0 B1
    go_wp2
    go_ret2
    exact ⟨rfl, B2.out⟩
  · by_cases hp : 0 ≤ plOf h w c i j k
    · have e1 : itemOk h w c i j k xs = true := by simp [itemOk, hb, hp]
      have e2 : itemOf h w c i j k xs = xs.getD (plOf h w c i j k).toNat 0 := by simp [itemOf, e1]
      rw [e1, e2]
      have hlt := (plOf_bd h w c i j k).2.2 hp
      have hlen := (tOk_iff.1 hb).2.1
      obtain ⟨m, hm⟩ : ∃ m : Nat, plOf h w c i j k = m := ⟨(plOf h w c i j k).toNat, by omega⟩
      rw [hm]
      have hmn : (m : Int) < (n : Int) := by have := HL.out; omega
      have hm0 : (0 : Int) ≤ (m : Int) := Int.natCast_nonneg m
      have hn1 : (n : Int) ≤ 1048576 := by have := HN.out; omega
      have q : ∀ W, Calls Try.prog 84 #[.agg #[.int .i64 h, .int .i64 w, .int .i64 c], .int .i64 i, .int .i64 j, .int .i64 k] W fun e W' => e = .returned (.int .i64 (m : Int)) ∧ Below W.heap.size W W' := fun W => by have := placeS h w c i j k W; rw [hm] at this; exact this
      have Q := Lib.hid q
      have HB := Lib.hid hb
      clear hb e1 e2 hp hlt hlen hm q
      go_enter Try.func68, Try.ntmps68
      go_wp2_with fail
      refine (Q.out _).mono ?_
      rintro e w1 ⟨rfl, b1⟩
      have k0 := (Bk.new W 28 #[.int .i64 h, .int .i64 w, .int .i64 c, .slice A n p]).below b1
      have B1 := Lib.hid (after1 b1)
      have K0 := Lib.hid k0
      obtain ⟨c0, c1, c2, c3⟩ := k0.cell4
      clear b1 k0
      go_wp2_with fail
      refine (tensorOkS h w c A n p xs true HB.out _ (HR.out.of_below B1.out) HN.out).mono ?_
      rintro e w2 ⟨rfl, b2⟩
      have k0 := K0.out.below b2
      have B2 := Lib.hid (B1.out.trans (b2.mono B1.out.size))
      clear c0 c1 c2 c3
      obtain ⟨c0, c1, c2, c3⟩ := k0.cell4
      clear b2 k0 K0 B1
      obtain ⟨b', off, rfl, hbl, hcell⟩ := (HR.out.of_below B2.out).2 (by omega)
      have hcx := hcell m (by omega)
      clear hcell
      go_wp2
      go_ret2
      exact ⟨ret_item (by simp [List.getD_eq_getElem?_getD]), B2.out⟩
    · have e1 : itemOk h w c i j k xs = false := by simp [itemOk, hp]
      have e2 : itemOf h w c i j k xs = 0 := by simp [itemOf, e1]
      rw [e1, e2]
      have hm := (plOf_bd h w c i j k).2.1 (by omega)
      have q : ∀ W, Calls Try.prog 84 #[.agg #[.int .i64 h, .int .i64 w, .int .i64 c], .int .i64 i, .int .i64 j, .int .i64 k] W fun e W' => e = .returned (.int .i64 (-1)) ∧ Below W.heap.size W W' := fun W => by have := placeS h w c i j k W; rw [hm] at this; exact this
      have Q := Lib.hid q
      have HB := Lib.hid hb
      clear hb e1 e2 hp hm q
      go_enter Try.func68, Try.ntmps68
      go_wp2_with fail
      refine (Q.out _).mono ?_
      rintro e w1 ⟨rfl, b1⟩
      have k0 := (Bk.new W 28 #[.int .i64 h, .int .i64 w, .int .i64 c, .slice A n p]).below b1
      have B1 := Lib.hid (after1 b1)
      have K0 := Lib.hid k0
      obtain ⟨c0, c1, c2, c3⟩ := k0.cell4
      clear b1 k0
      go_wp2_with fail
      refine (tensorOkS h w c A n p xs true HB.out _ (HR.out.of_below B1.out) HN.out).mono ?_
      rintro e w2 ⟨rfl, b2⟩
      have k0 := K0.out.below b2
      have B2 := Lib.hid (B1.out.trans (b2.mono B1.out.size))
      clear c0 c1 c2 c3
      obtain ⟨c0, c1, c2, c3⟩ := k0.cell4
      clear b2 k0 K0 B1
      go_wp2
      go_ret2
      exact ⟨rfl, B2.out⟩

end Qt
end Go.Proofs.Yteiacbmakhkemaa
