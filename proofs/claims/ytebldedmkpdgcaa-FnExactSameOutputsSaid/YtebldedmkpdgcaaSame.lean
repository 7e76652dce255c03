/- What SameTensor (of the program and of its model) gives when it is called, and slices.Equal as the program uses it. Conditions: the slices read as the lists that are named. -/
import Derived.Test.YtebldedmkpdgcaaBlockUse
import Derived.Laws.StructEq
namespace Go.Proofs.Ytebldedmkpdgcaa
open Go.RowKit Go.Sort
namespace Qt

def shEq (h w c h2 w2 c2 : Int) : Bool := h == h2 && (w == w2 && c == c2)
theorem neqShape (h w c h2 w2 c2 : Int) (W : World) : (binOp .neq 66 (.agg #[.int .i64 h, .int .i64 w, .int .i64 c]) (.agg #[.int .i64 h2, .int .i64 w2, .int .i64 c2])).run Try.prog W = .ok (.bool (!shEq h w c h2 w2 c2)) W := by
  have u3 := Try.underlying3
  have hS : Try.prog.underlying 66 = some (.struct (Try.prog.fieldsOf 66)) := by kernel_rfl
  have hp : Try.prog.stoodInHeld 66 = false := by kernel_rfl
  rw [run_neq_struct, show (10000 : Nat) = 9999 + 1 from rfl, run_equalIn_agg W 9999 66 _ _ hS hp]
  simp only [Program.fieldsOf, Try.underlying66]
  go_simp
  unfold shEq
  by_cases h1 : h = h2 <;> by_cases h3 : w = w2 <;> by_cases h4 : c = c2 <;> simp [h1, h3, h4]
theorem eqlSides (h w c h2 w2 c2 : Int) (W : World) : (binOp .eql 126 (.agg #[.int .i64 h, .int .i64 w, .int .i64 c]) (.agg #[.int .i64 h2, .int .i64 w2, .int .i64 c2])).run Try.prog W = .ok (.bool (shEq h w c h2 w2 c2)) W := by
  have u3 := Try.underlying3
  rw [run_eql_struct, show (10000 : Nat) = 9999 + 1 from rfl]
  unfold Op.equalIn
  simp only [Sem.run_bind, run_underlying Try.underlying126, Result.andThen_ok]
  go_simp
  have a3 := Try.isAgg3
  rw [show List.range' 0 3 = [0, 1, 2] from rfl]
  simp only [List.forIn_cons, List.forIn_nil]
  unfold shEq
  by_cases h1 : h = h2
  · by_cases h3 : w = w2
    · by_cases h4 : c = c2
      · subst h1 h3 h4
        go_simp
      · subst h1 h3
        go_simp
    · subst h1
      go_simp
  · go_simp

def sameOf (h w c : Int) (xs : List Int) (h2 w2 c2 : Int) (ys : List Int) : Bool := tOk h w c xs && (tOk h2 w2 c2 ys && (shEq h w c h2 w2 c2 && decide (xs = ys)))
theorem shEq_iff {h w c h2 w2 c2 : Int} : shEq h w c h2 w2 c2 = true ↔ h = h2 ∧ w = w2 ∧ c = c2 := by simp [shEq]
theorem list_ne {xs ys : List Int} {k : Nat} (h : (xs[k]?.getD 0 != ys[k]?.getD 0) = true) : decide (xs = ys) = false := by
  have h' : xs[k]?.getD 0 ≠ ys[k]?.getD 0 := by simpa using h
  rw [decide_eq_false_iff_not]
  rintro rfl
  exact h' rfl
theorem list_eq {xs ys : List Int} {n : Nat} (h1 : xs.length = n) (h2 : ys.length = n) (h : ∀ j, j < n → xs[j]?.getD 0 = ys[j]?.getD 0) : decide (xs = ys) = true := by
  rw [decide_eq_true_iff]
  apply List.ext_getElem (by omega)
  intro j hj hj2
  simpa [hj, hj2] using h j (by omega)

theorem sameS (h w c : Int) (A : Option Addr) (n p : Nat) (xs : List Int) (h2 w2 c2 : Int) (A2 : Option Addr) (n2 p2 : Nat) (ys : List Int) (W : World) (hr : RdI W A n xs) (hn : n ≤ 1048576) (hr2 : RdI W A2 n2 ys) (hn2 : n2 ≤ 1048576) :
    Calls Try.prog 87 #[.agg #[.int .i64 h, .int .i64 w, .int .i64 c, .slice A n p], .agg #[.int .i64 h2, .int .i64 w2, .int .i64 c2, .slice A2 n2 p2]] W fun e W' => e = .returned (.bool (sameOf h w c xs h2 w2 c2 ys)) ∧ Below W.heap.size W W' := by
  have HN := Lib.hid hn
  have HN2 := Lib.hid hn2
  have k0 := (Bk.new W 68 #[.int .i64 h, .int .i64 w, .int .i64 c, .slice A n p]).alloc (.cells #[.int .i64 h2, .int .i64 w2, .int .i64 c2, .slice A2 n2 p2] 68)
  have k1 := Bk.new (W.alloc (.cells #[.int .i64 h, .int .i64 w, .int .i64 c, .slice A n p] 68)) 68 #[.int .i64 h2, .int .i64 w2, .int .i64 c2, .slice A2 n2 p2]
  have b0 : Below W.heap.size W ((W.alloc (.cells #[.int .i64 h, .int .i64 w, .int .i64 c, .slice A n p] 68)).alloc (.cells #[.int .i64 h2, .int .i64 w2, .int .i64 c2, .slice A2 n2 p2] 68)) := ((Below.refl _ W).alloc (Nat.le_refl _) _).alloc (by simp) _
  have R0 := Lib.hid (hr.of_below b0)
  have R1 := Lib.hid (hr2.of_below b0)
  have B0 := Lib.hid b0
  simp only [World.size_alloc] at k1
  clear hr hr2 hn hn2 b0
  obtain ⟨r, hr⟩ : ∃ r, sameOf h w c xs h2 w2 c2 ys = r := ⟨_, rfl⟩
  rw [hr]
  have HRR := Lib.hid hr
  clear hr
  go_enter Try.func87, Try.ntmps87
  go_wp2_with fail
  generalize (W.alloc (.cells #[.int .i64 h, .int .i64 w, .int .i64 c, .slice A n p] 68)).alloc (.cells #[.int .i64 h2, .int .i64 w2, .int .i64 c2, .slice A2 n2 p2] 68) = v at k0 k1 R0 R1 B0 ⊢
  generalize W.heap.size + 1 = g1 at k1 ⊢
  have K0 := Lib.hid k0
  have K1 := Lib.hid k1
  clear k0 k1
  rcases hb : tOk h w c xs with _ | _
  · obtain rfl : r = false := by rw [← HRR.out]; simp [sameOf, hb]
    have HB := Lib.hid hb
    clear hb
    refine (tensorOkS h w c A n p xs false HB.out _ R0.out HN.out).mono ?_
    rintro e w1 ⟨rfl, b1⟩
    have B1 := Lib.hid (B0.out.trans (b1.mono B0.out.size))
    clear b1
    go_wp2_with fail
    go_ret
    exact ⟨rfl, B1.out⟩
  · have HB := Lib.hid hb
    clear hb
    refine (tensorOkS h w c A n p xs true HB.out _ R0.out HN.out).mono ?_
    rintro e w1 ⟨rfl, b1⟩
    have K0a := Lib.hid (K0.out.below b1)
    have K1a := Lib.hid (K1.out.below b1)
    have R0a := Lib.hid (R0.out.of_below b1)
    have R1a := Lib.hid (R1.out.of_below b1)
    have B1 := Lib.hid (B0.out.trans (b1.mono B0.out.size))
    clear b1 K0 K1 R0 R1 B0
    obtain ⟨d0, d1, d2, d3⟩ := K1a.out.cell4
    go_wp2_with fail
    clear d0 d1 d2 d3
    rcases hb : tOk h2 w2 c2 ys with _ | _
    · obtain rfl : r = false := by rw [← HRR.out]; simp [sameOf, hb]
      have HB2 := Lib.hid hb
      clear hb
      refine (tensorOkS h2 w2 c2 A2 n2 p2 ys false HB2.out _ R1a.out HN2.out).mono ?_
      rintro e w3 ⟨rfl, b2⟩
      have B2 := Lib.hid (B1.out.trans (b2.mono B1.out.size))
      clear b2 B1
      go_wp2_with fail
      go_ret
      exact ⟨rfl, B2.out⟩
    · have HB2 := Lib.hid hb
      clear hb
      refine (tensorOkS h2 w2 c2 A2 n2 p2 ys true HB2.out _ R1a.out HN2.out).mono ?_
      rintro e w3 ⟨rfl, b2⟩
      have K0b := Lib.hid (K0a.out.below b2)
      have K1b := Lib.hid (K1a.out.below b2)
      have R0b := Lib.hid (R0a.out.of_below b2)
      have R1b := Lib.hid (R1a.out.of_below b2)
      have B2 := Lib.hid (B1.out.trans (b2.mono B1.out.size))
      clear b2 K0a K1a R0a R1a B1
      obtain ⟨c0, c1, c2', c3⟩ := K0b.out.cell4
      obtain ⟨d0, d1, d2, d3⟩ := K1b.out.cell4
      rcases hs : shEq h w c h2 w2 c2 with _ | _
      · obtain rfl : r = false := by rw [← HRR.out]; simp [sameOf, hs]
        have hq : ∀ W, (binOp .neq 66 (.agg #[.int .i64 h, .int .i64 w, .int .i64 c]) (.agg #[.int .i64 h2, .int .i64 w2, .int .i64 c2])).run Try.prog W = .ok (.bool true) W := fun W => by rw [neqShape, hs]; rfl
        clear hs
        go_wp2_with fail
        go_ret
        exact ⟨rfl, B2.out⟩
      · have hq : ∀ W, (binOp .neq 66 (.agg #[.int .i64 h, .int .i64 w, .int .i64 c]) (.agg #[.int .i64 h2, .int .i64 w2, .int .i64 c2])).run Try.prog W = .ok (.bool false) W := fun W => by rw [neqShape, hs]; rfl
        have HS := Lib.hid hs
        clear hs
        have hlen : n2 = n := by
          obtain ⟨e1, e2, e3⟩ := shEq_iff.1 HS.out
          have q1 := (tOk_iff.1 HB.out).2.1
          have q2 := (tOk_iff.1 HB2.out).2.1
          have q3 := R0b.out.1
          have q4 := R1b.out.1
          rw [e1, e2, e3] at q1
          omega
        subst hlen
        have hn0 : (0 : Int) ≤ n2 := Int.natCast_nonneg n2
        have hn1 : (n2 : Int) ≤ 1048576 := by have := HN.out; omega
        go_wp2_with fail
        clear hq c0 c1 c2' d0 d1 d2
        go_loopw [5] (fun x wr => ∃ k : Nat, k ≤ n2 ∧ x = .int .i64 k ∧ (∃ m, wr = w3.drewN m) ∧ Hid (∀ j, j < k → xs[j]?.getD 0 = ys[j]?.getD 0)) (fun x _ => n2 - (intOf x).toNat)
        case atStart => exact ⟨0, Nat.zero_le _, rfl, ⟨0, rfl⟩, Lib.hid (fun j hj => absurd hj (Nat.not_lt_zero _))⟩
        case round =>
          obtain ⟨k, hk, rfl, ⟨m, rfl⟩, HQ⟩ := hrel
          by_cases hlt : k < n2
          · obtain ⟨b', off, rfl, hbl, hcell⟩ := R0b.out.2 (by omega)
            obtain ⟨b2', off2, rfl, hbl2, hcell2⟩ := R1b.out.2 (by omega)
            have hc1 := hcell k hlt
            have hc2 := hcell2 k hlt
            have hi : (k : Int) < (n2 : Int) := by omega
            clear hcell hcell2 hbl hbl2
            rcases hx : (xs[k]?.getD 0 != ys[k]?.getD 0) with _ | _
            · go_wp2
              go_quiet (fail)
              go_wp2
              go_round
              case rel =>
                refine ⟨k + 1, by omega, by go_num, ⟨_, rfl⟩, Lib.hid (fun j hj => ?_)⟩
                rcases (by omega : j < k ∨ j = k) with h1 | rfl
                · exact HQ.out j h1
                · simpa using hx
              case measure => simp [intOf]; omega
            · obtain rfl : r = false := by rw [← HRR.out]; simp [sameOf, list_ne hx]
              go_wp2
              go_quiet (fail)
              go_wp2
              go_ret
              exact ⟨rfl, below_drewN (below_drewN B2.out _) _⟩
          · obtain rfl : k = n2 := by omega
            obtain rfl : r = true := by rw [← HRR.out]; unfold sameOf; rw [HB.out, HB2.out, HS.out, list_eq R0b.out.1 R1b.out.1 HQ.out]; rfl
            go_wp2
            go_ret
            exact ⟨rfl, below_drewN B2.out _⟩

theorem ret_bool {a b : Bool} (h : a = b) : Ending.returned (.bool a) = .returned (.bool b) := by rw [h]
theorem smallEqual (A A2 : Option Addr) (n p p2 : Nat) (xs ys : List Int) (W : World) (hr : RdS W A n xs) (hr2 : RdS W A2 n ys) (hn : n ≤ 1048576) :
    Calls Try.prog 121 #[.slice A n p, .slice A2 n p2] W fun e W' => e = .returned (.bool (decide (xs = ys))) ∧ ∃ m, W' = W.drewN m := by
  have R0 := Lib.hid hr
  have R1 := Lib.hid hr2
  have hn0 : (0 : Int) ≤ n := Int.natCast_nonneg n
  have hn1 : (n : Int) ≤ 1048576 := by omega
  obtain ⟨r, hrr⟩ : ∃ r, decide (xs = ys) = r := ⟨_, rfl⟩
  rw [hrr]
  have HRR := Lib.hid hrr
  clear hr hr2 hn hrr
  go_enter Try.func121, Try.ntmps121
  go_wp2
  go_loopw [13] (fun x wr => ∃ k : Nat, k ≤ n ∧ x = .int .i64 k ∧ (∃ m, wr = W.drewN m) ∧ Hid (∀ j, j < k → xs[j]?.getD 0 = ys[j]?.getD 0)) (fun x _ => n - (intOf x).toNat)
  case atStart => exact ⟨0, Nat.zero_le _, rfl, ⟨0, rfl⟩, Lib.hid (fun j hj => absurd hj (Nat.not_lt_zero _))⟩
  case round =>
    obtain ⟨k, hk, rfl, ⟨m, rfl⟩, HQ⟩ := hrel
    by_cases hlt : k < n
    · obtain ⟨b', off, rfl, hbl, hcell⟩ := R0.out.2 (by omega)
      obtain ⟨b2', off2, rfl, hbl2, hcell2⟩ := R1.out.2 (by omega)
      have hc1 := hcell k hlt
      have hc2 := hcell2 k hlt
      have hi : (k : Int) < (n : Int) := by omega
      clear hcell hcell2 hbl hbl2
      rcases hx : (xs[k]?.getD 0 != ys[k]?.getD 0) with _ | _
      · go_wp2
        go_quiet (fail)
        go_wp2
        go_round
        case rel =>
          refine ⟨k + 1, by omega, by go_num, ⟨_, rfl⟩, Lib.hid (fun j hj => ?_)⟩
          rcases (by omega : j < k ∨ j = k) with h1 | rfl
          · exact HQ.out j h1
          · simpa using hx
        case measure => simp [intOf]; omega
      · obtain rfl : r = false := by rw [← HRR.out]; exact list_ne hx
        go_wp2
        go_quiet (fail)
        go_wp2
        go_ret
        exact ⟨rfl, _, World.drewN_drewN ..⟩
    · obtain rfl : k = n := by omega
      obtain rfl : r = true := by rw [← HRR.out]; exact list_eq R0.out.1 R1.out.1 HQ.out
      go_wp2
      go_ret
      exact ⟨rfl, _, rfl⟩

theorem sameI (h w c : Int) (A : Option Addr) (n p : Nat) (xs : List Int) (h2 w2 c2 : Int) (A2 : Option Addr) (n2 p2 : Nat) (ys : List Int) (W : World) (hr : RdI W A n xs) (hn : n ≤ 1048576) (hr2 : RdI W A2 n2 ys) (hn2 : n2 ≤ 1048576) :
    Calls Try.prog 63 #[.agg #[.int .i64 h, .int .i64 w, .int .i64 c, .slice A n p], .agg #[.int .i64 h2, .int .i64 w2, .int .i64 c2, .slice A2 n2 p2]] W fun e W' => e = .returned (.bool (sameOf h w c xs h2 w2 c2 ys)) ∧ Below W.heap.size W W' := by
  have HN := Lib.hid hn
  have HN2 := Lib.hid hn2
  have k1 := Bk.new (W.alloc (.cells #[.int .i64 h, .int .i64 w, .int .i64 c, .slice A n p] 68)) 68 #[.int .i64 h2, .int .i64 w2, .int .i64 c2, .slice A2 n2 p2]
  have b0 : Below W.heap.size W ((W.alloc (.cells #[.int .i64 h, .int .i64 w, .int .i64 c, .slice A n p] 68)).alloc (.cells #[.int .i64 h2, .int .i64 w2, .int .i64 c2, .slice A2 n2 p2] 68)) := ((Below.refl _ W).alloc (Nat.le_refl _) _).alloc (by simp) _
  have R0 := Lib.hid (hr.of_below b0)
  have R1 := Lib.hid (hr2.of_below b0)
  have B0 := Lib.hid b0
  simp only [World.size_alloc] at k1
  clear hr hr2 hn hn2 b0
  obtain ⟨r, hr⟩ : ∃ r, sameOf h w c xs h2 w2 c2 ys = r := ⟨_, rfl⟩
  rw [hr]
  have HRR := Lib.hid hr
  clear hr
  go_enter Try.func63, Try.ntmps63
  go_wp2_with fail
  generalize (W.alloc (.cells #[.int .i64 h, .int .i64 w, .int .i64 c, .slice A n p] 68)).alloc (.cells #[.int .i64 h2, .int .i64 w2, .int .i64 c2, .slice A2 n2 p2] 68) = v at k1 R0 R1 B0 ⊢
  generalize W.heap.size + 1 = g1 at k1 ⊢
  have K1 := Lib.hid k1
  clear k1
  rcases hb : tOk h w c xs with _ | _
  · obtain rfl : r = false := by rw [← HRR.out]; simp [sameOf, hb]
    have HB := Lib.hid hb
    clear hb
    refine (blockOf_not h w c A n p xs HB.out _ R0.out HN.out).mono ?_
    rintro e u1 ⟨rfl, b1⟩
    have a1 := (Below.refl _ u1).alloc (Nat.le_refl _) (.cells #[.int .i64 0, .int .i64 0, .int .i64 0, .slice none 0 0] 129)
    replace K1 := Lib.hid (K1.out.below b1 |>.below a1)
    replace R1 := Lib.hid ((R1.out.of_below b1).of_below a1)
    have N1 := Lib.hid (Bk.new u1 129 #[.int .i64 0, .int .i64 0, .int .i64 0, .slice none 0 0])
    replace B0 := Lib.hid ((B0.out.trans (b1.mono B0.out.size)).alloc (B0.out.trans (b1.mono B0.out.size)).size (.cells #[.int .i64 0, .int .i64 0, .int .i64 0, .slice none 0 0] 129))
    clear a1 b1 R0
    obtain ⟨d0, d1, d2, d3⟩ := K1.out.cell4
    go_wp2_with fail
    clear d0 d1 d2 d3
    generalize u1.alloc (.cells #[.int .i64 0, .int .i64 0, .int .i64 0, .slice none 0 0] 129) = v1 at K1 R1 B0 N1 ⊢
    generalize u1.heap.size = g2 at N1 ⊢
    rcases hb : tOk h2 w2 c2 ys with _ | _
    · have HB2 := Lib.hid hb
      clear hb
      refine (blockOf_not h2 w2 c2 A2 n2 p2 ys HB2.out _ R1.out HN2.out).mono ?_
      rintro e u2 ⟨rfl, b2⟩
      have a2 := (Below.refl _ u2).alloc (Nat.le_refl _) (.cells #[.int .i64 0, .int .i64 0, .int .i64 0, .slice none 0 0] 129)
      replace N1 := Lib.hid (N1.out.below b2 |>.below a2)
      have N2 := Lib.hid (Bk.new u2 129 #[.int .i64 0, .int .i64 0, .int .i64 0, .slice none 0 0])
      replace B0 := Lib.hid ((B0.out.trans (b2.mono B0.out.size)).alloc (B0.out.trans (b2.mono B0.out.size)).size (.cells #[.int .i64 0, .int .i64 0, .int .i64 0, .slice none 0 0] 129))
      clear a2 b2 R1
      go_wp2_with fail
      go_ret
      exact ⟨rfl, B0.out⟩
    · have HB2 := Lib.hid hb
      clear hb
      refine (blockOf_ok h2 w2 c2 A2 n2 p2 ys HB2.out _ R1.out HN2.out).mono ?_
      rintro e u2 ⟨q2, cap2, rfl, _, r2, b2⟩
      have a2 := (Below.refl _ u2).alloc (Nat.le_refl _) (.cells #[.int .i64 h2, .int .i64 w2, .int .i64 c2, .slice (some ⟨q2, 0, none⟩) n2 cap2] 129)
      replace N1 := Lib.hid (N1.out.below b2 |>.below a2)
      have S2 := Lib.hid (r2.of_below a2)
      clear r2
      have N2 := Lib.hid (Bk.new u2 129 #[.int .i64 h2, .int .i64 w2, .int .i64 c2, .slice (some ⟨q2, 0, none⟩) n2 cap2])
      replace B0 := Lib.hid ((B0.out.trans (b2.mono B0.out.size)).alloc (B0.out.trans (b2.mono B0.out.size)).size (.cells #[.int .i64 h2, .int .i64 w2, .int .i64 c2, .slice (some ⟨q2, 0, none⟩) n2 cap2] 129))
      clear a2 b2 R1
      go_wp2_with fail
      go_ret
      exact ⟨rfl, B0.out⟩
  · have HB := Lib.hid hb
    clear hb
    refine (blockOf_ok h w c A n p xs HB.out _ R0.out HN.out).mono ?_
    rintro e u1 ⟨q1, cap1, rfl, _, r1, b1⟩
    have a1 := (Below.refl _ u1).alloc (Nat.le_refl _) (.cells #[.int .i64 h, .int .i64 w, .int .i64 c, .slice (some ⟨q1, 0, none⟩) n cap1] 129)
    replace K1 := Lib.hid (K1.out.below b1 |>.below a1)
    replace R1 := Lib.hid ((R1.out.of_below b1).of_below a1)
    have S1 := Lib.hid (r1.of_below a1)
    clear r1
    have N1 := Lib.hid (Bk.new u1 129 #[.int .i64 h, .int .i64 w, .int .i64 c, .slice (some ⟨q1, 0, none⟩) n cap1])
    replace B0 := Lib.hid ((B0.out.trans (b1.mono B0.out.size)).alloc (B0.out.trans (b1.mono B0.out.size)).size (.cells #[.int .i64 h, .int .i64 w, .int .i64 c, .slice (some ⟨q1, 0, none⟩) n cap1] 129))
    clear a1 b1 R0
    obtain ⟨d0, d1, d2, d3⟩ := K1.out.cell4
    go_wp2_with fail
    clear d0 d1 d2 d3
    generalize u1.alloc (.cells #[.int .i64 h, .int .i64 w, .int .i64 c, .slice (some ⟨q1, 0, none⟩) n cap1] 129) = v1 at K1 R1 B0 N1 S1 ⊢
    generalize u1.heap.size = g2 at N1 ⊢
    rcases hb : tOk h2 w2 c2 ys with _ | _
    · obtain rfl : r = false := by rw [← HRR.out]; simp [sameOf, hb]
      have HB2 := Lib.hid hb
      clear hb
      refine (blockOf_not h2 w2 c2 A2 n2 p2 ys HB2.out _ R1.out HN2.out).mono ?_
      rintro e u2 ⟨rfl, b2⟩
      have a2 := (Below.refl _ u2).alloc (Nat.le_refl _) (.cells #[.int .i64 0, .int .i64 0, .int .i64 0, .slice none 0 0] 129)
      replace N1 := Lib.hid (N1.out.below b2 |>.below a2)
      replace S1 := Lib.hid ((S1.out.of_below b2).of_below a2)
      have N2 := Lib.hid (Bk.new u2 129 #[.int .i64 0, .int .i64 0, .int .i64 0, .slice none 0 0])
      replace B0 := Lib.hid ((B0.out.trans (b2.mono B0.out.size)).alloc (B0.out.trans (b2.mono B0.out.size)).size (.cells #[.int .i64 0, .int .i64 0, .int .i64 0, .slice none 0 0] 129))
      clear a2 b2 R1
      go_wp2_with fail
      go_ret
      exact ⟨rfl, B0.out⟩
    · have HB2 := Lib.hid hb
      clear hb
      refine (blockOf_ok h2 w2 c2 A2 n2 p2 ys HB2.out _ R1.out HN2.out).mono ?_
      rintro e u2 ⟨q2, cap2, rfl, _, r2, b2⟩
      have a2 := (Below.refl _ u2).alloc (Nat.le_refl _) (.cells #[.int .i64 h2, .int .i64 w2, .int .i64 c2, .slice (some ⟨q2, 0, none⟩) n2 cap2] 129)
      replace N1 := Lib.hid (N1.out.below b2 |>.below a2)
      replace S1 := Lib.hid ((S1.out.of_below b2).of_below a2)
      have S2 := Lib.hid (r2.of_below a2)
      clear r2
      have N2 := Lib.hid (Bk.new u2 129 #[.int .i64 h2, .int .i64 w2, .int .i64 c2, .slice (some ⟨q2, 0, none⟩) n2 cap2])
      replace B0 := Lib.hid ((B0.out.trans (b2.mono B0.out.size)).alloc (B0.out.trans (b2.mono B0.out.size)).size (.cells #[.int .i64 h2, .int .i64 w2, .int .i64 c2, .slice (some ⟨q2, 0, none⟩) n2 cap2] 129))
      clear a2 b2 R1
      rcases hs : shEq h w c h2 w2 c2 with _ | _
      · obtain rfl : r = false := by rw [← HRR.out]; simp [sameOf, hs]
        have hq : ∀ W, (binOp .eql 126 (.agg #[.int .i64 h, .int .i64 w, .int .i64 c]) (.agg #[.int .i64 h2, .int .i64 w2, .int .i64 c2])).run Try.prog W = .ok (.bool false) W := fun W => by rw [eqlSides, hs]
        clear hs
        obtain ⟨c0, c1, c2', c3⟩ := N1.out.cell4
        go_wp2_with fail
        go_ret
        exact ⟨rfl, B0.out⟩
      · have hq : ∀ W, (binOp .eql 126 (.agg #[.int .i64 h, .int .i64 w, .int .i64 c]) (.agg #[.int .i64 h2, .int .i64 w2, .int .i64 c2])).run Try.prog W = .ok (.bool true) W := fun W => by rw [eqlSides, hs]
        have hlen : n2 = n := by
          obtain ⟨e1, e2, e3⟩ := shEq_iff.1 hs
          have q1 := (tOk_iff.1 HB.out).2.1
          have q2 := (tOk_iff.1 HB2.out).2.1
          have q3 := S1.out.1
          have q4 := S2.out.1
          rw [e1, e2, e3] at q1
          omega
        subst hlen
        have hrr : r = decide (xs = ys) := by rw [← HRR.out]; unfold sameOf; rw [HB.out, HB2.out, hs]; simp
        have HX := Lib.hid hrr
        clear hs hrr
        obtain ⟨c0, c1, c2', c3⟩ := N1.out.cell4
        go_wp2_with fail
        refine (smallEqual _ _ n2 _ _ xs ys _ S1.out S2.out HN2.out).mono ?_
        rintro e w5 ⟨rfl, m, hm⟩
        have B5 := Lib.hid (show Below W.heap.size W w5 from hm ▸ below_drewN B0.out m)
        clear hm hq c0 c1 c2' c3 S1 S2 N1 N2 B0
        go_wp2_with fail
        go_ret
        exact ⟨ret_bool HX.out.symm, B5.out⟩
end Qt
end Go.Proofs.Ytebldedmkpdgcaa
