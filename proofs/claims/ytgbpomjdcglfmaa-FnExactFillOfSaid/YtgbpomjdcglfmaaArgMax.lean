/- What ArgMax (of the program and of its model) gives when it is called: the place of the greatest number, the first of several. Conditions: the slice reads as the list that is named. -/
import Derived.Test.YtgbpomjdcglfmaaRange
namespace Go.Proofs.Ytgbpomjdcglfmaa
open Go.RowKit Go.Shelf Go.Sort
namespace Qt
attribute [local go_sem] Oper.semAt_some

/-- The place of the greatest of the first k numbers, the first of several. -/
def best (xs : List Int) : Nat → Nat
  | 0 => 0
  | k + 1 => if xs[best xs k]?.getD 0 < xs[k]?.getD 0 then k else best xs k
theorem best_lt (xs : List Int) : ∀ k, best xs k = 0 ∨ best xs k < k
  | 0 => .inl rfl
  | k + 1 => by
    unfold best
    split
    · exact .inr (by omega)
    · rcases best_lt xs k with h | h
      · exact .inl h
      · exact .inr (by omega)
theorem best_le (xs : List Int) : ∀ k j, j < k → xs[j]?.getD 0 ≤ xs[best xs k]?.getD 0
  | 0, j, h => absurd h (Nat.not_lt_zero _)
  | k + 1, j, h => by
    unfold best
    split
    · next hx =>
      rcases (by omega : j < k ∨ j = k) with h1 | rfl
      · exact Int.le_trans (best_le xs k j h1) (Int.le_of_lt hx)
      · exact Int.le_refl _
    · next hx =>
      rcases (by omega : j < k ∨ j = k) with h1 | rfl
      · exact best_le xs k j h1
      · omega
theorem best_go {xs : List Int} {k : Nat} (h : xs[best xs k]?.getD 0 < xs[k]?.getD 0) : best xs (k + 1) = k := by rw [best, if_pos h]
theorem best_stay {xs : List Int} {k : Nat} (h : ¬ xs[best xs k]?.getD 0 < xs[k]?.getD 0) : best xs (k + 1) = best xs k := by rw [best, if_neg h]
theorem best_one (xs : List Int) : best xs 1 = 0 := best_stay (by simp [best])
def amOf (h w c : Int) (xs : List Int) : Int := if tOk h w c xs then (best xs xs.length : Nat) else -1
theorem amOf_yes {h w c : Int} {xs : List Int} (hb : tOk h w c xs = true) : amOf h w c xs = (best xs xs.length : Nat) := by rw [amOf, if_pos hb]
theorem amOf_no {h w c : Int} {xs : List Int} (hb : tOk h w c xs = false) : amOf h w c xs = -1 := by rw [amOf, hb]; rfl

theorem bk_own {β : Type} (B g t : Nat) (cs : β → Array Value) : OwnFrom B (fun s W => Bk W g t (cs s)) := fun s X Y row hs hg hr =>
  (hg.block g hs.lt (fun e => by
    obtain ⟨_, o, ho, hc⟩ := hr g e.symm
    have h : X.heap[g]? = _ := hs
    rw [h] at ho; cases ho; cases hc)).trans hs
theorem argMaxI_yes (h w c : Int) (A : Option Addr) (n p : Nat) (xs : List Int) (hb : tOk h w c xs = true) (W : World) (hr : RdI W A n xs) (hn : n ≤ 1048576) :
    Calls Try.prog 38 #[.agg #[.int .i64 h, .int .i64 w, .int .i64 c, .slice A n p]] W fun e W' => e = .returned (.int .i64 (amOf h w c xs)) ∧ Below W.heap.size W W' := by
  have B0 := (Below.refl _ W).alloc (Nat.le_refl _) (.cells #[.int .i64 h, .int .i64 w, .int .i64 c, .slice A n p] 35)
  have HR0 := Lib.hid (hr.of_below B0)
  have HN := Lib.hid hn
  have HB := Lib.hid hb
  have HL := Lib.hid hr.1
  clear hr hn hb B0
  refine (callsIn_wide (n := 8)).1 ?_
  refine callsIn_of_wp_marks Try.func38 rfl trivial ?_ rfl
  simp only [Try.ntmps38, List.size_toArray, List.length_cons, List.length_nil, Nat.reduceAdd, Nat.reduceSub, Array.replicate_succ, Array.replicate_zero, List.push_toArray, List.append_toArray, List.nil_append, List.cons_append]
  gi_wp2_with fail
  refine ⟨trivial, (callsIn_wide.2 (blockOf_ok h w c A n p xs HB.out _ HR0.out HN.out)).mono ?_⟩
  rintro e w1 ⟨g, cap, rfl, hg, r1, b1⟩
  have B1 := Lib.hid (after1 b1)
  have R1 := Lib.hid r1
  have hglt : Hid (W.heap.size ≤ g) := Lib.hid (Nat.le_trans (by simp) hg)
  clear b1 r1 hg HR0
  gi_wp2_with fail
  have k3 := (Bk.new w1 64 #[.int .i64 h, .int .i64 w, .int .i64 c, .slice (some ⟨g, 0, none⟩) n cap]).alloc (.cells #[.int .i64 0] 3)
  have k5 := Bk.new (w1.alloc (.cells #[.int .i64 h, .int .i64 w, .int .i64 c, .slice (some ⟨g, 0, none⟩) n cap] 64)) 3 #[.int .i64 0]
  have a1 : Below w1.heap.size w1 ((w1.alloc (.cells #[.int .i64 h, .int .i64 w, .int .i64 c, .slice (some ⟨g, 0, none⟩) n cap] 64)).alloc (.cells #[.int .i64 0] 3)) := ((Below.refl _ w1).alloc (Nat.le_refl _) _).alloc (by simp) _
  have hsz : ((w1.alloc (.cells #[.int .i64 h, .int .i64 w, .int .i64 c, .slice (some ⟨g, 0, none⟩) n cap] 64)).alloc (.cells #[.int .i64 0] 3)).heap.size = w1.heap.size + 2 := by simp
  have hg1 : g < w1.heap.size := by
    have hpos : 0 < n := by
      have q1 := (tOk_iff.1 HB.out)
      have q2 := szOf_yes q1.1
      have q3 := HL.out
      omega
    obtain ⟨b', off, e, hlt, _⟩ := R1.out.2 hpos
    cases e
    exact hlt
  simp only [World.size_alloc] at k5
  have r2 := R1.out.of_below a1
  have B2 := Lib.hid (B1.out.trans (a1.mono B1.out.size))
  have hw1 := B1.out.size
  generalize (w1.alloc (.cells #[.int .i64 h, .int .i64 w, .int .i64 c, .slice (some ⟨g, 0, none⟩) n cap] 64)).alloc (.cells #[.int .i64 0] 3) = v at k3 k5 a1 r2 B2 hsz ⊢
  obtain ⟨g5, hg5⟩ : ∃ g5, g5 = w1.heap.size + 1 := ⟨_, rfl⟩
  rw [← hg5] at k5 ⊢
  obtain ⟨g3, hg3⟩ : ∃ g3, g3 = w1.heap.size := ⟨_, rfl⟩
  rw [← hg3] at k3 ⊢
  have i1 : g3 < g5 := by omega
  have i2 : g < g5 := by omega
  have i3 : g5 < v.heap.size := by omega
  have i4 : W.heap.size ≤ g5 := by omega
  clear R1 B1 a1 hg3 hg5 hsz hg1 hw1
  refine wpIn_rangeMethod rfl (by omega) (gf := 59) (recv := .agg #[.int .i64 h, .int .i64 w, .int .i64 c, .slice (some ⟨g, 0, none⟩) n cap]) rfl trivial (enters_of Try.func59 (by kernel_rfl) rfl) (n0 := g5) (by omega)
    (walk_gives Fence.wide _ trivial rfl (by omega) h w c _ n cap g5 xs v r2 (by intro b off e; cases e; exact i2) (by omega) HN.out) (fun _ => rfl)
    (fun k W' => Bk W' g5 3 #[.int .i64 (best xs k : Nat)] ∧ Below g5 v W')
    (OwnFrom.and (bk_own _ _ _ (fun k => #[.int .i64 (best xs k : Nat)])) (ownFrom_below (by omega) (by omega))) ⟨k5, Below.refl _ _⟩
    (fun k => { tmps := #[.agg #[.int .i64 h, .int .i64 w, .int .i64 c, .slice A n p], .pointer (some ⟨W.heap.size, 0, none⟩), .int .i64 0, .pointer (some ⟨g3, 0, none⟩), .bool true, .pointer (some ⟨g5, 0, none⟩), .int .i64 (k : Int), .int .i8 (xs[k]?.getD 0),
      .tuple #[.agg #[.int .i64 h, .int .i64 w, .int .i64 c, .slice (some ⟨g, 0, none⟩) n cap], .bool true], .agg #[.int .i64 h, .int .i64 w, .int .i64 c, .slice A n p], .tuple #[.agg #[.int .i64 h, .int .i64 w, .int .i64 c, .slice (some ⟨g, 0, none⟩) n cap], .bool true],
      .agg #[.int .i64 h, .int .i64 w, .int .i64 c, .slice (some ⟨g, 0, none⟩) n cap], .bool true, .bool true, .bool false, .agg #[.int .i64 h, .int .i64 w, .int .i64 c, .slice (some ⟨g, 0, none⟩) n cap], .func (.func 59) #[.agg #[.int .i64 h, .int .i64 w, .int .i64 c, .slice (some ⟨g, 0, none⟩) n cap]] #[],
      .int .i64 (k : Int), .int .i8 (xs[k]?.getD 0), undef, undef, undef, undef, undef, undef, undef, undef, undef], defers := [] }) ?assign ?body ?done
  case assign =>
    intro l k W' K hK
    gi_wp2
    exact hK
  case body =>
    rintro l k W' ⟨hk5, hB⟩ hk
    have hbl : best xs k < n := by rcases best_lt xs k with h1 | h1 <;> omega
    have hbi : ((best xs k : Nat) : Int) < (n : Int) := by omega
    have hb0 : (0 : Int) ≤ ((best xs k : Nat) : Int) := Int.natCast_nonneg _
    have hn1 : (n : Int) ≤ 1048576 := by have := HN.out; omega
    have hcb : W'.cell? ⟨g, best xs k, none⟩ = some (.int .i8 (xs[best xs k]?.getD 0)) := by
      obtain ⟨b', off, e, _, hcell⟩ := r2.2 (by omega)
      cases e
      rw [hB.cell (p := ⟨g, best xs k, none⟩) (by show g < g5; omega)]
      simpa [List.getD_eq_getElem?_getD] using hcell (best xs k) hbl
    have e3 := (k3.belowN hB (by omega)).cell 3 rfl
    have e5 := hk5.cell 0 rfl
    have f5 := hk5.frozen 0
    have fit : ∀ j, j < n → -128 ≤ xs[j]?.getD 0 ∧ xs[j]?.getD 0 ≤ 127 := fun j hj => by
      have hl : j < xs.length := by have := HL.out; omega
      have := (tOk_iff.1 HB.out).2.2 _ (List.getElem_mem hl)
      simpa [hl] using this
    have q1 := fit _ hk
    have q2 := fit _ hbl
    have K5 := Lib.hid hk5
    have HBW := Lib.hid hB
    clear fit hk5 hB k3 k5 r2
    by_cases hx : xs[best xs k]?.getD 0 < xs[k]?.getD 0
    · have HX := Lib.hid (best_go hx)
      gi_wp2
      refine ⟨(KeepsOthers.setCell _ _ _).from _, (Below.refl g5 W').setCell (p := ⟨g5, 0, none⟩) (Nat.le_refl _) _, ?_, HBW.out.setCell (p := ⟨g5, 0, none⟩) (Nat.le_refl _) _⟩
      rw [HX.out]
      exact K5.out.set 0 _
    · have HX := Lib.hid (best_stay hx)
      gi_wp2
      refine ⟨KeepsFrom.refl _ _, Below.refl _ _, ?_, HBW.out⟩
      rw [HX.out]
      exact K5.out
  case done =>
    rintro D W' hD ⟨hk5, hB⟩ hd
    have e5 := hk5.cell 0 rfl
    have HBW := Lib.hid hB
    clear hB hk5 k3 k5 r2
    gi_wp2
    refine ⟨by simp, .inl ⟨_, _, rfl, run_takeDeferred hd, ?_⟩⟩
    refine ⟨_, results_tmp rfl _ _ _, ?_, ?_⟩
    · rw [amOf_yes HB.out, HL.out]; rfl
    · exact (B2.out.trans (HBW.out.mono (by omega))).trans (belowK_b (w := W) (Nat.le_refl _) W' D _ _ (by omega) hd rfl rfl)

theorem argMaxI_no (h w c : Int) (A : Option Addr) (n p : Nat) (xs : List Int) (hb : tOk h w c xs = false) (W : World) (hr : RdI W A n xs) (hn : n ≤ 1048576) :
    Calls Try.prog 38 #[.agg #[.int .i64 h, .int .i64 w, .int .i64 c, .slice A n p]] W fun e W' => e = .returned (.int .i64 (amOf h w c xs)) ∧ Below W.heap.size W W' := by
  have B0 := (Below.refl _ W).alloc (Nat.le_refl _) (.cells #[.int .i64 h, .int .i64 w, .int .i64 c, .slice A n p] 35)
  have HR0 := Lib.hid (hr.of_below B0)
  have HN := Lib.hid hn
  have HB := Lib.hid hb
  rw [amOf_no hb]
  clear hr hn hb B0
  refine (callsIn_wide (n := 8)).1 ?_
  refine callsIn_of_wp_marks Try.func38 rfl trivial ?_ rfl
  simp only [Try.ntmps38, List.size_toArray, List.length_cons, List.length_nil, Nat.reduceAdd, Nat.reduceSub, Array.replicate_succ, Array.replicate_zero, List.push_toArray, List.append_toArray, List.nil_append, List.cons_append]
  gi_wp2_with fail
  refine ⟨trivial, (callsIn_wide.2 (blockOf_not h w c A n p xs HB.out _ HR0.out HN.out)).mono ?_⟩
  rintro e w1 ⟨rfl, b1⟩
  have B1 := Lib.hid (after1 b1)
  clear b1 HR0
  gi_wp2
  refine ⟨_, results_tmp rfl _ _ _, rfl, B1.out.alloc B1.out.size _⟩

theorem argMaxI (h w c : Int) (A : Option Addr) (n p : Nat) (xs : List Int) (W : World) (hr : RdI W A n xs) (hn : n ≤ 1048576) :
    Calls Try.prog 38 #[.agg #[.int .i64 h, .int .i64 w, .int .i64 c, .slice A n p]] W fun e W' => e = .returned (.int .i64 (amOf h w c xs)) ∧ Below W.heap.size W W' := by
  rcases hb : tOk h w c xs with _ | _
  · exact argMaxI_no h w c A n p xs hb W hr hn
  · exact argMaxI_yes h w c A n p xs hb W hr hn

theorem ret_am {x : Int} {y : Int} (h : y = x) : Ending.returned (.int .i64 x) = .returned (.int .i64 y) := by rw [h]
theorem argMaxS (h w c : Int) (A : Option Addr) (n p : Nat) (xs : List Int) (W : World) (hr : RdI W A n xs) (hn : n ≤ 1048576) :
    Calls Try.prog 37 #[.agg #[.int .i64 h, .int .i64 w, .int .i64 c, .slice A n p]] W fun e W' => e = .returned (.int .i64 (amOf h w c xs)) ∧ Below W.heap.size W W' := by
  have b0 := (Below.refl _ W).alloc (Nat.le_refl _) (.cells #[.int .i64 h, .int .i64 w, .int .i64 c, .slice A n p] 35)
  have R0 := Lib.hid (hr.of_below b0)
  have K0 := Lib.hid (Bk.new W 35 #[.int .i64 h, .int .i64 w, .int .i64 c, .slice A n p])
  have B := Lib.hid b0
  have HN := Lib.hid hn
  have HL := Lib.hid hr.1
  clear hr hn b0
  rcases hb : tOk h w c xs with _ | _
  · rw [amOf_no hb]
    have HB := Lib.hid hb
    clear hb
    go_enter Try.func37, Try.ntmps37
    go_wp2_with fail
    generalize W.alloc (.cells #[.int .i64 h, .int .i64 w, .int .i64 c, .slice A n p] 35) = v at R0 K0 B ⊢
    refine (tensorOkS h w c A n p xs false HB.out _ R0.out HN.out).mono ?_
    rintro e w1 ⟨rfl, b1⟩
    have B1 := Lib.hid (B.out.trans (b1.mono B.out.size))
    clear b1
    go_wp2
    go_ret
    exact ⟨rfl, B1.out⟩
  · have hpos : 0 < n := by
      have q1 := (tOk_iff.1 hb)
      have q2 := szOf_yes q1.1
      have q3 := HL.out
      omega
    have HA := Lib.hid (amOf_yes hb)
    obtain ⟨r, hrr⟩ : ∃ r, amOf h w c xs = r := ⟨_, rfl⟩
    rw [hrr]
    have HRR := Lib.hid hrr
    have HB := Lib.hid hb
    have hn0 : (0 : Int) < n := by omega
    have hn1 : (n : Int) ≤ 1048576 := by have := HN.out; omega
    clear hb hrr
    go_enter Try.func37, Try.ntmps37
    go_wp2_with fail
    generalize W.alloc (.cells #[.int .i64 h, .int .i64 w, .int .i64 c, .slice A n p] 35) = v at R0 K0 B ⊢
    refine (tensorOkS h w c A n p xs true HB.out _ R0.out HN.out).mono ?_
    rintro e w1 ⟨rfl, b1⟩
    have B1 := Lib.hid (B.out.trans (b1.mono B.out.size))
    have K1 := Lib.hid (K0.out.below b1)
    have R1 := Lib.hid (R0.out.of_below b1)
    clear b1 K0 R0 B
    have c3 := K1.out.cell 3 rfl
    go_wp2_with fail
    go_loopw [3, 4] (fun y x wr => ∃ k : Nat, 1 ≤ k ∧ k ≤ n ∧ x = .int .i64 k ∧ y = .int .i64 (best xs k : Nat) ∧ ∃ m, wr = w1.drewN m) (fun _ x _ => n - (intOf x).toNat)
    case atStart => exact ⟨1, Nat.le_refl _, hpos, rfl, by rw [best_one]; rfl, 0, rfl⟩
    case round =>
      obtain ⟨k, hk1, hk, rfl, rfl, m, rfl⟩ := hrel
      by_cases hlt : k < n
      · have hbl : best xs k < n := by rcases best_lt xs k with h1 | h1 <;> omega
        have hbi : ((best xs k : Nat) : Int) < (n : Int) := by omega
        have hb0 : (0 : Int) ≤ ((best xs k : Nat) : Int) := Int.natCast_nonneg _
        have hi : (k : Int) < (n : Int) := by omega
        obtain ⟨b', off, rfl, hbb, hcell⟩ := R1.out.2 (by omega)
        have hc1 := hcell k hlt
        have hc2 := hcell (best xs k) hbl
        clear hcell hbb
        by_cases hx : xs[best xs k]?.getD 0 < xs[k]?.getD 0
        · have HX := Lib.hid (best_go hx)
          go_wp2
          go_quiet (fail)
          go_wp2
          go_round
          case rel => exact ⟨k + 1, by omega, by omega, by go_num, by rw [HX.out], _, rfl⟩
          case measure => simp [intOf]; omega
        · have HX := Lib.hid (best_stay hx)
          go_wp2
          go_quiet (fail)
          go_wp2
          go_round
          case rel => exact ⟨k + 1, by omega, by omega, by go_num, by rw [HX.out], _, rfl⟩
          case measure => simp [intOf]; omega
      · obtain rfl : k = n := by omega
        go_wp2
        go_ret
        exact ⟨ret_am (by rw [← HRR.out, HA.out, HL.out]), below_drewN B1.out _⟩
end Qt
end Go.Proofs.Ytgbpomjdcglfmaa
