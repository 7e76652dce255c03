/- What blockOf of the program gives when it is called with a tensor: a block that holds the same numbers, of eight bits each, where the tensor is right; else nothing. Conditions: the slice reads as the list that is named. -/
import Derived.Test.YtbmchpoffceehaaQBaseA
import Derived.StillTailTactics
import Derived.Handy
import Derived.Deep.AppendLies
import Derived.Deep.RegionLaw
import Derived.RangeFuncNested
import Derived.RangeFuncBound
import Derived.RangeFuncCalls
import Derived.RangeFuncLeaves
import Derived.Shelf.Abstract
import Derived.Shelf.RegionOpen
import Derived.OwnWalkIn
import Derived.TacticsInMore
import Derived.LoopNIn
import Derived.LoopIn
import Derived.Deep.RegionHeld3
import Derived.Deep.DeepCutAuto
import Derived.Lib.QuietBelow
import Derived.OwnWalk
import Derived.Outline
import Derived.Deep.Slices
import Derived.Deep.Fields
import Derived.ChangeSame
namespace Go.Proofs.Ytbmchpoffceehaa
open Go.RowKit Go.Sort
namespace Qt

/-- The slice at A of n elements, of eight bits each, reads as xs. -/
def RdS (w : World) (A : Option Addr) (n : Nat) (xs : List Int) : Prop :=
  xs.length = n ∧ (0 < n → ∃ b off, A = some ⟨b, off, none⟩ ∧ b < w.heap.size ∧ ∀ j, j < n → w.cell? ⟨b, off + j, none⟩ = some (.int .i8 (xs.getD j 0)))
theorem RdS.of_below {w w' : World} {A : Option Addr} {n : Nat} {xs : List Int} (h : RdS w A n xs) (hb : Below w.heap.size w w') : RdS w' A n xs :=
  ⟨h.1, fun hn => by
    obtain ⟨b, off, e, hlt, hc⟩ := h.2 hn
    exact ⟨b, off, e, Nat.lt_of_lt_of_le hlt hb.size, fun j hj => (hb.cell (p := ⟨b, off + j, none⟩) hlt).trans (hc j hj)⟩⟩
theorem RdS.far {w : World} {b n : Nat} {xs : List Int} (h : RdS w (some ⟨b, 0, none⟩) n xs) {p : Addr} (hp : b ≠ p.block) (u : Value) : RdS (w.setCell p u) (some ⟨b, 0, none⟩) n xs :=
  ⟨h.1, fun hn => by
    obtain ⟨b', off, e, hlt, hc⟩ := h.2 hn
    cases e
    exact ⟨b, 0, rfl, by rw [World.size_setCell]; exact hlt, fun j hj => (World.cell?_setCell_other _ _ _ _ (fun e => hp (by subst e; rfl))).trans (hc j hj)⟩⟩
theorem RdS.far4 {w : World} {g n : Nat} {xs : List Int} (h : RdS w (some ⟨g, 0, none⟩) n xs) {b : Nat} (hb : g ≠ b) (x y z u : Value) : RdS ((((w.setCell ⟨b, 0, none⟩ x).setCell ⟨b, 1, none⟩ y).setCell ⟨b, 2, none⟩ z).setCell ⟨b, 3, none⟩ u) (some ⟨g, 0, none⟩) n xs :=
  (((h.far (p := ⟨b, 0, none⟩) hb x).far (p := ⟨b, 1, none⟩) hb y).far (p := ⟨b, 2, none⟩) hb z).far (p := ⟨b, 3, none⟩) hb u
theorem RdS.of_own {w : World} {base c e n : Nat} {A : Option Addr} {xs : List Int} (h : w.ownsRow base e 1 (.slice A n c) n (xs.map (Value.int .i8))) : RdS w A n xs := by
  refine ⟨by simpa using h.1, fun hn => ?_⟩
  rcases h.2 with ⟨_, h0⟩ | ⟨g, cap, cur, hv, _, hg, _⟩
  · omega
  · injection hv with hA _ hc
    subst hA hc
    refine ⟨g, 0, rfl, (Array.getElem?_eq_some_iff.1 hg).1, fun j hj => ?_⟩
    have := h.cellAt j (by omega)
    have hl : j < xs.length := by have := h.1; simp at this; omega
    rw [Nat.zero_add, this]; simp [List.getD_eq_getElem?_getD, hl]

/-- A new block that holds these numbers. -/
def NewB (W : World) (h w c : Int) (n : Nat) (xs : List Int) (e : Ending) (W' : World) : Prop :=
  ∃ g cap, e = .returned (.tuple #[.agg #[.int .i64 h, .int .i64 w, .int .i64 c, .slice (some ⟨g, 0, none⟩) n cap], .bool true]) ∧ W.heap.size ≤ g ∧ RdS W' (some ⟨g, 0, none⟩) n xs ∧ Below W.heap.size W W'
def NoB (W : World) (e : Ending) (W' : World) : Prop :=
  e = .returned (.tuple #[.agg #[.int .i64 0, .int .i64 0, .int .i64 0, .slice none 0 0], .bool false]) ∧ Below W.heap.size W W'

theorem infoS : (Try.prog.info? 152).map (fun i => (i.zero, i.size, i.bytes)) = some (some (.int .i8 0), 1, 1) := by kernel_rfl

/-- blockOf of a tensor whose shape is wrong. -/
theorem blockOf_no1 (h w c : Int) (A : Option Addr) (n p : Nat) (xs : List Int) (W : World) (hr : RdI W A n xs) (hn : n ≤ 1048576) (hno : shOk h w c = false) :
    Calls Try.prog 97 #[.agg #[.int .i64 h, .int .i64 w, .int .i64 c, .slice A n p]] W (NoB W) := by
  have HS := Lib.hid hno
  clear hno
  have HR := Lib.hid hr
  have HN := Lib.hid hn
  have hz := szOf_bd h w c
  have hn0 : (0 : Int) ≤ n := Int.natCast_nonneg n
  clear hr hn
  go_enter Try.func97, Try.ntmps97
  go_wp2_with fail
  refine (sidesOfI h w c _).mono ?_
  rintro e w1 ⟨rfl, b1⟩
  have hk0 := ((Bk.new W 39 #[.int .i64 h, .int .i64 w, .int .i64 c, .slice A n p]).alloc _).below b1
  have hk2 := (Bk.new (W.alloc (.cells #[.int .i64 h, .int .i64 w, .int .i64 c, .slice A n p] 39)) 137 #[.int .i64 0, .int .i64 0, .int .i64 0, .slice none 0 0]).below b1
  have hb : Below W.heap.size W w1 := ((Below.refl _ W).alloc (Nat.le_refl _) _).alloc (by simp) _ |>.trans (b1.mono (by simp only [World.size_alloc]; omega))
  simp only [World.size_alloc] at hk2
  clear b1
  have G2 := Lib.hid (show W.heap.size ≤ W.heap.size + 1 by omega)
  generalize W.heap.size + 1 = g2 at hk2 G2 ⊢
  have B1 := Lib.hid hb
  have K0 := Lib.hid hk0
  have K2 := Lib.hid hk2
  obtain ⟨c0, c1, c2, c3⟩ := hk0.cell4
  clear hk0 hk2 hb
  go_wp2_with fail
  have hk0 := K0.out.alloc (.cells #[.int .i64 h, .int .i64 w, .int .i64 c, .slice none 0 0] 137)
  have hk2 := K2.out.alloc (.cells #[.int .i64 h, .int .i64 w, .int .i64 c, .slice none 0 0] 137)
  have hk4 := Bk.new w1 137 #[.int .i64 h, .int .i64 w, .int .i64 c, .slice none 0 0]
  have B3 := Lib.hid (B1.out.alloc B1.out.size (.cells #[.int .i64 h, .int .i64 w, .int .i64 c, .slice none 0 0] 137))
  have G4 := Lib.hid B1.out.size
  have N24 := Lib.hid (show g2 ≠ w1.heap.size from Nat.ne_of_lt K2.out.lt)
  clear c0 c1 c2 c3 K0 K2 B1
  generalize w1.alloc (.cells #[.int .i64 h, .int .i64 w, .int .i64 c, .slice none 0 0] 137) = v at hk0 hk2 hk4 B3 ⊢
  generalize w1.heap.size = g4 at hk4 G4 N24 ⊢
  have q0 := Lib.hid (fun d os => Calls.regrown_of (sidesOkI h w c _ HS.out (grow (redrawn v d) os)))
  have q1 := Lib.hid (fun d os => Calls.regrown_of (sizeI h w c (grow (redrawn v d) os)))
  have k0 := cell_regrown (hk0.cell 3 rfl)
  have d0 := cell_regrown (hk4.cell 0 rfl)
  have d1 := cell_regrown (hk4.cell 1 rfl)
  have d2 := cell_regrown (hk4.cell 2 rfl)
  have K0 := Lib.hid hk0
  have K2 := Lib.hid hk2
  have K4 := Lib.hid hk4
  clear hk0 hk2 hk4
  refine wp_region_quiet_below mixed (by kernel_rfl) ?_
  repeat (go_big_quiet_step (first | exact q0.out _ _ | exact q1.out _ _))
  refine wpQuiet_nil ?_
  intro _ hw'
  obtain ⟨⟨dq, osq⟩, rfl⟩ := hw'
  have hbq := below_regrown v dq osq
  replace K0 := Lib.hid (K0.out.below hbq)
  replace K2 := Lib.hid (K2.out.below hbq)
  replace K4 := Lib.hid (K4.out.below hbq)
  have BF := Lib.hid (B3.out.trans (hbq.mono B3.out.size))
  clear k0 d0 d1 d2 q0 q1 B3 hbq
  generalize grow (redrawn v dq) osq = v2 at K0 K2 K4 BF ⊢
  obtain ⟨j0, j1, j2, j3⟩ := K2.out.cell4
  obtain ⟨f0, f1, f2, f3⟩ := K2.out.free4
  go_wp2
  have k9 := K2.out.set4 (x := .int .i64 0) (y := .int .i64 0) (z := .int .i64 0) (u := .slice none 0 0)
  have b9 := below_set4 BF.out G2.out (.int .i64 0) (.int .i64 0) (.int .i64 0) (.slice none 0 0)
  clear j0 j1 j2 j3 f0 f1 f2 f3
  generalize (((v2.setCell { block := g2, off := 0 } (.int .i64 0)).setCell { block := g2, off := 1 } (.int .i64 0)).setCell { block := g2, off := 2 } (.int .i64 0)).setCell { block := g2, off := 3 } (.slice none 0 0) = w9 at k9 b9 ⊢
  obtain ⟨z0, z1, z2, z3⟩ := k9.cell4
  refine bodyPost_ret (v := .tuple #[.agg #[.int .i64 0, .int .i64 0, .int .i64 0, .slice none 0 0], .bool false]) ?_ rfl ⟨rfl, b9⟩
  simp [results, Try.results97, go_sem, z0, z1, z2, z3]

/-- blockOf of a tensor that has another number of items than its shape wants. -/
theorem blockOf_no2 (h w c : Int) (A : Option Addr) (n p : Nat) (xs : List Int) (W : World) (hr : RdI W A n xs) (hn : n ≤ 1048576) (hs : shOk h w c = true) (hno : (n : Int) ≠ szOf h w c) :
    Calls Try.prog 97 #[.agg #[.int .i64 h, .int .i64 w, .int .i64 c, .slice A n p]] W (NoB W) := by
  have HS := Lib.hid hs
  have hd : ((n : Int) != szOf h w c) = true := by simpa using hno
  clear hs hno
  have HR := Lib.hid hr
  have HN := Lib.hid hn
  have hz := szOf_bd h w c
  have hn0 : (0 : Int) ≤ n := Int.natCast_nonneg n
  clear hr hn
  go_enter Try.func97, Try.ntmps97
  go_wp2_with fail
  refine (sidesOfI h w c _).mono ?_
  rintro e w1 ⟨rfl, b1⟩
  have hk0 := ((Bk.new W 39 #[.int .i64 h, .int .i64 w, .int .i64 c, .slice A n p]).alloc _).below b1
  have hk2 := (Bk.new (W.alloc (.cells #[.int .i64 h, .int .i64 w, .int .i64 c, .slice A n p] 39)) 137 #[.int .i64 0, .int .i64 0, .int .i64 0, .slice none 0 0]).below b1
  have hb : Below W.heap.size W w1 := ((Below.refl _ W).alloc (Nat.le_refl _) _).alloc (by simp) _ |>.trans (b1.mono (by simp only [World.size_alloc]; omega))
  simp only [World.size_alloc] at hk2
  clear b1
  have G2 := Lib.hid (show W.heap.size ≤ W.heap.size + 1 by omega)
  generalize W.heap.size + 1 = g2 at hk2 G2 ⊢
  have B1 := Lib.hid hb
  have K0 := Lib.hid hk0
  have K2 := Lib.hid hk2
  obtain ⟨c0, c1, c2, c3⟩ := hk0.cell4
  clear hk0 hk2 hb
  go_wp2_with fail
  have hk0 := K0.out.alloc (.cells #[.int .i64 h, .int .i64 w, .int .i64 c, .slice none 0 0] 137)
  have hk2 := K2.out.alloc (.cells #[.int .i64 h, .int .i64 w, .int .i64 c, .slice none 0 0] 137)
  have hk4 := Bk.new w1 137 #[.int .i64 h, .int .i64 w, .int .i64 c, .slice none 0 0]
  have B3 := Lib.hid (B1.out.alloc B1.out.size (.cells #[.int .i64 h, .int .i64 w, .int .i64 c, .slice none 0 0] 137))
  have G4 := Lib.hid B1.out.size
  have N24 := Lib.hid (show g2 ≠ w1.heap.size from Nat.ne_of_lt K2.out.lt)
  clear c0 c1 c2 c3 K0 K2 B1
  generalize w1.alloc (.cells #[.int .i64 h, .int .i64 w, .int .i64 c, .slice none 0 0] 137) = v at hk0 hk2 hk4 B3 ⊢
  generalize w1.heap.size = g4 at hk4 G4 N24 ⊢
  have q0 := Lib.hid (fun d os => Calls.regrown_of (sidesOkI h w c _ HS.out (grow (redrawn v d) os)))
  have q1 := Lib.hid (fun d os => Calls.regrown_of (sizeI h w c (grow (redrawn v d) os)))
  have k0 := cell_regrown (hk0.cell 3 rfl)
  have d0 := cell_regrown (hk4.cell 0 rfl)
  have d1 := cell_regrown (hk4.cell 1 rfl)
  have d2 := cell_regrown (hk4.cell 2 rfl)
  have K0 := Lib.hid hk0
  have K2 := Lib.hid hk2
  have K4 := Lib.hid hk4
  clear hk0 hk2 hk4
  refine wp_region_quiet_below mixed (by kernel_rfl) ?_
  repeat (go_big_quiet_step (first | exact q0.out _ _ | exact q1.out _ _))
  refine wpQuiet_nil ?_
  intro _ hw'
  obtain ⟨⟨dq, osq⟩, rfl⟩ := hw'
  have hbq := below_regrown v dq osq
  replace K0 := Lib.hid (K0.out.below hbq)
  replace K2 := Lib.hid (K2.out.below hbq)
  replace K4 := Lib.hid (K4.out.below hbq)
  have BF := Lib.hid (B3.out.trans (hbq.mono B3.out.size))
  clear k0 d0 d1 d2 q0 q1 B3 hbq
  generalize grow (redrawn v dq) osq = v2 at K0 K2 K4 BF ⊢
  obtain ⟨j0, j1, j2, j3⟩ := K2.out.cell4
  obtain ⟨f0, f1, f2, f3⟩ := K2.out.free4
  go_wp2
  have k9 := K2.out.set4 (x := .int .i64 0) (y := .int .i64 0) (z := .int .i64 0) (u := .slice none 0 0)
  have b9 := below_set4 BF.out G2.out (.int .i64 0) (.int .i64 0) (.int .i64 0) (.slice none 0 0)
  clear j0 j1 j2 j3 f0 f1 f2 f3
  generalize (((v2.setCell { block := g2, off := 0 } (.int .i64 0)).setCell { block := g2, off := 1 } (.int .i64 0)).setCell { block := g2, off := 2 } (.int .i64 0)).setCell { block := g2, off := 3 } (.slice none 0 0) = w9 at k9 b9 ⊢
  obtain ⟨z0, z1, z2, z3⟩ := k9.cell4
  refine bodyPost_ret (v := .tuple #[.agg #[.int .i64 0, .int .i64 0, .int .i64 0, .slice none 0 0], .bool false]) ?_ rfl ⟨rfl, b9⟩
  simp [results, Try.results97, go_sem, z0, z1, z2, z3]

theorem own_set {w : World} {base e g k c : Nat} {vs : List Value} (h : w.ownsRow base e 1 (.slice (some ⟨g, 0, none⟩) k c) k vs) {b : Nat} (hb : g ≠ b) (i : Nat) (u : Value) :
    (w.setCell ⟨b, i, none⟩ u).ownsRow base e 1 (.slice (some ⟨g, 0, none⟩) k c) k vs := by
  have hh : (w.setCell ⟨b, i, none⟩ u).heap[g]? = w.heap[g]? := Below.heap_setCell w ⟨b, i, none⟩ u g hb
  refine ⟨h.1, ?_⟩
  rcases h.2 with ⟨h0, h1⟩ | ⟨g', cap, cur, hv, h1, hg, h2, h3⟩
  · exact .inl ⟨h0, h1⟩
  · have hv' := hv
    injection hv' with e1 e2 e3
    injection e1 with e1
    injection e1 with e1 _ _
    subst e1
    exact .inr ⟨g, cap, cur, hv, h1, hh.trans hg, h2, h3⟩
theorem take_snoc8 (xs : List Int) (k : Nat) (hl : k < xs.length) {y : Int} (hy : y = xs[k]?.getD 0) : (xs.take k).map (Value.int .i8) ++ [.int .i8 y] = (xs.take (k + 1)).map (Value.int .i8) := by
  subst hy
  rw [List.take_succ_eq_append_getElem hl, List.map_append]
  simp only [List.map_cons, List.map_nil, List.getElem?_eq_getElem hl, Option.getD_some]
def BlkC (W : World) (h w c : Int) (n : Nat) (xs : List Int) (b : Bool) (e : Ending) (W' : World) : Prop :=
  (b = true → NewB W h w c n xs e W') ∧ (b = false → NoB W e W')
theorem flipW {P : Program} {f : FuncId} {args : Array Value} {w : World} {v : Value} (h : Calls P f args w fun e w' => e = .returned v ∧ w = w') : Calls P f args w fun e w' => e = .returned v ∧ w' = w :=
  h.mono fun _ _ ⟨he, hm⟩ => ⟨he, hm.symm⟩
theorem sat8_fit {x : Int} : (sat8 x != x) = !(fit8 x) := by
  unfold sat8 clamp fit8
  by_cases h1 : x < -128
  · have : ¬ (-128 ≤ x ∧ x ≤ 127) := by omega
    simp [h1, this]; omega
  · by_cases h2 : 127 < x
    · have : ¬ (-128 ≤ x ∧ x ≤ 127) := by omega
      simp [h1, h2, this]; omega
    · have : -128 ≤ x ∧ x ≤ 127 := by omega
      simp [h1, h2, this]

theorem blkGrow {W wr w5 : World} {base g4 g2 k T t4 t2 : Nat} {V : Value} {vs : List Value} {c4 c2 : Array Value} {o : Obj} (hO : wr.ownsRow base T 1 V k vs) (h4 : Bk wr g4 t4 c4) (h2 : Bk wr g2 t2 c2)
    (hb : Below W.heap.size W wr) (hbs : base ≤ wr.heap.size) (l4 : g4 < base) (l2 : g2 < base) (hW : W.heap.size ≤ base) (hgrow : (wr.alloc o).drew.grownBy w5 V.ownBlock) :
    Bk w5 g4 t4 c4 ∧ Bk w5 g2 t2 c2 ∧ Below W.heap.size W w5 ∧ base ≤ w5.heap.size := by
  have hB5 : Below base wr w5 := (((Below.refl base wr).alloc hbs _).drew).grown hgrow (by simp; omega) (fun r hr => (hO.lt r hr).1)
  exact ⟨h4.belowN hB5 l4, h2.belowN hB5 l2, hb.trans (hB5.mono hW), Nat.le_trans hbs hB5.size⟩

/-- blockOf of a tensor with as many items as its shape wants. -/
theorem blockOf_yes (h w c : Int) (A : Option Addr) (n p : Nat) (xs : List Int) (b : Bool) (W : World) (hr : RdI W A n xs) (hn : n ≤ 1048576) (hs : shOk h w c = true) (hlen : (n : Int) = szOf h w c) (hb : tOk h w c xs = b) :
    Calls Try.prog 97 #[.agg #[.int .i64 h, .int .i64 w, .int .i64 c, .slice A n p]] W (BlkC W h w c n xs b) := by
  obtain ⟨i0, hi, hz0, hz1, hz2⟩ := info_parts infoS
  have HS := Lib.hid hs
  have HB := Lib.hid hb
  have HE := Lib.hid hlen
  have HL := Lib.hid hr.1
  have hd : ((n : Int) != szOf h w c) = false := by simpa using hlen
  clear hs hlen hb
  have HR := Lib.hid hr
  have HN := Lib.hid hn
  have hz := szOf_bd h w c
  have hn0 : (0 : Int) ≤ n := Int.natCast_nonneg n
  clear hr hn
  go_enter Try.func97, Try.ntmps97
  go_wp2_with fail
  refine (sidesOfI h w c _).mono ?_
  rintro e w1 ⟨rfl, b1⟩
  have hk0 := ((Bk.new W 39 #[.int .i64 h, .int .i64 w, .int .i64 c, .slice A n p]).alloc _).below b1
  have hk2 := (Bk.new (W.alloc (.cells #[.int .i64 h, .int .i64 w, .int .i64 c, .slice A n p] 39)) 137 #[.int .i64 0, .int .i64 0, .int .i64 0, .slice none 0 0]).below b1
  have hb : Below W.heap.size W w1 := ((Below.refl _ W).alloc (Nat.le_refl _) _).alloc (by simp) _ |>.trans (b1.mono (by simp only [World.size_alloc]; omega))
  simp only [World.size_alloc] at hk2
  clear b1
  have G2 := Lib.hid (show W.heap.size ≤ W.heap.size + 1 by omega)
  generalize W.heap.size + 1 = g2 at hk2 G2 ⊢
  have B1 := Lib.hid hb
  have K0 := Lib.hid hk0
  have K2 := Lib.hid hk2
  obtain ⟨c0, c1, c2, c3⟩ := hk0.cell4
  clear hk0 hk2 hb
  go_wp2_with fail
  have hk0 := K0.out.alloc (.cells #[.int .i64 h, .int .i64 w, .int .i64 c, .slice none 0 0] 137)
  have hk2 := K2.out.alloc (.cells #[.int .i64 h, .int .i64 w, .int .i64 c, .slice none 0 0] 137)
  have hk4 := Bk.new w1 137 #[.int .i64 h, .int .i64 w, .int .i64 c, .slice none 0 0]
  have B3 := Lib.hid (B1.out.alloc B1.out.size (.cells #[.int .i64 h, .int .i64 w, .int .i64 c, .slice none 0 0] 137))
  have G4 := Lib.hid B1.out.size
  have N24 := Lib.hid (show g2 ≠ w1.heap.size from Nat.ne_of_lt K2.out.lt)
  clear c0 c1 c2 c3 K0 K2 B1
  generalize w1.alloc (.cells #[.int .i64 h, .int .i64 w, .int .i64 c, .slice none 0 0] 137) = v at hk0 hk2 hk4 B3 ⊢
  generalize w1.heap.size = g4 at hk4 G4 N24 ⊢
  have q0 := Lib.hid (fun d os => Calls.regrown_of (sidesOkI h w c _ HS.out (grow (redrawn v d) os)))
  have q1 := Lib.hid (fun d os => Calls.regrown_of (sizeI h w c (grow (redrawn v d) os)))
  have k0 := cell_regrown (hk0.cell 3 rfl)
  have d0 := cell_regrown (hk4.cell 0 rfl)
  have d1 := cell_regrown (hk4.cell 1 rfl)
  have d2 := cell_regrown (hk4.cell 2 rfl)
  have K0 := Lib.hid hk0
  have K2 := Lib.hid hk2
  have K4 := Lib.hid hk4
  clear hk0 hk2 hk4
  refine wp_region_quiet_below mixed (by kernel_rfl) ?_
  repeat (go_big_quiet_step (first | exact q0.out _ _ | exact q1.out _ _))
  refine wpQuiet_nil ?_
  intro _ hw'
  obtain ⟨⟨dq, osq⟩, rfl⟩ := hw'
  have hbq := below_regrown v dq osq
  replace K0 := Lib.hid (K0.out.below hbq)
  replace K2 := Lib.hid (K2.out.below hbq)
  replace K4 := Lib.hid (K4.out.below hbq)
  have BF := Lib.hid (B3.out.trans (hbq.mono B3.out.size))
  clear k0 d0 d1 d2 q0 q1 B3 hbq
  generalize grow (redrawn v dq) osq = v2 at K0 K2 K4 BF ⊢
  have hg2 := K2.out.lt
  have hg4 := K4.out.lt
  have kk0 := K0.out.cell 3 rfl
  have hn1 : (n : Int) ≤ 1048576 := by have := HN.out; omega
  obtain ⟨base, hbase⟩ : ∃ base, base = v2.heap.size := ⟨_, rfl⟩
  have LT2 := Lib.hid (show g2 < base from hbase ▸ hg2)
  have LT4 := Lib.hid (show g4 < base from hbase ▸ hg4)
  have HBS := Lib.hid hbase
  have HWb := Lib.hid (show W.heap.size ≤ base from hbase ▸ BF.out.size)
  clear hd hz hg2 hg4 hbase
  go_wp2
  go_loopw [28] (fun x wr => ∃ (k : Nat) (V : Value), k ≤ n ∧ x = .int .i64 k ∧ wr.ownsRow base 152 1 V k ((xs.take k).map (Value.int .i8)) ∧ Bk wr g4 137 #[.int .i64 h, .int .i64 w, .int .i64 c, V] ∧ Bk wr g2 137 #[.int .i64 0, .int .i64 0, .int .i64 0, .slice none 0 0] ∧ Below W.heap.size W wr ∧ base ≤ wr.heap.size ∧ Hid (∀ j, j < k → -128 ≤ xs.getD j 0 ∧ xs.getD j 0 ≤ 127)) (fun x _ => n - (intOf x).toNat)
  case atStart => exact ⟨0, .slice none 0 0, Nat.zero_le _, rfl, by simpa using World.ownsRow_nil v2 base _ 1, K4.out, K2.out, BF.out, by rw [HBS.out]; exact Nat.le_refl _, Lib.hid (fun j hj => absurd hj (Nat.not_lt_zero _))⟩
  case round =>
    obtain ⟨k, V, hk, rfl, hown, hk4, hk2, hbw, hbs, HQ⟩ := hrel
    have HO := Lib.hid hown
    have K4' := Lib.hid hk4
    have K2' := Lib.hid hk2
    have BW := Lib.hid hbw
    have HBs := Lib.hid hbs
    clear hown hk4 hk2 hbw hbs kk0 K0 K2 K4 BF
    by_cases hlt : k < n
    · obtain ⟨b', off, rfl, hbl, hcell⟩ := (HR.out.of_below BW.out).2 (by omega)
      have hcx := hcell k hlt
      have hi2 : (k : Int) < (n : Int) := by omega
      clear hcell hbl
      rcases hf : fit8 (xs[k]?.getD 0) with _ | _
      · obtain rfl : b = false := by rw [← HB.out]; exact tOk_no3 (k := k) (by have := HL.out; omega) (by simpa [fit8, List.getD_eq_getElem?_getD] using hf)
        have hd : (sat8 (xs[k]?.getD 0) != xs[k]?.getD 0) = true := by rw [sat8_fit, hf]; rfl
        clear hf
        obtain ⟨j0, j1, j2, j3⟩ := K2'.out.cell4
        obtain ⟨f0, f1, f2, f3⟩ := K2'.out.free4
        go_wp2_with ((with_reducible refine (sat8I _ _).mono ?_); rintro e w' ⟨rfl, rfl⟩)
        have k9 := K2'.out.set4 (x := .int .i64 0) (y := .int .i64 0) (z := .int .i64 0) (u := .slice none 0 0)
        have b9 := below_set4 BW.out G2.out (.int .i64 0) (.int .i64 0) (.int .i64 0) (.slice none 0 0)
        clear j0 j1 j2 j3 f0 f1 f2 f3 hcx
        generalize (((wr.setCell { block := g2, off := 0 } (.int .i64 0)).setCell { block := g2, off := 1 } (.int .i64 0)).setCell { block := g2, off := 2 } (.int .i64 0)).setCell { block := g2, off := 3 } (.slice none 0 0) = w9 at k9 b9 ⊢
        obtain ⟨z0, z1, z2, z3⟩ := k9.cell4
        refine bodyPost_ret (v := .tuple #[.agg #[.int .i64 0, .int .i64 0, .int .i64 0, .slice none 0 0], .bool false]) ?_ rfl ⟨(fun h => by cases h), fun _ => ⟨rfl, b9⟩⟩
        simp [results, Try.results97, go_sem, z0, z1, z2, z3]
      · have hd : (sat8 (xs[k]?.getD 0) != xs[k]?.getD 0) = false := by rw [sat8_fit, hf]; rfl
        have HX : Hid (-128 ≤ xs[k]?.getD 0 ∧ xs[k]?.getD 0 ≤ 127) := Lib.hid (by simpa [fit8] using hf)
        have HT : Hid (sat8 (xs[k]?.getD 0) = xs[k]?.getD 0) := Lib.hid (by simpa using hd)
        clear hf
        have e3 := K4'.out.cell 3 rfl
        have f3 := K4'.out.frozen 3
        go_wp2_with ((with_reducible refine (sat8I _ _).mono ?_); rintro e w' ⟨rfl, rfl⟩)
        have e3a : ∀ o, (wr.alloc o).cell? ⟨g4, 3, none⟩ = some V := fun o => (K4'.out.alloc o).cell 3 rfl
        go_region_law (first
          | (go_simp; go_at_call 108; refine (smallOfI _ _).mono ?_; rintro e w' ⟨rfl, rfl⟩)
          | (refine step_append_lies _ (by rfl) _ _ _ (by rfl) base 152 i0 _ 1 1 Try.underlying135 hi hz0 hz1 hz2 rfl (by omega) V k _ (by rfl) ((HO.out.alloc _).drew) ⟨wr.heap.size, 0, none⟩ 1 1 [.int .i8 (sat8 (xs[k]?.getD 0))] (by rfl) (by rfl) (World.news_of_block (cs := #[.int .i8 (sat8 (xs[k]?.getD 0))]) (t := 152) (fr := (0, 0)) (heap_alloc_new wr _)) (by simp [Value.oneCell']) (by omega) (by unfold maxLen; omega) (by omega) (by have := HBs.out; simp; omega) (wr.heap.size + 1) (by simp) ?_
             intro g' cap' w5 hown' hgrow _ _
             obtain ⟨k4, k2, hbw, hbs⟩ := blkGrow HO.out K4'.out K2'.out BW.out HBs.out LT4.out LT2.out HWb.out hgrow
             have e4 := k4.cell 3 rfl
             have f4 := k4.frozen 3
             have hne : Hid (g' ≠ g4) := Lib.hid (by have := (hown'.lt g' rfl).1; have := LT4.out; omega)
             have HO5 := Lib.hid hown'
             have K4e := Lib.hid k4
             have K2e := Lib.hid k2
             have BWe := Lib.hid hbw
             have HBe := Lib.hid hbs
             clear hown' hgrow k4 k2 hbw hbs)
          )
        all_goals
          clear e3a
          go_wp2
          go_roundw
          case rel =>
            refine ⟨k + 1, _, by omega, by go_num, ?_, K4e.out.set 3 _, K2e.out.far (p := ⟨g4, 3, none⟩) N24.out _, BWe.out.setCell (p := ⟨g4, 3, none⟩) G4.out _, by rw [World.size_setCell]; exact HBe.out, Lib.hid (fun j hj => ?_)⟩
            · have ht := take_snoc8 xs k (by have := HL.out; omega) HT.out
              have hO := HO5.out
              rw [ht] at hO
              exact own_set hO hne.out _ _
            · rcases (by omega : j < k ∨ j = k) with h1 | rfl
              · exact HQ.out j h1
              · simpa [List.getD_eq_getElem?_getD] using HX.out
          case measure => simp [intOf]; omega
    · obtain rfl : k = n := by omega
      have hb2 : b = true := by
        rw [← HB.out]
        refine tOk_iff.2 ⟨HS.out, by have := HL.out; have := HE.out; omega, fun x hx => ?_⟩
        obtain ⟨j, hj, rfl⟩ := List.getElem_of_mem hx
        have := HQ.out j (by have := HL.out; omega)
        simpa [List.getD_eq_getElem?_getD, hj] using this
      subst hb2
      have hpos : 0 < k := by have := (szOf_yes HS.out).1; have := (szOf_yes HS.out).2.2.2.1; have := HE.out; omega
      have hO := HO.out
      rw [show xs.take k = xs from List.take_of_length_le (by have := HL.out; omega)] at hO
      obtain ⟨g', cap', rfl⟩ : ∃ g' cap', V = .slice (some ⟨g', 0, none⟩) k cap' := by
        rcases hO.2 with ⟨_, h0⟩ | ⟨g', cap', cur, rfl, _⟩
        · omega
        · exact ⟨g', cap', rfl⟩
      have hne : g' ≠ g2 := by have := (hO.lt g' rfl).1; have := LT2.out; omega
      have hge : W.heap.size ≤ g' := by have := (hO.lt g' rfl).1; have := HWb.out; omega
      have r9 := RdS.of_own hO
      have R9 := Lib.hid (r9.far4 hne (.int .i64 h) (.int .i64 w) (.int .i64 c) (.slice (some ⟨g', 0, none⟩) k cap'))
      have GE := Lib.hid hge
      obtain ⟨e0, e1, e2, e3⟩ := K4'.out.cell4
      obtain ⟨j0, j1, j2, j3⟩ := K2'.out.cell4
      obtain ⟨f0, f1, f2, f3⟩ := K2'.out.free4
      clear hO HO hne hge r9 hpos
      go_wp2
      have k9 := K2'.out.set4 (x := .int .i64 h) (y := .int .i64 w) (z := .int .i64 c) (u := .slice (some ⟨g', 0, none⟩) k cap')
      have b9 := below_set4 BW.out G2.out (.int .i64 h) (.int .i64 w) (.int .i64 c) (.slice (some ⟨g', 0, none⟩) k cap')
      clear j0 j1 j2 j3 f0 f1 f2 f3 e0 e1 e2 e3
      have r9 := R9.out
      clear R9
      generalize (((wr.setCell { block := g2, off := 0 } (.int .i64 h)).setCell { block := g2, off := 1 } (.int .i64 w)).setCell { block := g2, off := 2 } (.int .i64 c)).setCell { block := g2, off := 3 } (.slice (some { block := g', off := 0 }) k cap') = w9 at k9 b9 r9 ⊢
      obtain ⟨z0, z1, z2, z3⟩ := k9.cell4
      refine bodyPost_ret (v := .tuple #[.agg #[.int .i64 h, .int .i64 w, .int .i64 c, .slice (some ⟨g', 0, none⟩) k cap'], .bool true]) ?_ rfl ⟨fun _ => ⟨g', cap', rfl, GE.out, r9, b9⟩, fun h => by cases h⟩
      simp [results, Try.results97, go_sem, z0, z1, z2, z3]

/-- blockOf of whatever tensor. -/
theorem blockOfI (h w c : Int) (A : Option Addr) (n p : Nat) (xs : List Int) (b : Bool) (hb : tOk h w c xs = b) (W : World) (hr : RdI W A n xs) (hn : n ≤ 1048576) :
    Calls Try.prog 97 #[.agg #[.int .i64 h, .int .i64 w, .int .i64 c, .slice A n p]] W (BlkC W h w c n xs b) := by
  rcases hs : shOk h w c with _ | _
  · obtain rfl : b = false := by rw [← hb]; exact tOk_no1 hs
    exact (blockOf_no1 h w c A n p xs W hr hn hs).mono fun _ _ hh => ⟨(fun h => by cases h), fun _ => hh⟩
  · by_cases hl : (n : Int) = szOf h w c
    · exact blockOf_yes h w c A n p xs b W hr hn hs hl hb
    · obtain rfl : b = false := by rw [← hb]; exact tOk_no2 (by have := hr.1; omega)
      exact (blockOf_no2 h w c A n p xs W hr hn hs hl).mono fun _ _ hh => ⟨(fun h => by cases h), fun _ => hh⟩
theorem blockOf_ok (h w c : Int) (A : Option Addr) (n p : Nat) (xs : List Int) (hb : tOk h w c xs = true) (W : World) (hr : RdI W A n xs) (hn : n ≤ 1048576) :
    Calls Try.prog 97 #[.agg #[.int .i64 h, .int .i64 w, .int .i64 c, .slice A n p]] W (NewB W h w c n xs) :=
  (blockOfI h w c A n p xs true hb W hr hn).mono fun _ _ hh => hh.1 rfl
theorem blockOf_not (h w c : Int) (A : Option Addr) (n p : Nat) (xs : List Int) (hb : tOk h w c xs = false) (W : World) (hr : RdI W A n xs) (hn : n ≤ 1048576) :
    Calls Try.prog 97 #[.agg #[.int .i64 h, .int .i64 w, .int .i64 c, .slice A n p]] W (NoB W) :=
  (blockOfI h w c A n p xs false hb W hr hn).mono fun _ _ hh => hh.2 rfl
end Qt
end Go.Proofs.Ytbmchpoffceehaa

namespace Go.Proofs.Ytbmchpoffceehaa
open Go.RowKit Go.Shelf Go.Sort
namespace Qt
attribute [local go_sem] Oper.semAt_some

/-- How a round's body ends: it goes on; the loop's own two blocks, and what lay below n0, lie as they lay. -/
def GoesOn (B n0 : Nat) (I : Nat → World → Prop) (k : Nat) (W : World) : Exit → Act → World → Prop
  | .normal, _, W' => KeepsFrom B W W' ∧ Below n0 W W' ∧ I (k + 1) W'
  | .ret, _, _ => False
  | .exit _, _, _ => False
  | .goto _, _, _ => False
  | .panic _, _, _ => False
  | .outgrown, _, _ => False

/-- What a method's value gives as an iterator: N rounds, the k-th with 'enc k', then it returns; for whatever loop body keeps what lay below n0. -/
def Gives (F : Fence) (n : Nat) (P : Program) (gf : Nat) (recv : Value) (enc : Nat → Array Value) (N n0 : Nat) (w : World) : Prop :=
  ∀ (l : Nat) (J : Nat → World → Prop) (W : World), Below w.heap.size w W → AbidesFrom W.heap.size J →
    (∀ k W1, k < N → J k W1 → YieldAt F (n - 1) P l (enc k) W1 fun e W' => e = .returned (.bool true) ∧ J (k + 1) W' ∧ Below n0 W1 W') →
    J 0 W → CallsIn F n P gf #[recv, .func (.yield l) #[] #[]] W fun e W' => (∃ v, e = .returned v) ∧ J N W'

theorem wpIn_rangeMethod {F : Fence} {n : Nat} {P : Program} {g : Operand} {ps : Array Tmp} {assign body : Code} {Q : Exit → Act → World → Prop} {a : Act} {w : World}
    (hro : F.round = none) (h1 : 1 ≤ n) {gf : Nat} {recv : Value} (hg : a.eval g = .func (.func gf) #[recv] #[]) (hFg : F.fn gf) (eg : ∀ args w, (callFunc gf args).run P w = .ok (.enter gf args) w)
    {enc : Nat → Array Value} {N n0 : Nat} (hn0 : n0 ≤ w.heap.size) (hseq : Gives F (n - 1) P gf recv enc N n0 w) (hps : ∀ k, (enc k).size = ps.size)
    (I : Nat → World → Prop) (hI : OwnFrom w.heap.size I) (h0 : I 0 w) (a₁ : Nat → Act)
    (hassign : ∀ (l k : Nat) (W : World) (K : Act → World → Prop), K (a₁ k) W →
      assign.wpIn (F.inRound l) (n - 1 - 1) P (Exit.then K (fun _ _ _ => False)) { tmps := (ps.zip (enc k)).foldl (fun t (p, v) => t.setIfInBounds p v) a.tmps, defers := [] } W)
    (hbody : ∀ (l k : Nat) (W : World), I k W → k < N → body.wpIn (F.inRound l) (n - 1 - 1) P (GoesOn w.heap.size n0 I k W) (a₁ k) W)
    (hdone : ∀ (D : Nat) (W : World), w.heap.size ≤ D → I N W → W.heap[D]? = some (.deferred (some [])) → Q .normal { a with defers := { target := .collected D, args := #[] } :: a.defers } W) :
    (Code.rangeFunc g ps assign body).wpIn F n P Q a w := by
  refine wpIn_rangeFunc ?_
  intro fn hfn
  rw [hro]
  obtain ⟨rec, hrec⟩ : ∃ rec : LoopState → Loop, rec = fun st => { state := st, pending := none, fn, tmps := a.tmps, params := ps, assign, body, defers := w.heap.size } := ⟨_, rfl⟩
  obtain ⟨L, hL⟩ : ∃ L, L = w.heap.size + 1 := ⟨_, rfl⟩
  obtain ⟨V, hV⟩ : ∃ V, V = (w.alloc (.deferred (some []))).alloc (.loop (rec .ready)) := ⟨_, rfl⟩
  have hVL : V.heap[L]? = some (.loop (rec .ready)) := by
    have := World.alloc_heap_new (w.alloc (.deferred (some []))) (.loop (rec .ready))
    rw [World.size_alloc] at this
    rw [hV, hL]; exact this
  have hVD : V.heap[w.heap.size]? = some (.deferred (some [])) := by
    rw [hV]; exact (Below.heap_alloc _ _ _ (by simp)).trans (World.alloc_heap_new w _)
  have hVI : I 0 V := by rw [hV]; exact hI.alloc _ (hI.alloc _ h0)
  have hVB : Below w.heap.size w V := by rw [hV]; exact ((Below.refl _ w).alloc (Nat.le_refl _) _).alloc (by simp) _
  refine ⟨L, [{ target := .collected w.heap.size, args := #[] }], V, { target := .fn (.func gf) #[], args := #[recv, .func (.yield L) #[] #[]] }, V, gf, #[recv, .func (.yield L) #[] #[]], V, ?_, ?_, ?_, ?_, fun _ => h1, ?_⟩
  · rw [hV, hL, hrec]; exact run_enterLoop_outer _ _ _ _ _
  · simp only [resolve, hg]
    simp [go_sem]
  · intro f' hf'; simp [Target.leads] at hf'; subst hf'; exact hFg
  · simp [invoke, eg]
  · have turn : ∀ {k : Nat} {W : World} {o o' : Obj}, I k W → W.heap[L]? = some o → o.isCells = false → I k (W.putObj L o') := fun h hl ho => hI.putObj _ h (by omega) hl ho
    refine (hseq L (fun k W => I k W ∧ W.heap[L]? = some (.loop (rec .ready)) ∧ W.heap[w.heap.size]? = some (.deferred (some []))) V hVB ?_ ?_ ⟨hVI, hVL, hVD⟩).mono ?_
    · -- what the iterator does of its own leaves the invariant
      intro k A B row hs hgr hr
      have hr' : ∀ r, row = some r → w.heap.size ≤ r ∧ ∃ o : Obj, A.heap[r]? = some o ∧ o.isCells = false := fun r e => by
        obtain ⟨hB, o, ho, hw⟩ := hr r e
        exact ⟨Nat.le_trans hVB.size hB, o, ho, Obj.not_cells_of_walk hw⟩
      exact ⟨hI k A B row hs.1 hgr hr', (grownBy_keeps hgr (fun r e => (hr r e).2) hs.2.1 rfl).trans hs.2.1, (grownBy_keeps hgr (fun r e => (hr r e).2) hs.2.2 rfl).trans hs.2.2⟩
    · -- one round
      rintro k W hk ⟨hi, hl, hd⟩
      have hlt : L < W.heap.size := (Array.getElem?_eq_some_iff.1 hl).1
      have hy := run_yield (P := P) (args := enc k) hl (by rw [hrec]; exact hps k)
      rw [hrec] at hy
      refine ⟨fn, _, assign, body, hy, roundIn_of_wpIn hfn (hassign _ k W _ ⟨_, run_beginRound hl (by rw [hrec]), ?_⟩)⟩
      have hb1 : Below n0 W (W.putObj L (.loop { rec .ready with state := .busy })) := belowK_b hn0 W L _ _ (by omega) hl rfl rfl
      have hl2 : (W.putObj L (.loop { rec .ready with state := .busy })).heap[L]? = some (.loop { rec .ready with state := .busy }) := World.putObj_heap_same hlt
      have hd2 : (W.putObj L (.loop { rec .ready with state := .busy })).heap[w.heap.size]? = some (.deferred (some [])) := (World.putObj_heap_other (by omega)).trans hd
      refine wpIn_mono (hbody _ k _ (turn hi hl rfl) hk) ?_
      rintro e a3 W3 hp
      cases e with
      | normal =>
        obtain ⟨hk3, hb3, hi3⟩ := hp
        have hl3 := hk3.same _ _ (by omega) hl2 rfl
        have hd3 := hk3.same _ _ (Nat.le_refl _) hd2 rfl
        have hr := run_endRound (P := P) none hl3
        have hl4 : (W3.putObj L (.loop (rec .ready))).heap[L]? = some (.loop (rec .ready)) := World.putObj_heap_same (Array.getElem?_eq_some_iff.1 hl3).1
        have hd4 : (W3.putObj L (.loop (rec .ready))).heap[w.heap.size]? = some (.deferred (some [])) := (World.putObj_heap_other (by omega)).trans hd3
        have hi4 : I (k + 1) (W3.putObj L (.loop (rec .ready))) := turn hi3 hl3 rfl
        have hb4 : Below n0 W (W3.putObj L (.loop (rec .ready))) := (hb1.trans hb3).trans (belowK_b hn0 W3 L _ _ (by omega) hl3 rfl rfl)
        have he : (Instr.endRound L none).run P W3 = .ok (.bool true) (W3.putObj L (.loop (rec .ready))) := by rw [hrec] at hr ⊢; exact hr
        exact ⟨_, _, he, rfl, ⟨hi4, hl4, hd4⟩, hb4⟩
      | ret => exact hp.elim
      | exit id => exact hp.elim
      | goto t => exact hp.elim
      | panic ch => exact hp.elim
      | outgrown => exact hp.elim
    · -- behind the iterator
      rintro e W2 ⟨⟨v, rfl⟩, hi, hl, hd⟩
      exact ⟨none, _, by have := run_endLoop (P := P) hl (by rw [hrec]; simp); rw [hrec] at this; exact this, hdone _ _ (Nat.le_refl _) (turn hi hl rfl) ((World.putObj_heap_other (by omega)).trans hd)⟩

end Qt
end Go.Proofs.Ytbmchpoffceehaa

namespace Go.Proofs.Ytbmchpoffceehaa
open Go.RowKit Go.Shelf Go.Sort
namespace Qt
attribute [local go_sem] Oper.semAt_some

/-- The place of the greatest of the first k numbers, the first of several. -/
def best (xs : List Int) : Nat → Nat
  | 0 => 0
  | k + 1 => if xs[best xs k]?.getD 0 < xs[k]?.getD 0 then k else best xs k
theorem best_lt (xs : List Int) : ∀ k, best xs k = 0 ∨ best xs k < k
  | 0 => .inl rfl
  | k + 1 => by
    unfold best
    split
    · exact .inr (by omega)
    · rcases best_lt xs k with h | h
      · exact .inl h
      · exact .inr (by omega)
theorem best_le (xs : List Int) : ∀ k j, j < k → xs[j]?.getD 0 ≤ xs[best xs k]?.getD 0
  | 0, j, h => absurd h (Nat.not_lt_zero _)
  | k + 1, j, h => by
    unfold best
    split
    · next hx =>
      rcases (by omega : j < k ∨ j = k) with h1 | rfl
      · exact Int.le_trans (best_le xs k j h1) (Int.le_of_lt hx)
      · exact Int.le_refl _
    · next hx =>
      rcases (by omega : j < k ∨ j = k) with h1 | rfl
      · exact best_le xs k j h1
      · omega
theorem best_go {xs : List Int} {k : Nat} (h : xs[best xs k]?.getD 0 < xs[k]?.getD 0) : best xs (k + 1) = k := by rw [best, if_pos h]
theorem best_stay {xs : List Int} {k : Nat} (h : ¬ xs[best xs k]?.getD 0 < xs[k]?.getD 0) : best xs (k + 1) = best xs k := by rw [best, if_neg h]
theorem best_one (xs : List Int) : best xs 1 = 0 := best_stay (by simp [best])
def amOf (h w c : Int) (xs : List Int) : Int := if tOk h w c xs then (best xs xs.length : Nat) else -1
theorem amOf_yes {h w c : Int} {xs : List Int} (hb : tOk h w c xs = true) : amOf h w c xs = (best xs xs.length : Nat) := by rw [amOf, if_pos hb]
theorem amOf_no {h w c : Int} {xs : List Int} (hb : tOk h w c xs = false) : amOf h w c xs = -1 := by rw [amOf, hb]; rfl

theorem bk_own {β : Type} (B g t : Nat) (cs : β → Array Value) : OwnFrom B (fun s W => Bk W g t (cs s)) := fun s X Y row hs hg hr =>
  (hg.block g hs.lt (fun e => by
    obtain ⟨_, o, ho, hc⟩ := hr g e.symm
    have h : X.heap[g]? = _ := hs
    rw [h] at ho; cases ho; cases hc)).trans hs
theorem ret_am {x : Int} {y : Int} (h : y = x) : Ending.returned (.int .i64 x) = .returned (.int .i64 y) := by rw [h]
end Qt
end Go.Proofs.Ytbmchpoffceehaa

namespace Go.Proofs.Ytbmchpoffceehaa
open Go.RowKit Go.Shelf Go.Sort
namespace Qt
attribute [local go_sem] Oper.semAt_some

/-- A row of whole numbers of the call's own. -/
def Row (w : World) (g : Nat) (ys : List Int) : Prop := Bk w g 3 (ys.map (Value.int .i64)).toArray
theorem Row.cell {w : World} {g : Nat} {ys : List Int} (h : Row w g ys) (j : Nat) (hj : j < ys.length) : w.cell? ⟨g, j, none⟩ = some (.int .i64 (ys[j]?.getD 0)) :=
  Bk.cell h j (by simp [hj])
theorem Row.rdI {w : World} {g n : Nat} {ys : List Int} (h : Row w g ys) (hl : ys.length = n) : RdI w (some ⟨g, 0, none⟩) n ys :=
  ⟨hl, fun _ => ⟨g, 0, rfl, Bk.lt h, fun j hj => by rw [Nat.zero_add, h.cell j (by omega)]; simp [List.getD_eq_getElem?_getD]⟩⟩
theorem Row.set {w : World} {g n k : Nat} {xs : List Int} (h : Row w g (vals xs n k)) (hl : xs.length = n) (hk : k < n) : Row (w.setCell ⟨g, k, none⟩ (.int .i64 (xs[k]?.getD 0))) g (vals xs n (k + 1)) := by
  have := Bk.set h k (.int .i64 (xs[k]?.getD 0))
  unfold Row
  have e : (vals xs n (k + 1)).map (Value.int .i64) = ((vals xs n k).map (Value.int .i64)).set k (.int .i64 (xs[k]?.getD 0)) := by
    have := vals_map_set xs n k hl hk
    simpa [List.getD_eq_getElem?_getD] using this.symm
  rw [e]
  simpa using this

theorem madeRow (W : World) (n : Nat) : Row (W.alloc (.cells (madeCells #[.int .i64 0] n) 3)) W.heap.size (List.replicate n 0) := by
  have := Bk.new W 3 (madeCells #[.int .i64 0] n)
  unfold Row
  have e : (madeCells #[.int .i64 0] n) = ((List.replicate n 0).map (Value.int .i64)).toArray := by
    rw [← Array.toArray_toList (xs := madeCells _ _), toList_madeCells_one]
    simp
  rw [← e]; exact this

theorem RdI.of_belowN {w w' : World} {B b n : Nat} {xs : List Int} (h : RdI w (some ⟨b, 0, none⟩) n xs) (hb : Below B w w') (hlt : b < B) : RdI w' (some ⟨b, 0, none⟩) n xs :=
  ⟨h.1, fun hn => by
    obtain ⟨b', off, e, hl, hc⟩ := h.2 hn
    cases e
    exact ⟨b, 0, rfl, World.block_lt_of_cell? w' ⟨b, 0 + 0, none⟩ ((hb.cell (p := ⟨b, 0 + 0, none⟩) hlt).trans (hc 0 hn)), fun j hj => (hb.cell (p := ⟨b, 0 + j, none⟩) hlt).trans (hc j hj)⟩⟩
theorem makeI (n : Nat) (hn : n ≤ 1048576) (W : World) : (Instr.makeSlice 27 (.int .i64 (n : Int)) (.int .i64 (n : Int))).run Try.prog W = .ok (.slice (some ⟨W.heap.size, 0, none⟩) n n) (W.alloc (.cells (madeCells #[.int .i64 0] n) 3)) := by
  obtain ⟨i0, hi, hz0, hz1, hz2⟩ := info_parts info3
  have := run_makeSlice (P := Try.prog) W 27 3 i0 (.int .i64 0) Try.underlying27 hi hz0 .i64 .i64 (n : Int) (n : Int) (Int.natCast_nonneg n) (Int.le_refl _) (by rw [hz1]; simp; omega) (by rw [hz2]; omega) (by omega)
  rw [this]
  simp [hz1, Value.cells]

/-- What is known where a new tensor with a row of noughts has been laid behind the world v. -/
def Laid (v : World) (h w c : Int) (N g3 gr : Nat) (wx : World) : Prop :=
  Bk wx g3 39 #[.int .i64 h, .int .i64 w, .int .i64 c, .slice (some ⟨gr, 0, none⟩) N N] ∧ Row wx gr (List.replicate N 0) ∧ Below v.heap.size v wx ∧ v.heap.size ≤ g3 ∧ v.heap.size ≤ gr ∧ gr ≠ g3
section
variable {v u : World} {h w c : Int} {N : Nat}
theorem below_a (hb : Below v.drew.heap.size v.drew u) : Below v.heap.size v u := (Below.refl _ v).drew.trans hb
theorem below_b {o : Obj} (hb : Below (v.alloc o).drew.heap.size (v.alloc o).drew u) : Below v.heap.size v u := ((Below.refl _ v).alloc (Nat.le_refl _) o).drew.trans (hb.mono (by simp))
theorem below_c {o o' : Obj} (hb : Below ((v.alloc o).alloc o').drew.heap.size ((v.alloc o).alloc o').drew u) : Below v.heap.size v u := (((Below.refl _ v).alloc (Nat.le_refl _) o).alloc (by simp) o').drew.trans (hb.mono (by simp; omega))
theorem laid1 (hb : Below v.drew.heap.size v.drew u) : Laid v h w c N (u.heap.size + 1) u.heap.size ((u.alloc (.cells (madeCells #[.int .i64 0] N) 3)).alloc (.cells #[.int .i64 h, .int .i64 w, .int .i64 c, .slice (some ⟨u.heap.size, 0, none⟩) N N] 39)) := by
  have hs := (below_a hb).size
  refine ⟨?_, (madeRow u N).alloc _, (((below_a hb).alloc hs _).alloc (by simp; omega) _), by omega, by omega, by omega⟩
  have := Bk.new (u.alloc (.cells (madeCells #[.int .i64 0] N) 3)) 39 #[.int .i64 h, .int .i64 w, .int .i64 c, .slice (some ⟨u.heap.size, 0, none⟩) N N]
  simpa using this
theorem laid2 (hb : Below v.drew.heap.size v.drew u) : Laid v h w c N u.heap.size (u.heap.size + 1) ((u.alloc (.cells #[.int .i64 h, .int .i64 w, .int .i64 c, .slice (some ⟨u.heap.size + 1, 0, none⟩) N N] 39)).alloc (.cells (madeCells #[.int .i64 0] N) 3)) := by
  have hs := (below_a hb).size
  refine ⟨(Bk.new u _ _).alloc _, ?_, (((below_a hb).alloc hs _).alloc (by simp; omega) _), by omega, by omega, by omega⟩
  have := madeRow (u.alloc (.cells #[.int .i64 h, .int .i64 w, .int .i64 c, .slice (some ⟨u.heap.size + 1, 0, none⟩) N N] 39)) N
  simpa using this
theorem laid3 (hb : Below (v.alloc (.cells (madeCells #[.int .i64 0] N) 3)).drew.heap.size (v.alloc (.cells (madeCells #[.int .i64 0] N) 3)).drew u) : Laid v h w c N u.heap.size v.heap.size (u.alloc (.cells #[.int .i64 h, .int .i64 w, .int .i64 c, .slice (some ⟨v.heap.size, 0, none⟩) N N] 39)) := by
  have hs : v.heap.size + 1 ≤ u.heap.size := by have := hb.size; simpa using this
  have hrow : Row u v.heap.size (List.replicate N 0) := Bk.below (w := (v.alloc (.cells (madeCells #[.int .i64 0] N) 3)).drew) (madeRow v N) hb
  exact ⟨Bk.new u _ _, hrow.alloc _, (below_b hb).alloc (below_b hb).size _, by omega, by omega, by omega⟩
theorem laid4 (hb : Below (v.alloc (.cells #[.int .i64 0, .int .i64 0, .int .i64 0, .slice none 0 0] 39)).drew.heap.size (v.alloc (.cells #[.int .i64 0, .int .i64 0, .int .i64 0, .slice none 0 0] 39)).drew u) : Laid v h w c N v.heap.size u.heap.size (((((u.setCell ⟨v.heap.size, 0, none⟩ (.int .i64 h)).setCell ⟨v.heap.size, 1, none⟩ (.int .i64 w)).setCell ⟨v.heap.size, 2, none⟩ (.int .i64 c)).setCell ⟨v.heap.size, 3, none⟩ (.slice (some ⟨u.heap.size, 0, none⟩) N N)).alloc (.cells (madeCells #[.int .i64 0] N) 3)) := by
  have hs : v.heap.size + 1 ≤ u.heap.size := by have := hb.size; simpa using this
  have hk : Bk u v.heap.size 39 #[.int .i64 0, .int .i64 0, .int .i64 0, .slice none 0 0] := Bk.below (w := (v.alloc (.cells #[.int .i64 0, .int .i64 0, .int .i64 0, .slice none 0 0] 39)).drew) (Bk.new v _ _) hb
  refine ⟨hk.set4.alloc _, ?_, (below_set4 (below_b hb) (Nat.le_refl _) _ _ _ _).alloc (by simp only [World.size_setCell]; omega) _, by omega, by omega, by omega⟩
  have := madeRow ((((u.setCell ⟨v.heap.size, 0, none⟩ (.int .i64 h)).setCell ⟨v.heap.size, 1, none⟩ (.int .i64 w)).setCell ⟨v.heap.size, 2, none⟩ (.int .i64 c)).setCell ⟨v.heap.size, 3, none⟩ (.slice (some ⟨u.heap.size, 0, none⟩) N N)) N
  simpa using this
theorem laid5 (hb : Below ((v.alloc (.cells (madeCells #[.int .i64 0] N) 3)).alloc (.cells #[.int .i64 0, .int .i64 0, .int .i64 0, .slice none 0 0] 39)).drew.heap.size ((v.alloc (.cells (madeCells #[.int .i64 0] N) 3)).alloc (.cells #[.int .i64 0, .int .i64 0, .int .i64 0, .slice none 0 0] 39)).drew u) : Laid v h w c N (v.heap.size + 1) v.heap.size ((((u.setCell ⟨v.heap.size + 1, 0, none⟩ (.int .i64 h)).setCell ⟨v.heap.size + 1, 1, none⟩ (.int .i64 w)).setCell ⟨v.heap.size + 1, 2, none⟩ (.int .i64 c)).setCell ⟨v.heap.size + 1, 3, none⟩ (.slice (some ⟨v.heap.size, 0, none⟩) N N)) := by
  have hk0 := Bk.new (v.alloc (.cells (madeCells #[.int .i64 0] N) 3)) 39 #[.int .i64 0, .int .i64 0, .int .i64 0, .slice none 0 0]
  simp only [World.size_alloc] at hk0
  have hk : Bk u (v.heap.size + 1) 39 #[.int .i64 0, .int .i64 0, .int .i64 0, .slice none 0 0] := Bk.below (w := ((v.alloc (.cells (madeCells #[.int .i64 0] N) 3)).alloc (.cells #[.int .i64 0, .int .i64 0, .int .i64 0, .slice none 0 0] 39)).drew) hk0 hb
  have hrow : Row u v.heap.size (List.replicate N 0) := Bk.below (w := ((v.alloc (.cells (madeCells #[.int .i64 0] N) 3)).alloc (.cells #[.int .i64 0, .int .i64 0, .int .i64 0, .slice none 0 0] 39)).drew) ((madeRow v N).alloc _) hb
  exact ⟨hk.set4, hrow.far4 (by omega) _ _ _ _, below_set4 (below_c hb) (by omega) _ _ _ _, by omega, by omega, by omega⟩
theorem laid6 (hb : Below ((v.alloc (.cells #[.int .i64 0, .int .i64 0, .int .i64 0, .slice none 0 0] 39)).alloc (.cells (madeCells #[.int .i64 0] N) 3)).drew.heap.size ((v.alloc (.cells #[.int .i64 0, .int .i64 0, .int .i64 0, .slice none 0 0] 39)).alloc (.cells (madeCells #[.int .i64 0] N) 3)).drew u) : Laid v h w c N v.heap.size (v.heap.size + 1) ((((u.setCell ⟨v.heap.size, 0, none⟩ (.int .i64 h)).setCell ⟨v.heap.size, 1, none⟩ (.int .i64 w)).setCell ⟨v.heap.size, 2, none⟩ (.int .i64 c)).setCell ⟨v.heap.size, 3, none⟩ (.slice (some ⟨v.heap.size + 1, 0, none⟩) N N)) := by
  have hk : Bk u v.heap.size 39 #[.int .i64 0, .int .i64 0, .int .i64 0, .slice none 0 0] := Bk.below (w := ((v.alloc (.cells #[.int .i64 0, .int .i64 0, .int .i64 0, .slice none 0 0] 39)).alloc (.cells (madeCells #[.int .i64 0] N) 3)).drew) ((Bk.new v _ _).alloc _) hb
  have hr0 := madeRow (v.alloc (.cells #[.int .i64 0, .int .i64 0, .int .i64 0, .slice none 0 0] 39)) N
  simp only [World.size_alloc] at hr0
  have hrow : Row u (v.heap.size + 1) (List.replicate N 0) := Bk.below (w := ((v.alloc (.cells #[.int .i64 0, .int .i64 0, .int .i64 0, .slice none 0 0] 39)).alloc (.cells (madeCells #[.int .i64 0] N) 3)).drew) hr0 hb
  exact ⟨hk.set4, hrow.far4 (by omega) _ _ _ _, below_set4 (below_c hb) (Nat.le_refl _) _ _ _ _, by omega, by omega, by omega⟩
theorem zed_b (hb : Below (v.alloc (.cells #[.int .i64 0, .int .i64 0, .int .i64 0, .slice none 0 0] 39)).drew.heap.size (v.alloc (.cells #[.int .i64 0, .int .i64 0, .int .i64 0, .slice none 0 0] 39)).drew u) : u.cell? ⟨v.heap.size, 0, none⟩ = some (.int .i64 0) ∧ u.cell? ⟨v.heap.size, 1, none⟩ = some (.int .i64 0) ∧ u.cell? ⟨v.heap.size, 2, none⟩ = some (.int .i64 0) ∧ u.cell? ⟨v.heap.size, 3, none⟩ = some (.slice none 0 0) ∧ u.frozen? ⟨v.heap.size, 0, none⟩ = false ∧ u.frozen? ⟨v.heap.size, 1, none⟩ = false ∧ u.frozen? ⟨v.heap.size, 2, none⟩ = false ∧ u.frozen? ⟨v.heap.size, 3, none⟩ = false ∧ v.heap.size < u.heap.size := by
  have hk : Bk u v.heap.size 39 #[.int .i64 0, .int .i64 0, .int .i64 0, .slice none 0 0] := Bk.below (w := (v.alloc (.cells #[.int .i64 0, .int .i64 0, .int .i64 0, .slice none 0 0] 39)).drew) (Bk.new v _ _) hb
  exact ⟨hk.cell 0 rfl, hk.cell 1 rfl, hk.cell 2 rfl, hk.cell 3 rfl, hk.frozen 0, hk.frozen 1, hk.frozen 2, hk.frozen 3, hk.lt⟩
theorem zed_c (hb : Below ((v.alloc (.cells (madeCells #[.int .i64 0] N) 3)).alloc (.cells #[.int .i64 0, .int .i64 0, .int .i64 0, .slice none 0 0] 39)).drew.heap.size ((v.alloc (.cells (madeCells #[.int .i64 0] N) 3)).alloc (.cells #[.int .i64 0, .int .i64 0, .int .i64 0, .slice none 0 0] 39)).drew u) : u.cell? ⟨v.heap.size + 1, 0, none⟩ = some (.int .i64 0) ∧ u.cell? ⟨v.heap.size + 1, 1, none⟩ = some (.int .i64 0) ∧ u.cell? ⟨v.heap.size + 1, 2, none⟩ = some (.int .i64 0) ∧ u.cell? ⟨v.heap.size + 1, 3, none⟩ = some (.slice none 0 0) ∧ u.frozen? ⟨v.heap.size + 1, 0, none⟩ = false ∧ u.frozen? ⟨v.heap.size + 1, 1, none⟩ = false ∧ u.frozen? ⟨v.heap.size + 1, 2, none⟩ = false ∧ u.frozen? ⟨v.heap.size + 1, 3, none⟩ = false := by
  have hk0 := Bk.new (v.alloc (.cells (madeCells #[.int .i64 0] N) 3)) 39 #[.int .i64 0, .int .i64 0, .int .i64 0, .slice none 0 0]
  simp only [World.size_alloc] at hk0
  have hk : Bk u (v.heap.size + 1) 39 #[.int .i64 0, .int .i64 0, .int .i64 0, .slice none 0 0] := Bk.below (w := ((v.alloc (.cells (madeCells #[.int .i64 0] N) 3)).alloc (.cells #[.int .i64 0, .int .i64 0, .int .i64 0, .slice none 0 0] 39)).drew) hk0 hb
  exact ⟨hk.cell 0 rfl, hk.cell 1 rfl, hk.cell 2 rfl, hk.cell 3 rfl, hk.frozen 0, hk.frozen 1, hk.frozen 2, hk.frozen 3⟩
theorem zed_d (hb : Below ((v.alloc (.cells #[.int .i64 0, .int .i64 0, .int .i64 0, .slice none 0 0] 39)).alloc (.cells (madeCells #[.int .i64 0] N) 3)).drew.heap.size ((v.alloc (.cells #[.int .i64 0, .int .i64 0, .int .i64 0, .slice none 0 0] 39)).alloc (.cells (madeCells #[.int .i64 0] N) 3)).drew u) : u.cell? ⟨v.heap.size, 0, none⟩ = some (.int .i64 0) ∧ u.cell? ⟨v.heap.size, 1, none⟩ = some (.int .i64 0) ∧ u.cell? ⟨v.heap.size, 2, none⟩ = some (.int .i64 0) ∧ u.cell? ⟨v.heap.size, 3, none⟩ = some (.slice none 0 0) ∧ u.frozen? ⟨v.heap.size, 0, none⟩ = false ∧ u.frozen? ⟨v.heap.size, 1, none⟩ = false ∧ u.frozen? ⟨v.heap.size, 2, none⟩ = false ∧ u.frozen? ⟨v.heap.size, 3, none⟩ = false := by
  have hk : Bk u v.heap.size 39 #[.int .i64 0, .int .i64 0, .int .i64 0, .slice none 0 0] := Bk.below (w := ((v.alloc (.cells #[.int .i64 0, .int .i64 0, .int .i64 0, .slice none 0 0] 39)).alloc (.cells (madeCells #[.int .i64 0] N) 3)).drew) ((Bk.new v _ _).alloc _) hb
  exact ⟨hk.cell 0 rfl, hk.cell 1 rfl, hk.cell 2 rfl, hk.cell 3 rfl, hk.frozen 0, hk.frozen 1, hk.frozen 2, hk.frozen 3⟩
theorem Laid.below {g3 gr : Nat} {wx : World} (hl : Laid v h w c N g3 gr wx) : Below v.heap.size v wx := hl.2.2.1
theorem below_1 (o : Obj) : Below v.heap.size v (v.alloc o).drew := ((Below.refl _ v).alloc (Nat.le_refl _) o).drew
theorem below_2 (o o' : Obj) : Below v.heap.size v ((v.alloc o).alloc o').drew := (((Below.refl _ v).alloc (Nat.le_refl _) o).alloc (by simp) o').drew
theorem below_3 (h : Below v.heap.size v u) (o : Obj) : Below v.heap.size v (u.alloc o) := h.alloc h.size o
theorem below_4 (h : Below v.heap.size v u) (o o' : Obj) : Below v.heap.size v ((u.alloc o).alloc o') := below_3 (below_3 h o) o'
theorem keepv {g : Nat} {x y z t : Value} (hb : Below v.heap.size v u) (h0 : v.cell? ⟨g, 0, none⟩ = some x) (h1 : v.cell? ⟨g, 1, none⟩ = some y) (h2 : v.cell? ⟨g, 2, none⟩ = some z) (h3 : v.cell? ⟨g, 3, none⟩ = some t) :
    u.cell? ⟨g, 0, none⟩ = some x ∧ u.cell? ⟨g, 1, none⟩ = some y ∧ u.cell? ⟨g, 2, none⟩ = some z ∧ u.cell? ⟨g, 3, none⟩ = some t := ⟨keep hb h0, keep hb h1, keep hb h2, keep hb h3⟩
end

set_option maxHeartbeats 1000000 in
/-- A new tensor whose numbers stand in a row of its own. -/
def NewTR (W : World) (h w c : Int) (n : Nat) (xs : List Int) (e : Ending) (W' : World) : Prop :=
  ∃ g, e = .returned (.agg #[.int .i64 h, .int .i64 w, .int .i64 c, .slice (some ⟨g, 0, none⟩) n n]) ∧ W.heap.size ≤ g ∧ Row W' g xs ∧ Below W.heap.size W W'
end Qt
end Go.Proofs.Ytbmchpoffceehaa

namespace Go.Proofs.Ytbmchpoffceehaa
open Go.RowKit Go.Sort
namespace Qt
structure KJ (W : World) (J : World → Prop) (w : World) : Prop where
  st : ∀ w w', J w → Below w.heap.size w w' → J w'
  j : J w
  b : Below W.heap.size W w
/-- .. and a block besides, the first that was laid behind the world v. -/
structure KZ (W : World) (J : World → Prop) (v : World) (t : TypeId) (zs : Array Value) (w : World) : Prop where
  st : ∀ w w', J w → Below w.heap.size w w' → J w'
  j : J v
  b : Below W.heap.size W v
  n : Below v.heap.size v w
  z : Bk w v.heap.size t zs
/-- .. when that block is what it is to be. -/
structure KD (W : World) (J : World → Prop) (g : Nat) (t : TypeId) (zs : Array Value) (w : World) : Prop where
  k : KJ W J w
  z : Bk w g t zs
  le : W.heap.size ≤ g
section
variable {W v w w' : World} {J : World → Prop} {t : TypeId} {zs : Array Value} {g : Nat}
theorem KJ.below (h : Hid (KJ W J w)) (bb : Below w.heap.size w w') : Hid (KJ W J w') := Lib.hid ⟨h.out.st, h.out.st _ _ h.out.j bb, h.out.b.trans (bb.mono h.out.b.size)⟩
theorem KJ.drew (h : Hid (KJ W J w)) : Hid (KJ W J w.drew) := KJ.below h (Below.refl _ w).drew
theorem KJ.alloc (h : Hid (KJ W J w)) (o : Obj) : Hid (KJ W J (w.alloc o)) := KJ.below h ((Below.refl _ w).alloc (Nat.le_refl _) o)
theorem KJ.regrown (h : Hid (KJ W J w)) (d : Nat) (os : Array Obj) : Hid (KJ W J (grow (redrawn w d) os)) := KJ.below h (below_regrown w d os)
theorem KJ.lay (h : Hid (KJ W J w)) (t : TypeId) (zs : Array Value) : Hid (KZ W J w t zs (w.alloc (.cells zs t))) := Lib.hid ⟨h.out.st, h.out.j, h.out.b, (Below.refl _ w).alloc (Nat.le_refl _) _, Bk.new w t zs⟩
theorem KJ.laid (h : Hid (KJ W J w)) (t : TypeId) (zs : Array Value) : Hid (KD W J w.heap.size t zs (w.alloc (.cells zs t))) := Lib.hid ⟨(KJ.alloc h _).out, Bk.new w t zs, h.out.b.size⟩
theorem KZ.below (h : Hid (KZ W J v t zs w)) (bb : Below w.heap.size w w') : Hid (KZ W J v t zs w') := Lib.hid ⟨h.out.st, h.out.j, h.out.b, h.out.n.trans (bb.mono h.out.n.size), h.out.z.below bb⟩
theorem KZ.kj (h : Hid (KZ W J v t zs w)) : Hid (KJ W J w) := Lib.hid ⟨h.out.st, h.out.st _ _ h.out.j h.out.n, h.out.b.trans (h.out.n.mono h.out.b.size)⟩
theorem KZ.set (h : Hid (KZ W J v t zs w)) (i : Nat) (u : Value) : Hid (KZ W J v t (zs.setIfInBounds i u) (w.setCell ⟨v.heap.size, i, none⟩ u)) := Lib.hid ⟨h.out.st, h.out.j, h.out.b, h.out.n.setCell (Nat.le_refl _) u, h.out.z.set i u⟩
theorem KZ.done (h : Hid (KZ W J v t zs w)) : Hid (KD W J v.heap.size t zs w) := Lib.hid ⟨(KZ.kj h).out, h.out.z, h.out.b.size⟩
theorem KZ.done3 {a b c : Value} (h : Hid (KZ W J v t #[a, b, c] w)) (x y z : Value) : Hid (KD W J v.heap.size t #[x, y, z] (((w.setCell ⟨v.heap.size, 0, none⟩ x).setCell ⟨v.heap.size, 1, none⟩ y).setCell ⟨v.heap.size, 2, none⟩ z)) :=
  KZ.done (KZ.set (KZ.set (KZ.set h 0 x) 1 y) 2 z)
theorem KZ.kj3 {a b c : Value} (h : Hid (KZ W J v t #[a, b, c] w)) (x y z : Value) : Hid (KJ W J (((w.setCell ⟨v.heap.size, 0, none⟩ x).setCell ⟨v.heap.size, 1, none⟩ y).setCell ⟨v.heap.size, 2, none⟩ z)) :=
  KZ.kj (KZ.set (KZ.set (KZ.set h 0 x) 1 y) 2 z)
theorem KZ.zf {a b c : Value} (h : Hid (KZ W J v t #[a, b, c] w)) : w.cell? ⟨v.heap.size, 0, none⟩ = some a ∧ w.cell? ⟨v.heap.size, 1, none⟩ = some b ∧ w.cell? ⟨v.heap.size, 2, none⟩ = some c ∧ w.frozen? ⟨v.heap.size, 0, none⟩ = false ∧ w.frozen? ⟨v.heap.size, 1, none⟩ = false ∧ w.frozen? ⟨v.heap.size, 2, none⟩ = false :=
  ⟨h.out.z.cell 0 rfl, h.out.z.cell 1 rfl, h.out.z.cell 2 rfl, h.out.z.frozen 0, h.out.z.frozen 1, h.out.z.frozen 2⟩
theorem ownsRow_below {w w' : World} {base : Nat} {e : TypeId} {size : Nat} {V : Value} {n : Nat} {xs : List Value} (h : w.ownsRow base e size V n xs) (hb : Below w.heap.size w w') : w'.ownsRow base e size V n xs := by
  refine ⟨h.1, ?_⟩
  rcases h.2 with hn | ⟨g, cap, cur, rfl, hB, hg, rest⟩
  · exact .inl hn
  · exact .inr ⟨g, cap, cur, rfl, hB, (hb.block g (Array.getElem?_eq_some_iff.1 hg).1).trans hg, rest⟩
theorem ownsRow_base {w : World} {base b' : Nat} {e : TypeId} {size : Nat} {V : Value} {n : Nat} {xs : List Value} (h : w.ownsRow base e size V n xs) (hb : b' ≤ base) : w.ownsRow b' e size V n xs := by
  refine ⟨h.1, ?_⟩
  rcases h.2 with hn | ⟨g, cap, cur, rfl, hB, rest⟩
  · exact .inl hn
  · exact .inr ⟨g, cap, cur, rfl, by omega, rest⟩
theorem Bk.grown {w w' : World} {g : Nat} {t : TypeId} {cs : Array Value} {row : Option Nat} (h : Bk w g t cs) (hg : w.grownBy w' row) (hne : some g ≠ row) : Bk w' g t cs := (hg.block g h.lt hne).trans h
theorem ownsRow_some {w : World} {base : Nat} {e : TypeId} {size : Nat} {V : Value} {n : Nat} {xs : List Value} (h : w.ownsRow base e size V n xs) (hn : 0 < n) : ∃ g cap, V = .slice (some ⟨g, 0, none⟩) n cap ∧ base ≤ g ∧ g < w.heap.size := by
  rcases h.2 with ⟨_, h0⟩ | ⟨g, cap, cur, rfl, hB, hg, _⟩
  · omega
  · exact ⟨g, cap, rfl, hB, (Array.getElem?_eq_some_iff.1 hg).1⟩
end
end Qt
end Go.Proofs.Ytbmchpoffceehaa

namespace Go.Proofs.Ytbmchpoffceehaa
open Go.RowKit
namespace Qt

/-- A slice that reads as xs, in a block at or behind B, none of its cells frozen. -/
def OwnI (B : Nat) (w : World) (A : Option Addr) (n : Nat) (xs : List Int) : Prop :=
  xs.length = n ∧ (0 < n → ∃ g, A = some ⟨g, 0, none⟩ ∧ B ≤ g ∧ g < w.heap.size ∧ ∀ j, j < n → w.cell? ⟨g, j, none⟩ = some (.int .i64 (xs.getD j 0)) ∧ w.frozen? ⟨g, j, none⟩ = false)
section
variable {B B' : Nat} {w w' : World} {A : Option Addr} {n : Nat} {xs : List Int}
theorem OwnI.rdI (h : OwnI B w A n xs) : RdI w A n xs := ⟨h.1, fun hn => by
  obtain ⟨g, e, _, hl, hc⟩ := h.2 hn
  exact ⟨g, 0, e, hl, fun j hj => by rw [Nat.zero_add]; exact (hc j hj).1⟩⟩
theorem OwnI.base (h : OwnI B w A n xs) (hB : B' ≤ B) : OwnI B' w A n xs := ⟨h.1, fun hn => by
  obtain ⟨g, e, hb, r⟩ := h.2 hn
  exact ⟨g, e, Nat.le_trans hB hb, r⟩⟩
theorem OwnI.of_below (h : OwnI B w A n xs) (hb : Below w.heap.size w w') : OwnI B w' A n xs := ⟨h.1, fun hn => by
  obtain ⟨g, e, hB, hl, hc⟩ := h.2 hn
  exact ⟨g, e, hB, Nat.lt_of_lt_of_le hl hb.size, fun j hj => ⟨(hb.cell (p := ⟨g, j, none⟩) hl).trans (hc j hj).1, (hb.frozen (p := ⟨g, j, none⟩) hl).trans (hc j hj).2⟩⟩⟩
theorem OwnI.far {g : Nat} (h : OwnI B w (some ⟨g, 0, none⟩) n xs) {p : Addr} (hp : g ≠ p.block) (u : Value) : OwnI B (w.setCell p u) (some ⟨g, 0, none⟩) n xs := ⟨h.1, fun hn => by
  obtain ⟨g', e, hB, hl, hc⟩ := h.2 hn
  cases e
  exact ⟨g, rfl, hB, by rw [World.size_setCell]; exact hl, fun j hj => ⟨(World.cell?_setCell_other _ _ _ _ (fun e => hp (by subst e; rfl))).trans (hc j hj).1, by rw [World.frozen?_setCell]; exact (hc j hj).2⟩⟩⟩
theorem OwnI.far4 {g : Nat} (h : OwnI B w (some ⟨g, 0, none⟩) n xs) {b : Nat} (hb : g ≠ b) (x y z u : Value) : OwnI B ((((w.setCell ⟨b, 0, none⟩ x).setCell ⟨b, 1, none⟩ y).setCell ⟨b, 2, none⟩ z).setCell ⟨b, 3, none⟩ u) (some ⟨g, 0, none⟩) n xs :=
  (((h.far (p := ⟨b, 0, none⟩) hb x).far (p := ⟨b, 1, none⟩) hb y).far (p := ⟨b, 2, none⟩) hb z).far (p := ⟨b, 3, none⟩) hb u
theorem OwnI.of_own {base c e : Nat} (h : w.ownsRow base e 1 (.slice A n c) n (xs.map (Value.int .i64))) : OwnI base w A n xs := by
  refine ⟨by simpa using h.1, fun hn => ?_⟩
  rcases h.2 with ⟨_, h0⟩ | ⟨g, cap, cur, hv, hb, hg, _⟩
  · omega
  · injection hv with hA _ hc
    subst hA hc
    refine ⟨g, rfl, hb, (Array.getElem?_eq_some_iff.1 hg).1, fun j hj => ⟨?_, h.frozenAt j⟩⟩
    have := h.cellAt j (by omega)
    have hl : j < xs.length := by have := h.1; simp at this; omega
    rw [this]; simp [List.getD_eq_getElem?_getD, hl]
theorem OwnI.grown (h : OwnI B w A n xs) {g0 : Nat} (hg : w.grownBy w' (some g0)) (hne : ∀ g, 0 < n → A = some ⟨g, 0, none⟩ → g ≠ g0) : OwnI B w' A n xs := ⟨h.1, fun hn => by
  obtain ⟨g, e, hB, hl, hc⟩ := h.2 hn
  have hb := hg.block g hl (fun e' => hne g hn e (by cases e'; rfl))
  exact ⟨g, e, hB, Nat.lt_of_lt_of_le hl hg.size, fun j hj => ⟨(World.cell?_of_block hb).trans (hc j hj).1, by rw [← (hc j hj).2]; simp [World.frozen?, hb]⟩⟩⟩
end

def NewO (w : World) (n : Nat) (xs : List Int) (e : Ending) (w' : World) : Prop := ∃ g, e = .returned (.slice (some ⟨g, 0, none⟩) n n) ∧ w.heap.size ≤ g ∧ g < w'.heap.size ∧ OwnI w.heap.size w' (some ⟨g, 0, none⟩) n xs ∧ Below w.heap.size w w'
theorem toIntS_own (A : Option Addr) (n c : Nat) (xs : List Int) (w : World) (h : RdI w A n xs) (hn : n ≤ 1048576) :
    Calls Try.prog 74 #[.slice A n c] w (NewO w n xs) := by
  obtain ⟨i0, hi, hz0, hz1, hz2⟩ := info_parts info3
  obtain ⟨hl, hc⟩ := h
  have HC := Lib.hid hc
  have HL := Lib.hid hl
  clear hc hl
  go_enter Try.func74, Try.ntmps74
  go_wp2_with (at_make; refine wpList_make_full _ rfl _ _ 27 rfl w.heap.size 3 i0 (.int .i64 0) 1 Try.underlying27 hi hz0 hz1 .i64 .i64 _ _ n rfl rfl rfl rfl (by rw [hz2]; omega) (by unfold maxLen; omega) (Nat.le_refl _) ?_; intro w1 hown hg)
  obtain ⟨g, hgd⟩ : ∃ g, g = w.heap.size := ⟨_, rfl⟩
  rw [← hgd] at hown
  rw [← hgd]
  have hown0 : w1.ownsRow g 3 1 (.slice (some ⟨g, 0, none⟩) n n) n ((vals xs n 0).map (Value.int .i64)) := by
    rw [vals_zero]; simpa [toList_madeCells_one, Value.cells] using hown
  have hb0 : Below g w w1 := hgd ▸ (Below.refl w.heap.size w).grown hg (Nat.le_refl _) (fun k hk => by cases hk)
  have hsz : g < w1.heap.size := (hown0.lt g rfl).2
  have HG := Lib.hid hgd
  clear hown hg hgd
  go_loopw [4] (fun i wr => ∃ k : Nat, k ≤ n ∧ i = .int .i64 k ∧ wr.ownsRow g 3 1 (.slice (some ⟨g, 0, none⟩) n n) n ((vals xs n k).map (Value.int .i64)) ∧ Below g w wr) (fun i _ => n - (intOf i).toNat)
  case atStart => exact ⟨0, Nat.zero_le _, rfl, hown0, hb0⟩
  case round =>
    clear hown0 hb0 hsz
    obtain ⟨k, hk, rfl, hown, hb⟩ := hrel
    by_cases hlt : k < n
    · obtain ⟨b, off, rfl, hbl, hcell⟩ := HC.out (by omega)
      have hcx : wr.cell? ⟨b, off + k, none⟩ = some (.int .i64 (xs.getD k 0)) := (hb.cell (p := ⟨b, off + k, none⟩) (by rw [HG.out]; exact hbl)).trans (hcell k hlt)
      have hgx : wr.cell? ⟨g, k, none⟩ = some (.int .i64 ((vals xs n k).getD k 0)) := by
        rw [hown.cellAt k (by omega)]
        have hl : k < (vals xs n k).length := by simpa using (show k < ((vals xs n k).map (Value.int .i64)).length by rw [hown.1]; omega)
        simp [List.getD_eq_getElem?_getD, hl]
      have hfr := hown.frozenAt k
      have hst := (hown.stored k (.int .i64 (xs.getD k 0))).1
      rw [vals_map_set xs n k HL.out hlt] at hst
      have HS := Lib.hid hst
      have HB := Lib.hid hb
      clear hst hcell hown hb
      go_wp2
      go_roundw
      case rel => exact ⟨k + 1, by omega, by go_num, HS.out, HB.out.setCell (Nat.le_refl _) _⟩
      case measure => simp [intOf]; omega
    · go_wp2
      go_ret
      obtain rfl : k = n := by omega
      rw [vals_all xs k HL.out] at hown
      exact ⟨g, rfl, Nat.le_of_eq HG.out.symm, (hown.lt g rfl).2, HG.out ▸ OwnI.of_own hown, HG.out ▸ hb⟩

/-- The numbers from k on. -/
def upFrom (k : Int) (n : Nat) : List Int := (List.range n).map (fun j => k + (j : Nat))
theorem upFrom_get (k : Int) (n j : Nat) (hj : j < n) : (upFrom k n).getD j 0 = k + (j : Nat) := by simp [upFrom, List.getD_eq_getElem?_getD, hj]
theorem upFrom_len (k : Int) (n : Nat) : (upFrom k n).length = n := by simp [upFrom]

theorem grown_set (W : World) (b i : Nat) (v : Value) : W.grownBy (W.setCell ⟨b, i, none⟩ v) (some b) :=
  ⟨rfl, rfl, rfl, by rw [World.size_setCell]; exact Nat.le_refl _, fun k _ hk => Below.heap_setCell _ _ _ k (fun e => hk (by rw [e]))⟩
theorem grown_step {a b c : World} {row : Option Nat} (h : a.grownBy b row) (k : b.grownBy c row) : a.grownBy c row :=
  ⟨k.os.trans h.os, k.tape.trans h.tape, k.output.trans h.output, Nat.le_trans h.size k.size, fun i hi hne => (k.block i (Nat.lt_of_lt_of_le hi h.size) hne).trans (h.block i hi hne)⟩
theorem grown_refl (W : World) (row : Option Nat) : W.grownBy W row := ⟨rfl, rfl, rfl, Nat.le_refl _, fun _ _ _ => rfl⟩
theorem OwnI.set {B n i g : Nat} {w : World} {xs : List Int} (h : OwnI B w (some ⟨g, 0, none⟩) n xs) (hi : i < n) (v : Int) : OwnI B (w.setCell ⟨g, i, none⟩ (.int .i64 v)) (some ⟨g, 0, none⟩) n (xs.set i v) := by
  refine ⟨by rw [List.length_set]; exact h.1, fun hn => ?_⟩
  obtain ⟨g', e, hB, hl, hc⟩ := h.2 hn
  cases e
  refine ⟨g, rfl, hB, by rw [World.size_setCell]; exact hl, fun j hj => ⟨?_, by rw [World.frozen?_setCell]; exact (hc j hj).2⟩⟩
  by_cases hij : j = i
  · subst hij
    rw [World.cell?_setCell_same' _ _ _ (by rw [(hc j hj).1]; rfl)]
    have := h.1
    simp [List.getD_eq_getElem?_getD, show j < xs.length by omega]
  · rw [World.cell?_setCell_other _ _ _ _ (fun e => hij (by injection e with _ e2; exact e2.symm))]
    rw [(hc j hj).1]
    simp [List.getD_eq_getElem?_getD, Ne.symm hij]
/-- Marked up to i. -/
def part (k : Int) (xs : List Int) (i : Nat) : List Int := upFrom k i ++ xs.drop i
theorem part_zero (k : Int) (xs : List Int) : part k xs 0 = xs := by simp [part, upFrom]
theorem part_all (k : Int) (xs : List Int) (n : Nat) (h : xs.length = n) : part k xs n = upFrom k n := by simp [part, ← h]
theorem part_set (k : Int) (xs : List Int) (i : Nat) (h : i < xs.length) : (part k xs i).set i (k + (i : Nat)) = part k xs (i + 1) := by
  have e1 : (upFrom k i).length = i := upFrom_len k i
  unfold part
  rw [List.set_append_right _ _ (by omega), e1, Nat.sub_self, List.drop_eq_getElem_cons h, List.set_cons_zero]
  unfold upFrom
  rw [List.range_succ, List.map_append]
  simp

def Marked (W : World) (B : Nat) (A : Option Addr) (n : Nat) (k : Int) (g : Nat) (e : Ending) (W' : World) : Prop :=
  e = .returned (.int .i64 (k + (n : Nat))) ∧ OwnI B W' A n (upFrom k n) ∧ W.grownBy W' (some g)
theorem markIntS_own (A : Option Addr) (n p B g : Nat) (xs : List Int) (k : Int) (W : World) (hr : OwnI B W A n xs) (hA : 0 < n → A = some ⟨g, 0, none⟩) (hn : n ≤ 1048576) (hk : 0 ≤ k) (hk2 : k ≤ 2000000) :
    Calls Try.prog 20 #[.slice A n p, .int .i64 k] W (Marked W B A n k g) := by
  have hn1 : (n : Int) ≤ 1048576 := by omega
  have HL := Lib.hid hr.1
  have HA := Lib.hid hA
  have h0 := hr
  clear hr hA
  go_enter Try.func20, Try.ntmps20
  go_wp2
  go_loopw [1, 5] (fun q x wr => ∃ i : Nat, i ≤ n ∧ x = .int .i64 i ∧ q = .int .i64 (k + (i : Nat)) ∧ OwnI B wr A n (part k xs i) ∧ W.grownBy wr (some g)) (fun _ x _ => n - (intOf x).toNat)
  case atStart => exact ⟨0, Nat.zero_le _, rfl, by simp, by rw [part_zero]; exact h0, grown_refl _ _⟩
  case round =>
    clear h0
    obtain ⟨i, hi, rfl, rfl, ho, hg⟩ := hrel
    by_cases hlt : i < n
    · have hAg := HA.out (by omega)
      subst hAg
      have hc : wr.cell? ⟨g, i, none⟩ = some (.int .i64 ((part k xs i).getD i 0)) ∧ wr.frozen? ⟨g, i, none⟩ = false := by
        obtain ⟨g', e, _, _, hcc⟩ := ho.2 (by omega)
        cases e
        exact hcc i hlt
      obtain ⟨hc1, hf1⟩ := hc
      have hi2 : (i : Int) < (n : Int) := by omega
      have HO := Lib.hid (ho.set hlt (k + (i : Nat)))
      have HG := Lib.hid (grown_step hg (grown_set wr g i (.int .i64 (k + (i : Nat)))))
      clear ho hg
      go_wp2
      go_roundw
      case rel => exact ⟨i + 1, by omega, by go_num, by go_num, by rw [← part_set k xs i (by have := HL.out; omega)]; exact HO.out, HG.out⟩
      case measure => simp [intOf]; omega
    · obtain rfl : i = n := by omega
      rw [part_all k xs i HL.out] at ho
      have HO := Lib.hid ho
      have HG := Lib.hid hg
      clear ho hg
      go_wp2
      go_ret
      exact ⟨rfl, HO.out, HG.out⟩

theorem heldIntS_own (A : Option Addr) (n p B : Nat) (k : Int) (W : World) (hr : OwnI B W A n (upFrom k n)) (hn : n ≤ 1048576) (hk : 0 ≤ k) (hk2 : k ≤ 2000000) :
    Calls Try.prog 21 #[.slice A n p, .int .i64 k] W fun e W' => e = .returned (.int .i64 (k + (n : Nat))) ∧ Below W.heap.size W W' := by
  have hn1 : (n : Int) ≤ 1048576 := by omega
  have HO := Lib.hid hr
  clear hr
  go_enter Try.func21, Try.ntmps21
  go_wp2
  go_loopw [1, 5] (fun q x wr => ∃ i : Nat, i ≤ n ∧ x = .int .i64 i ∧ q = .int .i64 (k + (i : Nat)) ∧ ∃ m, wr = W.drewN m) (fun _ x _ => n - (intOf x).toNat)
  case atStart => exact ⟨0, Nat.zero_le _, rfl, by simp, 0, rfl⟩
  case round =>
    obtain ⟨i, hi, rfl, rfl, m, rfl⟩ := hrel
    by_cases hlt : i < n
    · obtain ⟨g, rfl, _, _, hcc⟩ := HO.out.2 (by omega)
      have hc1 := (hcc i hlt).1
      rw [upFrom_get k n i hlt] at hc1
      have hi2 : (i : Int) < (n : Int) := by omega
      clear hcc
      go_wp2
      try (go_quiet (fail); go_wp2)
      go_round
      case rel => exact ⟨i + 1, by omega, by go_num, by go_num, _, rfl⟩
      case measure => simp [intOf]; omega
    · obtain rfl : i = n := by omega
      go_wp2
      go_ret
      exact ⟨rfl, below_drewN (Below.refl _ _) _⟩

end Qt
end Go.Proofs.Ytbmchpoffceehaa

namespace Go.Proofs.Ytbmchpoffceehaa
open Go.RowKit
namespace Qt

def NewTO (W : World) (h w c : Int) (n : Nat) (xs : List Int) (e : Ending) (W' : World) : Prop :=
  ∃ g, e = .returned (.agg #[.int .i64 h, .int .i64 w, .int .i64 c, .slice (some ⟨g, 0, none⟩) n n]) ∧ W.heap.size ≤ g ∧ OwnI W.heap.size W' (some ⟨g, 0, none⟩) n xs ∧ Below W.heap.size W W'
theorem toTensorO (h w c : Int) (A : Option Addr) (n p : Nat) (xs : List Int) (W : World) (hr : RdI W A n xs) (hn : n ≤ 1048576) :
    Calls Try.prog 44 #[.agg #[.int .i64 h, .int .i64 w, .int .i64 c, .slice A n p]] W (NewTO W h w c n xs) := by
  have HN := Lib.hid hn
  have HR := Lib.hid hr
  clear hn hr
  go_enter Try.func44, Try.ntmps44
  go_wp2_with fail
  refine (toShapeL h w c _).mono ?_
  rintro e w1 ⟨rfl, b1⟩
  have k0 := (((Bk.new W 29 #[.int .i64 h, .int .i64 w, .int .i64 c, .slice A n p]).alloc _).alloc _).below b1
  have k2 := ((Bk.new (W.alloc (.cells #[.int .i64 h, .int .i64 w, .int .i64 c, .slice A n p] 29)) 39 #[.int .i64 0, .int .i64 0, .int .i64 0, .slice none 0 0]).alloc _).below b1
  have k3 := (Bk.new ((W.alloc (.cells #[.int .i64 h, .int .i64 w, .int .i64 c, .slice A n p] 29)).alloc (.cells #[.int .i64 0, .int .i64 0, .int .i64 0, .slice none 0 0] 39)) 39 #[.int .i64 0, .int .i64 0, .int .i64 0, .slice none 0 0]).below b1
  have b0 : Below W.heap.size W w1 := (((Below.refl _ W).alloc (Nat.le_refl _) _).alloc (by simp) _).alloc (by simp only [World.size_alloc]; omega) _ |>.trans (b1.mono (by simp only [World.size_alloc]; omega))
  simp only [World.size_alloc] at k2 k3
  clear b1
  have G2 := Lib.hid (show W.heap.size ≤ W.heap.size + 1 by omega)
  have G3 := Lib.hid (show W.heap.size ≤ W.heap.size + 1 + 1 by omega)
  have N23 := Lib.hid (show W.heap.size + 1 ≠ W.heap.size + 1 + 1 by omega)
  generalize W.heap.size + 1 + 1 = g3 at k3 G3 N23 ⊢
  generalize W.heap.size + 1 = g2 at k2 G2 N23 ⊢
  obtain ⟨c0, c1, c2, c3⟩ := k0.cell4
  obtain ⟨d0, d1, d2, d3⟩ := k3.cell4
  obtain ⟨f0, f1, f2, f3⟩ := k3.free4
  have B1 := Lib.hid b0
  have K2 := Lib.hid k2
  have K3 := Lib.hid k3
  clear k0 k2 k3 b0
  go_wp2_with fail
  have b4 := below_set3 B1.out G3.out (.int .i64 h) (.int .i64 w) (.int .i64 c)
  have k3 := ((K3.out.set 0 (.int .i64 h)).set 1 (.int .i64 w)).set 2 (.int .i64 c)
  have k2 := K2.out.far3 N23.out (.int .i64 h) (.int .i64 w) (.int .i64 c)
  simp only [List.setIfInBounds_toArray, List.set_cons_zero, List.set_cons_succ] at k3
  clear c0 c1 c2 c3 d0 d1 d2 d3 f0 f1 f2 f3 B1 K2 K3
  generalize ((w1.setCell { block := g3, off := 0 } (.int .i64 h)).setCell { block := g3, off := 1 } (.int .i64 w)).setCell { block := g3, off := 2 } (.int .i64 c) = w4 at b4 k3 k2 ⊢
  refine (toIntS_own A n p xs _ (HR.out.of_below b4) HN.out).mono ?_
  rintro e w5 ⟨g, rfl, hg, hg5, r5, b5⟩
  have hg3 := k3.lt
  have hg2 := k2.lt
  have NG := Lib.hid (show g ≠ g3 ∧ g ≠ g2 by omega)
  have LG := Lib.hid (show W.heap.size ≤ g from Nat.le_trans b4.size hg)
  have r5 := r5.base (B' := W.heap.size) b4.size
  replace k3 := k3.below b5
  replace k2 := k2.below b5
  have B5 := Lib.hid (b4.trans (b5.mono b4.size))
  obtain ⟨d0, d1, d2, d3⟩ := k3.cell4
  obtain ⟨f0, f1, f2, f3⟩ := k3.free4
  obtain ⟨i0, i1, i2, i3⟩ := k2.cell4
  obtain ⟨j0, j1, j2, j3⟩ := k2.free4
  have R5 := Lib.hid r5
  have K2 := Lib.hid k2
  clear k2 k3 hg3 hg2 hg hg5 r5 b5 b4 HR HN
  have hne : g2 ≠ g3 := N23.out
  go_wp2_with fail
  have k9 := (K2.out.far (p := ⟨g3, 3, none⟩) N23.out (.slice (some ⟨g, 0, none⟩) n n)).set4 (x := .int .i64 h) (y := .int .i64 w) (z := .int .i64 c) (u := .slice (some ⟨g, 0, none⟩) n n)
  have r9 := (R5.out.far (p := ⟨g3, 3, none⟩) NG.out.1 (.slice (some ⟨g, 0, none⟩) n n)).far4 NG.out.2 (.int .i64 h) (.int .i64 w) (.int .i64 c) (.slice (some ⟨g, 0, none⟩) n n)
  have b9 := below_set4 (B5.out.setCell (p := ⟨g3, 3, none⟩) G3.out (.slice (some ⟨g, 0, none⟩) n n)) G2.out (.int .i64 h) (.int .i64 w) (.int .i64 c) (.slice (some ⟨g, 0, none⟩) n n)
  obtain ⟨z0, z1, z2, z3⟩ := k9.cell4
  refine bodyPost_ret (v := .agg #[.int .i64 h, .int .i64 w, .int .i64 c, .slice (some ⟨g, 0, none⟩) n n]) ?_ rfl ⟨g, rfl, LG.out, r9, b9⟩
  clear k9 r9 b9 d0 d1 d2 d3 f0 f1 f2 f3 i0 i1 i2 i3 j0 j1 j2 j3
  generalize ((((w5.setCell { block := g3, off := 3 } (.slice (some { block := g, off := 0 }) n n)).setCell { block := g2, off := 0 } (.int .i64 h)).setCell { block := g2, off := 1 } (.int .i64 w)).setCell { block := g2, off := 2 } (.int .i64 c)).setCell { block := g2, off := 3 } (.slice (some { block := g, off := 0 }) n n) = w9 at z0 z1 z2 z3 ⊢
  simp [results, Try.results44, go_sem, z0, z1, z2, z3]


theorem markTensor_own (h w c : Int) (A : Option Addr) (n p B g : Nat) (xs : List Int) (k : Int) (W : World) (hr : OwnI B W A n xs) (hA : 0 < n → A = some ⟨g, 0, none⟩) (hn : n ≤ 1048576) (hk : 0 ≤ k) (hk2 : k ≤ 2000000) :
    Calls Try.prog 49 #[.agg #[.int .i64 h, .int .i64 w, .int .i64 c, .slice A n p], .int .i64 k] W (Marked W B A n k g) := by
  have b0 := (Below.refl _ W).alloc (Nat.le_refl _) (.cells #[.int .i64 h, .int .i64 w, .int .i64 c, .slice A n p] 39)
  have HO := Lib.hid (hr.of_below b0)
  have HG := Lib.hid (World.grownBy_alloc W (.cells #[.int .i64 h, .int .i64 w, .int .i64 c, .slice A n p] 39) (some g))
  have HA := Lib.hid hA
  have HN := Lib.hid hn
  clear hr b0 hA hn
  go_enter Try.func49, Try.ntmps49
  go_wp2_with fail
  refine (markIntS_own A n p B g xs k _ HO.out HA.out HN.out hk hk2).mono ?_
  rintro e w1 ⟨rfl, o1, g1⟩
  have HO1 := Lib.hid o1
  have HG1 := Lib.hid (grown_step HG.out g1)
  clear o1 g1 HO HG
  go_wp2
  go_ret
  exact ⟨rfl, HO1.out, HG1.out⟩

end Qt
end Go.Proofs.Ytbmchpoffceehaa

namespace Go.Proofs.Ytbmchpoffceehaa
open Go.RowKit
namespace Qt
/-- What a layer holds. -/
structure Lay where
  (k o s t m f z : Int)
  (xs ys : List Int)
/-- Where a layer's two slices lie. -/
structure Pos where
  (A : Option Addr) (n p : Nat) (B : Option Addr) (q r : Nat)
def layC (l : Lay) (P : Pos) : List Value := [.int .i64 l.k, .int .i64 l.o, .int .i64 l.s, .int .i64 l.t, .int .i64 l.m, .int .i64 l.f, .int .i64 l.z, .slice P.A P.n P.p, .slice P.B P.q P.r]
def RdY (w : World) (l : Lay) (P : Pos) : Prop := RdI w P.A P.n l.xs ∧ RdI w P.B P.q l.ys
/-- The layers one behind the other from cell 'off' of block b on. -/
def LayAt (w : World) (b off : Nat) (l : Lay) (P : Pos) : Prop := (∀ i v, (layC l P)[i]? = some v → w.cell? ⟨b, off + i, none⟩ = some v) ∧ RdY w l P
/-- The slice at A of n layers reads as ls. -/
def RdL (w : World) (A : Option Addr) (n : Nat) (ls : List Lay) : Prop :=
  ls.length = n ∧ (0 < n → ∃ b off, A = some ⟨b, off, none⟩ ∧ b < w.heap.size ∧ ∀ j l, ls[j]? = some l → ∃ P, LayAt w b (off + j * 9) l P)
/-- How much the laws' helper reckons for the layers. -/
def big : List Lay → Nat
  | [] => 0
  | l :: r => l.xs.length + l.ys.length + big r
theorem big_append (a b : List Lay) : big (a ++ b) = big a + big b := by
  induction a with
  | nil => simp [big]
  | cons l r ih => simp [big, ih]; omega
theorem big_at {ls : List Lay} {j : Nat} {l : Lay} (h : ls[j]? = some l) : l.xs.length + l.ys.length ≤ big ls := by
  induction ls generalizing j with
  | nil => simp at h
  | cons a r ih =>
    cases j with
    | zero => simp at h; subst h; simp [big]
    | succ j => simp at h; have := ih h; simp [big]; omega
theorem big_take {ls : List Lay} {j : Nat} {l : Lay} (h : ls[j]? = some l) : big (ls.take (j + 1)) = big (ls.take j) + (l.xs.length + l.ys.length) := by
  rw [List.take_add_one, h, big_append]
  simp [big]
theorem big_take_le (ls : List Lay) (j : Nat) : big (ls.take j) ≤ big ls := by
  conv => rhs; rw [← List.take_append_drop j ls, big_append]
  omega
section
variable {w w' : World} {b off : Nat} {l : Lay} {P : Pos} {A : Option Addr} {n : Nat} {ls : List Lay}
theorem RdY.of_below (h : RdY w l P) (hb : Below w.heap.size w w') : RdY w' l P := ⟨h.1.of_below hb, h.2.of_below hb⟩
theorem LayAt.of_below (h : LayAt w b off l P) (hlt : b < w.heap.size) (hb : Below w.heap.size w w') : LayAt w' b off l P :=
  ⟨fun i v hv => (hb.cell (p := ⟨b, off + i, none⟩) hlt).trans (h.1 i v hv), h.2.of_below hb⟩
theorem RdL.of_below (h : RdL w A n ls) (hb : Below w.heap.size w w') : RdL w' A n ls :=
  ⟨h.1, fun hn => by
    obtain ⟨b, off, e, hlt, hc⟩ := h.2 hn
    exact ⟨b, off, e, Nat.lt_of_lt_of_le hlt hb.size, fun j l hj => by
      obtain ⟨P, hP⟩ := hc j l hj
      exact ⟨P, hP.of_below hlt hb⟩⟩⟩
theorem LayAt.cells (h : LayAt w b off l P) : w.cell? ⟨b, off, none⟩ = some (.int .i64 l.k) ∧ w.cell? ⟨b, off + 1, none⟩ = some (.int .i64 l.o) ∧ w.cell? ⟨b, off + 2, none⟩ = some (.int .i64 l.s) ∧ w.cell? ⟨b, off + 3, none⟩ = some (.int .i64 l.t) ∧ w.cell? ⟨b, off + 4, none⟩ = some (.int .i64 l.m) ∧ w.cell? ⟨b, off + 5, none⟩ = some (.int .i64 l.f) ∧ w.cell? ⟨b, off + 6, none⟩ = some (.int .i64 l.z) ∧ w.cell? ⟨b, off + 7, none⟩ = some (.slice P.A P.n P.p) ∧ w.cell? ⟨b, off + 8, none⟩ = some (.slice P.B P.q P.r) :=
  ⟨h.1 0 _ rfl, h.1 1 _ rfl, h.1 2 _ rfl, h.1 3 _ rfl, h.1 4 _ rfl, h.1 5 _ rfl, h.1 6 _ rfl, h.1 7 _ rfl, h.1 8 _ rfl⟩
theorem LayAt.lens {k o s t m f z : Int} {xs ys : List Int} {A B : Option Addr} {n p q r : Nat} (h : LayAt w b off ⟨k, o, s, t, m, f, z, xs, ys⟩ ⟨A, n, p, B, q, r⟩) : xs.length = n ∧ ys.length = q := ⟨h.2.1.1, h.2.2.1⟩
theorem LayAt.rds {k o s t m f z : Int} {xs ys : List Int} {A B : Option Addr} {n p q r : Nat} (h : LayAt w b off ⟨k, o, s, t, m, f, z, xs, ys⟩ ⟨A, n, p, B, q, r⟩) : RdI w A n xs ∧ RdI w B q ys := ⟨h.2.1, h.2.2⟩
theorem LayAt.cells9 {k o s t m f z : Int} {xs ys : List Int} {A B : Option Addr} {n p q r : Nat} (h : LayAt w b off ⟨k, o, s, t, m, f, z, xs, ys⟩ ⟨A, n, p, B, q, r⟩) : w.cell? ⟨b, off, none⟩ = some (.int .i64 k) ∧ w.cell? ⟨b, off + 1, none⟩ = some (.int .i64 o) ∧ w.cell? ⟨b, off + 2, none⟩ = some (.int .i64 s) ∧ w.cell? ⟨b, off + 3, none⟩ = some (.int .i64 t) ∧ w.cell? ⟨b, off + 4, none⟩ = some (.int .i64 m) ∧ w.cell? ⟨b, off + 5, none⟩ = some (.int .i64 f) ∧ w.cell? ⟨b, off + 6, none⟩ = some (.int .i64 z) ∧ w.cell? ⟨b, off + 7, none⟩ = some (.slice A n p) ∧ w.cell? ⟨b, off + 8, none⟩ = some (.slice B q r) := h.cells
theorem big_at9 {k o s t m f z : Int} {xs ys : List Int} {j : Nat} (h : ls[j]? = some ⟨k, o, s, t, m, f, z, xs, ys⟩) : xs.length + ys.length ≤ big ls := big_at h
/-- The layer at place j, with its numbers and its slices by their names. -/
theorem RdL.at (h : RdL w A n ls) {j : Nat} (hj : j < n) : ∃ b off k o s t m f z A' n' p' B' q' r' xs ys, A = some ⟨b, off, none⟩ ∧ b < w.heap.size ∧ ls[j]? = some ⟨k, o, s, t, m, f, z, xs, ys⟩ ∧ LayAt w b (off + j * 9) ⟨k, o, s, t, m, f, z, xs, ys⟩ ⟨A', n', p', B', q', r'⟩ := by
  obtain ⟨b, off, e, hlt, hc⟩ := h.2 (by omega)
  have hl : ls[j]? = some (ls[j]'(by rw [h.1]; exact hj)) := List.getElem?_eq_getElem _
  obtain ⟨P, hP⟩ := hc j _ hl
  exact ⟨b, off, _, _, _, _, _, _, _, P.A, P.n, P.p, P.B, P.q, P.r, _, _, e, hlt, hl, hP⟩
end
end Qt
end Go.Proofs.Ytbmchpoffceehaa

namespace Go.Proofs.Ytbmchpoffceehaa
open Go.RowKit
namespace Qt
/-- The layer's nine values stand in these cells from place i on, and its two slices are the call's own, behind B, none of them block g. -/
def InRow (B : Nat) (w : World) (g : Nat) (cs : Array Value) (i : Nat) (l : Lay) (P : Pos) : Prop :=
  (∀ c v, (layC l P)[c]? = some v → cs[i + c]? = some v) ∧ OwnI B w P.A P.n l.xs ∧ OwnI B w P.B P.q l.ys ∧ (∀ a, P.A = some a → a.block ≠ g) ∧ (∀ a, P.B = some a → a.block ≠ g)
def posY (l : Lay) (a : Nat × Nat) : Pos := ⟨some ⟨a.1, 0, none⟩, l.xs.length, l.xs.length, some ⟨a.2, 0, none⟩, l.ys.length, l.ys.length⟩
/-- The blocks of the slices, two a layer, come one behind the other, behind block g. -/
structure Rising (w : World) (g : Nat) (az : List (Nat × Nat)) : Prop where
  each : ∀ (j : Nat) (a : Nat × Nat), az[j]? = some a → g < a.1 ∧ a.1 < a.2 ∧ a.2 < w.heap.size
  next : ∀ (i j : Nat) (a b : Nat × Nat), i < j → az[i]? = some a → az[j]? = some b → a.2 < b.1
/-- The first k of the layers stand in block g, which is wholly known. -/
def Filled (B : Nat) (w : World) (g : Nat) (n k : Nat) (ls : List Lay) : Prop :=
  ∃ cs az, Bk w g 104 cs ∧ cs.size = n * 9 ∧ az.length = k ∧ (∀ j l a, ls[j]? = some l → az[j]? = some a → InRow B w g cs (j * 9) l (posY l a)) ∧ Rising w g az
def OwnL (B : Nat) (w : World) (A : Option Addr) (n : Nat) (ls : List Lay) : Prop :=
  ls.length = n ∧ ∃ g, A = some ⟨g, 0, none⟩ ∧ B ≤ g ∧ Filled B w g n n ls
section
variable {B : Nat} {w w' : World} {g n k : Nat} {A : Option Addr} {ls : List Lay} {cs : Array Value} {i : Nat} {l : Lay} {P : Pos}
theorem InRow.of_below (h : InRow B w g cs i l P) (hb : Below w.heap.size w w') : InRow B w' g cs i l P := ⟨h.1, h.2.1.of_below hb, h.2.2.1.of_below hb, h.2.2.2⟩
theorem Rising.size {az : List (Nat × Nat)} (h : Rising w g az) (hs : w.heap.size ≤ w'.heap.size) : Rising w' g az := ⟨fun j a ha => by have := h.each j a ha; omega, h.next⟩
theorem Filled.of_below (h : Filled B w g n k ls) (hb : Below w.heap.size w w') : Filled B w' g n k ls := by
  obtain ⟨cs, az, hk, hs, hl, hr, hi⟩ := h
  exact ⟨cs, az, hk.below hb, hs, hl, fun j l a hj ha => (hr j l a hj ha).of_below hb, hi.size hb.size⟩
theorem OwnL.of_below (h : OwnL B w A n ls) (hb : Below w.heap.size w w') : OwnL B w' A n ls := by
  obtain ⟨h1, g, e, hB, hf⟩ := h
  exact ⟨h1, g, e, hB, hf.of_below hb⟩
theorem Filled.rdL (h : Filled B w g n n ls) (hl : ls.length = n) : RdL w (some ⟨g, 0, none⟩) n ls := by
  obtain ⟨cs, az, hk, hs, hla, hr, _⟩ := h
  refine ⟨hl, fun _ => ⟨g, 0, rfl, hk.lt, fun j l hj => ?_⟩⟩
  have hja : az[j]? = some (az[j]'(by rw [hla, ← hl]; exact (List.getElem?_eq_some_iff.1 hj).1)) := List.getElem?_eq_getElem _
  obtain ⟨h1, h2, h3, _⟩ := hr j l _ hj hja
  exact ⟨posY l (az[j]'(by rw [hla, ← hl]; exact (List.getElem?_eq_some_iff.1 hj).1)), fun c v hv => hk.cell _ (by rw [Nat.zero_add]; exact h1 c v hv), h2.rdI, h3.rdI⟩
theorem OwnL.rdL (h : OwnL B w A n ls) : RdL w A n ls := by
  obtain ⟨h1, g, rfl, _, hf⟩ := h
  exact hf.rdL h1
theorem OwnI.apart {A : Option Addr} {n : Nat} {xs : List Int} (h : OwnI B w A n xs) {p : Addr} (hp : ∀ a, A = some a → a.block ≠ p.block) (u : Value) : OwnI B (w.setCell p u) A n xs := ⟨h.1, fun hn => by
  obtain ⟨g, rfl, r⟩ := h.2 hn
  exact (OwnI.far (g := g) ⟨h.1, fun _ => ⟨g, rfl, r⟩⟩ (hp _ rfl) u).2 hn⟩
theorem OwnI.low {A : Option Addr} {n : Nat} {xs : List Int} (h : OwnI B w A n xs) {p : Addr} (hp : p.block < B) (u : Value) : OwnI B (w.setCell p u) A n xs := ⟨h.1, fun hn => by
  obtain ⟨g, rfl, hB, r⟩ := h.2 hn
  exact (OwnI.far (g := g) ⟨h.1, fun _ => ⟨g, rfl, hB, r⟩⟩ (by omega) u).2 hn⟩
theorem OwnL.low (h : OwnL B w A n ls) {p : Addr} (hp : p.block < B) (u : Value) : OwnL B (w.setCell p u) A n ls := by
  obtain ⟨h1, g, rfl, hB, cs, az, hk, hs, hla, hr, hi⟩ := h
  refine ⟨h1, g, rfl, hB, cs, az, hk.far (by omega) u, hs, hla, fun j l a hj ha => ?_, hi.size (by rw [World.size_setCell]; exact Nat.le_refl _)⟩
  obtain ⟨a, b, c, d, e⟩ := hr j l a hj ha
  exact ⟨a, b.low hp u, c.low hp u, d, e⟩
theorem OwnL.base {B' : Nat} (h : OwnL B w A n ls) (hB' : B' ≤ B) : OwnL B' w A n ls := by
  obtain ⟨h1, g, rfl, hB, cs, az, hk, hs, hla, hr, hi⟩ := h
  refine ⟨h1, g, rfl, by omega, cs, az, hk, hs, hla, fun j l a hj ha => ?_, hi⟩
  obtain ⟨a, b, c, d, e⟩ := hr j l a hj ha
  exact ⟨a, b.base hB', c.base hB', d, e⟩
/-- Nine values more. -/
def row9 (cs : Array Value) (i : Nat) (v0 v1 v2 v3 v4 v5 v6 v7 v8 : Value) : Array Value :=
  ((((((((cs.setIfInBounds i v0).setIfInBounds (i + 1) v1).setIfInBounds (i + 2) v2).setIfInBounds (i + 3) v3).setIfInBounds (i + 4) v4).setIfInBounds (i + 5) v5).setIfInBounds (i + 6) v6).setIfInBounds (i + 7) v7).setIfInBounds (i + 8) v8
def wset9 (w : World) (g i : Nat) (v0 v1 v2 v3 v4 v5 v6 v7 v8 : Value) : World :=
  ((((((((w.setCell ⟨g, i, none⟩ v0).setCell ⟨g, i + 1, none⟩ v1).setCell ⟨g, i + 2, none⟩ v2).setCell ⟨g, i + 3, none⟩ v3).setCell ⟨g, i + 4, none⟩ v4).setCell ⟨g, i + 5, none⟩ v5).setCell ⟨g, i + 6, none⟩ v6).setCell ⟨g, i + 7, none⟩ v7).setCell ⟨g, i + 8, none⟩ v8
theorem Bk.row9 {t : TypeId} (h : Bk w g t cs) (i : Nat) (v0 v1 v2 v3 v4 v5 v6 v7 v8 : Value) : Bk (wset9 w g i v0 v1 v2 v3 v4 v5 v6 v7 v8) g t (row9 cs i v0 v1 v2 v3 v4 v5 v6 v7 v8) :=
  ((((((((h.set i v0).set (i + 1) v1).set (i + 2) v2).set (i + 3) v3).set (i + 4) v4).set (i + 5) v5).set (i + 6) v6).set (i + 7) v7).set (i + 8) v8
theorem row9_size (cs : Array Value) (i : Nat) (v0 v1 v2 v3 v4 v5 v6 v7 v8 : Value) : (row9 cs i v0 v1 v2 v3 v4 v5 v6 v7 v8).size = cs.size := by simp [row9]
theorem row9_old {cs : Array Value} {i j : Nat} (h : j < i) (v0 v1 v2 v3 v4 v5 v6 v7 v8 : Value) : (row9 cs i v0 v1 v2 v3 v4 v5 v6 v7 v8)[j]? = cs[j]? := by
  simp only [row9, Array.getElem?_setIfInBounds]
  repeat rw [if_neg (by omega)]
theorem row9_new {cs : Array Value} {i : Nat} (h : i + 9 ≤ cs.size) (l : Lay) (P : Pos) (c : Nat) (v : Value) (hv : (layC l P)[c]? = some v) :
    (row9 cs i (.int .i64 l.k) (.int .i64 l.o) (.int .i64 l.s) (.int .i64 l.t) (.int .i64 l.m) (.int .i64 l.f) (.int .i64 l.z) (.slice P.A P.n P.p) (.slice P.B P.q P.r))[i + c]? = some v := by
  have hc : c < 9 := by have := (List.getElem?_eq_some_iff.1 hv).1; simpa [layC] using this
  obtain rfl | rfl | rfl | rfl | rfl | rfl | rfl | rfl | rfl : c = 0 ∨ c = 1 ∨ c = 2 ∨ c = 3 ∨ c = 4 ∨ c = 5 ∨ c = 6 ∨ c = 7 ∨ c = 8 := by omega
  all_goals
    simp [layC] at hv
    subst hv
    simp [row9, Array.getElem?_setIfInBounds]
    omega
theorem OwnI.set9 {A : Option Addr} {n : Nat} {xs : List Int} (h : OwnI B w A n xs) (hp : ∀ a, A = some a → a.block ≠ g) (i : Nat) (v0 v1 v2 v3 v4 v5 v6 v7 v8 : Value) : OwnI B (wset9 w g i v0 v1 v2 v3 v4 v5 v6 v7 v8) A n xs :=
  ((((((((h.apart (p := ⟨g, i, none⟩) hp v0).apart (p := ⟨g, i + 1, none⟩) hp v1).apart (p := ⟨g, i + 2, none⟩) hp v2).apart (p := ⟨g, i + 3, none⟩) hp v3).apart (p := ⟨g, i + 4, none⟩) hp v4).apart (p := ⟨g, i + 5, none⟩) hp v5).apart (p := ⟨g, i + 6, none⟩) hp v6).apart (p := ⟨g, i + 7, none⟩) hp v7).apart (p := ⟨g, i + 8, none⟩) hp v8
theorem below_set9i {C : Nat} {W : World} (h : Below C W w) (hC : C ≤ g) (i : Nat) (v0 v1 v2 v3 v4 v5 v6 v7 v8 : Value) : Below C W (wset9 w g i v0 v1 v2 v3 v4 v5 v6 v7 v8) :=
  ((((((((h.setCell (p := ⟨g, i, none⟩) hC v0).setCell (p := ⟨g, i + 1, none⟩) hC v1).setCell (p := ⟨g, i + 2, none⟩) hC v2).setCell (p := ⟨g, i + 3, none⟩) hC v3).setCell (p := ⟨g, i + 4, none⟩) hC v4).setCell (p := ⟨g, i + 5, none⟩) hC v5).setCell (p := ⟨g, i + 6, none⟩) hC v6).setCell (p := ⟨g, i + 7, none⟩) hC v7).setCell (p := ⟨g, i + 8, none⟩) hC v8
theorem wset9_size (w : World) (g i : Nat) (v0 v1 v2 v3 v4 v5 v6 v7 v8 : Value) : (wset9 w g i v0 v1 v2 v3 v4 v5 v6 v7 v8).heap.size = w.heap.size := by simp only [wset9, World.size_setCell]
/-- The next layer is laid into its place: its slices lie in blocks that were laid behind all of the others'. -/
theorem Filled.next {w0 : World} (h0 : Filled B w0 g n k ls) (hb : Below w0.heap.size w0 w) (hk : k < n) {l : Lay} (hl : ls[k]? = some l) (ga gb : Nat) (hga : w0.heap.size ≤ ga) (hgb : ga < gb) (hlt : gb < w.heap.size)
    (ha : OwnI B w (some ⟨ga, 0, none⟩) l.xs.length l.xs) (hb2 : OwnI B w (some ⟨gb, 0, none⟩) l.ys.length l.ys) :
    Filled B (wset9 w g (k * 9) (.int .i64 l.k) (.int .i64 l.o) (.int .i64 l.s) (.int .i64 l.t) (.int .i64 l.m) (.int .i64 l.f) (.int .i64 l.z) (.slice (some ⟨ga, 0, none⟩) l.xs.length l.xs.length) (.slice (some ⟨gb, 0, none⟩) l.ys.length l.ys.length)) g n (k + 1) ls := by
  obtain ⟨cs, az, hB0, hs, hla, hr0, hi0⟩ := h0
  have hg0 := hB0.lt
  have hB := hB0.below hb
  have na : ∀ a, (some (⟨ga, 0, none⟩ : Addr)) = some a → a.block ≠ g := fun a h => by cases h; simp only; omega
  have nb : ∀ a, (some (⟨gb, 0, none⟩ : Addr)) = some a → a.block ≠ g := fun a h => by cases h; simp only; omega
  refine ⟨_, az ++ [(ga, gb)], hB.row9 (k * 9) _ _ _ _ _ _ _ _ _, by rw [row9_size]; exact hs, by simp [hla], fun j l' a hj hja => ?_, ⟨fun j a hja => ?_, fun i j a b hij hia hjb => ?_⟩⟩
  · by_cases e : j < k
    · rw [List.getElem?_append_left (by omega)] at hja
      obtain ⟨h1, h2, h3, h4, h5⟩ := (hr0 j l' a hj hja).of_below hb
      refine ⟨fun c v hv => ?_, h2.set9 h4 _ _ _ _ _ _ _ _ _ _, h3.set9 h5 _ _ _ _ _ _ _ _ _ _, h4, h5⟩
      have hc : c < 9 := by have := (List.getElem?_eq_some_iff.1 hv).1; simpa [layC] using this
      rw [row9_old (by omega)]
      exact h1 c v hv
    · have hjk : j = k := by have := (List.getElem?_eq_some_iff.1 hja).1; simp at this; omega
      subst hjk
      rw [List.getElem?_append_right (by omega)] at hja
      simp [hla] at hja
      subst hja
      rw [hl] at hj
      cases hj
      exact ⟨fun c v hv => row9_new (by omega) l (posY l (ga, gb)) c v hv, ha.set9 na _ _ _ _ _ _ _ _ _ _, hb2.set9 nb _ _ _ _ _ _ _ _ _ _, na, nb⟩
  · rw [wset9_size]
    by_cases e : j < k
    · rw [List.getElem?_append_left (by omega)] at hja
      have := hi0.each j a hja
      have := hb.size
      omega
    · have hjk : j = k := by have := (List.getElem?_eq_some_iff.1 hja).1; simp at this; omega
      subst hjk
      rw [List.getElem?_append_right (by omega)] at hja
      simp [hla] at hja
      subst hja
      simp only
      omega
  · by_cases e : j < k
    · rw [List.getElem?_append_left (by omega)] at hjb
      rw [List.getElem?_append_left (by omega)] at hia
      exact hi0.next i j a b hij hia hjb
    · have hjk : j = k := by have := (List.getElem?_eq_some_iff.1 hjb).1; simp at this; omega
      subst hjk
      rw [List.getElem?_append_right (by omega)] at hjb
      rw [List.getElem?_append_left (by omega)] at hia
      simp [hla] at hjb
      subst hjb
      have := hi0.each i a hia
      simp only
      omega
end
end Qt
end Go.Proofs.Ytbmchpoffceehaa

namespace Go.Proofs.Ytbmchpoffceehaa
open Go.RowKit
namespace Qt
/-- A new layer that holds these numbers, in two slices of its own. -/
def NewLO (W : World) (k o s t m f z : Int) (n : Nat) (xs : List Int) (q : Nat) (ys : List Int) (e : Ending) (W' : World) : Prop :=
  ∃ g h, e = .returned (.agg #[.int .i64 k, .int .i64 o, .int .i64 s, .int .i64 t, .int .i64 m, .int .i64 f, .int .i64 z, .slice (some ⟨g, 0, none⟩) n n, .slice (some ⟨h, 0, none⟩) q q]) ∧ W.heap.size ≤ g ∧ g < h ∧ OwnI W.heap.size W' (some ⟨g, 0, none⟩) n xs ∧ OwnI W.heap.size W' (some ⟨h, 0, none⟩) q ys ∧ Below W.heap.size W W' ∧ h < W'.heap.size
theorem OwnI.far9 {C : Nat} {w : World} {g n : Nat} {xs : List Int} (h : OwnI C w (some ⟨g, 0, none⟩) n xs) {b : Nat} (hb : g ≠ b) (x0 x1 x2 x3 x4 x5 x6 x7 x8 : Value) : OwnI C (((((((((w.setCell ⟨b, 0, none⟩ x0).setCell ⟨b, 1, none⟩ x1).setCell ⟨b, 2, none⟩ x2).setCell ⟨b, 3, none⟩ x3).setCell ⟨b, 4, none⟩ x4).setCell ⟨b, 5, none⟩ x5).setCell ⟨b, 6, none⟩ x6).setCell ⟨b, 7, none⟩ x7).setCell ⟨b, 8, none⟩ x8) (some ⟨g, 0, none⟩) n xs := (((((((((h.far (p := ⟨b, 0, none⟩) hb x0).far (p := ⟨b, 1, none⟩) hb x1).far (p := ⟨b, 2, none⟩) hb x2).far (p := ⟨b, 3, none⟩) hb x3).far (p := ⟨b, 4, none⟩) hb x4).far (p := ⟨b, 5, none⟩) hb x5).far (p := ⟨b, 6, none⟩) hb x6).far (p := ⟨b, 7, none⟩) hb x7).far (p := ⟨b, 8, none⟩) hb x8)
set_option maxRecDepth 10000 in
theorem toLayerO (k o s t m f z : Int) (A : Option Addr) (n p : Nat) (xs : List Int) (B : Option Addr) (q r : Nat) (ys : List Int) (W : World) (hr : RdI W A n xs) (hr2 : RdI W B q ys) (hn : n ≤ 1048576) (hq : q ≤ 1048576) :
    Calls Try.prog 87 #[.agg #[.int .i64 k, .int .i64 o, .int .i64 s, .int .i64 t, .int .i64 m, .int .i64 f, .int .i64 z, .slice A n p, .slice B q r]] W (NewLO W k o s t m f z n xs q ys) := by
  have HN := Lib.hid hn
  have HR := Lib.hid hr
  have HQ := Lib.hid hq
  have HR2 := Lib.hid hr2
  clear hn hr hq hr2
  go_enter Try.func87, Try.ntmps87
  go_wp2_with fail
  have b1 : Below W.heap.size W (((W.alloc (.cells #[.int .i64 k, .int .i64 o, .int .i64 s, .int .i64 t, .int .i64 m, .int .i64 f, .int .i64 z, .slice A n p, .slice B q r] 120)).alloc (.cells #[.int .i64 0, .int .i64 0, .int .i64 0, .int .i64 0, .int .i64 0, .int .i64 0, .int .i64 0, .slice none 0 0, .slice none 0 0] 104)).alloc (.cells #[.int .i64 k, .int .i64 o, .int .i64 s, .int .i64 t, .int .i64 m, .int .i64 f, .int .i64 z, .slice none 0 0, .slice none 0 0] 104)) := ((Below.refl _ W).alloc (Nat.le_refl _) _).alloc (by simp) _ |>.alloc (by simp only [World.size_alloc]; omega) _
  have k1' : Bk (((W.alloc (.cells #[.int .i64 k, .int .i64 o, .int .i64 s, .int .i64 t, .int .i64 m, .int .i64 f, .int .i64 z, .slice A n p, .slice B q r] 120)).alloc (.cells #[.int .i64 0, .int .i64 0, .int .i64 0, .int .i64 0, .int .i64 0, .int .i64 0, .int .i64 0, .slice none 0 0, .slice none 0 0] 104)).alloc (.cells #[.int .i64 k, .int .i64 o, .int .i64 s, .int .i64 t, .int .i64 m, .int .i64 f, .int .i64 z, .slice none 0 0, .slice none 0 0] 104)) W.heap.size 120 #[.int .i64 k, .int .i64 o, .int .i64 s, .int .i64 t, .int .i64 m, .int .i64 f, .int .i64 z, .slice A n p, .slice B q r] := ((Bk.new W 120 #[.int .i64 k, .int .i64 o, .int .i64 s, .int .i64 t, .int .i64 m, .int .i64 f, .int .i64 z, .slice A n p, .slice B q r]).alloc _).alloc _
  have k2' : Bk (((W.alloc (.cells #[.int .i64 k, .int .i64 o, .int .i64 s, .int .i64 t, .int .i64 m, .int .i64 f, .int .i64 z, .slice A n p, .slice B q r] 120)).alloc (.cells #[.int .i64 0, .int .i64 0, .int .i64 0, .int .i64 0, .int .i64 0, .int .i64 0, .int .i64 0, .slice none 0 0, .slice none 0 0] 104)).alloc (.cells #[.int .i64 k, .int .i64 o, .int .i64 s, .int .i64 t, .int .i64 m, .int .i64 f, .int .i64 z, .slice none 0 0, .slice none 0 0] 104)) (W.heap.size + 1) 104 #[.int .i64 0, .int .i64 0, .int .i64 0, .int .i64 0, .int .i64 0, .int .i64 0, .int .i64 0, .slice none 0 0, .slice none 0 0] := by
    have := (Bk.new (W.alloc (.cells #[.int .i64 k, .int .i64 o, .int .i64 s, .int .i64 t, .int .i64 m, .int .i64 f, .int .i64 z, .slice A n p, .slice B q r] 120)) 104 #[.int .i64 0, .int .i64 0, .int .i64 0, .int .i64 0, .int .i64 0, .int .i64 0, .int .i64 0, .slice none 0 0, .slice none 0 0]).alloc (.cells #[.int .i64 k, .int .i64 o, .int .i64 s, .int .i64 t, .int .i64 m, .int .i64 f, .int .i64 z, .slice none 0 0, .slice none 0 0] 104)
    simpa only [World.size_alloc] using this
  have k3' : Bk (((W.alloc (.cells #[.int .i64 k, .int .i64 o, .int .i64 s, .int .i64 t, .int .i64 m, .int .i64 f, .int .i64 z, .slice A n p, .slice B q r] 120)).alloc (.cells #[.int .i64 0, .int .i64 0, .int .i64 0, .int .i64 0, .int .i64 0, .int .i64 0, .int .i64 0, .slice none 0 0, .slice none 0 0] 104)).alloc (.cells #[.int .i64 k, .int .i64 o, .int .i64 s, .int .i64 t, .int .i64 m, .int .i64 f, .int .i64 z, .slice none 0 0, .slice none 0 0] 104)) (W.heap.size + 1 + 1) 104 #[.int .i64 k, .int .i64 o, .int .i64 s, .int .i64 t, .int .i64 m, .int .i64 f, .int .i64 z, .slice none 0 0, .slice none 0 0] := by
    have := Bk.new ((W.alloc (.cells #[.int .i64 k, .int .i64 o, .int .i64 s, .int .i64 t, .int .i64 m, .int .i64 f, .int .i64 z, .slice A n p, .slice B q r] 120)).alloc (.cells #[.int .i64 0, .int .i64 0, .int .i64 0, .int .i64 0, .int .i64 0, .int .i64 0, .int .i64 0, .slice none 0 0, .slice none 0 0] 104)) 104 #[.int .i64 k, .int .i64 o, .int .i64 s, .int .i64 t, .int .i64 m, .int .i64 f, .int .i64 z, .slice none 0 0, .slice none 0 0]
    simpa only [World.size_alloc] using this
  have G2 := Lib.hid (show W.heap.size ≤ W.heap.size + 1 by omega)
  have G3 := Lib.hid (show W.heap.size ≤ W.heap.size + 1 + 1 by omega)
  have N13 := Lib.hid (show W.heap.size ≠ W.heap.size + 1 + 1 by omega)
  have N23 := Lib.hid (show W.heap.size + 1 ≠ W.heap.size + 1 + 1 by omega)
  generalize (((W.alloc (.cells #[.int .i64 k, .int .i64 o, .int .i64 s, .int .i64 t, .int .i64 m, .int .i64 f, .int .i64 z, .slice A n p, .slice B q r] 120)).alloc (.cells #[.int .i64 0, .int .i64 0, .int .i64 0, .int .i64 0, .int .i64 0, .int .i64 0, .int .i64 0, .slice none 0 0, .slice none 0 0] 104)).alloc (.cells #[.int .i64 k, .int .i64 o, .int .i64 s, .int .i64 t, .int .i64 m, .int .i64 f, .int .i64 z, .slice none 0 0, .slice none 0 0] 104)) = w4 at b1 k1' k2' k3' ⊢
  generalize W.heap.size + 1 + 1 = g3 at b1 k3' G3 N13 N23 ⊢
  generalize W.heap.size + 1 = g2 at b1 k2' G2 N23 ⊢
  refine (toIntS_own A n p xs _ (HR.out.of_below b1) HN.out).mono ?_
  rintro e w5 ⟨g, rfl, hg, hg5, r5', b5⟩
  have r5 := r5'.base (B' := W.heap.size) b1.size
  clear r5'
  have hg3 := k3'.lt
  have hg2 := k2'.lt
  have NG := Lib.hid (show g ≠ g3 ∧ g ≠ g2 by omega)
  have LG := Lib.hid (show W.heap.size ≤ g from Nat.le_trans b1.size hg)
  replace k1' := k1'.below b5
  replace k3' := k3'.below b5
  replace k2' := k2'.below b5
  have B5 := Lib.hid (b1.trans (b5.mono b1.size))
  obtain ⟨c0, c1, c2, c3, c4, c5, c6, c7, c8⟩ := k1'.cell9
  obtain ⟨f0, f1, f2, f3, f4, f5, f6, f7, f8⟩ := k3'.free9
  obtain ⟨d0, d1, d2, d3, d4, d5, d6, d7, d8⟩ := k3'.cell9
  have R5 := Lib.hid r5
  have GL := Lib.hid hg5
  have K1 := Lib.hid k1'
  have K2 := Lib.hid k2'
  have K3 := Lib.hid k3'
  clear k1' k2' k3' hg3 hg2 hg hg5 r5 b5 b1
  have hne : W.heap.size ≠ g3 := N13.out
  go_wp2_with fail
  clear c0 c1 c2 c3 c4 c5 c6 c7 c8 d0 d1 d2 d3 d4 d5 d6 d7 d8 f0 f1 f2 f3 f4 f5 f6 f7 f8 hne
  have k2 := K2.out.far (p := ⟨g3, 7, none⟩) N23.out (.slice (some ⟨g, 0, none⟩) n n)
  have k3 := K3.out.set 7 (.slice (some ⟨g, 0, none⟩) n n)
  simp only [List.setIfInBounds_toArray, List.set_cons_zero, List.set_cons_succ] at k3
  have r6 := R5.out.far (p := ⟨g3, 7, none⟩) NG.out.1 (.slice (some ⟨g, 0, none⟩) n n)
  have b6 := B5.out.setCell (p := ⟨g3, 7, none⟩) G3.out (.slice (some ⟨g, 0, none⟩) n n)
  have gl6 : g < (w5.setCell { block := g3, off := 7 } (.slice (some { block := g, off := 0 }) n n)).heap.size := by rw [World.size_setCell]; exact GL.out
  clear K1 K2 K3 R5 B5 GL
  generalize w5.setCell { block := g3, off := 7 } (.slice (some { block := g, off := 0 }) n n) = w6 at k2 k3 r6 b6 gl6 ⊢
  refine (toIntS_own B q r ys _ (HR2.out.of_below b6) HQ.out).mono ?_
  rintro e w7 ⟨h, rfl, hh, hh7, r7', b7⟩
  have r7 := r7'.base (B' := W.heap.size) b6.size
  clear r7'
  have hg3 := k3.lt
  have hg2 := k2.lt
  have NH := Lib.hid (show h ≠ g3 ∧ h ≠ g2 by omega)
  have LGH := Lib.hid (show g < h by omega)
  have H7 := Lib.hid hh7
  replace k3 := k3.below b7
  replace k2 := k2.below b7
  replace r6 := r6.of_below b7
  have b8 := b6.trans (b7.mono b6.size)
  have K2 := Lib.hid k2
  have R6 := Lib.hid r6
  have R7 := Lib.hid r7
  have B8 := Lib.hid b8
  obtain ⟨d0, d1, d2, d3, d4, d5, d6, d7, d8⟩ := k3.cell9
  obtain ⟨f0, f1, f2, f3, f4, f5, f6, f7, f8⟩ := k3.free9
  obtain ⟨j0, j1, j2, j3, j4, j5, j6, j7, j8⟩ := k2.free9
  obtain ⟨i0, i1, i2, i3, i4, i5, i6, i7, i8⟩ := k2.cell9
  clear k2 k3 r6 b6 hg3 hg2 hh hh7 r7 b7 b8 gl6 HR HN HQ HR2
  have hne : g2 ≠ g3 := N23.out
  go_wp2_with fail
  have k9 := (K2.out.far (p := ⟨g3, 8, none⟩) N23.out (.slice (some ⟨h, 0, none⟩) q q)).set9 (y0 := .int .i64 k) (y1 := .int .i64 o) (y2 := .int .i64 s) (y3 := .int .i64 t) (y4 := .int .i64 m) (y5 := .int .i64 f) (y6 := .int .i64 z) (y7 := .slice (some ⟨g, 0, none⟩) n n) (y8 := .slice (some ⟨h, 0, none⟩) q q)
  have r9 := (R6.out.far (p := ⟨g3, 8, none⟩) NG.out.1 (.slice (some ⟨h, 0, none⟩) q q)).far9 NG.out.2 (.int .i64 k) (.int .i64 o) (.int .i64 s) (.int .i64 t) (.int .i64 m) (.int .i64 f) (.int .i64 z) (.slice (some ⟨g, 0, none⟩) n n) (.slice (some ⟨h, 0, none⟩) q q)
  have s9 := (R7.out.far (p := ⟨g3, 8, none⟩) NH.out.1 (.slice (some ⟨h, 0, none⟩) q q)).far9 NH.out.2 (.int .i64 k) (.int .i64 o) (.int .i64 s) (.int .i64 t) (.int .i64 m) (.int .i64 f) (.int .i64 z) (.slice (some ⟨g, 0, none⟩) n n) (.slice (some ⟨h, 0, none⟩) q q)
  have b9 := below_set9 (B8.out.setCell (p := ⟨g3, 8, none⟩) G3.out (.slice (some ⟨h, 0, none⟩) q q)) G2.out (.int .i64 k) (.int .i64 o) (.int .i64 s) (.int .i64 t) (.int .i64 m) (.int .i64 f) (.int .i64 z) (.slice (some ⟨g, 0, none⟩) n n) (.slice (some ⟨h, 0, none⟩) q q)
  obtain ⟨z0, z1, z2, z3, z4, z5, z6, z7, z8⟩ := k9.cell9
  refine bodyPost_ret (v := .agg #[.int .i64 k, .int .i64 o, .int .i64 s, .int .i64 t, .int .i64 m, .int .i64 f, .int .i64 z, .slice (some ⟨g, 0, none⟩) n n, .slice (some ⟨h, 0, none⟩) q q]) ?_ rfl ⟨g, h, rfl, LG.out, LGH.out, r9, s9, b9, by simp only [World.size_setCell]; exact H7.out⟩
  clear k9 r9 s9 b9 d0 d1 d2 d3 d4 d5 d6 d7 d8 f0 f1 f2 f3 f4 f5 f6 f7 f8 i0 i1 i2 i3 i4 i5 i6 i7 i8 j0 j1 j2 j3 j4 j5 j6 j7 j8
  generalize ((((((((((w7.setCell ⟨g3, 8, none⟩ (.slice (some ⟨h, 0, none⟩) q q)).setCell ⟨g2, 0, none⟩ (.int .i64 k)).setCell ⟨g2, 1, none⟩ (.int .i64 o)).setCell ⟨g2, 2, none⟩ (.int .i64 s)).setCell ⟨g2, 3, none⟩ (.int .i64 t)).setCell ⟨g2, 4, none⟩ (.int .i64 m)).setCell ⟨g2, 5, none⟩ (.int .i64 f)).setCell ⟨g2, 6, none⟩ (.int .i64 z)).setCell ⟨g2, 7, none⟩ (.slice (some ⟨g, 0, none⟩) n n)).setCell ⟨g2, 8, none⟩ (.slice (some ⟨h, 0, none⟩) q q)) = w9 at z0 z1 z2 z3 z4 z5 z6 z7 z8 ⊢
  simp [results, Try.results87, go_sem, z0, z1, z2, z3, z4, z5, z6, z7, z8]
end Qt
end Go.Proofs.Ytbmchpoffceehaa

namespace Go.Proofs.Ytbmchpoffceehaa
open Go.RowKit
namespace Qt
def szR (left : Int) (n : Nat) (ls : List Lay) : Int := if (n : Int) + big ls ≤ left then left - n - big ls else -1
/-- A slice of layers that came in. -/
def RdLT (w : World) (A : Option Addr) (n : Nat) (ls : List Lay) : Prop := RdL w A n ls ∧ (n : Int) ≤ 9223372036854775807 ∧ ∀ l ∈ ls, (l.xs.length : Int) ≤ 9223372036854775807 ∧ (l.ys.length : Int) ≤ 9223372036854775807
set_option maxRecDepth 10000 in
theorem szLayerSL (A : Option Addr) (n p : Nat) (ls : List Lay) (left : Int) (W : World) (hr : RdLT W A n ls) (hl0 : 0 ≤ left) (hl : left ≤ 1048576) :
    Calls Try.prog 53 #[.slice A n p, .int .i64 left] W fun e W' => e = .returned (.int .i64 (szR left n ls)) ∧ Below W.heap.size W W' := by
  obtain ⟨hr, hm, hx⟩ := hr
  have HR := Lib.hid hr
  have HX := Lib.hid hx
  have hn0 : (0 : Int) ≤ n := Int.natCast_nonneg n
  clear hr hx
  by_cases hn : (n : Int) ≤ left
  case neg =>
    have hR : szR left n ls = -1 := if_neg (by omega)
    rw [hR]
    clear hR
    go_enter Try.func53, Try.ntmps53
    go_wp2
    go_ret
    exact ⟨rfl, Below.refl _ _⟩
  obtain ⟨R, hR⟩ : ∃ R, szR left n ls = R := ⟨_, rfl⟩
  rw [hR]
  have HRR := Lib.hid hR
  clear hR hm
  go_enter Try.func53, Try.ntmps53
  go_wp2_with fail
  go_loopw [1, 5] (fun lf i wr => ∃ k : Nat, k ≤ n ∧ i = .int .i64 k ∧ (n : Int) + big (ls.take k) ≤ left ∧ lf = .int .i64 (left - n - big (ls.take k)) ∧ Below W.heap.size W wr) (fun _ i _ => n - (intOf i).toNat)
  case atStart => exact ⟨0, Nat.zero_le _, rfl, by simp [big]; omega, by simp [big], Below.refl _ _⟩
  case round =>
    obtain ⟨k, hk, rfl, hlt, rfl, hb⟩ := hrel
    have HB := Lib.hid hb
    clear hb
    by_cases hkn : k < n
    · obtain ⟨b, off, k', o, s, t, m, f, z, A', n', p', B', q', r', xs, ys, rfl, hbs, hj, hat⟩ := (HR.out.of_below HB.out).at hkn
      have hcc := hat.cells
      simp only at hcc
      obtain ⟨c0, c1, c2, c3, c4, c5, c6, c7, c8⟩ := hcc
      have HJ := Lib.hid hj
      have HAT := Lib.hid hat
      clear hat hj hbs
      have hi : (k : Int) < (n : Int) := by omega
      go_wp2_with fail
      clear c0 c1 c2 c3 c4 c5 c6 c7 c8
      have hxs : n' = xs.length := HAT.out.2.1.1.symm
      have hys : q' = ys.length := HAT.out.2.2.1.symm
      have hbt := big_take HJ.out
      simp only at hbt
      by_cases hfit : (n' : Int) + q' ≤ left - n - big (ls.take k)
      · with_reducible refine (szLayer_yes k' o s t m f z A' n' p' B' q' r' _ _ hfit (by omega)).mono ?_
        rintro e w2 ⟨rfl, b2⟩
        have hb2 := Lib.hid (HB.out.trans (b2.mono HB.out.size))
        have e1 : left - (n : Int) - big (ls.take k) - n' - q' = left - n - big (ls.take (k + 1)) := by omega
        have e2 : (n : Int) + big (ls.take (k + 1)) ≤ left := by omega
        rw [e1]
        have E2 := Lib.hid e2
        have e3 : 0 ≤ left - (n : Int) - big (ls.take (k + 1)) := by omega
        clear hbt hfit b2 HJ HAT e1 hxs hys e2 hlt
        generalize hbt : (big (ls.take (k + 1)) : Int) = bt at e3 E2 ⊢
        have HBT := Lib.hid hbt
        clear hbt
        have hE3 : ¬ left - (n : Int) - bt < 0 := by omega
        have hb0 : 0 ≤ bt := by have := HBT.out; omega
        go_wp2_with fail
        go_roundw
        case rel => exact ⟨k + 1, by omega, by go_num, by rw [HBT.out]; exact E2.out, by rw [HBT.out], hb2.out⟩
        case measure => simp [intOf]; omega
      · have hbg := big_take_le ls (k + 1)
        have hR1 : R = -1 := by rw [← HRR.out]; exact if_neg (by omega)
        have hx1 := HX.out _ (List.mem_of_getElem? HJ.out)
        simp only at hx1
        with_reducible refine (szLayer_no k' o s t m f z A' n' p' B' q' r' _ _ (by omega) (by omega) (by omega) (by omega) (by omega)).mono ?_
        rintro e w2 ⟨rfl, b2⟩
        have hb2 := Lib.hid (HB.out.trans (b2.mono HB.out.size))
        clear hbt hfit b2 HJ HAT hxs hys hlt hbg hx1
        have HR1 := Lib.hid hR1
        clear hR1
        go_wp2_with fail
        go_ret
        exact ⟨congrArg (fun x => Ending.returned (.int .i64 x)) HR1.out.symm, hb2.out⟩
    · obtain rfl : k = n := by omega
      have e0 : ls.take k = ls := List.take_of_length_le (by rw [HR.out.1]; exact Nat.le_refl _)
      have e1 : R = left - k - big (ls.take k) := by rw [← HRR.out, e0]; rw [e0] at hlt; exact if_pos hlt
      rw [← e1]
      clear e0 e1 hlt
      go_wp2_with fail
      go_ret
      exact ⟨rfl, HB.out⟩
theorem szModel_yes (h w c : Int) (A : Option Addr) (n p : Nat) (ls : List Lay) (left : Int) (W : World) (hr : RdLT W A n ls) (hl0 : 0 ≤ left) (hl : left ≤ 1048576) (hn : (n : Int) + big ls ≤ left) :
    Calls Try.prog 26 #[.agg #[.int .i64 h, .int .i64 w, .int .i64 c, .slice A n p], .int .i64 left] W fun e W' => e = .returned (.int .i64 (left - n - big ls)) ∧ Below W.heap.size W W' := by
  have b0 := (Below.refl _ W).alloc (Nat.le_refl _) (.cells #[.int .i64 h, .int .i64 w, .int .i64 c, .slice A n p] 26)
  have HC := Lib.hid (szLayerSL A n p ls left _ ⟨hr.1.of_below b0, hr.2⟩ hl0 hl)
  have HB := Lib.hid b0
  have hR : szR left n ls = left - n - big ls := if_pos hn
  rw [hR] at HC
  clear hR b0 hr
  obtain ⟨R, hR⟩ : ∃ R : Int, left - n - big ls = R := ⟨_, rfl⟩
  have hR0 : 0 ≤ R := by omega
  rw [hR] at HC ⊢
  clear hR hn
  go_enter Try.func26, Try.ntmps26
  go_wp2_with fail
  refine HC.out.mono ?_
  rintro e w1 ⟨rfl, b1⟩
  have B1 := Lib.hid (HB.out.trans (b1.mono HB.out.size))
  clear b1
  go_wp2_with fail
  go_ret
  exact ⟨rfl, B1.out⟩
theorem szModel_no (h w c : Int) (A : Option Addr) (n p : Nat) (ls : List Lay) (left : Int) (W : World) (hr : RdLT W A n ls) (hl0 : 0 ≤ left) (hl : left ≤ 1048576) (hn : left < (n : Int) + big ls) :
    Calls Try.prog 26 #[.agg #[.int .i64 h, .int .i64 w, .int .i64 c, .slice A n p], .int .i64 left] W fun e W' => e = .returned (.int .i64 (-1)) ∧ Below W.heap.size W W' := by
  have b0 := (Below.refl _ W).alloc (Nat.le_refl _) (.cells #[.int .i64 h, .int .i64 w, .int .i64 c, .slice A n p] 26)
  have HC := Lib.hid (szLayerSL A n p ls left _ ⟨hr.1.of_below b0, hr.2⟩ hl0 hl)
  have HB := Lib.hid b0
  have hR : szR left n ls = -1 := if_neg (by omega)
  rw [hR] at HC
  clear hR b0 hr hn
  go_enter Try.func26, Try.ntmps26
  go_wp2_with fail
  refine HC.out.mono ?_
  rintro e w1 ⟨rfl, b1⟩
  have B1 := Lib.hid (HB.out.trans (b1.mono HB.out.size))
  clear b1
  go_wp2_with fail
  go_ret
  exact ⟨rfl, B1.out⟩
end Qt
end Go.Proofs.Ytbmchpoffceehaa

namespace Go.Proofs.Ytbmchpoffceehaa
open Go.RowKit Go.Sort
namespace Qt
set_option maxRecDepth 10000 in
theorem eqLayerS_same (A A2 : Option Addr) (n p p2 : Nat) (ls : List Lay) (W : World) (hr : RdL W A n ls) (hr2 : RdL W A2 n ls) (hn : n + big ls ≤ 1048576) :
    Calls Try.prog 58 #[.slice A n p, .slice A2 n p2] W fun e W' => e = .returned (.bool true) ∧ Below W.heap.size W W' := by
  have HR := Lib.hid hr
  have HR2 := Lib.hid hr2
  have HN := Lib.hid hn
  have hn1 : (n : Int) ≤ 1048576 := by omega
  clear hr hr2 hn
  go_enter Try.func58, Try.ntmps58
  go_wp2_with fail
  go_loopw [5] (fun i wr => ∃ k : Nat, k ≤ n ∧ i = .int .i64 k ∧ Below W.heap.size W wr) (fun i _ => n - (intOf i).toNat)
  case atStart => exact ⟨0, Nat.zero_le _, rfl, Below.refl _ _⟩
  case round =>
    obtain ⟨k, hk, rfl, hb⟩ := hrel
    have HB := Lib.hid hb
    clear hb
    by_cases hlt : k < n
    · obtain ⟨b, off, k', o, s, t, m, f, z, A', n', p', B', q', r', xs, ys, rfl, hbs, hj, hat⟩ := (HR.out.of_below HB.out).at hlt
      obtain ⟨b2, off2, rfl, hbs2, hc2⟩ := (HR2.out.of_below HB.out).2 (by omega)
      obtain ⟨⟨A3, n3, p3, B3, q3, r3⟩, hat2⟩ := hc2 k _ hj
      obtain ⟨c0, c1, c2, c3, c4, c5, c6, c7, c8⟩ := hat.cells9
      obtain ⟨d0, d1, d2, d3, d4, d5, d6, d7, d8⟩ := hat2.cells9
      have hbig := big_at9 hj
      have hle := hat.lens
      have hle2 := hat2.lens
      have hn2 : n' ≤ 1048576 := by have := HN.out; omega
      have hq2 : q' ≤ 1048576 := by have := HN.out; omega
      obtain rfl : n3 = n' := by omega
      obtain rfl : q3 = q' := by omega
      have R1 := Lib.hid hat.rds.1
      have R2 := Lib.hid hat.rds.2
      have R3 := Lib.hid hat2.rds.1
      have R4 := Lib.hid hat2.rds.2
      have HN2 := Lib.hid hn2
      have HQ2 := Lib.hid hq2
      clear hat hat2 hj hbs hbs2 hc2 hbig hn2 hq2 hle hle2
      have hi : (k : Int) < (n : Int) := by omega
      go_wp2_with fail
      replace c0 := cell_regrown c0
      replace c1 := cell_regrown c1
      replace c2 := cell_regrown c2
      replace c3 := cell_regrown c3
      replace c4 := cell_regrown c4
      replace c5 := cell_regrown c5
      replace c6 := cell_regrown c6
      replace c7 := cell_regrown c7
      replace c8 := cell_regrown c8
      replace d0 := cell_regrown d0
      replace d1 := cell_regrown d1
      replace d2 := cell_regrown d2
      replace d3 := cell_regrown d3
      replace d4 := cell_regrown d4
      replace d5 := cell_regrown d5
      replace d6 := cell_regrown d6
      replace d7 := cell_regrown d7
      replace d8 := cell_regrown d8
      have q0 := Lib.hid (fun dd os => Calls.regrown_of (eqLayer_same k' o s t m f z A' n3 p' B' q3 r' A3 p3 B3 r3 xs ys (grow (redrawn wr dd) os) (R1.out.of_below (below_regrown wr dd os)) (R2.out.of_below (below_regrown wr dd os)) (R3.out.of_below (below_regrown wr dd os)) (R4.out.of_below (below_regrown wr dd os)) HN2.out HQ2.out))
      refine wp_region_quiet_below mixed (by kernel_rfl) ?_
      repeat (go_big_quiet_step (first | with_reducible exact q0.out _ _))
      refine wpQuiet_nil ?_
      intro _ hw'
      obtain ⟨⟨dq, osq⟩, rfl⟩ := hw'
      have HB2 := Lib.hid (HB.out.trans ((below_regrown wr dq osq).mono HB.out.size))
      clear c0 c1 c2 c3 c4 c5 c6 c7 c8 d0 d1 d2 d3 d4 d5 d6 d7 d8 q0
      generalize grow (redrawn wr dq) osq = u9 at HB2 ⊢
      go_wp2_with fail
      go_roundw
      case rel => exact ⟨k + 1, by omega, by go_num, HB2.out⟩
      case measure => simp [intOf]; omega
    · obtain rfl : k = n := by omega
      go_wp2_with fail
      go_ret
      exact ⟨rfl, HB.out⟩
theorem eqModel_same (h w c : Int) (A A2 : Option Addr) (n p p2 : Nat) (ls : List Lay) (W : World) (hr : RdL W A n ls) (hr2 : RdL W A2 n ls) (hn : n + big ls ≤ 1048576) :
    Calls Try.prog 30 #[.agg #[.int .i64 h, .int .i64 w, .int .i64 c, .slice A n p], .agg #[.int .i64 h, .int .i64 w, .int .i64 c, .slice A2 n p2]] W fun e W' => e = .returned (.bool true) ∧ Below W.heap.size W W' := by
  have HN := Lib.hid hn
  have HR := Lib.hid hr
  have HR2 := Lib.hid hr2
  clear hn hr hr2
  go_enter Try.func30, Try.ntmps30
  go_wp2_with fail
  refine (eqShape_same h w c _).mono ?_
  rintro e w1 ⟨rfl, b1⟩
  have k0 := ((Bk.new W 37 #[.int .i64 h, .int .i64 w, .int .i64 c, .slice A n p]).alloc _).below b1
  have k1 := (Bk.new (W.alloc (.cells #[.int .i64 h, .int .i64 w, .int .i64 c, .slice A n p] 37)) 37 #[.int .i64 h, .int .i64 w, .int .i64 c, .slice A2 n p2]).below b1
  simp only [World.size_alloc] at k1
  have B1 := Lib.hid (((Below.refl _ W).alloc (Nat.le_refl _) _).alloc (by simp) _ |>.trans (b1.mono (by simp only [World.size_alloc]; omega)))
  obtain ⟨c0, c1, c2, c3⟩ := k0.cell4
  obtain ⟨d0, d1, d2, d3⟩ := k1.cell4
  clear b1 k0 k1
  go_wp2_with fail
  refine (eqLayerS_same A A2 n p p2 ls _ (HR.out.of_below B1.out) (HR2.out.of_below B1.out) HN.out).mono ?_
  rintro e w2 ⟨rfl, hm⟩
  have B2 := Lib.hid (B1.out.trans (hm.mono B1.out.size))
  clear hm B1 HR HR2 HN
  go_wp2_with fail
  go_ret
  exact ⟨rfl, B2.out⟩
end Qt
end Go.Proofs.Ytbmchpoffceehaa

namespace Go.Proofs.Ytbmchpoffceehaa
open Go.RowKit
namespace Qt
def zeroL : Value := .agg #[.int .i64 0, .int .i64 0, .int .i64 0, .int .i64 0, .int .i64 0, .int .i64 0, .int .i64 0, .slice none 0 0, .slice none 0 0]
theorem infoL : (Try.prog.info? 104).map (fun i => (i.zero, i.size, i.bytes)) = some (some zeroL, 9, 104) := by kernel_rfl
theorem ownsRow_bk {w : World} {base g n c : Nat} {t : TypeId} {size : Nat} {xs : List Value} (h : w.ownsRow base t size (.slice (some ⟨g, 0, none⟩) n c) n xs) : ∃ cs, Bk w g t cs ∧ cs.size = c * size := by
  rcases h.2 with ⟨h', _⟩ | ⟨g', cap, cur, hv, _, hg, _, _, hs, _⟩
  · simp at h'
  · injection hv with e1 _ e3
    cases e1; cases e3
    exact ⟨cur, hg, hs⟩
theorem Filled.zero {B : Nat} {w : World} {g n : Nat} {cs : Array Value} {ls : List Lay} (h : Bk w g 104 cs) (hs : cs.size = n * 9) : Filled B w g n 0 ls := ⟨cs, [], h, hs, rfl, fun j l a _ ha => by simp at ha, ⟨fun j a ha => by simp at ha, fun i j a b _ ha => by simp at ha⟩⟩
/-- The cells of the place that is to be filled stand, not frozen. -/
theorem Filled.room {B : Nat} {w : World} {g n k : Nat} {ls : List Lay} (h : Filled B w g n k ls) {c : Nat} (hc : c < n * 9) : ∃ v, w.cell? ⟨g, c, none⟩ = some v := by
  obtain ⟨cs, _, hB, hs, _⟩ := h
  exact ⟨cs[c]'(by omega), hB.cell c (Array.getElem?_eq_getElem (by omega))⟩
theorem Filled.free {B : Nat} {w : World} {g n k : Nat} {ls : List Lay} (h : Filled B w g n k ls) (c : Nat) : w.frozen? ⟨g, c, none⟩ = false := by
  obtain ⟨cs, _, hB, _⟩ := h
  exact hB.frozen c
theorem Filled.lt {B : Nat} {w : World} {g n k : Nat} {ls : List Lay} (h : Filled B w g n k ls) : g < w.heap.size := by
  obtain ⟨cs, _, hB, _⟩ := h
  exact hB.lt
def NewLs (W : World) (n : Nat) (ls : List Lay) (e : Ending) (W' : World) : Prop := ∃ g, e = .returned (.slice (some ⟨g, 0, none⟩) n n) ∧ W.heap.size ≤ g ∧ OwnL W.heap.size W' (some ⟨g, 0, none⟩) n ls ∧ Below W.heap.size W W'
set_option maxRecDepth 10000 in
theorem toLayerSL (A : Option Addr) (n p : Nat) (ls : List Lay) (W : World) (hr : RdL W A n ls) (hn : n + big ls ≤ 1048576) :
    Calls Try.prog 55 #[.slice A n p] W (NewLs W n ls) := by
  obtain ⟨i0, hi, hz0, hz1, hz2⟩ := info_parts infoL
  have HR := Lib.hid hr
  have HN := Lib.hid hn
  have hn1 : (n : Int) ≤ 1048576 := by omega
  clear hr hn
  go_enter Try.func55, Try.ntmps55
  go_wp2_with (at_make; go_loud (refine wpList_make_full _ rfl _ _ 35 rfl W.heap.size 104 i0 zeroL 9 Try.underlying35 hi hz0 hz1 .i64 .i64 _ _ n rfl rfl rfl rfl (by rw [hz2]; omega) (by unfold maxLen; omega) (Nat.le_refl _) ?_); intro w1 hown hg)
  obtain ⟨g, hgd⟩ : ∃ g, g = W.heap.size := ⟨_, rfl⟩
  obtain ⟨cs, hbk, hcs⟩ := ownsRow_bk hown
  rw [← hgd] at hbk ⊢
  have hf0 : Filled g w1 g n 0 ls := Filled.zero hbk hcs
  have hb0 : Below g W w1 := hgd ▸ (Below.refl W.heap.size W).grown hg (Nat.le_refl _) (fun k hk => by cases hk)
  have HG := Lib.hid hgd
  clear hown hg hgd hbk hcs
  go_loopw [4] (fun i wr => ∃ k : Nat, k ≤ n ∧ i = .int .i64 k ∧ Filled g wr g n k ls ∧ Below g W wr) (fun i _ => n - (intOf i).toNat)
  case atStart => exact ⟨0, Nat.zero_le _, rfl, hf0, hb0⟩
  case round =>
    clear hf0 hb0
    obtain ⟨k, hk, rfl, hfl, hb⟩ := hrel
    by_cases hlt : k < n
    · obtain ⟨b, off, k', o, s, t, m, f, z, A', n', p', B', q', r', xs, ys, rfl, hbs, hj, hat⟩ := (HR.out.of_below (HG.out ▸ hb)).at hlt
      obtain ⟨rfl, rfl⟩ := hat.lens
      obtain ⟨c0, c1, c2, c3, c4, c5, c6, c7, c8⟩ := hat.cells9
      have hbig := big_at9 hj
      have hn2 : xs.length ≤ 1048576 := by have := HN.out; omega
      have hq2 : ys.length ≤ 1048576 := by have := HN.out; omega
      have HJ := Lib.hid hj
      have HB := Lib.hid hb
      have HF := Lib.hid hfl
      have R1 := Lib.hid hat.rds.1
      have R2 := Lib.hid hat.rds.2
      have HN2 := Lib.hid hn2
      have HQ2 := Lib.hid hq2
      clear hat hj hbs hbig hn2 hq2 hfl hb
      have hi : (k : Int) < (n : Int) := by omega
      go_wp2_with fail
      clear c0 c1 c2 c3 c4 c5 c6 c7 c8
      with_reducible refine (toLayerO k' o s t m f z A' _ p' xs B' _ r' ys _ R1.out R2.out HN2.out HQ2.out).mono ?_
      rintro e w2 ⟨ga, gb, rfl, hga, hgb, oa, ob, b2, hgs2⟩
      have hfl := HF.out.of_below b2
      have hgl := HF.out.lt
      have hgs := HB.out.size
      have hb2 := HB.out.trans (b2.mono (Nat.le_of_lt hgl))
      obtain ⟨d0, e0⟩ := hfl.room (c := k * 9) (by omega)
      obtain ⟨d1, e1⟩ := hfl.room (c := k * 9 + 1) (by omega)
      obtain ⟨d2, e2⟩ := hfl.room (c := k * 9 + 2) (by omega)
      obtain ⟨d3, e3⟩ := hfl.room (c := k * 9 + 3) (by omega)
      obtain ⟨d4, e4⟩ := hfl.room (c := k * 9 + 4) (by omega)
      obtain ⟨d5, e5⟩ := hfl.room (c := k * 9 + 5) (by omega)
      obtain ⟨d6, e6⟩ := hfl.room (c := k * 9 + 6) (by omega)
      obtain ⟨d7, e7⟩ := hfl.room (c := k * 9 + 7) (by omega)
      obtain ⟨d8, e8⟩ := hfl.room (c := k * 9 + 8) (by omega)
      have f0 := hfl.free (k * 9)
      have f1 := hfl.free (k * 9 + 1)
      have f2 := hfl.free (k * 9 + 2)
      have f3 := hfl.free (k * 9 + 3)
      have f4 := hfl.free (k * 9 + 4)
      have f5 := hfl.free (k * 9 + 5)
      have f6 := hfl.free (k * 9 + 6)
      have f7 := hfl.free (k * 9 + 7)
      have f8 := hfl.free (k * 9 + 8)
      have hnx := Filled.next HF.out b2 hlt HJ.out ga gb hga hgb hgs2 (oa.base (by omega)) (ob.base (by omega))
      have HX := Lib.hid hnx
      have HBX := Lib.hid (below_set9i hb2 (Nat.le_refl g) (k * 9) (.int .i64 k') (.int .i64 o) (.int .i64 s) (.int .i64 t) (.int .i64 m) (.int .i64 f) (.int .i64 z) (.slice (some ⟨ga, 0, none⟩) xs.length xs.length) (.slice (some ⟨gb, 0, none⟩) ys.length ys.length))
      clear hfl hgl hgs hb2 hnx oa ob b2 hga hgb hgs2 HJ HB HF R1 R2 HN2 HQ2
      go_wp2_with fail
      go_roundw
      case rel => exact ⟨k + 1, by omega, by go_num, HX.out, HBX.out⟩
      case measure => simp [intOf]; omega
    · obtain rfl : k = n := by omega
      have HB := Lib.hid hb
      have HF := Lib.hid hfl
      clear hb hfl
      go_wp2_with fail
      go_ret
      exact ⟨g, rfl, Nat.le_of_eq HG.out.symm, ⟨HR.out.1, g, rfl, Nat.le_of_eq HG.out.symm, HG.out ▸ HF.out⟩, HG.out ▸ HB.out⟩
/-- A new model that holds these layers, in blocks of its own. -/
def NewM (W : World) (h w c : Int) (n : Nat) (ls : List Lay) (e : Ending) (W' : World) : Prop :=
  ∃ g, e = .returned (.agg #[.int .i64 h, .int .i64 w, .int .i64 c, .slice (some ⟨g, 0, none⟩) n n]) ∧ W.heap.size ≤ g ∧ OwnL W.heap.size W' (some ⟨g, 0, none⟩) n ls ∧ Below W.heap.size W W'
theorem toModelO (h w c : Int) (A : Option Addr) (n p : Nat) (ls : List Lay) (W : World) (hr : RdL W A n ls) (hn : n + big ls ≤ 1048576) :
    Calls Try.prog 28 #[.agg #[.int .i64 h, .int .i64 w, .int .i64 c, .slice A n p]] W (NewM W h w c n ls) := by
  have HN := Lib.hid hn
  have HR := Lib.hid hr
  clear hn hr
  go_enter Try.func28, Try.ntmps28
  go_wp2_with fail
  refine (toShapeL h w c _).mono ?_
  rintro e w1 ⟨rfl, b1⟩
  have k0 := (((Bk.new W 26 #[.int .i64 h, .int .i64 w, .int .i64 c, .slice A n p]).alloc _).alloc _).below b1
  have k2 := ((Bk.new (W.alloc (.cells #[.int .i64 h, .int .i64 w, .int .i64 c, .slice A n p] 26)) 37 #[.int .i64 0, .int .i64 0, .int .i64 0, .slice none 0 0]).alloc _).below b1
  have k3 := (Bk.new ((W.alloc (.cells #[.int .i64 h, .int .i64 w, .int .i64 c, .slice A n p] 26)).alloc (.cells #[.int .i64 0, .int .i64 0, .int .i64 0, .slice none 0 0] 37)) 37 #[.int .i64 0, .int .i64 0, .int .i64 0, .slice none 0 0]).below b1
  have b0 : Below W.heap.size W w1 := (((Below.refl _ W).alloc (Nat.le_refl _) _).alloc (by simp) _).alloc (by simp only [World.size_alloc]; omega) _ |>.trans (b1.mono (by simp only [World.size_alloc]; omega))
  simp only [World.size_alloc] at k2 k3
  clear b1
  have G2 := Lib.hid (show W.heap.size ≤ W.heap.size + 1 by omega)
  have G3 := Lib.hid (show W.heap.size ≤ W.heap.size + 1 + 1 by omega)
  have N23 := Lib.hid (show W.heap.size + 1 ≠ W.heap.size + 1 + 1 by omega)
  generalize W.heap.size + 1 + 1 = g3 at k3 G3 N23 ⊢
  generalize W.heap.size + 1 = g2 at k2 G2 N23 ⊢
  obtain ⟨c0, c1, c2, c3⟩ := k0.cell4
  obtain ⟨d0, d1, d2, d3⟩ := k3.cell4
  obtain ⟨f0, f1, f2, f3⟩ := k3.free4
  have B1 := Lib.hid b0
  have K2 := Lib.hid k2
  have K3 := Lib.hid k3
  clear k0 k2 k3 b0
  go_wp2_with fail
  have b4 := below_set3 B1.out G3.out (.int .i64 h) (.int .i64 w) (.int .i64 c)
  have k3 := ((K3.out.set 0 (.int .i64 h)).set 1 (.int .i64 w)).set 2 (.int .i64 c)
  have k2 := K2.out.far3 N23.out (.int .i64 h) (.int .i64 w) (.int .i64 c)
  simp only [List.setIfInBounds_toArray, List.set_cons_zero, List.set_cons_succ] at k3
  clear c0 c1 c2 c3 d0 d1 d2 d3 f0 f1 f2 f3 B1 K2 K3
  generalize ((w1.setCell { block := g3, off := 0 } (.int .i64 h)).setCell { block := g3, off := 1 } (.int .i64 w)).setCell { block := g3, off := 2 } (.int .i64 c) = w4 at b4 k3 k2 ⊢
  refine (toLayerSL A n p ls _ (HR.out.of_below b4) HN.out).mono ?_
  rintro e w5 ⟨g, rfl, hg, r5, b5⟩
  have hg3 := k3.lt
  have hg2 := k2.lt
  have NG := Lib.hid (show g ≠ g3 ∧ g ≠ g2 by omega)
  have LG := Lib.hid (show W.heap.size ≤ g from Nat.le_trans b4.size hg)
  have L3 := Lib.hid hg3
  have L2 := Lib.hid hg2
  have LB := Lib.hid b4.size
  replace k3 := k3.below b5
  replace k2 := k2.below b5
  have B5 := Lib.hid (b4.trans (b5.mono b4.size))
  obtain ⟨d0, d1, d2, d3⟩ := k3.cell4
  obtain ⟨f0, f1, f2, f3⟩ := k3.free4
  obtain ⟨i0, i1, i2, i3⟩ := k2.cell4
  obtain ⟨j0, j1, j2, j3⟩ := k2.free4
  have R5 := Lib.hid r5
  have K2 := Lib.hid k2
  clear k2 k3 hg3 hg2 hg r5 b5 b4 HR HN
  have hne : g2 ≠ g3 := N23.out
  go_wp2_with fail
  have k9 := (K2.out.far (p := ⟨g3, 3, none⟩) N23.out (.slice (some ⟨g, 0, none⟩) n n)).set4 (x := .int .i64 h) (y := .int .i64 w) (z := .int .i64 c) (u := .slice (some ⟨g, 0, none⟩) n n)
  have r9 := (((((R5.out.low (p := ⟨g3, 3, none⟩) L3.out (.slice (some ⟨g, 0, none⟩) n n)).low (p := ⟨g2, 0, none⟩) L2.out (.int .i64 h)).low (p := ⟨g2, 1, none⟩) L2.out (.int .i64 w)).low (p := ⟨g2, 2, none⟩) L2.out (.int .i64 c)).low (p := ⟨g2, 3, none⟩) L2.out (.slice (some ⟨g, 0, none⟩) n n)).base LB.out
  have b9 := below_set4 (B5.out.setCell (p := ⟨g3, 3, none⟩) G3.out (.slice (some ⟨g, 0, none⟩) n n)) G2.out (.int .i64 h) (.int .i64 w) (.int .i64 c) (.slice (some ⟨g, 0, none⟩) n n)
  obtain ⟨z0, z1, z2, z3⟩ := k9.cell4
  refine bodyPost_ret (v := .agg #[.int .i64 h, .int .i64 w, .int .i64 c, .slice (some ⟨g, 0, none⟩) n n]) ?_ rfl ⟨g, rfl, LG.out, r9, b9⟩
  clear k9 r9 b9 d0 d1 d2 d3 f0 f1 f2 f3 i0 i1 i2 i3 j0 j1 j2 j3
  generalize ((((w5.setCell { block := g3, off := 3 } (.slice (some { block := g, off := 0 }) n n)).setCell { block := g2, off := 0 } (.int .i64 h)).setCell { block := g2, off := 1 } (.int .i64 w)).setCell { block := g2, off := 2 } (.int .i64 c)).setCell { block := g2, off := 3 } (.slice (some { block := g, off := 0 }) n n) = w9 at z0 z1 z2 z3 ⊢
  simp [results, Try.results28, go_sem, z0, z1, z2, z3]


end Qt
end Go.Proofs.Ytbmchpoffceehaa

namespace Go.Proofs.Ytbmchpoffceehaa
open Go.ChangeShapes Go.WideShapes Go.ChangeAt Go.RowKit Go.Joins Go.Deep
namespace Qt
theorem cellsMo : Try.prog.cellsOf 26 = 4 := by kernel_rfl
theorem cellsLs : Try.prog.cellsOf 24 = 1 := by kernel_rfl
section
variable {H : Type} {enc : TypeId × Value → H} {w : World} {base : Nat} {spare : Nat → Bool} {held : Bool}
set_option maxRecDepth 20000 in
/-- The cells of one layer. -/
theorem trod_layer {fuel : Nat} {cs : List Value} {x : DataW H × List MemPlace} (hf : DataW.trod enc Try.prog w base (fun _ => true) held fuel 120 cs = some x) :
    ∃ (l : Lay) (P : Pos), cs = layC l P ∧ RdY w l P ∧ (l.xs.length : Int) ≤ 9223372036854775807 ∧ (l.ys.length : Int) ≤ 9223372036854775807 := by
  obtain ⟨xs, m, rfl, _, hlen, hxl, hg⟩ := DataW.trod_struct Try.underlying120 hf
  have hxl9 : xs.length = 9 := hxl
  have hlen9 : cs.length = 9 := by rw [cellsLa] at hlen; exact hlen
  match cs, hlen9 with
  | [c0, c1, c2, c3, c4, c5, c6, c7, c8], _ =>
    match xs, hxl9 with
    | [y0, y1, y2, y3, y4, y5, y6, y7, y8], _ =>
      have f0 := hg 0 _ rfl
      have f1 := hg 1 _ rfl
      have f2 := hg 2 _ rfl
      have f3 := hg 3 _ rfl
      have f4 := hg 4 _ rfl
      have f5 := hg 5 _ rfl
      have f6 := hg 6 _ rfl
      have f7 := hg 7 _ rfl
      have f8 := hg 8 _ rfl
      clear hg hf
      simp [cellsI, cellsSl] at f0 f1 f2 f3 f4 f5 f6 f7 f8
      obtain ⟨a0, rfl⟩ := open_intF f0
      obtain ⟨a1, rfl⟩ := open_intF f1
      obtain ⟨a2, rfl⟩ := open_intF f2
      obtain ⟨a3, rfl⟩ := open_intF f3
      obtain ⟨a4, rfl⟩ := open_intF f4
      obtain ⟨a5, rfl⟩ := open_intF f5
      obtain ⟨a6, rfl⟩ := open_intF f6
      obtain ⟨A, n, cap, xs, rfl, r1⟩ := open_sliceF f7
      obtain ⟨B, nb, cb, ys, rfl, r2⟩ := open_sliceF f8
      exact ⟨⟨a0, a1, a2, a3, a4, a5, a6, xs, ys⟩, ⟨A, n, cap, B, nb, cb⟩, rfl, ⟨r1.1, r2.1⟩, by have := r1.1.1; have := r1.2; simp only; omega, by have := r2.1.1; have := r2.2; simp only; omega⟩
theorem exists_list {α : Type} (n : Nat) (R : Nat → α → Prop) (h : ∀ j, j < n → ∃ a, R j a) : ∃ l : List α, l.length = n ∧ ∀ j a, l[j]? = some a → R j a := by
  induction n with
  | zero => exact ⟨[], rfl, fun j a hj => by simp at hj⟩
  | succ n ih =>
    obtain ⟨l, hl, hR⟩ := ih fun j hj => h j (by omega)
    obtain ⟨a, ha⟩ := h n (by omega)
    refine ⟨l ++ [a], by simp [hl], fun j b hj => ?_⟩
    by_cases hlt : j < n
    · rw [List.getElem?_append_left (by omega)] at hj; exact hR j b hj
    · have : j = n := by have := (List.getElem?_eq_some_iff.1 hj).1; simp at this; omega
      subst this
      rw [List.getElem?_append_right (by omega)] at hj
      simp [hl] at hj
      subst hj
      exact ha
set_option maxRecDepth 20000 in
/-- A field that is a slice of layers. -/
theorem open_layersF {n : Nat} {v : Value} {x : DataW H × List MemPlace} (h : DataW.trod enc Try.prog w base (fun _ => true) held n 24 [v] = some x) :
    ∃ (A : Option Addr) (n cap : Nat) (ls : List Lay), v = .slice A n cap ∧ RdLT w A n ls := by
  rcases open_slice Try.underlying24 h with ⟨hcs, _⟩ | ⟨a, len, cap, m, fu, D, Pl, hcs, hb, hl, hm, hmm, _, hi⟩
  · simp at hcs
    subst hcs
    exact ⟨none, 0, 0, [], rfl, ⟨rfl, fun hn => absurd hn (by omega)⟩, by omega, fun l hl => by cases hl⟩
  · simp at hcs
    subst hcs
    have hml : m = cap := by simpa using hmm
    subst hml
    rw [cellsLa] at hi
    have hM : (len : Int) ≤ 9223372036854775807 := by unfold maxLen at hm; omega
    obtain ⟨ls, hls, hR⟩ := exists_list len (fun j (l : Lay) => (∃ P, (∀ c, c < 9 → w.cell? (a.add (j * 9 + c)) = (layC l P)[c]?) ∧ RdY w l P) ∧ (l.xs.length : Int) ≤ 9223372036854775807 ∧ (l.ys.length : Int) ≤ 9223372036854775807) (fun j hj => by
      obtain ⟨cs', hc, ht⟩ := hi j (by omega)
      obtain ⟨l, P, rfl, hy, h1, h2⟩ := trod_layer ht
      obtain ⟨_, _, hat⟩ := World.cells?_some hc
      exact ⟨l, ⟨P, fun c hc9 => by rw [← add_add]; exact hat c hc9, hy⟩, h1, h2⟩)
    refine ⟨some a, len, m, ls, rfl, ⟨hls, fun hn => ?_⟩, hM, fun l hl => ?_⟩
    · obtain ⟨b, off, spot⟩ := a
      have h0 : ls[0]? = some (ls[0]'(by omega)) := List.getElem?_eq_getElem _
      obtain ⟨⟨P, hP, _⟩, _⟩ := hR 0 _ h0
      have hc0 : w.cell? ((⟨b, off, spot⟩ : Addr).add (0 * 9 + 0)) = some (.int .i64 (ls[0]'(by omega)).k) := hP 0 (by omega)
      have hspot : spot = none := by simpa [Addr.add] using World.cell?_spot hc0
      subst hspot
      refine ⟨b, off, rfl, World.block_lt_of_cell? w _ (by simpa [Addr.add] using hc0), fun j l hj => ?_⟩
      obtain ⟨⟨P, hP, hy⟩, _⟩ := hR j l hj
      refine ⟨P, fun i v hv => ?_, hy⟩
      have hi9 : i < 9 := by have := (List.getElem?_eq_some_iff.1 hv).1; simpa [layC] using this
      have := hP i hi9
      rw [hv, Go.WideShapes.add_plain] at this
      rw [Nat.add_assoc]
      exact this
    · obtain ⟨j, hj, rfl⟩ := List.getElem_of_mem hl
      exact (hR j _ (List.getElem?_eq_getElem hj)).2
set_option maxRecDepth 20000 in
theorem open_model {r : Reach} {b0 : Nat} {v : Value} {d : DataW H} {p : List MemPlace} (hv : Value.okWide Try.prog w r b0 26 v) (h : DataW.Trod enc Try.prog w base (fun _ => true) held 26 v d p) :
    ∃ (a b c : Int) (A : Option Addr) (n cap : Nat) (ls : List Lay), v = .agg #[.int .i64 a, .int .i64 b, .int .i64 c, .slice A n cap] ∧ RdLT w A n ls := by
  obtain ⟨cs, rfl, hsz⟩ := okWide_struct Try.underlying26 hv
  obtain ⟨fuel, hf⟩ := h
  obtain ⟨xs, m, rfl, _, hlen, hxl, hg⟩ := DataW.trod_struct Try.underlying26 hf
  have hxl2 : xs.length = 2 := hxl
  have hlen4 : cs.toList.length = 4 := by rw [cellsMo] at hlen; simpa [Value.cells] using hlen
  obtain ⟨l⟩ := cs
  match l, hlen4 with
  | [c0, c1, c2, c3], _ =>
    match xs, hxl2 with
    | [y0, y1], _ =>
      have f0 := hg 0 _ rfl
      have f1 := hg 1 _ rfl
      simp [cellsSh, cellsLs, Value.cells] at f0 f1
      obtain ⟨a, b, c, e⟩ := trod_shape f0
      simp at e
      obtain ⟨rfl, rfl, rfl⟩ := e
      obtain ⟨A, n, cap, ls, rfl, hr⟩ := open_layersF f1
      exact ⟨a, b, c, A, n, cap, ls, rfl, hr⟩
end
end Qt
end Go.Proofs.Ytbmchpoffceehaa

namespace Go.Proofs.Ytbmchpoffceehaa
open Go.RowKit Go.Sort
set_option linter.unusedSimpArgs false
set_option linter.unusedVariables false
namespace Qt
/-- Nothing but blocks from B on, below C, has been written; blocks may have been laid. -/
structure Touch (B C : Nat) (w w' : World) : Prop where
  os : w'.os = w.os
  tape : w'.tape = w.tape
  output : w'.output = w.output
  size : w.heap.size ≤ w'.heap.size
  block : ∀ k, k < w.heap.size → (k < B ∨ C ≤ k) → w'.heap[k]? = w.heap[k]?
section
variable {B C : Nat} {w w' w'' : World}
theorem Touch.refl (B C : Nat) (w : World) : Touch B C w w := ⟨rfl, rfl, rfl, Nat.le_refl _, fun _ _ _ => rfl⟩
theorem Touch.trans (h : Touch B C w w') (k : Touch B C w' w'') : Touch B C w w'' := ⟨k.os.trans h.os, k.tape.trans h.tape, k.output.trans h.output, Nat.le_trans h.size k.size, fun i hi hc => (k.block i (Nat.lt_of_lt_of_le hi h.size) hc).trans (h.block i hi hc)⟩
theorem Touch.setCell {g i : Nat} (h : Touch B C w w') (hB : B ≤ g) (hC : g < C) (u : Value) : Touch B C w (w'.setCell ⟨g, i, none⟩ u) := h.trans ⟨rfl, rfl, rfl, by simp, fun k _ hc => Below.heap_setCell _ ⟨g, i, none⟩ u k (by simp only; omega)⟩
theorem Touch.grown {g : Nat} (h : Touch B C w w') (hg : w'.grownBy w'' (some g)) (hB : B ≤ g) (hC : g < C) : Touch B C w w'' := h.trans ⟨hg.os, hg.tape, hg.output, hg.size, fun k hk hc => hg.block k hk (fun e => by cases e; omega)⟩
theorem Touch.below (h : Touch B C w w') (hb : Below w'.heap.size w' w'') : Touch B C w w'' := h.trans ⟨hb.os, hb.tape, hb.output, hb.size, fun k hk _ => hb.block k hk⟩
theorem Touch.below0 (hb : Below w.heap.size w w') (h : Touch B C w' w'') : Touch B C w w'' := (Touch.refl B C w).below hb |>.trans h
theorem Touch.isBelow (h : Touch B C w w') (hB : B ≤ w.heap.size) : Below B w w' := ⟨h.os, h.tape, h.output, h.size, fun k hk => h.block k (by omega) (.inl hk)⟩
theorem Touch.bk {g : Nat} {t : TypeId} {cs : Array Value} (h : Touch B C w w') (hb : Bk w g t cs) (hg : g < B ∨ C ≤ g) : Bk w' g t cs := (h.block g hb.lt hg).trans hb
theorem Touch.ownsRow {base n size : Nat} {e : TypeId} {V : Value} {xs : List Value} (h : Touch B C w w') (ho : w.ownsRow base e size V n xs) (hg : ∀ g, V.ownBlock = some g → g < B ∨ C ≤ g) : w'.ownsRow base e size V n xs := by
  refine ⟨ho.1, ?_⟩
  rcases ho.2 with hn | ⟨g, cap, cur, rfl, hB, hgg, rest⟩
  · exact .inl hn
  · exact .inr ⟨g, cap, cur, rfl, hB, (h.block g (Array.getElem?_eq_some_iff.1 hgg).1 (hg g rfl)).trans hgg, rest⟩
theorem Touch.ownI {base n : Nat} {A : Option Addr} {xs : List Int} (h : Touch B C w w') (ho : OwnI base w A n xs) (hg : ∀ a, 0 < n → A = some a → a.block < B ∨ C ≤ a.block) : OwnI base w' A n xs := ⟨ho.1, fun hn => by
  obtain ⟨g, e, hB, hl, hc⟩ := ho.2 hn
  have hb := h.block g hl (hg _ hn e)
  exact ⟨g, e, hB, Nat.lt_of_lt_of_le hl h.size, fun j hj => ⟨(World.cell?_of_block hb).trans (hc j hj).1, by rw [← (hc j hj).2]; simp [World.frozen?, hb]⟩⟩⟩
end
end Qt
end Go.Proofs.Ytbmchpoffceehaa

namespace Go.Proofs.Ytbmchpoffceehaa
open Go.RowKit Go.Sort
set_option linter.unusedSimpArgs false
set_option linter.unusedVariables false
namespace Qt
/-- A model of the call's own while its numbers are being written over. -/
structure Mk (B g n : Nat) (ls : List Lay) (az : List (Nat × Nat)) (w : World) : Prop where
  row : ∃ cs, Bk w g 104 cs ∧ cs.size = n * 9 ∧ ∀ (j : Nat) (l : Lay) (a : Nat × Nat), ls[j]? = some l → az[j]? = some a → cs[j * 9 + 7]? = some (.slice (some ⟨a.1, 0, none⟩) l.xs.length l.xs.length) ∧ cs[j * 9 + 8]? = some (.slice (some ⟨a.2, 0, none⟩) l.ys.length l.ys.length)
  own : ∀ (j : Nat) (l : Lay) (a : Nat × Nat), ls[j]? = some l → az[j]? = some a → (∃ xs, OwnI B w (some ⟨a.1, 0, none⟩) l.xs.length xs) ∧ (∃ ys, OwnI B w (some ⟨a.2, 0, none⟩) l.ys.length ys)
  up : Rising w g az
section
variable {B g n : Nat} {ls : List Lay} {az : List (Nat × Nat)} {w w' : World}
theorem Mk.start {v : World} (h : OwnL B v (some ⟨g, 0, none⟩) n ls) (hb : Below v.heap.size v w) : ∃ az, az.length = n ∧ B ≤ g ∧ g < v.heap.size ∧ Rising v g az ∧ Mk B g n ls az w := by
  obtain ⟨h1, g', e, hB, cs, az, hk, hs, hla, hr, hi⟩ := h
  cases e
  refine ⟨az, hla, hB, hk.lt, hi, ⟨cs, hk.below hb, hs, fun j l a hj ha => ?_⟩, fun j l a hj ha => ?_, hi.size hb.size⟩
  · obtain ⟨c, _⟩ := hr j l a hj ha
    exact ⟨c 7 _ rfl, c 8 _ rfl⟩
  · obtain ⟨_, o1, o2, _⟩ := hr j l a hj ha
    exact ⟨⟨_, o1.of_below hb⟩, ⟨_, o2.of_below hb⟩⟩
theorem Mk.set (h : Mk B g n ls az w) (c : Nat) (x : Int) (hc : c % 9 < 7) : Mk B g n ls az (w.setCell ⟨g, c, none⟩ (.int .i64 x)) := by
  obtain ⟨cs, hk, hs, hr⟩ := h.row
  refine ⟨⟨_, hk.set c _, by rw [Array.size_setIfInBounds]; exact hs, fun j l a hj ha => ?_⟩, fun j l a hj ha => ?_, h.up.size (by rw [World.size_setCell]; exact Nat.le_refl _)⟩
  · obtain ⟨q1, q2⟩ := hr j l a hj ha
    rw [Array.getElem?_setIfInBounds, if_neg (by omega), Array.getElem?_setIfInBounds, if_neg (by omega)]
    exact ⟨q1, q2⟩
  · obtain ⟨⟨xs, o1⟩, ⟨ys, o2⟩⟩ := h.own j l a hj ha
    have hup := h.up.each j a ha
    exact ⟨⟨xs, o1.apart (p := ⟨g, c, none⟩) (fun a' e => by cases e; simp only; omega) _⟩, ⟨ys, o2.apart (p := ⟨g, c, none⟩) (fun a' e => by cases e; simp only; omega) _⟩⟩
/-- Where one of the slices has been written over. -/
theorem Mk.grown {x : Nat} (h : Mk B g n ls az w) (hg : w.grownBy w' (some x)) (hx : x ≠ g) (hn : ∀ (j : Nat) (l : Lay) (a : Nat × Nat), ls[j]? = some l → az[j]? = some a → (a.1 = x → ∃ xs, OwnI B w' (some ⟨a.1, 0, none⟩) l.xs.length xs) ∧ (a.2 = x → ∃ ys, OwnI B w' (some ⟨a.2, 0, none⟩) l.ys.length ys)) : Mk B g n ls az w' := by
  obtain ⟨cs, hk, hs, hr⟩ := h.row
  refine ⟨⟨cs, hk.grown hg (fun e => by cases e; exact hx rfl), hs, hr⟩, fun j l a hj ha => ?_, h.up.size hg.size⟩
  obtain ⟨⟨xs, o1⟩, ⟨ys, o2⟩⟩ := h.own j l a hj ha
  obtain ⟨n1, n2⟩ := hn j l a hj ha
  refine ⟨?_, ?_⟩
  · by_cases e : a.1 = x
    · exact n1 e
    · exact ⟨xs, o1.grown hg (fun q _ hq => by cases hq; exact e)⟩
  · by_cases e : a.2 = x
    · exact n2 e
    · exact ⟨ys, o2.grown hg (fun q _ hq => by cases hq; exact e)⟩
theorem Rising.ne {az : List (Nat × Nat)} (h : Rising w g az) {i j : Nat} {a b : Nat × Nat} (hi : az[i]? = some a) (hj : az[j]? = some b) : (a.1 = b.1 → i = j) ∧ a.1 ≠ b.2 ∧ (a.2 = b.2 → i = j) := by
  have h1 := h.each i a hi
  have h2 := h.each j b hj
  rcases Nat.lt_trichotomy i j with hlt | rfl | hgt
  · have := h.next i j a b hlt hi hj
    exact ⟨fun e => by omega, by omega, fun e => by omega⟩
  · rw [hi] at hj; cases hj
    exact ⟨fun _ => rfl, by omega, fun _ => rfl⟩
  · have := h.next j i b a hgt hj hi
    exact ⟨fun e => by omega, by omega, fun e => by omega⟩
theorem Mk.markedA {k : Int} {j : Nat} {l : Lay} {a : Nat × Nat} (h : Mk B g n ls az w) (hj : ls[j]? = some l) (ha : az[j]? = some a) (hm : OwnI B w' (some ⟨a.1, 0, none⟩) l.xs.length (upFrom k l.xs.length)) (hg : w.grownBy w' (some a.1)) : Mk B g n ls az w' :=
  h.grown hg (by have := h.up.each j a ha; omega) fun j' l' a' hj' ha' => by
    obtain ⟨r1, r2, r3⟩ := h.up.ne ha' ha
    obtain ⟨_, s2, _⟩ := h.up.ne ha ha'
    refine ⟨fun e => ?_, fun e => absurd e.symm s2⟩
    obtain rfl := r1 e
    rw [hj] at hj'; cases hj'
    rw [ha] at ha'; cases ha'
    exact ⟨_, hm⟩
theorem Mk.markedB {k : Int} {j : Nat} {l : Lay} {a : Nat × Nat} (h : Mk B g n ls az w) (hj : ls[j]? = some l) (ha : az[j]? = some a) (hm : OwnI B w' (some ⟨a.2, 0, none⟩) l.ys.length (upFrom k l.ys.length)) (hg : w.grownBy w' (some a.2)) : Mk B g n ls az w' :=
  h.grown hg (by have := h.up.each j a ha; omega) fun j' l' a' hj' ha' => by
    obtain ⟨r1, r2, r3⟩ := h.up.ne ha' ha
    refine ⟨fun e => absurd e r2, fun e => ?_⟩
    obtain rfl := r3 e
    rw [hj] at hj'; cases hj'
    rw [ha] at ha'; cases ha'
    exact ⟨_, hm⟩
end
theorem markIntS_big (A : Option Addr) (n p B g : Nat) (xs : List Int) (k : Int) (W : World) (hr : OwnI B W A n xs) (hA : 0 < n → A = some ⟨g, 0, none⟩) (hn : n ≤ 1048576) (hk : 0 ≤ k) (hk2 : k ≤ 100000000) :
    Calls Try.prog 20 #[.slice A n p, .int .i64 k] W (Marked W B A n k g) := by
  have hn1 : (n : Int) ≤ 1048576 := by omega
  have HL := Lib.hid hr.1
  have HA := Lib.hid hA
  have h0 := hr
  clear hr hA
  go_enter Try.func20, Try.ntmps20
  go_wp2
  go_loopw [1, 5] (fun q x wr => ∃ i : Nat, i ≤ n ∧ x = .int .i64 i ∧ q = .int .i64 (k + (i : Nat)) ∧ OwnI B wr A n (part k xs i) ∧ W.grownBy wr (some g)) (fun _ x _ => n - (intOf x).toNat)
  case atStart => exact ⟨0, Nat.zero_le _, rfl, by simp, by rw [part_zero]; exact h0, grown_refl _ _⟩
  case round =>
    clear h0
    obtain ⟨i, hi, rfl, rfl, ho, hg⟩ := hrel
    by_cases hlt : i < n
    · have hAg := HA.out (by omega)
      subst hAg
      have hc : wr.cell? ⟨g, i, none⟩ = some (.int .i64 ((part k xs i).getD i 0)) ∧ wr.frozen? ⟨g, i, none⟩ = false := by
        obtain ⟨g', e, _, _, hcc⟩ := ho.2 (by omega)
        cases e
        exact hcc i hlt
      obtain ⟨hc1, hf1⟩ := hc
      have hi2 : (i : Int) < (n : Int) := by omega
      have HO := Lib.hid (ho.set hlt (k + (i : Nat)))
      have HG := Lib.hid (grown_step hg (grown_set wr g i (.int .i64 (k + (i : Nat)))))
      clear ho hg
      go_wp2
      go_roundw
      case rel => exact ⟨i + 1, by omega, by go_num, by go_num, by rw [← part_set k xs i (by have := HL.out; omega)]; exact HO.out, HG.out⟩
      case measure => simp [intOf]; omega
    · obtain rfl : i = n := by omega
      rw [part_all k xs i HL.out] at ho
      have HO := Lib.hid ho
      have HG := Lib.hid hg
      clear ho hg
      go_wp2
      go_ret
      exact ⟨rfl, HO.out, HG.out⟩

set_option maxRecDepth 100000 in
set_option maxHeartbeats 2000000 in
theorem markLayerSL (g n p B : Nat) (ls : List Lay) (v W : World) (k : Int) (h : OwnL B v (some ⟨g, 0, none⟩) n ls) (hb : Below v.heap.size v W) (hn : n + big ls ≤ 1048576) (hk0 : 0 ≤ k) (hk1 : k ≤ 10000000) :
    Calls Try.prog 72 #[.slice (some ⟨g, 0, none⟩) n p, .int .i64 k] W fun e W' => e = .returned (.int .i64 (k + 7 * n + big ls)) ∧ Touch B v.heap.size W W' := by
  obtain ⟨az, hla, hB, hgv, hup, hm⟩ := Mk.start h hb
  have HLL := Lib.hid h.1
  have HN := Lib.hid hn
  have hn1 : (n : Int) ≤ 1048576 := by omega
  have HM := Lib.hid hm
  have HUP := Lib.hid hup
  have HLA := Lib.hid hla
  have HBG := Lib.hid (And.intro hB hgv)
  clear h hb hn hm hup hla hB hgv
  go_enter Try.func72, Try.ntmps72
  go_wp2_with fail
  go_loopw [1, 5] (fun q i wr => ∃ j : Nat, j ≤ n ∧ i = .int .i64 j ∧ q = .int .i64 (k + 7 * j + big (ls.take j)) ∧ Hid (Mk B g n ls az wr) ∧ Hid (Touch B v.heap.size W wr)) (fun _ i _ => n - (intOf i).toNat)
  case atStart => exact ⟨0, Nat.zero_le _, rfl, by simp [big], HM, Lib.hid (Touch.refl _ _ _)⟩
  case round =>
    clear HM
    obtain ⟨j, hj, rfl, rfl, HM, HT⟩ := hrel
    by_cases hlt : j < n
    · obtain ⟨l, hl⟩ : ∃ l, ls[j]? = some l := ⟨_, List.getElem?_eq_getElem (by rw [HLL.out]; exact hlt)⟩
      obtain ⟨a, ha⟩ : ∃ a, az[j]? = some a := ⟨_, List.getElem?_eq_getElem (by rw [HLA.out]; exact hlt)⟩
      have hbt := big_take hl
      have hble := big_take_le ls (j + 1)
      have hij : (j : Int) < (n : Int) := by omega
      obtain ⟨cs, hbk, hcs, hrow⟩ := HM.out.row
      obtain ⟨c7, c8⟩ := hrow j l a hl ha
      have e7 := hbk.cell (j * 9 + 7) c7
      have e8 := hbk.cell (j * 9 + 8) c8
      have room : ∀ i, i < 7 → ∃ u, wr.cell? ⟨g, j * 9 + i, none⟩ = some u := fun i hi => ⟨_, hbk.cell (j * 9 + i) (Array.getElem?_eq_getElem (by omega))⟩
      obtain ⟨d0, e0⟩ := room 0 (by omega)
      obtain ⟨d1, e1⟩ := room 1 (by omega)
      obtain ⟨d2, e2⟩ := room 2 (by omega)
      obtain ⟨d3, e3⟩ := room 3 (by omega)
      obtain ⟨d4, e4⟩ := room 4 (by omega)
      obtain ⟨d5, e5⟩ := room 5 (by omega)
      obtain ⟨d6, e6⟩ := room 6 (by omega)
      rw [Nat.add_zero] at e0
      have f0 := hbk.frozen (j * 9)
      have f1 := hbk.frozen (j * 9 + 1)
      have f2 := hbk.frozen (j * 9 + 2)
      have f3 := hbk.frozen (j * 9 + 3)
      have f4 := hbk.frozen (j * 9 + 4)
      have f5 := hbk.frozen (j * 9 + 5)
      have f6 := hbk.frozen (j * 9 + 6)
      have HJL := Lib.hid hl
      have HJA := Lib.hid ha
      generalize hK : k + 7 * (j : Int) + big (ls.take j) = K
      have hK0 : 0 ≤ K := by omega
      have hK1 : K ≤ 20000000 := by have := HN.out; omega
      have HKK := Lib.hid hK
      have HBT := Lib.hid hbt
      have HBLE := Lib.hid hble
      clear room hrow hbk c7 c8 hl ha hcs hK hbt hble
      go_upto_region 18 with fail
      have hM2 : Mk B g n ls az (((((((wr.setCell ⟨g, j * 9, none⟩ (.int .i64 (K))).setCell ⟨g, j * 9 + 1, none⟩ (.int .i64 (K + 1))).setCell ⟨g, j * 9 + 2, none⟩ (.int .i64 (K + 1 + 1))).setCell ⟨g, j * 9 + 3, none⟩ (.int .i64 (K + 1 + 1 + 1))).setCell ⟨g, j * 9 + 4, none⟩ (.int .i64 (K + 1 + 1 + 1 + 1))).setCell ⟨g, j * 9 + 5, none⟩ (.int .i64 (K + 1 + 1 + 1 + 1 + 1))).setCell ⟨g, j * 9 + 6, none⟩ (.int .i64 (K + 1 + 1 + 1 + 1 + 1 + 1))) := (((((((HM.out.set (j * 9) (K) (by omega)).set (j * 9 + 1) (K + 1) (by omega)).set (j * 9 + 2) (K + 1 + 1) (by omega)).set (j * 9 + 3) (K + 1 + 1 + 1) (by omega)).set (j * 9 + 4) (K + 1 + 1 + 1 + 1) (by omega)).set (j * 9 + 5) (K + 1 + 1 + 1 + 1 + 1) (by omega)).set (j * 9 + 6) (K + 1 + 1 + 1 + 1 + 1 + 1) (by omega))
      have hT2 : Touch B v.heap.size W (((((((wr.setCell ⟨g, j * 9, none⟩ (.int .i64 (K))).setCell ⟨g, j * 9 + 1, none⟩ (.int .i64 (K + 1))).setCell ⟨g, j * 9 + 2, none⟩ (.int .i64 (K + 1 + 1))).setCell ⟨g, j * 9 + 3, none⟩ (.int .i64 (K + 1 + 1 + 1))).setCell ⟨g, j * 9 + 4, none⟩ (.int .i64 (K + 1 + 1 + 1 + 1))).setCell ⟨g, j * 9 + 5, none⟩ (.int .i64 (K + 1 + 1 + 1 + 1 + 1))).setCell ⟨g, j * 9 + 6, none⟩ (.int .i64 (K + 1 + 1 + 1 + 1 + 1 + 1))) := (((((((HT.out.setCell (i := j * 9) HBG.out.1 HBG.out.2 (.int .i64 (K))).setCell (i := j * 9 + 1) HBG.out.1 HBG.out.2 (.int .i64 (K + 1))).setCell (i := j * 9 + 2) HBG.out.1 HBG.out.2 (.int .i64 (K + 1 + 1))).setCell (i := j * 9 + 3) HBG.out.1 HBG.out.2 (.int .i64 (K + 1 + 1 + 1))).setCell (i := j * 9 + 4) HBG.out.1 HBG.out.2 (.int .i64 (K + 1 + 1 + 1 + 1))).setCell (i := j * 9 + 5) HBG.out.1 HBG.out.2 (.int .i64 (K + 1 + 1 + 1 + 1 + 1))).setCell (i := j * 9 + 6) HBG.out.1 HBG.out.2 (.int .i64 (K + 1 + 1 + 1 + 1 + 1 + 1)))
      clear e0 e1 e2 e3 e4 e5 e6 e7 e8 f0 f1 f2 f3 f4 f5 f6
      generalize (((((((wr.setCell ⟨g, j * 9, none⟩ (.int .i64 (K))).setCell ⟨g, j * 9 + 1, none⟩ (.int .i64 (K + 1))).setCell ⟨g, j * 9 + 2, none⟩ (.int .i64 (K + 1 + 1))).setCell ⟨g, j * 9 + 3, none⟩ (.int .i64 (K + 1 + 1 + 1))).setCell ⟨g, j * 9 + 4, none⟩ (.int .i64 (K + 1 + 1 + 1 + 1))).setCell ⟨g, j * 9 + 5, none⟩ (.int .i64 (K + 1 + 1 + 1 + 1 + 1))).setCell ⟨g, j * 9 + 6, none⟩ (.int .i64 (K + 1 + 1 + 1 + 1 + 1 + 1))) = w2 at hM2 hT2 ⊢
      generalize hK7 : K + 1 + 1 + 1 + 1 + 1 + 1 + 1 = K7
      have hq0 : 0 ≤ K7 := by omega
      have hq1 : K7 ≤ 20000007 := by omega
      have HK7 := Lib.hid hK7
      clear hK7 hK0 hK1
      have HM2 := Lib.hid hM2
      have HT2 := Lib.hid hT2
      clear hM2 hT2 HM HT
      have hlx : l.xs.length ≤ 1048576 := by have := HBT.out; have := HBLE.out; have := HN.out; omega
      have hly : l.ys.length ≤ 1048576 := by have := HBT.out; have := HBLE.out; have := HN.out; omega
      have HLX := Lib.hid hlx
      have HLY := Lib.hid hly
      have hupa := HUP.out.each j a HJA.out
      have HUA : Hid (B ≤ a.1 ∧ a.1 < v.heap.size ∧ B ≤ a.2 ∧ a.2 < v.heap.size) := Lib.hid (by have := HBG.out; omega)
      clear hlx hly hupa
      obtain ⟨cs, hbk, hcs, hrow⟩ := HM2.out.row
      obtain ⟨c7, c8⟩ := hrow j l a HJL.out HJA.out
      have e7 := hbk.cell (j * 9 + 7) c7
      clear hrow hbk c7 c8 hcs
      obtain ⟨⟨xs, hox⟩, _⟩ := HM2.out.own j l a HJL.out HJA.out
      have HOX := Lib.hid hox
      clear hox
      go_wp2_with fail
      with_reducible refine (markIntS_big _ l.xs.length _ B a.1 xs K7 _ HOX.out (fun _ => rfl) HLX.out hq0 (by omega)).mono ?_
      rintro e w3 ⟨rfl, ho3, hg3⟩
      have HM3 := Lib.hid (HM2.out.markedA HJL.out HJA.out ho3 hg3)
      have HT3 := Lib.hid (HT2.out.grown hg3 HUA.out.1 HUA.out.2.1)
      clear ho3 hg3 HM2 HT2 HOX e7
      obtain ⟨cs, hbk, hcs, hrow⟩ := HM3.out.row
      obtain ⟨c7, c8⟩ := hrow j l a HJL.out HJA.out
      have e8 := hbk.cell (j * 9 + 8) c8
      clear hrow hbk c7 c8 hcs
      obtain ⟨_, ⟨ys, hoy⟩⟩ := HM3.out.own j l a HJL.out HJA.out
      have HOY := Lib.hid hoy
      clear hoy
      generalize hK8 : K7 + (l.xs.length : Int) = K8
      have hr0 : 0 ≤ K8 := by omega
      have hr1 : K8 ≤ 30000000 := by have := HLX.out; omega
      have HK8 := Lib.hid hK8
      clear hK8 hq0 hq1
      go_wp2_with fail
      with_reducible refine (markIntS_big _ l.ys.length _ B a.2 ys K8 _ HOY.out (fun _ => rfl) HLY.out hr0 (by omega)).mono ?_
      rintro e w4 ⟨rfl, ho4, hg4⟩
      have HM4 := Lib.hid (HM3.out.markedB HJL.out HJA.out ho4 hg4)
      have HT4 := Lib.hid (HT3.out.grown hg4 HUA.out.2.2.1 HUA.out.2.2.2)
      clear ho4 hg4 HM3 HT3 HOY e8
      have hfin : k + 7 * ((j + 1 : Nat) : Int) + big (ls.take (j + 1)) = K8 + (l.ys.length : Int) := by have := HBT.out; have := HKK.out; have := HK7.out; have := HK8.out; omega
      have HFIN := Lib.hid hfin
      have hs0 : 0 ≤ K8 + (l.ys.length : Int) := by omega
      have hs1 : K8 + (l.ys.length : Int) ≤ 40000000 := by have := HLY.out; omega
      clear hfin hr0 hr1
      go_wp2_with fail
      go_roundw
      case rel => exact ⟨j + 1, by omega, by go_num, by rw [HFIN.out], HM4, HT4⟩
      case measure => simp [intOf]; omega
    · obtain rfl : j = n := by omega
      have htk : ls.take j = ls := List.take_of_length_le (by rw [HLL.out]; exact Nat.le_refl _)
      rw [htk]
      clear htk
      go_wp2_with fail
      go_ret
      exact ⟨rfl, HT.out⟩
theorem markModelL (h w c : Int) (g n p B : Nat) (ls : List Lay) (v W : World) (k : Int) (ho : OwnL B v (some ⟨g, 0, none⟩) n ls) (hb : Below v.heap.size v W) (hn : n + big ls ≤ 1048576) (hk0 : 0 ≤ k) (hk1 : k ≤ 10000000) :
    Calls Try.prog 40 #[.agg #[.int .i64 h, .int .i64 w, .int .i64 c, .slice (some ⟨g, 0, none⟩) n p], .int .i64 k] W fun e W' => e = .returned (.int .i64 (k + 7 * n + big ls)) ∧ Touch B v.heap.size W W' := by
  have b0 := (Below.refl _ W).alloc (Nat.le_refl _) (.cells #[.int .i64 h, .int .i64 w, .int .i64 c, .slice (some ⟨g, 0, none⟩) n p] 37)
  have HC := Lib.hid (markLayerSL g n p B ls v _ k ho (hb.trans (b0.mono hb.size)) hn hk0 hk1)
  have HB := Lib.hid b0
  clear b0 ho hb hn
  go_enter Try.func40, Try.ntmps40
  go_wp2_with fail
  refine HC.out.mono ?_
  rintro e w1 ⟨rfl, ht⟩
  have HT := Lib.hid (Touch.below0 HB.out ht)
  clear ht
  go_wp2_with fail
  go_ret
  exact ⟨rfl, HT.out⟩
end Qt
end Go.Proofs.Ytbmchpoffceehaa
