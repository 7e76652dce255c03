/- What blockOf of the program gives when it is called with a tensor: a block that holds the same numbers, of eight bits each, where the tensor is right; else nothing. Conditions: the slice reads as the list that is named. -/
import Derived.Test.YtebldedmkpdgcaaTenOk
import Derived.StillTailTactics
import Derived.Handy
import Derived.Deep.AppendLies
import Derived.Deep.RegionLaw
namespace Go.Proofs.Ytebldedmkpdgcaa
open Go.RowKit Go.Sort
namespace Qt

/-- The slice at A of n elements, of eight bits each, reads as xs. -/
def RdS (w : World) (A : Option Addr) (n : Nat) (xs : List Int) : Prop :=
  xs.length = n ∧ (0 < n → ∃ b off, A = some ⟨b, off, none⟩ ∧ b < w.heap.size ∧ ∀ j, j < n → w.cell? ⟨b, off + j, none⟩ = some (.int .i8 (xs.getD j 0)))
theorem RdS.of_below {w w' : World} {A : Option Addr} {n : Nat} {xs : List Int} (h : RdS w A n xs) (hb : Below w.heap.size w w') : RdS w' A n xs :=
  ⟨h.1, fun hn => by
    obtain ⟨b, off, e, hlt, hc⟩ := h.2 hn
    exact ⟨b, off, e, Nat.lt_of_lt_of_le hlt hb.size, fun j hj => (hb.cell (p := ⟨b, off + j, none⟩) hlt).trans (hc j hj)⟩⟩
theorem RdS.far {w : World} {b n : Nat} {xs : List Int} (h : RdS w (some ⟨b, 0, none⟩) n xs) {p : Addr} (hp : b ≠ p.block) (u : Value) : RdS (w.setCell p u) (some ⟨b, 0, none⟩) n xs :=
  ⟨h.1, fun hn => by
    obtain ⟨b', off, e, hlt, hc⟩ := h.2 hn
    cases e
    exact ⟨b, 0, rfl, by rw [World.size_setCell]; exact hlt, fun j hj => (World.cell?_setCell_other _ _ _ _ (fun e => hp (by subst e; rfl))).trans (hc j hj)⟩⟩
theorem RdS.far4 {w : World} {g n : Nat} {xs : List Int} (h : RdS w (some ⟨g, 0, none⟩) n xs) {b : Nat} (hb : g ≠ b) (x y z u : Value) : RdS ((((w.setCell ⟨b, 0, none⟩ x).setCell ⟨b, 1, none⟩ y).setCell ⟨b, 2, none⟩ z).setCell ⟨b, 3, none⟩ u) (some ⟨g, 0, none⟩) n xs :=
  (((h.far (p := ⟨b, 0, none⟩) hb x).far (p := ⟨b, 1, none⟩) hb y).far (p := ⟨b, 2, none⟩) hb z).far (p := ⟨b, 3, none⟩) hb u
theorem RdS.of_own {w : World} {base c e n : Nat} {A : Option Addr} {xs : List Int} (h : w.ownsRow base e 1 (.slice A n c) n (xs.map (Value.int .i8))) : RdS w A n xs := by
  refine ⟨by simpa using h.1, fun hn => ?_⟩
  rcases h.2 with ⟨_, h0⟩ | ⟨g, cap, cur, hv, _, hg, _⟩
  · omega
  · injection hv with hA _ hc
    subst hA hc
    refine ⟨g, 0, rfl, (Array.getElem?_eq_some_iff.1 hg).1, fun j hj => ?_⟩
    have := h.cellAt j (by omega)
    have hl : j < xs.length := by have := h.1; simp at this; omega
    rw [Nat.zero_add, this]; simp [List.getD_eq_getElem?_getD, hl]

/-- A new block that holds these numbers. -/
def NewB (W : World) (h w c : Int) (n : Nat) (xs : List Int) (e : Ending) (W' : World) : Prop :=
  ∃ g cap, e = .returned (.tuple #[.agg #[.int .i64 h, .int .i64 w, .int .i64 c, .slice (some ⟨g, 0, none⟩) n cap], .bool true]) ∧ W.heap.size ≤ g ∧ RdS W' (some ⟨g, 0, none⟩) n xs ∧ Below W.heap.size W W'
def NoB (W : World) (e : Ending) (W' : World) : Prop :=
  e = .returned (.tuple #[.agg #[.int .i64 0, .int .i64 0, .int .i64 0, .slice none 0 0], .bool false]) ∧ Below W.heap.size W W'

theorem infoS : (Try.prog.info? 134).map (fun i => (i.zero, i.size, i.bytes)) = some (some (.int .i8 0), 1, 1) := by kernel_rfl

/-- blockOf of a tensor whose shape is wrong. -/
theorem blockOf_no1 (h w c : Int) (A : Option Addr) (n p : Nat) (xs : List Int) (W : World) (hr : RdI W A n xs) (hn : n ≤ 1048576) (hno : shOk h w c = false) :
    Calls Try.prog 102 #[.agg #[.int .i64 h, .int .i64 w, .int .i64 c, .slice A n p]] W (NoB W) := by
  have HS := Lib.hid hno
  clear hno
  have HR := Lib.hid hr
  have HN := Lib.hid hn
  have hz := szOf_bd h w c
  have hn0 : (0 : Int) ≤ n := Int.natCast_nonneg n
  clear hr hn
  go_enter Try.func102, Try.ntmps102
  go_wp2_with fail
  refine (sidesOfI h w c _).mono ?_
  rintro e w1 ⟨rfl, b1⟩
  have hk0 := ((Bk.new W 68 #[.int .i64 h, .int .i64 w, .int .i64 c, .slice A n p]).alloc _).below b1
  have hk2 := (Bk.new (W.alloc (.cells #[.int .i64 h, .int .i64 w, .int .i64 c, .slice A n p] 68)) 129 #[.int .i64 0, .int .i64 0, .int .i64 0, .slice none 0 0]).below b1
  have hb : Below W.heap.size W w1 := ((Below.refl _ W).alloc (Nat.le_refl _) _).alloc (by simp) _ |>.trans (b1.mono (by simp only [World.size_alloc]; omega))
  simp only [World.size_alloc] at hk2
  clear b1
  have G2 := Lib.hid (show W.heap.size ≤ W.heap.size + 1 by omega)
  generalize W.heap.size + 1 = g2 at hk2 G2 ⊢
  have B1 := Lib.hid hb
  have K0 := Lib.hid hk0
  have K2 := Lib.hid hk2
  obtain ⟨c0, c1, c2, c3⟩ := hk0.cell4
  clear hk0 hk2 hb
  go_wp2_with fail
  have hk0 := K0.out.alloc (.cells #[.int .i64 h, .int .i64 w, .int .i64 c, .slice none 0 0] 129)
  have hk2 := K2.out.alloc (.cells #[.int .i64 h, .int .i64 w, .int .i64 c, .slice none 0 0] 129)
  have hk4 := Bk.new w1 129 #[.int .i64 h, .int .i64 w, .int .i64 c, .slice none 0 0]
  have B3 := Lib.hid (B1.out.alloc B1.out.size (.cells #[.int .i64 h, .int .i64 w, .int .i64 c, .slice none 0 0] 129))
  have G4 := Lib.hid B1.out.size
  have N24 := Lib.hid (show g2 ≠ w1.heap.size from Nat.ne_of_lt K2.out.lt)
  clear c0 c1 c2 c3 K0 K2 B1
  generalize w1.alloc (.cells #[.int .i64 h, .int .i64 w, .int .i64 c, .slice none 0 0] 129) = v at hk0 hk2 hk4 B3 ⊢
  generalize w1.heap.size = g4 at hk4 G4 N24 ⊢
  have q0 := Lib.hid (fun d os => Calls.regrown_of (sidesOkI h w c _ HS.out (grow (redrawn v d) os)))
  have q1 := Lib.hid (fun d os => Calls.regrown_of (sizeI h w c (grow (redrawn v d) os)))
  have k0 := cell_regrown (hk0.cell 3 rfl)
  have d0 := cell_regrown (hk4.cell 0 rfl)
  have d1 := cell_regrown (hk4.cell 1 rfl)
  have d2 := cell_regrown (hk4.cell 2 rfl)
  have K0 := Lib.hid hk0
  have K2 := Lib.hid hk2
  have K4 := Lib.hid hk4
  clear hk0 hk2 hk4
  refine wp_region_quiet_below mixed (by kernel_rfl) ?_
  repeat (go_big_quiet_step (first | exact q0.out _ _ | exact q1.out _ _))
  refine wpQuiet_nil ?_
  intro _ hw'
  obtain ⟨⟨dq, osq⟩, rfl⟩ := hw'
  have hbq := below_regrown v dq osq
  replace K0 := Lib.hid (K0.out.below hbq)
  replace K2 := Lib.hid (K2.out.below hbq)
  replace K4 := Lib.hid (K4.out.below hbq)
  have BF := Lib.hid (B3.out.trans (hbq.mono B3.out.size))
  clear k0 d0 d1 d2 q0 q1 B3 hbq
  generalize grow (redrawn v dq) osq = v2 at K0 K2 K4 BF ⊢
  obtain ⟨j0, j1, j2, j3⟩ := K2.out.cell4
  obtain ⟨f0, f1, f2, f3⟩ := K2.out.free4
  go_wp2
  have k9 := K2.out.set4 (x := .int .i64 0) (y := .int .i64 0) (z := .int .i64 0) (u := .slice none 0 0)
  have b9 := below_set4 BF.out G2.out (.int .i64 0) (.int .i64 0) (.int .i64 0) (.slice none 0 0)
  clear j0 j1 j2 j3 f0 f1 f2 f3
  generalize (((v2.setCell { block := g2, off := 0 } (.int .i64 0)).setCell { block := g2, off := 1 } (.int .i64 0)).setCell { block := g2, off := 2 } (.int .i64 0)).setCell { block := g2, off := 3 } (.slice none 0 0) = w9 at k9 b9 ⊢
  obtain ⟨z0, z1, z2, z3⟩ := k9.cell4
  refine bodyPost_ret (v := .tuple #[.agg #[.int .i64 0, .int .i64 0, .int .i64 0, .slice none 0 0], .bool false]) ?_ rfl ⟨rfl, b9⟩
  simp [results, Try.results102, go_sem, z0, z1, z2, z3]

/-- blockOf of a tensor that has another number of items than its shape wants. -/
theorem blockOf_no2 (h w c : Int) (A : Option Addr) (n p : Nat) (xs : List Int) (W : World) (hr : RdI W A n xs) (hn : n ≤ 1048576) (hs : shOk h w c = true) (hno : (n : Int) ≠ szOf h w c) :
    Calls Try.prog 102 #[.agg #[.int .i64 h, .int .i64 w, .int .i64 c, .slice A n p]] W (NoB W) := by
  have HS := Lib.hid hs
  have hd : ((n : Int) != szOf h w c) = true := by simpa using hno
  clear hs hno
  have HR := Lib.hid hr
  have HN := Lib.hid hn
  have hz := szOf_bd h w c
  have hn0 : (0 : Int) ≤ n := Int.natCast_nonneg n
  clear hr hn
  go_enter Try.func102, Try.ntmps102
  go_wp2_with fail
  refine (sidesOfI h w c _).mono ?_
  rintro e w1 ⟨rfl, b1⟩
  have hk0 := ((Bk.new W 68 #[.int .i64 h, .int .i64 w, .int .i64 c, .slice A n p]).alloc _).below b1
  have hk2 := (Bk.new (W.alloc (.cells #[.int .i64 h, .int .i64 w, .int .i64 c, .slice A n p] 68)) 129 #[.int .i64 0, .int .i64 0, .int .i64 0, .slice none 0 0]).below b1
  have hb : Below W.heap.size W w1 := ((Below.refl _ W).alloc (Nat.le_refl _) _).alloc (by simp) _ |>.trans (b1.mono (by simp only [World.size_alloc]; omega))
  simp only [World.size_alloc] at hk2
  clear b1
  have G2 := Lib.hid (show W.heap.size ≤ W.heap.size + 1 by omega)
  generalize W.heap.size + 1 = g2 at hk2 G2 ⊢
  have B1 := Lib.hid hb
  have K0 := Lib.hid hk0
  have K2 := Lib.hid hk2
  obtain ⟨c0, c1, c2, c3⟩ := hk0.cell4
  clear hk0 hk2 hb
  go_wp2_with fail
  have hk0 := K0.out.alloc (.cells #[.int .i64 h, .int .i64 w, .int .i64 c, .slice none 0 0] 129)
  have hk2 := K2.out.alloc (.cells #[.int .i64 h, .int .i64 w, .int .i64 c, .slice none 0 0] 129)
  have hk4 := Bk.new w1 129 #[.int .i64 h, .int .i64 w, .int .i64 c, .slice none 0 0]
  have B3 := Lib.hid (B1.out.alloc B1.out.size (.cells #[.int .i64 h, .int .i64 w, .int .i64 c, .slice none 0 0] 129))
  have G4 := Lib.hid B1.out.size
  have N24 := Lib.hid (show g2 ≠ w1.heap.size from Nat.ne_of_lt K2.out.lt)
  clear c0 c1 c2 c3 K0 K2 B1
  generalize w1.alloc (.cells #[.int .i64 h, .int .i64 w, .int .i64 c, .slice none 0 0] 129) = v at hk0 hk2 hk4 B3 ⊢
  generalize w1.heap.size = g4 at hk4 G4 N24 ⊢
  have q0 := Lib.hid (fun d os => Calls.regrown_of (sidesOkI h w c _ HS.out (grow (redrawn v d) os)))
  have q1 := Lib.hid (fun d os => Calls.regrown_of (sizeI h w c (grow (redrawn v d) os)))
  have k0 := cell_regrown (hk0.cell 3 rfl)
  have d0 := cell_regrown (hk4.cell 0 rfl)
  have d1 := cell_regrown (hk4.cell 1 rfl)
  have d2 := cell_regrown (hk4.cell 2 rfl)
  have K0 := Lib.hid hk0
  have K2 := Lib.hid hk2
  have K4 := Lib.hid hk4
  clear hk0 hk2 hk4
  refine wp_region_quiet_below mixed (by kernel_rfl) ?_
  repeat (go_big_quiet_step (first | exact q0.out _ _ | exact q1.out _ _))
  refine wpQuiet_nil ?_
  intro _ hw'
  obtain ⟨⟨dq, osq⟩, rfl⟩ := hw'
  have hbq := below_regrown v dq osq
  replace K0 := Lib.hid (K0.out.below hbq)
  replace K2 := Lib.hid (K2.out.below hbq)
  replace K4 := Lib.hid (K4.out.below hbq)
  have BF := Lib.hid (B3.out.trans (hbq.mono B3.out.size))
  clear k0 d0 d1 d2 q0 q1 B3 hbq
  generalize grow (redrawn v dq) osq = v2 at K0 K2 K4 BF ⊢
  obtain ⟨j0, j1, j2, j3⟩ := K2.out.cell4
  obtain ⟨f0, f1, f2, f3⟩ := K2.out.free4
  go_wp2
  have k9 := K2.out.set4 (x := .int .i64 0) (y := .int .i64 0) (z := .int .i64 0) (u := .slice none 0 0)
  have b9 := below_set4 BF.out G2.out (.int .i64 0) (.int .i64 0) (.int .i64 0) (.slice none 0 0)
  clear j0 j1 j2 j3 f0 f1 f2 f3
  generalize (((v2.setCell { block := g2, off := 0 } (.int .i64 0)).setCell { block := g2, off := 1 } (.int .i64 0)).setCell { block := g2, off := 2 } (.int .i64 0)).setCell { block := g2, off := 3 } (.slice none 0 0) = w9 at k9 b9 ⊢
  obtain ⟨z0, z1, z2, z3⟩ := k9.cell4
  refine bodyPost_ret (v := .tuple #[.agg #[.int .i64 0, .int .i64 0, .int .i64 0, .slice none 0 0], .bool false]) ?_ rfl ⟨rfl, b9⟩
  simp [results, Try.results102, go_sem, z0, z1, z2, z3]

theorem own_set {w : World} {base e g k c : Nat} {vs : List Value} (h : w.ownsRow base e 1 (.slice (some ⟨g, 0, none⟩) k c) k vs) {b : Nat} (hb : g ≠ b) (i : Nat) (u : Value) :
    (w.setCell ⟨b, i, none⟩ u).ownsRow base e 1 (.slice (some ⟨g, 0, none⟩) k c) k vs := by
  have hh : (w.setCell ⟨b, i, none⟩ u).heap[g]? = w.heap[g]? := Below.heap_setCell w ⟨b, i, none⟩ u g hb
  refine ⟨h.1, ?_⟩
  rcases h.2 with ⟨h0, h1⟩ | ⟨g', cap, cur, hv, h1, hg, h2, h3⟩
  · exact .inl ⟨h0, h1⟩
  · have hv' := hv
    injection hv' with e1 e2 e3
    injection e1 with e1
    injection e1 with e1 _ _
    subst e1
    exact .inr ⟨g, cap, cur, hv, h1, hh.trans hg, h2, h3⟩
theorem take_snoc8 (xs : List Int) (k : Nat) (hl : k < xs.length) {y : Int} (hy : y = xs[k]?.getD 0) : (xs.take k).map (Value.int .i8) ++ [.int .i8 y] = (xs.take (k + 1)).map (Value.int .i8) := by
  subst hy
  rw [List.take_succ_eq_append_getElem hl, List.map_append]
  simp only [List.map_cons, List.map_nil, List.getElem?_eq_getElem hl, Option.getD_some]
def BlkC (W : World) (h w c : Int) (n : Nat) (xs : List Int) (b : Bool) (e : Ending) (W' : World) : Prop :=
  (b = true → NewB W h w c n xs e W') ∧ (b = false → NoB W e W')
theorem flipW {P : Program} {f : FuncId} {args : Array Value} {w : World} {v : Value} (h : Calls P f args w fun e w' => e = .returned v ∧ w = w') : Calls P f args w fun e w' => e = .returned v ∧ w' = w :=
  h.mono fun _ _ ⟨he, hm⟩ => ⟨he, hm.symm⟩
theorem sat8_fit {x : Int} : (sat8 x != x) = !(fit8 x) := by
  unfold sat8 clamp fit8
  by_cases h1 : x < -128
  · have : ¬ (-128 ≤ x ∧ x ≤ 127) := by omega
    simp [h1, this]; omega
  · by_cases h2 : 127 < x
    · have : ¬ (-128 ≤ x ∧ x ≤ 127) := by omega
      simp [h1, h2, this]; omega
    · have : -128 ≤ x ∧ x ≤ 127 := by omega
      simp [h1, h2, this]

theorem blkGrow {W wr w5 : World} {base g4 g2 k T t4 t2 : Nat} {V : Value} {vs : List Value} {c4 c2 : Array Value} {o : Obj} (hO : wr.ownsRow base T 1 V k vs) (h4 : Bk wr g4 t4 c4) (h2 : Bk wr g2 t2 c2)
    (hb : Below W.heap.size W wr) (hbs : base ≤ wr.heap.size) (l4 : g4 < base) (l2 : g2 < base) (hW : W.heap.size ≤ base) (hgrow : (wr.alloc o).drew.grownBy w5 V.ownBlock) :
    Bk w5 g4 t4 c4 ∧ Bk w5 g2 t2 c2 ∧ Below W.heap.size W w5 ∧ base ≤ w5.heap.size := by
  have hB5 : Below base wr w5 := (((Below.refl base wr).alloc hbs _).drew).grown hgrow (by simp; omega) (fun r hr => (hO.lt r hr).1)
  exact ⟨h4.belowN hB5 l4, h2.belowN hB5 l2, hb.trans (hB5.mono hW), Nat.le_trans hbs hB5.size⟩

/-- blockOf of a tensor with as many items as its shape wants. -/
theorem blockOf_yes (h w c : Int) (A : Option Addr) (n p : Nat) (xs : List Int) (b : Bool) (W : World) (hr : RdI W A n xs) (hn : n ≤ 1048576) (hs : shOk h w c = true) (hlen : (n : Int) = szOf h w c) (hb : tOk h w c xs = b) :
    Calls Try.prog 102 #[.agg #[.int .i64 h, .int .i64 w, .int .i64 c, .slice A n p]] W (BlkC W h w c n xs b) := by
  obtain ⟨i0, hi, hz0, hz1, hz2⟩ := info_parts infoS
  have HS := Lib.hid hs
  have HB := Lib.hid hb
  have HE := Lib.hid hlen
  have HL := Lib.hid hr.1
  have hd : ((n : Int) != szOf h w c) = false := by simpa using hlen
  clear hs hlen hb
  have HR := Lib.hid hr
  have HN := Lib.hid hn
  have hz := szOf_bd h w c
  have hn0 : (0 : Int) ≤ n := Int.natCast_nonneg n
  clear hr hn
  go_enter Try.func102, Try.ntmps102
  go_wp2_with fail
  refine (sidesOfI h w c _).mono ?_
  rintro e w1 ⟨rfl, b1⟩
  have hk0 := ((Bk.new W 68 #[.int .i64 h, .int .i64 w, .int .i64 c, .slice A n p]).alloc _).below b1
  have hk2 := (Bk.new (W.alloc (.cells #[.int .i64 h, .int .i64 w, .int .i64 c, .slice A n p] 68)) 129 #[.int .i64 0, .int .i64 0, .int .i64 0, .slice none 0 0]).below b1
  have hb : Below W.heap.size W w1 := ((Below.refl _ W).alloc (Nat.le_refl _) _).alloc (by simp) _ |>.trans (b1.mono (by simp only [World.size_alloc]; omega))
  simp only [World.size_alloc] at hk2
  clear b1
  have G2 := Lib.hid (show W.heap.size ≤ W.heap.size + 1 by omega)
  generalize W.heap.size + 1 = g2 at hk2 G2 ⊢
  have B1 := Lib.hid hb
  have K0 := Lib.hid hk0
  have K2 := Lib.hid hk2
  obtain ⟨c0, c1, c2, c3⟩ := hk0.cell4
  clear hk0 hk2 hb
  go_wp2_with fail
  have hk0 := K0.out.alloc (.cells #[.int .i64 h, .int .i64 w, .int .i64 c, .slice none 0 0] 129)
  have hk2 := K2.out.alloc (.cells #[.int .i64 h, .int .i64 w, .int .i64 c, .slice none 0 0] 129)
  have hk4 := Bk.new w1 129 #[.int .i64 h, .int .i64 w, .int .i64 c, .slice none 0 0]
  have B3 := Lib.hid (B1.out.alloc B1.out.size (.cells #[.int .i64 h, .int .i64 w, .int .i64 c, .slice none 0 0] 129))
  have G4 := Lib.hid B1.out.size
  have N24 := Lib.hid (show g2 ≠ w1.heap.size from Nat.ne_of_lt K2.out.lt)
  clear c0 c1 c2 c3 K0 K2 B1
  generalize w1.alloc (.cells #[.int .i64 h, .int .i64 w, .int .i64 c, .slice none 0 0] 129) = v at hk0 hk2 hk4 B3 ⊢
  generalize w1.heap.size = g4 at hk4 G4 N24 ⊢
  have q0 := Lib.hid (fun d os => Calls.regrown_of (sidesOkI h w c _ HS.out (grow (redrawn v d) os)))
  have q1 := Lib.hid (fun d os => Calls.regrown_of (sizeI h w c (grow (redrawn v d) os)))
  have k0 := cell_regrown (hk0.cell 3 rfl)
  have d0 := cell_regrown (hk4.cell 0 rfl)
  have d1 := cell_regrown (hk4.cell 1 rfl)
  have d2 := cell_regrown (hk4.cell 2 rfl)
  have K0 := Lib.hid hk0
  have K2 := Lib.hid hk2
  have K4 := Lib.hid hk4
  clear hk0 hk2 hk4
  refine wp_region_quiet_below mixed (by kernel_rfl) ?_
  repeat (go_big_quiet_step (first | exact q0.out _ _ | exact q1.out _ _))
  refine wpQuiet_nil ?_
  intro _ hw'
  obtain ⟨⟨dq, osq⟩, rfl⟩ := hw'
  have hbq := below_regrown v dq osq
  replace K0 := Lib.hid (K0.out.below hbq)
  replace K2 := Lib.hid (K2.out.below hbq)
  replace K4 := Lib.hid (K4.out.below hbq)
  have BF := Lib.hid (B3.out.trans (hbq.mono B3.out.size))
  clear k0 d0 d1 d2 q0 q1 B3 hbq
  generalize grow (redrawn v dq) osq = v2 at K0 K2 K4 BF ⊢
  have hg2 := K2.out.lt
  have hg4 := K4.out.lt
  have kk0 := K0.out.cell 3 rfl
  have hn1 : (n : Int) ≤ 1048576 := by have := HN.out; omega
  obtain ⟨base, hbase⟩ : ∃ base, base = v2.heap.size := ⟨_, rfl⟩
  have LT2 := Lib.hid (show g2 < base from hbase ▸ hg2)
  have LT4 := Lib.hid (show g4 < base from hbase ▸ hg4)
  have HBS := Lib.hid hbase
  have HWb := Lib.hid (show W.heap.size ≤ base from hbase ▸ BF.out.size)
  clear hd hz hg2 hg4 hbase
  go_wp2
  go_loopw [28] (fun x wr => ∃ (k : Nat) (V : Value), k ≤ n ∧ x = .int .i64 k ∧ wr.ownsRow base 134 1 V k ((xs.take k).map (Value.int .i8)) ∧ Bk wr g4 129 #[.int .i64 h, .int .i64 w, .int .i64 c, V] ∧ Bk wr g2 129 #[.int .i64 0, .int .i64 0, .int .i64 0, .slice none 0 0] ∧ Below W.heap.size W wr ∧ base ≤ wr.heap.size ∧ Hid (∀ j, j < k → -128 ≤ xs.getD j 0 ∧ xs.getD j 0 ≤ 127)) (fun x _ => n - (intOf x).toNat)
  case atStart => exact ⟨0, .slice none 0 0, Nat.zero_le _, rfl, by simpa using World.ownsRow_nil v2 base _ 1, K4.out, K2.out, BF.out, by rw [HBS.out]; exact Nat.le_refl _, Lib.hid (fun j hj => absurd hj (Nat.not_lt_zero _))⟩
  case round =>
    obtain ⟨k, V, hk, rfl, hown, hk4, hk2, hbw, hbs, HQ⟩ := hrel
    have HO := Lib.hid hown
    have K4' := Lib.hid hk4
    have K2' := Lib.hid hk2
    have BW := Lib.hid hbw
    have HBs := Lib.hid hbs
    clear hown hk4 hk2 hbw hbs kk0 K0 K2 K4 BF
    by_cases hlt : k < n
    · obtain ⟨b', off, rfl, hbl, hcell⟩ := (HR.out.of_below BW.out).2 (by omega)
      have hcx := hcell k hlt
      have hi2 : (k : Int) < (n : Int) := by omega
      clear hcell hbl
      rcases hf : fit8 (xs[k]?.getD 0) with _ | _
      · obtain rfl : b = false := by rw [← HB.out]; exact tOk_no3 (k := k) (by have := HL.out; omega) (by simpa [fit8, List.getD_eq_getElem?_getD] using hf)
        have hd : (sat8 (xs[k]?.getD 0) != xs[k]?.getD 0) = true := by rw [sat8_fit, hf]; rfl
        clear hf
        obtain ⟨j0, j1, j2, j3⟩ := K2'.out.cell4
        obtain ⟨f0, f1, f2, f3⟩ := K2'.out.free4
        go_wp2_with ((with_reducible refine (sat8I _ _).mono ?_); rintro e w' ⟨rfl, rfl⟩)
        have k9 := K2'.out.set4 (x := .int .i64 0) (y := .int .i64 0) (z := .int .i64 0) (u := .slice none 0 0)
        have b9 := below_set4 BW.out G2.out (.int .i64 0) (.int .i64 0) (.int .i64 0) (.slice none 0 0)
        clear j0 j1 j2 j3 f0 f1 f2 f3 hcx
        generalize (((wr.setCell { block := g2, off := 0 } (.int .i64 0)).setCell { block := g2, off := 1 } (.int .i64 0)).setCell { block := g2, off := 2 } (.int .i64 0)).setCell { block := g2, off := 3 } (.slice none 0 0) = w9 at k9 b9 ⊢
        obtain ⟨z0, z1, z2, z3⟩ := k9.cell4
        refine bodyPost_ret (v := .tuple #[.agg #[.int .i64 0, .int .i64 0, .int .i64 0, .slice none 0 0], .bool false]) ?_ rfl ⟨(fun h => by cases h), fun _ => ⟨rfl, b9⟩⟩
        simp [results, Try.results102, go_sem, z0, z1, z2, z3]
      · have hd : (sat8 (xs[k]?.getD 0) != xs[k]?.getD 0) = false := by rw [sat8_fit, hf]; rfl
        have HX : Hid (-128 ≤ xs[k]?.getD 0 ∧ xs[k]?.getD 0 ≤ 127) := Lib.hid (by simpa [fit8] using hf)
        have HT : Hid (sat8 (xs[k]?.getD 0) = xs[k]?.getD 0) := Lib.hid (by simpa using hd)
        clear hf
        have e3 := K4'.out.cell 3 rfl
        have f3 := K4'.out.frozen 3
        go_wp2_with ((with_reducible refine (sat8I _ _).mono ?_); rintro e w' ⟨rfl, rfl⟩)
        have e3a : ∀ o, (wr.alloc o).cell? ⟨g4, 3, none⟩ = some V := fun o => (K4'.out.alloc o).cell 3 rfl
        go_region_law (first
          | (go_simp; go_at_call 147; refine (smallOfI _ _).mono ?_; rintro e w' ⟨rfl, rfl⟩)
          | (refine step_append_lies _ (by rfl) _ _ _ (by rfl) base 134 i0 _ 1 1 Try.underlying127 hi hz0 hz1 hz2 rfl (by omega) V k _ (by rfl) ((HO.out.alloc _).drew) ⟨wr.heap.size, 0, none⟩ 1 1 [.int .i8 (sat8 (xs[k]?.getD 0))] (by rfl) (by rfl) (World.news_of_block (cs := #[.int .i8 (sat8 (xs[k]?.getD 0))]) (t := 134) (fr := (0, 0)) (heap_alloc_new wr _)) (by simp [Value.oneCell']) (by omega) (by unfold maxLen; omega) (by omega) (by have := HBs.out; simp; omega) (wr.heap.size + 1) (by simp) ?_
             intro g' cap' w5 hown' hgrow _ _
             obtain ⟨k4, k2, hbw, hbs⟩ := blkGrow HO.out K4'.out K2'.out BW.out HBs.out LT4.out LT2.out HWb.out hgrow
             have e4 := k4.cell 3 rfl
             have f4 := k4.frozen 3
             have hne : Hid (g' ≠ g4) := Lib.hid (by have := (hown'.lt g' rfl).1; have := LT4.out; omega)
             have HO5 := Lib.hid hown'
             have K4e := Lib.hid k4
             have K2e := Lib.hid k2
             have BWe := Lib.hid hbw
             have HBe := Lib.hid hbs
             clear hown' hgrow k4 k2 hbw hbs)
          )
        all_goals
          clear e3a
          go_wp2
          go_roundw
          case rel =>
            refine ⟨k + 1, _, by omega, by go_num, ?_, K4e.out.set 3 _, K2e.out.far (p := ⟨g4, 3, none⟩) N24.out _, BWe.out.setCell (p := ⟨g4, 3, none⟩) G4.out _, by rw [World.size_setCell]; exact HBe.out, Lib.hid (fun j hj => ?_)⟩
            · have ht := take_snoc8 xs k (by have := HL.out; omega) HT.out
              have hO := HO5.out
              rw [ht] at hO
              exact own_set hO hne.out _ _
            · rcases (by omega : j < k ∨ j = k) with h1 | rfl
              · exact HQ.out j h1
              · simpa [List.getD_eq_getElem?_getD] using HX.out
          case measure => simp [intOf]; omega
    · obtain rfl : k = n := by omega
      have hb2 : b = true := by
        rw [← HB.out]
        refine tOk_iff.2 ⟨HS.out, by have := HL.out; have := HE.out; omega, fun x hx => ?_⟩
        obtain ⟨j, hj, rfl⟩ := List.getElem_of_mem hx
        have := HQ.out j (by have := HL.out; omega)
        simpa [List.getD_eq_getElem?_getD, hj] using this
      subst hb2
      have hpos : 0 < k := by have := (szOf_yes HS.out).1; have := (szOf_yes HS.out).2.2.2.1; have := HE.out; omega
      have hO := HO.out
      rw [show xs.take k = xs from List.take_of_length_le (by have := HL.out; omega)] at hO
      obtain ⟨g', cap', rfl⟩ : ∃ g' cap', V = .slice (some ⟨g', 0, none⟩) k cap' := by
        rcases hO.2 with ⟨_, h0⟩ | ⟨g', cap', cur, rfl, _⟩
        · omega
        · exact ⟨g', cap', rfl⟩
      have hne : g' ≠ g2 := by have := (hO.lt g' rfl).1; have := LT2.out; omega
      have hge : W.heap.size ≤ g' := by have := (hO.lt g' rfl).1; have := HWb.out; omega
      have r9 := RdS.of_own hO
      have R9 := Lib.hid (r9.far4 hne (.int .i64 h) (.int .i64 w) (.int .i64 c) (.slice (some ⟨g', 0, none⟩) k cap'))
      have GE := Lib.hid hge
      obtain ⟨e0, e1, e2, e3⟩ := K4'.out.cell4
      obtain ⟨j0, j1, j2, j3⟩ := K2'.out.cell4
      obtain ⟨f0, f1, f2, f3⟩ := K2'.out.free4
      clear hO HO hne hge r9 hpos
      go_wp2
      have k9 := K2'.out.set4 (x := .int .i64 h) (y := .int .i64 w) (z := .int .i64 c) (u := .slice (some ⟨g', 0, none⟩) k cap')
      have b9 := below_set4 BW.out G2.out (.int .i64 h) (.int .i64 w) (.int .i64 c) (.slice (some ⟨g', 0, none⟩) k cap')
      clear j0 j1 j2 j3 f0 f1 f2 f3 e0 e1 e2 e3
      have r9 := R9.out
      clear R9
      generalize (((wr.setCell { block := g2, off := 0 } (.int .i64 h)).setCell { block := g2, off := 1 } (.int .i64 w)).setCell { block := g2, off := 2 } (.int .i64 c)).setCell { block := g2, off := 3 } (.slice (some { block := g', off := 0 }) k cap') = w9 at k9 b9 r9 ⊢
      obtain ⟨z0, z1, z2, z3⟩ := k9.cell4
      refine bodyPost_ret (v := .tuple #[.agg #[.int .i64 h, .int .i64 w, .int .i64 c, .slice (some ⟨g', 0, none⟩) k cap'], .bool true]) ?_ rfl ⟨fun _ => ⟨g', cap', rfl, GE.out, r9, b9⟩, fun h => by cases h⟩
      simp [results, Try.results102, go_sem, z0, z1, z2, z3]

/-- blockOf of whatever tensor. -/
theorem blockOfI (h w c : Int) (A : Option Addr) (n p : Nat) (xs : List Int) (b : Bool) (hb : tOk h w c xs = b) (W : World) (hr : RdI W A n xs) (hn : n ≤ 1048576) :
    Calls Try.prog 102 #[.agg #[.int .i64 h, .int .i64 w, .int .i64 c, .slice A n p]] W (BlkC W h w c n xs b) := by
  rcases hs : shOk h w c with _ | _
  · obtain rfl : b = false := by rw [← hb]; exact tOk_no1 hs
    exact (blockOf_no1 h w c A n p xs W hr hn hs).mono fun _ _ hh => ⟨(fun h => by cases h), fun _ => hh⟩
  · by_cases hl : (n : Int) = szOf h w c
    · exact blockOf_yes h w c A n p xs b W hr hn hs hl hb
    · obtain rfl : b = false := by rw [← hb]; exact tOk_no2 (by have := hr.1; omega)
      exact (blockOf_no2 h w c A n p xs W hr hn hs hl).mono fun _ _ hh => ⟨(fun h => by cases h), fun _ => hh⟩
theorem blockOf_ok (h w c : Int) (A : Option Addr) (n p : Nat) (xs : List Int) (hb : tOk h w c xs = true) (W : World) (hr : RdI W A n xs) (hn : n ≤ 1048576) :
    Calls Try.prog 102 #[.agg #[.int .i64 h, .int .i64 w, .int .i64 c, .slice A n p]] W (NewB W h w c n xs) :=
  (blockOfI h w c A n p xs true hb W hr hn).mono fun _ _ hh => hh.1 rfl
theorem blockOf_not (h w c : Int) (A : Option Addr) (n p : Nat) (xs : List Int) (hb : tOk h w c xs = false) (W : World) (hr : RdI W A n xs) (hn : n ≤ 1048576) :
    Calls Try.prog 102 #[.agg #[.int .i64 h, .int .i64 w, .int .i64 c, .slice A n p]] W (NoB W) :=
  (blockOfI h w c A n p xs false hb W hr hn).mono fun _ _ hh => hh.2 rfl
end Qt
end Go.Proofs.Ytebldedmkpdgcaa
