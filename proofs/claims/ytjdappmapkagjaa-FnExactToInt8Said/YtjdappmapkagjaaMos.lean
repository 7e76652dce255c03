/- What MultOfScales (of the program and of its model) gives when it is called, at every argument. No conditions. -/
import Derived.Test.YtjdappmapkagjaaSca
namespace Go.Proofs.Ytjdappmapkagjaa
open Go.RowKit Go.Sort
set_option linter.unusedSimpArgs false
set_option linter.unusedVariables false
namespace Qt
def Tri (x y : Int) (b : Bool) : Value := .tuple #[.int .i64 x, .int .i64 y, .bool b]
def multT (num den : Int) : Int × Int × Bool := if multGood num den then (multM num den, multN num den, true) else (0, 0, false)
theorem multForIt (num den : Int) (w : World) :
    Calls Try.prog 85 #[.int .i64 num, .int .i64 den] w fun e w' => e = .returned (Tri (multT num den).1 (multT num den).2.1 (multT num den).2.2) ∧ w = w' := by
  by_cases h : 0 < num ∧ num < den ∧ den ≤ 1000000
  · have : multT num den = (multM num den, multN num den, true) := by simp [multT, multGood, h]
    rw [this]
    exact multForI_yes num den h.1 h.2.1 h.2.2 w
  · have : multT num den = (0, 0, false) := by simp [multT, multGood, h]
    rw [this]
    exact multForI_no num den (by omega) w
theorem multForSt (num den : Int) (w : World) :
    Calls Try.prog 87 #[.int .i64 num, .int .i64 den] w fun e w' => e = .returned (Tri (multT num den).1 (multT num den).2.1 (multT num den).2.2) ∧ w = w' := by
  by_cases h : 0 < num ∧ num < den ∧ den ≤ 1000000
  · have : multT num den = (multM num den, multN num den, true) := by simp [multT, multGood, h]
    rw [this]
    exact multForS_yes num den h.1 h.2.1 h.2.2 w
  · have : multT num den = (0, 0, false) := by simp [multT, multGood, h]
    rw [this]
    exact multForS_no num den (by omega) w
def gcdI2 (a b : Int) : Int := (Nat.gcd a.toNat b.toNat : Nat)
def mosT (n1 z1 n2 z2 n3 z3 : Int) : Int × Int × Bool := if scB n1 z1 && (scB n2 z2 && scB n3 z3) then multT (n1 * n2 / gcdI2 (n1 * n2) (n3 * 1000)) (n3 * 1000 / gcdI2 (n1 * n2) (n3 * 1000)) else (0, 0, false)
theorem gcdI2_pos {a b : Int} (ha : 0 < a) : 1 ≤ gcdI2 a b := by
  unfold gcdI2
  have := Nat.gcd_pos_of_pos_left b.toNat (show 0 < a.toNat by omega)
  omega
theorem div_le {a g B : Int} (ha : 0 ≤ a) (hb : a ≤ B) (hg : 1 ≤ g) : 0 ≤ a / g ∧ a / g ≤ B := by
  refine ⟨Int.ediv_nonneg ha (by omega), ?_⟩
  have h1 : a / g ≤ a := Int.ediv_le_self _ ha
  omega
theorem mul_bd9 {a b : Int} (ha : 1 ≤ a ∧ a ≤ 1000000000) (hb : 1 ≤ b ∧ b ≤ 1000000000) : 1 ≤ a * b ∧ a * b ≤ 1000000000000000000 := by
  have h1 : 1 * 1 ≤ a * b := Int.mul_le_mul ha.1 hb.1 (by omega) (by omega)
  have h2 : a * b ≤ 1000000000 * 1000000000 := Int.mul_le_mul ha.2 hb.2 (by omega) (by omega)
  omega
theorem three2 (W : World) (t : TypeId) (a0 a1 b0 b1 c0 c1 : Value) :
    (((W.alloc (.cells #[a0, a1] t)).alloc (.cells #[b0, b1] t)).alloc (.cells #[c0, c1] t)).cell? ⟨W.heap.size, 0, none⟩ = some a0 ∧ (((W.alloc (.cells #[a0, a1] t)).alloc (.cells #[b0, b1] t)).alloc (.cells #[c0, c1] t)).cell? ⟨W.heap.size, 1, none⟩ = some a1 ∧
    (((W.alloc (.cells #[a0, a1] t)).alloc (.cells #[b0, b1] t)).alloc (.cells #[c0, c1] t)).cell? ⟨W.heap.size + 1, 0, none⟩ = some b0 ∧ (((W.alloc (.cells #[a0, a1] t)).alloc (.cells #[b0, b1] t)).alloc (.cells #[c0, c1] t)).cell? ⟨W.heap.size + 1, 1, none⟩ = some b1 ∧
    (((W.alloc (.cells #[a0, a1] t)).alloc (.cells #[b0, b1] t)).alloc (.cells #[c0, c1] t)).cell? ⟨W.heap.size + 1 + 1, 0, none⟩ = some c0 ∧ (((W.alloc (.cells #[a0, a1] t)).alloc (.cells #[b0, b1] t)).alloc (.cells #[c0, c1] t)).cell? ⟨W.heap.size + 1 + 1, 1, none⟩ = some c1 ∧
    Below W.heap.size W (((W.alloc (.cells #[a0, a1] t)).alloc (.cells #[b0, b1] t)).alloc (.cells #[c0, c1] t)) := by
  have k0 := ((Bk.new W t #[a0, a1]).alloc (.cells #[b0, b1] t)).alloc (.cells #[c0, c1] t)
  have k1 := (Bk.new (W.alloc (.cells #[a0, a1] t)) t #[b0, b1]).alloc (.cells #[c0, c1] t)
  have k2 := Bk.new ((W.alloc (.cells #[a0, a1] t)).alloc (.cells #[b0, b1] t)) t #[c0, c1]
  simp only [World.size_alloc] at k1 k2
  exact ⟨k0.cell 0 rfl, k0.cell 1 rfl, k1.cell 0 rfl, k1.cell 1 rfl, k2.cell 0 rfl, k2.cell 1 rfl, (((Below.refl _ W).alloc (Nat.le_refl _) _).alloc (by simp) _).alloc (by simp only [World.size_alloc]; omega) _⟩
set_option maxHeartbeats 1000000 in
set_option maxRecDepth 10000 in
theorem mosS (n1 z1 n2 z2 n3 z3 : Int) (W : World) :
    Calls Try.prog 36 #[.agg #[.int .i64 n1, .int .i64 z1], .agg #[.int .i64 n2, .int .i64 z2], .agg #[.int .i64 n3, .int .i64 z3]] W fun e W' => e = .returned (Tri (mosT n1 z1 n2 z2 n3 z3).1 (mosT n1 z1 n2 z2 n3 z3).2.1 (mosT n1 z1 n2 z2 n3 z3).2.2) ∧ Below W.heap.size W W' := by
  obtain ⟨x, y, b, hR⟩ : ∃ x y b, mosT n1 z1 n2 z2 n3 z3 = (x, y, b) := ⟨_, _, _, rfl⟩
  rw [hR]
  have HR := Lib.hid hR
  clear hR
  dsimp only
  have hc := three2 W 27 (.int .i64 n1) (.int .i64 z1) (.int .i64 n2) (.int .i64 z2) (.int .i64 n3) (.int .i64 z3)
  go_enter Try.func36, Try.ntmps36
  go_wp2_with fail
  generalize ((W.alloc (.cells #[.int .i64 n1, .int .i64 z1] 27)).alloc (.cells #[.int .i64 n2, .int .i64 z2] 27)).alloc (.cells #[.int .i64 n3, .int .i64 z3] 27) = v at hc ⊢
  obtain ⟨c0, c1, c2, c3, c4, c5, bl⟩ := hc
  have Bl := Lib.hid bl
  clear bl
  have HS0 := Lib.hid (scaleOkS n1 z1 _ rfl v)
  rcases hs0 : scB n1 z1 with _ | _
  · obtain ⟨rfl, rfl, rfl⟩ : x = 0 ∧ y = 0 ∧ b = false := by have h := HR.out; unfold mosT at h; simp only [hs0, Bool.false_and, Bool.and_false, Bool.true_and, Bool.and_true, if_false, Bool.false_eq_true] at h; injection h with h1 h2; injection h2 with h2 h3; exact ⟨h1.symm, h2.symm, h3.symm⟩
    rw [hs0] at HS0
    refine HS0.out.mono ?_
    rintro e w2 ⟨rfl, b2⟩
    have B2 := Lib.hid (Bl.out.trans (b2.mono Bl.out.size))
    clear b2 c0 c1 c2 c3 c4 c5 Bl HS0
    go_wp2_with fail
    go_ret3
    exact ⟨rfl, B2.out⟩
  rw [hs0] at HS0
  refine HS0.out.mono ?_
  have X0 := Lib.hid hs0
  clear hs0 HS0
  rintro e w2 ⟨rfl, b2⟩
  replace c0 := keep b2 c0
  replace c1 := keep b2 c1
  replace c2 := keep b2 c2
  replace c3 := keep b2 c3
  replace c4 := keep b2 c4
  replace c5 := keep b2 c5
  replace Bl := Lib.hid (Bl.out.trans (b2.mono Bl.out.size))
  clear b2
  obtain ⟨v, rfl⟩ : ∃ v, v = w2 := ⟨_, rfl⟩
  go_wp2_with fail
  have HS1 := Lib.hid (scaleOkS n2 z2 _ rfl v)
  rcases hs1 : scB n2 z2 with _ | _
  · obtain ⟨rfl, rfl, rfl⟩ : x = 0 ∧ y = 0 ∧ b = false := by have h := HR.out; unfold mosT at h; simp only [hs1, Bool.false_and, Bool.and_false, Bool.true_and, Bool.and_true, if_false, Bool.false_eq_true] at h; injection h with h1 h2; injection h2 with h2 h3; exact ⟨h1.symm, h2.symm, h3.symm⟩
    rw [hs1] at HS1
    refine HS1.out.mono ?_
    rintro e w2 ⟨rfl, b2⟩
    have B2 := Lib.hid (Bl.out.trans (b2.mono Bl.out.size))
    clear b2 c0 c1 c2 c3 c4 c5 Bl HS1
    go_wp2_with fail
    go_ret3
    exact ⟨rfl, B2.out⟩
  rw [hs1] at HS1
  refine HS1.out.mono ?_
  have X1 := Lib.hid hs1
  clear hs1 HS1
  rintro e w2 ⟨rfl, b2⟩
  replace c0 := keep b2 c0
  replace c1 := keep b2 c1
  replace c2 := keep b2 c2
  replace c3 := keep b2 c3
  replace c4 := keep b2 c4
  replace c5 := keep b2 c5
  replace Bl := Lib.hid (Bl.out.trans (b2.mono Bl.out.size))
  clear b2
  obtain ⟨v, rfl⟩ : ∃ v, v = w2 := ⟨_, rfl⟩
  go_wp2_with fail
  have HS2 := Lib.hid (scaleOkS n3 z3 _ rfl v)
  rcases hs2 : scB n3 z3 with _ | _
  · obtain ⟨rfl, rfl, rfl⟩ : x = 0 ∧ y = 0 ∧ b = false := by have h := HR.out; unfold mosT at h; simp only [hs2, Bool.false_and, Bool.and_false, Bool.true_and, Bool.and_true, if_false, Bool.false_eq_true] at h; injection h with h1 h2; injection h2 with h2 h3; exact ⟨h1.symm, h2.symm, h3.symm⟩
    rw [hs2] at HS2
    refine HS2.out.mono ?_
    rintro e w2 ⟨rfl, b2⟩
    have B2 := Lib.hid (Bl.out.trans (b2.mono Bl.out.size))
    clear b2 c0 c1 c2 c3 c4 c5 Bl HS2
    go_wp2_with fail
    go_ret3
    exact ⟨rfl, B2.out⟩
  rw [hs2] at HS2
  refine HS2.out.mono ?_
  have X2 := Lib.hid hs2
  clear hs2 HS2
  rintro e w2 ⟨rfl, b2⟩
  replace c0 := keep b2 c0
  replace c1 := keep b2 c1
  replace c2 := keep b2 c2
  replace c3 := keep b2 c3
  replace c4 := keep b2 c4
  replace c5 := keep b2 c5
  replace Bl := Lib.hid (Bl.out.trans (b2.mono Bl.out.size))
  clear b2
  obtain ⟨v, rfl⟩ : ∃ v, v = w2 := ⟨_, rfl⟩
  obtain ⟨h1, h2, h3, h4⟩ := scB_iff.1 X0.out
  obtain ⟨h5, h6, h7, h8⟩ := scB_iff.1 X1.out
  obtain ⟨h9, h10, h11, h12⟩ := scB_iff.1 X2.out
  have hm := mul_bd9 ⟨h1, h2⟩ ⟨h5, h6⟩
  go_wp2_with fail
  have hg := gcdI2_pos (a := n1 * n2) (b := n3 * 1000) (by omega)
  have hd1 := div_le (a := n1 * n2) (B := 1000000000000000000) (by omega) hm.2 hg
  have hd2 := div_le (a := n3 * 1000) (B := 1000000000000) (by omega) (by omega) hg
  have HV : Hid (multT (n1 * n2 / gcdI2 (n1 * n2) (n3 * 1000)) (n3 * 1000 / gcdI2 (n1 * n2) (n3 * 1000)) = (x, y, b)) := Lib.hid (by have h := HR.out; unfold mosT at h; rw [X0.out, X1.out, X2.out] at h; simpa using h)
  have HG := Lib.hid (gcdS (n1 * n2) (n3 * 1000) (by omega) (by omega) v)
  clear HR X0 X1 X2
  change Hid (Calls _ _ _ _ fun e w' => e = Ending.returned (Value.int .i64 (gcdI2 (n1 * n2) (n3 * 1000))) ∧ _) at HG
  generalize gcdI2 (n1 * n2) (n3 * 1000) = G at hg hd1 hd2 HV HG
  generalize n1 * n2 = N at hm hd1 HV HG
  refine HG.out.mono ?_
  clear HG
  rintro e w3 ⟨rfl, rfl⟩
  go_wp2_with fail
  have HM : Hid (∀ w, Calls Try.prog 87 #[.int .i64 (N / G), .int .i64 (n3 * 1000 / G)] w fun e w' => e = .returned (.tuple #[.int .i64 x, .int .i64 y, .bool b]) ∧ w = w') := Lib.hid (fun w => by have h := multForSt (N / G) (n3 * 1000 / G) w; rw [HV.out] at h; exact h)
  clear HV
  have hq1 : IntKind.i64.wrap (N.tdiv G) = N / G := IntWalk.i64_quo _ _ (by omega)
  have hq2 : IntKind.i64.wrap ((n3 * 1000).tdiv G) = n3 * 1000 / G := IntWalk.i64_quo _ _ (by omega)
  have hne : ¬ G = 0 := by omega
  have hne2 : (G == 0) = false := by simp; omega
  go_quiet ((go_at_call 87; exact Calls.quiet_of_same (flipv (HM.out _))))
  go_wp2_with fail
  go_ret3
  exact ⟨rfl, below_drewN Bl.out _⟩
set_option maxHeartbeats 1000000 in
set_option maxRecDepth 10000 in
theorem mosI (n1 z1 n2 z2 n3 z3 : Int) (W : World) :
    Calls Try.prog 35 #[.agg #[.int .i64 n1, .int .i64 z1], .agg #[.int .i64 n2, .int .i64 z2], .agg #[.int .i64 n3, .int .i64 z3]] W fun e W' => e = .returned (Tri (mosT n1 z1 n2 z2 n3 z3).1 (mosT n1 z1 n2 z2 n3 z3).2.1 (mosT n1 z1 n2 z2 n3 z3).2.2) ∧ Below W.heap.size W W' := by
  obtain ⟨x, y, b, hR⟩ : ∃ x y b, mosT n1 z1 n2 z2 n3 z3 = (x, y, b) := ⟨_, _, _, rfl⟩
  rw [hR]
  have HR := Lib.hid hR
  clear hR
  dsimp only
  have hc := three2 W 27 (.int .i64 n1) (.int .i64 z1) (.int .i64 n2) (.int .i64 z2) (.int .i64 n3) (.int .i64 z3)
  go_enter Try.func35, Try.ntmps35
  go_wp2_with fail
  generalize ((W.alloc (.cells #[.int .i64 n1, .int .i64 z1] 27)).alloc (.cells #[.int .i64 n2, .int .i64 z2] 27)).alloc (.cells #[.int .i64 n3, .int .i64 z3] 27) = v at hc ⊢
  obtain ⟨c0, c1, c2, c3, c4, c5, bl⟩ := hc
  have Bl := Lib.hid bl
  clear bl
  have HS0 := Lib.hid (scaleOkI n1 z1 _ rfl v)
  rcases hs0 : scB n1 z1 with _ | _
  · obtain ⟨rfl, rfl, rfl⟩ : x = 0 ∧ y = 0 ∧ b = false := by have h := HR.out; unfold mosT at h; simp only [hs0, Bool.false_and, Bool.and_false, Bool.true_and, Bool.and_true, if_false, Bool.false_eq_true] at h; injection h with h1 h2; injection h2 with h2 h3; exact ⟨h1.symm, h2.symm, h3.symm⟩
    rw [hs0] at HS0
    refine HS0.out.mono ?_
    rintro e w2 ⟨rfl, b2⟩
    have B2 := Lib.hid (Bl.out.trans (b2.mono Bl.out.size))
    clear b2 c0 c1 c2 c3 c4 c5 Bl HS0
    go_wp2_with fail
    go_ret3
    exact ⟨rfl, B2.out⟩
  rw [hs0] at HS0
  refine HS0.out.mono ?_
  have X0 := Lib.hid hs0
  clear hs0 HS0
  rintro e w2 ⟨rfl, b2⟩
  replace c0 := keep b2 c0
  replace c1 := keep b2 c1
  replace c2 := keep b2 c2
  replace c3 := keep b2 c3
  replace c4 := keep b2 c4
  replace c5 := keep b2 c5
  replace Bl := Lib.hid (Bl.out.trans (b2.mono Bl.out.size))
  clear b2
  obtain ⟨v, rfl⟩ : ∃ v, v = w2 := ⟨_, rfl⟩
  go_wp2_with fail
  have HS1 := Lib.hid (scaleOkI n2 z2 _ rfl v)
  rcases hs1 : scB n2 z2 with _ | _
  · obtain ⟨rfl, rfl, rfl⟩ : x = 0 ∧ y = 0 ∧ b = false := by have h := HR.out; unfold mosT at h; simp only [hs1, Bool.false_and, Bool.and_false, Bool.true_and, Bool.and_true, if_false, Bool.false_eq_true] at h; injection h with h1 h2; injection h2 with h2 h3; exact ⟨h1.symm, h2.symm, h3.symm⟩
    rw [hs1] at HS1
    refine HS1.out.mono ?_
    rintro e w2 ⟨rfl, b2⟩
    have B2 := Lib.hid (Bl.out.trans (b2.mono Bl.out.size))
    clear b2 c0 c1 c2 c3 c4 c5 Bl HS1
    go_wp2_with fail
    go_ret3
    exact ⟨rfl, B2.out⟩
  rw [hs1] at HS1
  refine HS1.out.mono ?_
  have X1 := Lib.hid hs1
  clear hs1 HS1
  rintro e w2 ⟨rfl, b2⟩
  replace c0 := keep b2 c0
  replace c1 := keep b2 c1
  replace c2 := keep b2 c2
  replace c3 := keep b2 c3
  replace c4 := keep b2 c4
  replace c5 := keep b2 c5
  replace Bl := Lib.hid (Bl.out.trans (b2.mono Bl.out.size))
  clear b2
  obtain ⟨v, rfl⟩ : ∃ v, v = w2 := ⟨_, rfl⟩
  go_wp2_with fail
  have HS2 := Lib.hid (scaleOkI n3 z3 _ rfl v)
  rcases hs2 : scB n3 z3 with _ | _
  · obtain ⟨rfl, rfl, rfl⟩ : x = 0 ∧ y = 0 ∧ b = false := by have h := HR.out; unfold mosT at h; simp only [hs2, Bool.false_and, Bool.and_false, Bool.true_and, Bool.and_true, if_false, Bool.false_eq_true] at h; injection h with h1 h2; injection h2 with h2 h3; exact ⟨h1.symm, h2.symm, h3.symm⟩
    rw [hs2] at HS2
    refine HS2.out.mono ?_
    rintro e w2 ⟨rfl, b2⟩
    have B2 := Lib.hid (Bl.out.trans (b2.mono Bl.out.size))
    clear b2 c0 c1 c2 c3 c4 c5 Bl HS2
    go_wp2_with fail
    go_ret3
    exact ⟨rfl, B2.out⟩
  rw [hs2] at HS2
  refine HS2.out.mono ?_
  have X2 := Lib.hid hs2
  clear hs2 HS2
  rintro e w2 ⟨rfl, b2⟩
  replace c0 := keep b2 c0
  replace c1 := keep b2 c1
  replace c2 := keep b2 c2
  replace c3 := keep b2 c3
  replace c4 := keep b2 c4
  replace c5 := keep b2 c5
  replace Bl := Lib.hid (Bl.out.trans (b2.mono Bl.out.size))
  clear b2
  obtain ⟨v, rfl⟩ : ∃ v, v = w2 := ⟨_, rfl⟩
  go_wp2_with fail
  obtain ⟨h1, h2, h3, h4⟩ := scB_iff.1 X0.out
  obtain ⟨h5, h6, h7, h8⟩ := scB_iff.1 X1.out
  obtain ⟨h9, h10, h11, h12⟩ := scB_iff.1 X2.out
  have hm := mul_bd9 ⟨h1, h2⟩ ⟨h5, h6⟩
  have hg := gcdI2_pos (a := n1 * n2) (b := n3 * 1000) (by omega)
  have hd1 := div_le (a := n1 * n2) (B := 1000000000000000000) (by omega) hm.2 hg
  have hd2 := div_le (a := n3 * 1000) (B := 1000000000000) (by omega) (by omega) hg
  have HV : Hid (multT (n1 * n2 / gcdI2 (n1 * n2) (n3 * 1000)) (n3 * 1000 / gcdI2 (n1 * n2) (n3 * 1000)) = (x, y, b)) := Lib.hid (by have h := HR.out; unfold mosT at h; rw [X0.out, X1.out, X2.out] at h; simpa using h)
  have hw1 : IntKind.i64.wrap (n1 * n2) = n1 * n2 := IntWalk.i64_in _ (by omega)
  have hw2 : IntKind.i64.wrap (n3 * 1000) = n3 * 1000 := IntWalk.i64_in _ (by omega)
  go_quiet (fail)
  clear hw1 hw2
  go_wp2_with fail
  clear c0 c1 c2 c3 c4 c5
  have Bl2 := Lib.hid (below_drewN Bl.out nq)
  clear Bl
  generalize v.drewN nq = v at Bl2 ⊢
  have HG := Lib.hid (gcdI (n1 * n2) (n3 * 1000) (by omega) (by omega) v)
  clear HR X0 X1 X2
  change Hid (Calls _ _ _ _ fun e w' => e = Ending.returned (Value.int .i64 (gcdI2 (n1 * n2) (n3 * 1000))) ∧ _) at HG
  generalize gcdI2 (n1 * n2) (n3 * 1000) = G at hg hd1 hd2 HV HG
  generalize n1 * n2 = N at hm hd1 HV HG
  refine HG.out.mono ?_
  clear HG
  rintro e w3 ⟨rfl, b3⟩
  have Bl := Lib.hid (Bl2.out.trans (b3.mono Bl2.out.size))
  clear b3 Bl2
  go_wp2_with fail
  have HM : Hid (∀ w, Calls Try.prog 85 #[.int .i64 (N / G), .int .i64 (n3 * 1000 / G)] w fun e w' => e = .returned (.tuple #[.int .i64 x, .int .i64 y, .bool b]) ∧ w = w') := Lib.hid (fun w => by have h := multForIt (N / G) (n3 * 1000 / G) w; rw [HV.out] at h; exact h)
  clear HV
  have hq1 : IntKind.i64.wrap (N.tdiv G) = N / G := IntWalk.i64_quo _ _ (by omega)
  have hq2 : IntKind.i64.wrap ((n3 * 1000).tdiv G) = n3 * 1000 / G := IntWalk.i64_quo _ _ (by omega)
  have hne : ¬ G = 0 := by omega
  have hne2 : (G == 0) = false := by simp; omega
  go_quiet ((go_at_call 85; exact Calls.quiet_of_same (flipv (HM.out _))))
  go_wp2_with fail
  go_ret3
  exact ⟨rfl, below_drewN Bl.out _⟩
end Qt
end Go.Proofs.Ytjdappmapkagjaa
