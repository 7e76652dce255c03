/- What SameStep (of the program and of its model) gives when it is called. Conditions: the slices read as the lists that are named. -/
import Derived.Test.YthkjmdboflngaaaByEq
import Derived.Test.YthkjmdboflngaaaIntEq
import Derived.Test.YthkjmdboflngaaaStepEq
namespace Go.Proofs.Ythkjmdboflngaaa
open Go.RowKit Go.Sort
set_option linter.unusedSimpArgs false
set_option linter.unusedVariables false
namespace Qt
def sameSt (k a b h w c : Int) (bs xs : List Int) (k2 a2 b2 h2 w2 c2 : Int) (bs2 ys : List Int) : Bool :=
  decide (k = k2) && (decide (a = a2) && (decide (b = b2) && (decide (bs = bs2) && (shEq h w c h2 w2 c2 && decide (xs = ys)))))
theorem eqlShape (h w c h2 w2 c2 : Int) (W : World) : (binOp .eql 33 (.agg #[.int .i64 h, .int .i64 w, .int .i64 c]) (.agg #[.int .i64 h2, .int .i64 w2, .int .i64 c2])).run Try.prog W = .ok (.bool (shEq h w c h2 w2 c2)) W := by
  have u3 := Try.underlying3
  have hS : Try.prog.underlying 33 = some (.struct (Try.prog.fieldsOf 33)) := by kernel_rfl
  have hp : Try.prog.stoodInHeld 33 = false := by kernel_rfl
  rw [run_eql_struct, show (10000 : Nat) = 9999 + 1 from rfl, run_equalIn_agg W 9999 33 _ _ hS hp]
  simp only [Program.fieldsOf, Try.underlying33]
  go_simp
  unfold shEq
  by_cases h1 : h = h2 <;> by_cases h3 : w = w2 <;> by_cases h4 : c = c2 <;> simp [h1, h3, h4]
set_option maxRecDepth 10000 in
set_option maxHeartbeats 2000000 in
theorem sameStepS (k a b h w c : Int) (A : Option Addr) (n p : Nat) (bs : List Int) (B : Option Addr) (q r : Nat) (xs : List Int) (k2 a2 b2 h2 w2 c2 : Int) (A2 : Option Addr) (n2 p2 : Nat) (bs2 : List Int) (B2 : Option Addr) (q2 r2 : Nat) (ys : List Int) (W : World) (ra : RdB8 W A n bs) (rb : RdI W B q xs) (ra2 : RdB8 W A2 n2 bs2) (rb2 : RdI W B2 q2 ys) (hn : n ≤ 1048576) (hq : q ≤ 1048576) (hn2 : n2 ≤ 1048576) (hq2 : q2 ≤ 1048576) :
    Calls Try.prog 33 #[.agg #[.int .i64 k, .int .i64 a, .int .i64 b, .slice A n p, .int .i64 h, .int .i64 w, .int .i64 c, .slice B q r], .agg #[.int .i64 k2, .int .i64 a2, .int .i64 b2, .slice A2 n2 p2, .int .i64 h2, .int .i64 w2, .int .i64 c2, .slice B2 q2 r2]] W fun e W' => e = .returned (.bool (sameSt k a b h w c bs xs k2 a2 b2 h2 w2 c2 bs2 ys)) ∧ Below W.heap.size W W' := by
  have k0 := (Bk.new W 37 #[.int .i64 k, .int .i64 a, .int .i64 b, .slice A n p, .int .i64 h, .int .i64 w, .int .i64 c, .slice B q r]).alloc (.cells #[.int .i64 k2, .int .i64 a2, .int .i64 b2, .slice A2 n2 p2, .int .i64 h2, .int .i64 w2, .int .i64 c2, .slice B2 q2 r2] 37)
  have k1 := Bk.new (W.alloc (.cells #[.int .i64 k, .int .i64 a, .int .i64 b, .slice A n p, .int .i64 h, .int .i64 w, .int .i64 c, .slice B q r] 37)) 37 #[.int .i64 k2, .int .i64 a2, .int .i64 b2, .slice A2 n2 p2, .int .i64 h2, .int .i64 w2, .int .i64 c2, .slice B2 q2 r2]
  have b0 := ((Below.refl _ W).alloc (Nat.le_refl _) (.cells #[.int .i64 k, .int .i64 a, .int .i64 b, .slice A n p, .int .i64 h, .int .i64 w, .int .i64 c, .slice B q r] 37)).alloc (by simp) (.cells #[.int .i64 k2, .int .i64 a2, .int .i64 b2, .slice A2 n2 p2, .int .i64 h2, .int .i64 w2, .int .i64 c2, .slice B2 q2 r2] 37)
  simp only [World.size_alloc] at k1
  have R1 := Lib.hid (ra.of_below b0)
  have R2 := Lib.hid (ra2.of_below b0)
  have S1 := Lib.hid (rb.of_below b0)
  have S2 := Lib.hid (rb2.of_below b0)
  have HN := Lib.hid hn
  have HQ := Lib.hid hq
  have HN2 := Lib.hid hn2
  have HQ2 := Lib.hid hq2
  have K0 := Lib.hid k0; have K1 := Lib.hid k1; have Bl := Lib.hid b0
  obtain ⟨R, hR⟩ : ∃ R, R = sameSt k a b h w c bs xs k2 a2 b2 h2 w2 c2 bs2 ys := ⟨_, rfl⟩
  rw [← hR]
  have HR := Lib.hid hR
  clear ra rb ra2 rb2 hn hq hn2 hq2 k0 k1 b0 hR
  go_enter Try.func33, Try.ntmps33
  by_cases hx : k = k2
  case neg =>
    obtain rfl : R = false := by rw [HR.out]; simp [sameSt, hx]
    obtain ⟨c0, c1, c2', c3, c4, c5, c6, c7⟩ := K0.out.cell8
    obtain ⟨d0, d1, d2, d3, d4, d5, d6, d7⟩ := K1.out.cell8
    go_wp2_with fail
    go_ret
    exact ⟨rfl, Bl.out⟩
  subst hx
  by_cases hx : a = a2
  case neg =>
    obtain rfl : R = false := by rw [HR.out]; simp [sameSt, hx]
    obtain ⟨c0, c1, c2', c3, c4, c5, c6, c7⟩ := K0.out.cell8
    obtain ⟨d0, d1, d2, d3, d4, d5, d6, d7⟩ := K1.out.cell8
    go_wp2_with fail
    go_ret
    exact ⟨rfl, Bl.out⟩
  subst hx
  by_cases hx : b = b2
  case neg =>
    obtain rfl : R = false := by rw [HR.out]; simp [sameSt, hx]
    obtain ⟨c0, c1, c2', c3, c4, c5, c6, c7⟩ := K0.out.cell8
    obtain ⟨d0, d1, d2, d3, d4, d5, d6, d7⟩ := K1.out.cell8
    go_wp2_with fail
    go_ret
    exact ⟨rfl, Bl.out⟩
  subst hx
  obtain ⟨c0, c1, c2', c3, c4, c5, c6, c7⟩ := K0.out.cell8
  obtain ⟨d0, d1, d2, d3, d4, d5, d6, d7⟩ := K1.out.cell8
  go_wp2_with fail
  generalize hv : (W.alloc (.cells #[.int .i64 k, .int .i64 a, .int .i64 b, .slice A n p, .int .i64 h, .int .i64 w, .int .i64 c, .slice B q r] 37)).alloc (.cells #[.int .i64 k, .int .i64 a, .int .i64 b, .slice A2 n2 p2, .int .i64 h2, .int .i64 w2, .int .i64 c2, .slice B2 q2 r2] 37) = v at R1 R2 S1 S2 K0 K1 Bl c0 c1 c2' c3 c4 c5 c6 c7 d0 d1 d2 d3 d4 d5 d6 d7 ⊢
  generalize hg1 : W.heap.size + 1 = g1 at K1 d0 d1 d2 d3 d4 d5 d6 d7 ⊢
  clear hv hg1
  refine (sameByS _ _ _ _ _ _ bs bs2 _ R1.out R2.out HN.out HN2.out).mono ?_
  rintro e w1 ⟨rfl, mm, hmm⟩
  have bb := below_drewN (Below.refl v.heap.size v) mm
  rw [← hmm] at bb
  clear hmm
  replace K0 := Lib.hid (K0.out.below bb)
  replace K1 := Lib.hid (K1.out.below bb)
  replace S1 := Lib.hid (S1.out.of_below bb)
  replace S2 := Lib.hid (S2.out.of_below bb)
  replace Bl := Lib.hid (Bl.out.trans (bb.mono Bl.out.size))
  clear bb R1 R2 c0 c1 c2' c3 c4 c5 c6 c7 d0 d1 d2 d3 d4 d5 d6 d7
  by_cases hx : bs = bs2
  case neg =>
    obtain rfl : R = false := by rw [HR.out]; simp [sameSt, hx]
    have hd : decide (bs = bs2) = false := by simp [hx]
    rw [hd]
    go_wp2_with fail
    go_ret
    exact ⟨rfl, Bl.out⟩
  have hd : decide (bs = bs2) = true := by simp [hx]
  rw [hd]
  clear hd
  obtain ⟨c0, c1, c2', c3, c4, c5, c6, c7⟩ := K0.out.cell8
  obtain ⟨d0, d1, d2, d3, d4, d5, d6, d7⟩ := K1.out.cell8
  rcases hs : shEq h w c h2 w2 c2 with _ | _
  · obtain rfl : R = false := by rw [HR.out]; simp [sameSt, hs]
    have hq : ∀ W, (binOp .eql 33 (.agg #[.int .i64 h, .int .i64 w, .int .i64 c]) (.agg #[.int .i64 h2, .int .i64 w2, .int .i64 c2])).run Try.prog W = .ok (.bool false) W := fun W => by rw [eqlShape, hs]
    clear hs
    go_wp2_with fail
    go_ret
    exact ⟨rfl, Bl.out⟩
  have hq : ∀ W, (binOp .eql 33 (.agg #[.int .i64 h, .int .i64 w, .int .i64 c]) (.agg #[.int .i64 h2, .int .i64 w2, .int .i64 c2])).run Try.prog W = .ok (.bool true) W := fun W => by rw [eqlShape, hs]
  obtain rfl : R = decide (xs = ys) := by rw [HR.out]; simp [sameSt, hx, hs]
  clear hs hx HR
  go_wp2_with fail
  refine (sameInt _ _ _ _ _ _ xs ys _ S1.out S2.out HQ.out HQ2.out).mono ?_
  rintro e w5 ⟨rfl, mm, hmm⟩
  have bb := below_drewN (Below.refl w1.heap.size w1) mm
  rw [← hmm] at bb
  replace Bl := Lib.hid (Bl.out.trans (bb.mono Bl.out.size))
  clear bb hmm c0 c1 c2' c3 c4 c5 c6 c7 d0 d1 d2 d3 d4 d5 d6 d7 hq
  go_wp2_with fail
  go_ret
  exact ⟨rfl, Bl.out⟩
set_option maxRecDepth 10000 in
set_option maxHeartbeats 2000000 in
theorem sameStepI (k a b h w c : Int) (A : Option Addr) (n p : Nat) (bs : List Int) (B : Option Addr) (q r : Nat) (xs : List Int) (k2 a2 b2 h2 w2 c2 : Int) (A2 : Option Addr) (n2 p2 : Nat) (bs2 : List Int) (B2 : Option Addr) (q2 r2 : Nat) (ys : List Int) (W : World) (ra : RdB8 W A n bs) (rb : RdI W B q xs) (ra2 : RdB8 W A2 n2 bs2) (rb2 : RdI W B2 q2 ys) (hn : n ≤ 1048576) (hq : q ≤ 1048576) (hn2 : n2 ≤ 1048576) (hq2 : q2 ≤ 1048576) (hb : ByB bs) (hb2 : ByB bs2) :
    Calls Try.prog 34 #[.agg #[.int .i64 k, .int .i64 a, .int .i64 b, .slice A n p, .int .i64 h, .int .i64 w, .int .i64 c, .slice B q r], .agg #[.int .i64 k2, .int .i64 a2, .int .i64 b2, .slice A2 n2 p2, .int .i64 h2, .int .i64 w2, .int .i64 c2, .slice B2 q2 r2]] W fun e W' => e = .returned (.bool (sameSt k a b h w c bs xs k2 a2 b2 h2 w2 c2 bs2 ys)) ∧ Below W.heap.size W W' := by
  have k0 := (Bk.new W 37 #[.int .i64 k, .int .i64 a, .int .i64 b, .slice A n p, .int .i64 h, .int .i64 w, .int .i64 c, .slice B q r]).alloc (.cells #[.int .i64 k2, .int .i64 a2, .int .i64 b2, .slice A2 n2 p2, .int .i64 h2, .int .i64 w2, .int .i64 c2, .slice B2 q2 r2] 37)
  have k1 := Bk.new (W.alloc (.cells #[.int .i64 k, .int .i64 a, .int .i64 b, .slice A n p, .int .i64 h, .int .i64 w, .int .i64 c, .slice B q r] 37)) 37 #[.int .i64 k2, .int .i64 a2, .int .i64 b2, .slice A2 n2 p2, .int .i64 h2, .int .i64 w2, .int .i64 c2, .slice B2 q2 r2]
  have b0 := ((Below.refl _ W).alloc (Nat.le_refl _) (.cells #[.int .i64 k, .int .i64 a, .int .i64 b, .slice A n p, .int .i64 h, .int .i64 w, .int .i64 c, .slice B q r] 37)).alloc (by simp) (.cells #[.int .i64 k2, .int .i64 a2, .int .i64 b2, .slice A2 n2 p2, .int .i64 h2, .int .i64 w2, .int .i64 c2, .slice B2 q2 r2] 37)
  simp only [World.size_alloc] at k1
  have R1 := Lib.hid (ra.of_below b0)
  have R2 := Lib.hid (ra2.of_below b0)
  have S1 := Lib.hid (rb.of_below b0)
  have S2 := Lib.hid (rb2.of_below b0)
  have HN := Lib.hid hn
  have HQ := Lib.hid hq
  have HN2 := Lib.hid hn2
  have HQ2 := Lib.hid hq2
  have HB := Lib.hid hb
  have HB2 := Lib.hid hb2
  clear hb hb2
  have K0 := Lib.hid k0; have K1 := Lib.hid k1; have Bl := Lib.hid b0
  obtain ⟨R, hR⟩ : ∃ R, R = sameSt k a b h w c bs xs k2 a2 b2 h2 w2 c2 bs2 ys := ⟨_, rfl⟩
  rw [← hR]
  have HR := Lib.hid hR
  clear ra rb ra2 rb2 hn hq hn2 hq2 k0 k1 b0 hR
  go_enter Try.func34, Try.ntmps34
  by_cases hx : k = k2
  case neg =>
    obtain rfl : R = false := by rw [HR.out]; simp [sameSt, hx]
    obtain ⟨c0, c1, c2', c3, c4, c5, c6, c7⟩ := K0.out.cell8
    obtain ⟨d0, d1, d2, d3, d4, d5, d6, d7⟩ := K1.out.cell8
    go_wp2_with fail
    go_ret
    exact ⟨rfl, Bl.out⟩
  subst hx
  by_cases hx : a = a2
  case neg =>
    obtain rfl : R = false := by rw [HR.out]; simp [sameSt, hx]
    obtain ⟨c0, c1, c2', c3, c4, c5, c6, c7⟩ := K0.out.cell8
    obtain ⟨d0, d1, d2, d3, d4, d5, d6, d7⟩ := K1.out.cell8
    go_wp2_with fail
    go_ret
    exact ⟨rfl, Bl.out⟩
  subst hx
  by_cases hx : b = b2
  case neg =>
    obtain rfl : R = false := by rw [HR.out]; simp [sameSt, hx]
    obtain ⟨c0, c1, c2', c3, c4, c5, c6, c7⟩ := K0.out.cell8
    obtain ⟨d0, d1, d2, d3, d4, d5, d6, d7⟩ := K1.out.cell8
    go_wp2_with fail
    go_ret
    exact ⟨rfl, Bl.out⟩
  subst hx
  obtain ⟨c0, c1, c2', c3, c4, c5, c6, c7⟩ := K0.out.cell8
  obtain ⟨d0, d1, d2, d3, d4, d5, d6, d7⟩ := K1.out.cell8
  go_wp2_with fail
  generalize hv : (W.alloc (.cells #[.int .i64 k, .int .i64 a, .int .i64 b, .slice A n p, .int .i64 h, .int .i64 w, .int .i64 c, .slice B q r] 37)).alloc (.cells #[.int .i64 k, .int .i64 a, .int .i64 b, .slice A2 n2 p2, .int .i64 h2, .int .i64 w2, .int .i64 c2, .slice B2 q2 r2] 37) = v at R1 R2 S1 S2 K0 K1 Bl c0 c1 c2' c3 c4 c5 c6 c7 d0 d1 d2 d3 d4 d5 d6 d7 ⊢
  generalize hg1 : W.heap.size + 1 = g1 at K1 d0 d1 d2 d3 d4 d5 d6 d7 ⊢
  clear hv hg1
  refine (bytesEqI _ _ _ _ _ _ bs bs2 _ R1.out R2.out HB.out HB2.out).mono ?_
  rintro e w1 ⟨rfl, rfl⟩
  have bb := Below.refl v.heap.size v
  replace K0 := Lib.hid (K0.out.below bb)
  replace K1 := Lib.hid (K1.out.below bb)
  replace S1 := Lib.hid (S1.out.of_below bb)
  replace S2 := Lib.hid (S2.out.of_below bb)
  replace Bl := Lib.hid (Bl.out.trans (bb.mono Bl.out.size))
  clear bb R1 R2 c0 c1 c2' c3 c4 c5 c6 c7 d0 d1 d2 d3 d4 d5 d6 d7
  by_cases hx : bs = bs2
  case neg =>
    obtain rfl : R = false := by rw [HR.out]; simp [sameSt, hx]
    have hd : decide (bs = bs2) = false := by simp [hx]
    rw [hd]
    go_wp2_with fail
    go_ret
    exact ⟨rfl, Bl.out⟩
  have hd : decide (bs = bs2) = true := by simp [hx]
  rw [hd]
  clear hd
  obtain ⟨c0, c1, c2', c3, c4, c5, c6, c7⟩ := K0.out.cell8
  obtain ⟨d0, d1, d2, d3, d4, d5, d6, d7⟩ := K1.out.cell8
  rcases hs : shEq h w c h2 w2 c2 with _ | _
  · obtain rfl : R = false := by rw [HR.out]; simp [sameSt, hs]
    have hq : ∀ W, (binOp .eql 33 (.agg #[.int .i64 h, .int .i64 w, .int .i64 c]) (.agg #[.int .i64 h2, .int .i64 w2, .int .i64 c2])).run Try.prog W = .ok (.bool false) W := fun W => by rw [eqlShape, hs]
    clear hs
    go_wp2_with fail
    go_ret
    exact ⟨rfl, Bl.out⟩
  have hq : ∀ W, (binOp .eql 33 (.agg #[.int .i64 h, .int .i64 w, .int .i64 c]) (.agg #[.int .i64 h2, .int .i64 w2, .int .i64 c2])).run Try.prog W = .ok (.bool true) W := fun W => by rw [eqlShape, hs]
  obtain rfl : R = decide (xs = ys) := by rw [HR.out]; simp [sameSt, hx, hs]
  clear hs hx HR
  go_wp2_with fail
  refine (equalInt _ _ _ _ _ _ xs ys _ S1.out S2.out HQ.out HQ2.out).mono ?_
  rintro e w5 ⟨rfl, mm, hmm⟩
  have bb := below_drewN (Below.refl v.heap.size v) mm
  rw [← hmm] at bb
  replace Bl := Lib.hid (Bl.out.trans (bb.mono Bl.out.size))
  clear bb hmm c0 c1 c2' c3 c4 c5 c6 c7 d0 d1 d2 d3 d4 d5 d6 d7 hq
  go_wp2_with fail
  go_ret
  exact ⟨rfl, Bl.out⟩
end Qt
end Go.Proofs.Ythkjmdboflngaaa
