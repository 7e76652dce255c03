/- What SameModel of the program and of its model give when they are called. Conditions: the slices of layers read as the lists that are named. -/
import Derived.Test.YtklefnmhknlilaaQSameLay
import Derived.Test.YtklefnmhknlilaaQSame
import Derived.Test.YtklefnmhknlilaaQBaseB
import Derived.Outline
namespace Go.Proofs.Ytklefnmhknlilaa
open Go.RowKit Go.Sort
set_option linter.unusedSimpArgs false
set_option linter.unusedVariables false
namespace Qt
def sameY (a b : Lay) : Bool := sameL a.k a.o a.s a.t a.m a.f a.z b.k b.o b.s b.t b.m b.f b.z a.xs a.ys b.xs b.ys
def sameAt (l1 l2 : List Lay) (k : Nat) : Bool := match l1[k]?, l2[k]? with
  | some a, some b => sameY a b
  | _, _ => false
def sameUp (l1 l2 : List Lay) : Nat → Bool
  | 0 => true
  | k + 1 => sameUp l1 l2 k && sameAt l1 l2 k
def sameM (h w c : Int) (l1 : List Lay) (h2 w2 c2 : Int) (l2 : List Lay) : Bool := shEq h w c h2 w2 c2 && (decide (l1.length = l2.length) && sameUp l1 l2 l1.length)
theorem sameUp_stop {l1 l2 : List Lay} {k : Nat} (h : sameAt l1 l2 k = false) : ∀ n, k < n → sameUp l1 l2 n = false := by
  intro n
  induction n with
  | zero => intro hk; omega
  | succ n ih =>
    intro hk
    simp only [sameUp]
    by_cases e : k = n
    · subst e; rw [h]; simp
    · rw [ih (by omega)]; simp
theorem sameAt_eq {l1 l2 : List Lay} {k : Nat} {a b : Lay} (ha : l1[k]? = some a) (hb : l2[k]? = some b) : sameAt l1 l2 k = sameY a b := by simp [sameAt, ha, hb]
theorem eqlShape (h w c h2 w2 c2 : Int) (W : World) : (binOp .eql 29 (.agg #[.int .i64 h, .int .i64 w, .int .i64 c]) (.agg #[.int .i64 h2, .int .i64 w2, .int .i64 c2])).run Try.prog W = .ok (.bool (shEq h w c h2 w2 c2)) W := by
  have u3 := Try.underlying3
  have hS : Try.prog.underlying 29 = some (.struct (Try.prog.fieldsOf 29)) := by kernel_rfl
  have hp : Try.prog.stoodInHeld 29 = false := by kernel_rfl
  rw [run_eql_struct, show (10000 : Nat) = 9999 + 1 from rfl, run_equalIn_agg W 9999 29 _ _ hS hp]
  simp only [Program.fieldsOf, Try.underlying29]
  go_simp
  unfold shEq
  by_cases h1 : h = h2 <;> by_cases h3 : w = w2 <;> by_cases h4 : c = c2 <;> simp [h1, h3, h4]
/-- Two layers at hand, one in each list, with all that a call wants. -/
theorem two_at {w : World} {A A2 : Option Addr} {n n2 : Nat} {l1 l2 : List Lay} (h1 : RdL w A n l1) (h2 : RdL w A2 n2 l2) {k : Nat} (hk : k < n) (hk2 : k < n2) (hb : n + big l1 ≤ 1048576) (hb2 : n2 + big l2 ≤ 1048576) :
    ∃ b off k0 o s t m f z A' n' p' B' q' r' xs ys b2 off2 k1 o1 s1 t1 m1 f1 z1 A3 n3 p3 B3 q3 r3 xs2 ys2, A = some ⟨b, off, none⟩ ∧ A2 = some ⟨b2, off2, none⟩ ∧ b < w.heap.size ∧ b2 < w.heap.size ∧ LayAt w b (off + k * 9) ⟨k0, o, s, t, m, f, z, xs, ys⟩ ⟨A', n', p', B', q', r'⟩ ∧ LayAt w b2 (off2 + k * 9) ⟨k1, o1, s1, t1, m1, f1, z1, xs2, ys2⟩ ⟨A3, n3, p3, B3, q3, r3⟩ ∧
      n' ≤ 1048576 ∧ q' ≤ 1048576 ∧ n3 ≤ 1048576 ∧ q3 ≤ 1048576 ∧ sameAt l1 l2 k = sameL k0 o s t m f z k1 o1 s1 t1 m1 f1 z1 xs ys xs2 ys2 := by
  obtain ⟨b, off, k0, o, s, t, m, f, z, A', n', p', B', q', r', xs, ys, rfl, hbs, hj, hat⟩ := h1.at hk
  obtain ⟨b2, off2, k1, o1, s1, t1, m1, f1, z1, A3, n3, p3, B3, q3, r3, xs2, ys2, rfl, hbs2, hj2, hat2⟩ := h2.at hk2
  have e1 := big_at9 hj
  have e2 := big_at9 hj2
  have e3 := hat.lens
  have e4 := hat2.lens
  exact ⟨b, off, k0, o, s, t, m, f, z, A', n', p', B', q', r', xs, ys, b2, off2, k1, o1, s1, t1, m1, f1, z1, A3, n3, p3, B3, q3, r3, xs2, ys2, rfl, rfl, hbs, hbs2, hat, hat2, by omega, by omega, by omega, by omega, sameAt_eq hj hj2⟩
set_option maxRecDepth 100000 in
set_option maxHeartbeats 2000000 in
theorem equalFuncI (A A2 : Option Addr) (n p n2 p2 : Nat) (l1 l2 : List Lay) (W : World) (hr : RdL W A n l1) (hr2 : RdL W A2 n2 l2) (hn : n + big l1 ≤ 1048576) (hn2 : n2 + big l2 ≤ 1048576) :
    Calls Try.prog 57 #[.slice A n p, .slice A2 n2 p2, .func (.func 58) #[] #[]] W fun e W' => e = .returned (.bool (decide (l1.length = l2.length) && sameUp l1 l2 l1.length)) ∧ Below W.heap.size W W' := by
  obtain ⟨R, hR⟩ : ∃ R, (decide (l1.length = l2.length) && sameUp l1 l2 l1.length) = R := ⟨_, rfl⟩
  rw [hR, ]
  rw [hr.1, hr2.1] at hR
  have HR := Lib.hid hr
  have HR2 := Lib.hid hr2
  have HN := Lib.hid hn
  have HN2 := Lib.hid hn2
  have hb1 : (n : Int) ≤ 1048576 := by omega
  have hb2 : (n2 : Int) ≤ 1048576 := by omega
  have HRR := Lib.hid hR
  clear hr hr2 hn hn2 hR
  by_cases hne : n = n2
  case neg =>
    have hRF : Hid (R = false) := Lib.hid (by rw [← HRR.out]; simp [hne])
    have hi : ((n : Int) != (n2 : Int)) = true := by simp; omega
    go_enter Try.func57, Try.ntmps57
    go_wp2_with fail
    go_ret
    exact ⟨ret_bool hRF.out.symm, Below.refl _ _⟩
  subst hne
  have hRU : Hid (R = sameUp l1 l2 n) := Lib.hid (by rw [← HRR.out]; simp)
  go_enter Try.func57, Try.ntmps57
  go_wp2_with fail
  go_loopw [17] (fun i wr => ∃ k : Nat, k ≤ n ∧ i = .int .i64 k ∧ Hid (sameUp l1 l2 k = true) ∧ Hid (Below W.heap.size W wr)) (fun i _ => n - (intOf i).toNat)
  case atStart => exact ⟨0, Nat.zero_le _, rfl, Lib.hid rfl, Lib.hid (Below.refl _ _)⟩
  case round =>
    obtain ⟨k, hk, rfl, HU, HB⟩ := hrel
    by_cases hlt : k < n
    · obtain ⟨b, off, k0, o, s, t, m, f, z, A', n', p', B', q', r', xs, ys, bb, off2, k1, o1, s1, t1, m1, f1, z1, A3, n3, p3, B3, q3, r3, xs2, ys2, rfl, rfl, hbl, hbl2, hat, hat2, s_1, s_2, s_3, s_4, hsa⟩ := two_at (HR.out.of_below HB.out) (HR2.out.of_below HB.out) hlt hlt HN.out HN2.out
      obtain ⟨c0, c1, c2, c3, c4, c5, c6, c7, c8⟩ := hat.cells9
      obtain ⟨d0, d1, d2, d3, d4, d5, d6, d7, d8⟩ := hat2.cells9
      have HA := Lib.hid hat
      have HA2 := Lib.hid hat2
      have S1 := Lib.hid s_1
      have S2 := Lib.hid s_2
      have S3 := Lib.hid s_3
      have S4 := Lib.hid s_4
      have HSA := Lib.hid hsa
      have hi : (k : Int) < (n : Int) := by omega
      have BN := Lib.hid (((Below.refl _ wr).alloc (Nat.le_refl _) (.cells #[.int .i64 k0, .int .i64 o, .int .i64 s, .int .i64 t, .int .i64 m, .int .i64 f, .int .i64 z, .slice A' n' p', .slice B' q' r'] 62)).alloc (by simp) (.cells #[.int .i64 k1, .int .i64 o1, .int .i64 s1, .int .i64 t1, .int .i64 m1, .int .i64 f1, .int .i64 z1, .slice A3 n3 p3, .slice B3 q3 r3] 62))
      clear hat hat2 s_1 s_2 s_3 s_4 hsa
      go_wp2_with fail
      clear c0 c1 c2 c3 c4 c5 c6 c7 c8 d0 d1 d2 d3 d4 d5 d6 d7 d8 hbl hbl2
      have HC := sameLayI k0 o s t m f z A' n' p' xs B' q' r' ys k1 o1 s1 t1 m1 f1 z1 A3 n3 p3 xs2 B3 q3 r3 ys2 _ (HA.out.rds.1.of_below BN.out) (HA.out.rds.2.of_below BN.out) (HA2.out.rds.1.of_below BN.out) (HA2.out.rds.2.of_below BN.out) S1.out S2.out S3.out S4.out
      rw [← HSA.out] at HC
      with_reducible refine HC.mono ?_
      clear HC
      rintro e w2 ⟨rfl, b2⟩
      have HB2 := Lib.hid (HB.out.trans ((BN.out.trans (b2.mono BN.out.size)).mono HB.out.size))
      clear b2 BN
      rcases hx : sameAt l1 l2 k with _ | _
      · have hRF : Hid (R = false) := Lib.hid (by rw [hRU.out]; exact sameUp_stop hx n hlt)
        clear hx HSA
        go_wp2_with fail
        go_ret
        exact ⟨ret_bool hRF.out.symm, HB2.out⟩
      · have HU2 : Hid (sameUp l1 l2 (k + 1) = true) := Lib.hid (by simp only [sameUp]; rw [HU.out, hx]; rfl)
        clear hx HSA
        go_wp2_with fail
        go_roundw
        case rel => exact ⟨k + 1, by omega, by go_num, HU2, HB2⟩
        case measure => simp [intOf]; omega
    · obtain rfl : k = n := by omega
      go_wp2_with fail
      go_ret
      exact ⟨ret_bool (by rw [hRU.out, HU.out]), HB.out⟩
set_option maxRecDepth 10000 in
set_option maxHeartbeats 1000000 in
theorem sameModelI (h w c : Int) (A : Option Addr) (n p : Nat) (l1 : List Lay) (h2 w2 c2 : Int) (A2 : Option Addr) (n2 p2 : Nat) (l2 : List Lay) (W : World) (hr : RdL W A n l1) (hr2 : RdL W A2 n2 l2) (hn : n + big l1 ≤ 1048576) (hn2 : n2 + big l2 ≤ 1048576) :
    Calls Try.prog 33 #[.agg #[.int .i64 h, .int .i64 w, .int .i64 c, .slice A n p], .agg #[.int .i64 h2, .int .i64 w2, .int .i64 c2, .slice A2 n2 p2]] W fun e W' => e = .returned (.bool (sameM h w c l1 h2 w2 c2 l2)) ∧ Below W.heap.size W W' := by
  have b0 := ((Below.refl _ W).alloc (Nat.le_refl _) (.cells #[.int .i64 h, .int .i64 w, .int .i64 c, .slice A n p] 32)).alloc (by simp) (.cells #[.int .i64 h2, .int .i64 w2, .int .i64 c2, .slice A2 n2 p2] 32)
  have k0' := (Bk.new W 32 #[.int .i64 h, .int .i64 w, .int .i64 c, .slice A n p]).alloc (.cells #[.int .i64 h2, .int .i64 w2, .int .i64 c2, .slice A2 n2 p2] 32)
  have k1' := Bk.new (W.alloc (.cells #[.int .i64 h, .int .i64 w, .int .i64 c, .slice A n p] 32)) 32 #[.int .i64 h2, .int .i64 w2, .int .i64 c2, .slice A2 n2 p2]
  rw [World.size_alloc] at k1'
  have B0 := Lib.hid b0
  have K0 := Lib.hid k0'
  have K1 := Lib.hid k1'
  have HR := Lib.hid hr
  have HR2 := Lib.hid hr2
  have HN := Lib.hid hn
  have HN2 := Lib.hid hn2
  have hb1 : (n : Int) ≤ 1048576 := by omega
  have hb2 : (n2 : Int) ≤ 1048576 := by omega
  obtain ⟨R, hR⟩ : ∃ R, sameM h w c l1 h2 w2 c2 l2 = R := ⟨_, rfl⟩
  rw [hR]
  have HRR := Lib.hid hR
  clear hr hr2 hn hn2 hR b0 k0' k1'
  rcases hs : shEq h w c h2 w2 c2 with _ | _
  · have hq : ∀ W, (binOp .eql 29 (.agg #[.int .i64 h, .int .i64 w, .int .i64 c]) (.agg #[.int .i64 h2, .int .i64 w2, .int .i64 c2])).run Try.prog W = .ok (.bool false) W := fun W => by rw [eqlShape, hs]
    have hRF : Hid (R = false) := Lib.hid (by rw [← HRR.out, sameM, hs]; rfl)
    clear hs
    go_enter Try.func33, Try.ntmps33
    go_wp2_with fail
    go_ret
    exact ⟨ret_bool hRF.out.symm, B0.out⟩
  · have hq : ∀ W, (binOp .eql 29 (.agg #[.int .i64 h, .int .i64 w, .int .i64 c]) (.agg #[.int .i64 h2, .int .i64 w2, .int .i64 c2])).run Try.prog W = .ok (.bool true) W := fun W => by rw [eqlShape, hs]
    have hRF : Hid ((decide (l1.length = l2.length) && sameUp l1 l2 l1.length) = R) := Lib.hid (by rw [← HRR.out, sameM, hs]; rfl)
    clear hs
    go_enter Try.func33, Try.ntmps33
    go_wp2_with fail
    have HC := equalFuncI A A2 n p n2 p2 l1 l2 _ (HR.out.of_below B0.out) (HR2.out.of_below B0.out) HN.out HN2.out
    rw [hRF.out] at HC
    with_reducible refine HC.mono ?_
    clear HC
    rintro e w2 ⟨rfl, b2⟩
    have B2 := Lib.hid (B0.out.trans (b2.mono B0.out.size))
    clear b2
    go_wp2_with fail
    go_ret
    exact ⟨rfl, B2.out⟩
set_option maxRecDepth 100000 in
set_option maxHeartbeats 2000000 in
theorem sameModelS (h w c : Int) (A : Option Addr) (n p : Nat) (l1 : List Lay) (h2 w2 c2 : Int) (A2 : Option Addr) (n2 p2 : Nat) (l2 : List Lay) (W : World) (hr : RdL W A n l1) (hr2 : RdL W A2 n2 l2) (hn : n + big l1 ≤ 1048576) (hn2 : n2 + big l2 ≤ 1048576) :
    Calls Try.prog 32 #[.agg #[.int .i64 h, .int .i64 w, .int .i64 c, .slice A n p], .agg #[.int .i64 h2, .int .i64 w2, .int .i64 c2, .slice A2 n2 p2]] W fun e W' => e = .returned (.bool (sameM h w c l1 h2 w2 c2 l2)) ∧ Below W.heap.size W W' := by
  have b0 := ((Below.refl _ W).alloc (Nat.le_refl _) (.cells #[.int .i64 h, .int .i64 w, .int .i64 c, .slice A n p] 32)).alloc (by simp) (.cells #[.int .i64 h2, .int .i64 w2, .int .i64 c2, .slice A2 n2 p2] 32)
  have k0' := (Bk.new W 32 #[.int .i64 h, .int .i64 w, .int .i64 c, .slice A n p]).alloc (.cells #[.int .i64 h2, .int .i64 w2, .int .i64 c2, .slice A2 n2 p2] 32)
  have k1' := Bk.new (W.alloc (.cells #[.int .i64 h, .int .i64 w, .int .i64 c, .slice A n p] 32)) 32 #[.int .i64 h2, .int .i64 w2, .int .i64 c2, .slice A2 n2 p2]
  rw [World.size_alloc] at k1'
  have B0 := Lib.hid b0
  have K0 := Lib.hid k0'
  have K1 := Lib.hid k1'
  have HR := Lib.hid hr
  have HR2 := Lib.hid hr2
  have HN := Lib.hid hn
  have HN2 := Lib.hid hn2
  have hb1 : (n : Int) ≤ 1048576 := by omega
  have hb2 : (n2 : Int) ≤ 1048576 := by omega
  obtain ⟨R, hR⟩ : ∃ R, sameM h w c l1 h2 w2 c2 l2 = R := ⟨_, rfl⟩
  rw [hR]
  have HRR := Lib.hid hR
  clear hr hr2 hn hn2 hR b0 k0' k1'
  rcases hs : shEq h w c h2 w2 c2 with _ | _
  · have hq : ∀ W, (binOp .neq 29 (.agg #[.int .i64 h, .int .i64 w, .int .i64 c]) (.agg #[.int .i64 h2, .int .i64 w2, .int .i64 c2])).run Try.prog W = .ok (.bool true) W := fun W => by rw [neqShape, hs]; rfl
    have hRF : Hid (R = false) := Lib.hid (by rw [← HRR.out, sameM, hs]; rfl)
    clear hs
    go_enter Try.func32, Try.ntmps32
    go_wp2_with fail
    go_ret
    exact ⟨ret_bool hRF.out.symm, B0.out⟩
  have hq : ∀ W, (binOp .neq 29 (.agg #[.int .i64 h, .int .i64 w, .int .i64 c]) (.agg #[.int .i64 h2, .int .i64 w2, .int .i64 c2])).run Try.prog W = .ok (.bool false) W := fun W => by rw [neqShape, hs]; rfl
  by_cases hne : n = n2
  case neg =>
    have hRF : Hid (R = false) := Lib.hid (by rw [← HRR.out, sameM, HR.out.1, HR2.out.1]; simp [hne])
    have hi : ((n : Int) != (n2 : Int)) = true := by simp; omega
    clear hs
    go_enter Try.func32, Try.ntmps32
    go_wp2_with fail
    go_ret
    exact ⟨ret_bool hRF.out.symm, B0.out⟩
  subst hne
  have hRU : Hid (R = sameUp l1 l2 n) := Lib.hid (by rw [← HRR.out, sameM, HR.out.1, HR2.out.1, hs]; simp)
  clear hs
  go_enter Try.func32, Try.ntmps32
  go_wp2_with fail
  clear hq
  generalize (W.alloc (.cells #[.int .i64 h, .int .i64 w, .int .i64 c, .slice A n p] 32)).alloc (.cells #[.int .i64 h2, .int .i64 w2, .int .i64 c2, .slice A2 n p2] 32) = u0 at B0 K0 K1 ⊢
  generalize hgK : W.heap.size + 1 = gK at K1 ⊢
  clear hgK
  go_loopw [5] (fun i wr => ∃ k : Nat, k ≤ n ∧ i = .int .i64 k ∧ Hid (sameUp l1 l2 k = true) ∧ Hid (Below u0.heap.size u0 wr)) (fun i _ => n - (intOf i).toNat)
  case atStart => exact ⟨0, Nat.zero_le _, rfl, Lib.hid rfl, Lib.hid (Below.refl _ _)⟩
  case round =>
    obtain ⟨k, hk, rfl, HU, HB⟩ := hrel
    obtain ⟨a0, a1, a2, a3⟩ := (K0.out.below HB.out).cell4
    obtain ⟨e0, e1, e2, e3⟩ := (K1.out.below HB.out).cell4
    have HBW := Lib.hid (B0.out.trans (HB.out.mono B0.out.size))
    by_cases hlt : k < n
    · obtain ⟨b, off, k0, o, s, t, m, f, z, A', n', p', B', q', r', xs, ys, bb, off2, k1, o1, s1, t1, m1, f1, z1, A3, n3, p3, B3, q3, r3, xs2, ys2, rfl, rfl, hbl, hbl2, hat, hat2, s_1, s_2, s_3, s_4, hsa⟩ := two_at (HR.out.of_below HBW.out) (HR2.out.of_below HBW.out) hlt hlt HN.out HN2.out
      obtain ⟨c0, c1, c2, c3, c4, c5, c6, c7, c8⟩ := hat.cells9
      obtain ⟨d0, d1, d2, d3, d4, d5, d6, d7, d8⟩ := hat2.cells9
      have HA := Lib.hid hat
      have HA2 := Lib.hid hat2
      have S1 := Lib.hid s_1
      have S2 := Lib.hid s_2
      have S3 := Lib.hid s_3
      have S4 := Lib.hid s_4
      have HSA := Lib.hid hsa
      have hi : (k : Int) < (n : Int) := by omega
      clear hat hat2 s_1 s_2 s_3 s_4 hsa hbl hbl2
      go_wp2_with fail
      replace c0 := cell_regrown c0
      replace c1 := cell_regrown c1
      replace c2 := cell_regrown c2
      replace c3 := cell_regrown c3
      replace c4 := cell_regrown c4
      replace c5 := cell_regrown c5
      replace c6 := cell_regrown c6
      replace c7 := cell_regrown c7
      replace c8 := cell_regrown c8
      replace d0 := cell_regrown d0
      replace d1 := cell_regrown d1
      replace d2 := cell_regrown d2
      replace d3 := cell_regrown d3
      replace d4 := cell_regrown d4
      replace d5 := cell_regrown d5
      replace d6 := cell_regrown d6
      replace d7 := cell_regrown d7
      replace d8 := cell_regrown d8
      replace a3 := cell_regrown a3
      replace e3 := cell_regrown e3
      clear a0 a1 a2 e0 e1 e2
      have q0 := Lib.hid (fun dd os => Calls.regrown_of (sameLayS k0 o s t m f z A' n' p' xs B' q' r' ys k1 o1 s1 t1 m1 f1 z1 A3 n3 p3 xs2 B3 q3 r3 ys2 (grow (redrawn wr dd) os) (HA.out.rds.1.of_below (below_regrown wr dd os)) (HA.out.rds.2.of_below (below_regrown wr dd os)) (HA2.out.rds.1.of_below (below_regrown wr dd os)) (HA2.out.rds.2.of_below (below_regrown wr dd os)) S1.out S2.out S3.out S4.out))
      rw [← HSA.out] at q0
      refine wp_region_quiet_below mixed (by kernel_rfl) ?_
      repeat (go_big_quiet_step (first | with_reducible exact q0.out _ _))
      refine wpQuiet_nil ?_
      intro _ hw'
      obtain ⟨⟨dq, osq⟩, rfl⟩ := hw'
      have HB2 := Lib.hid (HB.out.trans ((below_regrown wr dq osq).mono HB.out.size))
      clear c0 c1 c2 c3 c4 c5 c6 c7 c8 d0 d1 d2 d3 d4 d5 d6 d7 d8 a3 e3 q0 HBW
      generalize grow (redrawn wr dq) osq = u9 at HB2 ⊢
      rcases hx : sameAt l1 l2 k with _ | _
      · have hRF : Hid (R = false) := Lib.hid (by rw [hRU.out]; exact sameUp_stop hx n hlt)
        clear hx HSA
        go_wp2_with fail
        go_ret
        exact ⟨ret_bool hRF.out.symm, B0.out.trans (HB2.out.mono B0.out.size)⟩
      · have HU2 : Hid (sameUp l1 l2 (k + 1) = true) := Lib.hid (by simp only [sameUp]; rw [HU.out, hx]; rfl)
        clear hx HSA
        go_wp2_with fail
        go_roundw
        case rel => exact ⟨k + 1, by omega, by go_num, HU2, HB2⟩
        case measure => simp [intOf]; omega
    · obtain rfl : k = n := by omega
      go_wp2_with fail
      go_ret
      exact ⟨ret_bool (by rw [hRU.out, HU.out]), HBW.out⟩
end Qt
end Go.Proofs.Ytklefnmhknlilaa
