/- What the laws' own helpers eqStep, eqStepS give when they are called over two that read alike. Conditions: the slices read as the lists that are named. -/
import Derived.Test.YtalkoaahhkafaaaStepSz
import Derived.Lib.QuietBelow
namespace Go.Proofs.Ytalkoaahhkafaaa
open Go.RowKit Go.Sort
set_option linter.unusedSimpArgs false
set_option linter.unusedVariables false
namespace Qt
set_option maxHeartbeats 1000000 in
theorem eqStep_same (k a b h w c : Int) (A : Option Addr) (n p : Nat) (B : Option Addr) (q r : Nat) (A2 : Option Addr) (p2 : Nat) (B2 : Option Addr) (r2 : Nat) (bs xs : List Int) (W : World) (ra : RdB8 W A n bs) (rb : RdI W B q xs) (ra2 : RdB8 W A2 n bs) (rb2 : RdI W B2 q xs) (hn : n ≤ 1048576) (hq : q ≤ 1048576) :
    Calls Try.prog 39 #[.agg #[.int .i64 k, .int .i64 a, .int .i64 b, .slice A n p, .int .i64 h, .int .i64 w, .int .i64 c, .slice B q r], .agg #[.int .i64 k, .int .i64 a, .int .i64 b, .slice A2 n p2, .int .i64 h, .int .i64 w, .int .i64 c, .slice B2 q r2]] W fun e W' => e = .returned (.bool true) ∧ Below W.heap.size W W' := by
  have k0 := (Bk.new W 59 #[.int .i64 k, .int .i64 a, .int .i64 b, .slice A n p, .int .i64 h, .int .i64 w, .int .i64 c, .slice B q r]).alloc (.cells #[.int .i64 k, .int .i64 a, .int .i64 b, .slice A2 n p2, .int .i64 h, .int .i64 w, .int .i64 c, .slice B2 q r2] 59)
  have k1 := Bk.new (W.alloc (.cells #[.int .i64 k, .int .i64 a, .int .i64 b, .slice A n p, .int .i64 h, .int .i64 w, .int .i64 c, .slice B q r] 59)) 59 #[.int .i64 k, .int .i64 a, .int .i64 b, .slice A2 n p2, .int .i64 h, .int .i64 w, .int .i64 c, .slice B2 q r2]
  have b0 := ((Below.refl _ W).alloc (Nat.le_refl _) (.cells #[.int .i64 k, .int .i64 a, .int .i64 b, .slice A n p, .int .i64 h, .int .i64 w, .int .i64 c, .slice B q r] 59)).alloc (by simp) (.cells #[.int .i64 k, .int .i64 a, .int .i64 b, .slice A2 n p2, .int .i64 h, .int .i64 w, .int .i64 c, .slice B2 q r2] 59)
  simp only [World.size_alloc] at k1
  have R1 := Lib.hid (ra.of_below b0)
  have R2 := Lib.hid (ra2.of_below b0)
  have S1 := Lib.hid (rb.of_below b0)
  have S2 := Lib.hid (rb2.of_below b0)
  have HN := Lib.hid hn
  have HQ := Lib.hid hq
  have K0 := Lib.hid k0; have K1 := Lib.hid k1; have Bl := Lib.hid b0
  obtain ⟨c0, c1, c2, c3, c4, c5, c6, c7⟩ := k0.cell8
  obtain ⟨d0, d1, d2, d3, d4, d5, d6, d7⟩ := k1.cell8
  clear ra rb ra2 rb2 hn hq k0 k1 b0
  go_enter Try.func39, Try.ntmps39
  go_wp2_with fail
  generalize (W.alloc (.cells #[.int .i64 k, .int .i64 a, .int .i64 b, .slice A n p, .int .i64 h, .int .i64 w, .int .i64 c, .slice B q r] 59)).alloc (.cells #[.int .i64 k, .int .i64 a, .int .i64 b, .slice A2 n p2, .int .i64 h, .int .i64 w, .int .i64 c, .slice B2 q r2] 59) = v at R1 R2 S1 S2 K0 K1 Bl ⊢
  generalize W.heap.size + 1 = g1 at K1 ⊢
  refine (eqByteS_same _ _ _ _ _ bs _ R1.out R2.out HN.out).mono ?_
  rintro e w2 ⟨rfl, mm, hmm⟩
  have bb := below_drewN (Below.refl v.heap.size v) mm
  rw [← hmm] at bb
  replace K0 := Lib.hid (K0.out.below bb)
  replace K1 := Lib.hid (K1.out.below bb)
  replace S1 := Lib.hid (S1.out.of_below bb)
  replace S2 := Lib.hid (S2.out.of_below bb)
  replace Bl := Lib.hid (Bl.out.trans (bb.mono Bl.out.size))
  clear bb hmm R1 R2 c0 c1 c2 c3 c4 c5 c6 c7 d0 d1 d2 d3 d4 d5 d6 d7
  obtain ⟨c0, c1, c2, c3, c4, c5, c6, c7⟩ := K0.out.cell8
  obtain ⟨d0, d1, d2, d3, d4, d5, d6, d7⟩ := K1.out.cell8
  go_wp2_with fail
  refine (eqTensor_same h w c _ _ _ _ _ xs _ S1.out S2.out HQ.out).mono ?_
  rintro e w3 ⟨rfl, bb⟩
  replace Bl := Lib.hid (Bl.out.trans (bb.mono Bl.out.size))
  clear bb c0 c1 c2 c3 c4 c5 c6 c7 d0 d1 d2 d3 d4 d5 d6 d7
  go_wp2_with fail
  go_ret
  exact ⟨rfl, Bl.out⟩
set_option maxRecDepth 10000 in
theorem eqStepS_same (A A2 : Option Addr) (n p p2 : Nat) (ls : List Stp) (W : World) (hr : RdSt W A n ls) (hr2 : RdSt W A2 n ls) (hn : n + bigS ls ≤ 1048576) :
    Calls Try.prog 16 #[.slice A n p, .slice A2 n p2] W fun e W' => e = .returned (.bool true) ∧ Below W.heap.size W W' := by
  have HR := Lib.hid hr
  have HR2 := Lib.hid hr2
  have HN := Lib.hid hn
  have hn1 : (n : Int) ≤ 1048576 := by omega
  clear hr hr2 hn
  go_enter Try.func16, Try.ntmps16
  go_wp2_with fail
  go_loopw [5] (fun i wr => ∃ k : Nat, k ≤ n ∧ i = .int .i64 k ∧ Below W.heap.size W wr) (fun i _ => n - (intOf i).toNat)
  case atStart => exact ⟨0, Nat.zero_le _, rfl, Below.refl _ _⟩
  case round =>
    obtain ⟨k, hk, rfl, hb⟩ := hrel
    have HB := Lib.hid hb
    clear hb
    by_cases hlt : k < n
    · obtain ⟨b, off, k', a', b', h', w', c', A', n', p', B', q', r', bs, xs, rfl, hbs, hj, hat⟩ := (HR.out.of_below HB.out).at hlt
      obtain ⟨b2, off2, rfl, hbs2, hc2⟩ := (HR2.out.of_below HB.out).2 (by omega)
      obtain ⟨⟨A3, n3, p3, B3, q3, r3⟩, hat2⟩ := hc2 k _ hj
      obtain ⟨c0, c1, c2, c3, c4, c5, c6, c7⟩ := hat.cells8
      obtain ⟨d0, d1, d2, d3, d4, d5, d6, d7⟩ := hat2.cells8
      have hbig := bigS_at8 hj
      have hle := hat.lens
      have hle2 := hat2.lens
      have hn2 : n' ≤ 1048576 := by have := HN.out; omega
      have hq2 : q' ≤ 1048576 := by have := HN.out; omega
      obtain rfl : n3 = n' := by omega
      obtain rfl : q3 = q' := by omega
      have R1 := Lib.hid hat.rds.1
      have R2 := Lib.hid hat.rds.2
      have R3 := Lib.hid hat2.rds.1
      have R4 := Lib.hid hat2.rds.2
      have HN2 := Lib.hid hn2
      have HQ2 := Lib.hid hq2
      clear hat hat2 hj hbs hbs2 hc2 hbig hn2 hq2 hle hle2
      have hi : (k : Int) < (n : Int) := by omega
      go_wp2_with fail
      replace c0 := cell_regrown c0
      replace c1 := cell_regrown c1
      replace c2 := cell_regrown c2
      replace c3 := cell_regrown c3
      replace c4 := cell_regrown c4
      replace c5 := cell_regrown c5
      replace c6 := cell_regrown c6
      replace c7 := cell_regrown c7
      replace d0 := cell_regrown d0
      replace d1 := cell_regrown d1
      replace d2 := cell_regrown d2
      replace d3 := cell_regrown d3
      replace d4 := cell_regrown d4
      replace d5 := cell_regrown d5
      replace d6 := cell_regrown d6
      replace d7 := cell_regrown d7
      have q0 := Lib.hid (fun dd os => Calls.regrown_of (eqStep_same k' a' b' h' w' c' A' n3 p' B' q3 r' A3 p3 B3 r3 bs xs (grow (redrawn wr dd) os) (R1.out.of_below (below_regrown wr dd os)) (R2.out.of_below (below_regrown wr dd os)) (R3.out.of_below (below_regrown wr dd os)) (R4.out.of_below (below_regrown wr dd os)) HN2.out HQ2.out))
      refine wp_region_quiet_below mixed (by kernel_rfl) ?_
      repeat (go_big_quiet_step (first | with_reducible exact q0.out _ _))
      refine wpQuiet_nil ?_
      intro _ hw'
      obtain ⟨⟨dq, osq⟩, rfl⟩ := hw'
      have HB2 := Lib.hid (HB.out.trans ((below_regrown wr dq osq).mono HB.out.size))
      clear c0 c1 c2 c3 c4 c5 c6 c7 d0 d1 d2 d3 d4 d5 d6 d7 q0
      generalize grow (redrawn wr dq) osq = u9 at HB2 ⊢
      go_wp2_with fail
      go_roundw
      case rel => exact ⟨k + 1, by omega, by go_num, HB2.out⟩
      case measure => simp [intOf]; omega
    · obtain rfl : k = n := by omega
      go_wp2_with fail
      go_ret
      exact ⟨rfl, HB.out⟩
end Qt
end Go.Proofs.Ytalkoaahhkafaaa
