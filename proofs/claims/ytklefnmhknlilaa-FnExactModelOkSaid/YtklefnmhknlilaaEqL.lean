/- What the laws' own helpers on lists of layers (eqLayerS, eqModel) give when they are called over two that read alike. Conditions: the slices of layers read as the list that is named. -/
import Derived.Test.YtklefnmhknlilaaLay2
import Derived.Test.YtklefnmhknlilaaLays
import Derived.Test.YtklefnmhknlilaaTenOk
import Derived.Outline
import Derived.Lib.QuietBelow
namespace Go.Proofs.Ytklefnmhknlilaa
open Go.RowKit Go.Sort
namespace Qt
set_option maxRecDepth 10000 in
theorem eqLayerS_same (A A2 : Option Addr) (n p p2 : Nat) (ls : List Lay) (W : World) (hr : RdL W A n ls) (hr2 : RdL W A2 n ls) (hn : n + big ls ≤ 1048576) :
    Calls Try.prog 47 #[.slice A n p, .slice A2 n p2] W fun e W' => e = .returned (.bool true) ∧ Below W.heap.size W W' := by
  have HR := Lib.hid hr
  have HR2 := Lib.hid hr2
  have HN := Lib.hid hn
  have hn1 : (n : Int) ≤ 1048576 := by omega
  clear hr hr2 hn
  go_enter Try.func47, Try.ntmps47
  go_wp2_with fail
  go_loopw [5] (fun i wr => ∃ k : Nat, k ≤ n ∧ i = .int .i64 k ∧ Below W.heap.size W wr) (fun i _ => n - (intOf i).toNat)
  case atStart => exact ⟨0, Nat.zero_le _, rfl, Below.refl _ _⟩
  case round =>
    obtain ⟨k, hk, rfl, hb⟩ := hrel
    have HB := Lib.hid hb
    clear hb
    by_cases hlt : k < n
    · obtain ⟨b, off, k', o, s, t, m, f, z, A', n', p', B', q', r', xs, ys, rfl, hbs, hj, hat⟩ := (HR.out.of_below HB.out).at hlt
      obtain ⟨b2, off2, rfl, hbs2, hc2⟩ := (HR2.out.of_below HB.out).2 (by omega)
      obtain ⟨⟨A3, n3, p3, B3, q3, r3⟩, hat2⟩ := hc2 k _ hj
      obtain ⟨c0, c1, c2, c3, c4, c5, c6, c7, c8⟩ := hat.cells9
      obtain ⟨d0, d1, d2, d3, d4, d5, d6, d7, d8⟩ := hat2.cells9
      have hbig := big_at9 hj
      have hle := hat.lens
      have hle2 := hat2.lens
      have hn2 : n' ≤ 1048576 := by have := HN.out; omega
      have hq2 : q' ≤ 1048576 := by have := HN.out; omega
      obtain rfl : n3 = n' := by omega
      obtain rfl : q3 = q' := by omega
      have R1 := Lib.hid hat.rds.1
      have R2 := Lib.hid hat.rds.2
      have R3 := Lib.hid hat2.rds.1
      have R4 := Lib.hid hat2.rds.2
      have HN2 := Lib.hid hn2
      have HQ2 := Lib.hid hq2
      clear hat hat2 hj hbs hbs2 hc2 hbig hn2 hq2 hle hle2
      have hi : (k : Int) < (n : Int) := by omega
      go_wp2_with fail
      replace c0 := cell_regrown c0
      replace c1 := cell_regrown c1
      replace c2 := cell_regrown c2
      replace c3 := cell_regrown c3
      replace c4 := cell_regrown c4
      replace c5 := cell_regrown c5
      replace c6 := cell_regrown c6
      replace c7 := cell_regrown c7
      replace c8 := cell_regrown c8
      replace d0 := cell_regrown d0
      replace d1 := cell_regrown d1
      replace d2 := cell_regrown d2
      replace d3 := cell_regrown d3
      replace d4 := cell_regrown d4
      replace d5 := cell_regrown d5
      replace d6 := cell_regrown d6
      replace d7 := cell_regrown d7
      replace d8 := cell_regrown d8
      have q0 := Lib.hid (fun dd os => Calls.regrown_of (eqLayer_same k' o s t m f z A' n3 p' B' q3 r' A3 p3 B3 r3 xs ys (grow (redrawn wr dd) os) (R1.out.of_below (below_regrown wr dd os)) (R2.out.of_below (below_regrown wr dd os)) (R3.out.of_below (below_regrown wr dd os)) (R4.out.of_below (below_regrown wr dd os)) HN2.out HQ2.out))
      refine wp_region_quiet_below mixed (by kernel_rfl) ?_
      repeat (go_big_quiet_step (first | with_reducible exact q0.out _ _))
      refine wpQuiet_nil ?_
      intro _ hw'
      obtain ⟨⟨dq, osq⟩, rfl⟩ := hw'
      have HB2 := Lib.hid (HB.out.trans ((below_regrown wr dq osq).mono HB.out.size))
      clear c0 c1 c2 c3 c4 c5 c6 c7 c8 d0 d1 d2 d3 d4 d5 d6 d7 d8 q0
      generalize grow (redrawn wr dq) osq = u9 at HB2 ⊢
      go_wp2_with fail
      go_roundw
      case rel => exact ⟨k + 1, by omega, by go_num, HB2.out⟩
      case measure => simp [intOf]; omega
    · obtain rfl : k = n := by omega
      go_wp2_with fail
      go_ret
      exact ⟨rfl, HB.out⟩
theorem eqModel_same (h w c : Int) (A A2 : Option Addr) (n p p2 : Nat) (ls : List Lay) (W : World) (hr : RdL W A n ls) (hr2 : RdL W A2 n ls) (hn : n + big ls ≤ 1048576) :
    Calls Try.prog 16 #[.agg #[.int .i64 h, .int .i64 w, .int .i64 c, .slice A n p], .agg #[.int .i64 h, .int .i64 w, .int .i64 c, .slice A2 n p2]] W fun e W' => e = .returned (.bool true) ∧ Below W.heap.size W W' := by
  have HN := Lib.hid hn
  have HR := Lib.hid hr
  have HR2 := Lib.hid hr2
  clear hn hr hr2
  go_enter Try.func16, Try.ntmps16
  go_wp2_with fail
  refine (eqShape_same h w c _).mono ?_
  rintro e w1 ⟨rfl, b1⟩
  have k0 := ((Bk.new W 32 #[.int .i64 h, .int .i64 w, .int .i64 c, .slice A n p]).alloc _).below b1
  have k1 := (Bk.new (W.alloc (.cells #[.int .i64 h, .int .i64 w, .int .i64 c, .slice A n p] 32)) 32 #[.int .i64 h, .int .i64 w, .int .i64 c, .slice A2 n p2]).below b1
  simp only [World.size_alloc] at k1
  have B1 := Lib.hid (((Below.refl _ W).alloc (Nat.le_refl _) _).alloc (by simp) _ |>.trans (b1.mono (by simp only [World.size_alloc]; omega)))
  obtain ⟨c0, c1, c2, c3⟩ := k0.cell4
  obtain ⟨d0, d1, d2, d3⟩ := k1.cell4
  clear b1 k0 k1
  go_wp2_with fail
  refine (eqLayerS_same A A2 n p p2 ls _ (HR.out.of_below B1.out) (HR2.out.of_below B1.out) HN.out).mono ?_
  rintro e w2 ⟨rfl, hm⟩
  have B2 := Lib.hid (B1.out.trans (hm.mono B1.out.size))
  clear hm B1 HR HR2 HN
  go_wp2_with fail
  go_ret
  exact ⟨rfl, B2.out⟩
end Qt
end Go.Proofs.Ytklefnmhknlilaa
