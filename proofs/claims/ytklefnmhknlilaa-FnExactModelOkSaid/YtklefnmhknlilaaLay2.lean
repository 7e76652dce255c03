/- What the laws' own helper on layers eqLayer gives when it is called, and the law of WeightsIn. Conditions: the slices read as the lists that are named. -/
import Derived.Test.YtklefnmhknlilaaLay0
import Derived.Test.YtklefnmhknlilaaLay1
import Derived.Test.YtklefnmhknlilaaOpenL
import Derived.Deep.RegionHeld3
namespace Go.Proofs.Ytklefnmhknlilaa
open Go.RowKit
namespace Qt
set_option maxRecDepth 10000 in
theorem eqLayer_same (k o s t m f z : Int) (A : Option Addr) (n p : Nat) (B : Option Addr) (q r : Nat) (A2 : Option Addr) (p2 : Nat) (B2 : Option Addr) (r2 : Nat) (xs ys : List Int) (W : World) (ha : RdI W A n xs) (hb : RdI W B q ys) (ha2 : RdI W A2 n xs) (hb2 : RdI W B2 q ys) (hn : n ≤ 1048576) (hq : q ≤ 1048576) :
    Calls Try.prog 71 #[.agg #[.int .i64 k, .int .i64 o, .int .i64 s, .int .i64 t, .int .i64 m, .int .i64 f, .int .i64 z, .slice A n p, .slice B q r], .agg #[.int .i64 k, .int .i64 o, .int .i64 s, .int .i64 t, .int .i64 m, .int .i64 f, .int .i64 z, .slice A2 n p2, .slice B2 q r2]] W fun e W' => e = .returned (.bool true) ∧ Below W.heap.size W W' := by
  have HN := Lib.hid hn
  have HA := Lib.hid ha
  have HB := Lib.hid hb
  have HA2 := Lib.hid ha2
  have HB2 := Lib.hid hb2
  have HQ := Lib.hid hq
  clear hn hq ha hb ha2 hb2
  go_enter Try.func71, Try.ntmps71
  go_wp2_with fail
  have b0 := ((Below.refl _ W).alloc (Nat.le_refl _) (.cells #[.int .i64 k, .int .i64 o, .int .i64 s, .int .i64 t, .int .i64 m, .int .i64 f, .int .i64 z, .slice A n p, .slice B q r] 62)).alloc (by simp) (.cells #[.int .i64 k, .int .i64 o, .int .i64 s, .int .i64 t, .int .i64 m, .int .i64 f, .int .i64 z, .slice A2 n p2, .slice B2 q r2] 62)
  have k1 := (Bk.new W 62 #[.int .i64 k, .int .i64 o, .int .i64 s, .int .i64 t, .int .i64 m, .int .i64 f, .int .i64 z, .slice A n p, .slice B q r]).alloc (.cells #[.int .i64 k, .int .i64 o, .int .i64 s, .int .i64 t, .int .i64 m, .int .i64 f, .int .i64 z, .slice A2 n p2, .slice B2 q r2] 62)
  have k2 := (Bk.new (W.alloc (.cells #[.int .i64 k, .int .i64 o, .int .i64 s, .int .i64 t, .int .i64 m, .int .i64 f, .int .i64 z, .slice A n p, .slice B q r] 62)) 62 #[.int .i64 k, .int .i64 o, .int .i64 s, .int .i64 t, .int .i64 m, .int .i64 f, .int .i64 z, .slice A2 n p2, .slice B2 q r2])
  simp only [World.size_alloc] at k2
  generalize (W.alloc (.cells #[.int .i64 k, .int .i64 o, .int .i64 s, .int .i64 t, .int .i64 m, .int .i64 f, .int .i64 z, .slice A n p, .slice B q r] 62)).alloc (.cells #[.int .i64 k, .int .i64 o, .int .i64 s, .int .i64 t, .int .i64 m, .int .i64 f, .int .i64 z, .slice A2 n p2, .slice B2 q r2] 62) = w1 at b0 k1 k2 ⊢
  have B0 := Lib.hid b0
  have K1 := Lib.hid k1
  have K2 := Lib.hid k2
  clear b0 k1 k2
  with_reducible refine (eqIntS_same A A2 n p p2 xs _ (HA.out.of_below B0.out) (HA2.out.of_below B0.out) HN.out).mono ?_
  rintro e w2 ⟨rfl, mm, rfl⟩
  have Bw := Lib.hid (below_drewN B0.out mm)
  obtain ⟨c0, c1, c2, c3, c4, c5, c6, c7, c8⟩ := (K1.out.drewN mm).cell9
  obtain ⟨d0, d1, d2, d3, d4, d5, d6, d7, d8⟩ := (K2.out.drewN mm).cell9
  go_wp2_with fail
  with_reducible refine (eqIntS_same B B2 q r r2 ys _ (HB.out.of_below Bw.out) (HB2.out.of_below Bw.out) HQ.out).mono ?_
  rintro e w3 ⟨rfl, m3, rfl⟩
  have B3 := Lib.hid (below_drewN B0.out (mm + m3))
  go_wp2_with fail
  go_ret
  exact ⟨rfl, B3.out⟩
end Qt
end Go.Proofs.Ytklefnmhknlilaa
