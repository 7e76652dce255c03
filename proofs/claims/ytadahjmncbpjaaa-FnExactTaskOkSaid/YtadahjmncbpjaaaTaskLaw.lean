/- The law of TaskOk returns true and writes nothing that was there, when its slice of costs reads as a list. -/
import Derived.Test.YtadahjmncbpjaaaTaskOk
import Derived.Test.YtadahjmncbpjaaaPkg
import Derived.Deep.DeepCutAuto
import Derived.Deep.RegionHeld3
namespace Go.Proofs.Ytadahjmncbpjaaa
open Go.RowKit Go.Sort
set_option linter.unusedSimpArgs false
set_option linter.unusedVariables false
namespace Qt
theorem Pkg.five2 {W w : World} {g0 g1 : Nat} {t0 t1 : TypeId} {a b c d e a' b' c' d' e' : Value} {bs : List (Nat × TypeId × Array Value)} {rs : List (Option Addr × Nat × List Int)} (h : Hid (Pkg W ((g0, t0, #[a, b, c, d, e]) :: (g1, t1, #[a', b', c', d', e']) :: bs) rs w)) :
    w.cell? ⟨g0, 0, none⟩ = some a ∧ w.cell? ⟨g0, 1, none⟩ = some b ∧ w.cell? ⟨g0, 2, none⟩ = some c ∧ w.cell? ⟨g0, 3, none⟩ = some d ∧ w.cell? ⟨g0, 4, none⟩ = some e ∧ w.cell? ⟨g1, 0, none⟩ = some a' ∧ w.cell? ⟨g1, 1, none⟩ = some b' ∧ w.cell? ⟨g1, 2, none⟩ = some c' ∧ w.cell? ⟨g1, 3, none⟩ = some d' ∧ w.cell? ⟨g1, 4, none⟩ = some e' :=
  ⟨(Pkg.blk0 h).cell 0 rfl, (Pkg.blk0 h).cell 1 rfl, (Pkg.blk0 h).cell 2 rfl, (Pkg.blk0 h).cell 3 rfl, (Pkg.blk0 h).cell 4 rfl, (Pkg.blk1 h).cell 0 rfl, (Pkg.blk1 h).cell 1 rfl, (Pkg.blk1 h).cell 2 rfl, (Pkg.blk1 h).cell 3 rfl, (Pkg.blk1 h).cell 4 rfl⟩
set_option maxHeartbeats 2000000 in
theorem taskOkLaw (id : Int) (A : Option Addr) (n p : Nat) (xs : List Int) (a d b : Int) (W : World) (hr : RdI W A n xs) (hm : (n : Int) ≤ 9223372036854775807) :
    Calls Try.prog 3 #[.agg #[.int .i64 id, .slice A n p, .int .i64 a, .int .i64 d, .int .i64 b]] W fun e W' => e = .returned (.bool true) ∧ Below W.heap.size W W' := by
  have P := Pkg.laid (Pkg.start W [(A, n, xs)] (by intro r' hr'; rcases List.mem_cons.1 hr' with rfl | hr'; exact hr; cases hr')) 24 #[.int .i64 id, .slice A n p, .int .i64 a, .int .i64 d, .int .i64 b]
  have h0 : (0 : Int) ≤ n := Int.natCast_nonneg n
  clear hr
  go_enter Try.func3, Try.ntmps3
  go_wp2_with fail
  generalize W.alloc (.cells #[.int .i64 id, .slice A n p, .int .i64 a, .int .i64 d, .int .i64 b] 24) = v at P ⊢
  generalize hgT : W.heap.size = gT at P ⊢
  by_cases hn : (n : Int) ≤ 1048576
  case neg =>
    with_reducible refine (szTask_no id A n p a d b 1048576 _ (by omega) (by omega) hm).mono ?_
    rintro e u1 ⟨rfl, b1⟩
    replace P := Pkg.below P b1
    clear b1
    go_wp2_with fail
    go_ret
    exact ⟨rfl, Pkg.bl P⟩
  with_reducible refine (szTask_yes id A n p a d b 1048576 _ hn (by omega)).mono ?_
  rintro e u1 ⟨rfl, b1⟩
  replace P := Pkg.below P b1
  clear b1
  have HN : Hid (n ≤ 1048576) := Lib.hid (by omega)
  have hleft : 0 ≤ 1048576 - (n : Int) := by omega
  obtain ⟨c0, c1, c2, c3, c4⟩ := (Pkg.blk0 P).cell5
  go_wp2_with fail
  clear c0 c1 c2 c3 c4 hleft
  refine (toTaskL id A n p xs a d b _ (Pkg.rd0 P) HN.out).mono ?_
  rintro e u2 ⟨g2, rfl, _, r2, b2⟩
  replace P := Pkg.reads (Pkg.below P b2) r2
  clear b2 r2
  go_wp2_with fail
  refine (taskOkS id _ n n xs a d b _ (Pkg.rd0 P) HN.out).mono ?_
  rintro e u3 ⟨rfl, b3⟩
  replace P := Pkg.rtail (Pkg.below P b3)
  clear b3
  obtain ⟨t, ht⟩ : ∃ t, taskB id xs a d b = t := ⟨_, rfl⟩
  have HT := Lib.hid ht
  rw [ht]
  clear ht
  obtain ⟨c0, c1, c2, c3, c4⟩ := (Pkg.blk0 P).cell5
  go_wp2_with fail
  clear c0 c1 c2 c3 c4
  refine (toTaskL id A n p xs a d b _ (Pkg.rd0 P) HN.out).mono ?_
  rintro e u4 ⟨g4, rfl, _, r4, b4⟩
  replace P := Pkg.reads (Pkg.below P b4) r4
  clear b4 r4
  go_wp2_with fail
  replace P := Pkg.laid P 27 #[.int .i64 id, .slice (some ⟨g4, 0, none⟩) n n, .int .i64 a, .int .i64 d, .int .i64 b]
  generalize u4.alloc (.cells #[.int .i64 id, .slice (some ⟨g4, 0, none⟩) n n, .int .i64 a, .int .i64 d, .int .i64 b] 27) = v5 at P ⊢
  generalize u4.heap.size = gX at P ⊢
  have HI := taskOkI id _ n n xs a d b _ (Pkg.rd0 P) HN.out
  rw [HT.out] at HI
  refine HI.mono ?_
  rintro e u6 ⟨rfl, b6⟩
  replace P := Pkg.below P b6
  clear b6 HI
  have htt : (t != t) = false := by simp
  go_wp2_with fail
  clear htt
  have P1 := Pkg.drew P
  have SS1 := Pkg.five2 P1
  go_region_held3 (fun w' => w'.cell? ⟨gX, 0, none⟩ = some (.int .i64 id) ∧ w'.cell? ⟨gX, 1, none⟩ = some (.slice (some ⟨g4, 0, none⟩) n n) ∧ w'.cell? ⟨gX, 2, none⟩ = some (.int .i64 a) ∧ w'.cell? ⟨gX, 3, none⟩ = some (.int .i64 d) ∧ w'.cell? ⟨gX, 4, none⟩ = some (.int .i64 b) ∧ w'.cell? ⟨gT, 0, none⟩ = some (.int .i64 id) ∧ w'.cell? ⟨gT, 1, none⟩ = some (.slice A n p) ∧ w'.cell? ⟨gT, 2, none⟩ = some (.int .i64 a) ∧ w'.cell? ⟨gT, 3, none⟩ = some (.int .i64 d) ∧ w'.cell? ⟨gT, 4, none⟩ = some (.int .i64 b))
    (first
      | with_reducible exact SS
      | with_reducible exact SS1)
    (first
      | (go_at_call 17; (with_reducible refine (toTaskL id A n p xs a d b _ (Pkg.rd1 P1) HN.out).mono ?_); rintro e uq ⟨gy, rfl, _, ry, bb⟩; have P2 := Pkg.reads (Pkg.below P1 bb) ry; have SS := Pkg.five2 P2)
      | (go_at_call 19; (with_reducible refine (eqTask_same id _ _ n _ _ xs a d b _ (Pkg.rd1 P2) (Pkg.rd0 P2) HN.out).mono ?_); rintro e uq2 ⟨rfl, bb2⟩; have P3 := Pkg.below P2 bb2; have SS := Pkg.five2 P3)
      | fail)
  go_wp2_with fail
  go_ret
  exact ⟨rfl, Pkg.bl P3⟩
end Qt
end Go.Proofs.Ytadahjmncbpjaaa
