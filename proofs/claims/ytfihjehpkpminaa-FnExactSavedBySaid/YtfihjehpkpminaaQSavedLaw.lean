/- The law of SavedBy returns true and writes nothing that was there. Conditions: the slice of layers reads as the list that is named. -/
import Derived.Test.YtfihjehpkpminaaQBaseD
import Derived.Test.YtfihjehpkpminaaQSaved
import Derived.Test.YtfihjehpkpminaaQBaseB
import Derived.Deep.RegionHeld3
import Derived.Deep.DeepCutAuto
namespace Go.Proofs.Ytfihjehpkpminaa
open Go.RowKit Go.Sort
set_option linter.unusedSimpArgs false
set_option linter.unusedVariables false
namespace Qt
set_option maxRecDepth 100000 in
set_option maxHeartbeats 4000000 in
theorem savedLaw (h w c : Int) (A : Option Addr) (n p : Nat) (ls : List Lay) (B : Option Addr) (m q : Nat) (xs : List Int) (W : World) (hr : RdLT W A n ls) (hs : RdI W B m xs) :
    Calls Try.prog 13 #[.agg #[.int .i64 h, .int .i64 w, .int .i64 c, .slice A n p], .slice B m q] W fun e W' => e = .returned (.bool true) ∧ Below W.heap.size W W' := by
  obtain ⟨hr, hm⟩ := hr
  have P : Hid (KJ W (JM h w c A n p ls W.heap.size) (W.alloc (.cells #[.int .i64 h, .int .i64 w, .int .i64 c, .slice A n p] 44))) := Lib.hid ⟨JM.st, ⟨Bk.new W _ _, hr.of_below ((Below.refl _ W).alloc (Nat.le_refl _) _)⟩, (Below.refl _ W).alloc (Nat.le_refl _) _⟩
  have HM := Lib.hid hm
  have RS := Lib.hid (hs.of_below ((Below.refl _ W).alloc (Nat.le_refl _) (.cells #[.int .i64 h, .int .i64 w, .int .i64 c, .slice A n p] 44)))
  clear hr hm hs
  go_enter Try.func13, Try.ntmps13
  by_cases hm0 : (1048576 : Int) < (m : Int)
  · go_wp2_with fail
    go_ret
    exact ⟨rfl, P.out.b⟩
  have HMM : Hid (m ≤ 1048576) := Lib.hid (by omega)
  go_wp2_with fail
  generalize W.alloc (.cells #[.int .i64 h, .int .i64 w, .int .i64 c, .slice A n p] 44) = v0 at P RS ⊢
  by_cases hn : (n : Int) + big ls ≤ 1048576
  case neg =>
    with_reducible refine (szModel_no h w c A n p ls 1048576 _ (rdLT_mk P.out.j.r HM.out) (by omega) (by omega) (by omega)).mono ?_
    rintro e u1 ⟨rfl, b1⟩
    replace P := KJ.below P b1
    clear b1
    go_wp2
    go_ret
    exact ⟨rfl, P.out.b⟩
  with_reducible refine (szModel_yes h w c A n p ls 1048576 _ (rdLT_mk P.out.j.r HM.out) (by omega) (by omega) hn).mono ?_
  rintro e u1 ⟨rfl, b1⟩
  replace P := KJ.below P b1
  replace RS := Lib.hid (RS.out.of_below b1)
  clear b1
  have HN : Hid (n + big ls ≤ 1048576) := Lib.hid (by omega)
  have hleft : 0 ≤ 1048576 - (n : Int) - big ls := by omega
  clear hn HM
  obtain ⟨a0, a1, a2, a3⟩ := P.out.j.b.cell4
  go_wp2_with fail
  clear a0 a1 a2 a3 hleft
  with_reducible refine (toModelO h w c A n p ls _ P.out.j.r HN.out).mono ?_
  rintro e u2 ⟨g2, rfl, _, r2, b2⟩
  replace P := KJ.below P b2
  replace RS := Lib.hid (RS.out.of_below b2)
  have R2 := Lib.hid r2
  clear r2 b2
  obtain ⟨r, hR⟩ : ∃ r, savedM (h, w, c) ls xs = r := ⟨_, rfl⟩
  have HRR := Lib.hid hR
  clear hR
  go_wp2_with fail
  refine (toIntS_any _ _ _ xs _ RS.out HMM.out).mono ?_
  rintro e v3 ⟨gs, rfl, rs, b7⟩
  replace P := KJ.below P b7
  replace RS := Lib.hid (RS.out.of_below b7)
  have RL2 := Lib.hid (R2.out.rdL.of_below b7)
  have RT := Lib.hid rs
  clear b7 rs R2
  go_wp2_with fail
  have HC := savedS h w c _ n n ls _ m m xs _ RL2.out HN.out RT.out HMM.out
  rw [HRR.out] at HC
  with_reducible refine HC.mono ?_
  clear HC
  rintro e u3 ⟨rfl, b3⟩
  replace P := KJ.below P b3
  replace RS := Lib.hid (RS.out.of_below b3)
  clear b3 RL2 RT
  obtain ⟨a0, a1, a2, a3⟩ := P.out.j.b.cell4
  go_wp2_with fail
  clear a0 a1 a2 a3
  with_reducible refine (toModelO h w c A n p ls _ P.out.j.r HN.out).mono ?_
  rintro e u4 ⟨gx, rfl, _, r4, b4⟩
  replace P := KJ.below P b4
  replace RS := Lib.hid (RS.out.of_below b4)
  have R4 := Lib.hid r4
  clear r4 b4
  go_wp2_with fail
  have Q : Hid (KJ W (JX h w c A n p ls W.heap.size gx u4.heap.size) (u4.alloc (.cells #[.int .i64 h, .int .i64 w, .int .i64 c, .slice (some ⟨gx, 0, none⟩) n n] 50))) := Lib.hid ⟨JX.st, ⟨JM.st _ _ P.out.j ((Below.refl _ u4).alloc (Nat.le_refl _) _), Bk.new u4 _ _, R4.out.rdL.of_below ((Below.refl _ u4).alloc (Nat.le_refl _) _)⟩, P.out.b.alloc P.out.b.size _⟩
  replace RS := Lib.hid (RS.out.of_below ((Below.refl _ u4).alloc (Nat.le_refl _) (.cells #[.int .i64 h, .int .i64 w, .int .i64 c, .slice (some ⟨gx, 0, none⟩) n n] 50)))
  clear P R4
  replace P := Q
  clear Q
  generalize u4.alloc (.cells #[.int .i64 h, .int .i64 w, .int .i64 c, .slice (some ⟨gx, 0, none⟩) n n] 50) = u5 at P RS ⊢
  generalize u4.heap.size = gX at P ⊢
  refine (toIntS_any _ _ _ xs _ RS.out HMM.out).mono ?_
  rintro e v6 ⟨gs1, rfl, rs, b7⟩
  replace P := KJ.below P b7
  replace RS := Lib.hid (RS.out.of_below b7)
  have RX := Lib.hid rs
  clear b7 rs
  obtain ⟨a0, a1, a2, a3, _, _, _, _⟩ := P.out.j.cells
  go_wp2_with fail
  clear a0 a1 a2 a3
  have HC := savedI h w c _ n n ls _ m m xs _ P.out.j.r HN.out RX.out HMM.out
  rw [HRR.out] at HC
  with_reducible refine HC.mono ?_
  clear HC
  rintro e u6 ⟨rfl, b6⟩
  replace P := KJ.below P b6
  replace RS := Lib.hid (RS.out.of_below b6)
  replace RX := Lib.hid (RX.out.of_below b6)
  clear b6
  have hrr : (r != r) = false := by simp
  go_wp2_with fail
  clear hrr
  have Q1 := KJ.drew P
  have RS1 := Lib.hid (RS.out.of_below (Below.refl u6.heap.size u6).drew)
  have RX1 := Lib.hid (RX.out.of_below (Below.refl u6.heap.size u6).drew)
  have SS1 := Q1.out.j.cells
  go_region_held3 (fun w' => w'.cell? ⟨gX, 0, none⟩ = some (.int .i64 h) ∧ w'.cell? ⟨gX, 1, none⟩ = some (.int .i64 w) ∧ w'.cell? ⟨gX, 2, none⟩ = some (.int .i64 c) ∧ w'.cell? ⟨gX, 3, none⟩ = some (.slice (some ⟨gx, 0, none⟩) n n) ∧ w'.cell? ⟨W.heap.size, 0, none⟩ = some (.int .i64 h) ∧ w'.cell? ⟨W.heap.size, 1, none⟩ = some (.int .i64 w) ∧ w'.cell? ⟨W.heap.size, 2, none⟩ = some (.int .i64 c) ∧ w'.cell? ⟨W.heap.size, 3, none⟩ = some (.slice A n p))
    (first
      | with_reducible exact SS
      | with_reducible exact SS1)
    (first
      | (go_at_call 42; (with_reducible refine (toModelO h w c A n p ls _ Q1.out.j.m.r HN.out).mono ?_); rintro e uq ⟨gy, rfl, _, ry, bb⟩; have RY := Lib.hid ry.rdL; clear ry; have PP := KJ.below Q1 bb; have RS2 := Lib.hid (RS1.out.of_below bb); have RX2 := Lib.hid (RX1.out.of_below bb); have SS := PP.out.j.cells)
      | (go_at_call 44; (with_reducible refine (eqModel_same h w c _ _ n _ _ ls _ PP.out.j.r RY.out HN.out).mono ?_); rintro e uq2 ⟨rfl, bb2⟩; have PF := KJ.below PP bb2; have RS3 := Lib.hid (RS2.out.of_below bb2); have RX3 := Lib.hid (RX2.out.of_below bb2); have SS := PF.out.j.cells))
  go_wp2_with fail
  clear SS SS1 P PP Q1 RS RS1 RS2 RX RX1 RX2
  refine (toIntS_any _ _ _ xs _ RS3.out HMM.out).mono ?_
  rintro e v8 ⟨gs2, rfl, rs, b8⟩
  replace PF := KJ.below PF b8
  have RX4 := Lib.hid (RX3.out.of_below b8)
  have RT := Lib.hid rs
  clear b8 rs RS3 RX3
  go_wp2_with fail
  refine (eqIntS_same _ _ _ _ _ xs _ RX4.out RT.out HMM.out).mono ?_
  rintro e v9 ⟨rfl, mm, hmm⟩
  have bb := below_drewN (Below.refl v8.heap.size v8) mm
  rw [← hmm] at bb
  replace PF := KJ.below PF bb
  clear bb hmm
  go_wp2_with fail
  go_ret
  exact ⟨rfl, PF.out.b⟩
end Qt
end Go.Proofs.Ytfihjehpkpminaa
