/- The laws of TotalCost and of CostliestLayer return true and write nothing that was there. Conditions: the slice of layers reads as the list that is named. -/
import Derived.Test.YtbmchpoffceehaaQBaseD
import Derived.Test.YtbmchpoffceehaaQBaseE
import Derived.Test.YtbmchpoffceehaaQBaseB
import Derived.Deep.RegionHeld3
import Derived.Deep.DeepCutAuto
import Derived.Outline
namespace Go.Proofs.Ytbmchpoffceehaa
open Go.RowKit Go.Sort
set_option linter.unusedSimpArgs false
set_option linter.unusedVariables false
namespace Qt
set_option maxRecDepth 100000 in
set_option maxHeartbeats 4000000 in
theorem totalLaw (h w c : Int) (A : Option Addr) (n p : Nat) (ls : List Lay) (W : World) (hr : RdLT W A n ls) :
    Calls Try.prog 7 #[.agg #[.int .i64 h, .int .i64 w, .int .i64 c, .slice A n p]] W fun e W' => e = .returned (.bool true) ∧ Below W.heap.size W W' := by
  obtain ⟨hr, hm⟩ := hr
  have P : Hid (KJ W (JM h w c A n p ls W.heap.size) (W.alloc (.cells #[.int .i64 h, .int .i64 w, .int .i64 c, .slice A n p] 26))) := Lib.hid ⟨JM.st, ⟨Bk.new W _ _, hr.of_below ((Below.refl _ W).alloc (Nat.le_refl _) _)⟩, (Below.refl _ W).alloc (Nat.le_refl _) _⟩
  have HM := Lib.hid hm
  clear hr hm
  go_enter Try.func7, Try.ntmps7
  go_wp2_with fail
  generalize W.alloc (.cells #[.int .i64 h, .int .i64 w, .int .i64 c, .slice A n p] 26) = v0 at P ⊢
  by_cases hn : (n : Int) + big ls ≤ 1048576
  case neg =>
    with_reducible refine (szModel_no h w c A n p ls 1048576 _ (rdLT_mk P.out.j.r HM.out) (by omega) (by omega) (by omega)).mono ?_
    rintro e u1 ⟨rfl, b1⟩
    replace P := KJ.below P b1
    clear b1
    go_wp2
    go_ret
    exact ⟨rfl, P.out.b⟩
  with_reducible refine (szModel_yes h w c A n p ls 1048576 _ (rdLT_mk P.out.j.r HM.out) (by omega) (by omega) hn).mono ?_
  rintro e u1 ⟨rfl, b1⟩
  replace P := KJ.below P b1
  clear b1
  have HN : Hid (n + big ls ≤ 1048576) := Lib.hid (by omega)
  have hleft : 0 ≤ 1048576 - (n : Int) - big ls := by omega
  clear hn HM
  obtain ⟨a0, a1, a2, a3⟩ := P.out.j.b.cell4
  go_wp2_with fail
  clear a0 a1 a2 a3 hleft
  with_reducible refine (toModelO h w c A n p ls _ P.out.j.r HN.out).mono ?_
  rintro e u2 ⟨g2, rfl, _, r2, b2⟩
  replace P := KJ.below P b2
  have R2 := Lib.hid r2
  clear r2 b2
  obtain ⟨r, hR⟩ : ∃ r, tot (costM (h, w, c) ls) (costM (h, w, c) ls).length = r := ⟨_, rfl⟩
  have HRR := Lib.hid hR
  clear hR
  go_wp2_with fail
  have HC := totalS h w c _ n n ls _ R2.out.rdL HN.out
  rw [HRR.out] at HC
  with_reducible refine HC.mono ?_
  clear HC
  rintro e u3 ⟨rfl, b3⟩
  replace P := KJ.below P b3
  clear b3 R2
  obtain ⟨a0, a1, a2, a3⟩ := P.out.j.b.cell4
  go_wp2_with fail
  clear a0 a1 a2 a3
  with_reducible refine (toModelO h w c A n p ls _ P.out.j.r HN.out).mono ?_
  rintro e u4 ⟨gx, rfl, _, r4, b4⟩
  replace P := KJ.below P b4
  have R4 := Lib.hid r4
  clear r4 b4
  go_wp2_with fail
  have Q : Hid (KJ W (JX h w c A n p ls W.heap.size gx u4.heap.size) (u4.alloc (.cells #[.int .i64 h, .int .i64 w, .int .i64 c, .slice (some ⟨gx, 0, none⟩) n n] 37))) := Lib.hid ⟨JX.st, ⟨JM.st _ _ P.out.j ((Below.refl _ u4).alloc (Nat.le_refl _) _), Bk.new u4 _ _, R4.out.rdL.of_below ((Below.refl _ u4).alloc (Nat.le_refl _) _)⟩, P.out.b.alloc P.out.b.size _⟩
  clear P R4
  replace P := Q
  clear Q
  generalize u4.alloc (.cells #[.int .i64 h, .int .i64 w, .int .i64 c, .slice (some ⟨gx, 0, none⟩) n n] 37) = u5 at P ⊢
  generalize u4.heap.size = gX at P ⊢
  have HC := totalI h w c _ n n ls _ P.out.j.r HN.out
  rw [HRR.out] at HC
  with_reducible refine HC.mono ?_
  clear HC
  rintro e u6 ⟨rfl, b6⟩
  replace P := KJ.below P b6
  clear b6
  have hrr : (r != r) = false := by simp
  go_wp2_with fail
  clear hrr
  have Q1 := KJ.drew P
  have SS1 := Q1.out.j.cells
  go_region_held3 (fun w' => w'.cell? ⟨gX, 0, none⟩ = some (.int .i64 h) ∧ w'.cell? ⟨gX, 1, none⟩ = some (.int .i64 w) ∧ w'.cell? ⟨gX, 2, none⟩ = some (.int .i64 c) ∧ w'.cell? ⟨gX, 3, none⟩ = some (.slice (some ⟨gx, 0, none⟩) n n) ∧ w'.cell? ⟨W.heap.size, 0, none⟩ = some (.int .i64 h) ∧ w'.cell? ⟨W.heap.size, 1, none⟩ = some (.int .i64 w) ∧ w'.cell? ⟨W.heap.size, 2, none⟩ = some (.int .i64 c) ∧ w'.cell? ⟨W.heap.size, 3, none⟩ = some (.slice A n p))
    (first
      | with_reducible exact SS
      | with_reducible exact SS1)
    (first
      | (go_at_call 28; (with_reducible refine (toModelO h w c A n p ls _ Q1.out.j.m.r HN.out).mono ?_); rintro e uq ⟨gy, rfl, _, ry, bb⟩; have RY := Lib.hid ry.rdL; clear ry; have PP := KJ.below Q1 bb; have SS := PP.out.j.cells)
      | (go_at_call 30; (with_reducible refine (eqModel_same h w c _ _ n _ _ ls _ PP.out.j.r RY.out HN.out).mono ?_); rintro e uq2 ⟨rfl, bb2⟩; have PF := KJ.below PP bb2; have SS := PF.out.j.cells))
  go_wp2
  go_ret
  exact ⟨rfl, PF.out.b⟩
end Qt
end Go.Proofs.Ytbmchpoffceehaa
