/- What OutShape of the program and of its model, and kernelFor, give when they are called, for every kind. Conditions: the slices read as the lists that are named. -/
import Derived.Test.YtbmchpoffceehaaQFor
import Derived.Test.YtbmchpoffceehaaQOutSN
import Derived.Test.YtbmchpoffceehaaQOutS0
import Derived.Test.YtbmchpoffceehaaQOutS1
import Derived.Test.YtbmchpoffceehaaQOutS2
import Derived.Test.YtbmchpoffceehaaQOutS3
import Derived.Test.YtbmchpoffceehaaQOutS4
import Derived.Test.YtbmchpoffceehaaQOutS5
namespace Go.Proofs.Ytbmchpoffceehaa
open Go.RowKit Go.Sort
set_option linter.unusedSimpArgs false
set_option linter.unusedVariables false
namespace Qt
theorem kind_cases (k : Int) : k = 0 ∨ k = 1 ∨ k = 2 ∨ k = 3 ∨ k = 4 ∨ k = 5 ∨ ¬ (0 ≤ k ∧ k ≤ 5) := by omega
theorem kernelForI (h w c k o s t m f z : Int) (A : Option Addr) (n p : Nat) (xs : List Int) (B : Option Addr) (q r : Nat) (ys : List Int) (W : World) (hr : RdI W A n xs) (hr2 : RdI W B q ys) (hn : n ≤ 1048576) (hq : q ≤ 1048576) :
    Calls Try.prog 103 #[.agg #[.int .i64 h, .int .i64 w, .int .i64 c], .agg #[.int .i64 k, .int .i64 o, .int .i64 s, .int .i64 t, .int .i64 m, .int .i64 f, .int .i64 z, .slice A n p, .slice B q r]] W fun e W' => e = .returned (forV (kerV k o s t m f z A n p B q r) (outL h w c k o s t m f z xs ys)) ∧ Below W.heap.size W W' := by
  rcases kind_cases k with rfl | rfl | rfl | rfl | rfl | rfl | hk
  · exact kernelFor_0 h w c o s t m f z A n p xs B q r ys W hr hr2 hn hq
  · exact kernelFor_1 h w c o s t m f z A n p xs B q r ys W hr hr2 hn hq
  · exact kernelFor_2 h w c o s t m f z A n p xs B q r ys W hr hr2 hn hq
  · exact kernelFor_3 h w c o s t m f z A n p xs B q r ys W hr hr2 hn hq
  · exact kernelFor_4 h w c o s t m f z A n p xs B q r ys W hr hr2 hn hq
  · exact kernelFor_5 h w c o s t m f z A n p xs B q r ys W hr hr2 hn hq
  · exact kernelFor_no h w c k o s t m f z A n p xs B q r ys W hr hr2 hn hq hk
theorem outSS (h w c k o s t m f z : Int) (A : Option Addr) (n p : Nat) (xs : List Int) (B : Option Addr) (q r : Nat) (ys : List Int) (W : World) (hr : RdI W A n xs) (hr2 : RdI W B q ys) (hn : n ≤ 1048576) (hq : q ≤ 1048576) :
    Calls Try.prog 83 #[.agg #[.int .i64 h, .int .i64 w, .int .i64 c], .agg #[.int .i64 k, .int .i64 o, .int .i64 s, .int .i64 t, .int .i64 m, .int .i64 f, .int .i64 z, .slice A n p, .slice B q r]] W fun e W' => e = .returned (outV (outL h w c k o s t m f z xs ys)) ∧ Below W.heap.size W W' := by
  rcases hs : shOk h w c with _ | _
  · exact outS_bad h w c k o s t m f z A n p xs B q r ys W hr hr2 hn hq hs
  rcases kind_cases k with rfl | rfl | rfl | rfl | rfl | rfl | hk
  · exact outS_0 h w c o s t m f z A n p xs B q r ys W hr hr2 hn hq hs
  · exact outS_1 h w c o s t m f z A n p xs B q r ys W hr hr2 hn hq hs
  · exact outS_2 h w c o s t m f z A n p xs B q r ys W hr hr2 hn hq hs
  · exact outS_3 h w c o s t m f z A n p xs B q r ys W hr hr2 hn hq hs
  · exact outS_4 h w c o s t m f z A n p xs B q r ys W hr hr2 hn hq hs
  · exact outS_5 h w c o s t m f z A n p xs B q r ys W hr hr2 hn hq hs
  · exact outS_kind h w c k o s t m f z A n p xs B q r ys W hr hr2 hn hq hs hk
set_option maxRecDepth 100000 in
theorem outII (h w c k o s t m f z : Int) (A : Option Addr) (n p : Nat) (xs : List Int) (B : Option Addr) (q r : Nat) (ys : List Int) (W : World) (hr : RdI W A n xs) (hr2 : RdI W B q ys) (hn : n ≤ 1048576) (hq : q ≤ 1048576) :
    Calls Try.prog 96 #[.agg #[.int .i64 h, .int .i64 w, .int .i64 c], .agg #[.int .i64 k, .int .i64 o, .int .i64 s, .int .i64 t, .int .i64 m, .int .i64 f, .int .i64 z, .slice A n p, .slice B q r]] W fun e W' => e = .returned (outV (outL h w c k o s t m f z xs ys)) ∧ Below W.heap.size W W' := by
  have HN := Lib.hid hn
  have HQ := Lib.hid hq
  have HRA := Lib.hid hr
  have HRB := Lib.hid hr2
  clear hn hq hr hr2
  obtain ⟨O, hO⟩ : ∃ O, outL h w c k o s t m f z xs ys = O := ⟨_, rfl⟩
  rw [hO]
  have HO := Lib.hid hO
  clear hO
  have P := P3.start W 34 104 34 #[.int .i64 h, .int .i64 w, .int .i64 c] #[.int .i64 k, .int .i64 o, .int .i64 s, .int .i64 t, .int .i64 m, .int .i64 f, .int .i64 z, .slice A n p, .slice B q r] #[.int .i64 0, .int .i64 0, .int .i64 0] HRA.out HRB.out
  clear HRA HRB
  go_enter Try.func96, Try.ntmps96
  go_wp2_with fail
  generalize (((W.alloc (.cells #[.int .i64 h, .int .i64 w, .int .i64 c] 34)).alloc (.cells #[.int .i64 k, .int .i64 o, .int .i64 s, .int .i64 t, .int .i64 m, .int .i64 f, .int .i64 z, .slice A n p, .slice B q r] 104)).alloc (.cells #[.int .i64 0, .int .i64 0, .int .i64 0] 34)) = v at P ⊢
  generalize W.heap.size + 1 + 1 = gR at P ⊢
  generalize W.heap.size + 1 = gL at P ⊢
  with_reducible refine (kernelForI h w c k o s t m f z A n p xs B q r ys _ P.out.ra P.out.rb HN.out HQ.out).mono ?_
  rintro e v1 ⟨rfl, bb⟩
  have PP := P3.below P bb
  clear bb P
  rw [HO.out]
  generalize kerV k o s t m f z A n p B q r = KV
  rcases O with _ | ⟨a, b, d⟩
  · rw [show forV KV none = .tuple #[.nilIface, .agg #[.int .i64 0, .int .i64 0, .int .i64 0], .bool false] from rfl]
    have PA := P3.below PP ((Below.refl _ v1).alloc (Nat.le_refl _) (.cells #[.int .i64 0, .int .i64 0, .int .i64 0] 34))
    obtain ⟨d0, d1, d2⟩ := PA.out.r.cell3
    obtain ⟨f0, f1, f2⟩ := PA.out.r.free3
    obtain ⟨n0, n1, n2⟩ := (Bk.new v1 34 #[.int .i64 0, .int .i64 0, .int .i64 0]).cell3
    go_wp2
    have kR := PA.out.r.set3 (x := .int .i64 0) (y := .int .i64 0) (z := .int .i64 0)
    have b9 := below_set3 PA.out.bl PA.out.le (.int .i64 0) (.int .i64 0) (.int .i64 0)
    obtain ⟨z0, z1, z2⟩ := kR.cell3
    refine bodyPost_ret (v := .tuple #[.agg #[.int .i64 0, .int .i64 0, .int .i64 0], .bool false]) ?_ rfl ⟨rfl, b9⟩
    clear kR b9 n0 n1 n2 d0 d1 d2 f0 f1 f2
    generalize (((v1.alloc (.cells #[.int .i64 0, .int .i64 0, .int .i64 0] 34)).setCell ⟨gR, 0, none⟩ (.int .i64 0)).setCell ⟨gR, 1, none⟩ (.int .i64 0)).setCell ⟨gR, 2, none⟩ (.int .i64 0) = w9 at z0 z1 z2 ⊢
    simp [results, Try.results96, go_sem, z0, z1, z2]
  · rw [show forV KV (some (a, b, d)) = .tuple #[KV, .agg #[.int .i64 a, .int .i64 b, .int .i64 d], .bool true] from rfl]
    have PA := P3.below PP ((Below.refl _ v1).alloc (Nat.le_refl _) (.cells #[.int .i64 a, .int .i64 b, .int .i64 d] 34))
    obtain ⟨d0, d1, d2⟩ := PA.out.r.cell3
    obtain ⟨f0, f1, f2⟩ := PA.out.r.free3
    obtain ⟨n0, n1, n2⟩ := (Bk.new v1 34 #[.int .i64 a, .int .i64 b, .int .i64 d]).cell3
    go_wp2
    have kR := PA.out.r.set3 (x := .int .i64 a) (y := .int .i64 b) (z := .int .i64 d)
    have b9 := below_set3 PA.out.bl PA.out.le (.int .i64 a) (.int .i64 b) (.int .i64 d)
    obtain ⟨z0, z1, z2⟩ := kR.cell3
    refine bodyPost_ret (v := .tuple #[.agg #[.int .i64 a, .int .i64 b, .int .i64 d], .bool true]) ?_ rfl ⟨rfl, b9⟩
    clear kR b9 n0 n1 n2 d0 d1 d2 f0 f1 f2
    generalize (((v1.alloc (.cells #[.int .i64 a, .int .i64 b, .int .i64 d] 34)).setCell ⟨gR, 0, none⟩ (.int .i64 a)).setCell ⟨gR, 1, none⟩ (.int .i64 b)).setCell ⟨gR, 2, none⟩ (.int .i64 d) = w9 at z0 z1 z2 ⊢
    simp [results, Try.results96, go_sem, z0, z1, z2]
end Qt
end Go.Proofs.Ytbmchpoffceehaa
