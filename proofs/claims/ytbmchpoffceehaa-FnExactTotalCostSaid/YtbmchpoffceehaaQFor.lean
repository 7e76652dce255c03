/- What kernelFor of the program gives when it is called: the kernel, the shape behind it, and whether the layer is right. Conditions: the slices read as the lists that are named. -/
import Derived.Test.YtbmchpoffceehaaQKernel
namespace Go.Proofs.Ytbmchpoffceehaa
open Go.RowKit Go.Sort
set_option linter.unusedSimpArgs false
set_option linter.unusedVariables false
namespace Qt
/-- What kernelFor answers, for a kernel and the shape behind it. -/
def forV (K : Value) (r : Option (Int × Int × Int)) : Value := .tuple #[if r.isSome then K else .nilIface, shV r, .bool r.isSome]
/-- Three blocks that are known whole, the last for an answer. -/
structure P3 (W : World) (g1 g2 g3 : Nat) (t1 t2 t3 : TypeId) (C1 C2 C3 : Array Value) (A : Option Addr) (n : Nat) (xs : List Int) (B : Option Addr) (q : Nat) (ys : List Int) (w : World) : Prop where
  a : Bk w g1 t1 C1
  b : Bk w g2 t2 C2
  r : Bk w g3 t3 C3
  ra : RdI w A n xs
  rb : RdI w B q ys
  bl : Below W.heap.size W w
  le : W.heap.size ≤ g3
section
variable {W w w' : World} {g1 g2 g3 : Nat} {t1 t2 t3 : TypeId} {C1 C2 C3 : Array Value} {A : Option Addr} {n : Nat} {xs : List Int} {B : Option Addr} {q : Nat} {ys : List Int}
theorem P3.below (h : Hid (P3 W g1 g2 g3 t1 t2 t3 C1 C2 C3 A n xs B q ys w)) (bb : Below w.heap.size w w') : Hid (P3 W g1 g2 g3 t1 t2 t3 C1 C2 C3 A n xs B q ys w') :=
  Lib.hid ⟨h.out.a.below bb, h.out.b.below bb, h.out.r.below bb, h.out.ra.of_below bb, h.out.rb.of_below bb, h.out.bl.trans (bb.mono h.out.bl.size), h.out.le⟩
theorem P3.start (W : World) (t1 t2 t3 : TypeId) (C1 C2 C3 : Array Value) (ra : RdI W A n xs) (rb : RdI W B q ys) :
    Hid (P3 W W.heap.size (W.heap.size + 1) (W.heap.size + 1 + 1) t1 t2 t3 C1 C2 C3 A n xs B q ys (((W.alloc (.cells C1 t1)).alloc (.cells C2 t2)).alloc (.cells C3 t3))) := by
  have b0 : Below W.heap.size W (((W.alloc (.cells C1 t1)).alloc (.cells C2 t2)).alloc (.cells C3 t3)) := ((Below.refl _ W).alloc (Nat.le_refl _) _).alloc (by simp) _ |>.alloc (by simp only [World.size_alloc]; omega) _
  refine Lib.hid ⟨((Bk.new W _ _).alloc _).alloc _, ?_, ?_, ra.of_below b0, rb.of_below b0, b0, by omega⟩
  · have := (Bk.new (W.alloc (.cells C1 t1)) t2 C2).alloc (.cells C3 t3)
    simpa only [World.size_alloc] using this
  · have := (Bk.new ((W.alloc (.cells C1 t1)).alloc (.cells C2 t2)) t3 C3)
    simpa only [World.size_alloc] using this
end

theorem outL_0 (h w c o s t m f z : Int) (xs ys : List Int) : outL h w c 0 o s t m f z xs ys = if (kerB 0 o s t m f z xs ys && (shOk h w c && (decide (szOf h w c ≤ 64) && rightB o m f z xs ys (szOf h w c)))) then some (1, 1, o) else none := by
  simp only [outL, kerB, Int.reduceEq, if_true, if_false, or_true, true_or, or_false, false_or]
  cases h1 : shOk h w c <;> cases h2 : emptyW s t <;> cases h3 : emptyF o m f xs ys <;> cases h4 : (decide (szOf h w c ≤ 64) && rightB o m f z xs ys (szOf h w c)) <;> simp

theorem outL_1 (h w c o s t m f z : Int) (xs ys : List Int) : outL h w c 1 o s t m f z xs ys = if (kerB 1 o s t m f z xs ys && (shOk h w c && (fitsB h w s t && (rightB o m f z xs ys (s * s * c) && decide (xs.length ≤ 600))))) then some ((h - s).tdiv t + 1, (w - s).tdiv t + 1, o) else none := by
  simp only [outL, kerB, Int.reduceEq, if_true, if_false, or_true, true_or, or_false, false_or]
  cases h1 : shOk h w c <;> cases h2 : emptyW s t <;> cases h3 : emptyF o m f xs ys <;> cases h4 : (fitsB h w s t && (rightB o m f z xs ys (s * s * c) && decide (xs.length ≤ 600))) <;> simp

theorem outL_2 (h w c o s t m f z : Int) (xs ys : List Int) : outL h w c 2 o s t m f z xs ys = if (kerB 2 o s t m f z xs ys && (shOk h w c && fitsB h w s t)) then some ((h - s).tdiv t + 1, (w - s).tdiv t + 1, c) else none := by
  simp only [outL, kerB, Int.reduceEq, if_true, if_false, or_true, true_or, or_false, false_or]
  cases h1 : shOk h w c <;> cases h2 : emptyW s t <;> cases h3 : emptyF o m f xs ys <;> cases h4 : fitsB h w s t <;> simp

theorem outL_3 (h w c o s t m f z : Int) (xs ys : List Int) : outL h w c 3 o s t m f z xs ys = if (kerB 3 o s t m f z xs ys && (shOk h w c && fitsB h w s t)) then some ((h - s).tdiv t + 1, (w - s).tdiv t + 1, c) else none := by
  simp only [outL, kerB, Int.reduceEq, if_true, if_false, or_true, true_or, or_false, false_or]
  cases h1 : shOk h w c <;> cases h2 : emptyW s t <;> cases h3 : emptyF o m f xs ys <;> cases h4 : fitsB h w s t <;> simp

theorem outL_4 (h w c o s t m f z : Int) (xs ys : List Int) : outL h w c 4 o s t m f z xs ys = if (kerB 4 o s t m f z xs ys && (shOk h w c && inB (-128) 127 z)) then some (h, w, c) else none := by
  simp only [outL, kerB, Int.reduceEq, if_true, if_false, or_true, true_or, or_false, false_or]
  cases h1 : shOk h w c <;> cases h2 : emptyW s t <;> cases h3 : emptyF o m f xs ys <;> cases h4 : inB (-128) 127 z <;> simp

theorem outL_5 (h w c o s t m f z : Int) (xs ys : List Int) : outL h w c 5 o s t m f z xs ys = if (kerB 5 o s t m f z xs ys && (shOk h w c && decide (szOf h w c ≤ 8))) then some (1, 1, szOf h w c) else none := by
  simp only [outL, kerB, Int.reduceEq, if_true, if_false, or_true, true_or, or_false, false_or]
  cases h1 : shOk h w c <;> cases h2 : emptyW s t <;> cases h3 : emptyF o m f xs ys <;> cases h4 : decide (szOf h w c ≤ 8) <;> simp

set_option maxRecDepth 100000 in
set_option maxHeartbeats 1000000 in
theorem kernelFor_0 (h w c o s t m f z : Int) (A : Option Addr) (n p : Nat) (xs : List Int) (B : Option Addr) (q r : Nat) (ys : List Int) (W : World) (hr : RdI W A n xs) (hr2 : RdI W B q ys) (hn : n ≤ 1048576) (hq : q ≤ 1048576) :
    Calls Try.prog 103 #[.agg #[.int .i64 h, .int .i64 w, .int .i64 c], .agg #[.int .i64 0, .int .i64 o, .int .i64 s, .int .i64 t, .int .i64 m, .int .i64 f, .int .i64 z, .slice A n p, .slice B q r]] W fun e W' => e = .returned (forV (kerV 0 o s t m f z A n p B q r) (outL h w c 0 o s t m f z xs ys)) ∧ Below W.heap.size W W' := by
  have HN := Lib.hid hn
  have HQ := Lib.hid hq
  have HL := Lib.hid (And.intro hr.1 hr2.1)
  have P := P3.start W 34 104 34 #[.int .i64 h, .int .i64 w, .int .i64 c] #[.int .i64 0, .int .i64 o, .int .i64 s, .int .i64 t, .int .i64 m, .int .i64 f, .int .i64 z, .slice A n p, .slice B q r] #[.int .i64 0, .int .i64 0, .int .i64 0] hr hr2
  obtain ⟨R, hR⟩ : ∃ R, forV (kerV 0 o s t m f z A n p B q r) (outL h w c 0 o s t m f z xs ys) = R := ⟨_, rfl⟩
  rw [hR]
  have HR := Lib.hid hR
  clear hR hn hq hr hr2
  go_enter Try.func103, Try.ntmps103
  go_wp2_with fail
  generalize (((W.alloc (.cells #[.int .i64 h, .int .i64 w, .int .i64 c] 34)).alloc (.cells #[.int .i64 0, .int .i64 o, .int .i64 s, .int .i64 t, .int .i64 m, .int .i64 f, .int .i64 z, .slice A n p, .slice B q r] 104)).alloc (.cells #[.int .i64 0, .int .i64 0, .int .i64 0] 34)) = v at P ⊢
  generalize W.heap.size + 1 + 1 = gR at P ⊢
  generalize W.heap.size + 1 = gL at P ⊢
  with_reducible refine (kernelOf_0 o s t m f z A n p xs B q r ys _ HL.out.1 HL.out.2 HN.out HQ.out).mono ?_
  rintro e v1 ⟨rfl, bb⟩
  have PP := P3.below P bb
  clear bb P
  rw [show kerV 0 o s t m f z A n p B q r = .iface 162 (.agg #[.int .i64 o, .int .i64 m, .int .i64 f, .int .i64 z, .slice A n p, .slice B q r]) from rfl]
  rcases hk : kerB 0 o s t m f z xs ys with _ | _
  · have HK := Lib.hid hk
    clear hk
    obtain ⟨a0, a1, a2⟩ := PP.out.a.cell3
    obtain ⟨d0, d1, d2⟩ := PP.out.r.cell3
    obtain ⟨f0, f1, f2⟩ := PP.out.r.free3
    go_wp2
    have kR := PP.out.r.set3 (x := .int .i64 0) (y := .int .i64 0) (z := .int .i64 0)
    have b9 := below_set3 PP.out.bl PP.out.le (.int .i64 0) (.int .i64 0) (.int .i64 0)
    obtain ⟨z0, z1, z2⟩ := kR.cell3
    refine bodyPost_ret (v := .tuple #[.nilIface, .agg #[.int .i64 0, .int .i64 0, .int .i64 0], .bool false]) ?_ rfl ⟨by rw [← HR.out, outL_0, HK.out]; rfl, b9⟩
    clear kR b9 a0 a1 a2 d0 d1 d2 f0 f1 f2
    generalize ((v1.setCell ⟨gR, 0, none⟩ (.int .i64 0)).setCell ⟨gR, 1, none⟩ (.int .i64 0)).setCell ⟨gR, 2, none⟩ (.int .i64 0) = w9 at z0 z1 z2 ⊢
    simp [results, Try.results103, go_sem, z0, z1, z2]
  have HK := Lib.hid hk
  clear hk
  rcases hs : shOk h w c with _ | _
  · have HS := Lib.hid hs
    clear hs
    obtain ⟨a0, a1, a2⟩ := PP.out.a.cell3
    obtain ⟨d0, d1, d2⟩ := PP.out.r.cell3
    obtain ⟨f0, f1, f2⟩ := PP.out.r.free3
    go_wp2_with fail
    clear a0 a1 a2 d0 d1 d2 f0 f1 f2
    with_reducible refine (shapeOkI h w c false HS.out _).mono ?_
    rintro e v2 ⟨rfl, bb⟩
    replace PP := P3.below PP bb
    clear bb
    obtain ⟨a0, a1, a2⟩ := PP.out.a.cell3
    obtain ⟨d0, d1, d2⟩ := PP.out.r.cell3
    obtain ⟨f0, f1, f2⟩ := PP.out.r.free3
    go_wp2
    have kR := PP.out.r.set3 (x := .int .i64 0) (y := .int .i64 0) (z := .int .i64 0)
    have b9 := below_set3 PP.out.bl PP.out.le (.int .i64 0) (.int .i64 0) (.int .i64 0)
    obtain ⟨z0, z1, z2⟩ := kR.cell3
    refine bodyPost_ret (v := .tuple #[.nilIface, .agg #[.int .i64 0, .int .i64 0, .int .i64 0], .bool false]) ?_ rfl ⟨by rw [← HR.out, outL_0, HK.out, HS.out]; rfl, b9⟩
    clear kR b9 a0 a1 a2 d0 d1 d2 f0 f1 f2
    generalize ((v2.setCell ⟨gR, 0, none⟩ (.int .i64 0)).setCell ⟨gR, 1, none⟩ (.int .i64 0)).setCell ⟨gR, 2, none⟩ (.int .i64 0) = w9 at z0 z1 z2 ⊢
    simp [results, Try.results103, go_sem, z0, z1, z2]
  have HS := Lib.hid hs
  clear hs
  obtain ⟨a0, a1, a2⟩ := PP.out.a.cell3
  obtain ⟨d0, d1, d2⟩ := PP.out.r.cell3
  obtain ⟨f0, f1, f2⟩ := PP.out.r.free3
  go_wp2_with fail
  clear a0 a1 a2 d0 d1 d2 f0 f1 f2
  with_reducible refine (shapeOkI h w c true HS.out _).mono ?_
  rintro e v2 ⟨rfl, bb⟩
  replace PP := P3.below PP bb
  clear bb
  obtain ⟨a0, a1, a2⟩ := PP.out.a.cell3
  obtain ⟨d0, d1, d2⟩ := PP.out.r.cell3
  obtain ⟨f0, f1, f2⟩ := PP.out.r.free3
  go_wp2_with fail
  clear a0 a1 a2 d0 d1 d2 f0 f1 f2
  with_reducible refine (denseThenI o m f z A n p xs B q r ys h w c _ PP.out.ra PP.out.rb HN.out HQ.out).mono ?_
  rintro e v3 ⟨rfl, bb⟩
  replace PP := P3.below PP bb
  clear bb
  rcases hx : (decide (szOf h w c ≤ 64) && rightB o m f z xs ys (szOf h w c)) with _ | _
  · have HX := Lib.hid hx
    clear hx
    have PA := P3.below PP ((Below.refl _ v3).alloc (Nat.le_refl _) (.cells #[.int .i64 1, .int .i64 1, .int .i64 o] 34))
    obtain ⟨a0, a1, a2⟩ := PA.out.a.cell3
    obtain ⟨d0, d1, d2⟩ := PA.out.r.cell3
    obtain ⟨f0, f1, f2⟩ := PA.out.r.free3
    obtain ⟨n0, n1, n2⟩ := (Bk.new v3 34 #[.int .i64 1, .int .i64 1, .int .i64 o]).cell3
    go_wp2
    have kR := PA.out.r.set3 (x := .int .i64 0) (y := .int .i64 0) (z := .int .i64 0)
    have b9 := below_set3 PA.out.bl PA.out.le (.int .i64 0) (.int .i64 0) (.int .i64 0)
    obtain ⟨z0, z1, z2⟩ := kR.cell3
    refine bodyPost_ret (v := .tuple #[.nilIface, .agg #[.int .i64 0, .int .i64 0, .int .i64 0], .bool false]) ?_ rfl ⟨by rw [← HR.out, outL_0, HK.out, HS.out, HX.out]; rfl, b9⟩
    clear kR b9 n0 n1 n2 a0 a1 a2 d0 d1 d2 f0 f1 f2
    generalize (((v3.alloc (.cells #[.int .i64 1, .int .i64 1, .int .i64 o] 34)).setCell ⟨gR, 0, none⟩ (.int .i64 0)).setCell ⟨gR, 1, none⟩ (.int .i64 0)).setCell ⟨gR, 2, none⟩ (.int .i64 0) = w9 at z0 z1 z2 ⊢
    simp [results, Try.results103, go_sem, z0, z1, z2]
  have HX := Lib.hid hx
  clear hx
  have PA := P3.below PP ((Below.refl _ v3).alloc (Nat.le_refl _) (.cells #[.int .i64 1, .int .i64 1, .int .i64 o] 34))
  obtain ⟨a0, a1, a2⟩ := PA.out.a.cell3
  obtain ⟨d0, d1, d2⟩ := PA.out.r.cell3
  obtain ⟨f0, f1, f2⟩ := PA.out.r.free3
  obtain ⟨n0, n1, n2⟩ := (Bk.new v3 34 #[.int .i64 1, .int .i64 1, .int .i64 o]).cell3
  go_wp2_with fail
  have NT : gR ≠ v3.heap.size := Nat.ne_of_lt PP.out.r.lt
  clear PP a0 a1 a2 d0 d1 d2 f0 f1 f2
  generalize v3.alloc (.cells #[.int .i64 1, .int .i64 1, .int .i64 o] 34) = va at PA n0 n1 n2 ⊢
  generalize v3.heap.size = gT at n0 n1 n2 NT ⊢
  obtain ⟨d0, d1, d2⟩ := PA.out.r.cell3
  obtain ⟨f0, f1, f2⟩ := PA.out.r.free3
  go_region_held3 (fun w' => w'.cell? ⟨gT, 0, none⟩ = some (.int .i64 1) ∧ w'.cell? ⟨gT, 1, none⟩ = some (.int .i64 1) ∧ w'.cell? ⟨gT, 2, none⟩ = some (.int .i64 o))
    (first
      | exact ⟨n0, n1, n2⟩
      | exact ⟨cellFar3 NT n0 _ _ _, cellFar3 NT n1 _ _ _, cellFar3 NT n2 _ _ _⟩)
    (fail)
  go_wp2
  have kR := PA.out.r.set3 (x := .int .i64 1) (y := .int .i64 1) (z := .int .i64 o)
  have b9 := below_set3 PA.out.bl PA.out.le (.int .i64 1) (.int .i64 1) (.int .i64 o)
  obtain ⟨z0, z1, z2⟩ := kR.cell3
  refine bodyPost_ret (v := .tuple #[.iface 162 (.agg #[.int .i64 o, .int .i64 m, .int .i64 f, .int .i64 z, .slice A n p, .slice B q r]), .agg #[.int .i64 1, .int .i64 1, .int .i64 o], .bool true]) ?_ rfl ⟨by rw [← HR.out, outL_0, HK.out, HS.out, HX.out]; rfl, b9.drew⟩
  clear kR b9 n0 n1 n2 d0 d1 d2 f0 f1 f2
  generalize ((va.setCell ⟨gR, 0, none⟩ (.int .i64 1)).setCell ⟨gR, 1, none⟩ (.int .i64 1)).setCell ⟨gR, 2, none⟩ (.int .i64 o) = w9 at z0 z1 z2 ⊢
  simp [results, Try.results103, go_sem, z0, z1, z2]

set_option maxRecDepth 100000 in
set_option maxHeartbeats 1000000 in
theorem kernelFor_1 (h w c o s t m f z : Int) (A : Option Addr) (n p : Nat) (xs : List Int) (B : Option Addr) (q r : Nat) (ys : List Int) (W : World) (hr : RdI W A n xs) (hr2 : RdI W B q ys) (hn : n ≤ 1048576) (hq : q ≤ 1048576) :
    Calls Try.prog 103 #[.agg #[.int .i64 h, .int .i64 w, .int .i64 c], .agg #[.int .i64 1, .int .i64 o, .int .i64 s, .int .i64 t, .int .i64 m, .int .i64 f, .int .i64 z, .slice A n p, .slice B q r]] W fun e W' => e = .returned (forV (kerV 1 o s t m f z A n p B q r) (outL h w c 1 o s t m f z xs ys)) ∧ Below W.heap.size W W' := by
  have HN := Lib.hid hn
  have HQ := Lib.hid hq
  have HL := Lib.hid (And.intro hr.1 hr2.1)
  have P := P3.start W 34 104 34 #[.int .i64 h, .int .i64 w, .int .i64 c] #[.int .i64 1, .int .i64 o, .int .i64 s, .int .i64 t, .int .i64 m, .int .i64 f, .int .i64 z, .slice A n p, .slice B q r] #[.int .i64 0, .int .i64 0, .int .i64 0] hr hr2
  obtain ⟨R, hR⟩ : ∃ R, forV (kerV 1 o s t m f z A n p B q r) (outL h w c 1 o s t m f z xs ys) = R := ⟨_, rfl⟩
  rw [hR]
  have HR := Lib.hid hR
  clear hR hn hq hr hr2
  go_enter Try.func103, Try.ntmps103
  go_wp2_with fail
  generalize (((W.alloc (.cells #[.int .i64 h, .int .i64 w, .int .i64 c] 34)).alloc (.cells #[.int .i64 1, .int .i64 o, .int .i64 s, .int .i64 t, .int .i64 m, .int .i64 f, .int .i64 z, .slice A n p, .slice B q r] 104)).alloc (.cells #[.int .i64 0, .int .i64 0, .int .i64 0] 34)) = v at P ⊢
  generalize W.heap.size + 1 + 1 = gR at P ⊢
  generalize W.heap.size + 1 = gL at P ⊢
  with_reducible refine (kernelOf_1 o s t m f z A n p xs B q r ys _ HL.out.1 HL.out.2 HN.out HQ.out).mono ?_
  rintro e v1 ⟨rfl, bb⟩
  have PP := P3.below P bb
  clear bb P
  rw [show kerV 1 o s t m f z A n p B q r = .iface 166 (.agg #[.int .i64 o, .int .i64 m, .int .i64 f, .int .i64 z, .slice A n p, .slice B q r, .int .i64 s, .int .i64 t]) from rfl]
  rcases hk : kerB 1 o s t m f z xs ys with _ | _
  · have HK := Lib.hid hk
    clear hk
    obtain ⟨a0, a1, a2⟩ := PP.out.a.cell3
    obtain ⟨d0, d1, d2⟩ := PP.out.r.cell3
    obtain ⟨f0, f1, f2⟩ := PP.out.r.free3
    go_wp2
    have kR := PP.out.r.set3 (x := .int .i64 0) (y := .int .i64 0) (z := .int .i64 0)
    have b9 := below_set3 PP.out.bl PP.out.le (.int .i64 0) (.int .i64 0) (.int .i64 0)
    obtain ⟨z0, z1, z2⟩ := kR.cell3
    refine bodyPost_ret (v := .tuple #[.nilIface, .agg #[.int .i64 0, .int .i64 0, .int .i64 0], .bool false]) ?_ rfl ⟨by rw [← HR.out, outL_1, HK.out]; rfl, b9⟩
    clear kR b9 a0 a1 a2 d0 d1 d2 f0 f1 f2
    generalize ((v1.setCell ⟨gR, 0, none⟩ (.int .i64 0)).setCell ⟨gR, 1, none⟩ (.int .i64 0)).setCell ⟨gR, 2, none⟩ (.int .i64 0) = w9 at z0 z1 z2 ⊢
    simp [results, Try.results103, go_sem, z0, z1, z2]
  have HK := Lib.hid hk
  clear hk
  rcases hs : shOk h w c with _ | _
  · have HS := Lib.hid hs
    clear hs
    obtain ⟨a0, a1, a2⟩ := PP.out.a.cell3
    obtain ⟨d0, d1, d2⟩ := PP.out.r.cell3
    obtain ⟨f0, f1, f2⟩ := PP.out.r.free3
    go_wp2_with fail
    clear a0 a1 a2 d0 d1 d2 f0 f1 f2
    with_reducible refine (shapeOkI h w c false HS.out _).mono ?_
    rintro e v2 ⟨rfl, bb⟩
    replace PP := P3.below PP bb
    clear bb
    obtain ⟨a0, a1, a2⟩ := PP.out.a.cell3
    obtain ⟨d0, d1, d2⟩ := PP.out.r.cell3
    obtain ⟨f0, f1, f2⟩ := PP.out.r.free3
    go_wp2
    have kR := PP.out.r.set3 (x := .int .i64 0) (y := .int .i64 0) (z := .int .i64 0)
    have b9 := below_set3 PP.out.bl PP.out.le (.int .i64 0) (.int .i64 0) (.int .i64 0)
    obtain ⟨z0, z1, z2⟩ := kR.cell3
    refine bodyPost_ret (v := .tuple #[.nilIface, .agg #[.int .i64 0, .int .i64 0, .int .i64 0], .bool false]) ?_ rfl ⟨by rw [← HR.out, outL_1, HK.out, HS.out]; rfl, b9⟩
    clear kR b9 a0 a1 a2 d0 d1 d2 f0 f1 f2
    generalize ((v2.setCell ⟨gR, 0, none⟩ (.int .i64 0)).setCell ⟨gR, 1, none⟩ (.int .i64 0)).setCell ⟨gR, 2, none⟩ (.int .i64 0) = w9 at z0 z1 z2 ⊢
    simp [results, Try.results103, go_sem, z0, z1, z2]
  have HS := Lib.hid hs
  clear hs
  obtain ⟨a0, a1, a2⟩ := PP.out.a.cell3
  obtain ⟨d0, d1, d2⟩ := PP.out.r.cell3
  obtain ⟨f0, f1, f2⟩ := PP.out.r.free3
  go_wp2_with fail
  clear a0 a1 a2 d0 d1 d2 f0 f1 f2
  with_reducible refine (shapeOkI h w c true HS.out _).mono ?_
  rintro e v2 ⟨rfl, bb⟩
  replace PP := P3.below PP bb
  clear bb
  obtain ⟨a0, a1, a2⟩ := PP.out.a.cell3
  obtain ⟨d0, d1, d2⟩ := PP.out.r.cell3
  obtain ⟨f0, f1, f2⟩ := PP.out.r.free3
  go_wp2_with fail
  clear a0 a1 a2 d0 d1 d2 f0 f1 f2
  with_reducible refine (convThenI o m f z A n p xs B q r ys s t h w c _ PP.out.ra PP.out.rb HN.out HQ.out HS.out).mono ?_
  rintro e v3 ⟨rfl, bb⟩
  replace PP := P3.below PP bb
  clear bb
  rcases hx : (fitsB h w s t && (rightB o m f z xs ys (s * s * c) && decide (xs.length ≤ 600))) with _ | _
  · have HX := Lib.hid hx
    clear hx
    rw [show outV (if false = true then some ((h - s).tdiv t + 1, (w - s).tdiv t + 1, o) else none) = .tuple #[.agg #[.int .i64 0, .int .i64 0, .int .i64 0], .bool false] from rfl]
    have PA := P3.below PP ((Below.refl _ v3).alloc (Nat.le_refl _) (.cells #[.int .i64 0, .int .i64 0, .int .i64 0] 34))
    obtain ⟨a0, a1, a2⟩ := PA.out.a.cell3
    obtain ⟨d0, d1, d2⟩ := PA.out.r.cell3
    obtain ⟨f0, f1, f2⟩ := PA.out.r.free3
    obtain ⟨n0, n1, n2⟩ := (Bk.new v3 34 #[.int .i64 0, .int .i64 0, .int .i64 0]).cell3
    go_wp2
    have kR := PA.out.r.set3 (x := .int .i64 0) (y := .int .i64 0) (z := .int .i64 0)
    have b9 := below_set3 PA.out.bl PA.out.le (.int .i64 0) (.int .i64 0) (.int .i64 0)
    obtain ⟨z0, z1, z2⟩ := kR.cell3
    refine bodyPost_ret (v := .tuple #[.nilIface, .agg #[.int .i64 0, .int .i64 0, .int .i64 0], .bool false]) ?_ rfl ⟨by rw [← HR.out, outL_1, HK.out, HS.out, HX.out]; rfl, b9⟩
    clear kR b9 n0 n1 n2 a0 a1 a2 d0 d1 d2 f0 f1 f2
    generalize (((v3.alloc (.cells #[.int .i64 0, .int .i64 0, .int .i64 0] 34)).setCell ⟨gR, 0, none⟩ (.int .i64 0)).setCell ⟨gR, 1, none⟩ (.int .i64 0)).setCell ⟨gR, 2, none⟩ (.int .i64 0) = w9 at z0 z1 z2 ⊢
    simp [results, Try.results103, go_sem, z0, z1, z2]
  have HX := Lib.hid hx
  clear hx
  rw [show outV (if true = true then some ((h - s).tdiv t + 1, (w - s).tdiv t + 1, o) else none) = .tuple #[.agg #[.int .i64 ((h - s).tdiv t + 1), .int .i64 ((w - s).tdiv t + 1), .int .i64 o], .bool true] from rfl]
  have PA := P3.below PP ((Below.refl _ v3).alloc (Nat.le_refl _) (.cells #[.int .i64 ((h - s).tdiv t + 1), .int .i64 ((w - s).tdiv t + 1), .int .i64 o] 34))
  obtain ⟨a0, a1, a2⟩ := PA.out.a.cell3
  obtain ⟨d0, d1, d2⟩ := PA.out.r.cell3
  obtain ⟨f0, f1, f2⟩ := PA.out.r.free3
  obtain ⟨n0, n1, n2⟩ := (Bk.new v3 34 #[.int .i64 ((h - s).tdiv t + 1), .int .i64 ((w - s).tdiv t + 1), .int .i64 o]).cell3
  go_wp2_with fail
  have NT : gR ≠ v3.heap.size := Nat.ne_of_lt PP.out.r.lt
  clear PP a0 a1 a2 d0 d1 d2 f0 f1 f2
  generalize v3.alloc (.cells #[.int .i64 ((h - s).tdiv t + 1), .int .i64 ((w - s).tdiv t + 1), .int .i64 o] 34) = va at PA n0 n1 n2 ⊢
  generalize v3.heap.size = gT at n0 n1 n2 NT ⊢
  obtain ⟨d0, d1, d2⟩ := PA.out.r.cell3
  obtain ⟨f0, f1, f2⟩ := PA.out.r.free3
  go_region_held3 (fun w' => w'.cell? ⟨gT, 0, none⟩ = some (.int .i64 ((h - s).tdiv t + 1)) ∧ w'.cell? ⟨gT, 1, none⟩ = some (.int .i64 ((w - s).tdiv t + 1)) ∧ w'.cell? ⟨gT, 2, none⟩ = some (.int .i64 o))
    (first
      | exact ⟨n0, n1, n2⟩
      | exact ⟨cellFar3 NT n0 _ _ _, cellFar3 NT n1 _ _ _, cellFar3 NT n2 _ _ _⟩)
    (fail)
  go_wp2
  have kR := PA.out.r.set3 (x := .int .i64 ((h - s).tdiv t + 1)) (y := .int .i64 ((w - s).tdiv t + 1)) (z := .int .i64 o)
  have b9 := below_set3 PA.out.bl PA.out.le (.int .i64 ((h - s).tdiv t + 1)) (.int .i64 ((w - s).tdiv t + 1)) (.int .i64 o)
  obtain ⟨z0, z1, z2⟩ := kR.cell3
  refine bodyPost_ret (v := .tuple #[.iface 166 (.agg #[.int .i64 o, .int .i64 m, .int .i64 f, .int .i64 z, .slice A n p, .slice B q r, .int .i64 s, .int .i64 t]), .agg #[.int .i64 ((h - s).tdiv t + 1), .int .i64 ((w - s).tdiv t + 1), .int .i64 o], .bool true]) ?_ rfl ⟨by rw [← HR.out, outL_1, HK.out, HS.out, HX.out]; rfl, b9.drew⟩
  clear kR b9 n0 n1 n2 d0 d1 d2 f0 f1 f2
  generalize ((va.setCell ⟨gR, 0, none⟩ (.int .i64 ((h - s).tdiv t + 1))).setCell ⟨gR, 1, none⟩ (.int .i64 ((w - s).tdiv t + 1))).setCell ⟨gR, 2, none⟩ (.int .i64 o) = w9 at z0 z1 z2 ⊢
  simp [results, Try.results103, go_sem, z0, z1, z2]

set_option maxRecDepth 100000 in
set_option maxHeartbeats 1000000 in
theorem kernelFor_2 (h w c o s t m f z : Int) (A : Option Addr) (n p : Nat) (xs : List Int) (B : Option Addr) (q r : Nat) (ys : List Int) (W : World) (hr : RdI W A n xs) (hr2 : RdI W B q ys) (hn : n ≤ 1048576) (hq : q ≤ 1048576) :
    Calls Try.prog 103 #[.agg #[.int .i64 h, .int .i64 w, .int .i64 c], .agg #[.int .i64 2, .int .i64 o, .int .i64 s, .int .i64 t, .int .i64 m, .int .i64 f, .int .i64 z, .slice A n p, .slice B q r]] W fun e W' => e = .returned (forV (kerV 2 o s t m f z A n p B q r) (outL h w c 2 o s t m f z xs ys)) ∧ Below W.heap.size W W' := by
  have HN := Lib.hid hn
  have HQ := Lib.hid hq
  have HL := Lib.hid (And.intro hr.1 hr2.1)
  have P := P3.start W 34 104 34 #[.int .i64 h, .int .i64 w, .int .i64 c] #[.int .i64 2, .int .i64 o, .int .i64 s, .int .i64 t, .int .i64 m, .int .i64 f, .int .i64 z, .slice A n p, .slice B q r] #[.int .i64 0, .int .i64 0, .int .i64 0] hr hr2
  obtain ⟨R, hR⟩ : ∃ R, forV (kerV 2 o s t m f z A n p B q r) (outL h w c 2 o s t m f z xs ys) = R := ⟨_, rfl⟩
  rw [hR]
  have HR := Lib.hid hR
  clear hR hn hq hr hr2
  go_enter Try.func103, Try.ntmps103
  go_wp2_with fail
  generalize (((W.alloc (.cells #[.int .i64 h, .int .i64 w, .int .i64 c] 34)).alloc (.cells #[.int .i64 2, .int .i64 o, .int .i64 s, .int .i64 t, .int .i64 m, .int .i64 f, .int .i64 z, .slice A n p, .slice B q r] 104)).alloc (.cells #[.int .i64 0, .int .i64 0, .int .i64 0] 34)) = v at P ⊢
  generalize W.heap.size + 1 + 1 = gR at P ⊢
  generalize W.heap.size + 1 = gL at P ⊢
  with_reducible refine (kernelOf_2 o s t m f z A n p xs B q r ys _ HL.out.1 HL.out.2 HN.out HQ.out).mono ?_
  rintro e v1 ⟨rfl, bb⟩
  have PP := P3.below P bb
  clear bb P
  rw [show kerV 2 o s t m f z A n p B q r = .iface 168 (.agg #[.int .i64 s, .int .i64 t, .func (.func 117) #[] #[]]) from rfl]
  rcases hk : kerB 2 o s t m f z xs ys with _ | _
  · have HK := Lib.hid hk
    clear hk
    obtain ⟨a0, a1, a2⟩ := PP.out.a.cell3
    obtain ⟨d0, d1, d2⟩ := PP.out.r.cell3
    obtain ⟨f0, f1, f2⟩ := PP.out.r.free3
    go_wp2
    have kR := PP.out.r.set3 (x := .int .i64 0) (y := .int .i64 0) (z := .int .i64 0)
    have b9 := below_set3 PP.out.bl PP.out.le (.int .i64 0) (.int .i64 0) (.int .i64 0)
    obtain ⟨z0, z1, z2⟩ := kR.cell3
    refine bodyPost_ret (v := .tuple #[.nilIface, .agg #[.int .i64 0, .int .i64 0, .int .i64 0], .bool false]) ?_ rfl ⟨by rw [← HR.out, outL_2, HK.out]; rfl, b9⟩
    clear kR b9 a0 a1 a2 d0 d1 d2 f0 f1 f2
    generalize ((v1.setCell ⟨gR, 0, none⟩ (.int .i64 0)).setCell ⟨gR, 1, none⟩ (.int .i64 0)).setCell ⟨gR, 2, none⟩ (.int .i64 0) = w9 at z0 z1 z2 ⊢
    simp [results, Try.results103, go_sem, z0, z1, z2]
  have HK := Lib.hid hk
  clear hk
  rcases hs : shOk h w c with _ | _
  · have HS := Lib.hid hs
    clear hs
    obtain ⟨a0, a1, a2⟩ := PP.out.a.cell3
    obtain ⟨d0, d1, d2⟩ := PP.out.r.cell3
    obtain ⟨f0, f1, f2⟩ := PP.out.r.free3
    go_wp2_with fail
    clear a0 a1 a2 d0 d1 d2 f0 f1 f2
    with_reducible refine (shapeOkI h w c false HS.out _).mono ?_
    rintro e v2 ⟨rfl, bb⟩
    replace PP := P3.below PP bb
    clear bb
    obtain ⟨a0, a1, a2⟩ := PP.out.a.cell3
    obtain ⟨d0, d1, d2⟩ := PP.out.r.cell3
    obtain ⟨f0, f1, f2⟩ := PP.out.r.free3
    go_wp2
    have kR := PP.out.r.set3 (x := .int .i64 0) (y := .int .i64 0) (z := .int .i64 0)
    have b9 := below_set3 PP.out.bl PP.out.le (.int .i64 0) (.int .i64 0) (.int .i64 0)
    obtain ⟨z0, z1, z2⟩ := kR.cell3
    refine bodyPost_ret (v := .tuple #[.nilIface, .agg #[.int .i64 0, .int .i64 0, .int .i64 0], .bool false]) ?_ rfl ⟨by rw [← HR.out, outL_2, HK.out, HS.out]; rfl, b9⟩
    clear kR b9 a0 a1 a2 d0 d1 d2 f0 f1 f2
    generalize ((v2.setCell ⟨gR, 0, none⟩ (.int .i64 0)).setCell ⟨gR, 1, none⟩ (.int .i64 0)).setCell ⟨gR, 2, none⟩ (.int .i64 0) = w9 at z0 z1 z2 ⊢
    simp [results, Try.results103, go_sem, z0, z1, z2]
  have HS := Lib.hid hs
  clear hs
  obtain ⟨a0, a1, a2⟩ := PP.out.a.cell3
  obtain ⟨d0, d1, d2⟩ := PP.out.r.cell3
  obtain ⟨f0, f1, f2⟩ := PP.out.r.free3
  go_wp2_with fail
  clear a0 a1 a2 d0 d1 d2 f0 f1 f2
  with_reducible refine (shapeOkI h w c true HS.out _).mono ?_
  rintro e v2 ⟨rfl, bb⟩
  replace PP := P3.below PP bb
  clear bb
  obtain ⟨a0, a1, a2⟩ := PP.out.a.cell3
  obtain ⟨d0, d1, d2⟩ := PP.out.r.cell3
  obtain ⟨f0, f1, f2⟩ := PP.out.r.free3
  go_wp2_with fail
  clear a0 a1 a2 d0 d1 d2 f0 f1 f2
  with_reducible refine (poolThenI s t (.func (.func 117) #[] #[]) h w c _ HS.out).mono ?_
  rintro e v3 ⟨rfl, bb⟩
  replace PP := P3.below PP bb
  clear bb
  rcases hx : fitsB h w s t with _ | _
  · have HX := Lib.hid hx
    clear hx
    rw [show outV (if false = true then some ((h - s).tdiv t + 1, (w - s).tdiv t + 1, c) else none) = .tuple #[.agg #[.int .i64 0, .int .i64 0, .int .i64 0], .bool false] from rfl]
    have PA := P3.below PP ((Below.refl _ v3).alloc (Nat.le_refl _) (.cells #[.int .i64 0, .int .i64 0, .int .i64 0] 34))
    obtain ⟨a0, a1, a2⟩ := PA.out.a.cell3
    obtain ⟨d0, d1, d2⟩ := PA.out.r.cell3
    obtain ⟨f0, f1, f2⟩ := PA.out.r.free3
    obtain ⟨n0, n1, n2⟩ := (Bk.new v3 34 #[.int .i64 0, .int .i64 0, .int .i64 0]).cell3
    go_wp2
    have kR := PA.out.r.set3 (x := .int .i64 0) (y := .int .i64 0) (z := .int .i64 0)
    have b9 := below_set3 PA.out.bl PA.out.le (.int .i64 0) (.int .i64 0) (.int .i64 0)
    obtain ⟨z0, z1, z2⟩ := kR.cell3
    refine bodyPost_ret (v := .tuple #[.nilIface, .agg #[.int .i64 0, .int .i64 0, .int .i64 0], .bool false]) ?_ rfl ⟨by rw [← HR.out, outL_2, HK.out, HS.out, HX.out]; rfl, b9⟩
    clear kR b9 n0 n1 n2 a0 a1 a2 d0 d1 d2 f0 f1 f2
    generalize (((v3.alloc (.cells #[.int .i64 0, .int .i64 0, .int .i64 0] 34)).setCell ⟨gR, 0, none⟩ (.int .i64 0)).setCell ⟨gR, 1, none⟩ (.int .i64 0)).setCell ⟨gR, 2, none⟩ (.int .i64 0) = w9 at z0 z1 z2 ⊢
    simp [results, Try.results103, go_sem, z0, z1, z2]
  have HX := Lib.hid hx
  clear hx
  rw [show outV (if true = true then some ((h - s).tdiv t + 1, (w - s).tdiv t + 1, c) else none) = .tuple #[.agg #[.int .i64 ((h - s).tdiv t + 1), .int .i64 ((w - s).tdiv t + 1), .int .i64 c], .bool true] from rfl]
  have PA := P3.below PP ((Below.refl _ v3).alloc (Nat.le_refl _) (.cells #[.int .i64 ((h - s).tdiv t + 1), .int .i64 ((w - s).tdiv t + 1), .int .i64 c] 34))
  obtain ⟨a0, a1, a2⟩ := PA.out.a.cell3
  obtain ⟨d0, d1, d2⟩ := PA.out.r.cell3
  obtain ⟨f0, f1, f2⟩ := PA.out.r.free3
  obtain ⟨n0, n1, n2⟩ := (Bk.new v3 34 #[.int .i64 ((h - s).tdiv t + 1), .int .i64 ((w - s).tdiv t + 1), .int .i64 c]).cell3
  go_wp2_with fail
  have NT : gR ≠ v3.heap.size := Nat.ne_of_lt PP.out.r.lt
  clear PP a0 a1 a2 d0 d1 d2 f0 f1 f2
  generalize v3.alloc (.cells #[.int .i64 ((h - s).tdiv t + 1), .int .i64 ((w - s).tdiv t + 1), .int .i64 c] 34) = va at PA n0 n1 n2 ⊢
  generalize v3.heap.size = gT at n0 n1 n2 NT ⊢
  obtain ⟨d0, d1, d2⟩ := PA.out.r.cell3
  obtain ⟨f0, f1, f2⟩ := PA.out.r.free3
  go_region_held3 (fun w' => w'.cell? ⟨gT, 0, none⟩ = some (.int .i64 ((h - s).tdiv t + 1)) ∧ w'.cell? ⟨gT, 1, none⟩ = some (.int .i64 ((w - s).tdiv t + 1)) ∧ w'.cell? ⟨gT, 2, none⟩ = some (.int .i64 c))
    (first
      | exact ⟨n0, n1, n2⟩
      | exact ⟨cellFar3 NT n0 _ _ _, cellFar3 NT n1 _ _ _, cellFar3 NT n2 _ _ _⟩)
    (fail)
  go_wp2
  have kR := PA.out.r.set3 (x := .int .i64 ((h - s).tdiv t + 1)) (y := .int .i64 ((w - s).tdiv t + 1)) (z := .int .i64 c)
  have b9 := below_set3 PA.out.bl PA.out.le (.int .i64 ((h - s).tdiv t + 1)) (.int .i64 ((w - s).tdiv t + 1)) (.int .i64 c)
  obtain ⟨z0, z1, z2⟩ := kR.cell3
  refine bodyPost_ret (v := .tuple #[.iface 168 (.agg #[.int .i64 s, .int .i64 t, .func (.func 117) #[] #[]]), .agg #[.int .i64 ((h - s).tdiv t + 1), .int .i64 ((w - s).tdiv t + 1), .int .i64 c], .bool true]) ?_ rfl ⟨by rw [← HR.out, outL_2, HK.out, HS.out, HX.out]; rfl, b9.drew⟩
  clear kR b9 n0 n1 n2 d0 d1 d2 f0 f1 f2
  generalize ((va.setCell ⟨gR, 0, none⟩ (.int .i64 ((h - s).tdiv t + 1))).setCell ⟨gR, 1, none⟩ (.int .i64 ((w - s).tdiv t + 1))).setCell ⟨gR, 2, none⟩ (.int .i64 c) = w9 at z0 z1 z2 ⊢
  simp [results, Try.results103, go_sem, z0, z1, z2]

set_option maxRecDepth 100000 in
set_option maxHeartbeats 1000000 in
theorem kernelFor_3 (h w c o s t m f z : Int) (A : Option Addr) (n p : Nat) (xs : List Int) (B : Option Addr) (q r : Nat) (ys : List Int) (W : World) (hr : RdI W A n xs) (hr2 : RdI W B q ys) (hn : n ≤ 1048576) (hq : q ≤ 1048576) :
    Calls Try.prog 103 #[.agg #[.int .i64 h, .int .i64 w, .int .i64 c], .agg #[.int .i64 3, .int .i64 o, .int .i64 s, .int .i64 t, .int .i64 m, .int .i64 f, .int .i64 z, .slice A n p, .slice B q r]] W fun e W' => e = .returned (forV (kerV 3 o s t m f z A n p B q r) (outL h w c 3 o s t m f z xs ys)) ∧ Below W.heap.size W W' := by
  have HN := Lib.hid hn
  have HQ := Lib.hid hq
  have HL := Lib.hid (And.intro hr.1 hr2.1)
  have P := P3.start W 34 104 34 #[.int .i64 h, .int .i64 w, .int .i64 c] #[.int .i64 3, .int .i64 o, .int .i64 s, .int .i64 t, .int .i64 m, .int .i64 f, .int .i64 z, .slice A n p, .slice B q r] #[.int .i64 0, .int .i64 0, .int .i64 0] hr hr2
  obtain ⟨R, hR⟩ : ∃ R, forV (kerV 3 o s t m f z A n p B q r) (outL h w c 3 o s t m f z xs ys) = R := ⟨_, rfl⟩
  rw [hR]
  have HR := Lib.hid hR
  clear hR hn hq hr hr2
  go_enter Try.func103, Try.ntmps103
  go_wp2_with fail
  generalize (((W.alloc (.cells #[.int .i64 h, .int .i64 w, .int .i64 c] 34)).alloc (.cells #[.int .i64 3, .int .i64 o, .int .i64 s, .int .i64 t, .int .i64 m, .int .i64 f, .int .i64 z, .slice A n p, .slice B q r] 104)).alloc (.cells #[.int .i64 0, .int .i64 0, .int .i64 0] 34)) = v at P ⊢
  generalize W.heap.size + 1 + 1 = gR at P ⊢
  generalize W.heap.size + 1 = gL at P ⊢
  with_reducible refine (kernelOf_3 o s t m f z A n p xs B q r ys _ HL.out.1 HL.out.2 HN.out HQ.out).mono ?_
  rintro e v1 ⟨rfl, bb⟩
  have PP := P3.below P bb
  clear bb P
  rw [show kerV 3 o s t m f z A n p B q r = .iface 168 (.agg #[.int .i64 s, .int .i64 t, .func (.func 115) #[] #[]]) from rfl]
  rcases hk : kerB 3 o s t m f z xs ys with _ | _
  · have HK := Lib.hid hk
    clear hk
    obtain ⟨a0, a1, a2⟩ := PP.out.a.cell3
    obtain ⟨d0, d1, d2⟩ := PP.out.r.cell3
    obtain ⟨f0, f1, f2⟩ := PP.out.r.free3
    go_wp2
    have kR := PP.out.r.set3 (x := .int .i64 0) (y := .int .i64 0) (z := .int .i64 0)
    have b9 := below_set3 PP.out.bl PP.out.le (.int .i64 0) (.int .i64 0) (.int .i64 0)
    obtain ⟨z0, z1, z2⟩ := kR.cell3
    refine bodyPost_ret (v := .tuple #[.nilIface, .agg #[.int .i64 0, .int .i64 0, .int .i64 0], .bool false]) ?_ rfl ⟨by rw [← HR.out, outL_3, HK.out]; rfl, b9⟩
    clear kR b9 a0 a1 a2 d0 d1 d2 f0 f1 f2
    generalize ((v1.setCell ⟨gR, 0, none⟩ (.int .i64 0)).setCell ⟨gR, 1, none⟩ (.int .i64 0)).setCell ⟨gR, 2, none⟩ (.int .i64 0) = w9 at z0 z1 z2 ⊢
    simp [results, Try.results103, go_sem, z0, z1, z2]
  have HK := Lib.hid hk
  clear hk
  rcases hs : shOk h w c with _ | _
  · have HS := Lib.hid hs
    clear hs
    obtain ⟨a0, a1, a2⟩ := PP.out.a.cell3
    obtain ⟨d0, d1, d2⟩ := PP.out.r.cell3
    obtain ⟨f0, f1, f2⟩ := PP.out.r.free3
    go_wp2_with fail
    clear a0 a1 a2 d0 d1 d2 f0 f1 f2
    with_reducible refine (shapeOkI h w c false HS.out _).mono ?_
    rintro e v2 ⟨rfl, bb⟩
    replace PP := P3.below PP bb
    clear bb
    obtain ⟨a0, a1, a2⟩ := PP.out.a.cell3
    obtain ⟨d0, d1, d2⟩ := PP.out.r.cell3
    obtain ⟨f0, f1, f2⟩ := PP.out.r.free3
    go_wp2
    have kR := PP.out.r.set3 (x := .int .i64 0) (y := .int .i64 0) (z := .int .i64 0)
    have b9 := below_set3 PP.out.bl PP.out.le (.int .i64 0) (.int .i64 0) (.int .i64 0)
    obtain ⟨z0, z1, z2⟩ := kR.cell3
    refine bodyPost_ret (v := .tuple #[.nilIface, .agg #[.int .i64 0, .int .i64 0, .int .i64 0], .bool false]) ?_ rfl ⟨by rw [← HR.out, outL_3, HK.out, HS.out]; rfl, b9⟩
    clear kR b9 a0 a1 a2 d0 d1 d2 f0 f1 f2
    generalize ((v2.setCell ⟨gR, 0, none⟩ (.int .i64 0)).setCell ⟨gR, 1, none⟩ (.int .i64 0)).setCell ⟨gR, 2, none⟩ (.int .i64 0) = w9 at z0 z1 z2 ⊢
    simp [results, Try.results103, go_sem, z0, z1, z2]
  have HS := Lib.hid hs
  clear hs
  obtain ⟨a0, a1, a2⟩ := PP.out.a.cell3
  obtain ⟨d0, d1, d2⟩ := PP.out.r.cell3
  obtain ⟨f0, f1, f2⟩ := PP.out.r.free3
  go_wp2_with fail
  clear a0 a1 a2 d0 d1 d2 f0 f1 f2
  with_reducible refine (shapeOkI h w c true HS.out _).mono ?_
  rintro e v2 ⟨rfl, bb⟩
  replace PP := P3.below PP bb
  clear bb
  obtain ⟨a0, a1, a2⟩ := PP.out.a.cell3
  obtain ⟨d0, d1, d2⟩ := PP.out.r.cell3
  obtain ⟨f0, f1, f2⟩ := PP.out.r.free3
  go_wp2_with fail
  clear a0 a1 a2 d0 d1 d2 f0 f1 f2
  with_reducible refine (poolThenI s t (.func (.func 115) #[] #[]) h w c _ HS.out).mono ?_
  rintro e v3 ⟨rfl, bb⟩
  replace PP := P3.below PP bb
  clear bb
  rcases hx : fitsB h w s t with _ | _
  · have HX := Lib.hid hx
    clear hx
    rw [show outV (if false = true then some ((h - s).tdiv t + 1, (w - s).tdiv t + 1, c) else none) = .tuple #[.agg #[.int .i64 0, .int .i64 0, .int .i64 0], .bool false] from rfl]
    have PA := P3.below PP ((Below.refl _ v3).alloc (Nat.le_refl _) (.cells #[.int .i64 0, .int .i64 0, .int .i64 0] 34))
    obtain ⟨a0, a1, a2⟩ := PA.out.a.cell3
    obtain ⟨d0, d1, d2⟩ := PA.out.r.cell3
    obtain ⟨f0, f1, f2⟩ := PA.out.r.free3
    obtain ⟨n0, n1, n2⟩ := (Bk.new v3 34 #[.int .i64 0, .int .i64 0, .int .i64 0]).cell3
    go_wp2
    have kR := PA.out.r.set3 (x := .int .i64 0) (y := .int .i64 0) (z := .int .i64 0)
    have b9 := below_set3 PA.out.bl PA.out.le (.int .i64 0) (.int .i64 0) (.int .i64 0)
    obtain ⟨z0, z1, z2⟩ := kR.cell3
    refine bodyPost_ret (v := .tuple #[.nilIface, .agg #[.int .i64 0, .int .i64 0, .int .i64 0], .bool false]) ?_ rfl ⟨by rw [← HR.out, outL_3, HK.out, HS.out, HX.out]; rfl, b9⟩
    clear kR b9 n0 n1 n2 a0 a1 a2 d0 d1 d2 f0 f1 f2
    generalize (((v3.alloc (.cells #[.int .i64 0, .int .i64 0, .int .i64 0] 34)).setCell ⟨gR, 0, none⟩ (.int .i64 0)).setCell ⟨gR, 1, none⟩ (.int .i64 0)).setCell ⟨gR, 2, none⟩ (.int .i64 0) = w9 at z0 z1 z2 ⊢
    simp [results, Try.results103, go_sem, z0, z1, z2]
  have HX := Lib.hid hx
  clear hx
  rw [show outV (if true = true then some ((h - s).tdiv t + 1, (w - s).tdiv t + 1, c) else none) = .tuple #[.agg #[.int .i64 ((h - s).tdiv t + 1), .int .i64 ((w - s).tdiv t + 1), .int .i64 c], .bool true] from rfl]
  have PA := P3.below PP ((Below.refl _ v3).alloc (Nat.le_refl _) (.cells #[.int .i64 ((h - s).tdiv t + 1), .int .i64 ((w - s).tdiv t + 1), .int .i64 c] 34))
  obtain ⟨a0, a1, a2⟩ := PA.out.a.cell3
  obtain ⟨d0, d1, d2⟩ := PA.out.r.cell3
  obtain ⟨f0, f1, f2⟩ := PA.out.r.free3
  obtain ⟨n0, n1, n2⟩ := (Bk.new v3 34 #[.int .i64 ((h - s).tdiv t + 1), .int .i64 ((w - s).tdiv t + 1), .int .i64 c]).cell3
  go_wp2_with fail
  have NT : gR ≠ v3.heap.size := Nat.ne_of_lt PP.out.r.lt
  clear PP a0 a1 a2 d0 d1 d2 f0 f1 f2
  generalize v3.alloc (.cells #[.int .i64 ((h - s).tdiv t + 1), .int .i64 ((w - s).tdiv t + 1), .int .i64 c] 34) = va at PA n0 n1 n2 ⊢
  generalize v3.heap.size = gT at n0 n1 n2 NT ⊢
  obtain ⟨d0, d1, d2⟩ := PA.out.r.cell3
  obtain ⟨f0, f1, f2⟩ := PA.out.r.free3
  go_region_held3 (fun w' => w'.cell? ⟨gT, 0, none⟩ = some (.int .i64 ((h - s).tdiv t + 1)) ∧ w'.cell? ⟨gT, 1, none⟩ = some (.int .i64 ((w - s).tdiv t + 1)) ∧ w'.cell? ⟨gT, 2, none⟩ = some (.int .i64 c))
    (first
      | exact ⟨n0, n1, n2⟩
      | exact ⟨cellFar3 NT n0 _ _ _, cellFar3 NT n1 _ _ _, cellFar3 NT n2 _ _ _⟩)
    (fail)
  go_wp2
  have kR := PA.out.r.set3 (x := .int .i64 ((h - s).tdiv t + 1)) (y := .int .i64 ((w - s).tdiv t + 1)) (z := .int .i64 c)
  have b9 := below_set3 PA.out.bl PA.out.le (.int .i64 ((h - s).tdiv t + 1)) (.int .i64 ((w - s).tdiv t + 1)) (.int .i64 c)
  obtain ⟨z0, z1, z2⟩ := kR.cell3
  refine bodyPost_ret (v := .tuple #[.iface 168 (.agg #[.int .i64 s, .int .i64 t, .func (.func 115) #[] #[]]), .agg #[.int .i64 ((h - s).tdiv t + 1), .int .i64 ((w - s).tdiv t + 1), .int .i64 c], .bool true]) ?_ rfl ⟨by rw [← HR.out, outL_3, HK.out, HS.out, HX.out]; rfl, b9.drew⟩
  clear kR b9 n0 n1 n2 d0 d1 d2 f0 f1 f2
  generalize ((va.setCell ⟨gR, 0, none⟩ (.int .i64 ((h - s).tdiv t + 1))).setCell ⟨gR, 1, none⟩ (.int .i64 ((w - s).tdiv t + 1))).setCell ⟨gR, 2, none⟩ (.int .i64 c) = w9 at z0 z1 z2 ⊢
  simp [results, Try.results103, go_sem, z0, z1, z2]

set_option maxRecDepth 100000 in
set_option maxHeartbeats 1000000 in
theorem kernelFor_4 (h w c o s t m f z : Int) (A : Option Addr) (n p : Nat) (xs : List Int) (B : Option Addr) (q r : Nat) (ys : List Int) (W : World) (hr : RdI W A n xs) (hr2 : RdI W B q ys) (hn : n ≤ 1048576) (hq : q ≤ 1048576) :
    Calls Try.prog 103 #[.agg #[.int .i64 h, .int .i64 w, .int .i64 c], .agg #[.int .i64 4, .int .i64 o, .int .i64 s, .int .i64 t, .int .i64 m, .int .i64 f, .int .i64 z, .slice A n p, .slice B q r]] W fun e W' => e = .returned (forV (kerV 4 o s t m f z A n p B q r) (outL h w c 4 o s t m f z xs ys)) ∧ Below W.heap.size W W' := by
  have HN := Lib.hid hn
  have HQ := Lib.hid hq
  have HL := Lib.hid (And.intro hr.1 hr2.1)
  have P := P3.start W 34 104 34 #[.int .i64 h, .int .i64 w, .int .i64 c] #[.int .i64 4, .int .i64 o, .int .i64 s, .int .i64 t, .int .i64 m, .int .i64 f, .int .i64 z, .slice A n p, .slice B q r] #[.int .i64 0, .int .i64 0, .int .i64 0] hr hr2
  obtain ⟨R, hR⟩ : ∃ R, forV (kerV 4 o s t m f z A n p B q r) (outL h w c 4 o s t m f z xs ys) = R := ⟨_, rfl⟩
  rw [hR]
  have HR := Lib.hid hR
  clear hR hn hq hr hr2
  go_enter Try.func103, Try.ntmps103
  go_wp2_with fail
  generalize (((W.alloc (.cells #[.int .i64 h, .int .i64 w, .int .i64 c] 34)).alloc (.cells #[.int .i64 4, .int .i64 o, .int .i64 s, .int .i64 t, .int .i64 m, .int .i64 f, .int .i64 z, .slice A n p, .slice B q r] 104)).alloc (.cells #[.int .i64 0, .int .i64 0, .int .i64 0] 34)) = v at P ⊢
  generalize W.heap.size + 1 + 1 = gR at P ⊢
  generalize W.heap.size + 1 = gL at P ⊢
  with_reducible refine (kernelOf_4 o s t m f z A n p xs B q r ys _ HL.out.1 HL.out.2 HN.out HQ.out).mono ?_
  rintro e v1 ⟨rfl, bb⟩
  have PP := P3.below P bb
  clear bb P
  rw [show kerV 4 o s t m f z A n p B q r = .iface 170 (.agg #[.int .i64 z]) from rfl]
  rcases hk : kerB 4 o s t m f z xs ys with _ | _
  · have HK := Lib.hid hk
    clear hk
    obtain ⟨a0, a1, a2⟩ := PP.out.a.cell3
    obtain ⟨d0, d1, d2⟩ := PP.out.r.cell3
    obtain ⟨f0, f1, f2⟩ := PP.out.r.free3
    go_wp2
    have kR := PP.out.r.set3 (x := .int .i64 0) (y := .int .i64 0) (z := .int .i64 0)
    have b9 := below_set3 PP.out.bl PP.out.le (.int .i64 0) (.int .i64 0) (.int .i64 0)
    obtain ⟨z0, z1, z2⟩ := kR.cell3
    refine bodyPost_ret (v := .tuple #[.nilIface, .agg #[.int .i64 0, .int .i64 0, .int .i64 0], .bool false]) ?_ rfl ⟨by rw [← HR.out, outL_4, HK.out]; rfl, b9⟩
    clear kR b9 a0 a1 a2 d0 d1 d2 f0 f1 f2
    generalize ((v1.setCell ⟨gR, 0, none⟩ (.int .i64 0)).setCell ⟨gR, 1, none⟩ (.int .i64 0)).setCell ⟨gR, 2, none⟩ (.int .i64 0) = w9 at z0 z1 z2 ⊢
    simp [results, Try.results103, go_sem, z0, z1, z2]
  have HK := Lib.hid hk
  clear hk
  rcases hs : shOk h w c with _ | _
  · have HS := Lib.hid hs
    clear hs
    obtain ⟨a0, a1, a2⟩ := PP.out.a.cell3
    obtain ⟨d0, d1, d2⟩ := PP.out.r.cell3
    obtain ⟨f0, f1, f2⟩ := PP.out.r.free3
    go_wp2_with fail
    clear a0 a1 a2 d0 d1 d2 f0 f1 f2
    with_reducible refine (shapeOkI h w c false HS.out _).mono ?_
    rintro e v2 ⟨rfl, bb⟩
    replace PP := P3.below PP bb
    clear bb
    obtain ⟨a0, a1, a2⟩ := PP.out.a.cell3
    obtain ⟨d0, d1, d2⟩ := PP.out.r.cell3
    obtain ⟨f0, f1, f2⟩ := PP.out.r.free3
    go_wp2
    have kR := PP.out.r.set3 (x := .int .i64 0) (y := .int .i64 0) (z := .int .i64 0)
    have b9 := below_set3 PP.out.bl PP.out.le (.int .i64 0) (.int .i64 0) (.int .i64 0)
    obtain ⟨z0, z1, z2⟩ := kR.cell3
    refine bodyPost_ret (v := .tuple #[.nilIface, .agg #[.int .i64 0, .int .i64 0, .int .i64 0], .bool false]) ?_ rfl ⟨by rw [← HR.out, outL_4, HK.out, HS.out]; rfl, b9⟩
    clear kR b9 a0 a1 a2 d0 d1 d2 f0 f1 f2
    generalize ((v2.setCell ⟨gR, 0, none⟩ (.int .i64 0)).setCell ⟨gR, 1, none⟩ (.int .i64 0)).setCell ⟨gR, 2, none⟩ (.int .i64 0) = w9 at z0 z1 z2 ⊢
    simp [results, Try.results103, go_sem, z0, z1, z2]
  have HS := Lib.hid hs
  clear hs
  obtain ⟨a0, a1, a2⟩ := PP.out.a.cell3
  obtain ⟨d0, d1, d2⟩ := PP.out.r.cell3
  obtain ⟨f0, f1, f2⟩ := PP.out.r.free3
  go_wp2_with fail
  clear a0 a1 a2 d0 d1 d2 f0 f1 f2
  with_reducible refine (shapeOkI h w c true HS.out _).mono ?_
  rintro e v2 ⟨rfl, bb⟩
  replace PP := P3.below PP bb
  clear bb
  obtain ⟨a0, a1, a2⟩ := PP.out.a.cell3
  obtain ⟨d0, d1, d2⟩ := PP.out.r.cell3
  obtain ⟨f0, f1, f2⟩ := PP.out.r.free3
  go_wp2_with fail
  clear a0 a1 a2 d0 d1 d2 f0 f1 f2
  with_reducible refine (reluThenI z h w c _).mono ?_
  rintro e v3 ⟨rfl, bb⟩
  replace PP := P3.below PP bb
  clear bb
  rcases hx : inB (-128) 127 z with _ | _
  · have HX := Lib.hid hx
    clear hx
    have PA := P3.below PP ((Below.refl _ v3).alloc (Nat.le_refl _) (.cells #[.int .i64 h, .int .i64 w, .int .i64 c] 34))
    obtain ⟨a0, a1, a2⟩ := PA.out.a.cell3
    obtain ⟨d0, d1, d2⟩ := PA.out.r.cell3
    obtain ⟨f0, f1, f2⟩ := PA.out.r.free3
    obtain ⟨n0, n1, n2⟩ := (Bk.new v3 34 #[.int .i64 h, .int .i64 w, .int .i64 c]).cell3
    go_wp2
    have kR := PA.out.r.set3 (x := .int .i64 0) (y := .int .i64 0) (z := .int .i64 0)
    have b9 := below_set3 PA.out.bl PA.out.le (.int .i64 0) (.int .i64 0) (.int .i64 0)
    obtain ⟨z0, z1, z2⟩ := kR.cell3
    refine bodyPost_ret (v := .tuple #[.nilIface, .agg #[.int .i64 0, .int .i64 0, .int .i64 0], .bool false]) ?_ rfl ⟨by rw [← HR.out, outL_4, HK.out, HS.out, HX.out]; rfl, b9⟩
    clear kR b9 n0 n1 n2 a0 a1 a2 d0 d1 d2 f0 f1 f2
    generalize (((v3.alloc (.cells #[.int .i64 h, .int .i64 w, .int .i64 c] 34)).setCell ⟨gR, 0, none⟩ (.int .i64 0)).setCell ⟨gR, 1, none⟩ (.int .i64 0)).setCell ⟨gR, 2, none⟩ (.int .i64 0) = w9 at z0 z1 z2 ⊢
    simp [results, Try.results103, go_sem, z0, z1, z2]
  have HX := Lib.hid hx
  clear hx
  have PA := P3.below PP ((Below.refl _ v3).alloc (Nat.le_refl _) (.cells #[.int .i64 h, .int .i64 w, .int .i64 c] 34))
  obtain ⟨a0, a1, a2⟩ := PA.out.a.cell3
  obtain ⟨d0, d1, d2⟩ := PA.out.r.cell3
  obtain ⟨f0, f1, f2⟩ := PA.out.r.free3
  obtain ⟨n0, n1, n2⟩ := (Bk.new v3 34 #[.int .i64 h, .int .i64 w, .int .i64 c]).cell3
  go_wp2_with fail
  have NT : gR ≠ v3.heap.size := Nat.ne_of_lt PP.out.r.lt
  clear PP a0 a1 a2 d0 d1 d2 f0 f1 f2
  generalize v3.alloc (.cells #[.int .i64 h, .int .i64 w, .int .i64 c] 34) = va at PA n0 n1 n2 ⊢
  generalize v3.heap.size = gT at n0 n1 n2 NT ⊢
  obtain ⟨d0, d1, d2⟩ := PA.out.r.cell3
  obtain ⟨f0, f1, f2⟩ := PA.out.r.free3
  go_region_held3 (fun w' => w'.cell? ⟨gT, 0, none⟩ = some (.int .i64 h) ∧ w'.cell? ⟨gT, 1, none⟩ = some (.int .i64 w) ∧ w'.cell? ⟨gT, 2, none⟩ = some (.int .i64 c))
    (first
      | exact ⟨n0, n1, n2⟩
      | exact ⟨cellFar3 NT n0 _ _ _, cellFar3 NT n1 _ _ _, cellFar3 NT n2 _ _ _⟩)
    (fail)
  go_wp2
  have kR := PA.out.r.set3 (x := .int .i64 h) (y := .int .i64 w) (z := .int .i64 c)
  have b9 := below_set3 PA.out.bl PA.out.le (.int .i64 h) (.int .i64 w) (.int .i64 c)
  obtain ⟨z0, z1, z2⟩ := kR.cell3
  refine bodyPost_ret (v := .tuple #[.iface 170 (.agg #[.int .i64 z]), .agg #[.int .i64 h, .int .i64 w, .int .i64 c], .bool true]) ?_ rfl ⟨by rw [← HR.out, outL_4, HK.out, HS.out, HX.out]; rfl, b9.drew⟩
  clear kR b9 n0 n1 n2 d0 d1 d2 f0 f1 f2
  generalize ((va.setCell ⟨gR, 0, none⟩ (.int .i64 h)).setCell ⟨gR, 1, none⟩ (.int .i64 w)).setCell ⟨gR, 2, none⟩ (.int .i64 c) = w9 at z0 z1 z2 ⊢
  simp [results, Try.results103, go_sem, z0, z1, z2]

set_option maxRecDepth 100000 in
set_option maxHeartbeats 1000000 in
theorem kernelFor_5 (h w c o s t m f z : Int) (A : Option Addr) (n p : Nat) (xs : List Int) (B : Option Addr) (q r : Nat) (ys : List Int) (W : World) (hr : RdI W A n xs) (hr2 : RdI W B q ys) (hn : n ≤ 1048576) (hq : q ≤ 1048576) :
    Calls Try.prog 103 #[.agg #[.int .i64 h, .int .i64 w, .int .i64 c], .agg #[.int .i64 5, .int .i64 o, .int .i64 s, .int .i64 t, .int .i64 m, .int .i64 f, .int .i64 z, .slice A n p, .slice B q r]] W fun e W' => e = .returned (forV (kerV 5 o s t m f z A n p B q r) (outL h w c 5 o s t m f z xs ys)) ∧ Below W.heap.size W W' := by
  have HN := Lib.hid hn
  have HQ := Lib.hid hq
  have HL := Lib.hid (And.intro hr.1 hr2.1)
  have P := P3.start W 34 104 34 #[.int .i64 h, .int .i64 w, .int .i64 c] #[.int .i64 5, .int .i64 o, .int .i64 s, .int .i64 t, .int .i64 m, .int .i64 f, .int .i64 z, .slice A n p, .slice B q r] #[.int .i64 0, .int .i64 0, .int .i64 0] hr hr2
  obtain ⟨R, hR⟩ : ∃ R, forV (kerV 5 o s t m f z A n p B q r) (outL h w c 5 o s t m f z xs ys) = R := ⟨_, rfl⟩
  rw [hR]
  have HR := Lib.hid hR
  clear hR hn hq hr hr2
  go_enter Try.func103, Try.ntmps103
  go_wp2_with fail
  generalize (((W.alloc (.cells #[.int .i64 h, .int .i64 w, .int .i64 c] 34)).alloc (.cells #[.int .i64 5, .int .i64 o, .int .i64 s, .int .i64 t, .int .i64 m, .int .i64 f, .int .i64 z, .slice A n p, .slice B q r] 104)).alloc (.cells #[.int .i64 0, .int .i64 0, .int .i64 0] 34)) = v at P ⊢
  generalize W.heap.size + 1 + 1 = gR at P ⊢
  generalize W.heap.size + 1 = gL at P ⊢
  with_reducible refine (kernelOf_5 o s t m f z A n p xs B q r ys _ HL.out.1 HL.out.2 HN.out HQ.out).mono ?_
  rintro e v1 ⟨rfl, bb⟩
  have PP := P3.below P bb
  clear bb P
  rw [show kerV 5 o s t m f z A n p B q r = .iface 172 (.agg #[]) from rfl]
  rcases hk : kerB 5 o s t m f z xs ys with _ | _
  · have HK := Lib.hid hk
    clear hk
    obtain ⟨a0, a1, a2⟩ := PP.out.a.cell3
    obtain ⟨d0, d1, d2⟩ := PP.out.r.cell3
    obtain ⟨f0, f1, f2⟩ := PP.out.r.free3
    go_wp2
    have kR := PP.out.r.set3 (x := .int .i64 0) (y := .int .i64 0) (z := .int .i64 0)
    have b9 := below_set3 PP.out.bl PP.out.le (.int .i64 0) (.int .i64 0) (.int .i64 0)
    obtain ⟨z0, z1, z2⟩ := kR.cell3
    refine bodyPost_ret (v := .tuple #[.nilIface, .agg #[.int .i64 0, .int .i64 0, .int .i64 0], .bool false]) ?_ rfl ⟨by rw [← HR.out, outL_5, HK.out]; rfl, b9⟩
    clear kR b9 a0 a1 a2 d0 d1 d2 f0 f1 f2
    generalize ((v1.setCell ⟨gR, 0, none⟩ (.int .i64 0)).setCell ⟨gR, 1, none⟩ (.int .i64 0)).setCell ⟨gR, 2, none⟩ (.int .i64 0) = w9 at z0 z1 z2 ⊢
    simp [results, Try.results103, go_sem, z0, z1, z2]
  have HK := Lib.hid hk
  clear hk
  rcases hs : shOk h w c with _ | _
  · have HS := Lib.hid hs
    clear hs
    obtain ⟨a0, a1, a2⟩ := PP.out.a.cell3
    obtain ⟨d0, d1, d2⟩ := PP.out.r.cell3
    obtain ⟨f0, f1, f2⟩ := PP.out.r.free3
    go_wp2_with fail
    clear a0 a1 a2 d0 d1 d2 f0 f1 f2
    with_reducible refine (shapeOkI h w c false HS.out _).mono ?_
    rintro e v2 ⟨rfl, bb⟩
    replace PP := P3.below PP bb
    clear bb
    obtain ⟨a0, a1, a2⟩ := PP.out.a.cell3
    obtain ⟨d0, d1, d2⟩ := PP.out.r.cell3
    obtain ⟨f0, f1, f2⟩ := PP.out.r.free3
    go_wp2
    have kR := PP.out.r.set3 (x := .int .i64 0) (y := .int .i64 0) (z := .int .i64 0)
    have b9 := below_set3 PP.out.bl PP.out.le (.int .i64 0) (.int .i64 0) (.int .i64 0)
    obtain ⟨z0, z1, z2⟩ := kR.cell3
    refine bodyPost_ret (v := .tuple #[.nilIface, .agg #[.int .i64 0, .int .i64 0, .int .i64 0], .bool false]) ?_ rfl ⟨by rw [← HR.out, outL_5, HK.out, HS.out]; rfl, b9⟩
    clear kR b9 a0 a1 a2 d0 d1 d2 f0 f1 f2
    generalize ((v2.setCell ⟨gR, 0, none⟩ (.int .i64 0)).setCell ⟨gR, 1, none⟩ (.int .i64 0)).setCell ⟨gR, 2, none⟩ (.int .i64 0) = w9 at z0 z1 z2 ⊢
    simp [results, Try.results103, go_sem, z0, z1, z2]
  have HS := Lib.hid hs
  clear hs
  obtain ⟨a0, a1, a2⟩ := PP.out.a.cell3
  obtain ⟨d0, d1, d2⟩ := PP.out.r.cell3
  obtain ⟨f0, f1, f2⟩ := PP.out.r.free3
  go_wp2_with fail
  clear a0 a1 a2 d0 d1 d2 f0 f1 f2
  with_reducible refine (shapeOkI h w c true HS.out _).mono ?_
  rintro e v2 ⟨rfl, bb⟩
  replace PP := P3.below PP bb
  clear bb
  obtain ⟨a0, a1, a2⟩ := PP.out.a.cell3
  obtain ⟨d0, d1, d2⟩ := PP.out.r.cell3
  obtain ⟨f0, f1, f2⟩ := PP.out.r.free3
  go_wp2_with fail
  clear a0 a1 a2 d0 d1 d2 f0 f1 f2
  with_reducible refine (flatThenI h w c _).mono ?_
  rintro e v3 ⟨rfl, bb⟩
  replace PP := P3.below PP bb
  clear bb
  rcases hx : decide (szOf h w c ≤ 8) with _ | _
  · have HX := Lib.hid hx
    clear hx
    have PA := P3.below PP ((Below.refl _ v3).alloc (Nat.le_refl _) (.cells #[.int .i64 1, .int .i64 1, .int .i64 (szOf h w c)] 34))
    obtain ⟨a0, a1, a2⟩ := PA.out.a.cell3
    obtain ⟨d0, d1, d2⟩ := PA.out.r.cell3
    obtain ⟨f0, f1, f2⟩ := PA.out.r.free3
    obtain ⟨n0, n1, n2⟩ := (Bk.new v3 34 #[.int .i64 1, .int .i64 1, .int .i64 (szOf h w c)]).cell3
    go_wp2
    have kR := PA.out.r.set3 (x := .int .i64 0) (y := .int .i64 0) (z := .int .i64 0)
    have b9 := below_set3 PA.out.bl PA.out.le (.int .i64 0) (.int .i64 0) (.int .i64 0)
    obtain ⟨z0, z1, z2⟩ := kR.cell3
    refine bodyPost_ret (v := .tuple #[.nilIface, .agg #[.int .i64 0, .int .i64 0, .int .i64 0], .bool false]) ?_ rfl ⟨by rw [← HR.out, outL_5, HK.out, HS.out, HX.out]; rfl, b9⟩
    clear kR b9 n0 n1 n2 a0 a1 a2 d0 d1 d2 f0 f1 f2
    generalize (((v3.alloc (.cells #[.int .i64 1, .int .i64 1, .int .i64 (szOf h w c)] 34)).setCell ⟨gR, 0, none⟩ (.int .i64 0)).setCell ⟨gR, 1, none⟩ (.int .i64 0)).setCell ⟨gR, 2, none⟩ (.int .i64 0) = w9 at z0 z1 z2 ⊢
    simp [results, Try.results103, go_sem, z0, z1, z2]
  have HX := Lib.hid hx
  clear hx
  have PA := P3.below PP ((Below.refl _ v3).alloc (Nat.le_refl _) (.cells #[.int .i64 1, .int .i64 1, .int .i64 (szOf h w c)] 34))
  obtain ⟨a0, a1, a2⟩ := PA.out.a.cell3
  obtain ⟨d0, d1, d2⟩ := PA.out.r.cell3
  obtain ⟨f0, f1, f2⟩ := PA.out.r.free3
  obtain ⟨n0, n1, n2⟩ := (Bk.new v3 34 #[.int .i64 1, .int .i64 1, .int .i64 (szOf h w c)]).cell3
  go_wp2_with fail
  have NT : gR ≠ v3.heap.size := Nat.ne_of_lt PP.out.r.lt
  clear PP a0 a1 a2 d0 d1 d2 f0 f1 f2
  generalize v3.alloc (.cells #[.int .i64 1, .int .i64 1, .int .i64 (szOf h w c)] 34) = va at PA n0 n1 n2 ⊢
  generalize v3.heap.size = gT at n0 n1 n2 NT ⊢
  obtain ⟨d0, d1, d2⟩ := PA.out.r.cell3
  obtain ⟨f0, f1, f2⟩ := PA.out.r.free3
  go_region_held3 (fun w' => w'.cell? ⟨gT, 0, none⟩ = some (.int .i64 1) ∧ w'.cell? ⟨gT, 1, none⟩ = some (.int .i64 1) ∧ w'.cell? ⟨gT, 2, none⟩ = some (.int .i64 (szOf h w c)))
    (first
      | exact ⟨n0, n1, n2⟩
      | exact ⟨cellFar3 NT n0 _ _ _, cellFar3 NT n1 _ _ _, cellFar3 NT n2 _ _ _⟩)
    (fail)
  go_wp2
  have kR := PA.out.r.set3 (x := .int .i64 1) (y := .int .i64 1) (z := .int .i64 (szOf h w c))
  have b9 := below_set3 PA.out.bl PA.out.le (.int .i64 1) (.int .i64 1) (.int .i64 (szOf h w c))
  obtain ⟨z0, z1, z2⟩ := kR.cell3
  refine bodyPost_ret (v := .tuple #[.iface 172 (.agg #[]), .agg #[.int .i64 1, .int .i64 1, .int .i64 (szOf h w c)], .bool true]) ?_ rfl ⟨by rw [← HR.out, outL_5, HK.out, HS.out, HX.out]; rfl, b9.drew⟩
  clear kR b9 n0 n1 n2 d0 d1 d2 f0 f1 f2
  generalize ((va.setCell ⟨gR, 0, none⟩ (.int .i64 1)).setCell ⟨gR, 1, none⟩ (.int .i64 1)).setCell ⟨gR, 2, none⟩ (.int .i64 (szOf h w c)) = w9 at z0 z1 z2 ⊢
  simp [results, Try.results103, go_sem, z0, z1, z2]

set_option maxRecDepth 100000 in
set_option maxHeartbeats 1000000 in
theorem kernelFor_no (h w c k o s t m f z : Int) (A : Option Addr) (n p : Nat) (xs : List Int) (B : Option Addr) (q r : Nat) (ys : List Int) (W : World) (hr : RdI W A n xs) (hr2 : RdI W B q ys) (hn : n ≤ 1048576) (hq : q ≤ 1048576) (hk : ¬ (0 ≤ k ∧ k ≤ 5)) :
    Calls Try.prog 103 #[.agg #[.int .i64 h, .int .i64 w, .int .i64 c], .agg #[.int .i64 k, .int .i64 o, .int .i64 s, .int .i64 t, .int .i64 m, .int .i64 f, .int .i64 z, .slice A n p, .slice B q r]] W fun e W' => e = .returned (forV (kerV k o s t m f z A n p B q r) (outL h w c k o s t m f z xs ys)) ∧ Below W.heap.size W W' := by
  have HN := Lib.hid hn
  have HQ := Lib.hid hq
  have HL := Lib.hid (And.intro hr.1 hr2.1)
  have P := P3.start W 34 104 34 #[.int .i64 h, .int .i64 w, .int .i64 c] #[.int .i64 k, .int .i64 o, .int .i64 s, .int .i64 t, .int .i64 m, .int .i64 f, .int .i64 z, .slice A n p, .slice B q r] #[.int .i64 0, .int .i64 0, .int .i64 0] hr hr2
  obtain ⟨R, hR⟩ : ∃ R, forV (kerV k o s t m f z A n p B q r) (outL h w c k o s t m f z xs ys) = R := ⟨_, rfl⟩
  rw [hR]
  have HR := Lib.hid hR
  clear hR hn hq hr hr2
  have HO : Hid (outL h w c k o s t m f z xs ys = none) := Lib.hid (by simp only [outL]; rw [if_neg (show ¬ k = 0 by omega), if_neg (show ¬ k = 1 by omega), if_neg (show ¬ (k = 2 ∨ k = 3) by omega), if_neg (show ¬ k = 4 by omega), if_neg (show ¬ k = 5 by omega)]; simp)
  have HK := Lib.hid hk
  clear hk
  go_enter Try.func103, Try.ntmps103
  go_wp2_with fail
  generalize (((W.alloc (.cells #[.int .i64 h, .int .i64 w, .int .i64 c] 34)).alloc (.cells #[.int .i64 k, .int .i64 o, .int .i64 s, .int .i64 t, .int .i64 m, .int .i64 f, .int .i64 z, .slice A n p, .slice B q r] 104)).alloc (.cells #[.int .i64 0, .int .i64 0, .int .i64 0] 34)) = v at P ⊢
  generalize W.heap.size + 1 + 1 = gR at P ⊢
  generalize W.heap.size + 1 = gL at P ⊢
  with_reducible refine (kernelOf_no k o s t m f z A n p xs B q r ys _ HL.out.1 HL.out.2 HN.out HQ.out HK.out).mono ?_
  rintro e v1 ⟨rfl, bb⟩
  have PP := P3.below P bb
  clear bb P
  rw [show kerV k o s t m f z A n p B q r = .nilIface by have := HK.out; simp only [kerV]; rw [if_neg (by omega), if_neg (by omega), if_neg (by omega), if_neg (by omega), if_neg (by omega), if_neg (by omega)], show kerB k o s t m f z xs ys = false by have := HK.out; simp only [kerB]; rw [if_neg (by omega), if_neg (by omega), if_neg (by omega), if_neg (by omega), if_neg (by omega)]]
  obtain ⟨a0, a1, a2⟩ := PP.out.a.cell3
  obtain ⟨d0, d1, d2⟩ := PP.out.r.cell3
  obtain ⟨f0, f1, f2⟩ := PP.out.r.free3
  go_wp2
  have kR := PP.out.r.set3 (x := .int .i64 0) (y := .int .i64 0) (z := .int .i64 0)
  have b9 := below_set3 PP.out.bl PP.out.le (.int .i64 0) (.int .i64 0) (.int .i64 0)
  obtain ⟨z0, z1, z2⟩ := kR.cell3
  refine bodyPost_ret (v := .tuple #[.nilIface, .agg #[.int .i64 0, .int .i64 0, .int .i64 0], .bool false]) ?_ rfl ⟨by rw [← HR.out, HO.out]; rfl, b9⟩
  clear kR b9 a0 a1 a2 d0 d1 d2 f0 f1 f2
  generalize ((v1.setCell ⟨gR, 0, none⟩ (.int .i64 0)).setCell ⟨gR, 1, none⟩ (.int .i64 0)).setCell ⟨gR, 2, none⟩ (.int .i64 0) = w9 at z0 z1 z2 ⊢
  simp [results, Try.results103, go_sem, z0, z1, z2]
end Qt
end Go.Proofs.Ytbmchpoffceehaa
