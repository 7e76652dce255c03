/- What kernelOf of the program gives when it is called: the kernel as a value behind its interface, and whether the other fields are empty. Conditions: the slices are as long as the lists. -/
import Derived.Test.YtbmchpoffceehaaQConv
namespace Go.Proofs.Ytbmchpoffceehaa
open Go.RowKit Go.Sort
set_option linter.unusedSimpArgs false
set_option linter.unusedVariables false
namespace Qt
/-- The kernel that stands for a layer, as a value of the interface. -/
def kerV (k o s t m f z : Int) (A : Option Addr) (n p : Nat) (B : Option Addr) (q r : Nat) : Value :=
  if k = 0 then .iface 162 (.agg #[.int .i64 o, .int .i64 m, .int .i64 f, .int .i64 z, .slice A n p, .slice B q r])
  else if k = 1 then .iface 166 (.agg #[.int .i64 o, .int .i64 m, .int .i64 f, .int .i64 z, .slice A n p, .slice B q r, .int .i64 s, .int .i64 t])
  else if k = 2 then .iface 168 (.agg #[.int .i64 s, .int .i64 t, .func (.func 117) #[] #[]])
  else if k = 3 then .iface 168 (.agg #[.int .i64 s, .int .i64 t, .func (.func 115) #[] #[]])
  else if k = 4 then .iface 170 (.agg #[.int .i64 z])
  else if k = 5 then .iface 172 (.agg #[])
  else .nilIface
/-- Whether the fields that the kind does not name are empty. -/
def kerB (k o s t m f z : Int) (xs ys : List Int) : Bool :=
  if k = 0 then emptyW s t
  else if k = 1 then true
  else if k = 2 ∨ k = 3 then emptyF o m f xs ys && decide (z = 0)
  else if k = 4 then emptyF o m f xs ys && emptyW s t
  else if k = 5 then emptyF o m f xs ys && (emptyW s t && decide (z = 0))
  else false

set_option maxRecDepth 100000 in
set_option maxHeartbeats 1000000 in
theorem kernelOf_0 (o s t m f z : Int) (A : Option Addr) (n p : Nat) (xs : List Int) (B : Option Addr) (q r : Nat) (ys : List Int) (W : World) (hl : xs.length = n) (hl2 : ys.length = q) (hn : n ≤ 1048576) (hq : q ≤ 1048576) :
    Calls Try.prog 110 #[.agg #[.int .i64 0, .int .i64 o, .int .i64 s, .int .i64 t, .int .i64 m, .int .i64 f, .int .i64 z, .slice A n p, .slice B q r]] W fun e W' => e = .returned (.tuple #[kerV 0 o s t m f z A n p B q r, .bool (kerB 0 o s t m f z xs ys)]) ∧ Below W.heap.size W W' := by
  have HN := Lib.hid hn
  have HQ := Lib.hid hq
  have HL := Lib.hid (And.intro hl hl2)
  have b0 : Below W.heap.size W (((W.alloc (.cells #[.int .i64 0, .int .i64 o, .int .i64 s, .int .i64 t, .int .i64 m, .int .i64 f, .int .i64 z, .slice A n p, .slice B q r] 104)).alloc (.cells #[.int .i64 o, .int .i64 m, .int .i64 f, .int .i64 z, .slice A n p, .slice B q r] 160)).alloc (.cells #[.int .i64 s, .int .i64 t] 164)) := ((Below.refl _ W).alloc (Nat.le_refl _) _).alloc (by simp) _ |>.alloc (by simp only [World.size_alloc]; omega) _
  have KL : Hid (Bk (((W.alloc (.cells #[.int .i64 0, .int .i64 o, .int .i64 s, .int .i64 t, .int .i64 m, .int .i64 f, .int .i64 z, .slice A n p, .slice B q r] 104)).alloc (.cells #[.int .i64 o, .int .i64 m, .int .i64 f, .int .i64 z, .slice A n p, .slice B q r] 160)).alloc (.cells #[.int .i64 s, .int .i64 t] 164)) W.heap.size 104 #[.int .i64 0, .int .i64 o, .int .i64 s, .int .i64 t, .int .i64 m, .int .i64 f, .int .i64 z, .slice A n p, .slice B q r]) := Lib.hid (((Bk.new W _ _).alloc _).alloc _)
  have KF : Hid (Bk (((W.alloc (.cells #[.int .i64 0, .int .i64 o, .int .i64 s, .int .i64 t, .int .i64 m, .int .i64 f, .int .i64 z, .slice A n p, .slice B q r] 104)).alloc (.cells #[.int .i64 o, .int .i64 m, .int .i64 f, .int .i64 z, .slice A n p, .slice B q r] 160)).alloc (.cells #[.int .i64 s, .int .i64 t] 164)) (W.heap.size + 1) 160 #[.int .i64 o, .int .i64 m, .int .i64 f, .int .i64 z, .slice A n p, .slice B q r]) := Lib.hid (by
    have := (Bk.new (W.alloc (.cells #[.int .i64 0, .int .i64 o, .int .i64 s, .int .i64 t, .int .i64 m, .int .i64 f, .int .i64 z, .slice A n p, .slice B q r] 104)) 160 #[.int .i64 o, .int .i64 m, .int .i64 f, .int .i64 z, .slice A n p, .slice B q r]).alloc (.cells #[.int .i64 s, .int .i64 t] 164)
    simpa only [World.size_alloc] using this)
  have KW : Hid (Bk (((W.alloc (.cells #[.int .i64 0, .int .i64 o, .int .i64 s, .int .i64 t, .int .i64 m, .int .i64 f, .int .i64 z, .slice A n p, .slice B q r] 104)).alloc (.cells #[.int .i64 o, .int .i64 m, .int .i64 f, .int .i64 z, .slice A n p, .slice B q r] 160)).alloc (.cells #[.int .i64 s, .int .i64 t] 164)) (W.heap.size + 1 + 1) 164 #[.int .i64 s, .int .i64 t]) := Lib.hid (by
    have := (Bk.new ((W.alloc (.cells #[.int .i64 0, .int .i64 o, .int .i64 s, .int .i64 t, .int .i64 m, .int .i64 f, .int .i64 z, .slice A n p, .slice B q r] 104)).alloc (.cells #[.int .i64 o, .int .i64 m, .int .i64 f, .int .i64 z, .slice A n p, .slice B q r] 160)) 164 #[.int .i64 s, .int .i64 t])
    simpa only [World.size_alloc] using this)
  have Bl := Lib.hid b0
  clear hn hq hl hl2 b0
  obtain ⟨R, hR⟩ : ∃ R, kerB 0 o s t m f z xs ys = R := ⟨_, rfl⟩
  rw [hR]
  have HR := Lib.hid hR
  clear hR
  obtain ⟨KV, hKV⟩ : ∃ KV, kerV 0 o s t m f z A n p B q r = KV := ⟨_, rfl⟩
  rw [hKV]
  have HV := Lib.hid hKV
  clear hKV
  go_enter Try.func110, Try.ntmps110
  go_wp2_with fail
  generalize (((W.alloc (.cells #[.int .i64 0, .int .i64 o, .int .i64 s, .int .i64 t, .int .i64 m, .int .i64 f, .int .i64 z, .slice A n p, .slice B q r] 104)).alloc (.cells #[.int .i64 o, .int .i64 m, .int .i64 f, .int .i64 z, .slice A n p, .slice B q r] 160)).alloc (.cells #[.int .i64 s, .int .i64 t] 164)) = v at KL KF KW Bl ⊢
  generalize W.heap.size + 1 + 1 = gW at KW ⊢
  generalize W.heap.size + 1 = gF at KF ⊢
  rcases hw : emptyW s t with _ | _
  · have HW := Lib.hid hw
    clear hw
    obtain rfl : R = false := by rw [← HR.out]; simp [kerB, HW.out]
    have q0 := Lib.hid (fun d os => Calls.regrown_of (v := .bool false) (by have := winEmptyI s t (grow (redrawn v d) os); rw [HW.out] at this; exact this))
    have k0 := cell_regrown (KF.out.cell 0 rfl)
    have k1 := cell_regrown (KF.out.cell 1 rfl)
    have k2 := cell_regrown (KF.out.cell 2 rfl)
    have k3 := cell_regrown (KF.out.cell 3 rfl)
    have k4 := cell_regrown (KF.out.cell 4 rfl)
    have k5 := cell_regrown (KF.out.cell 5 rfl)
    have w0 := cell_regrown (KW.out.cell 0 rfl)
    have w1 := cell_regrown (KW.out.cell 1 rfl)
    have l6 := cell_regrown (KL.out.cell 6 rfl)
    refine wp_region_quiet_below mixed (by kernel_rfl) ?_
    repeat (go_big_quiet_step (first | exact q0.out _ _))
    refine wpQuiet_nil ?_
    intro _ hw'
    obtain ⟨⟨dq, osq⟩, rfl⟩ := hw'
    have BF := Lib.hid (Bl.out.trans ((below_regrown v dq osq).mono Bl.out.size))
    clear k0 k1 k2 k3 k4 k5 w0 w1 l6 q0
    generalize grow (redrawn v dq) osq = u at BF ⊢
    go_wp2
    go_ret2
    exact ⟨by rw [← HV.out]; rfl, BF.out⟩
  · have HW := Lib.hid hw
    clear hw
    obtain rfl : R = true := by rw [← HR.out]; simp [kerB, HW.out]
    have q0 := Lib.hid (fun d os => Calls.regrown_of (v := .bool true) (by have := winEmptyI s t (grow (redrawn v d) os); rw [HW.out] at this; exact this))
    have k0 := cell_regrown (KF.out.cell 0 rfl)
    have k1 := cell_regrown (KF.out.cell 1 rfl)
    have k2 := cell_regrown (KF.out.cell 2 rfl)
    have k3 := cell_regrown (KF.out.cell 3 rfl)
    have k4 := cell_regrown (KF.out.cell 4 rfl)
    have k5 := cell_regrown (KF.out.cell 5 rfl)
    have w0 := cell_regrown (KW.out.cell 0 rfl)
    have w1 := cell_regrown (KW.out.cell 1 rfl)
    have l6 := cell_regrown (KL.out.cell 6 rfl)
    refine wp_region_quiet_below mixed (by kernel_rfl) ?_
    repeat (go_big_quiet_step (first | exact q0.out _ _))
    refine wpQuiet_nil ?_
    intro _ hw'
    obtain ⟨⟨dq, osq⟩, rfl⟩ := hw'
    have BF := Lib.hid (Bl.out.trans ((below_regrown v dq osq).mono Bl.out.size))
    clear k0 k1 k2 k3 k4 k5 w0 w1 l6 q0
    generalize grow (redrawn v dq) osq = u at BF ⊢
    go_wp2
    go_ret2
    exact ⟨by rw [← HV.out]; rfl, BF.out⟩

set_option maxRecDepth 100000 in
set_option maxHeartbeats 1000000 in
theorem kernelOf_1 (o s t m f z : Int) (A : Option Addr) (n p : Nat) (xs : List Int) (B : Option Addr) (q r : Nat) (ys : List Int) (W : World) (hl : xs.length = n) (hl2 : ys.length = q) (hn : n ≤ 1048576) (hq : q ≤ 1048576) :
    Calls Try.prog 110 #[.agg #[.int .i64 1, .int .i64 o, .int .i64 s, .int .i64 t, .int .i64 m, .int .i64 f, .int .i64 z, .slice A n p, .slice B q r]] W fun e W' => e = .returned (.tuple #[kerV 1 o s t m f z A n p B q r, .bool (kerB 1 o s t m f z xs ys)]) ∧ Below W.heap.size W W' := by
  have HN := Lib.hid hn
  have HQ := Lib.hid hq
  have HL := Lib.hid (And.intro hl hl2)
  have b0 : Below W.heap.size W (((W.alloc (.cells #[.int .i64 1, .int .i64 o, .int .i64 s, .int .i64 t, .int .i64 m, .int .i64 f, .int .i64 z, .slice A n p, .slice B q r] 104)).alloc (.cells #[.int .i64 o, .int .i64 m, .int .i64 f, .int .i64 z, .slice A n p, .slice B q r] 160)).alloc (.cells #[.int .i64 s, .int .i64 t] 164)) := ((Below.refl _ W).alloc (Nat.le_refl _) _).alloc (by simp) _ |>.alloc (by simp only [World.size_alloc]; omega) _
  have KL : Hid (Bk (((W.alloc (.cells #[.int .i64 1, .int .i64 o, .int .i64 s, .int .i64 t, .int .i64 m, .int .i64 f, .int .i64 z, .slice A n p, .slice B q r] 104)).alloc (.cells #[.int .i64 o, .int .i64 m, .int .i64 f, .int .i64 z, .slice A n p, .slice B q r] 160)).alloc (.cells #[.int .i64 s, .int .i64 t] 164)) W.heap.size 104 #[.int .i64 1, .int .i64 o, .int .i64 s, .int .i64 t, .int .i64 m, .int .i64 f, .int .i64 z, .slice A n p, .slice B q r]) := Lib.hid (((Bk.new W _ _).alloc _).alloc _)
  have KF : Hid (Bk (((W.alloc (.cells #[.int .i64 1, .int .i64 o, .int .i64 s, .int .i64 t, .int .i64 m, .int .i64 f, .int .i64 z, .slice A n p, .slice B q r] 104)).alloc (.cells #[.int .i64 o, .int .i64 m, .int .i64 f, .int .i64 z, .slice A n p, .slice B q r] 160)).alloc (.cells #[.int .i64 s, .int .i64 t] 164)) (W.heap.size + 1) 160 #[.int .i64 o, .int .i64 m, .int .i64 f, .int .i64 z, .slice A n p, .slice B q r]) := Lib.hid (by
    have := (Bk.new (W.alloc (.cells #[.int .i64 1, .int .i64 o, .int .i64 s, .int .i64 t, .int .i64 m, .int .i64 f, .int .i64 z, .slice A n p, .slice B q r] 104)) 160 #[.int .i64 o, .int .i64 m, .int .i64 f, .int .i64 z, .slice A n p, .slice B q r]).alloc (.cells #[.int .i64 s, .int .i64 t] 164)
    simpa only [World.size_alloc] using this)
  have KW : Hid (Bk (((W.alloc (.cells #[.int .i64 1, .int .i64 o, .int .i64 s, .int .i64 t, .int .i64 m, .int .i64 f, .int .i64 z, .slice A n p, .slice B q r] 104)).alloc (.cells #[.int .i64 o, .int .i64 m, .int .i64 f, .int .i64 z, .slice A n p, .slice B q r] 160)).alloc (.cells #[.int .i64 s, .int .i64 t] 164)) (W.heap.size + 1 + 1) 164 #[.int .i64 s, .int .i64 t]) := Lib.hid (by
    have := (Bk.new ((W.alloc (.cells #[.int .i64 1, .int .i64 o, .int .i64 s, .int .i64 t, .int .i64 m, .int .i64 f, .int .i64 z, .slice A n p, .slice B q r] 104)).alloc (.cells #[.int .i64 o, .int .i64 m, .int .i64 f, .int .i64 z, .slice A n p, .slice B q r] 160)) 164 #[.int .i64 s, .int .i64 t])
    simpa only [World.size_alloc] using this)
  have Bl := Lib.hid b0
  clear hn hq hl hl2 b0
  obtain ⟨R, hR⟩ : ∃ R, kerB 1 o s t m f z xs ys = R := ⟨_, rfl⟩
  rw [hR]
  have HR := Lib.hid hR
  clear hR
  obtain ⟨KV, hKV⟩ : ∃ KV, kerV 1 o s t m f z A n p B q r = KV := ⟨_, rfl⟩
  rw [hKV]
  have HV := Lib.hid hKV
  clear hKV
  obtain rfl : R = true := by rw [← HR.out]; rfl
  go_enter Try.func110, Try.ntmps110
  go_wp2_with fail
  generalize (((W.alloc (.cells #[.int .i64 1, .int .i64 o, .int .i64 s, .int .i64 t, .int .i64 m, .int .i64 f, .int .i64 z, .slice A n p, .slice B q r] 104)).alloc (.cells #[.int .i64 o, .int .i64 m, .int .i64 f, .int .i64 z, .slice A n p, .slice B q r] 160)).alloc (.cells #[.int .i64 s, .int .i64 t] 164)) = v at KL KF KW Bl ⊢
  generalize W.heap.size + 1 + 1 = gW at KW ⊢
  generalize W.heap.size + 1 = gF at KF ⊢
  have k0 := KF.out.cell 0 rfl
  have k1 := KF.out.cell 1 rfl
  have k2 := KF.out.cell 2 rfl
  have k3 := KF.out.cell 3 rfl
  have k4 := KF.out.cell 4 rfl
  have k5 := KF.out.cell 5 rfl
  have w0 := KW.out.cell 0 rfl
  have w1 := KW.out.cell 1 rfl
  go_wp2
  go_ret2
  exact ⟨by rw [← HV.out]; rfl, Bl.out⟩

set_option maxRecDepth 100000 in
set_option maxHeartbeats 1000000 in
theorem kernelOf_2 (o s t m f z : Int) (A : Option Addr) (n p : Nat) (xs : List Int) (B : Option Addr) (q r : Nat) (ys : List Int) (W : World) (hl : xs.length = n) (hl2 : ys.length = q) (hn : n ≤ 1048576) (hq : q ≤ 1048576) :
    Calls Try.prog 110 #[.agg #[.int .i64 2, .int .i64 o, .int .i64 s, .int .i64 t, .int .i64 m, .int .i64 f, .int .i64 z, .slice A n p, .slice B q r]] W fun e W' => e = .returned (.tuple #[kerV 2 o s t m f z A n p B q r, .bool (kerB 2 o s t m f z xs ys)]) ∧ Below W.heap.size W W' := by
  have HN := Lib.hid hn
  have HQ := Lib.hid hq
  have HL := Lib.hid (And.intro hl hl2)
  have b0 : Below W.heap.size W (((W.alloc (.cells #[.int .i64 2, .int .i64 o, .int .i64 s, .int .i64 t, .int .i64 m, .int .i64 f, .int .i64 z, .slice A n p, .slice B q r] 104)).alloc (.cells #[.int .i64 o, .int .i64 m, .int .i64 f, .int .i64 z, .slice A n p, .slice B q r] 160)).alloc (.cells #[.int .i64 s, .int .i64 t] 164)) := ((Below.refl _ W).alloc (Nat.le_refl _) _).alloc (by simp) _ |>.alloc (by simp only [World.size_alloc]; omega) _
  have KL : Hid (Bk (((W.alloc (.cells #[.int .i64 2, .int .i64 o, .int .i64 s, .int .i64 t, .int .i64 m, .int .i64 f, .int .i64 z, .slice A n p, .slice B q r] 104)).alloc (.cells #[.int .i64 o, .int .i64 m, .int .i64 f, .int .i64 z, .slice A n p, .slice B q r] 160)).alloc (.cells #[.int .i64 s, .int .i64 t] 164)) W.heap.size 104 #[.int .i64 2, .int .i64 o, .int .i64 s, .int .i64 t, .int .i64 m, .int .i64 f, .int .i64 z, .slice A n p, .slice B q r]) := Lib.hid (((Bk.new W _ _).alloc _).alloc _)
  have KF : Hid (Bk (((W.alloc (.cells #[.int .i64 2, .int .i64 o, .int .i64 s, .int .i64 t, .int .i64 m, .int .i64 f, .int .i64 z, .slice A n p, .slice B q r] 104)).alloc (.cells #[.int .i64 o, .int .i64 m, .int .i64 f, .int .i64 z, .slice A n p, .slice B q r] 160)).alloc (.cells #[.int .i64 s, .int .i64 t] 164)) (W.heap.size + 1) 160 #[.int .i64 o, .int .i64 m, .int .i64 f, .int .i64 z, .slice A n p, .slice B q r]) := Lib.hid (by
    have := (Bk.new (W.alloc (.cells #[.int .i64 2, .int .i64 o, .int .i64 s, .int .i64 t, .int .i64 m, .int .i64 f, .int .i64 z, .slice A n p, .slice B q r] 104)) 160 #[.int .i64 o, .int .i64 m, .int .i64 f, .int .i64 z, .slice A n p, .slice B q r]).alloc (.cells #[.int .i64 s, .int .i64 t] 164)
    simpa only [World.size_alloc] using this)
  have KW : Hid (Bk (((W.alloc (.cells #[.int .i64 2, .int .i64 o, .int .i64 s, .int .i64 t, .int .i64 m, .int .i64 f, .int .i64 z, .slice A n p, .slice B q r] 104)).alloc (.cells #[.int .i64 o, .int .i64 m, .int .i64 f, .int .i64 z, .slice A n p, .slice B q r] 160)).alloc (.cells #[.int .i64 s, .int .i64 t] 164)) (W.heap.size + 1 + 1) 164 #[.int .i64 s, .int .i64 t]) := Lib.hid (by
    have := (Bk.new ((W.alloc (.cells #[.int .i64 2, .int .i64 o, .int .i64 s, .int .i64 t, .int .i64 m, .int .i64 f, .int .i64 z, .slice A n p, .slice B q r] 104)).alloc (.cells #[.int .i64 o, .int .i64 m, .int .i64 f, .int .i64 z, .slice A n p, .slice B q r] 160)) 164 #[.int .i64 s, .int .i64 t])
    simpa only [World.size_alloc] using this)
  have Bl := Lib.hid b0
  clear hn hq hl hl2 b0
  obtain ⟨R, hR⟩ : ∃ R, kerB 2 o s t m f z xs ys = R := ⟨_, rfl⟩
  rw [hR]
  have HR := Lib.hid hR
  clear hR
  obtain ⟨KV, hKV⟩ : ∃ KV, kerV 2 o s t m f z A n p B q r = KV := ⟨_, rfl⟩
  rw [hKV]
  have HV := Lib.hid hKV
  clear hKV
  go_enter Try.func110, Try.ntmps110
  go_wp2_with fail
  generalize (((W.alloc (.cells #[.int .i64 2, .int .i64 o, .int .i64 s, .int .i64 t, .int .i64 m, .int .i64 f, .int .i64 z, .slice A n p, .slice B q r] 104)).alloc (.cells #[.int .i64 o, .int .i64 m, .int .i64 f, .int .i64 z, .slice A n p, .slice B q r] 160)).alloc (.cells #[.int .i64 s, .int .i64 t] 164)) = v at KL KF KW Bl ⊢
  generalize W.heap.size + 1 + 1 = gW at KW ⊢
  generalize W.heap.size + 1 = gF at KF ⊢
  rcases hf : emptyF o m f xs ys with _ | _
  · have HF := Lib.hid hf
    clear hf
    obtain rfl : R = false := by rw [← HR.out]; simp [kerB, HF.out]
    have q1 := Lib.hid (fun d os => Calls.regrown_of (v := .bool false) (by have := filEmptyI o m f z A n p xs B q r ys (grow (redrawn v d) os) HL.out.1 HL.out.2 HN.out HQ.out; rw [HF.out] at this; exact this))
    have k0 := cell_regrown (KF.out.cell 0 rfl)
    have k1 := cell_regrown (KF.out.cell 1 rfl)
    have k2 := cell_regrown (KF.out.cell 2 rfl)
    have k3 := cell_regrown (KF.out.cell 3 rfl)
    have k4 := cell_regrown (KF.out.cell 4 rfl)
    have k5 := cell_regrown (KF.out.cell 5 rfl)
    have w0 := cell_regrown (KW.out.cell 0 rfl)
    have w1 := cell_regrown (KW.out.cell 1 rfl)
    have l6 := cell_regrown (KL.out.cell 6 rfl)
    refine wp_region_quiet_below mixed (by kernel_rfl) ?_
    repeat (go_big_quiet_step (first | exact q1.out _ _))
    refine wpQuiet_nil ?_
    intro _ hw'
    obtain ⟨⟨dq, osq⟩, rfl⟩ := hw'
    have BF := Lib.hid (Bl.out.trans ((below_regrown v dq osq).mono Bl.out.size))
    clear k0 k1 k2 k3 k4 k5 w0 w1 l6 q1
    generalize grow (redrawn v dq) osq = u at BF ⊢
    go_wp2
    go_ret2
    exact ⟨by rw [← HV.out]; rfl, BF.out⟩
  have HF := Lib.hid hf
  clear hf
  by_cases hz : z = 0
  · have hz1 : (z == 0) = true := by simp [hz]
    obtain rfl : R = true := by rw [← HR.out]; simp [kerB, HF.out, hz]
    clear hz
    have q1 := Lib.hid (fun d os => Calls.regrown_of (v := .bool true) (by have := filEmptyI o m f z A n p xs B q r ys (grow (redrawn v d) os) HL.out.1 HL.out.2 HN.out HQ.out; rw [HF.out] at this; exact this))
    have k0 := cell_regrown (KF.out.cell 0 rfl)
    have k1 := cell_regrown (KF.out.cell 1 rfl)
    have k2 := cell_regrown (KF.out.cell 2 rfl)
    have k3 := cell_regrown (KF.out.cell 3 rfl)
    have k4 := cell_regrown (KF.out.cell 4 rfl)
    have k5 := cell_regrown (KF.out.cell 5 rfl)
    have w0 := cell_regrown (KW.out.cell 0 rfl)
    have w1 := cell_regrown (KW.out.cell 1 rfl)
    have l6 := cell_regrown (KL.out.cell 6 rfl)
    refine wp_region_quiet_below mixed (by kernel_rfl) ?_
    repeat (go_big_quiet_step (first | exact q1.out _ _))
    refine wpQuiet_nil ?_
    intro _ hw'
    obtain ⟨⟨dq, osq⟩, rfl⟩ := hw'
    have BF := Lib.hid (Bl.out.trans ((below_regrown v dq osq).mono Bl.out.size))
    clear k0 k1 k2 k3 k4 k5 w0 w1 l6 q1
    generalize grow (redrawn v dq) osq = u at BF ⊢
    go_wp2
    go_ret2
    exact ⟨by rw [← HV.out]; rfl, BF.out⟩
  · have hz1 : (z == 0) = false := by simp [hz]
    obtain rfl : R = false := by rw [← HR.out]; simp [kerB, HF.out, hz]
    clear hz
    have q1 := Lib.hid (fun d os => Calls.regrown_of (v := .bool true) (by have := filEmptyI o m f z A n p xs B q r ys (grow (redrawn v d) os) HL.out.1 HL.out.2 HN.out HQ.out; rw [HF.out] at this; exact this))
    have k0 := cell_regrown (KF.out.cell 0 rfl)
    have k1 := cell_regrown (KF.out.cell 1 rfl)
    have k2 := cell_regrown (KF.out.cell 2 rfl)
    have k3 := cell_regrown (KF.out.cell 3 rfl)
    have k4 := cell_regrown (KF.out.cell 4 rfl)
    have k5 := cell_regrown (KF.out.cell 5 rfl)
    have w0 := cell_regrown (KW.out.cell 0 rfl)
    have w1 := cell_regrown (KW.out.cell 1 rfl)
    have l6 := cell_regrown (KL.out.cell 6 rfl)
    refine wp_region_quiet_below mixed (by kernel_rfl) ?_
    repeat (go_big_quiet_step (first | exact q1.out _ _))
    refine wpQuiet_nil ?_
    intro _ hw'
    obtain ⟨⟨dq, osq⟩, rfl⟩ := hw'
    have BF := Lib.hid (Bl.out.trans ((below_regrown v dq osq).mono Bl.out.size))
    clear k0 k1 k2 k3 k4 k5 w0 w1 l6 q1
    generalize grow (redrawn v dq) osq = u at BF ⊢
    go_wp2
    go_ret2
    exact ⟨by rw [← HV.out]; rfl, BF.out⟩

set_option maxRecDepth 100000 in
set_option maxHeartbeats 1000000 in
theorem kernelOf_3 (o s t m f z : Int) (A : Option Addr) (n p : Nat) (xs : List Int) (B : Option Addr) (q r : Nat) (ys : List Int) (W : World) (hl : xs.length = n) (hl2 : ys.length = q) (hn : n ≤ 1048576) (hq : q ≤ 1048576) :
    Calls Try.prog 110 #[.agg #[.int .i64 3, .int .i64 o, .int .i64 s, .int .i64 t, .int .i64 m, .int .i64 f, .int .i64 z, .slice A n p, .slice B q r]] W fun e W' => e = .returned (.tuple #[kerV 3 o s t m f z A n p B q r, .bool (kerB 3 o s t m f z xs ys)]) ∧ Below W.heap.size W W' := by
  have HN := Lib.hid hn
  have HQ := Lib.hid hq
  have HL := Lib.hid (And.intro hl hl2)
  have b0 : Below W.heap.size W (((W.alloc (.cells #[.int .i64 3, .int .i64 o, .int .i64 s, .int .i64 t, .int .i64 m, .int .i64 f, .int .i64 z, .slice A n p, .slice B q r] 104)).alloc (.cells #[.int .i64 o, .int .i64 m, .int .i64 f, .int .i64 z, .slice A n p, .slice B q r] 160)).alloc (.cells #[.int .i64 s, .int .i64 t] 164)) := ((Below.refl _ W).alloc (Nat.le_refl _) _).alloc (by simp) _ |>.alloc (by simp only [World.size_alloc]; omega) _
  have KL : Hid (Bk (((W.alloc (.cells #[.int .i64 3, .int .i64 o, .int .i64 s, .int .i64 t, .int .i64 m, .int .i64 f, .int .i64 z, .slice A n p, .slice B q r] 104)).alloc (.cells #[.int .i64 o, .int .i64 m, .int .i64 f, .int .i64 z, .slice A n p, .slice B q r] 160)).alloc (.cells #[.int .i64 s, .int .i64 t] 164)) W.heap.size 104 #[.int .i64 3, .int .i64 o, .int .i64 s, .int .i64 t, .int .i64 m, .int .i64 f, .int .i64 z, .slice A n p, .slice B q r]) := Lib.hid (((Bk.new W _ _).alloc _).alloc _)
  have KF : Hid (Bk (((W.alloc (.cells #[.int .i64 3, .int .i64 o, .int .i64 s, .int .i64 t, .int .i64 m, .int .i64 f, .int .i64 z, .slice A n p, .slice B q r] 104)).alloc (.cells #[.int .i64 o, .int .i64 m, .int .i64 f, .int .i64 z, .slice A n p, .slice B q r] 160)).alloc (.cells #[.int .i64 s, .int .i64 t] 164)) (W.heap.size + 1) 160 #[.int .i64 o, .int .i64 m, .int .i64 f, .int .i64 z, .slice A n p, .slice B q r]) := Lib.hid (by
    have := (Bk.new (W.alloc (.cells #[.int .i64 3, .int .i64 o, .int .i64 s, .int .i64 t, .int .i64 m, .int .i64 f, .int .i64 z, .slice A n p, .slice B q r] 104)) 160 #[.int .i64 o, .int .i64 m, .int .i64 f, .int .i64 z, .slice A n p, .slice B q r]).alloc (.cells #[.int .i64 s, .int .i64 t] 164)
    simpa only [World.size_alloc] using this)
  have KW : Hid (Bk (((W.alloc (.cells #[.int .i64 3, .int .i64 o, .int .i64 s, .int .i64 t, .int .i64 m, .int .i64 f, .int .i64 z, .slice A n p, .slice B q r] 104)).alloc (.cells #[.int .i64 o, .int .i64 m, .int .i64 f, .int .i64 z, .slice A n p, .slice B q r] 160)).alloc (.cells #[.int .i64 s, .int .i64 t] 164)) (W.heap.size + 1 + 1) 164 #[.int .i64 s, .int .i64 t]) := Lib.hid (by
    have := (Bk.new ((W.alloc (.cells #[.int .i64 3, .int .i64 o, .int .i64 s, .int .i64 t, .int .i64 m, .int .i64 f, .int .i64 z, .slice A n p, .slice B q r] 104)).alloc (.cells #[.int .i64 o, .int .i64 m, .int .i64 f, .int .i64 z, .slice A n p, .slice B q r] 160)) 164 #[.int .i64 s, .int .i64 t])
    simpa only [World.size_alloc] using this)
  have Bl := Lib.hid b0
  clear hn hq hl hl2 b0
  obtain ⟨R, hR⟩ : ∃ R, kerB 3 o s t m f z xs ys = R := ⟨_, rfl⟩
  rw [hR]
  have HR := Lib.hid hR
  clear hR
  obtain ⟨KV, hKV⟩ : ∃ KV, kerV 3 o s t m f z A n p B q r = KV := ⟨_, rfl⟩
  rw [hKV]
  have HV := Lib.hid hKV
  clear hKV
  go_enter Try.func110, Try.ntmps110
  go_wp2_with fail
  generalize (((W.alloc (.cells #[.int .i64 3, .int .i64 o, .int .i64 s, .int .i64 t, .int .i64 m, .int .i64 f, .int .i64 z, .slice A n p, .slice B q r] 104)).alloc (.cells #[.int .i64 o, .int .i64 m, .int .i64 f, .int .i64 z, .slice A n p, .slice B q r] 160)).alloc (.cells #[.int .i64 s, .int .i64 t] 164)) = v at KL KF KW Bl ⊢
  generalize W.heap.size + 1 + 1 = gW at KW ⊢
  generalize W.heap.size + 1 = gF at KF ⊢
  rcases hf : emptyF o m f xs ys with _ | _
  · have HF := Lib.hid hf
    clear hf
    obtain rfl : R = false := by rw [← HR.out]; simp [kerB, HF.out]
    have q1 := Lib.hid (fun d os => Calls.regrown_of (v := .bool false) (by have := filEmptyI o m f z A n p xs B q r ys (grow (redrawn v d) os) HL.out.1 HL.out.2 HN.out HQ.out; rw [HF.out] at this; exact this))
    have k0 := cell_regrown (KF.out.cell 0 rfl)
    have k1 := cell_regrown (KF.out.cell 1 rfl)
    have k2 := cell_regrown (KF.out.cell 2 rfl)
    have k3 := cell_regrown (KF.out.cell 3 rfl)
    have k4 := cell_regrown (KF.out.cell 4 rfl)
    have k5 := cell_regrown (KF.out.cell 5 rfl)
    have w0 := cell_regrown (KW.out.cell 0 rfl)
    have w1 := cell_regrown (KW.out.cell 1 rfl)
    have l6 := cell_regrown (KL.out.cell 6 rfl)
    refine wp_region_quiet_below mixed (by kernel_rfl) ?_
    repeat (go_big_quiet_step (first | exact q1.out _ _))
    refine wpQuiet_nil ?_
    intro _ hw'
    obtain ⟨⟨dq, osq⟩, rfl⟩ := hw'
    have BF := Lib.hid (Bl.out.trans ((below_regrown v dq osq).mono Bl.out.size))
    clear k0 k1 k2 k3 k4 k5 w0 w1 l6 q1
    generalize grow (redrawn v dq) osq = u at BF ⊢
    go_wp2
    go_ret2
    exact ⟨by rw [← HV.out]; rfl, BF.out⟩
  have HF := Lib.hid hf
  clear hf
  by_cases hz : z = 0
  · have hz1 : (z == 0) = true := by simp [hz]
    obtain rfl : R = true := by rw [← HR.out]; simp [kerB, HF.out, hz]
    clear hz
    have q1 := Lib.hid (fun d os => Calls.regrown_of (v := .bool true) (by have := filEmptyI o m f z A n p xs B q r ys (grow (redrawn v d) os) HL.out.1 HL.out.2 HN.out HQ.out; rw [HF.out] at this; exact this))
    have k0 := cell_regrown (KF.out.cell 0 rfl)
    have k1 := cell_regrown (KF.out.cell 1 rfl)
    have k2 := cell_regrown (KF.out.cell 2 rfl)
    have k3 := cell_regrown (KF.out.cell 3 rfl)
    have k4 := cell_regrown (KF.out.cell 4 rfl)
    have k5 := cell_regrown (KF.out.cell 5 rfl)
    have w0 := cell_regrown (KW.out.cell 0 rfl)
    have w1 := cell_regrown (KW.out.cell 1 rfl)
    have l6 := cell_regrown (KL.out.cell 6 rfl)
    refine wp_region_quiet_below mixed (by kernel_rfl) ?_
    repeat (go_big_quiet_step (first | exact q1.out _ _))
    refine wpQuiet_nil ?_
    intro _ hw'
    obtain ⟨⟨dq, osq⟩, rfl⟩ := hw'
    have BF := Lib.hid (Bl.out.trans ((below_regrown v dq osq).mono Bl.out.size))
    clear k0 k1 k2 k3 k4 k5 w0 w1 l6 q1
    generalize grow (redrawn v dq) osq = u at BF ⊢
    go_wp2
    go_ret2
    exact ⟨by rw [← HV.out]; rfl, BF.out⟩
  · have hz1 : (z == 0) = false := by simp [hz]
    obtain rfl : R = false := by rw [← HR.out]; simp [kerB, HF.out, hz]
    clear hz
    have q1 := Lib.hid (fun d os => Calls.regrown_of (v := .bool true) (by have := filEmptyI o m f z A n p xs B q r ys (grow (redrawn v d) os) HL.out.1 HL.out.2 HN.out HQ.out; rw [HF.out] at this; exact this))
    have k0 := cell_regrown (KF.out.cell 0 rfl)
    have k1 := cell_regrown (KF.out.cell 1 rfl)
    have k2 := cell_regrown (KF.out.cell 2 rfl)
    have k3 := cell_regrown (KF.out.cell 3 rfl)
    have k4 := cell_regrown (KF.out.cell 4 rfl)
    have k5 := cell_regrown (KF.out.cell 5 rfl)
    have w0 := cell_regrown (KW.out.cell 0 rfl)
    have w1 := cell_regrown (KW.out.cell 1 rfl)
    have l6 := cell_regrown (KL.out.cell 6 rfl)
    refine wp_region_quiet_below mixed (by kernel_rfl) ?_
    repeat (go_big_quiet_step (first | exact q1.out _ _))
    refine wpQuiet_nil ?_
    intro _ hw'
    obtain ⟨⟨dq, osq⟩, rfl⟩ := hw'
    have BF := Lib.hid (Bl.out.trans ((below_regrown v dq osq).mono Bl.out.size))
    clear k0 k1 k2 k3 k4 k5 w0 w1 l6 q1
    generalize grow (redrawn v dq) osq = u at BF ⊢
    go_wp2
    go_ret2
    exact ⟨by rw [← HV.out]; rfl, BF.out⟩

set_option maxRecDepth 100000 in
set_option maxHeartbeats 1000000 in
theorem kernelOf_4 (o s t m f z : Int) (A : Option Addr) (n p : Nat) (xs : List Int) (B : Option Addr) (q r : Nat) (ys : List Int) (W : World) (hl : xs.length = n) (hl2 : ys.length = q) (hn : n ≤ 1048576) (hq : q ≤ 1048576) :
    Calls Try.prog 110 #[.agg #[.int .i64 4, .int .i64 o, .int .i64 s, .int .i64 t, .int .i64 m, .int .i64 f, .int .i64 z, .slice A n p, .slice B q r]] W fun e W' => e = .returned (.tuple #[kerV 4 o s t m f z A n p B q r, .bool (kerB 4 o s t m f z xs ys)]) ∧ Below W.heap.size W W' := by
  have HN := Lib.hid hn
  have HQ := Lib.hid hq
  have HL := Lib.hid (And.intro hl hl2)
  have b0 : Below W.heap.size W (((W.alloc (.cells #[.int .i64 4, .int .i64 o, .int .i64 s, .int .i64 t, .int .i64 m, .int .i64 f, .int .i64 z, .slice A n p, .slice B q r] 104)).alloc (.cells #[.int .i64 o, .int .i64 m, .int .i64 f, .int .i64 z, .slice A n p, .slice B q r] 160)).alloc (.cells #[.int .i64 s, .int .i64 t] 164)) := ((Below.refl _ W).alloc (Nat.le_refl _) _).alloc (by simp) _ |>.alloc (by simp only [World.size_alloc]; omega) _
  have KL : Hid (Bk (((W.alloc (.cells #[.int .i64 4, .int .i64 o, .int .i64 s, .int .i64 t, .int .i64 m, .int .i64 f, .int .i64 z, .slice A n p, .slice B q r] 104)).alloc (.cells #[.int .i64 o, .int .i64 m, .int .i64 f, .int .i64 z, .slice A n p, .slice B q r] 160)).alloc (.cells #[.int .i64 s, .int .i64 t] 164)) W.heap.size 104 #[.int .i64 4, .int .i64 o, .int .i64 s, .int .i64 t, .int .i64 m, .int .i64 f, .int .i64 z, .slice A n p, .slice B q r]) := Lib.hid (((Bk.new W _ _).alloc _).alloc _)
  have KF : Hid (Bk (((W.alloc (.cells #[.int .i64 4, .int .i64 o, .int .i64 s, .int .i64 t, .int .i64 m, .int .i64 f, .int .i64 z, .slice A n p, .slice B q r] 104)).alloc (.cells #[.int .i64 o, .int .i64 m, .int .i64 f, .int .i64 z, .slice A n p, .slice B q r] 160)).alloc (.cells #[.int .i64 s, .int .i64 t] 164)) (W.heap.size + 1) 160 #[.int .i64 o, .int .i64 m, .int .i64 f, .int .i64 z, .slice A n p, .slice B q r]) := Lib.hid (by
    have := (Bk.new (W.alloc (.cells #[.int .i64 4, .int .i64 o, .int .i64 s, .int .i64 t, .int .i64 m, .int .i64 f, .int .i64 z, .slice A n p, .slice B q r] 104)) 160 #[.int .i64 o, .int .i64 m, .int .i64 f, .int .i64 z, .slice A n p, .slice B q r]).alloc (.cells #[.int .i64 s, .int .i64 t] 164)
    simpa only [World.size_alloc] using this)
  have KW : Hid (Bk (((W.alloc (.cells #[.int .i64 4, .int .i64 o, .int .i64 s, .int .i64 t, .int .i64 m, .int .i64 f, .int .i64 z, .slice A n p, .slice B q r] 104)).alloc (.cells #[.int .i64 o, .int .i64 m, .int .i64 f, .int .i64 z, .slice A n p, .slice B q r] 160)).alloc (.cells #[.int .i64 s, .int .i64 t] 164)) (W.heap.size + 1 + 1) 164 #[.int .i64 s, .int .i64 t]) := Lib.hid (by
    have := (Bk.new ((W.alloc (.cells #[.int .i64 4, .int .i64 o, .int .i64 s, .int .i64 t, .int .i64 m, .int .i64 f, .int .i64 z, .slice A n p, .slice B q r] 104)).alloc (.cells #[.int .i64 o, .int .i64 m, .int .i64 f, .int .i64 z, .slice A n p, .slice B q r] 160)) 164 #[.int .i64 s, .int .i64 t])
    simpa only [World.size_alloc] using this)
  have Bl := Lib.hid b0
  clear hn hq hl hl2 b0
  obtain ⟨R, hR⟩ : ∃ R, kerB 4 o s t m f z xs ys = R := ⟨_, rfl⟩
  rw [hR]
  have HR := Lib.hid hR
  clear hR
  obtain ⟨KV, hKV⟩ : ∃ KV, kerV 4 o s t m f z A n p B q r = KV := ⟨_, rfl⟩
  rw [hKV]
  have HV := Lib.hid hKV
  clear hKV
  go_enter Try.func110, Try.ntmps110
  go_wp2_with fail
  generalize (((W.alloc (.cells #[.int .i64 4, .int .i64 o, .int .i64 s, .int .i64 t, .int .i64 m, .int .i64 f, .int .i64 z, .slice A n p, .slice B q r] 104)).alloc (.cells #[.int .i64 o, .int .i64 m, .int .i64 f, .int .i64 z, .slice A n p, .slice B q r] 160)).alloc (.cells #[.int .i64 s, .int .i64 t] 164)) = v at KL KF KW Bl ⊢
  generalize W.heap.size + 1 + 1 = gW at KW ⊢
  generalize W.heap.size + 1 = gF at KF ⊢
  rcases hf : emptyF o m f xs ys with _ | _
  · have HF := Lib.hid hf
    clear hf
    obtain rfl : R = false := by rw [← HR.out]; simp [kerB, HF.out]
    have q1 := Lib.hid (fun d os => Calls.regrown_of (v := .bool false) (by have := filEmptyI o m f z A n p xs B q r ys (grow (redrawn v d) os) HL.out.1 HL.out.2 HN.out HQ.out; rw [HF.out] at this; exact this))
    have k0 := cell_regrown (KF.out.cell 0 rfl)
    have k1 := cell_regrown (KF.out.cell 1 rfl)
    have k2 := cell_regrown (KF.out.cell 2 rfl)
    have k3 := cell_regrown (KF.out.cell 3 rfl)
    have k4 := cell_regrown (KF.out.cell 4 rfl)
    have k5 := cell_regrown (KF.out.cell 5 rfl)
    have w0 := cell_regrown (KW.out.cell 0 rfl)
    have w1 := cell_regrown (KW.out.cell 1 rfl)
    have l6 := cell_regrown (KL.out.cell 6 rfl)
    refine wp_region_quiet_below mixed (by kernel_rfl) ?_
    repeat (go_big_quiet_step (first | exact q1.out _ _))
    refine wpQuiet_nil ?_
    intro _ hw'
    obtain ⟨⟨dq, osq⟩, rfl⟩ := hw'
    have BF := Lib.hid (Bl.out.trans ((below_regrown v dq osq).mono Bl.out.size))
    clear k0 k1 k2 k3 k4 k5 w0 w1 l6 q1
    generalize grow (redrawn v dq) osq = u at BF ⊢
    go_wp2
    go_ret2
    exact ⟨by rw [← HV.out]; rfl, BF.out⟩
  have HF := Lib.hid hf
  clear hf
  rcases hw : emptyW s t with _ | _
  · have HW := Lib.hid hw
    clear hw
    obtain rfl : R = false := by rw [← HR.out]; simp [kerB, HF.out, HW.out]
    have q0 := Lib.hid (fun d os => Calls.regrown_of (v := .bool false) (by have := winEmptyI s t (grow (redrawn v d) os); rw [HW.out] at this; exact this))
    have q1 := Lib.hid (fun d os => Calls.regrown_of (v := .bool true) (by have := filEmptyI o m f z A n p xs B q r ys (grow (redrawn v d) os) HL.out.1 HL.out.2 HN.out HQ.out; rw [HF.out] at this; exact this))
    have k0 := cell_regrown (KF.out.cell 0 rfl)
    have k1 := cell_regrown (KF.out.cell 1 rfl)
    have k2 := cell_regrown (KF.out.cell 2 rfl)
    have k3 := cell_regrown (KF.out.cell 3 rfl)
    have k4 := cell_regrown (KF.out.cell 4 rfl)
    have k5 := cell_regrown (KF.out.cell 5 rfl)
    have w0 := cell_regrown (KW.out.cell 0 rfl)
    have w1 := cell_regrown (KW.out.cell 1 rfl)
    have l6 := cell_regrown (KL.out.cell 6 rfl)
    refine wp_region_quiet_below mixed (by kernel_rfl) ?_
    repeat (go_big_quiet_step (first | exact q0.out _ _ | exact q1.out _ _))
    refine wpQuiet_nil ?_
    intro _ hw'
    obtain ⟨⟨dq, osq⟩, rfl⟩ := hw'
    have BF := Lib.hid (Bl.out.trans ((below_regrown v dq osq).mono Bl.out.size))
    clear k0 k1 k2 k3 k4 k5 w0 w1 l6 q0 q1
    generalize grow (redrawn v dq) osq = u at BF ⊢
    go_wp2
    go_ret2
    exact ⟨by rw [← HV.out]; rfl, BF.out⟩
  · have HW := Lib.hid hw
    clear hw
    obtain rfl : R = true := by rw [← HR.out]; simp [kerB, HF.out, HW.out]
    have q0 := Lib.hid (fun d os => Calls.regrown_of (v := .bool true) (by have := winEmptyI s t (grow (redrawn v d) os); rw [HW.out] at this; exact this))
    have q1 := Lib.hid (fun d os => Calls.regrown_of (v := .bool true) (by have := filEmptyI o m f z A n p xs B q r ys (grow (redrawn v d) os) HL.out.1 HL.out.2 HN.out HQ.out; rw [HF.out] at this; exact this))
    have k0 := cell_regrown (KF.out.cell 0 rfl)
    have k1 := cell_regrown (KF.out.cell 1 rfl)
    have k2 := cell_regrown (KF.out.cell 2 rfl)
    have k3 := cell_regrown (KF.out.cell 3 rfl)
    have k4 := cell_regrown (KF.out.cell 4 rfl)
    have k5 := cell_regrown (KF.out.cell 5 rfl)
    have w0 := cell_regrown (KW.out.cell 0 rfl)
    have w1 := cell_regrown (KW.out.cell 1 rfl)
    have l6 := cell_regrown (KL.out.cell 6 rfl)
    refine wp_region_quiet_below mixed (by kernel_rfl) ?_
    repeat (go_big_quiet_step (first | exact q0.out _ _ | exact q1.out _ _))
    refine wpQuiet_nil ?_
    intro _ hw'
    obtain ⟨⟨dq, osq⟩, rfl⟩ := hw'
    have BF := Lib.hid (Bl.out.trans ((below_regrown v dq osq).mono Bl.out.size))
    clear k0 k1 k2 k3 k4 k5 w0 w1 l6 q0 q1
    generalize grow (redrawn v dq) osq = u at BF ⊢
    go_wp2
    go_ret2
    exact ⟨by rw [← HV.out]; rfl, BF.out⟩

set_option maxRecDepth 100000 in
set_option maxHeartbeats 1000000 in
theorem kernelOf_5 (o s t m f z : Int) (A : Option Addr) (n p : Nat) (xs : List Int) (B : Option Addr) (q r : Nat) (ys : List Int) (W : World) (hl : xs.length = n) (hl2 : ys.length = q) (hn : n ≤ 1048576) (hq : q ≤ 1048576) :
    Calls Try.prog 110 #[.agg #[.int .i64 5, .int .i64 o, .int .i64 s, .int .i64 t, .int .i64 m, .int .i64 f, .int .i64 z, .slice A n p, .slice B q r]] W fun e W' => e = .returned (.tuple #[kerV 5 o s t m f z A n p B q r, .bool (kerB 5 o s t m f z xs ys)]) ∧ Below W.heap.size W W' := by
  have HN := Lib.hid hn
  have HQ := Lib.hid hq
  have HL := Lib.hid (And.intro hl hl2)
  have b0 : Below W.heap.size W (((W.alloc (.cells #[.int .i64 5, .int .i64 o, .int .i64 s, .int .i64 t, .int .i64 m, .int .i64 f, .int .i64 z, .slice A n p, .slice B q r] 104)).alloc (.cells #[.int .i64 o, .int .i64 m, .int .i64 f, .int .i64 z, .slice A n p, .slice B q r] 160)).alloc (.cells #[.int .i64 s, .int .i64 t] 164)) := ((Below.refl _ W).alloc (Nat.le_refl _) _).alloc (by simp) _ |>.alloc (by simp only [World.size_alloc]; omega) _
  have KL : Hid (Bk (((W.alloc (.cells #[.int .i64 5, .int .i64 o, .int .i64 s, .int .i64 t, .int .i64 m, .int .i64 f, .int .i64 z, .slice A n p, .slice B q r] 104)).alloc (.cells #[.int .i64 o, .int .i64 m, .int .i64 f, .int .i64 z, .slice A n p, .slice B q r] 160)).alloc (.cells #[.int .i64 s, .int .i64 t] 164)) W.heap.size 104 #[.int .i64 5, .int .i64 o, .int .i64 s, .int .i64 t, .int .i64 m, .int .i64 f, .int .i64 z, .slice A n p, .slice B q r]) := Lib.hid (((Bk.new W _ _).alloc _).alloc _)
  have KF : Hid (Bk (((W.alloc (.cells #[.int .i64 5, .int .i64 o, .int .i64 s, .int .i64 t, .int .i64 m, .int .i64 f, .int .i64 z, .slice A n p, .slice B q r] 104)).alloc (.cells #[.int .i64 o, .int .i64 m, .int .i64 f, .int .i64 z, .slice A n p, .slice B q r] 160)).alloc (.cells #[.int .i64 s, .int .i64 t] 164)) (W.heap.size + 1) 160 #[.int .i64 o, .int .i64 m, .int .i64 f, .int .i64 z, .slice A n p, .slice B q r]) := Lib.hid (by
    have := (Bk.new (W.alloc (.cells #[.int .i64 5, .int .i64 o, .int .i64 s, .int .i64 t, .int .i64 m, .int .i64 f, .int .i64 z, .slice A n p, .slice B q r] 104)) 160 #[.int .i64 o, .int .i64 m, .int .i64 f, .int .i64 z, .slice A n p, .slice B q r]).alloc (.cells #[.int .i64 s, .int .i64 t] 164)
    simpa only [World.size_alloc] using this)
  have KW : Hid (Bk (((W.alloc (.cells #[.int .i64 5, .int .i64 o, .int .i64 s, .int .i64 t, .int .i64 m, .int .i64 f, .int .i64 z, .slice A n p, .slice B q r] 104)).alloc (.cells #[.int .i64 o, .int .i64 m, .int .i64 f, .int .i64 z, .slice A n p, .slice B q r] 160)).alloc (.cells #[.int .i64 s, .int .i64 t] 164)) (W.heap.size + 1 + 1) 164 #[.int .i64 s, .int .i64 t]) := Lib.hid (by
    have := (Bk.new ((W.alloc (.cells #[.int .i64 5, .int .i64 o, .int .i64 s, .int .i64 t, .int .i64 m, .int .i64 f, .int .i64 z, .slice A n p, .slice B q r] 104)).alloc (.cells #[.int .i64 o, .int .i64 m, .int .i64 f, .int .i64 z, .slice A n p, .slice B q r] 160)) 164 #[.int .i64 s, .int .i64 t])
    simpa only [World.size_alloc] using this)
  have Bl := Lib.hid b0
  clear hn hq hl hl2 b0
  obtain ⟨R, hR⟩ : ∃ R, kerB 5 o s t m f z xs ys = R := ⟨_, rfl⟩
  rw [hR]
  have HR := Lib.hid hR
  clear hR
  obtain ⟨KV, hKV⟩ : ∃ KV, kerV 5 o s t m f z A n p B q r = KV := ⟨_, rfl⟩
  rw [hKV]
  have HV := Lib.hid hKV
  clear hKV
  go_enter Try.func110, Try.ntmps110
  go_wp2_with fail
  generalize (((W.alloc (.cells #[.int .i64 5, .int .i64 o, .int .i64 s, .int .i64 t, .int .i64 m, .int .i64 f, .int .i64 z, .slice A n p, .slice B q r] 104)).alloc (.cells #[.int .i64 o, .int .i64 m, .int .i64 f, .int .i64 z, .slice A n p, .slice B q r] 160)).alloc (.cells #[.int .i64 s, .int .i64 t] 164)) = v at KL KF KW Bl ⊢
  generalize W.heap.size + 1 + 1 = gW at KW ⊢
  generalize W.heap.size + 1 = gF at KF ⊢
  rcases hf : emptyF o m f xs ys with _ | _
  · have HF := Lib.hid hf
    clear hf
    obtain rfl : R = false := by rw [← HR.out]; simp [kerB, HF.out]
    have q1 := Lib.hid (fun d os => Calls.regrown_of (v := .bool false) (by have := filEmptyI o m f z A n p xs B q r ys (grow (redrawn v d) os) HL.out.1 HL.out.2 HN.out HQ.out; rw [HF.out] at this; exact this))
    have k0 := cell_regrown (KF.out.cell 0 rfl)
    have k1 := cell_regrown (KF.out.cell 1 rfl)
    have k2 := cell_regrown (KF.out.cell 2 rfl)
    have k3 := cell_regrown (KF.out.cell 3 rfl)
    have k4 := cell_regrown (KF.out.cell 4 rfl)
    have k5 := cell_regrown (KF.out.cell 5 rfl)
    have w0 := cell_regrown (KW.out.cell 0 rfl)
    have w1 := cell_regrown (KW.out.cell 1 rfl)
    have l6 := cell_regrown (KL.out.cell 6 rfl)
    refine wp_region_quiet_below mixed (by kernel_rfl) ?_
    repeat (go_big_quiet_step (first | exact q1.out _ _))
    refine wpQuiet_nil ?_
    intro _ hw'
    obtain ⟨⟨dq, osq⟩, rfl⟩ := hw'
    have BF := Lib.hid (Bl.out.trans ((below_regrown v dq osq).mono Bl.out.size))
    clear k0 k1 k2 k3 k4 k5 w0 w1 l6 q1
    generalize grow (redrawn v dq) osq = u at BF ⊢
    go_wp2
    go_ret2
    exact ⟨by rw [← HV.out]; rfl, BF.out⟩
  have HF := Lib.hid hf
  clear hf
  rcases hw : emptyW s t with _ | _
  · have HW := Lib.hid hw
    clear hw
    obtain rfl : R = false := by rw [← HR.out]; simp [kerB, HF.out, HW.out]
    have q0 := Lib.hid (fun d os => Calls.regrown_of (v := .bool false) (by have := winEmptyI s t (grow (redrawn v d) os); rw [HW.out] at this; exact this))
    have q1 := Lib.hid (fun d os => Calls.regrown_of (v := .bool true) (by have := filEmptyI o m f z A n p xs B q r ys (grow (redrawn v d) os) HL.out.1 HL.out.2 HN.out HQ.out; rw [HF.out] at this; exact this))
    have k0 := cell_regrown (KF.out.cell 0 rfl)
    have k1 := cell_regrown (KF.out.cell 1 rfl)
    have k2 := cell_regrown (KF.out.cell 2 rfl)
    have k3 := cell_regrown (KF.out.cell 3 rfl)
    have k4 := cell_regrown (KF.out.cell 4 rfl)
    have k5 := cell_regrown (KF.out.cell 5 rfl)
    have w0 := cell_regrown (KW.out.cell 0 rfl)
    have w1 := cell_regrown (KW.out.cell 1 rfl)
    have l6 := cell_regrown (KL.out.cell 6 rfl)
    refine wp_region_quiet_below mixed (by kernel_rfl) ?_
    repeat (go_big_quiet_step (first | exact q0.out _ _ | exact q1.out _ _))
    refine wpQuiet_nil ?_
    intro _ hw'
    obtain ⟨⟨dq, osq⟩, rfl⟩ := hw'
    have BF := Lib.hid (Bl.out.trans ((below_regrown v dq osq).mono Bl.out.size))
    clear k0 k1 k2 k3 k4 k5 w0 w1 l6 q0 q1
    generalize grow (redrawn v dq) osq = u at BF ⊢
    go_wp2
    go_ret2
    exact ⟨by rw [← HV.out]; rfl, BF.out⟩
  have HW := Lib.hid hw
  clear hw
  by_cases hz : z = 0
  · have hz1 : (z == 0) = true := by simp [hz]
    obtain rfl : R = true := by rw [← HR.out]; simp [kerB, HF.out, HW.out, hz]
    clear hz
    have q0 := Lib.hid (fun d os => Calls.regrown_of (v := .bool true) (by have := winEmptyI s t (grow (redrawn v d) os); rw [HW.out] at this; exact this))
    have q1 := Lib.hid (fun d os => Calls.regrown_of (v := .bool true) (by have := filEmptyI o m f z A n p xs B q r ys (grow (redrawn v d) os) HL.out.1 HL.out.2 HN.out HQ.out; rw [HF.out] at this; exact this))
    have k0 := cell_regrown (KF.out.cell 0 rfl)
    have k1 := cell_regrown (KF.out.cell 1 rfl)
    have k2 := cell_regrown (KF.out.cell 2 rfl)
    have k3 := cell_regrown (KF.out.cell 3 rfl)
    have k4 := cell_regrown (KF.out.cell 4 rfl)
    have k5 := cell_regrown (KF.out.cell 5 rfl)
    have w0 := cell_regrown (KW.out.cell 0 rfl)
    have w1 := cell_regrown (KW.out.cell 1 rfl)
    have l6 := cell_regrown (KL.out.cell 6 rfl)
    refine wp_region_quiet_below mixed (by kernel_rfl) ?_
    repeat (go_big_quiet_step (first | exact q0.out _ _ | exact q1.out _ _))
    refine wpQuiet_nil ?_
    intro _ hw'
    obtain ⟨⟨dq, osq⟩, rfl⟩ := hw'
    have BF := Lib.hid (Bl.out.trans ((below_regrown v dq osq).mono Bl.out.size))
    clear k0 k1 k2 k3 k4 k5 w0 w1 l6 q0 q1
    generalize grow (redrawn v dq) osq = u at BF ⊢
    go_wp2
    go_ret2
    exact ⟨by rw [← HV.out]; rfl, BF.out⟩
  · have hz1 : (z == 0) = false := by simp [hz]
    obtain rfl : R = false := by rw [← HR.out]; simp [kerB, HF.out, HW.out, hz]
    clear hz
    have q0 := Lib.hid (fun d os => Calls.regrown_of (v := .bool true) (by have := winEmptyI s t (grow (redrawn v d) os); rw [HW.out] at this; exact this))
    have q1 := Lib.hid (fun d os => Calls.regrown_of (v := .bool true) (by have := filEmptyI o m f z A n p xs B q r ys (grow (redrawn v d) os) HL.out.1 HL.out.2 HN.out HQ.out; rw [HF.out] at this; exact this))
    have k0 := cell_regrown (KF.out.cell 0 rfl)
    have k1 := cell_regrown (KF.out.cell 1 rfl)
    have k2 := cell_regrown (KF.out.cell 2 rfl)
    have k3 := cell_regrown (KF.out.cell 3 rfl)
    have k4 := cell_regrown (KF.out.cell 4 rfl)
    have k5 := cell_regrown (KF.out.cell 5 rfl)
    have w0 := cell_regrown (KW.out.cell 0 rfl)
    have w1 := cell_regrown (KW.out.cell 1 rfl)
    have l6 := cell_regrown (KL.out.cell 6 rfl)
    refine wp_region_quiet_below mixed (by kernel_rfl) ?_
    repeat (go_big_quiet_step (first | exact q0.out _ _ | exact q1.out _ _))
    refine wpQuiet_nil ?_
    intro _ hw'
    obtain ⟨⟨dq, osq⟩, rfl⟩ := hw'
    have BF := Lib.hid (Bl.out.trans ((below_regrown v dq osq).mono Bl.out.size))
    clear k0 k1 k2 k3 k4 k5 w0 w1 l6 q0 q1
    generalize grow (redrawn v dq) osq = u at BF ⊢
    go_wp2
    go_ret2
    exact ⟨by rw [← HV.out]; rfl, BF.out⟩

set_option maxRecDepth 100000 in
set_option maxHeartbeats 1000000 in
theorem kernelOf_no (k : Int) (o s t m f z : Int) (A : Option Addr) (n p : Nat) (xs : List Int) (B : Option Addr) (q r : Nat) (ys : List Int) (W : World) (hl : xs.length = n) (hl2 : ys.length = q) (hn : n ≤ 1048576) (hq : q ≤ 1048576) (hk : ¬ (0 ≤ k ∧ k ≤ 5)) :
    Calls Try.prog 110 #[.agg #[.int .i64 k, .int .i64 o, .int .i64 s, .int .i64 t, .int .i64 m, .int .i64 f, .int .i64 z, .slice A n p, .slice B q r]] W fun e W' => e = .returned (.tuple #[kerV k o s t m f z A n p B q r, .bool (kerB k o s t m f z xs ys)]) ∧ Below W.heap.size W W' := by
  have HN := Lib.hid hn
  have HQ := Lib.hid hq
  have HL := Lib.hid (And.intro hl hl2)
  have b0 : Below W.heap.size W (((W.alloc (.cells #[.int .i64 k, .int .i64 o, .int .i64 s, .int .i64 t, .int .i64 m, .int .i64 f, .int .i64 z, .slice A n p, .slice B q r] 104)).alloc (.cells #[.int .i64 o, .int .i64 m, .int .i64 f, .int .i64 z, .slice A n p, .slice B q r] 160)).alloc (.cells #[.int .i64 s, .int .i64 t] 164)) := ((Below.refl _ W).alloc (Nat.le_refl _) _).alloc (by simp) _ |>.alloc (by simp only [World.size_alloc]; omega) _
  have KL : Hid (Bk (((W.alloc (.cells #[.int .i64 k, .int .i64 o, .int .i64 s, .int .i64 t, .int .i64 m, .int .i64 f, .int .i64 z, .slice A n p, .slice B q r] 104)).alloc (.cells #[.int .i64 o, .int .i64 m, .int .i64 f, .int .i64 z, .slice A n p, .slice B q r] 160)).alloc (.cells #[.int .i64 s, .int .i64 t] 164)) W.heap.size 104 #[.int .i64 k, .int .i64 o, .int .i64 s, .int .i64 t, .int .i64 m, .int .i64 f, .int .i64 z, .slice A n p, .slice B q r]) := Lib.hid (((Bk.new W _ _).alloc _).alloc _)
  have KF : Hid (Bk (((W.alloc (.cells #[.int .i64 k, .int .i64 o, .int .i64 s, .int .i64 t, .int .i64 m, .int .i64 f, .int .i64 z, .slice A n p, .slice B q r] 104)).alloc (.cells #[.int .i64 o, .int .i64 m, .int .i64 f, .int .i64 z, .slice A n p, .slice B q r] 160)).alloc (.cells #[.int .i64 s, .int .i64 t] 164)) (W.heap.size + 1) 160 #[.int .i64 o, .int .i64 m, .int .i64 f, .int .i64 z, .slice A n p, .slice B q r]) := Lib.hid (by
    have := (Bk.new (W.alloc (.cells #[.int .i64 k, .int .i64 o, .int .i64 s, .int .i64 t, .int .i64 m, .int .i64 f, .int .i64 z, .slice A n p, .slice B q r] 104)) 160 #[.int .i64 o, .int .i64 m, .int .i64 f, .int .i64 z, .slice A n p, .slice B q r]).alloc (.cells #[.int .i64 s, .int .i64 t] 164)
    simpa only [World.size_alloc] using this)
  have KW : Hid (Bk (((W.alloc (.cells #[.int .i64 k, .int .i64 o, .int .i64 s, .int .i64 t, .int .i64 m, .int .i64 f, .int .i64 z, .slice A n p, .slice B q r] 104)).alloc (.cells #[.int .i64 o, .int .i64 m, .int .i64 f, .int .i64 z, .slice A n p, .slice B q r] 160)).alloc (.cells #[.int .i64 s, .int .i64 t] 164)) (W.heap.size + 1 + 1) 164 #[.int .i64 s, .int .i64 t]) := Lib.hid (by
    have := (Bk.new ((W.alloc (.cells #[.int .i64 k, .int .i64 o, .int .i64 s, .int .i64 t, .int .i64 m, .int .i64 f, .int .i64 z, .slice A n p, .slice B q r] 104)).alloc (.cells #[.int .i64 o, .int .i64 m, .int .i64 f, .int .i64 z, .slice A n p, .slice B q r] 160)) 164 #[.int .i64 s, .int .i64 t])
    simpa only [World.size_alloc] using this)
  have Bl := Lib.hid b0
  clear hn hq hl hl2 b0
  have hv : kerV k o s t m f z A n p B q r = .nilIface := by simp only [kerV]; rw [if_neg (by omega), if_neg (by omega), if_neg (by omega), if_neg (by omega), if_neg (by omega), if_neg (by omega)]
  have hb : kerB k o s t m f z xs ys = false := by simp only [kerB]; rw [if_neg (by omega), if_neg (by omega), if_neg (by omega), if_neg (by omega), if_neg (by omega)]
  rw [hv, hb]
  clear hv hb
  have h0 : k ≠ 0 := by omega
  have h1 : k ≠ 1 := by omega
  have h2 : k ≠ 2 := by omega
  have h3 : k ≠ 3 := by omega
  have h4 : k ≠ 4 := by omega
  have h5 : k ≠ 5 := by omega
  clear hk
  go_enter Try.func110, Try.ntmps110
  go_wp2
  go_ret2
  exact ⟨rfl, Bl.out⟩
end Qt
end Go.Proofs.Ytbmchpoffceehaa
