/- What productsOf and CostOf of the program, and CostOf of its model, give when they are called. Conditions: the slices read as the lists that are named. -/
import Derived.Test.YtnceiclgfogmiaaAssert
import Derived.Test.YtnceiclgfogmiaaOutLaw
import Derived.Lib.QuietBelow
import Derived.Laws.EntriesVeiled
namespace Go.Proofs.Ytnceiclgfogmiaa
open Go.RowKit Go.Sort
set_option linter.unusedSimpArgs false
set_option linter.unusedVariables false
namespace Qt
/-- How many products a layer makes, between two shapes. -/
def prodL (k h w c s a b d : Int) : Int :=
  if k = 0 then szOf a b d * szOf h w c else if k = 1 then szOf a b d * (s * s) * c else if k = 2 ∨ k = 3 then szOf a b d * (s * s) else szOf h w c
def costL (h w c k o s t m f z : Int) (xs ys : List Int) : Int := match outL h w c k o s t m f z xs ys with
  | some (a, b, d) => 1 + (prodL k h w c s a b d) / 16
  | none => 0
theorem outL_sh {h w c k o s t m f z : Int} {xs ys : List Int} {e : Int × Int × Int} (h1 : outL h w c k o s t m f z xs ys = some e) : shOk h w c = true := by
  rcases hs : shOk h w c with _ | _
  · simp [outL, hs] at h1
  · rfl
theorem outL_win {h w c k o s t m f z : Int} {xs ys : List Int} {e : Int × Int × Int} (hk : k = 1 ∨ k = 2 ∨ k = 3) (h1 : outL h w c k o s t m f z xs ys = some e) : 1 ≤ s ∧ s ≤ 3 ∧ 1 ≤ t ∧ t ≤ 2 := by
  have hf : fitsB h w s t = true := by
    rcases hk with rfl | rfl | rfl
    · rw [outL_1] at h1
      rcases hx : fitsB h w s t with _ | _
      · simp [hx] at h1
      · rfl
    · rw [outL_2] at h1
      rcases hx : fitsB h w s t with _ | _
      · simp [hx] at h1
      · rfl
    · rw [outL_3] at h1
      rcases hx : fitsB h w s t with _ | _
      · simp [hx] at h1
      · rfl
  rw [fitsB_eq] at hf
  simp only [winB, Bool.and_eq_true, inB_iff] at hf
  exact ⟨hf.1.1.1, hf.1.1.2, hf.1.2.1, hf.1.2.2⟩
theorem outL_kind {h w c k o s t m f z : Int} {xs ys : List Int} {e : Int × Int × Int} (h1 : outL h w c k o s t m f z xs ys = some e) : 0 ≤ k ∧ k ≤ 5 := by
  rcases kind_cases k with rfl | rfl | rfl | rfl | rfl | rfl | hk
  any_goals omega
  exfalso
  revert h1
  simp only [outL]
  rw [if_neg (show ¬ k = 0 by omega), if_neg (show ¬ k = 1 by omega), if_neg (show ¬ (k = 2 ∨ k = 3) by omega), if_neg (show ¬ k = 4 by omega), if_neg (show ¬ k = 5 by omega)]
  simp
theorem prodL_bd {k h w c s a b d : Int} (hc : 1 ≤ c ∧ c ≤ 8) (hs : k = 1 ∨ k = 2 ∨ k = 3 → 0 ≤ s ∧ s ≤ 3) : 0 ≤ prodL k h w c s a b d ∧ prodL k h w c s a b d ≤ 300000 := by
  obtain ⟨y1, y2⟩ := szOf_bd h w c
  obtain ⟨y3, y4⟩ := szOf_bd a b d
  unfold prodL
  split
  · obtain ⟨m1, m2⟩ := mulBd y3 y4 y1 y2; omega
  split
  · obtain ⟨s1, s2⟩ := hs (by omega)
    obtain ⟨m1, m2⟩ := mulBd s1 s2 s1 s2
    obtain ⟨m3, m4⟩ := mulBd y3 y4 m1 m2
    obtain ⟨m5, m6⟩ := mulBd m3 m4 (by omega : 0 ≤ c) hc.2
    omega
  split
  · obtain ⟨s1, s2⟩ := hs (by omega)
    obtain ⟨m1, m2⟩ := mulBd s1 s2 s1 s2
    obtain ⟨m3, m4⟩ := mulBd y3 y4 m1 m2
    omega
  · omega

set_option maxRecDepth 100000 in
set_option maxHeartbeats 1000000 in
theorem prodI_d (h w c : Int) (o m f z : Int) (A : Option Addr) (n p : Nat) (B : Option Addr) (q r : Nat) (a b d : Int) (W : World) :
    Calls Try.prog 48 #[.iface 114 (.agg #[.int .i64 o, .int .i64 m, .int .i64 f, .int .i64 z, .slice A n p, .slice B q r]), .agg #[.int .i64 h, .int .i64 w, .int .i64 c], .agg #[.int .i64 a, .int .i64 b, .int .i64 d]] W fun e W' => e = .returned (.int .i64 (szOf a b d * szOf h w c)) ∧ Below W.heap.size W W' := by
  have P := Pkg.laid (Pkg.laid (Pkg.laid (Pkg.start W [] (by intro r' hr'; cases hr')) 25 #[.int .i64 h, .int .i64 w, .int .i64 c]) 25 #[.int .i64 a, .int .i64 b, .int .i64 d]) 114 #[.int .i64 o, .int .i64 m, .int .i64 f, .int .i64 z, .slice A n p, .slice B q r]
  rw [World.size_alloc, World.size_alloc] at P
  obtain ⟨y1, y2⟩ := szOf_bd h w c
  obtain ⟨y3, y4⟩ := szOf_bd a b d
  have t0 := fun w0 => as_dd (.agg #[.int .i64 o, .int .i64 m, .int .i64 f, .int .i64 z, .slice A n p, .slice B q r]) w0
  go_enter Try.func48, Try.ntmps48
  go_wp2_with fail
  clear t0
  generalize (((W.alloc (.cells #[.int .i64 h, .int .i64 w, .int .i64 c] 25)).alloc (.cells #[.int .i64 a, .int .i64 b, .int .i64 d] 25)).alloc (.cells #[.int .i64 o, .int .i64 m, .int .i64 f, .int .i64 z, .slice A n p, .slice B q r] 114)) = v at P ⊢
  generalize W.heap.size + 1 + 1 = gK at P ⊢
  generalize W.heap.size + 1 = gT at P ⊢
  obtain ⟨m1, m2⟩ := mulBd y3 y4 y1 y2
  have hw0 : IntKind.i64.wrap (szOf a b d * szOf h w c) = szOf a b d * szOf h w c := by rw [IntKind.wrap_i64]; omega
  clear y1 y2 y3 y4 m1 m2
  have a0 := cell_regrown ((Pkg.blk1 P).cell 0 rfl)
  have a1 := cell_regrown ((Pkg.blk1 P).cell 1 rfl)
  have a2 := cell_regrown ((Pkg.blk1 P).cell 2 rfl)
  have b0 := cell_regrown ((Pkg.blk2 P).cell 0 rfl)
  have b1 := cell_regrown ((Pkg.blk2 P).cell 1 rfl)
  have b2 := cell_regrown ((Pkg.blk2 P).cell 2 rfl)
  have q0 := Lib.hid (fun dd os => Calls.regrown_of (sizeOfI a b d (grow (redrawn v dd) os)))
  have q1 := Lib.hid (fun dd os => Calls.regrown_of (sizeOfI h w c (grow (redrawn v dd) os)))
  refine wp_region_quiet_below mixed (by kernel_rfl) ?_
  repeat (go_big_quiet_step (first | with_reducible exact q0.out _ _ | with_reducible exact q1.out _ _))
  refine wpQuiet_nil ?_
  intro _ hw'
  obtain ⟨⟨dq, osq⟩, rfl⟩ := hw'
  replace P := Pkg.below P (below_regrown v dq osq)
  clear a0 a1 a2 b0 b1 b2 hw0 q0 q1
  generalize grow (redrawn v dq) osq = u9 at P ⊢
  go_wp2
  go_ret
  exact ⟨rfl, Pkg.bl P⟩

set_option maxRecDepth 100000 in
set_option maxHeartbeats 1000000 in
theorem prodI_r (h w c : Int) (z : Int) (a b d : Int) (W : World) :
    Calls Try.prog 48 #[.iface 126 (.agg #[.int .i64 z]), .agg #[.int .i64 h, .int .i64 w, .int .i64 c], .agg #[.int .i64 a, .int .i64 b, .int .i64 d]] W fun e W' => e = .returned (.int .i64 (szOf h w c)) ∧ Below W.heap.size W W' := by
  have P := Pkg.laid (Pkg.laid (Pkg.start W [] (by intro r' hr'; cases hr')) 25 #[.int .i64 h, .int .i64 w, .int .i64 c]) 25 #[.int .i64 a, .int .i64 b, .int .i64 d]
  rw [World.size_alloc] at P
  obtain ⟨y1, y2⟩ := szOf_bd h w c
  obtain ⟨y3, y4⟩ := szOf_bd a b d
  have t0 := fun w0 => as_rd (.agg #[.int .i64 z]) w0
  have t1 := fun w0 => as_rc (.agg #[.int .i64 z]) w0
  have t2 := fun w0 => as_rp (.agg #[.int .i64 z]) w0
  go_enter Try.func48, Try.ntmps48
  go_wp2_with fail
  clear t0 t1 t2
  generalize ((W.alloc (.cells #[.int .i64 h, .int .i64 w, .int .i64 c] 25)).alloc (.cells #[.int .i64 a, .int .i64 b, .int .i64 d] 25)) = v at P ⊢
  generalize W.heap.size + 1 = gT at P ⊢
  with_reducible refine (sizeOfI h w c _).mono ?_
  rintro e u1 ⟨rfl, bb⟩
  replace P := Pkg.below P bb
  clear bb
  go_wp2
  go_ret
  exact ⟨rfl, Pkg.bl P⟩

set_option maxRecDepth 100000 in
set_option maxHeartbeats 1000000 in
theorem prodI_f (h w c : Int)  (a b d : Int) (W : World) :
    Calls Try.prog 48 #[.iface 128 (.agg #[]), .agg #[.int .i64 h, .int .i64 w, .int .i64 c], .agg #[.int .i64 a, .int .i64 b, .int .i64 d]] W fun e W' => e = .returned (.int .i64 (szOf h w c)) ∧ Below W.heap.size W W' := by
  have P := Pkg.laid (Pkg.laid (Pkg.start W [] (by intro r' hr'; cases hr')) 25 #[.int .i64 h, .int .i64 w, .int .i64 c]) 25 #[.int .i64 a, .int .i64 b, .int .i64 d]
  rw [World.size_alloc] at P
  obtain ⟨y1, y2⟩ := szOf_bd h w c
  obtain ⟨y3, y4⟩ := szOf_bd a b d
  have t0 := fun w0 => as_fd (.agg #[]) w0
  have t1 := fun w0 => as_fc (.agg #[]) w0
  have t2 := fun w0 => as_fp (.agg #[]) w0
  go_enter Try.func48, Try.ntmps48
  go_wp2_with fail
  clear t0 t1 t2
  generalize ((W.alloc (.cells #[.int .i64 h, .int .i64 w, .int .i64 c] 25)).alloc (.cells #[.int .i64 a, .int .i64 b, .int .i64 d] 25)) = v at P ⊢
  generalize W.heap.size + 1 = gT at P ⊢
  with_reducible refine (sizeOfI h w c _).mono ?_
  rintro e u1 ⟨rfl, bb⟩
  replace P := Pkg.below P bb
  clear bb
  go_wp2
  go_ret
  exact ⟨rfl, Pkg.bl P⟩

set_option maxRecDepth 100000 in
set_option maxHeartbeats 1000000 in
theorem prodI_p (h w c : Int) (s t : Int) (fn : FuncId) (a b d : Int) (W : World) (s1 : 1 ≤ s) (s2 : s ≤ 3) :
    Calls Try.prog 48 #[.iface 121 (.agg #[.int .i64 s, .int .i64 t, .func (.func fn) #[] #[]]), .agg #[.int .i64 h, .int .i64 w, .int .i64 c], .agg #[.int .i64 a, .int .i64 b, .int .i64 d]] W fun e W' => e = .returned (.int .i64 (szOf a b d * (s * s))) ∧ Below W.heap.size W W' := by
  have P := Pkg.laid (Pkg.laid (Pkg.laid (Pkg.start W [] (by intro r' hr'; cases hr')) 25 #[.int .i64 h, .int .i64 w, .int .i64 c]) 25 #[.int .i64 a, .int .i64 b, .int .i64 d]) 121 #[.int .i64 s, .int .i64 t, .func (.func fn) #[] #[]]
  rw [World.size_alloc, World.size_alloc] at P
  obtain ⟨y1, y2⟩ := szOf_bd h w c
  obtain ⟨y3, y4⟩ := szOf_bd a b d
  have t0 := fun w0 => as_pd (.agg #[.int .i64 s, .int .i64 t, .func (.func fn) #[] #[]]) w0
  have t1 := fun w0 => as_pc (.agg #[.int .i64 s, .int .i64 t, .func (.func fn) #[] #[]]) w0
  have t2 := fun w0 => as_pp (.agg #[.int .i64 s, .int .i64 t, .func (.func fn) #[] #[]]) w0
  go_enter Try.func48, Try.ntmps48
  go_wp2_with fail
  clear t0 t1 t2
  generalize (((W.alloc (.cells #[.int .i64 h, .int .i64 w, .int .i64 c] 25)).alloc (.cells #[.int .i64 a, .int .i64 b, .int .i64 d] 25)).alloc (.cells #[.int .i64 s, .int .i64 t, .func (.func fn) #[] #[]] 121)) = v at P ⊢
  generalize W.heap.size + 1 + 1 = gK at P ⊢
  generalize W.heap.size + 1 = gT at P ⊢
  obtain ⟨m1, m2⟩ := mulBd (by omega : 0 ≤ s) s2 (by omega : 0 ≤ s) s2
  obtain ⟨m3, m4⟩ := mulBd y3 y4 m1 m2
  have hw0 : IntKind.i64.wrap (szOf a b d * (s * s)) = szOf a b d * (s * s) := by rw [IntKind.wrap_i64]; omega
  clear y1 y2 y3 y4 m1 m2 m3 m4
  have a0 := cell_regrown ((Pkg.blk1 P).cell 0 rfl)
  have a1 := cell_regrown ((Pkg.blk1 P).cell 1 rfl)
  have a2 := cell_regrown ((Pkg.blk1 P).cell 2 rfl)
  have b0 := cell_regrown ((Pkg.blk2 P).cell 0 rfl)
  have b1 := cell_regrown ((Pkg.blk2 P).cell 1 rfl)
  have b2 := cell_regrown ((Pkg.blk2 P).cell 2 rfl)
  have k0 := cell_regrown ((Pkg.blk0 P).cell 0 rfl)
  have k1 := cell_regrown ((Pkg.blk0 P).cell 1 rfl)
  have q0 := Lib.hid (fun dd os => Calls.regrown_of (sizeOfI a b d (grow (redrawn v dd) os)))
  have q1 := Lib.hid (fun dd os => Calls.regrown_of (areaI s t (grow (redrawn v dd) os) s1 s2))
  refine wp_region_quiet_below mixed (by kernel_rfl) ?_
  repeat (go_big_quiet_step (first | with_reducible exact q0.out _ _ | with_reducible exact q1.out _ _))
  refine wpQuiet_nil ?_
  intro _ hw'
  obtain ⟨⟨dq, osq⟩, rfl⟩ := hw'
  replace P := Pkg.below P (below_regrown v dq osq)
  clear a0 a1 a2 b0 b1 b2 k0 k1 hw0 q0 q1
  generalize grow (redrawn v dq) osq = u9 at P ⊢
  go_wp2
  go_ret
  exact ⟨rfl, Pkg.bl P⟩

set_option maxRecDepth 100000 in
set_option maxHeartbeats 1000000 in
theorem prodI_c (h w c : Int) (o m f z : Int) (A : Option Addr) (n p : Nat) (B : Option Addr) (q r : Nat) (s t : Int) (a b d : Int) (W : World) (s1 : 1 ≤ s) (s2 : s ≤ 3) (c1 : 1 ≤ c) (c2 : c ≤ 8) :
    Calls Try.prog 48 #[.iface 118 (.agg #[.int .i64 o, .int .i64 m, .int .i64 f, .int .i64 z, .slice A n p, .slice B q r, .int .i64 s, .int .i64 t]), .agg #[.int .i64 h, .int .i64 w, .int .i64 c], .agg #[.int .i64 a, .int .i64 b, .int .i64 d]] W fun e W' => e = .returned (.int .i64 (szOf a b d * (s * s) * c)) ∧ Below W.heap.size W W' := by
  have P := Pkg.laid (Pkg.laid (Pkg.laid (Pkg.start W [] (by intro r' hr'; cases hr')) 25 #[.int .i64 h, .int .i64 w, .int .i64 c]) 25 #[.int .i64 a, .int .i64 b, .int .i64 d]) 118 #[.int .i64 o, .int .i64 m, .int .i64 f, .int .i64 z, .slice A n p, .slice B q r, .int .i64 s, .int .i64 t]
  rw [World.size_alloc, World.size_alloc] at P
  obtain ⟨y1, y2⟩ := szOf_bd h w c
  obtain ⟨y3, y4⟩ := szOf_bd a b d
  have t0 := fun w0 => as_cd (.agg #[.int .i64 o, .int .i64 m, .int .i64 f, .int .i64 z, .slice A n p, .slice B q r, .int .i64 s, .int .i64 t]) w0
  have t1 := fun w0 => as_cc (.agg #[.int .i64 o, .int .i64 m, .int .i64 f, .int .i64 z, .slice A n p, .slice B q r, .int .i64 s, .int .i64 t]) w0
  go_enter Try.func48, Try.ntmps48
  go_wp2_with fail
  clear t0 t1
  generalize (((W.alloc (.cells #[.int .i64 h, .int .i64 w, .int .i64 c] 25)).alloc (.cells #[.int .i64 a, .int .i64 b, .int .i64 d] 25)).alloc (.cells #[.int .i64 o, .int .i64 m, .int .i64 f, .int .i64 z, .slice A n p, .slice B q r, .int .i64 s, .int .i64 t] 118)) = v at P ⊢
  generalize W.heap.size + 1 + 1 = gK at P ⊢
  generalize W.heap.size + 1 = gT at P ⊢
  obtain ⟨m1, m2⟩ := mulBd (by omega : 0 ≤ s) s2 (by omega : 0 ≤ s) s2
  obtain ⟨m3, m4⟩ := mulBd y3 y4 m1 m2
  have hw0 : IntKind.i64.wrap (szOf a b d * (s * s)) = szOf a b d * (s * s) := by rw [IntKind.wrap_i64]; omega
  obtain ⟨m5, m6⟩ := mulBd m3 m4 (by omega : 0 ≤ c) c2
  have hw1 : IntKind.i64.wrap (szOf a b d * (s * s) * c) = szOf a b d * (s * s) * c := by rw [IntKind.wrap_i64]; omega
  clear y1 y2 y3 y4 m1 m2 m3 m4 m5 m6
  have a0 := cell_regrown ((Pkg.blk1 P).cell 0 rfl)
  have a1 := cell_regrown ((Pkg.blk1 P).cell 1 rfl)
  have a2 := cell_regrown ((Pkg.blk1 P).cell 2 rfl)
  have b0 := cell_regrown ((Pkg.blk2 P).cell 0 rfl)
  have b1 := cell_regrown ((Pkg.blk2 P).cell 1 rfl)
  have b2 := cell_regrown ((Pkg.blk2 P).cell 2 rfl)
  have k0 := cell_regrown ((Pkg.blk0 P).cell 0 rfl)
  have k1 := cell_regrown ((Pkg.blk0 P).cell 1 rfl)
  have k2 := cell_regrown ((Pkg.blk0 P).cell 2 rfl)
  have k3 := cell_regrown ((Pkg.blk0 P).cell 3 rfl)
  have k4 := cell_regrown ((Pkg.blk0 P).cell 4 rfl)
  have k5 := cell_regrown ((Pkg.blk0 P).cell 5 rfl)
  have k6 := cell_regrown ((Pkg.blk0 P).cell 6 rfl)
  have k7 := cell_regrown ((Pkg.blk0 P).cell 7 rfl)
  have q0 := Lib.hid (fun dd os => Calls.regrown_of (sizeOfI a b d (grow (redrawn v dd) os)))
  have q1 := Lib.hid (fun dd os => Calls.regrown_of (areaI s t (grow (redrawn v dd) os) s1 s2))
  refine wp_region_quiet_below mixed (by kernel_rfl) ?_
  repeat (go_big_quiet_step (first | with_reducible exact q0.out _ _ | with_reducible exact q1.out _ _))
  refine wpQuiet_nil ?_
  intro _ hw'
  obtain ⟨⟨dq, osq⟩, rfl⟩ := hw'
  replace P := Pkg.below P (below_regrown v dq osq)
  clear a0 a1 a2 b0 b1 b2 k0 k1 k2 k3 k4 k5 k6 k7 hw0 hw1 q0 q1
  generalize grow (redrawn v dq) osq = u9 at P ⊢
  go_wp2
  go_ret
  exact ⟨rfl, Pkg.bl P⟩

theorem prodIall (k h w c o s t m f z : Int) (A : Option Addr) (n p : Nat) (B : Option Addr) (q r : Nat) (a b d : Int) (W : World) (hk : 0 ≤ k ∧ k ≤ 5) (hs : k = 1 ∨ k = 2 ∨ k = 3 → 1 ≤ s ∧ s ≤ 3) (hc : 1 ≤ c ∧ c ≤ 8) :
    Calls Try.prog 48 #[kerV k o s t m f z A n p B q r, .agg #[.int .i64 h, .int .i64 w, .int .i64 c], .agg #[.int .i64 a, .int .i64 b, .int .i64 d]] W fun e W' => e = .returned (.int .i64 (prodL k h w c s a b d)) ∧ Below W.heap.size W W' := by
  rcases kind_cases k with rfl | rfl | rfl | rfl | rfl | rfl | hk2
  · exact prodI_d h w c o m f z A n p B q r a b d W
  · exact prodI_c h w c o m f z A n p B q r s t a b d W (hs (by omega)).1 (hs (by omega)).2 hc.1 hc.2
  · exact prodI_p h w c s t 87 a b d W (hs (by omega)).1 (hs (by omega)).2
  · exact prodI_p h w c s t 85 a b d W (hs (by omega)).1 (hs (by omega)).2
  · exact prodI_r h w c z a b d W
  · exact prodI_f h w c a b d W
  · exact absurd hk hk2
set_option maxRecDepth 100000 in
set_option maxHeartbeats 1000000 in
theorem costI (h w c k o s t m f z : Int) (A : Option Addr) (n p : Nat) (xs : List Int) (B : Option Addr) (q r : Nat) (ys : List Int) (W : World) (hr : RdI W A n xs) (hr2 : RdI W B q ys) (hn : n ≤ 1048576) (hq : q ≤ 1048576) :
    Calls Try.prog 17 #[.agg #[.int .i64 h, .int .i64 w, .int .i64 c], .agg #[.int .i64 k, .int .i64 o, .int .i64 s, .int .i64 t, .int .i64 m, .int .i64 f, .int .i64 z, .slice A n p, .slice B q r]] W fun e W' => e = .returned (.int .i64 (costL h w c k o s t m f z xs ys)) ∧ Below W.heap.size W W' := by
  have HN := Lib.hid hn
  have HQ := Lib.hid hq
  have P := Pkg.laid (Pkg.laid (Pkg.start W [(A, n, xs), (B, q, ys)] (by intro r' hr'; rcases List.mem_cons.1 hr' with rfl | hr'; exact hr; rcases List.mem_cons.1 hr' with rfl | hr'; exact hr2; cases hr')) 25 #[.int .i64 h, .int .i64 w, .int .i64 c]) 30 #[.int .i64 k, .int .i64 o, .int .i64 s, .int .i64 t, .int .i64 m, .int .i64 f, .int .i64 z, .slice A n p, .slice B q r]
  rw [World.size_alloc] at P
  clear hn hq hr hr2
  obtain ⟨V, hV⟩ : ∃ V, costL h w c k o s t m f z xs ys = V := ⟨_, rfl⟩
  rw [hV]
  have HV := Lib.hid hV
  clear hV
  go_enter Try.func17, Try.ntmps17
  go_wp2_with fail
  generalize ((W.alloc (.cells #[.int .i64 h, .int .i64 w, .int .i64 c] 25)).alloc (.cells #[.int .i64 k, .int .i64 o, .int .i64 s, .int .i64 t, .int .i64 m, .int .i64 f, .int .i64 z, .slice A n p, .slice B q r] 30)) = v at P ⊢
  generalize W.heap.size + 1 = gL at P ⊢
  with_reducible refine (kernelForI h w c k o s t m f z A n p xs B q r ys _ (Pkg.rd0 P) (Pkg.rd1 P) HN.out HQ.out).mono ?_
  rintro e u1 ⟨rfl, bb⟩
  replace P := Pkg.below P bb
  clear bb
  rcases hO : outL h w c k o s t m f z xs ys with _ | ⟨a, b, d⟩
  · obtain rfl : V = 0 := by rw [← HV.out, costL, hO]
    rw [show forV (kerV k o s t m f z A n p B q r) none = .tuple #[.nilIface, .agg #[.int .i64 0, .int .i64 0, .int .i64 0], .bool false] from rfl]
    go_wp2
    go_ret
    exact ⟨rfl, Pkg.bl (Pkg.alloc P _)⟩
  · have HX : Hid (V = 1 + (prodL k h w c s a b d) / 16) := Lib.hid (by rw [← HV.out, costL, hO])
    rw [show forV (kerV k o s t m f z A n p B q r) (some (a, b, d)) = .tuple #[kerV k o s t m f z A n p B q r, .agg #[.int .i64 a, .int .i64 b, .int .i64 d], .bool true] from rfl]
    have hsh := shOk_iff.1 (outL_sh hO)
    have hwin := fun hk => outL_win hk hO
    have hkk := outL_kind hO
    have HP := Lib.hid (fun W2 => prodIall k h w c o s t m f z A n p B q r a b d W2 hkk (fun hk => ⟨(hwin hk).1, (hwin hk).2.1⟩) ⟨hsh.2.2.2.2.1, hsh.2.2.2.2.2⟩)
    obtain ⟨v1, v2⟩ := prodL_bd (k := k) (h := h) (w := w) (c := c) (s := s) (a := a) (b := b) (d := d) ⟨hsh.2.2.2.2.1, hsh.2.2.2.2.2⟩ (fun hk => ⟨by have := (hwin hk).1; omega, (hwin hk).2.1⟩)
    clear hsh hwin hkk hO HV
    generalize kerV k o s t m f z A n p B q r = KV at HP ⊢
    generalize prodL k h w c s a b d = X at HP HX v1 v2 ⊢
    replace P := Pkg.laid P 25 #[.int .i64 a, .int .i64 b, .int .i64 d]
    obtain ⟨n0, n1, n2⟩ := (Pkg.blk0 P).cell3
    obtain ⟨a0, a1, a2⟩ := (Pkg.blk2 P).cell3
    go_wp2_with fail
    clear n0 n1 n2 a0 a1 a2
    with_reducible refine (HP.out _).mono ?_
    rintro e u2 ⟨rfl, bb⟩
    replace P := Pkg.below P bb
    clear bb HP
    go_wp2
    go_ret
    exact ⟨by rw [HX.out]; rfl, Pkg.bl P⟩

set_option maxRecDepth 100000 in
set_option maxHeartbeats 1000000 in
theorem costS_no (h w c k o s t m f z : Int) (A : Option Addr) (n p : Nat) (xs : List Int) (B : Option Addr) (q r : Nat) (ys : List Int) (W : World) (hr : RdI W A n xs) (hr2 : RdI W B q ys) (hn : n ≤ 1048576) (hq : q ≤ 1048576) (hO : outL h w c k o s t m f z xs ys = none) :
    Calls Try.prog 18 #[.agg #[.int .i64 h, .int .i64 w, .int .i64 c], .agg #[.int .i64 k, .int .i64 o, .int .i64 s, .int .i64 t, .int .i64 m, .int .i64 f, .int .i64 z, .slice A n p, .slice B q r]] W fun e W' => e = .returned (.int .i64 0) ∧ Below W.heap.size W W' := by
  have HN := Lib.hid hn
  have HQ := Lib.hid hq
  have HO : Hid (outV (outL h w c k o s t m f z xs ys) = .tuple #[.agg #[.int .i64 0, .int .i64 0, .int .i64 0], .bool false]) := Lib.hid (by rw [hO]; rfl)
  have P := Pkg.laid (Pkg.laid (Pkg.start W [(A, n, xs), (B, q, ys)] (by intro r' hr'; rcases List.mem_cons.1 hr' with rfl | hr'; exact hr; rcases List.mem_cons.1 hr' with rfl | hr'; exact hr2; cases hr')) 25 #[.int .i64 h, .int .i64 w, .int .i64 c]) 30 #[.int .i64 k, .int .i64 o, .int .i64 s, .int .i64 t, .int .i64 m, .int .i64 f, .int .i64 z, .slice A n p, .slice B q r]
  rw [World.size_alloc] at P
  clear hn hq hr hr2 hO
  go_enter Try.func18, Try.ntmps18
  go_wp2_with fail
  generalize ((W.alloc (.cells #[.int .i64 h, .int .i64 w, .int .i64 c] 25)).alloc (.cells #[.int .i64 k, .int .i64 o, .int .i64 s, .int .i64 t, .int .i64 m, .int .i64 f, .int .i64 z, .slice A n p, .slice B q r] 30)) = v at P ⊢
  generalize W.heap.size + 1 = gL at P ⊢
  with_reducible refine (outSx h w c k o s t m f z A n p xs B q r ys _ 0 0 0 false HO.out (Pkg.rd0 P) (Pkg.rd1 P) HN.out HQ.out).mono ?_
  rintro e u1 ⟨rfl, bb⟩
  replace P := Pkg.below P bb
  clear bb
  go_wp2
  go_ret
  exact ⟨rfl, Pkg.bl (Pkg.alloc P _)⟩

set_option maxRecDepth 100000 in
set_option maxHeartbeats 1000000 in
theorem costS_0 (h w c o s t m f z : Int) (A : Option Addr) (n p : Nat) (xs : List Int) (B : Option Addr) (q r : Nat) (ys : List Int) (W : World) (hr : RdI W A n xs) (hr2 : RdI W B q ys) (hn : n ≤ 1048576) (hq : q ≤ 1048576) (a b d : Int) (hO : outL h w c 0 o s t m f z xs ys = some (a, b, d)) :
    Calls Try.prog 18 #[.agg #[.int .i64 h, .int .i64 w, .int .i64 c], .agg #[.int .i64 0, .int .i64 o, .int .i64 s, .int .i64 t, .int .i64 m, .int .i64 f, .int .i64 z, .slice A n p, .slice B q r]] W fun e W' => e = .returned (.int .i64 (1 + (prodL 0 h w c s a b d) / 16)) ∧ Below W.heap.size W W' := by
  have HN := Lib.hid hn
  have HQ := Lib.hid hq
  have HO : Hid (outV (outL h w c 0 o s t m f z xs ys) = .tuple #[.agg #[.int .i64 a, .int .i64 b, .int .i64 d], .bool true]) := Lib.hid (by rw [hO]; rfl)
  have P := Pkg.laid (Pkg.laid (Pkg.start W [(A, n, xs), (B, q, ys)] (by intro r' hr'; rcases List.mem_cons.1 hr' with rfl | hr'; exact hr; rcases List.mem_cons.1 hr' with rfl | hr'; exact hr2; cases hr')) 25 #[.int .i64 h, .int .i64 w, .int .i64 c]) 30 #[.int .i64 0, .int .i64 o, .int .i64 s, .int .i64 t, .int .i64 m, .int .i64 f, .int .i64 z, .slice A n p, .slice B q r]
  rw [World.size_alloc] at P
  have hsh := shOk_iff.1 (outL_sh hO)
  obtain ⟨v1, v2⟩ := prodL_bd (k := 0) (h := h) (w := w) (c := c) (s := s) (a := a) (b := b) (d := d) ⟨hsh.2.2.2.2.1, hsh.2.2.2.2.2⟩ (fun hk => absurd hk (by omega))
  have y1 := szOf_bd h w c
  have y2 := szOf_bd a b d
  obtain ⟨m1, m2⟩ := mulBd y2.1 y2.2 y1.1 y1.2
  have hw0 : IntKind.i64.wrap (szOf a b d * szOf h w c) = szOf a b d * szOf h w c := by rw [IntKind.wrap_i64]; omega
  rw [show prodL 0 h w c s a b d = szOf a b d * szOf h w c by simp [prodL]] at v1 v2 ⊢
  obtain ⟨V, hV⟩ : ∃ V, szOf a b d * szOf h w c = V := ⟨_, rfl⟩
  rw [hV] at v1 v2 ⊢
  have hw2 : IntKind.i64.wrap (szOf a b d * szOf h w c) = V := by rw [hw0, hV]
  clear m1 m2 hw0
  clear hsh hn hq hr hr2 hO y1 y2
  have HVV := Lib.hid hV
  clear hV
  go_enter Try.func18, Try.ntmps18
  go_wp2_with fail
  generalize ((W.alloc (.cells #[.int .i64 h, .int .i64 w, .int .i64 c] 25)).alloc (.cells #[.int .i64 0, .int .i64 o, .int .i64 s, .int .i64 t, .int .i64 m, .int .i64 f, .int .i64 z, .slice A n p, .slice B q r] 30)) = v at P ⊢
  generalize W.heap.size + 1 = gL at P ⊢
  with_reducible refine (outSx h w c 0 o s t m f z A n p xs B q r ys _ a b d true HO.out (Pkg.rd0 P) (Pkg.rd1 P) HN.out HQ.out).mono ?_
  rintro e u1 ⟨rfl, bb⟩
  replace P := Pkg.laid (Pkg.below P bb) 25 #[.int .i64 a, .int .i64 b, .int .i64 d]
  clear bb
  obtain ⟨a0, a1, a2⟩ := (Pkg.blk2 P).cell3
  go_wp2_with fail
  clear a0 a1 a2
  generalize u1.alloc (.cells #[.int .i64 a, .int .i64 b, .int .i64 d] 25) = u2 at P ⊢
  generalize u1.heap.size = gO at P ⊢
  with_reducible refine (sizeOfS h w c _).mono ?_
  rintro e u3 ⟨rfl, bb⟩
  replace P := Pkg.below P bb
  clear bb
  obtain ⟨c0, c1, c2, c3, c4, c5, c6, c7, c8⟩ := (Pkg.blk1 P).cell9
  go_wp2_with fail
  clear c0 c1 c2 c3 c4 c5 c6 c7 c8
  have x0 := cell_regrown ((Pkg.blk0 P).cell 0 rfl)
  have x1 := cell_regrown ((Pkg.blk0 P).cell 1 rfl)
  have x2 := cell_regrown ((Pkg.blk0 P).cell 2 rfl)
  have y0 := cell_regrown ((Pkg.blk1 P).cell 0 rfl)
  have y1 := cell_regrown ((Pkg.blk1 P).cell 1 rfl)
  have y2 := cell_regrown ((Pkg.blk1 P).cell 2 rfl)
  have y3 := cell_regrown ((Pkg.blk1 P).cell 3 rfl)
  have y4 := cell_regrown ((Pkg.blk1 P).cell 4 rfl)
  have y5 := cell_regrown ((Pkg.blk1 P).cell 5 rfl)
  have y6 := cell_regrown ((Pkg.blk1 P).cell 6 rfl)
  have y7 := cell_regrown ((Pkg.blk1 P).cell 7 rfl)
  have y8 := cell_regrown ((Pkg.blk1 P).cell 8 rfl)
  have z0 := cell_regrown ((Pkg.blk2 P).cell 0 rfl)
  have z1 := cell_regrown ((Pkg.blk2 P).cell 1 rfl)
  have z2 := cell_regrown ((Pkg.blk2 P).cell 2 rfl)
  have q0 := Lib.hid (fun dd os => Calls.regrown_of (sizeOfS a b d (grow (redrawn u3 dd) os)))
  have q1 := Lib.hid (fun dd os => Calls.regrown_of (sizeOfS h w c (grow (redrawn u3 dd) os)))
  refine wp_region_quiet_below mixed (by kernel_rfl) ?_
  repeat (go_big_quiet_step (first | with_reducible exact q0.out _ _ | with_reducible exact q1.out _ _))
  refine wpQuiet_nil ?_
  intro _ hw'
  obtain ⟨⟨dq, osq⟩, rfl⟩ := hw'
  replace P := Pkg.below P (below_regrown u3 dq osq)
  clear x0 x1 x2 y0 y1 y2 y3 y4 y5 y6 y7 y8 z0 z1 z2 q0 q1
  generalize grow (redrawn u3 dq) osq = u9 at P ⊢
  go_wp2
  go_ret
  exact ⟨rfl, Pkg.bl P⟩

set_option maxRecDepth 100000 in
set_option maxHeartbeats 1000000 in
theorem costS_1 (h w c o s t m f z : Int) (A : Option Addr) (n p : Nat) (xs : List Int) (B : Option Addr) (q r : Nat) (ys : List Int) (W : World) (hr : RdI W A n xs) (hr2 : RdI W B q ys) (hn : n ≤ 1048576) (hq : q ≤ 1048576) (a b d : Int) (hO : outL h w c 1 o s t m f z xs ys = some (a, b, d)) :
    Calls Try.prog 18 #[.agg #[.int .i64 h, .int .i64 w, .int .i64 c], .agg #[.int .i64 1, .int .i64 o, .int .i64 s, .int .i64 t, .int .i64 m, .int .i64 f, .int .i64 z, .slice A n p, .slice B q r]] W fun e W' => e = .returned (.int .i64 (1 + (prodL 1 h w c s a b d) / 16)) ∧ Below W.heap.size W W' := by
  have HN := Lib.hid hn
  have HQ := Lib.hid hq
  have HO : Hid (outV (outL h w c 1 o s t m f z xs ys) = .tuple #[.agg #[.int .i64 a, .int .i64 b, .int .i64 d], .bool true]) := Lib.hid (by rw [hO]; rfl)
  have P := Pkg.laid (Pkg.laid (Pkg.start W [(A, n, xs), (B, q, ys)] (by intro r' hr'; rcases List.mem_cons.1 hr' with rfl | hr'; exact hr; rcases List.mem_cons.1 hr' with rfl | hr'; exact hr2; cases hr')) 25 #[.int .i64 h, .int .i64 w, .int .i64 c]) 30 #[.int .i64 1, .int .i64 o, .int .i64 s, .int .i64 t, .int .i64 m, .int .i64 f, .int .i64 z, .slice A n p, .slice B q r]
  rw [World.size_alloc] at P
  have hsh := shOk_iff.1 (outL_sh hO)
  have hwin := outL_win (by omega) hO
  obtain ⟨v1, v2⟩ := prodL_bd (k := 1) (h := h) (w := w) (c := c) (s := s) (a := a) (b := b) (d := d) ⟨hsh.2.2.2.2.1, hsh.2.2.2.2.2⟩ (fun hk => ⟨by have := hwin.1; omega, hwin.2.1⟩)
  have y1 := szOf_bd h w c
  have y2 := szOf_bd a b d
  obtain ⟨m1, m2⟩ := mulBd y2.1 y2.2 (by have := hwin.1; omega : 0 ≤ s) hwin.2.1
  obtain ⟨m3, m4⟩ := mulBd m1 m2 (by have := hwin.1; omega : 0 ≤ s) hwin.2.1
  obtain ⟨m5, m6⟩ := mulBd m3 m4 (by omega : 0 ≤ c) hsh.2.2.2.2.2
  have hw0 : IntKind.i64.wrap (szOf a b d * s) = szOf a b d * s := by rw [IntKind.wrap_i64]; omega
  have hw1 : IntKind.i64.wrap (szOf a b d * s * s) = szOf a b d * s * s := by rw [IntKind.wrap_i64]; omega
  have hw2' : IntKind.i64.wrap (szOf a b d * s * s * c) = szOf a b d * s * s * c := by rw [IntKind.wrap_i64]; omega
  rw [show prodL 1 h w c s a b d = szOf a b d * s * s * c by simp only [prodL, Int.reduceEq, if_true, if_false]; rw [Int.mul_assoc (szOf a b d) s s]] at v1 v2 ⊢
  obtain ⟨V, hV⟩ : ∃ V, szOf a b d * s * s * c = V := ⟨_, rfl⟩
  rw [hV] at v1 v2 ⊢
  have hw2 : IntKind.i64.wrap (szOf a b d * s * s * c) = V := by rw [hw2', hV]
  clear m1 m2 m3 m4 m5 m6 hwin hw2'
  clear hsh hn hq hr hr2 hO y1 y2
  have HVV := Lib.hid hV
  clear hV
  go_enter Try.func18, Try.ntmps18
  go_wp2_with fail
  generalize ((W.alloc (.cells #[.int .i64 h, .int .i64 w, .int .i64 c] 25)).alloc (.cells #[.int .i64 1, .int .i64 o, .int .i64 s, .int .i64 t, .int .i64 m, .int .i64 f, .int .i64 z, .slice A n p, .slice B q r] 30)) = v at P ⊢
  generalize W.heap.size + 1 = gL at P ⊢
  with_reducible refine (outSx h w c 1 o s t m f z A n p xs B q r ys _ a b d true HO.out (Pkg.rd0 P) (Pkg.rd1 P) HN.out HQ.out).mono ?_
  rintro e u1 ⟨rfl, bb⟩
  replace P := Pkg.laid (Pkg.below P bb) 25 #[.int .i64 a, .int .i64 b, .int .i64 d]
  clear bb
  obtain ⟨a0, a1, a2⟩ := (Pkg.blk2 P).cell3
  go_wp2_with fail
  clear a0 a1 a2
  generalize u1.alloc (.cells #[.int .i64 a, .int .i64 b, .int .i64 d] 25) = u2 at P ⊢
  generalize u1.heap.size = gO at P ⊢
  with_reducible refine (sizeOfS h w c _).mono ?_
  rintro e u3 ⟨rfl, bb⟩
  replace P := Pkg.below P bb
  clear bb
  obtain ⟨c0, c1, c2, c3, c4, c5, c6, c7, c8⟩ := (Pkg.blk1 P).cell9
  go_wp2_with fail
  clear c0 c1 c2 c3 c4 c5 c6 c7 c8
  have x0 := cell_regrown ((Pkg.blk0 P).cell 0 rfl)
  have x1 := cell_regrown ((Pkg.blk0 P).cell 1 rfl)
  have x2 := cell_regrown ((Pkg.blk0 P).cell 2 rfl)
  have y0 := cell_regrown ((Pkg.blk1 P).cell 0 rfl)
  have y1 := cell_regrown ((Pkg.blk1 P).cell 1 rfl)
  have y2 := cell_regrown ((Pkg.blk1 P).cell 2 rfl)
  have y3 := cell_regrown ((Pkg.blk1 P).cell 3 rfl)
  have y4 := cell_regrown ((Pkg.blk1 P).cell 4 rfl)
  have y5 := cell_regrown ((Pkg.blk1 P).cell 5 rfl)
  have y6 := cell_regrown ((Pkg.blk1 P).cell 6 rfl)
  have y7 := cell_regrown ((Pkg.blk1 P).cell 7 rfl)
  have y8 := cell_regrown ((Pkg.blk1 P).cell 8 rfl)
  have z0 := cell_regrown ((Pkg.blk2 P).cell 0 rfl)
  have z1 := cell_regrown ((Pkg.blk2 P).cell 1 rfl)
  have z2 := cell_regrown ((Pkg.blk2 P).cell 2 rfl)
  have q0 := Lib.hid (fun dd os => Calls.regrown_of (sizeOfS a b d (grow (redrawn u3 dd) os)))
  refine wp_region_quiet_below mixed (by kernel_rfl) ?_
  repeat (go_big_quiet_step (first | with_reducible exact q0.out _ _))
  refine wpQuiet_nil ?_
  intro _ hw'
  obtain ⟨⟨dq, osq⟩, rfl⟩ := hw'
  replace P := Pkg.below P (below_regrown u3 dq osq)
  clear x0 x1 x2 y0 y1 y2 y3 y4 y5 y6 y7 y8 z0 z1 z2 q0
  generalize grow (redrawn u3 dq) osq = u9 at P ⊢
  go_wp2
  go_ret
  exact ⟨rfl, Pkg.bl P⟩

set_option maxRecDepth 100000 in
set_option maxHeartbeats 1000000 in
theorem costS_2 (h w c o s t m f z : Int) (A : Option Addr) (n p : Nat) (xs : List Int) (B : Option Addr) (q r : Nat) (ys : List Int) (W : World) (hr : RdI W A n xs) (hr2 : RdI W B q ys) (hn : n ≤ 1048576) (hq : q ≤ 1048576) (a b d : Int) (hO : outL h w c 2 o s t m f z xs ys = some (a, b, d)) :
    Calls Try.prog 18 #[.agg #[.int .i64 h, .int .i64 w, .int .i64 c], .agg #[.int .i64 2, .int .i64 o, .int .i64 s, .int .i64 t, .int .i64 m, .int .i64 f, .int .i64 z, .slice A n p, .slice B q r]] W fun e W' => e = .returned (.int .i64 (1 + (prodL 2 h w c s a b d) / 16)) ∧ Below W.heap.size W W' := by
  have HN := Lib.hid hn
  have HQ := Lib.hid hq
  have HO : Hid (outV (outL h w c 2 o s t m f z xs ys) = .tuple #[.agg #[.int .i64 a, .int .i64 b, .int .i64 d], .bool true]) := Lib.hid (by rw [hO]; rfl)
  have P := Pkg.laid (Pkg.laid (Pkg.start W [(A, n, xs), (B, q, ys)] (by intro r' hr'; rcases List.mem_cons.1 hr' with rfl | hr'; exact hr; rcases List.mem_cons.1 hr' with rfl | hr'; exact hr2; cases hr')) 25 #[.int .i64 h, .int .i64 w, .int .i64 c]) 30 #[.int .i64 2, .int .i64 o, .int .i64 s, .int .i64 t, .int .i64 m, .int .i64 f, .int .i64 z, .slice A n p, .slice B q r]
  rw [World.size_alloc] at P
  have hsh := shOk_iff.1 (outL_sh hO)
  have hwin := outL_win (by omega) hO
  obtain ⟨v1, v2⟩ := prodL_bd (k := 2) (h := h) (w := w) (c := c) (s := s) (a := a) (b := b) (d := d) ⟨hsh.2.2.2.2.1, hsh.2.2.2.2.2⟩ (fun hk => ⟨by have := hwin.1; omega, hwin.2.1⟩)
  have y1 := szOf_bd h w c
  have y2 := szOf_bd a b d
  obtain ⟨m1, m2⟩ := mulBd y2.1 y2.2 (by have := hwin.1; omega : 0 ≤ s) hwin.2.1
  obtain ⟨m3, m4⟩ := mulBd m1 m2 (by have := hwin.1; omega : 0 ≤ s) hwin.2.1
  have hw0 : IntKind.i64.wrap (szOf a b d * s) = szOf a b d * s := by rw [IntKind.wrap_i64]; omega
  have hw1' : IntKind.i64.wrap (szOf a b d * s * s) = szOf a b d * s * s := by rw [IntKind.wrap_i64]; omega
  rw [show prodL 2 h w c s a b d = szOf a b d * s * s by simp only [prodL, Int.reduceEq, if_true, if_false, or_true, true_or, false_or, or_false]; rw [Int.mul_assoc]] at v1 v2 ⊢
  obtain ⟨V, hV⟩ : ∃ V, szOf a b d * s * s = V := ⟨_, rfl⟩
  rw [hV] at v1 v2 ⊢
  have hw1 : IntKind.i64.wrap (szOf a b d * s * s) = V := by rw [hw1', hV]
  clear m1 m2 m3 m4 hwin hw1'
  clear hsh hn hq hr hr2 hO y1 y2
  have HVV := Lib.hid hV
  clear hV
  go_enter Try.func18, Try.ntmps18
  go_wp2_with fail
  generalize ((W.alloc (.cells #[.int .i64 h, .int .i64 w, .int .i64 c] 25)).alloc (.cells #[.int .i64 2, .int .i64 o, .int .i64 s, .int .i64 t, .int .i64 m, .int .i64 f, .int .i64 z, .slice A n p, .slice B q r] 30)) = v at P ⊢
  generalize W.heap.size + 1 = gL at P ⊢
  with_reducible refine (outSx h w c 2 o s t m f z A n p xs B q r ys _ a b d true HO.out (Pkg.rd0 P) (Pkg.rd1 P) HN.out HQ.out).mono ?_
  rintro e u1 ⟨rfl, bb⟩
  replace P := Pkg.laid (Pkg.below P bb) 25 #[.int .i64 a, .int .i64 b, .int .i64 d]
  clear bb
  obtain ⟨a0, a1, a2⟩ := (Pkg.blk2 P).cell3
  go_wp2_with fail
  clear a0 a1 a2
  generalize u1.alloc (.cells #[.int .i64 a, .int .i64 b, .int .i64 d] 25) = u2 at P ⊢
  generalize u1.heap.size = gO at P ⊢
  with_reducible refine (sizeOfS h w c _).mono ?_
  rintro e u3 ⟨rfl, bb⟩
  replace P := Pkg.below P bb
  clear bb
  obtain ⟨c0, c1, c2, c3, c4, c5, c6, c7, c8⟩ := (Pkg.blk1 P).cell9
  go_wp2_with fail
  clear c0 c1 c2 c3 c4 c5 c6 c7 c8
  have x0 := cell_regrown ((Pkg.blk0 P).cell 0 rfl)
  have x1 := cell_regrown ((Pkg.blk0 P).cell 1 rfl)
  have x2 := cell_regrown ((Pkg.blk0 P).cell 2 rfl)
  have y0 := cell_regrown ((Pkg.blk1 P).cell 0 rfl)
  have y1 := cell_regrown ((Pkg.blk1 P).cell 1 rfl)
  have y2 := cell_regrown ((Pkg.blk1 P).cell 2 rfl)
  have y3 := cell_regrown ((Pkg.blk1 P).cell 3 rfl)
  have y4 := cell_regrown ((Pkg.blk1 P).cell 4 rfl)
  have y5 := cell_regrown ((Pkg.blk1 P).cell 5 rfl)
  have y6 := cell_regrown ((Pkg.blk1 P).cell 6 rfl)
  have y7 := cell_regrown ((Pkg.blk1 P).cell 7 rfl)
  have y8 := cell_regrown ((Pkg.blk1 P).cell 8 rfl)
  have z0 := cell_regrown ((Pkg.blk2 P).cell 0 rfl)
  have z1 := cell_regrown ((Pkg.blk2 P).cell 1 rfl)
  have z2 := cell_regrown ((Pkg.blk2 P).cell 2 rfl)
  have q0 := Lib.hid (fun dd os => Calls.regrown_of (sizeOfS a b d (grow (redrawn u3 dd) os)))
  refine wp_region_quiet_below mixed (by kernel_rfl) ?_
  repeat (go_big_quiet_step (first | with_reducible exact q0.out _ _))
  refine wpQuiet_nil ?_
  intro _ hw'
  obtain ⟨⟨dq, osq⟩, rfl⟩ := hw'
  replace P := Pkg.below P (below_regrown u3 dq osq)
  clear x0 x1 x2 y0 y1 y2 y3 y4 y5 y6 y7 y8 z0 z1 z2 q0
  generalize grow (redrawn u3 dq) osq = u9 at P ⊢
  go_wp2
  go_ret
  exact ⟨rfl, Pkg.bl P⟩

set_option maxRecDepth 100000 in
set_option maxHeartbeats 1000000 in
theorem costS_3 (h w c o s t m f z : Int) (A : Option Addr) (n p : Nat) (xs : List Int) (B : Option Addr) (q r : Nat) (ys : List Int) (W : World) (hr : RdI W A n xs) (hr2 : RdI W B q ys) (hn : n ≤ 1048576) (hq : q ≤ 1048576) (a b d : Int) (hO : outL h w c 3 o s t m f z xs ys = some (a, b, d)) :
    Calls Try.prog 18 #[.agg #[.int .i64 h, .int .i64 w, .int .i64 c], .agg #[.int .i64 3, .int .i64 o, .int .i64 s, .int .i64 t, .int .i64 m, .int .i64 f, .int .i64 z, .slice A n p, .slice B q r]] W fun e W' => e = .returned (.int .i64 (1 + (prodL 3 h w c s a b d) / 16)) ∧ Below W.heap.size W W' := by
  have HN := Lib.hid hn
  have HQ := Lib.hid hq
  have HO : Hid (outV (outL h w c 3 o s t m f z xs ys) = .tuple #[.agg #[.int .i64 a, .int .i64 b, .int .i64 d], .bool true]) := Lib.hid (by rw [hO]; rfl)
  have P := Pkg.laid (Pkg.laid (Pkg.start W [(A, n, xs), (B, q, ys)] (by intro r' hr'; rcases List.mem_cons.1 hr' with rfl | hr'; exact hr; rcases List.mem_cons.1 hr' with rfl | hr'; exact hr2; cases hr')) 25 #[.int .i64 h, .int .i64 w, .int .i64 c]) 30 #[.int .i64 3, .int .i64 o, .int .i64 s, .int .i64 t, .int .i64 m, .int .i64 f, .int .i64 z, .slice A n p, .slice B q r]
  rw [World.size_alloc] at P
  have hsh := shOk_iff.1 (outL_sh hO)
  have hwin := outL_win (by omega) hO
  obtain ⟨v1, v2⟩ := prodL_bd (k := 3) (h := h) (w := w) (c := c) (s := s) (a := a) (b := b) (d := d) ⟨hsh.2.2.2.2.1, hsh.2.2.2.2.2⟩ (fun hk => ⟨by have := hwin.1; omega, hwin.2.1⟩)
  have y1 := szOf_bd h w c
  have y2 := szOf_bd a b d
  obtain ⟨m1, m2⟩ := mulBd y2.1 y2.2 (by have := hwin.1; omega : 0 ≤ s) hwin.2.1
  obtain ⟨m3, m4⟩ := mulBd m1 m2 (by have := hwin.1; omega : 0 ≤ s) hwin.2.1
  have hw0 : IntKind.i64.wrap (szOf a b d * s) = szOf a b d * s := by rw [IntKind.wrap_i64]; omega
  have hw1' : IntKind.i64.wrap (szOf a b d * s * s) = szOf a b d * s * s := by rw [IntKind.wrap_i64]; omega
  rw [show prodL 3 h w c s a b d = szOf a b d * s * s by simp only [prodL, Int.reduceEq, if_true, if_false, or_true, true_or, false_or, or_false]; rw [Int.mul_assoc]] at v1 v2 ⊢
  obtain ⟨V, hV⟩ : ∃ V, szOf a b d * s * s = V := ⟨_, rfl⟩
  rw [hV] at v1 v2 ⊢
  have hw1 : IntKind.i64.wrap (szOf a b d * s * s) = V := by rw [hw1', hV]
  clear m1 m2 m3 m4 hwin hw1'
  clear hsh hn hq hr hr2 hO y1 y2
  have HVV := Lib.hid hV
  clear hV
  go_enter Try.func18, Try.ntmps18
  go_wp2_with fail
  generalize ((W.alloc (.cells #[.int .i64 h, .int .i64 w, .int .i64 c] 25)).alloc (.cells #[.int .i64 3, .int .i64 o, .int .i64 s, .int .i64 t, .int .i64 m, .int .i64 f, .int .i64 z, .slice A n p, .slice B q r] 30)) = v at P ⊢
  generalize W.heap.size + 1 = gL at P ⊢
  with_reducible refine (outSx h w c 3 o s t m f z A n p xs B q r ys _ a b d true HO.out (Pkg.rd0 P) (Pkg.rd1 P) HN.out HQ.out).mono ?_
  rintro e u1 ⟨rfl, bb⟩
  replace P := Pkg.laid (Pkg.below P bb) 25 #[.int .i64 a, .int .i64 b, .int .i64 d]
  clear bb
  obtain ⟨a0, a1, a2⟩ := (Pkg.blk2 P).cell3
  go_wp2_with fail
  clear a0 a1 a2
  generalize u1.alloc (.cells #[.int .i64 a, .int .i64 b, .int .i64 d] 25) = u2 at P ⊢
  generalize u1.heap.size = gO at P ⊢
  with_reducible refine (sizeOfS h w c _).mono ?_
  rintro e u3 ⟨rfl, bb⟩
  replace P := Pkg.below P bb
  clear bb
  obtain ⟨c0, c1, c2, c3, c4, c5, c6, c7, c8⟩ := (Pkg.blk1 P).cell9
  go_wp2_with fail
  clear c0 c1 c2 c3 c4 c5 c6 c7 c8
  have x0 := cell_regrown ((Pkg.blk0 P).cell 0 rfl)
  have x1 := cell_regrown ((Pkg.blk0 P).cell 1 rfl)
  have x2 := cell_regrown ((Pkg.blk0 P).cell 2 rfl)
  have y0 := cell_regrown ((Pkg.blk1 P).cell 0 rfl)
  have y1 := cell_regrown ((Pkg.blk1 P).cell 1 rfl)
  have y2 := cell_regrown ((Pkg.blk1 P).cell 2 rfl)
  have y3 := cell_regrown ((Pkg.blk1 P).cell 3 rfl)
  have y4 := cell_regrown ((Pkg.blk1 P).cell 4 rfl)
  have y5 := cell_regrown ((Pkg.blk1 P).cell 5 rfl)
  have y6 := cell_regrown ((Pkg.blk1 P).cell 6 rfl)
  have y7 := cell_regrown ((Pkg.blk1 P).cell 7 rfl)
  have y8 := cell_regrown ((Pkg.blk1 P).cell 8 rfl)
  have z0 := cell_regrown ((Pkg.blk2 P).cell 0 rfl)
  have z1 := cell_regrown ((Pkg.blk2 P).cell 1 rfl)
  have z2 := cell_regrown ((Pkg.blk2 P).cell 2 rfl)
  have q0 := Lib.hid (fun dd os => Calls.regrown_of (sizeOfS a b d (grow (redrawn u3 dd) os)))
  refine wp_region_quiet_below mixed (by kernel_rfl) ?_
  repeat (go_big_quiet_step (first | with_reducible exact q0.out _ _))
  refine wpQuiet_nil ?_
  intro _ hw'
  obtain ⟨⟨dq, osq⟩, rfl⟩ := hw'
  replace P := Pkg.below P (below_regrown u3 dq osq)
  clear x0 x1 x2 y0 y1 y2 y3 y4 y5 y6 y7 y8 z0 z1 z2 q0
  generalize grow (redrawn u3 dq) osq = u9 at P ⊢
  go_wp2
  go_ret
  exact ⟨rfl, Pkg.bl P⟩

set_option maxRecDepth 100000 in
set_option maxHeartbeats 1000000 in
theorem costS_4 (h w c o s t m f z : Int) (A : Option Addr) (n p : Nat) (xs : List Int) (B : Option Addr) (q r : Nat) (ys : List Int) (W : World) (hr : RdI W A n xs) (hr2 : RdI W B q ys) (hn : n ≤ 1048576) (hq : q ≤ 1048576) (a b d : Int) (hO : outL h w c 4 o s t m f z xs ys = some (a, b, d)) :
    Calls Try.prog 18 #[.agg #[.int .i64 h, .int .i64 w, .int .i64 c], .agg #[.int .i64 4, .int .i64 o, .int .i64 s, .int .i64 t, .int .i64 m, .int .i64 f, .int .i64 z, .slice A n p, .slice B q r]] W fun e W' => e = .returned (.int .i64 (1 + (prodL 4 h w c s a b d) / 16)) ∧ Below W.heap.size W W' := by
  have HN := Lib.hid hn
  have HQ := Lib.hid hq
  have HO : Hid (outV (outL h w c 4 o s t m f z xs ys) = .tuple #[.agg #[.int .i64 a, .int .i64 b, .int .i64 d], .bool true]) := Lib.hid (by rw [hO]; rfl)
  have P := Pkg.laid (Pkg.laid (Pkg.start W [(A, n, xs), (B, q, ys)] (by intro r' hr'; rcases List.mem_cons.1 hr' with rfl | hr'; exact hr; rcases List.mem_cons.1 hr' with rfl | hr'; exact hr2; cases hr')) 25 #[.int .i64 h, .int .i64 w, .int .i64 c]) 30 #[.int .i64 4, .int .i64 o, .int .i64 s, .int .i64 t, .int .i64 m, .int .i64 f, .int .i64 z, .slice A n p, .slice B q r]
  rw [World.size_alloc] at P
  have hsh := shOk_iff.1 (outL_sh hO)
  obtain ⟨v1, v2⟩ := prodL_bd (k := 4) (h := h) (w := w) (c := c) (s := s) (a := a) (b := b) (d := d) ⟨hsh.2.2.2.2.1, hsh.2.2.2.2.2⟩ (fun hk => absurd hk (by omega))
  have y1 := szOf_bd h w c
  have y2 := szOf_bd a b d
  rw [show prodL 4 h w c s a b d = szOf h w c by simp [prodL]] at v1 v2 ⊢
  obtain ⟨V, hV⟩ : ∃ V, szOf h w c = V := ⟨_, rfl⟩
  rw [hV] at v1 v2 ⊢
  clear hsh hn hq hr hr2 hO y1 y2
  have HVV := Lib.hid hV
  clear hV
  go_enter Try.func18, Try.ntmps18
  go_wp2_with fail
  generalize ((W.alloc (.cells #[.int .i64 h, .int .i64 w, .int .i64 c] 25)).alloc (.cells #[.int .i64 4, .int .i64 o, .int .i64 s, .int .i64 t, .int .i64 m, .int .i64 f, .int .i64 z, .slice A n p, .slice B q r] 30)) = v at P ⊢
  generalize W.heap.size + 1 = gL at P ⊢
  with_reducible refine (outSx h w c 4 o s t m f z A n p xs B q r ys _ a b d true HO.out (Pkg.rd0 P) (Pkg.rd1 P) HN.out HQ.out).mono ?_
  rintro e u1 ⟨rfl, bb⟩
  replace P := Pkg.laid (Pkg.below P bb) 25 #[.int .i64 a, .int .i64 b, .int .i64 d]
  clear bb
  obtain ⟨a0, a1, a2⟩ := (Pkg.blk2 P).cell3
  go_wp2_with fail
  clear a0 a1 a2
  generalize u1.alloc (.cells #[.int .i64 a, .int .i64 b, .int .i64 d] 25) = u2 at P ⊢
  generalize u1.heap.size = gO at P ⊢
  with_reducible refine (sizeOfS h w c _).mono ?_
  rintro e u3 ⟨rfl, bb⟩
  replace P := Pkg.below P bb
  clear bb
  obtain ⟨c0, c1, c2, c3, c4, c5, c6, c7, c8⟩ := (Pkg.blk1 P).cell9
  rw [HVV.out]
  go_wp2
  go_ret
  exact ⟨rfl, Pkg.bl P⟩

set_option maxRecDepth 100000 in
set_option maxHeartbeats 1000000 in
theorem costS_5 (h w c o s t m f z : Int) (A : Option Addr) (n p : Nat) (xs : List Int) (B : Option Addr) (q r : Nat) (ys : List Int) (W : World) (hr : RdI W A n xs) (hr2 : RdI W B q ys) (hn : n ≤ 1048576) (hq : q ≤ 1048576) (a b d : Int) (hO : outL h w c 5 o s t m f z xs ys = some (a, b, d)) :
    Calls Try.prog 18 #[.agg #[.int .i64 h, .int .i64 w, .int .i64 c], .agg #[.int .i64 5, .int .i64 o, .int .i64 s, .int .i64 t, .int .i64 m, .int .i64 f, .int .i64 z, .slice A n p, .slice B q r]] W fun e W' => e = .returned (.int .i64 (1 + (prodL 5 h w c s a b d) / 16)) ∧ Below W.heap.size W W' := by
  have HN := Lib.hid hn
  have HQ := Lib.hid hq
  have HO : Hid (outV (outL h w c 5 o s t m f z xs ys) = .tuple #[.agg #[.int .i64 a, .int .i64 b, .int .i64 d], .bool true]) := Lib.hid (by rw [hO]; rfl)
  have P := Pkg.laid (Pkg.laid (Pkg.start W [(A, n, xs), (B, q, ys)] (by intro r' hr'; rcases List.mem_cons.1 hr' with rfl | hr'; exact hr; rcases List.mem_cons.1 hr' with rfl | hr'; exact hr2; cases hr')) 25 #[.int .i64 h, .int .i64 w, .int .i64 c]) 30 #[.int .i64 5, .int .i64 o, .int .i64 s, .int .i64 t, .int .i64 m, .int .i64 f, .int .i64 z, .slice A n p, .slice B q r]
  rw [World.size_alloc] at P
  have hsh := shOk_iff.1 (outL_sh hO)
  obtain ⟨v1, v2⟩ := prodL_bd (k := 5) (h := h) (w := w) (c := c) (s := s) (a := a) (b := b) (d := d) ⟨hsh.2.2.2.2.1, hsh.2.2.2.2.2⟩ (fun hk => absurd hk (by omega))
  have y1 := szOf_bd h w c
  have y2 := szOf_bd a b d
  rw [show prodL 5 h w c s a b d = szOf h w c by simp [prodL]] at v1 v2 ⊢
  obtain ⟨V, hV⟩ : ∃ V, szOf h w c = V := ⟨_, rfl⟩
  rw [hV] at v1 v2 ⊢
  clear hsh hn hq hr hr2 hO y1 y2
  have HVV := Lib.hid hV
  clear hV
  go_enter Try.func18, Try.ntmps18
  go_wp2_with fail
  generalize ((W.alloc (.cells #[.int .i64 h, .int .i64 w, .int .i64 c] 25)).alloc (.cells #[.int .i64 5, .int .i64 o, .int .i64 s, .int .i64 t, .int .i64 m, .int .i64 f, .int .i64 z, .slice A n p, .slice B q r] 30)) = v at P ⊢
  generalize W.heap.size + 1 = gL at P ⊢
  with_reducible refine (outSx h w c 5 o s t m f z A n p xs B q r ys _ a b d true HO.out (Pkg.rd0 P) (Pkg.rd1 P) HN.out HQ.out).mono ?_
  rintro e u1 ⟨rfl, bb⟩
  replace P := Pkg.laid (Pkg.below P bb) 25 #[.int .i64 a, .int .i64 b, .int .i64 d]
  clear bb
  obtain ⟨a0, a1, a2⟩ := (Pkg.blk2 P).cell3
  go_wp2_with fail
  clear a0 a1 a2
  generalize u1.alloc (.cells #[.int .i64 a, .int .i64 b, .int .i64 d] 25) = u2 at P ⊢
  generalize u1.heap.size = gO at P ⊢
  with_reducible refine (sizeOfS h w c _).mono ?_
  rintro e u3 ⟨rfl, bb⟩
  replace P := Pkg.below P bb
  clear bb
  obtain ⟨c0, c1, c2, c3, c4, c5, c6, c7, c8⟩ := (Pkg.blk1 P).cell9
  rw [HVV.out]
  go_wp2
  go_ret
  exact ⟨rfl, Pkg.bl P⟩
end Qt
end Go.Proofs.Ytnceiclgfogmiaa
