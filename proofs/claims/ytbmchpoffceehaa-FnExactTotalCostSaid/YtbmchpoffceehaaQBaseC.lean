/- Plain facts about the fields of a layer: what is within its bounds, and the shape behind it. No conditions but those that are named. -/
import Derived.Test.YtbmchpoffceehaaQBaseA
namespace Go.Proofs.Ytbmchpoffceehaa
open Go.RowKit
namespace Qt
def inB (lo hi x : Int) : Bool := decide (lo ≤ x) && decide (x ≤ hi)
def allIn (lo hi : Int) (xs : List Int) : Bool := xs.all (inB lo hi)
theorem inB_yes {lo hi x : Int} (h : inB lo hi x = true) : lo ≤ x ∧ x ≤ hi := by simpa [inB] using h
theorem inB_iff {lo hi x : Int} : inB lo hi x = true ↔ (lo ≤ x ∧ x ≤ hi) := by simp [inB]
theorem inB_no {lo hi x : Int} (h : inB lo hi x = false) : ¬ (lo ≤ x ∧ x ≤ hi) := by
  intro h2; have := inB_iff.2 h2; rw [h] at this; cases this
theorem allIn_no {lo hi : Int} {xs : List Int} {k : Nat} (hk : k < xs.length) (h : inB lo hi (xs[k]?.getD 0) = false) : allIn lo hi xs = false := by
  rw [List.getElem?_eq_getElem hk, Option.getD_some] at h
  unfold allIn
  rw [List.all_eq_false]
  exact ⟨xs[k], List.getElem_mem hk, by simp [h]⟩
theorem allIn_yes {lo hi : Int} {xs : List Int} (h : ∀ j, j < xs.length → inB lo hi (xs[j]?.getD 0) = true) : allIn lo hi xs = true := by
  unfold allIn
  rw [List.all_eq_true]
  intro x hx
  obtain ⟨j, hj, rfl⟩ := List.mem_iff_getElem.1 hx
  have := h j hj
  rwa [List.getElem?_eq_getElem hj, Option.getD_some] at this
theorem allIn_at {lo hi : Int} {xs : List Int} (h : allIn lo hi xs = true) {j : Nat} (hj : j < xs.length) : lo ≤ xs[j]?.getD 0 ∧ xs[j]?.getD 0 ≤ hi := by
  unfold allIn at h
  rw [List.all_eq_true] at h
  rw [List.getElem?_eq_getElem hj, Option.getD_some]
  exact inB_yes (h _ (List.getElem_mem hj))
theorem allIn_one (lo hi x : Int) : allIn lo hi [x] = inB lo hi x := by simp [allIn]

def winB (s t : Int) : Bool := inB 1 3 s && inB 1 2 t
def emptyW (s t : Int) : Bool := decide (s = 0) && decide (t = 0)
def weighB (o m f z : Int) (xs ys : List Int) : Bool :=
  inB 1 8 o && (inB 0 2147483647 m && (inB 0 31 f && (inB (-128) 127 z && (decide ((ys.length : Int) = o) && (allIn (-1000000) 1000000 ys && allIn (-128) 127 xs)))))
def emptyF (o m f : Int) (xs ys : List Int) : Bool :=
  decide (o = 0) && (decide (m = 0) && (decide (f = 0) && (decide (xs.length = 0) && decide (ys.length = 0))))
def zeroB (k z : Int) : Bool := if k = 4 then inB (-128) 127 z else decide (z = 0)
def plainB (k o s t m f z : Int) (xs ys : List Int) (win weighs : Bool) : Bool :=
  (if win then winB s t else emptyW s t) && (if weighs then weighB o m f z xs ys else (emptyF o m f xs ys && zeroB k z))
/-- What filter.right of the program asks, with so many weights for each item. -/
def rightB (o m f z : Int) (xs ys : List Int) (each : Int) : Bool :=
  inB 1 8 o && (inB 0 2147483647 m && (inB 0 31 f && (inB (-128) 127 z && (decide ((xs.length : Int) = o * each) && (allIn (-128) 127 xs && (decide ((ys.length : Int) = o) && allIn (-1000000) 1000000 ys))))))
def fitsB (h w s t : Int) : Bool := inB 1 (min (min 3 h) w) s && inB 1 2 t
theorem rightB_eq (o m f z : Int) (xs ys : List Int) (each : Int) : rightB o m f z xs ys each = (weighB o m f z xs ys && decide ((xs.length : Int) = o * each)) := by
  unfold rightB weighB
  cases inB 1 8 o <;> cases inB 0 2147483647 m <;> cases inB 0 31 f <;> cases inB (-128) 127 z <;> cases allIn (-128) 127 xs <;> cases allIn (-1000000) 1000000 ys <;> cases decide ((xs.length : Int) = o * each) <;> cases decide ((ys.length : Int) = o) <;> rfl
theorem fitsB_eq (h w s t : Int) : fitsB h w s t = (winB s t && (decide (s ≤ h) && decide (s ≤ w))) := by
  rw [Bool.eq_iff_iff]
  simp only [fitsB, winB, Bool.and_eq_true, inB_iff, decide_eq_true_eq]
  omega

/-- The shape behind a layer, where there is one. -/
def outL (h w c k o s t m f z : Int) (xs ys : List Int) : Option (Int × Int × Int) :=
  if shOk h w c then
    if k = 0 then if emptyW s t && (decide (szOf h w c ≤ 64) && rightB o m f z xs ys (szOf h w c)) then some (1, 1, o) else none
    else if k = 1 then if fitsB h w s t && (rightB o m f z xs ys (s * s * c) && decide (xs.length ≤ 600)) then some ((h - s).tdiv t + 1, (w - s).tdiv t + 1, o) else none
    else if k = 2 ∨ k = 3 then if emptyF o m f xs ys && (decide (z = 0) && fitsB h w s t) then some ((h - s).tdiv t + 1, (w - s).tdiv t + 1, c) else none
    else if k = 4 then if emptyF o m f xs ys && (emptyW s t && inB (-128) 127 z) then some (h, w, c) else none
    else if k = 5 then if emptyF o m f xs ys && (emptyW s t && (decide (z = 0) && decide (szOf h w c ≤ 8))) then some (1, 1, szOf h w c) else none
    else none
  else none
def shV (r : Option (Int × Int × Int)) : Value := match r with
  | some (a, b, c) => .agg #[.int .i64 a, .int .i64 b, .int .i64 c]
  | none => .agg #[.int .i64 0, .int .i64 0, .int .i64 0]
def outV (r : Option (Int × Int × Int)) : Value := .tuple #[shV r, .bool r.isSome]

theorem tdiv_bd {a t : Int} (h0 : 0 ≤ a) (h1 : a ≤ 7) (h2 : 1 ≤ t) (h3 : t ≤ 2) : 0 ≤ a.tdiv t ∧ a.tdiv t ≤ 7 := by
  rw [Int.tdiv_eq_ediv_of_nonneg h0]
  obtain rfl | rfl : t = 1 ∨ t = 2 := by omega
  · omega
  · omega
theorem weigh_o {o m f z : Int} {xs ys : List Int} (h : weighB o m f z xs ys = true) : 1 ≤ o ∧ o ≤ 8 := by
  simp only [weighB, Bool.and_eq_true, inB_iff] at h; exact h.1
theorem mulBd {a b m n : Int} (h1 : 0 ≤ a) (h2 : a ≤ m) (h3 : 0 ≤ b) (h4 : b ≤ n) : 0 ≤ a * b ∧ a * b ≤ m * n :=
  ⟨Int.mul_nonneg h1 h3, Int.mul_le_mul h2 h4 h3 (by omega)⟩
theorem inS (lo hi x : Int) (W : World) : Calls Try.prog 51 #[.int .i64 x, .int .i64 lo, .int .i64 hi] W fun e W' => e = .returned (.bool (inB lo hi x)) ∧ W = W' := by
  rcases h : inB lo hi x with _ | _
  · exact inS_no x lo hi (inB_no h) W
  · exact inS_yes x lo hi (inB_yes h).1 (inB_yes h).2 W
theorem int8B (x : Int) (W : World) : Calls Try.prog 85 #[.int .i64 x] W fun e W' => e = .returned (.bool (inB (-128) 127 x)) ∧ W = W' :=
  int8S x _ (by rw [Bool.eq_iff_iff, inB_iff]; simp [fit8]) W
end Qt
end Go.Proofs.Ytbmchpoffceehaa

namespace Go.Proofs.Ytbmchpoffceehaa
open Go.RowKit Go.Sort
namespace Qt
theorem insideI (lo hi : Int) (A : Option Addr) (n p : Nat) (xs : List Int) (W : World) (hr : RdI W A n xs) (hn : n ≤ 1048576) :
    Calls Try.prog 76 #[.int .i64 lo, .int .i64 hi, .slice A n p] W fun e W' => e = .returned (.bool (allIn lo hi xs)) ∧ ∃ m, W' = W.drewN m := by
  have RA := Lib.hid hr
  have hn0 : (0 : Int) ≤ n := Int.natCast_nonneg n
  have hn1 : (n : Int) ≤ 1048576 := by omega
  obtain ⟨b, hb⟩ : ∃ b, allIn lo hi xs = b := ⟨_, rfl⟩
  rw [hb]
  have HB := Lib.hid hb
  clear hb hr hn
  go_enter Try.func76, Try.ntmps76
  go_wp2
  go_loopw [11] (fun x wr => ∃ kk : Nat, kk ≤ n ∧ x = .int .i64 kk ∧ (∃ m, wr = W.drewN m) ∧ Hid (∀ j, j < kk → inB lo hi (xs[j]?.getD 0) = true)) (fun x _ => n - (intOf x).toNat)
  case atStart => exact ⟨0, Nat.zero_le _, rfl, ⟨0, rfl⟩, Lib.hid (fun j hj => absurd hj (Nat.not_lt_zero _))⟩
  case round =>
    obtain ⟨kk, hk, rfl, ⟨m, rfl⟩, HR⟩ := hrel
    by_cases hlt : kk < n
    · obtain ⟨b', off, rfl, hbl, hcell⟩ := RA.out.2 (by omega)
      have hc1 := hcell kk hlt
      have hi1 : (kk : Int) < (n : Int) := by omega
      clear hcell hbl
      rcases hx : inB lo hi (xs[kk]?.getD 0) with _ | _
      · obtain rfl : b = false := by rw [← HB.out]; exact allIn_no (by have := RA.out.1; omega) hx
        have hx1 := inB_no hx
        clear hx
        by_cases hl : xs[kk]?.getD 0 < lo
        · go_wp2
          go_ret
          exact ⟨rfl, _, rfl⟩
        · have hl2 : hi < xs[kk]?.getD 0 := by omega
          go_wp2
          go_ret
          exact ⟨rfl, _, rfl⟩
      · have HX := Lib.hid hx
        obtain ⟨hx1, hx2⟩ := inB_yes hx
        clear hx
        go_wp2
        go_roundw
        case rel =>
          refine ⟨kk + 1, by omega, by go_num, ⟨_, rfl⟩, Lib.hid (fun j hj => ?_)⟩
          rcases (by omega : j < kk ∨ j = kk) with h1 | rfl
          · exact HR.out j h1
          · exact HX.out
        case measure => simp [intOf]; omega
    · obtain rfl : n = kk := by omega
      obtain rfl : b = true := by rw [← HB.out]; exact allIn_yes (fun j hj => HR.out j (by have := RA.out.1; omega))
      clear HR
      go_wp2
      go_ret
      exact ⟨rfl, _, rfl⟩
end Qt
end Go.Proofs.Ytbmchpoffceehaa

namespace Go.Proofs.Ytbmchpoffceehaa
open Go.RowKit Go.Sort
set_option linter.unusedSimpArgs false
namespace Qt
theorem RdI.one (w : World) (x : Int) (t : TypeId) : RdI (w.alloc (.cells #[.int .i64 x] t)) (some ⟨w.heap.size, 0, none⟩) 1 [x] := by
  refine ⟨rfl, fun _ => ⟨w.heap.size, 0, rfl, by simp, fun j hj => ?_⟩⟩
  obtain rfl : j = 0 := by omega
  exact (Bk.new w t #[.int .i64 x]).cell 0 rfl
theorem Bk.cell6 {w : World} {g : Nat} {t : TypeId} {x0 x1 x2 x3 x4 x5 : Value} (h : Bk w g t #[x0, x1, x2, x3, x4, x5]) : w.cell? ⟨g, 0, none⟩ = some x0 ∧ w.cell? ⟨g, 1, none⟩ = some x1 ∧ w.cell? ⟨g, 2, none⟩ = some x2 ∧ w.cell? ⟨g, 3, none⟩ = some x3 ∧ w.cell? ⟨g, 4, none⟩ = some x4 ∧ w.cell? ⟨g, 5, none⟩ = some x5 :=
  ⟨h.cell 0 rfl, h.cell 1 rfl, h.cell 2 rfl, h.cell 3 rfl, h.cell 4 rfl, h.cell 5 rfl⟩
theorem Bk.cell2 {w : World} {g : Nat} {t : TypeId} {x0 x1 : Value} (h : Bk w g t #[x0, x1]) : w.cell? ⟨g, 0, none⟩ = some x0 ∧ w.cell? ⟨g, 1, none⟩ = some x1 :=
  ⟨h.cell 0 rfl, h.cell 1 rfl⟩
theorem run_min3 {P : Program} (ts : Array TypeId) (t : TypeId) (x y z : Int) (w : World) : (Builtin.min_ ts t #[.int .i64 x, .int .i64 y, .int .i64 z]).run P w = .ok (.int .i64 (min (min x y) z)) w := by
  have h : min (min x y) z = if z < (if y < x then y else x) then z else (if y < x then y else x) := by repeat' split <;> omega
  rw [h]
  simp [Builtin.min_, Builtin.min2]
theorem insideB (lo hi : Int) (A : Option Addr) (n p : Nat) (xs : List Int) (W : World) (hr : RdI W A n xs) (hn : n ≤ 1048576) :
    Calls Try.prog 76 #[.int .i64 lo, .int .i64 hi, .slice A n p] W fun e W' => e = .returned (.bool (allIn lo hi xs)) ∧ Below W.heap.size W W' :=
  (insideI lo hi A n p xs W hr hn).mono fun _ _ ⟨h1, m, h2⟩ => ⟨h1, h2 ▸ below_drewN (Below.refl _ _) m⟩
set_option maxRecDepth 100000 in
set_option maxHeartbeats 1000000 in
theorem rightI (o m f z : Int) (A : Option Addr) (n p : Nat) (xs : List Int) (B : Option Addr) (q r : Nat) (ys : List Int) (each : Int) (W : World) (hr : RdI W A n xs) (hr2 : RdI W B q ys) (hn : n ≤ 1048576) (hq : q ≤ 1048576) (he0 : 0 ≤ each) (he1 : each ≤ 4096) :
    Calls Try.prog 141 #[.agg #[.int .i64 o, .int .i64 m, .int .i64 f, .int .i64 z, .slice A n p, .slice B q r], .int .i64 each] W fun e W' => e = .returned (.bool (rightB o m f z xs ys each)) ∧ Below W.heap.size W W' := by
  have HN := Lib.hid hn
  have HQ := Lib.hid hq
  have hn0 : (0 : Int) ≤ n := Int.natCast_nonneg n
  have hn1 : (n : Int) ≤ 1048576 := by omega
  have hq0 : (0 : Int) ≤ q := Int.natCast_nonneg q
  have hq1 : (q : Int) ≤ 1048576 := by omega
  have HE := Lib.hid (And.intro he0 he1)
  obtain ⟨R, hR⟩ : ∃ R, rightB o m f z xs ys each = R := ⟨_, rfl⟩
  rw [hR]
  have HR := Lib.hid hR
  have b0 := (Below.refl _ W).alloc (Nat.le_refl _) (.cells #[.int .i64 o, .int .i64 m, .int .i64 f, .int .i64 z, .slice A n p, .slice B q r] 160)
  have KF := Lib.hid (Bk.new W 160 #[.int .i64 o, .int .i64 m, .int .i64 f, .int .i64 z, .slice A n p, .slice B q r])
  have RA := Lib.hid (hr.of_below b0)
  have RB := Lib.hid (hr2.of_below b0)
  have Bl := Lib.hid b0
  clear hn hq hR b0 hr hr2 he0 he1
  go_enter Try.func141, Try.ntmps141
  go_wp2_with fail
  have hv : (W.alloc (.cells #[.int .i64 o, .int .i64 m, .int .i64 f, .int .i64 z, .slice A n p, .slice B q r] 160)).heap.size = W.heap.size + 1 := by simp
  generalize W.alloc (.cells #[.int .i64 o, .int .i64 m, .int .i64 f, .int .i64 z, .slice A n p, .slice B q r] 160) = v at KF RA RB Bl hv ⊢
  rw [← hv]
  clear hv
  have a1 := (Below.refl _ v).alloc (Nat.le_refl _) (.cells #[.int .i64 (o)] 3)
  replace KF := Lib.hid (KF.out.below a1)
  replace RA := Lib.hid (RA.out.of_below a1)
  replace RB := Lib.hid (RB.out.of_below a1)
  replace Bl := Lib.hid (Bl.out.trans (a1.mono Bl.out.size))
  have RX := Lib.hid (RdI.one v (o) 3)
  clear a1
  generalize v.alloc (.cells #[.int .i64 (o)] 3) = y at KF RA RB Bl RX ⊢
  generalize v.heap.size = gx at RX ⊢
  with_reducible refine (insideB (1) (8) _ 1 _ [o] _ RX.out (by omega)).mono ?_
  rw [allIn_one]
  rintro e v0 ⟨rfl, b1⟩
  replace KF := Lib.hid (KF.out.below b1)
  replace RA := Lib.hid (RA.out.of_below b1)
  replace RB := Lib.hid (RB.out.of_below b1)
  replace Bl := Lib.hid (Bl.out.trans (b1.mono Bl.out.size))
  clear b1 RX
  rcases x0 : inB (1) (8) (o) with _ | _
  · obtain rfl : R = false := by rw [← HR.out]; simp [rightB, x0]
    go_wp2
    go_ret
    exact ⟨rfl, Bl.out⟩
  have X0 := Lib.hid x0
  clear x0
  obtain ⟨k0, k1, k2, k3, k4, k5⟩ := KF.out.cell6
  go_wp2_with fail
  clear k0 k1 k2 k3 k4 k5
  have a1 := (Below.refl _ v0).alloc (Nat.le_refl _) (.cells #[.int .i64 (m)] 3)
  replace KF := Lib.hid (KF.out.below a1)
  replace RA := Lib.hid (RA.out.of_below a1)
  replace RB := Lib.hid (RB.out.of_below a1)
  replace Bl := Lib.hid (Bl.out.trans (a1.mono Bl.out.size))
  have RX := Lib.hid (RdI.one v0 (m) 3)
  clear a1
  generalize v0.alloc (.cells #[.int .i64 (m)] 3) = y at KF RA RB Bl RX ⊢
  generalize v0.heap.size = gx at RX ⊢
  with_reducible refine (insideB (0) (2147483647) _ 1 _ [m] _ RX.out (by omega)).mono ?_
  rw [allIn_one]
  rintro e v1 ⟨rfl, b1⟩
  replace KF := Lib.hid (KF.out.below b1)
  replace RA := Lib.hid (RA.out.of_below b1)
  replace RB := Lib.hid (RB.out.of_below b1)
  replace Bl := Lib.hid (Bl.out.trans (b1.mono Bl.out.size))
  clear b1 RX
  rcases x1 : inB (0) (2147483647) (m) with _ | _
  · obtain rfl : R = false := by rw [← HR.out]; simp [rightB, X0.out, x1]
    go_wp2
    go_ret
    exact ⟨rfl, Bl.out⟩
  have X1 := Lib.hid x1
  clear x1
  obtain ⟨k0, k1, k2, k3, k4, k5⟩ := KF.out.cell6
  go_wp2_with fail
  clear k0 k1 k2 k3 k4 k5
  have a1 := (Below.refl _ v1).alloc (Nat.le_refl _) (.cells #[.int .i64 (f)] 3)
  replace KF := Lib.hid (KF.out.below a1)
  replace RA := Lib.hid (RA.out.of_below a1)
  replace RB := Lib.hid (RB.out.of_below a1)
  replace Bl := Lib.hid (Bl.out.trans (a1.mono Bl.out.size))
  have RX := Lib.hid (RdI.one v1 (f) 3)
  clear a1
  generalize v1.alloc (.cells #[.int .i64 (f)] 3) = y at KF RA RB Bl RX ⊢
  generalize v1.heap.size = gx at RX ⊢
  with_reducible refine (insideB (0) (31) _ 1 _ [f] _ RX.out (by omega)).mono ?_
  rw [allIn_one]
  rintro e v2 ⟨rfl, b1⟩
  replace KF := Lib.hid (KF.out.below b1)
  replace RA := Lib.hid (RA.out.of_below b1)
  replace RB := Lib.hid (RB.out.of_below b1)
  replace Bl := Lib.hid (Bl.out.trans (b1.mono Bl.out.size))
  clear b1 RX
  rcases x2 : inB (0) (31) (f) with _ | _
  · obtain rfl : R = false := by rw [← HR.out]; simp [rightB, X0.out, X1.out, x2]
    go_wp2
    go_ret
    exact ⟨rfl, Bl.out⟩
  have X2 := Lib.hid x2
  clear x2
  obtain ⟨k0, k1, k2, k3, k4, k5⟩ := KF.out.cell6
  go_wp2_with fail
  clear k0 k1 k2 k3 k4 k5
  have a1 := (Below.refl _ v2).alloc (Nat.le_refl _) (.cells #[.int .i64 (z)] 3)
  replace KF := Lib.hid (KF.out.below a1)
  replace RA := Lib.hid (RA.out.of_below a1)
  replace RB := Lib.hid (RB.out.of_below a1)
  replace Bl := Lib.hid (Bl.out.trans (a1.mono Bl.out.size))
  have RX := Lib.hid (RdI.one v2 (z) 3)
  clear a1
  generalize v2.alloc (.cells #[.int .i64 (z)] 3) = y at KF RA RB Bl RX ⊢
  generalize v2.heap.size = gx at RX ⊢
  with_reducible refine (insideB (-128) (127) _ 1 _ [z] _ RX.out (by omega)).mono ?_
  rw [allIn_one]
  rintro e v3 ⟨rfl, b1⟩
  replace KF := Lib.hid (KF.out.below b1)
  replace RA := Lib.hid (RA.out.of_below b1)
  replace RB := Lib.hid (RB.out.of_below b1)
  replace Bl := Lib.hid (Bl.out.trans (b1.mono Bl.out.size))
  clear b1 RX
  rcases x3 : inB (-128) (127) (z) with _ | _
  · obtain rfl : R = false := by rw [← HR.out]; simp [rightB, X0.out, X1.out, X2.out, x3]
    go_wp2
    go_ret
    exact ⟨rfl, Bl.out⟩
  have X3 := Lib.hid x3
  clear x3
  obtain ⟨o1, o2⟩ := inB_yes X0.out
  obtain ⟨e1, e2⟩ := HE.out
  obtain ⟨m1, m2⟩ := mulBd (by omega : 0 ≤ o) o2 e1 e2
  have hw0 : IntKind.i64.wrap (o * each) = o * each := by rw [IntKind.wrap_i64]; omega
  clear m1 m2 o1 o2 e1 e2
  rcases x4 : decide ((n : Int) = o * each) with _ | _
  · obtain rfl : R = false := by rw [← HR.out]; simp only [rightB, RA.out.1, x4]; simp
    obtain ⟨k0, k1, k2, k3, k4, k5⟩ := KF.out.cell6
    have x4b : ((n : Int) == o * each) = false := by simpa using x4
    clear x4
    go_wp2
    go_ret
    exact ⟨rfl, Bl.out⟩
  have X4 := Lib.hid x4
  have x4b : ((n : Int) == o * each) = true := by simpa using x4
  clear x4
  obtain ⟨k0, k1, k2, k3, k4, k5⟩ := KF.out.cell6
  go_wp2_with fail
  clear k0 k1 k2 k3 k4 k5
  clear x4b hw0
  with_reducible refine (insideB (-128) (127) A n _ xs _ RA.out HN.out).mono ?_
  rintro e v5 ⟨rfl, b1⟩
  replace KF := Lib.hid (KF.out.below b1)
  replace RA := Lib.hid (RA.out.of_below b1)
  replace RB := Lib.hid (RB.out.of_below b1)
  replace Bl := Lib.hid (Bl.out.trans (b1.mono Bl.out.size))
  clear b1
  rcases x5 : allIn (-128) (127) xs with _ | _
  · obtain rfl : R = false := by rw [← HR.out]; simp [rightB, x5]
    go_wp2
    go_ret
    exact ⟨rfl, Bl.out⟩
  have X5 := Lib.hid x5
  clear x5
  rcases x6 : decide ((q : Int) = o) with _ | _
  · obtain rfl : R = false := by rw [← HR.out]; simp only [rightB, RB.out.1, x6]; simp
    obtain ⟨k0, k1, k2, k3, k4, k5⟩ := KF.out.cell6
    have x6b : ((q : Int) == o) = false := by simpa using x6
    clear x6
    go_wp2
    go_ret
    exact ⟨rfl, Bl.out⟩
  have X6 := Lib.hid x6
  have x6b : ((q : Int) == o) = true := by simpa using x6
  clear x6
  obtain ⟨k0, k1, k2, k3, k4, k5⟩ := KF.out.cell6
  go_wp2_with fail
  clear k0 k1 k2 k3 k4 k5
  clear x6b
  with_reducible refine (insideB (-1000000) 1000000 B q _ ys _ RB.out HQ.out).mono ?_
  rintro e v7 ⟨rfl, b1⟩
  replace KF := Lib.hid (KF.out.below b1)
  replace RA := Lib.hid (RA.out.of_below b1)
  replace RB := Lib.hid (RB.out.of_below b1)
  replace Bl := Lib.hid (Bl.out.trans (b1.mono Bl.out.size))
  clear b1
  obtain rfl : R = allIn (-1000000) 1000000 ys := by rw [← HR.out]; simp only [rightB, X0.out, X1.out, X2.out, X3.out, RA.out.1, RB.out.1, X4.out, X5.out, X6.out, Bool.true_and]
  go_wp2
  go_ret
  exact ⟨rfl, Bl.out⟩

set_option maxRecDepth 100000 in
set_option maxHeartbeats 1000000 in
theorem fitsI (s t h w c : Int) (W : World) :
    Calls Try.prog 144 #[.agg #[.int .i64 s, .int .i64 t], .agg #[.int .i64 h, .int .i64 w, .int .i64 c]] W fun e W' => e = .returned (.bool (fitsB h w s t)) ∧ Below W.heap.size W W' := by
  obtain ⟨R, hR⟩ : ∃ R, fitsB h w s t = R := ⟨_, rfl⟩
  rw [hR]
  have HR := Lib.hid hR
  have b0 := ((Below.refl _ W).alloc (Nat.le_refl _) (.cells #[.int .i64 s, .int .i64 t] 164)).alloc (by simp) (.cells #[.int .i64 h, .int .i64 w, .int .i64 c] 34)
  have KF := Lib.hid ((Bk.new W 164 #[.int .i64 s, .int .i64 t]).alloc (.cells #[.int .i64 h, .int .i64 w, .int .i64 c] 34))
  have KS := Lib.hid (Bk.new (W.alloc (.cells #[.int .i64 s, .int .i64 t] 164)) 34 #[.int .i64 h, .int .i64 w, .int .i64 c])
  have Bl := Lib.hid b0
  obtain ⟨M, hMe⟩ : ∃ M, min (min 3 h) w = M := ⟨_, rfl⟩
  have hM : ∀ ts ty w0, (Builtin.min_ ts ty #[.int .i64 3, .int .i64 h, .int .i64 w]).run Try.prog w0 = .ok (.int .i64 M) w0 := fun ts ty w0 => by rw [run_min3, hMe]
  replace HR : Hid ((inB 1 M s && inB 1 2 t) = R) := Lib.hid (by rw [← HR.out, fitsB, hMe])
  clear hMe
  clear hR b0
  go_enter Try.func144, Try.ntmps144
  go_wp2_with fail
  have hv : ((W.alloc (.cells #[.int .i64 s, .int .i64 t] 164)).alloc (.cells #[.int .i64 h, .int .i64 w, .int .i64 c] 34)).heap.size = W.heap.size + 1 + 1 := by simp
  rw [World.size_alloc] at KS
  generalize (W.alloc (.cells #[.int .i64 s, .int .i64 t] 164)).alloc (.cells #[.int .i64 h, .int .i64 w, .int .i64 c] 34) = v at KF KS Bl hv ⊢
  rw [← hv]
  clear hv hM
  have a1 := (Below.refl _ v).alloc (Nat.le_refl _) (.cells #[.int .i64 (s)] 3)
  replace KF := Lib.hid (KF.out.below a1)
  replace KS := Lib.hid (KS.out.below a1)
  replace Bl := Lib.hid (Bl.out.trans (a1.mono Bl.out.size))
  have RX := Lib.hid (RdI.one v (s) 3)
  clear a1
  generalize v.alloc (.cells #[.int .i64 (s)] 3) = y at KF KS Bl RX ⊢
  generalize v.heap.size = gx at RX ⊢
  with_reducible refine (insideB (1) (M) _ 1 _ [s] _ RX.out (by omega)).mono ?_
  rw [allIn_one]
  rintro e v0 ⟨rfl, b1⟩
  replace KF := Lib.hid (KF.out.below b1)
  replace KS := Lib.hid (KS.out.below b1)
  replace Bl := Lib.hid (Bl.out.trans (b1.mono Bl.out.size))
  clear b1 RX
  rcases x0 : inB (1) (M) (s) with _ | _
  · obtain rfl : R = false := by rw [← HR.out]; simp [x0]
    go_wp2
    go_ret
    exact ⟨rfl, Bl.out⟩
  have X0 := Lib.hid x0
  clear x0
  obtain ⟨k0, k1⟩ := KF.out.cell2
  go_wp2_with fail
  clear k0 k1
  have a1 := (Below.refl _ v0).alloc (Nat.le_refl _) (.cells #[.int .i64 (t)] 3)
  replace KF := Lib.hid (KF.out.below a1)
  replace KS := Lib.hid (KS.out.below a1)
  replace Bl := Lib.hid (Bl.out.trans (a1.mono Bl.out.size))
  have RX := Lib.hid (RdI.one v0 (t) 3)
  clear a1
  generalize v0.alloc (.cells #[.int .i64 (t)] 3) = y at KF KS Bl RX ⊢
  generalize v0.heap.size = gx at RX ⊢
  with_reducible refine (insideB (1) (2) _ 1 _ [t] _ RX.out (by omega)).mono ?_
  rw [allIn_one]
  rintro e v1 ⟨rfl, b1⟩
  replace KF := Lib.hid (KF.out.below b1)
  replace KS := Lib.hid (KS.out.below b1)
  replace Bl := Lib.hid (Bl.out.trans (b1.mono Bl.out.size))
  clear b1 RX
  rcases x1 : inB (1) (2) (t) with _ | _
  · obtain rfl : R = false := by rw [← HR.out]; simp [x1]
    go_wp2
    go_ret
    exact ⟨rfl, Bl.out⟩
  have X1 := Lib.hid x1
  clear x1
  obtain rfl : R = true := by rw [← HR.out]; simp [X0.out, X1.out]
  go_wp2
  go_ret
  exact ⟨rfl, Bl.out⟩
end Qt
end Go.Proofs.Ytbmchpoffceehaa

namespace Go.Proofs.Ytbmchpoffceehaa
open Go.RowKit Go.Sort
set_option linter.unusedSimpArgs false
namespace Qt
theorem winEmptyI (s t : Int) (W : World) :
    Calls Try.prog 116 #[.agg #[.int .i64 s, .int .i64 t]] W fun e W' => e = .returned (.bool (emptyW s t)) ∧ Below W.heap.size W W' := by
  have Bl := Lib.hid ((Below.refl _ W).alloc (Nat.le_refl _) (.cells #[.int .i64 s, .int .i64 t] 164))
  obtain ⟨R, hR⟩ : ∃ R, emptyW s t = R := ⟨_, rfl⟩
  rw [hR]
  have HR := Lib.hid hR
  clear hR
  by_cases e0 : s = 0
  · by_cases e1 : t = 0
    · obtain rfl : R = true := by rw [← HR.out]; simp [emptyW, e0, e1]
      subst e0 e1
      go_enter Try.func116, Try.ntmps116
      go_wp2
      go_ret
      exact ⟨rfl, Bl.out⟩
    · obtain rfl : R = false := by rw [← HR.out]; simp [emptyW, e0, e1]
      have e1b : (t == 0) = false := by simpa using e1
      subst e0
      go_enter Try.func116, Try.ntmps116
      go_wp2
      go_ret
      exact ⟨rfl, Bl.out⟩
  · obtain rfl : R = false := by rw [← HR.out]; simp [emptyW, e0]
    go_enter Try.func116, Try.ntmps116
    go_wp2
    go_ret
    exact ⟨rfl, Bl.out⟩
theorem filEmptyI (o m f z : Int) (A : Option Addr) (n p : Nat) (xs : List Int) (B : Option Addr) (q r : Nat) (ys : List Int) (W : World) (hl : xs.length = n) (hl2 : ys.length = q) (hn : n ≤ 1048576) (hq : q ≤ 1048576) :
    Calls Try.prog 118 #[.agg #[.int .i64 o, .int .i64 m, .int .i64 f, .int .i64 z, .slice A n p, .slice B q r]] W fun e W' => e = .returned (.bool (emptyF o m f xs ys)) ∧ Below W.heap.size W W' := by
  have hn0 : (0 : Int) ≤ n := Int.natCast_nonneg n
  have hn1 : (n : Int) ≤ 1048576 := by omega
  have hq0 : (0 : Int) ≤ q := Int.natCast_nonneg q
  have hq1 : (q : Int) ≤ 1048576 := by omega
  have Bl := Lib.hid ((Below.refl _ W).alloc (Nat.le_refl _) (.cells #[.int .i64 o, .int .i64 m, .int .i64 f, .int .i64 z, .slice A n p, .slice B q r] 160))
  obtain ⟨R, hR⟩ : ∃ R, emptyF o m f xs ys = R := ⟨_, rfl⟩
  rw [hR]
  have HR : Hid ((decide (o = 0) && (decide (m = 0) && (decide (f = 0) && (decide (n = 0) && decide (q = 0))))) = R) := Lib.hid (by rw [← hR, emptyF, hl, hl2])
  clear hR hn hq hl hl2
  by_cases e0 : o = 0
  case neg =>
    obtain rfl : R = false := by rw [← HR.out]; simp [e0]
    go_enter Try.func118, Try.ntmps118
    go_wp2
    go_ret
    exact ⟨rfl, Bl.out⟩
  subst e0
  by_cases e1 : m = 0
  case neg =>
    obtain rfl : R = false := by rw [← HR.out]; simp [e1]
    go_enter Try.func118, Try.ntmps118
    go_wp2
    go_ret
    exact ⟨rfl, Bl.out⟩
  subst e1
  by_cases e2 : f = 0
  case neg =>
    obtain rfl : R = false := by rw [← HR.out]; simp [e2]
    go_enter Try.func118, Try.ntmps118
    go_wp2
    go_ret
    exact ⟨rfl, Bl.out⟩
  subst e2
  by_cases e3 : n = 0
  case neg =>
    obtain rfl : R = false := by rw [← HR.out]; simp [e3]
    have e4 : (n : Int) ≠ 0 := by omega
    go_enter Try.func118, Try.ntmps118
    go_wp2
    go_ret
    exact ⟨rfl, Bl.out⟩
  subst e3
  by_cases e4 : q = 0
  case neg =>
    obtain rfl : R = false := by rw [← HR.out]; simp [e4]
    have e5 : (q : Int) ≠ 0 := by omega
    have e5b : ((q : Int) == 0) = false := by simpa using e5
    go_enter Try.func118, Try.ntmps118
    go_wp2
    go_ret
    exact ⟨rfl, Bl.out⟩
  subst e4
  obtain rfl : R = true := by rw [← HR.out]; simp
  go_enter Try.func118, Try.ntmps118
  go_wp2
  go_ret
  exact ⟨rfl, Bl.out⟩
theorem areaI (s t : Int) (W : World) (h1 : 1 ≤ s) (h2 : s ≤ 3) :
    Calls Try.prog 114 #[.agg #[.int .i64 s, .int .i64 t]] W fun e W' => e = .returned (.int .i64 (s * s)) ∧ Below W.heap.size W W' := by
  have Bl := Lib.hid ((Below.refl _ W).alloc (Nat.le_refl _) (.cells #[.int .i64 s, .int .i64 t] 164))
  obtain ⟨m1, m2⟩ := mulBd (by omega : 0 ≤ s) h2 (by omega : 0 ≤ s) h2
  go_enter Try.func114, Try.ntmps114
  go_wp2
  go_ret
  exact ⟨rfl, Bl.out⟩
theorem winTimesI (s t x : Int) (W : World) (h1 : 1 ≤ s) (h2 : s ≤ 3) (t1 : 1 ≤ t) (t2 : t ≤ 2) (x1 : s ≤ x) (x2 : x ≤ 8) :
    Calls Try.prog 145 #[.agg #[.int .i64 s, .int .i64 t], .int .i64 x] W fun e W' => e = .returned (.int .i64 ((x - s).tdiv t + 1)) ∧ Below W.heap.size W W' := by
  have Bl := Lib.hid ((Below.refl _ W).alloc (Nat.le_refl _) (.cells #[.int .i64 s, .int .i64 t] 164))
  obtain ⟨m1, m2⟩ := tdiv_bd (by omega : 0 ≤ x - s) (by omega) t1 t2
  have ht : t ≠ 0 := by omega
  go_enter Try.func145, Try.ntmps145
  go_wp2
  go_ret
  exact ⟨rfl, Bl.out⟩
end Qt
end Go.Proofs.Ytbmchpoffceehaa
