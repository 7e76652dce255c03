/- What TensorOk of the model gives when it is called. Conditions: the slice reads as the list that is named. -/
import Derived.Test.YtebldedmkpdgcaaTen
import Derived.Test.YtebldedmkpdgcaaPlace
import Derived.Lib.QuietBelow
namespace Go.Proofs.Ytebldedmkpdgcaa
open Go.RowKit Go.Sort
namespace Qt

def fit8 (x : Int) : Bool := decide (-128 ≤ x ∧ x ≤ 127)
def tOk (h w c : Int) (xs : List Int) : Bool := shOk h w c && (decide ((xs.length : Int) = szOf h w c) && xs.all fit8)
theorem tOk_iff {h w c : Int} {xs : List Int} : tOk h w c xs = true ↔ shOk h w c = true ∧ (xs.length : Int) = szOf h w c ∧ ∀ x ∈ xs, -128 ≤ x ∧ x ≤ 127 := by
  simp [tOk, fit8]
theorem tOk_no1 {h w c : Int} {xs : List Int} (hs : shOk h w c = false) : tOk h w c xs = false := by simp [tOk, hs]
theorem tOk_no2 {h w c : Int} {xs : List Int} (hs : (xs.length : Int) ≠ szOf h w c) : tOk h w c xs = false := by simp [tOk, hs]
theorem tOk_no3 {h w c : Int} {xs : List Int} {k : Nat} (hk : k < xs.length) (hx : ¬ (-128 ≤ xs.getD k 0 ∧ xs.getD k 0 ≤ 127)) : tOk h w c xs = false := by
  have e : xs.getD k 0 = xs[k] := by simp [List.getD_eq_getElem?_getD, hk]
  rw [e] at hx
  rcases hb : tOk h w c xs with _ | _
  · rfl
  · exact absurd ((tOk_iff.1 hb).2.2 _ (List.getElem_mem hk)) hx

theorem int8S (x : Int) (b : Bool) (hb : fit8 x = b) (W : World) : Calls Try.prog 122 #[.int .i64 x] W fun e W' => e = .returned (.bool b) ∧ W = W' := by
  cases b with
  | true =>
    have h1 : -128 ≤ x ∧ x ≤ 127 := by simpa [fit8] using hb
    obtain ⟨h1, h2⟩ := h1
    clear hb
    go_enter Try.func122, Try.ntmps122
    go_wp2_with ((with_reducible refine (inS_yes _ _ _ (by omega) (by omega) _).mono ?_); rintro e w' ⟨rfl, rfl⟩)
    go_ret
    exact ⟨rfl, rfl⟩
  | false =>
    have h1 : ¬ (-128 ≤ x ∧ x ≤ 127) := by simp [fit8] at hb; omega
    have H1 := Lib.hid h1
    clear hb h1
    go_enter Try.func122, Try.ntmps122
    go_wp2_with ((with_reducible refine (inS_no x _ _ H1.out _).mono ?_); rintro e w' ⟨rfl, rfl⟩)
    go_ret
    exact ⟨rfl, rfl⟩

theorem mixed : Try.prog.follows .mixedOrders = true := by kernel_rfl
theorem tensorOkS (h w c : Int) (A : Option Addr) (n p : Nat) (xs : List Int) (b : Bool) (hb : tOk h w c xs = b) (W : World) (hr : RdI W A n xs) (hn : n ≤ 1048576) :
    Calls Try.prog 64 #[.agg #[.int .i64 h, .int .i64 w, .int .i64 c, .slice A n p]] W fun e W' => e = .returned (.bool b) ∧ Below W.heap.size W W' := by
  have HN := Lib.hid hn
  have HR := Lib.hid hr
  have HL := Lib.hid hr.1
  have hk0 := (Bk.new W 68 #[.int .i64 h, .int .i64 w, .int .i64 c, .slice A n p])
  have HB := Lib.hid hb
  have B0 := Lib.hid ((Below.refl _ W).alloc (Nat.le_refl _) (.cells #[.int .i64 h, .int .i64 w, .int .i64 c, .slice A n p] 68))
  obtain ⟨c0, c1, c2, c3⟩ := hk0.cell4
  clear hn hr hk0 hb
  rcases hs : shOk h w c with _ | _
  · obtain rfl : b = false := by rw [← HB.out]; exact tOk_no1 hs
    go_enter Try.func64, Try.ntmps64
    go_wp2_with fail
    generalize W.alloc (.cells #[.int .i64 h, .int .i64 w, .int .i64 c, .slice A n p] 68) = v at c0 c1 c2 c3 B0 ⊢
    have q0 := Lib.hid (fun d os => Calls.regrown_of (shapeOkS h w c false hs (grow (redrawn v d) os)))
    clear hs
    have k0 := cell_regrown c0
    have k1 := cell_regrown c1
    have k2 := cell_regrown c2
    have k3 := cell_regrown c3
    clear c0 c1 c2 c3
    refine wp_region_quiet_below mixed (by kernel_rfl) ?_
    repeat (go_big_quiet_step (exact q0.out _ _))
    refine wpQuiet_nil ?_
    intro _ hw'
    obtain ⟨⟨dq, osq⟩, rfl⟩ := hw'
    have BF := Lib.hid (B0.out.trans ((below_regrown _ dq osq).mono B0.out.size))
    clear k0 k1 k2 k3 q0 B0
    go_wp2
    go_ret
    exact ⟨rfl, BF.out⟩
  · obtain ⟨e1, a1, a2, a3, a4⟩ := szOf_yes hs
    have hz := szOf_bd h w c
    have hn0 : (0 : Int) ≤ n := Int.natCast_nonneg n
    clear e1 a1 a2 a3 a4
    by_cases hlen : (n : Int) = szOf h w c
    · have hd : ((n : Int) != szOf h w c) = false := by simpa using hlen
      have HE := Lib.hid hlen
      have HS := Lib.hid hs
      clear hlen hs
      go_enter Try.func64, Try.ntmps64
      go_wp2_with fail
      generalize W.alloc (.cells #[.int .i64 h, .int .i64 w, .int .i64 c, .slice A n p] 68) = v at c0 c1 c2 c3 B0 ⊢
      have q0 := Lib.hid (fun d os => Calls.regrown_of (shapeOkS h w c true HS.out (grow (redrawn v d) os)))
      have q1 := Lib.hid (fun d os => Calls.regrown_of (sizeOfS h w c (grow (redrawn v d) os)))
      have k0 := cell_regrown c0
      have k1 := cell_regrown c1
      have k2 := cell_regrown c2
      have k3 := cell_regrown c3
      clear c0 c1 c2 c3
      refine wp_region_quiet_below mixed (by kernel_rfl) ?_
      repeat (go_big_quiet_step (first | exact q0.out _ _ | exact q1.out _ _))
      refine wpQuiet_nil ?_
      intro _ hw'
      obtain ⟨⟨dq, osq⟩, rfl⟩ := hw'
      have BF := Lib.hid (B0.out.trans ((below_regrown _ dq osq).mono B0.out.size))
      replace k0 := k0 dq osq
      replace k1 := k1 dq osq
      replace k2 := k2 dq osq
      replace k3 := k3 dq osq
      clear q0 q1 B0 hd hz
      generalize grow (redrawn v dq) osq = v2 at k0 k1 k2 k3 BF ⊢
      go_wp2
      go_loop [3] (fun x => ∃ k : Nat, k ≤ n ∧ x = .int .i64 k ∧ Hid (∀ j, j < k → -128 ≤ xs.getD j 0 ∧ xs.getD j 0 ≤ 127)) (fun x => n - (intOf x).toNat)
      case atStart => exact ⟨0, Nat.zero_le _, rfl, Lib.hid (fun j hj => absurd hj (Nat.not_lt_zero _))⟩
      case round =>
        obtain ⟨k, hk, rfl, HQ⟩ := hrel
        by_cases hlt : k < n
        · obtain ⟨b', off, rfl, hbl, hcell⟩ := (HR.out.of_below BF.out).2 (by omega)
          have hcx := hcell k hlt
          have hi : (k : Int) < (n : Int) := by omega
          have hn1 : (n : Int) ≤ 1048576 := by have := HN.out; omega
          clear hcell
          rcases hf : fit8 (xs[k]?.getD 0) with _ | _
          · obtain rfl : b = false := by rw [← HB.out]; exact tOk_no3 (k := k) (by have := HL.out; omega) (by simpa [fit8, List.getD_eq_getElem?_getD] using hf)
            have HF := Lib.hid hf
            clear hf
            go_wp2_with ((with_reducible refine (int8S _ false HF.out _).mono ?_); rintro e w' ⟨rfl, rfl⟩)
            go_ret
            exact ⟨rfl, BF.out⟩
          · have HF := Lib.hid hf
            clear hf
            go_wp2_with ((with_reducible refine (int8S _ true HF.out _).mono ?_); rintro e w' ⟨rfl, rfl⟩)
            go_round
            case rel =>
              refine ⟨k + 1, by omega, by go_num, Lib.hid (fun j hj => ?_)⟩
              rcases (by omega : j < k ∨ j = k) with h1 | rfl
              · exact HQ.out j h1
              · simpa [fit8, List.getD_eq_getElem?_getD] using HF.out
            case measure => simp [intOf]; omega
        · obtain rfl : k = n := by omega
          have hb2 : b = true := by
            rw [← HB.out]
            refine tOk_iff.2 ⟨HS.out, by have := HL.out; have := HE.out; omega, fun x hx => ?_⟩
            obtain ⟨j, hj, rfl⟩ := List.getElem_of_mem hx
            have := HQ.out j (by have := HL.out; omega)
            simpa [List.getD_eq_getElem?_getD, hj] using this
          subst hb2
          go_wp2
          go_ret
          exact ⟨rfl, BF.out⟩
    · obtain rfl : b = false := by rw [← HB.out]; exact tOk_no2 (by have := HL.out; omega)
      have hd : ((n : Int) != szOf h w c) = true := by simpa using hlen
      have HS := Lib.hid hs
      clear hlen hs
      go_enter Try.func64, Try.ntmps64
      go_wp2_with fail
      generalize W.alloc (.cells #[.int .i64 h, .int .i64 w, .int .i64 c, .slice A n p] 68) = v at c0 c1 c2 c3 B0 ⊢
      have q0 := Lib.hid (fun d os => Calls.regrown_of (shapeOkS h w c true HS.out (grow (redrawn v d) os)))
      have q1 := Lib.hid (fun d os => Calls.regrown_of (sizeOfS h w c (grow (redrawn v d) os)))
      have k0 := cell_regrown c0
      have k1 := cell_regrown c1
      have k2 := cell_regrown c2
      have k3 := cell_regrown c3
      clear c0 c1 c2 c3
      refine wp_region_quiet_below mixed (by kernel_rfl) ?_
      repeat (go_big_quiet_step (first | exact q0.out _ _ | exact q1.out _ _))
      refine wpQuiet_nil ?_
      intro _ hw'
      obtain ⟨⟨dq, osq⟩, rfl⟩ := hw'
      have BF := Lib.hid (B0.out.trans ((below_regrown _ dq osq).mono B0.out.size))
      clear k0 k1 k2 k3 q0 q1 B0
      go_wp2
      go_ret
      exact ⟨rfl, BF.out⟩
end Qt
end Go.Proofs.Ytebldedmkpdgcaa
