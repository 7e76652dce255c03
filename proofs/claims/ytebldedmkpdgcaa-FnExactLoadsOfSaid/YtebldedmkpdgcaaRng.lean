/- What RangeOfReals (of the program and of its model) gives when it is called. Conditions: the slice reads as the list that is named. -/
import Derived.Test.YtebldedmkpdgcaaSca
import Derived.Test.YtebldedmkpdgcaaFlz
import Derived.Laws.ComplexArith
import Derived.Laws.Cover2
import Derived.Laws.Cover3
namespace Go.Proofs.Ytebldedmkpdgcaa
open Go.RowKit Go.Sort
set_option linter.unusedSimpArgs false
set_option linter.unusedVariables false
namespace Qt
theorem rngB_len {xs : List Int} (h : inB 1 300 (xs.length : Int) = false) : rngB xs = false := by simp [rngB, h]
theorem rngB_at {xs : List Int} {k : Nat} (hk : k < xs.length) (h : realB (xs[k]?.getD 0) = false) : rngB xs = false := by
  have : allR xs = false := allIn_no hk h
  simp [rngB, this]
theorem rngB_all {xs : List Int} (h1 : inB 1 300 (xs.length : Int) = true) (h : ∀ j, j < xs.length → realB (xs[j]?.getD 0) = true) : rngB xs = true := by
  have : allR xs = true := allIn_yes h
  simp [rngB, this, h1]
theorem mem_take_real {xs : List Int} {k : Nat} (h : ∀ j, j < k → realB (xs[j]?.getD 0) = true) : ∀ x ∈ xs.take k, -1000000000 ≤ x ∧ x ≤ 1000000000 := by
  intro x hx
  obtain ⟨j, hj, rfl⟩ := List.mem_iff_getElem.1 hx
  have hj2 : j < xs.length := by rw [List.length_take] at hj; omega
  have h2 := h j (by rw [List.length_take] at hj; omega)
  rw [List.getElem?_eq_getElem hj2, Option.getD_some] at h2
  rw [List.getElem_take]
  exact inB_iff.1 h2
theorem rngS (A : Option Addr) (n p : Nat) (xs : List Int) (W : World) (hr : RdI W A n xs) (hn : n ≤ 1048576) :
    Calls Try.prog 149 #[.slice A n p] W fun e W' => e = .returned (.tuple #[.int .i64 (rngL xs), .int .i64 (rngM xs), .bool (rngB xs)]) ∧ ∃ m, W' = W.drewN m := by
  obtain ⟨L, hL⟩ : ∃ L, L = rngL xs := ⟨_, rfl⟩
  obtain ⟨M, hM⟩ : ∃ L, L = rngM xs := ⟨_, rfl⟩
  obtain ⟨b, hb⟩ : ∃ b, b = rngB xs := ⟨_, rfl⟩
  rw [← hL, ← hM, ← hb]
  have HL := Lib.hid hL; have HM := Lib.hid hM; have HB := Lib.hid hb
  have RA := Lib.hid hr
  have hlen := hr.1
  have HLN := Lib.hid hlen
  clear hL hM hb hr hlen
  have hn0 : (0 : Int) ≤ n := Int.natCast_nonneg n
  have hn1 : (n : Int) ≤ 1048576 := by omega
  go_enter Try.func149, Try.ntmps149
  go_wp2_with fail
  refine (inS 1 300 n _).mono ?_
  rintro e w1 ⟨rfl, rfl⟩
  rcases hi : inB 1 300 (n : Int) with _ | _
  · have hf : rngB xs = false := rngB_len (by rw [HLN.out]; exact hi)
    obtain rfl : b = false := by rw [HB.out]; exact hf
    obtain rfl : L = 0 := by rw [HL.out]; unfold rngL; rw [hf]; rfl
    obtain rfl : M = 0 := by rw [HM.out]; unfold rngM; rw [hf]; rfl
    clear hf
    go_wp2_with fail
    go_ret3
    exact ⟨rfl, 0, rfl⟩
  have HI := Lib.hid hi
  clear hi
  go_wp2_with fail
  go_loopw [5, 6, 7] (fun l m i wr => ∃ k : Nat, k ≤ n ∧ i = .int .i64 k ∧ l = .int .i64 (leastR (xs.take k)) ∧ m = .int .i64 (mostR (xs.take k)) ∧ Hid (∀ j, j < k → realB (xs[j]?.getD 0) = true) ∧ ∃ m, wr = W.drewN m) (fun _ _ i _ => n - (intOf i).toNat)
  case atStart => exact ⟨0, Nat.zero_le _, rfl, rfl, rfl, Lib.hid (fun j hj => absurd hj (Nat.not_lt_zero _)), 0, rfl⟩
  case round =>
    obtain ⟨k, hk, rfl, rfl, rfl, HR, m, rfl⟩ := hrel
    have hb1 := leastR_bd (mem_take_real HR.out)
    have hb2 := mostR_bd (mem_take_real HR.out)
    by_cases hlt : k < n
    · obtain ⟨b', off, rfl, hbl, hcell⟩ := RA.out.2 (by omega)
      have hc1 := hcell k hlt
      have hx1 : xs.getD k 0 = xs[k]?.getD 0 := List.getD_eq_getElem?_getD ..
      rw [hx1] at hc1
      have hkl : k < xs.length := by rw [HLN.out]; exact hlt
      have HS1 := Lib.hid (leastR_snoc xs k hkl)
      have HS2 := Lib.hid (mostR_snoc xs k hkl)
      have HKL := Lib.hid hkl
      have HX : ∀ y, y = xs[k]?.getD 0 → Hid (xs[k]?.getD 0 = y) := fun y h => Lib.hid h.symm
      obtain ⟨x, hx⟩ : ∃ x, x = xs[k]?.getD 0 := ⟨_, rfl⟩
      rw [← hx] at hc1 HS1 HS2
      have HX := Lib.hid hx
      have hi1 : (k : Int) < (n : Int) := by omega
      clear hcell hbl hx1 hkl hx
      go_wp2_with fail
      refine (realS x _).mono ?_
      rintro e w2 ⟨rfl, rfl⟩
      rcases hr : realB x with _ | _
      · have hf : rngB xs = false := rngB_at HKL.out (by rw [← HX.out]; exact hr)
        obtain rfl : b = false := by rw [HB.out]; exact hf
        obtain rfl : L = 0 := by rw [HL.out]; unfold rngL; rw [hf]; rfl
        obtain rfl : M = 0 := by rw [HM.out]; unfold rngM; rw [hf]; rfl
        clear hf
        go_wp2_with fail
        go_ret3
        exact ⟨rfl, _, rfl⟩
      have hx2 := inB_iff.1 hr
      have HRX := Lib.hid hr
      clear hr
      generalize leastR (xs.take k) = l at hb1 HS1 ⊢
      generalize mostR (xs.take k) = q at hb2 HS2 ⊢
      by_cases ha : x < l
      all_goals by_cases hc : q < x
      all_goals
        go_wp2_with fail
        go_roundw
        case rel =>
          refine ⟨k + 1, by omega, by go_num, ?_, ?_, Lib.hid (fun j hj => ?_), _, rfl⟩
          · rw [HS1.out]; congr 1; omega
          · rw [HS2.out]; congr 1; omega
          · rcases (by omega : j < k ∨ j = k) with h1 | rfl
            · exact HR.out j h1
            · rw [← HX.out]; exact HRX.out
        case measure => simp [intOf]; omega
    · obtain rfl : k = n := by omega
      have hall : rngB xs = true := rngB_all (by rw [HLN.out]; exact HI.out) (fun j hj => HR.out j (by rw [HLN.out] at hj; exact hj))
      have ht : xs.take k = xs := List.take_of_length_le (by rw [HLN.out]; exact Nat.le_refl _)
      rw [ht] at hb1 hb2 ⊢
      obtain rfl : b = true := by rw [HB.out]; exact hall
      obtain rfl : L = leastR xs := by rw [HL.out]; unfold rngL; rw [hall]; rfl
      obtain rfl : M = mostR xs := by rw [HM.out]; unfold rngM; rw [hall]; rfl
      clear ht hall
      go_wp2_with fail
      go_ret3
      exact ⟨rfl, _, rfl⟩
def Cz (a b : Int) : Value := .complex .f64 (FlI a) (FlI b)
theorem fli_zero : FlI 0 = 0 := by decide +kernel
theorem endsI (A : Option Addr) (n p : Nat) (xs : List Int) (W : World) (hr : RdI W A n xs) (hn : n ≤ 1048576) :
    Calls Try.prog 167 #[.slice A n p] W fun e W' => e = .returned (.tuple #[.complex .f64 (FlI (rngL xs)) (FlI (rngM xs)), .bool (rngB xs)]) ∧ Below W.heap.size W W' := by
  obtain ⟨L, hL⟩ : ∃ L, L = rngL xs := ⟨_, rfl⟩
  obtain ⟨M, hM⟩ : ∃ L, L = rngM xs := ⟨_, rfl⟩
  obtain ⟨b, hb⟩ : ∃ b, b = rngB xs := ⟨_, rfl⟩
  rw [← hL, ← hM, ← hb]
  have HL := Lib.hid hL; have HM := Lib.hid hM; have HB := Lib.hid hb
  have RA := Lib.hid hr
  have hlen := hr.1
  have HLN := Lib.hid hlen
  clear hL hM hb hr hlen
  have hn0 : (0 : Int) ≤ n := Int.natCast_nonneg n
  have hn1 : (n : Int) ≤ 1048576 := by omega
  go_enter Try.func167, Try.ntmps167
  go_wp2_with fail
  refine (inside1I 1 300 n _ _ _ (Bk.new W 3 #[.int .i64 n])).mono ?_
  rintro e w1 ⟨rfl, b1⟩
  have B1 := Lib.hid (after1 b1)
  clear b1
  rcases hi : inB 1 300 (n : Int) with _ | _
  · have hf : rngB xs = false := rngB_len (by rw [HLN.out]; exact hi)
    obtain rfl : b = false := by rw [HB.out]; exact hf
    obtain rfl : L = 0 := by rw [HL.out]; unfold rngL; rw [hf]; rfl
    obtain rfl : M = 0 := by rw [HM.out]; unfold rngM; rw [hf]; rfl
    clear hf
    go_wp2_with fail
    go_ret2
    exact ⟨by simp only [fli_zero]; rfl, B1.out⟩
  have HI := Lib.hid hi
  clear hi
  go_wp2_with fail
  have hz0 : (Value.complex .f64 0 0) = .complex .f64 (FlI 0) (FlI 0) := by simp only [fli_zero]
  have HZ := Lib.hid hz0
  clear hz0
  go_loopw [4, 14] (fun v i wr => ∃ k : Nat, k ≤ n ∧ i = .int .i64 k ∧ v = .complex .f64 (FlI (leastR (xs.take k))) (FlI (mostR (xs.take k))) ∧ Hid (∀ j, j < k → realB (xs[j]?.getD 0) = true) ∧ Hid (Below W.heap.size W wr)) (fun _ i _ => n - (intOf i).toNat)
  case atStart => exact ⟨0, Nat.zero_le _, rfl, HZ.out, Lib.hid (fun j hj => absurd hj (Nat.not_lt_zero _)), B1⟩
  case round =>
    obtain ⟨k, hk, rfl, rfl, HR, HW⟩ := hrel
    have hb1 := leastR_bd (mem_take_real HR.out)
    have hb2 := mostR_bd (mem_take_real HR.out)
    by_cases hlt : k < n
    · obtain ⟨b', off, rfl, hbl, hcell⟩ := RA.out.2 (by omega)
      have hc1 := (HW.out.cell (p := ⟨b', off + k, none⟩) hbl).trans (hcell k hlt)
      have hx1 : xs.getD k 0 = xs[k]?.getD 0 := List.getD_eq_getElem?_getD ..
      rw [hx1] at hc1
      have hkl : k < xs.length := by rw [HLN.out]; exact hlt
      have HS1 := Lib.hid (leastR_snoc xs k hkl)
      have HS2 := Lib.hid (mostR_snoc xs k hkl)
      have HKL := Lib.hid hkl
      obtain ⟨x, hx⟩ : ∃ x, x = xs[k]?.getD 0 := ⟨_, rfl⟩
      rw [← hx] at hc1 HS1 HS2
      have HX := Lib.hid hx
      have hi1 : (k : Int) < (n : Int) := by omega
      clear hcell hbl hx1 hkl hx
      go_wp2_with fail
      clear hc1
      refine (okRI x _).mono ?_
      rintro e w2 ⟨rfl, b2⟩
      replace HW := Lib.hid (HW.out.trans (b2.mono HW.out.size))
      clear b2
      rcases hr : realB x with _ | _
      · have hf : rngB xs = false := rngB_at HKL.out (by rw [← HX.out]; exact hr)
        obtain rfl : b = false := by rw [HB.out]; exact hf
        obtain rfl : L = 0 := by rw [HL.out]; unfold rngL; rw [hf]; rfl
        obtain rfl : M = 0 := by rw [HM.out]; unfold rngM; rw [hf]; rfl
        clear hf
        go_wp2_with fail
        go_ret2
        exact ⟨by simp only [fli_zero]; rfl, HW.out⟩
      have hx2 := inB_iff.1 hr
      have HRX := Lib.hid hr
      clear hr
      generalize leastR (xs.take k) = l at hb1 HS1 ⊢
      generalize mostR (xs.take k) = q at hb2 HS2 ⊢
      have hf : floatOfInt .f64 x = FlI x := rfl
      have hmin : ∀ ts ty w0, (Builtin.min_ ts ty #[.float .f64 (FlI l), .float .f64 (FlI x)]).run Try.prog w0 = .ok (.float .f64 (FlI (min l x))) w0 := fun ts ty w0 => run_minF ts ty l x (by omega) (by omega) w0
      have hmax : ∀ ts ty w0, (Builtin.max_ ts ty #[.float .f64 (FlI q), .float .f64 (FlI x)]).run Try.prog w0 = .ok (.float .f64 (FlI (max q x))) w0 := fun ts ty w0 => run_maxF ts ty q x (by omega) (by omega) w0
      go_wp2_with fail
      go_roundw
      case rel =>
        refine ⟨k + 1, by omega, by go_num, ?_, Lib.hid (fun j hj => ?_), HW⟩
        · rw [HS1.out, HS2.out]
        · rcases (by omega : j < k ∨ j = k) with h1 | rfl
          · exact HR.out j h1
          · rw [← HX.out]; exact HRX.out
      case measure => simp [intOf]; omega
    · obtain rfl : k = n := by omega
      have hall : rngB xs = true := rngB_all (by rw [HLN.out]; exact HI.out) (fun j hj => HR.out j (by rw [HLN.out] at hj; exact hj))
      have ht : xs.take k = xs := List.take_of_length_le (by rw [HLN.out]; exact Nat.le_refl _)
      rw [ht] at hb1 hb2 ⊢
      obtain rfl : b = true := by rw [HB.out]; exact hall
      obtain rfl : L = leastR xs := by rw [HL.out]; unfold rngL; rw [hall]; rfl
      obtain rfl : M = mostR xs := by rw [HM.out]; unfold rngM; rw [hall]; rfl
      clear ht hall
      go_wp2_with fail
      go_ret2
      exact ⟨rfl, HW.out⟩
theorem rngLM_bd (xs : List Int) : -1000000000 ≤ rngL xs ∧ rngL xs ≤ 0 ∧ 0 ≤ rngM xs ∧ rngM xs ≤ 1000000000 := by
  rcases h : rngB xs with _ | _
  · simp [rngL, rngM, h]
  · have h2 := allR_mem (rngB_yes h).2
    have h3 := leastR_bd h2
    have h4 := mostR_bd h2
    simp only [rngL, rngM, h, if_true]
    omega
theorem rngI (A : Option Addr) (n p : Nat) (xs : List Int) (W : World) (hr : RdI W A n xs) (hn : n ≤ 1048576) :
    Calls Try.prog 154 #[.slice A n p] W fun e W' => e = .returned (.tuple #[.int .i64 (rngL xs), .int .i64 (rngM xs), .bool (rngB xs)]) ∧ Below W.heap.size W W' := by
  have hbd := rngLM_bd xs
  have HE := Lib.hid (endsI A n p xs W hr hn)
  generalize rngL xs = l at hbd HE ⊢
  generalize rngM xs = m at hbd HE ⊢
  generalize rngB xs = b at HE ⊢
  have c1 : ∀ s d w0, (Try.prog.underlying s).isSome = true → Try.prog.underlying d = some (.int .i64) → (convert s d (.float .f64 (FlI l))).run Try.prog w0 = .ok (.int .i64 l) w0 := fun s d w0 hs hd => run_convert_float_int w0 s d .f64 .i64 _ _ hs hd (flz_int l (by omega))
  have c2 : ∀ s d w0, (Try.prog.underlying s).isSome = true → Try.prog.underlying d = some (.int .i64) → (convert s d (.float .f64 (FlI m))).run Try.prog w0 = .ok (.int .i64 m) w0 := fun s d w0 hs hd => run_convert_float_int w0 s d .f64 .i64 _ _ hs hd (flz_int m (by omega))
  go_enter Try.func154, Try.ntmps154
  go_wp2_with fail
  refine HE.out.mono ?_
  clear HE
  rintro e w1 ⟨rfl, b1⟩
  have B1 := Lib.hid b1
  clear b1
  have d1 := c1 194 3
  have d2 := c2 194 3
  go_wp2_with fail
  go_ret3
  exact ⟨rfl, B1.out⟩
end Qt
end Go.Proofs.Ytebldedmkpdgcaa
