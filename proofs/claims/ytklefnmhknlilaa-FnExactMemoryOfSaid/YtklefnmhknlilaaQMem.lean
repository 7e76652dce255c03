/- What MemoryOf of the program and of its model give when they are called. Conditions: the slice of layers reads as the list that is named. -/
import Derived.Test.YtklefnmhknlilaaQFlt
import Derived.Test.YtklefnmhknlilaaQBaseF
import Derived.Laws.Cover3
namespace Go.Proofs.Ytklefnmhknlilaa
open Go.RowKit Go.Sort
set_option linter.unusedSimpArgs false
set_option linter.unusedVariables false
namespace Qt
theorem fits_out {h w s t : Int} (hs : 1 ≤ h ∧ h ≤ 8 ∧ 1 ≤ w ∧ w ≤ 8) (hf : fitsB h w s t = true) : 1 ≤ (h - s).tdiv t + 1 ∧ (h - s).tdiv t + 1 ≤ 8 ∧ 1 ≤ (w - s).tdiv t + 1 ∧ (w - s).tdiv t + 1 ≤ 8 := by
  simp only [fitsB, Bool.and_eq_true, inB_iff] at hf
  have h1 := tdiv_bd (a := h - s) (t := t) (by omega) (by omega) (by omega) (by omega)
  have h2 := tdiv_bd (a := w - s) (t := t) (by omega) (by omega) (by omega) (by omega)
  omega
theorem outL_ok {h w c k o s t m f z : Int} {xs ys : List Int} {a b d : Int} (h1 : outL h w c k o s t m f z xs ys = some (a, b, d)) : shOk a b d = true := by
  have hs := outL_sh h1
  have hb := shOk_iff.1 hs
  have hk := outL_kind h1
  rw [shOk_iff]
  have hcase : k = 0 ∨ k = 1 ∨ k = 2 ∨ k = 3 ∨ k = 4 ∨ k = 5 := by omega
  unfold outL at h1
  rw [hs, if_pos rfl] at h1
  rcases hcase with rfl | rfl | rfl | rfl | rfl | rfl
  · rw [if_pos rfl] at h1
    split at h1
    · rename_i hc
      simp only [Bool.and_eq_true, rightB, inB_iff] at hc
      cases h1
      omega
    · cases h1
  · rw [if_neg (by omega), if_pos rfl] at h1
    split at h1
    · rename_i hc
      simp only [Bool.and_eq_true] at hc
      have hf := fits_out ⟨hb.1, hb.2.1, hb.2.2.1, hb.2.2.2.1⟩ hc.1
      have ho := hc.2.1
      simp only [rightB, Bool.and_eq_true, inB_iff] at ho
      cases h1
      omega
    · cases h1
  · rw [if_neg (by omega), if_neg (by omega), if_pos (.inl rfl)] at h1
    split at h1
    · rename_i hc
      simp only [Bool.and_eq_true] at hc
      have hf := fits_out ⟨hb.1, hb.2.1, hb.2.2.1, hb.2.2.2.1⟩ hc.2.2
      cases h1
      omega
    · cases h1
  · rw [if_neg (by omega), if_neg (by omega), if_pos (.inr rfl)] at h1
    split at h1
    · rename_i hc
      simp only [Bool.and_eq_true] at hc
      have hf := fits_out ⟨hb.1, hb.2.1, hb.2.2.1, hb.2.2.2.1⟩ hc.2.2
      cases h1
      omega
    · cases h1
  · rw [if_neg (by omega), if_neg (by omega), if_neg (by omega), if_pos rfl] at h1
    split at h1
    · cases h1
      exact hb
    · cases h1
  · rw [if_neg (by omega), if_neg (by omega), if_neg (by omega), if_neg (by omega), if_pos rfl] at h1
    split at h1
    · rename_i hc
      simp only [Bool.and_eq_true, decide_eq_true_eq] at hc
      have := szOf_yes hs
      cases h1
      omega
    · cases h1
def szN (s : Sh) : Nat := (szOf s.1 s.2.1 s.2.2).toNat
theorem szN_cast (a b c : Int) : szOf a b c = (szN (a, b, c) : Int) := by
  have := szOf_bd a b c
  simp only [szN]; omega
theorem szN_ok {a b c : Int} (h : shOk a b c = true) : 1 ≤ szN (a, b, c) ∧ szN (a, b, c) ≤ 512 := by
  have := szOf_yes h
  simp only [szN]; omega
theorem szN_le (s : Sh) : szN s ≤ 512 := by
  have := szOf_bd s.1 s.2.1 s.2.2
  simp only [szN]; omega
def shAt (ss : List Sh) (j : Nat) : Sh := ss.getD j (0, 0, 0)
theorem shAt_eq {ss : List Sh} {j : Nat} {s : Sh} (h : ss[j]? = some s) : shAt ss j = s := by simp [shAt, List.getD_eq_getElem?_getD, h]
def msum (ss : List Sh) (j : Nat) : Nat := szN (shAt ss j) + szN (shAt ss (j + 1))
def memU (ss : List Sh) : Nat → Nat
  | 0 => 0
  | k + 1 => if memU ss k < msum ss k then msum ss k else memU ss k
theorem shC_none' {x : List Sh} {j : Nat} (h : j < x.length) : ∃ a b c, x[j]? = some (a, b, c) := by
  obtain ⟨e, he⟩ : ∃ e, x[j]? = some e := ⟨_, List.getElem?_eq_getElem h⟩
  obtain ⟨a, b, c⟩ := e
  exact ⟨a, b, c, he⟩
theorem memU_le (ss : List Sh) (k : Nat) : memU ss k ≤ 1024 := by
  induction k with
  | zero => simp [memU]
  | succ k ih =>
    have h1 := szN_le (shAt ss k)
    have h2 := szN_le (shAt ss (k + 1))
    simp only [memU]
    split
    · unfold msum; omega
    · exact ih
theorem msum_le (ss : List Sh) (k : Nat) : msum ss k ≤ 1024 := by
  have h1 := szN_le (shAt ss k)
  have h2 := szN_le (shAt ss (k + 1))
  unfold msum; omega
def memM (s : Sh) (ls : List Lay) : Nat := match modW s ls with
  | none => 0
  | some (ss, _) => memU ss ls.length
set_option maxRecDepth 100000 in
set_option maxHeartbeats 2000000 in
theorem memoryS (h w c : Int) (A : Option Addr) (n p : Nat) (ls : List Lay) (W : World) (hr : RdL W A n ls) (hn : n + big ls ≤ 1048576) :
    Calls Try.prog 30 #[.agg #[.int .i64 h, .int .i64 w, .int .i64 c, .slice A n p]] W fun e W' => e = .returned (.int .i64 (memM (h, w, c) ls)) ∧ Below W.heap.size W W' := by
  have b0 := (Below.refl _ W).alloc (Nat.le_refl _) (.cells #[.int .i64 h, .int .i64 w, .int .i64 c, .slice A n p] 32)
  have HC := Lib.hid (l04ShapesS h w c A n p ls _ (hr.of_below b0) hn)
  have B0 := Lib.hid b0
  have HL := Lib.hid hr.1
  clear b0 hr hn
  obtain ⟨R, hR⟩ : ∃ R, memM (h, w, c) ls = R := ⟨_, rfl⟩
  rw [hR]
  have HRR := Lib.hid hR
  clear hR
  go_enter Try.func30, Try.ntmps30
  go_wp2_with fail
  refine HC.out.mono ?_
  rintro e w1 ⟨b1, he⟩
  have B1 := Lib.hid (B0.out.trans (b1.mono B0.out.size))
  clear b1
  rcases hm : modW (h, w, c) ls with _ | ⟨ss, l⟩
  · rw [hm] at he
    have hRN : Hid (R = 0) := Lib.hid (by rw [← HRR.out, memM, hm])
    clear hm
    subst he
    go_wp2_with fail
    go_loopg [3, 6] 0 (fun gk t i wr => t = .int .i64 0 ∧ i = .int .i64 1 ∧ w1 = wr)
    case atStart => exact ⟨rfl, rfl, rfl⟩
    case round =>
      obtain ⟨rfl, rfl, rfl⟩ := hrel
      go_wp2_with fail
      go_ret
      exact ⟨ret_int (by rw [hRN.out]; rfl), B1.out⟩
  rw [hm] at he
  obtain ⟨V, rfl, ov⟩ := he
  have hRC : Hid (R = memU ss n) := Lib.hid (by rw [← HRR.out, memM, hm, HL.out])
  have WF := Lib.hid (way_facts (modW_some hm).1)
  have hn6 : (n : Int) ≤ 6 := by have := HL.out; have := (modW_some hm).2; omega
  obtain ⟨gO, cap, rfl, hgO, hgl⟩ := ownsRow_some ov (Nat.succ_pos n)
  have OV := Lib.hid ov
  clear hm ov hgO hgl
  go_wp2_with fail
  go_loopw [3, 6] (fun t i wr => ∃ k : Nat, k ≤ n ∧ i = .int .i64 ((k : Int) + 1) ∧ t = .int .i64 (memU ss k) ∧ Hid (Below w1.heap.size w1 wr)) (fun _ i _ => n + 1 - (intOf i).toNat)
  case atStart => exact ⟨0, Nat.zero_le _, rfl, rfl, Lib.hid (Below.refl _ _)⟩
  case round =>
    obtain ⟨k, hk, rfl, rfl, HB⟩ := hrel
    have BW := Lib.hid (B1.out.trans (HB.out.mono B1.out.size))
    by_cases hlt : k < n
    · obtain ⟨x, y, v, hs1⟩ := shC_none' (x := ss) (j := k) (by have := WF.out.1; have := HL.out; omega)
      obtain ⟨x2, y2, v2, hs2⟩ := shC_none' (x := ss) (j := k + 1) (by have := WF.out.1; have := HL.out; omega)
      obtain ⟨q0, q1, q2⟩ := shC_at hs1
      obtain ⟨r0, r1, r2⟩ := shC_at hs2
      have ow := ownsRow_below OV.out HB.out
      have c0 := cell_regrown ((ow.cellAt (k * 3) (by omega)).trans q0)
      have c1 := cell_regrown ((ow.cellAt (k * 3 + 1) (by omega)).trans q1)
      have c2 := cell_regrown ((ow.cellAt (k * 3 + 2) (by omega)).trans q2)
      have d0 := cell_regrown ((ow.cellAt ((k + 1) * 3) (by omega)).trans r0)
      have d1 := cell_regrown ((ow.cellAt ((k + 1) * 3 + 1) (by omega)).trans r1)
      have d2 := cell_regrown ((ow.cellAt ((k + 1) * 3 + 2) (by omega)).trans r2)
      have hik : (k : Int) + 1 < (n : Int) + 1 := by omega
      have hik2 : (k : Int) < (n : Int) + 1 := by omega
      have i0 : (0 : Int) ≤ k := Int.natCast_nonneg k
      have i1 : IntKind.i64.wrap ((k : Int) + 1 - 1) = k := by rw [IntWalk.i64_in _ (by omega)]; omega
      have i2 : ((k : Int) + 1).toNat = k + 1 := by omega
      obtain ⟨ms, hms⟩ : ∃ ms, msum ss k = ms := ⟨_, rfl⟩
      have hmv : szOf x y v + szOf x2 y2 v2 = (ms : Int) := by
        rw [szN_cast, szN_cast, ← hms]
        unfold msum
        rw [shAt_eq hs1, shAt_eq hs2]
        omega
      have hmb := msum_le ss k
      have hmu := memU_le ss k
      have e3 : IntKind.i64.wrap (szOf x y v + szOf x2 y2 v2) = (ms : Int) := by rw [hmv]; exact IntWalk.i64_in _ (by omega)
      have HMS := Lib.hid hms
      have HMV := Lib.hid hmv
      clear q0 q1 q2 r0 r1 r2 hs1 hs2 ow hms hmv
      go_wp2_with fail
      have p0 := Lib.hid (fun dd os => Calls.regrown_of (sizeOfS x y v (grow (redrawn wr dd) os)))
      have p1 := Lib.hid (fun dd os => Calls.regrown_of (sizeOfS x2 y2 v2 (grow (redrawn wr dd) os)))
      refine wp_region_quiet_below mixed (by kernel_rfl) ?_
      repeat (go_big_quiet_step (first | with_reducible exact p0.out _ _ | with_reducible exact p1.out _ _))
      refine wpQuiet_nil ?_
      intro _ hw'
      obtain ⟨⟨dq, osq⟩, rfl⟩ := hw'
      have HB2 := Lib.hid (HB.out.trans ((below_regrown wr dq osq).mono HB.out.size))
      clear c0 c1 c2 d0 d1 d2 p0 p1 BW i1
      generalize grow (redrawn wr dq) osq = u9 at HB2 ⊢
      have HMU : Hid (memU ss (k + 1) = if memU ss k < ms then ms else memU ss k) := Lib.hid (by rw [← HMS.out]; rfl)
      obtain ⟨mu, hmu'⟩ : ∃ mu, memU ss k = mu := ⟨_, rfl⟩
      rw [hmu'] at hmu HMU ⊢
      rw [HMS.out] at hmb
      have hw1 : IntKind.i64.wrap ((k : Int) + 1 + 1) = (k : Int) + 1 + 1 := IntWalk.i64_in _ (by omega)
      by_cases hgt : mu < ms
      · have hgt2 : (mu : Int) < (ms : Int) := by omega
        rw [if_pos hgt] at HMU
        clear e3 hmu' hgt
        go_wp2_with fail
        go_roundw
        case rel => exact ⟨k + 1, by omega, by first | go_num | (trace_state; sorry), by rw [HMU.out], HB2⟩
        case measure => simp [intOf, hw1]; omega
      · have hgt2 : ¬ (mu : Int) < (ms : Int) := by omega
        rw [if_neg hgt] at HMU
        clear e3 hmu' hgt
        go_wp2_with fail
        go_roundw
        case rel => exact ⟨k + 1, by omega, by first | go_num | (trace_state; sorry), by rw [HMU.out], HB2⟩
        case measure => simp [intOf, hw1]; omega
    · obtain rfl : k = n := by omega
      clear hk
      go_wp2_with fail
      go_ret
      exact ⟨ret_int (by rw [hRC.out]), BW.out⟩
end Qt
end Go.Proofs.Ytklefnmhknlilaa
