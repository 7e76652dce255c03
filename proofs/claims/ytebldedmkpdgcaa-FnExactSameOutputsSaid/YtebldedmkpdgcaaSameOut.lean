/- What SameOutputs (of the program and of its model) gives when it is called. Conditions: the slices read as the lists that are named. -/
import Derived.Test.YtebldedmkpdgcaaTnsMark
import Derived.Test.YtebldedmkpdgcaaTnsEq
import Derived.Test.YtebldedmkpdgcaaSame
import Derived.Lib.QuietBelow
namespace Go.Proofs.Ytebldedmkpdgcaa
open Go.RowKit Go.Sort
set_option linter.unusedSimpArgs false
set_option linter.unusedVariables false
namespace Qt
def sameTn (s t : Tns) : Bool := sameOf s.h s.w s.c s.xs t.h t.w t.c t.xs
def soL : List Tns → List Tns → Bool
  | [], [] => true
  | s :: r, t :: q => if sameTn s t then soL r q else false
  | _, _ => false
theorem soL_step {ss ts : List Tns} {k : Nat} {s t : Tns} (h : ss[k]? = some s) (h2 : ts[k]? = some t) : soL (ss.drop k) (ts.drop k) = if sameTn s t then soL (ss.drop (k + 1)) (ts.drop (k + 1)) else false := by
  obtain ⟨hk, e⟩ := List.getElem?_eq_some_iff.1 h
  obtain ⟨hk2, e2⟩ := List.getElem?_eq_some_iff.1 h2
  rw [List.drop_eq_getElem_cons hk, List.drop_eq_getElem_cons hk2, e, e2]
  simp [soL]
theorem soL_end {ss ts : List Tns} {k : Nat} (h : ss.length = k) (h2 : ts.length = k) : soL (ss.drop k) (ts.drop k) = true := by
  rw [List.drop_of_length_le (by omega), List.drop_of_length_le (by omega)]; rfl
theorem soL_len (ss ts : List Tns) (h : ss.length ≠ ts.length) : soL ss ts = false := by
  induction ss generalizing ts with
  | nil => cases ts with
    | nil => simp at h
    | cons => rfl
  | cons s r ih => cases ts with
    | nil => rfl
    | cons t q =>
      rw [soL, ih q (by simpa using h)]
      split <;> rfl
set_option maxRecDepth 10000 in
set_option maxHeartbeats 1000000 in
theorem sameOutS (A A2 : Option Addr) (n n2 p p2 : Nat) (ss ts : List Tns) (W : World) (hr : RdTns W A n ss) (hr2 : RdTns W A2 n2 ts) (hn : n + bigTns ss ≤ 1048576) (hn2 : n2 + bigTns ts ≤ 1048576) :
    Calls Try.prog 34 #[.slice A n p, .slice A2 n2 p2] W fun e W' => e = .returned (.bool (soL ss ts)) ∧ Below W.heap.size W W' := by
  have HR := Lib.hid hr
  have HR2 := Lib.hid hr2
  have HN := Lib.hid hn
  have HN2 := Lib.hid hn2
  have hn1 : (n : Int) ≤ 1048576 := by omega
  have hm1 : (n2 : Int) ≤ 1048576 := by omega
  have hl := hr.1
  have hl2 := hr2.1
  obtain ⟨R, hR⟩ : ∃ R, R = soL ss ts := ⟨_, rfl⟩
  rw [← hR]
  by_cases hne : n = n2
  case neg =>
    obtain rfl : R = false := by rw [hR]; exact soL_len ss ts (by omega)
    have hne2 : ((n : Int) == (n2 : Int)) = false := by simp; omega
    have hne3 : ((n : Int) != (n2 : Int)) = true := by simp; omega
    clear hr hr2 hn hn2 hR hl hl2 hne
    go_enter Try.func34, Try.ntmps34
    go_wp2_with fail
    go_ret
    exact ⟨rfl, Below.refl _ _⟩
  subst hne
  have HRR := Lib.hid hR
  have HL := Lib.hid hl
  have HL2 := Lib.hid hl2
  clear hr hr2 hn hn2 hR hm1 hl hl2
  go_enter Try.func34, Try.ntmps34
  go_wp2_with fail
  go_loopw [5] (fun i wr => ∃ k : Nat, k ≤ n ∧ i = .int .i64 k ∧ Hid (R = soL (ss.drop k) (ts.drop k)) ∧ Below W.heap.size W wr) (fun i _ => n - (intOf i).toNat)
  case atStart => exact ⟨0, Nat.zero_le _, rfl, HRR, Below.refl _ _⟩
  case round =>
    clear HRR
    obtain ⟨k, hk, rfl, HF, hb⟩ := hrel
    have HW := Lib.hid hb
    clear hb
    by_cases hlt : k < n
    · obtain ⟨b, off, h1, w1, c1, A', n', p', xs, rfl, hbs, hj, hat⟩ := (HR.out.of_below HW.out).at hlt
      obtain ⟨b2, off2, h2, w2, c2, A3, n3, p3, ys, rfl, hbs2, hj2, hat2⟩ := (HR2.out.of_below HW.out).at hlt
      obtain ⟨ea0, ea1, ea2, ea3⟩ := hat.cells
      obtain ⟨eb0, eb1, eb2, eb3⟩ := hat2.cells
      have hbig := bigTns_at1 hj
      have hbig2 := bigTns_at1 hj2
      have hle := hat.lens
      have hle2 := hat2.lens
      have N1 : Hid (n' ≤ 1048576) := Lib.hid (by have := HN.out; omega)
      have N3 : Hid (n3 ≤ 1048576) := Lib.hid (by have := HN2.out; omega)
      have R1 := Lib.hid hat.rds
      have R3 := Lib.hid hat2.rds
      obtain ⟨T, hT⟩ : ∃ T, sameOf h1 w1 c1 xs h2 w2 c2 ys = T := ⟨_, rfl⟩
      have HST : Hid (soL (ss.drop k) (ts.drop k) = if T then soL (ss.drop (k + 1)) (ts.drop (k + 1)) else false) := Lib.hid (by rw [soL_step hj hj2]; simp only [sameTn, hT])
      have HT := Lib.hid hT
      clear hat hat2 hj hj2 hbig hbig2 hle hle2 hT
      have hi : (k : Int) < (n : Int) := by omega
      clear hbs hbs2
      go_wp2_with fail
      replace ea0 := cell_regrown ea0
      replace eb0 := cell_regrown eb0
      replace ea1 := cell_regrown ea1
      replace eb1 := cell_regrown eb1
      replace ea2 := cell_regrown ea2
      replace eb2 := cell_regrown eb2
      replace ea3 := cell_regrown ea3
      replace eb3 := cell_regrown eb3
      have q0 := Lib.hid (fun dd os => Calls.regrown_of (sameS h1 w1 c1 A' n' p' xs h2 w2 c2 A3 n3 p3 ys (grow (redrawn wr dd) os) (R1.out.of_below (below_regrown wr dd os)) N1.out (R3.out.of_below (below_regrown wr dd os)) N3.out))
      rw [HT.out] at q0
      refine wp_region_quiet_below mixed (by kernel_rfl) ?_
      repeat (go_big_quiet_step (first | with_reducible exact q0.out _ _))
      refine wpQuiet_nil ?_
      intro _ hw'
      obtain ⟨⟨dq, osq⟩, rfl⟩ := hw'
      have HW2 := Lib.hid (HW.out.trans ((below_regrown wr dq osq).mono HW.out.size))
      clear ea0 ea1 ea2 ea3 eb0 eb1 eb2 eb3 q0
      generalize grow (redrawn wr dq) osq = u9 at HW2 ⊢
      rcases T with _ | _
      · obtain rfl : R = false := by rw [HF.out, HST.out]; rfl
        go_wp2_with fail
        go_ret
        exact ⟨rfl, HW2.out⟩
      · have HF2 : Hid (R = soL (ss.drop (k + 1)) (ts.drop (k + 1))) := Lib.hid (by rw [HF.out, HST.out]; rfl)
        go_wp2_with fail
        go_roundw
        case rel => exact ⟨k + 1, by omega, by go_num, HF2, HW2.out⟩
        case measure => simp [intOf]; omega
    · obtain rfl : k = n := by omega
      obtain rfl : R = true := by rw [HF.out]; exact soL_end HL.out HL2.out
      go_wp2_with fail
      go_ret
      exact ⟨rfl, HW.out⟩
set_option maxRecDepth 10000 in
set_option maxHeartbeats 1000000 in
theorem sameOutF (A A2 : Option Addr) (n n2 p p2 : Nat) (ss ts : List Tns) (W : World) (hr : RdTns W A n ss) (hr2 : RdTns W A2 n2 ts) (hn : n + bigTns ss ≤ 1048576) (hn2 : n2 + bigTns ts ≤ 1048576) :
    Calls Try.prog 88 #[.slice A n p, .slice A2 n2 p2, .func (.func 63) #[] #[]] W fun e W' => e = .returned (.bool (soL ss ts)) ∧ Below W.heap.size W W' := by
  have HR := Lib.hid hr
  have HR2 := Lib.hid hr2
  have HN := Lib.hid hn
  have HN2 := Lib.hid hn2
  have hn1 : (n : Int) ≤ 1048576 := by omega
  have hm1 : (n2 : Int) ≤ 1048576 := by omega
  have hl := hr.1
  have hl2 := hr2.1
  obtain ⟨R, hR⟩ : ∃ R, R = soL ss ts := ⟨_, rfl⟩
  rw [← hR]
  by_cases hne : n = n2
  case neg =>
    obtain rfl : R = false := by rw [hR]; exact soL_len ss ts (by omega)
    have hne2 : ((n : Int) == (n2 : Int)) = false := by simp; omega
    have hne3 : ((n : Int) != (n2 : Int)) = true := by simp; omega
    clear hr hr2 hn hn2 hR hl hl2 hne
    go_enter Try.func88, Try.ntmps88
    go_wp2_with fail
    go_ret
    exact ⟨rfl, Below.refl _ _⟩
  subst hne
  have HRR := Lib.hid hR
  have HL := Lib.hid hl
  have HL2 := Lib.hid hl2
  clear hr hr2 hn hn2 hR hm1 hl hl2
  go_enter Try.func88, Try.ntmps88
  go_wp2_with fail
  go_loopw [17] (fun i wr => ∃ k : Nat, k ≤ n ∧ i = .int .i64 k ∧ Hid (R = soL (ss.drop k) (ts.drop k)) ∧ Below W.heap.size W wr) (fun i _ => n - (intOf i).toNat)
  case atStart => exact ⟨0, Nat.zero_le _, rfl, HRR, Below.refl _ _⟩
  case round =>
    clear HRR
    obtain ⟨k, hk, rfl, HF, hb⟩ := hrel
    have HW := Lib.hid hb
    clear hb
    by_cases hlt : k < n
    · obtain ⟨b, off, h1, w1, c1, A', n', p', xs, rfl, hbs, hj, hat⟩ := (HR.out.of_below HW.out).at hlt
      obtain ⟨b2, off2, h2, w2, c2, A3, n3, p3, ys, rfl, hbs2, hj2, hat2⟩ := (HR2.out.of_below HW.out).at hlt
      obtain ⟨ea0, ea1, ea2, ea3⟩ := hat.cells
      obtain ⟨eb0, eb1, eb2, eb3⟩ := hat2.cells
      have hbig := bigTns_at1 hj
      have hbig2 := bigTns_at1 hj2
      have hle := hat.lens
      have hle2 := hat2.lens
      have N1 : Hid (n' ≤ 1048576) := Lib.hid (by have := HN.out; omega)
      have N3 : Hid (n3 ≤ 1048576) := Lib.hid (by have := HN2.out; omega)
      have R1 := Lib.hid hat.rds
      have R3 := Lib.hid hat2.rds
      obtain ⟨T, hT⟩ : ∃ T, sameOf h1 w1 c1 xs h2 w2 c2 ys = T := ⟨_, rfl⟩
      have HST : Hid (soL (ss.drop k) (ts.drop k) = if T then soL (ss.drop (k + 1)) (ts.drop (k + 1)) else false) := Lib.hid (by rw [soL_step hj hj2]; simp only [sameTn, hT])
      have HT := Lib.hid hT
      clear hat hat2 hj hj2 hbig hbig2 hle hle2 hT
      have hi : (k : Int) < (n : Int) := by omega
      have b0 := ((Below.refl _ wr).alloc (Nat.le_refl _) (.cells #[.int .i64 h1, .int .i64 w1, .int .i64 c1, .slice A' n' p'] 68)).alloc (by simp) (.cells #[.int .i64 h2, .int .i64 w2, .int .i64 c2, .slice A3 n3 p3] 68)
      have HS := Lib.hid (sameI h1 w1 c1 A' n' p' xs h2 w2 c2 A3 n3 p3 ys _ (R1.out.of_below b0) N1.out (R3.out.of_below b0) N3.out)
      rw [HT.out] at HS
      have HB0 := Lib.hid (HW.out.trans (b0.mono HW.out.size))
      clear b0
      go_wp2_with fail
      refine HS.out.mono ?_
      rintro e u9 ⟨rfl, bb⟩
      have HW2 := Lib.hid (HB0.out.trans (bb.mono HB0.out.size))
      clear hbs hbs2 bb HS HB0 ea0 ea1 ea2 ea3 eb0 eb1 eb2 eb3
      rcases T with _ | _
      · obtain rfl : R = false := by rw [HF.out, HST.out]; rfl
        go_wp2_with fail
        go_ret
        exact ⟨rfl, HW2.out⟩
      · have HF2 : Hid (R = soL (ss.drop (k + 1)) (ts.drop (k + 1))) := Lib.hid (by rw [HF.out, HST.out]; rfl)
        go_wp2_with fail
        go_roundw
        case rel => exact ⟨k + 1, by omega, by go_num, HF2, HW2.out⟩
        case measure => simp [intOf]; omega
    · obtain rfl : k = n := by omega
      obtain rfl : R = true := by rw [HF.out]; exact soL_end HL.out HL2.out
      go_wp2_with fail
      go_ret
      exact ⟨rfl, HW.out⟩
theorem sameOutI (A A2 : Option Addr) (n n2 p p2 : Nat) (ss ts : List Tns) (W : World) (hr : RdTns W A n ss) (hr2 : RdTns W A2 n2 ts) (hn : n + bigTns ss ≤ 1048576) (hn2 : n2 + bigTns ts ≤ 1048576) :
    Calls Try.prog 36 #[.slice A n p, .slice A2 n2 p2] W fun e W' => e = .returned (.bool (soL ss ts)) ∧ Below W.heap.size W W' := by
  have H := Lib.hid (sameOutF A A2 n n2 p p2 ss ts W hr hr2 hn hn2)
  clear hr hr2 hn hn2
  generalize soL ss ts = R at H ⊢
  go_enter Try.func36, Try.ntmps36
  go_wp2_with fail
  refine H.out.mono ?_
  rintro e w1 ⟨rfl, bb⟩
  have BB := Lib.hid bb
  clear bb H
  go_wp2_with fail
  go_ret
  exact ⟨rfl, BB.out⟩
end Qt
end Go.Proofs.Ytebldedmkpdgcaa
