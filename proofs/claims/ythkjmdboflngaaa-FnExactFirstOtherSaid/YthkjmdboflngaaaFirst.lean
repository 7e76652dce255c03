/- What FirstOther (of the program and of its model) gives when it is called. Conditions: the slices of steps read as the lists that are named. -/
import Derived.Test.YthkjmdboflngaaaSameStep
namespace Go.Proofs.Ythkjmdboflngaaa
open Go.RowKit Go.Sort
set_option linter.unusedSimpArgs false
set_option linter.unusedVariables false
namespace Qt
def sameTwo (s t : Stp) : Bool := sameSt s.k s.a s.b s.h s.w s.c s.bs s.xs t.k t.a t.b t.h t.w t.c t.bs t.xs
def firstFrom : List Stp → List Stp → Int → Int
  | [], [], _ => -1
  | s :: r, t :: q, i => if sameTwo s t then firstFrom r q (i + 1) else i
  | _, _, i => i
theorem first_step {ss ts : List Stp} {k : Nat} {s t : Stp} (h : ss[k]? = some s) (h2 : ts[k]? = some t) : firstFrom (ss.drop k) (ts.drop k) k = if sameTwo s t then firstFrom (ss.drop (k + 1)) (ts.drop (k + 1)) (k + 1 : Nat) else (k : Int) := by
  obtain ⟨hk, e⟩ := List.getElem?_eq_some_iff.1 h
  obtain ⟨hk2, e2⟩ := List.getElem?_eq_some_iff.1 h2
  rw [List.drop_eq_getElem_cons hk, List.drop_eq_getElem_cons hk2, e, e2]
  simp [firstFrom]
theorem first_end1 {ss ts : List Stp} {k : Nat} (h : ss.length = k) (h2 : ts.length = k) : firstFrom (ss.drop k) (ts.drop k) k = -1 := by
  rw [List.drop_of_length_le (by omega), List.drop_of_length_le (by omega)]; rfl
theorem first_end2 {ss ts : List Stp} {k : Nat} (h : ss.length = k) (h2 : k < ts.length) : firstFrom (ss.drop k) (ts.drop k) k = (k : Int) := by
  rw [List.drop_of_length_le (by omega), List.drop_eq_getElem_cons h2]; rfl
theorem first_end3 {ss ts : List Stp} {k : Nat} (h : k < ss.length) (h2 : ts.length = k) : firstFrom (ss.drop k) (ts.drop k) k = (k : Int) := by
  have e : ts.drop k = [] := List.drop_of_length_le (by omega)
  rw [List.drop_eq_getElem_cons h, e]; rfl
set_option maxRecDepth 10000 in
set_option maxHeartbeats 1000000 in
theorem firstS (A A2 : Option Addr) (n n2 p p2 : Nat) (ss ts : List Stp) (W : World) (hr : RdSt W A n ss) (hr2 : RdSt W A2 n2 ts) (hn : n + bigS ss ≤ 1048576) (hn2 : n2 + bigS ts ≤ 1048576) (hb : ∀ s ∈ ss, ByB s.bs) (hb2 : ∀ s ∈ ts, ByB s.bs) :
    Calls Try.prog 35 #[.slice A n p, .slice A2 n2 p2] W fun e W' => e = .returned (.int .i64 (firstFrom ss ts 0)) ∧ Below W.heap.size W W' := by
  have HR := Lib.hid hr
  have HR2 := Lib.hid hr2
  have HN := Lib.hid hn
  have HN2 := Lib.hid hn2
  have HB := Lib.hid hb
  have HB2 := Lib.hid hb2
  have hn1 : (n : Int) ≤ 1048576 := by omega
  have hm1 : (n2 : Int) ≤ 1048576 := by omega
  have hl := hr.1
  have hl2 := hr2.1
  obtain ⟨R, hR⟩ : ∃ R, R = firstFrom ss ts 0 := ⟨_, rfl⟩
  rw [← hR]
  have HRR := Lib.hid hR
  clear hr hr2 hn hn2 hb hb2 hR
  go_enter Try.func35, Try.ntmps35
  go_wp2_with fail
  go_loopw [5] (fun i wr => ∃ k : Nat, k ≤ n ∧ k ≤ n2 ∧ i = .int .i64 k ∧ Hid (R = firstFrom (ss.drop k) (ts.drop k) k) ∧ Below W.heap.size W wr) (fun i _ => n - (intOf i).toNat)
  case atStart => exact ⟨0, Nat.zero_le _, Nat.zero_le _, rfl, HRR, Below.refl _ _⟩
  case round =>
    clear HRR
    obtain ⟨k, hk, hk2, rfl, HF, hb⟩ := hrel
    have HW := Lib.hid hb
    clear hb
    by_cases hlt : k < n ∧ k < n2
    · obtain ⟨b, off, k', a', b', h', w', c', A', n', p', B', q', r', bs, xs, rfl, hbs, hj, hat⟩ := (HR.out.of_below HW.out).at hlt.1
      obtain ⟨b2, off2, k2, a2, b2', h2, w2, c2, A3, n3, p3, B3, q3, r3, bs2, ys, rfl, hbs2, hj2, hat2⟩ := (HR2.out.of_below HW.out).at hlt.2
      obtain ⟨c0, c1, c2', c3, c4, c5, c6, c7⟩ := hat.cells8
      obtain ⟨d0, d1, d2, d3, d4, d5, d6, d7⟩ := hat2.cells8
      have hbig := bigS_at8 hj
      have hbig2 := bigS_at8 hj2
      have hle := hat.lens
      have hle2 := hat2.lens
      have N1 : Hid (n' ≤ 1048576) := Lib.hid (by have := HN.out; omega)
      have N2 : Hid (q' ≤ 1048576) := Lib.hid (by have := HN.out; omega)
      have N3 : Hid (n3 ≤ 1048576) := Lib.hid (by have := HN2.out; omega)
      have N4 : Hid (q3 ≤ 1048576) := Lib.hid (by have := HN2.out; omega)
      have R1 := Lib.hid hat.rds.1
      have R2 := Lib.hid hat.rds.2
      have R3 := Lib.hid hat2.rds.1
      have R4 := Lib.hid hat2.rds.2
      have BY1 : Hid (ByB bs) := Lib.hid (HB.out _ (List.mem_of_getElem? hj))
      have BY2 : Hid (ByB bs2) := Lib.hid (HB2.out _ (List.mem_of_getElem? hj2))
      obtain ⟨T, hT⟩ : ∃ T, sameSt k' a' b' h' w' c' bs xs k2 a2 b2' h2 w2 c2 bs2 ys = T := ⟨_, rfl⟩
      have HST : Hid (firstFrom (ss.drop k) (ts.drop k) k = if T then firstFrom (ss.drop (k + 1)) (ts.drop (k + 1)) (k + 1 : Nat) else (k : Int)) := Lib.hid (by rw [first_step hj hj2]; simp only [sameTwo, hT])
      have HT := Lib.hid hT
      clear hat hat2 hj hj2 hbs hbs2 hbig hbig2 hle hle2 hT
      obtain ⟨hi, hi2⟩ : (k : Int) < (n : Int) ∧ (k : Int) < (n2 : Int) := by omega
      go_wp2_with fail
      replace c0 := cell_regrown c0
      replace d0 := cell_regrown d0
      replace c1 := cell_regrown c1
      replace d1 := cell_regrown d1
      replace c2' := cell_regrown c2'
      replace d2 := cell_regrown d2
      replace c3 := cell_regrown c3
      replace d3 := cell_regrown d3
      replace c4 := cell_regrown c4
      replace d4 := cell_regrown d4
      replace c5 := cell_regrown c5
      replace d5 := cell_regrown d5
      replace c6 := cell_regrown c6
      replace d6 := cell_regrown d6
      replace c7 := cell_regrown c7
      replace d7 := cell_regrown d7
      have q0 := Lib.hid (fun dd os => Calls.regrown_of (sameStepS k' a' b' h' w' c' A' n' p' bs B' q' r' xs k2 a2 b2' h2 w2 c2 A3 n3 p3 bs2 B3 q3 r3 ys (grow (redrawn wr dd) os) (R1.out.of_below (below_regrown wr dd os)) (R2.out.of_below (below_regrown wr dd os)) (R3.out.of_below (below_regrown wr dd os)) (R4.out.of_below (below_regrown wr dd os)) N1.out N2.out N3.out N4.out))
      rw [HT.out] at q0
      refine wp_region_quiet_below mixed (by kernel_rfl) ?_
      repeat (go_big_quiet_step (first | with_reducible exact q0.out _ _))
      refine wpQuiet_nil ?_
      intro _ hw'
      obtain ⟨⟨dq, osq⟩, rfl⟩ := hw'
      have HW2 := Lib.hid (HW.out.trans ((below_regrown wr dq osq).mono HW.out.size))
      clear c0 c1 c2' c3 c4 c5 c6 c7 d0 d1 d2 d3 d4 d5 d6 d7 q0
      generalize grow (redrawn wr dq) osq = u9 at HW2 ⊢
      rcases T with _ | _
      · obtain rfl : R = (k : Int) := by rw [HF.out, HST.out]; rfl
        go_wp2_with fail
        go_ret
        exact ⟨rfl, HW2.out⟩
      · have HF2 : Hid (R = firstFrom (ss.drop (k + 1)) (ts.drop (k + 1)) (k + 1 : Nat)) := Lib.hid (by rw [HF.out, HST.out]; rfl)
        go_wp2_with fail
        go_roundw
        case rel => exact ⟨k + 1, by omega, by omega, by go_num, HF2, HW2.out⟩
        case measure => simp [intOf]; omega
    · rcases (by omega : (k = n ∧ k = n2) ∨ (k = n ∧ n < n2) ∨ (k = n2 ∧ n2 < n)) with ⟨e1, e2⟩ | ⟨e1, e2⟩ | ⟨e1, e2⟩
      · obtain rfl : R = -1 := by rw [HF.out]; exact first_end1 (by omega) (by omega)
        subst e1
        subst e2
        go_wp2_with fail
        go_ret
        exact ⟨rfl, HW.out⟩
      · obtain rfl : R = (k : Int) := by rw [HF.out]; exact first_end2 (by omega) (by omega)
        subst e1
        have z1 : (k : Int) < (n2 : Int) := by omega
        go_wp2_with fail
        go_ret
        exact ⟨rfl, HW.out⟩
      · obtain rfl : R = (k : Int) := by rw [HF.out]; exact first_end3 (by omega) (by omega)
        subst e1
        have z1 : (k : Int) < (n : Int) := by omega
        go_wp2_with fail
        go_ret
        exact ⟨rfl, HW.out⟩
set_option maxRecDepth 10000 in
set_option maxHeartbeats 1000000 in
theorem firstIa (A A2 : Option Addr) (n n2 p p2 : Nat) (ss ts : List Stp) (W : World) (hr : RdSt W A n ss) (hr2 : RdSt W A2 n2 ts) (hn : n + bigS ss ≤ 1048576) (hn2 : n2 + bigS ts ≤ 1048576) (hb : ∀ s ∈ ss, ByB s.bs) (hb2 : ∀ s ∈ ts, ByB s.bs) (hle : n ≤ n2) :
    Calls Try.prog 36 #[.slice A n p, .slice A2 n2 p2] W fun e W' => e = .returned (.int .i64 (firstFrom ss ts 0)) ∧ Below W.heap.size W W' := by
  have HR := Lib.hid hr
  have HR2 := Lib.hid hr2
  have HN := Lib.hid hn
  have HN2 := Lib.hid hn2
  have HB := Lib.hid hb
  have HB2 := Lib.hid hb2
  have hn1 : (n : Int) ≤ 1048576 := by omega
  have hm1 : (n2 : Int) ≤ 1048576 := by omega
  have hl := hr.1
  have hl2 := hr2.1
  obtain ⟨R, hR⟩ : ∃ R, R = firstFrom ss ts 0 := ⟨_, rfl⟩
  rw [← hR]
  have HRR := Lib.hid hR
  clear hr hr2 hn hn2 hb hb2 hR
  have hmin : (n : Int) ≤ (n2 : Int) := by omega
  go_enter Try.func36, Try.ntmps36
  go_wp2_with fail
  go_loopw [13] (fun i wr => ∃ k : Nat, k ≤ n ∧ k ≤ n2 ∧ i = .int .i64 k ∧ Hid (R = firstFrom (ss.drop k) (ts.drop k) k) ∧ Below W.heap.size W wr) (fun i _ => n - (intOf i).toNat)
  case atStart => exact ⟨0, Nat.zero_le _, Nat.zero_le _, rfl, HRR, Below.refl _ _⟩
  case round =>
    clear HRR
    obtain ⟨k, hk, hk2, rfl, HF, hb⟩ := hrel
    have HW := Lib.hid hb
    clear hb
    by_cases hlt : k < n ∧ k < n2
    · obtain ⟨b, off, k', a', b', h', w', c', A', n', p', B', q', r', bs, xs, rfl, hbs, hj, hat⟩ := (HR.out.of_below HW.out).at hlt.1
      obtain ⟨b2, off2, k2, a2, b2', h2, w2, c2, A3, n3, p3, B3, q3, r3, bs2, ys, rfl, hbs2, hj2, hat2⟩ := (HR2.out.of_below HW.out).at hlt.2
      obtain ⟨c0, c1, c2', c3, c4, c5, c6, c7⟩ := hat.cells8
      obtain ⟨d0, d1, d2, d3, d4, d5, d6, d7⟩ := hat2.cells8
      have hbig := bigS_at8 hj
      have hbig2 := bigS_at8 hj2
      have hle := hat.lens
      have hle2 := hat2.lens
      have N1 : Hid (n' ≤ 1048576) := Lib.hid (by have := HN.out; omega)
      have N2 : Hid (q' ≤ 1048576) := Lib.hid (by have := HN.out; omega)
      have N3 : Hid (n3 ≤ 1048576) := Lib.hid (by have := HN2.out; omega)
      have N4 : Hid (q3 ≤ 1048576) := Lib.hid (by have := HN2.out; omega)
      have R1 := Lib.hid hat.rds.1
      have R2 := Lib.hid hat.rds.2
      have R3 := Lib.hid hat2.rds.1
      have R4 := Lib.hid hat2.rds.2
      have BY1 : Hid (ByB bs) := Lib.hid (HB.out _ (List.mem_of_getElem? hj))
      have BY2 : Hid (ByB bs2) := Lib.hid (HB2.out _ (List.mem_of_getElem? hj2))
      obtain ⟨T, hT⟩ : ∃ T, sameSt k' a' b' h' w' c' bs xs k2 a2 b2' h2 w2 c2 bs2 ys = T := ⟨_, rfl⟩
      have HST : Hid (firstFrom (ss.drop k) (ts.drop k) k = if T then firstFrom (ss.drop (k + 1)) (ts.drop (k + 1)) (k + 1 : Nat) else (k : Int)) := Lib.hid (by rw [first_step hj hj2]; simp only [sameTwo, hT])
      have HT := Lib.hid hT
      clear hat hat2 hj hj2 hbs hbs2 hbig hbig2 hle hle2 hT
      obtain ⟨hi, hi2⟩ : (k : Int) < (n : Int) ∧ (k : Int) < (n2 : Int) := by omega
      go_wp2_with fail
      replace c0 := cell_regrown c0
      replace d0 := cell_regrown d0
      replace c1 := cell_regrown c1
      replace d1 := cell_regrown d1
      replace c2' := cell_regrown c2'
      replace d2 := cell_regrown d2
      replace c3 := cell_regrown c3
      replace d3 := cell_regrown d3
      replace c4 := cell_regrown c4
      replace d4 := cell_regrown d4
      replace c5 := cell_regrown c5
      replace d5 := cell_regrown d5
      replace c6 := cell_regrown c6
      replace d6 := cell_regrown d6
      replace c7 := cell_regrown c7
      replace d7 := cell_regrown d7
      have q0 := Lib.hid (fun dd os => Calls.regrown_of (sameStepI k' a' b' h' w' c' A' n' p' bs B' q' r' xs k2 a2 b2' h2 w2 c2 A3 n3 p3 bs2 B3 q3 r3 ys (grow (redrawn wr dd) os) (R1.out.of_below (below_regrown wr dd os)) (R2.out.of_below (below_regrown wr dd os)) (R3.out.of_below (below_regrown wr dd os)) (R4.out.of_below (below_regrown wr dd os)) N1.out N2.out N3.out N4.out BY1.out BY2.out))
      rw [HT.out] at q0
      refine wp_region_quiet_below mixed (by kernel_rfl) ?_
      repeat (go_big_quiet_step (first | with_reducible exact q0.out _ _))
      refine wpQuiet_nil ?_
      intro _ hw'
      obtain ⟨⟨dq, osq⟩, rfl⟩ := hw'
      have HW2 := Lib.hid (HW.out.trans ((below_regrown wr dq osq).mono HW.out.size))
      clear c0 c1 c2' c3 c4 c5 c6 c7 d0 d1 d2 d3 d4 d5 d6 d7 q0
      generalize grow (redrawn wr dq) osq = u9 at HW2 ⊢
      rcases T with _ | _
      · obtain rfl : R = (k : Int) := by rw [HF.out, HST.out]; rfl
        go_wp2_with fail
        go_ret
        exact ⟨rfl, HW2.out⟩
      · have HF2 : Hid (R = firstFrom (ss.drop (k + 1)) (ts.drop (k + 1)) (k + 1 : Nat)) := Lib.hid (by rw [HF.out, HST.out]; rfl)
        go_wp2_with fail
        go_roundw
        case rel => exact ⟨k + 1, by omega, by omega, by go_num, HF2, HW2.out⟩
        case measure => simp [intOf]; omega
    · rcases (by omega : (k = n ∧ k = n2) ∨ (k = n ∧ n < n2) ∨ (k = n2 ∧ n2 < n)) with ⟨e1, e2⟩ | ⟨e1, e2⟩ | ⟨e1, e2⟩
      · obtain rfl : R = -1 := by rw [HF.out]; exact first_end1 (by omega) (by omega)
        subst e1
        subst e2
        go_wp2_with fail
        go_ret
        exact ⟨rfl, HW.out⟩
      · obtain rfl : R = (k : Int) := by rw [HF.out]; exact first_end2 (by omega) (by omega)
        subst e1
        have z1 : (k : Int) < (n2 : Int) := by omega
        go_wp2_with fail
        go_ret
        exact ⟨rfl, HW.out⟩
      · exfalso; omega
set_option maxRecDepth 10000 in
set_option maxHeartbeats 1000000 in
theorem firstIb (A A2 : Option Addr) (n n2 p p2 : Nat) (ss ts : List Stp) (W : World) (hr : RdSt W A n ss) (hr2 : RdSt W A2 n2 ts) (hn : n + bigS ss ≤ 1048576) (hn2 : n2 + bigS ts ≤ 1048576) (hb : ∀ s ∈ ss, ByB s.bs) (hb2 : ∀ s ∈ ts, ByB s.bs) (hle : n2 < n) :
    Calls Try.prog 36 #[.slice A n p, .slice A2 n2 p2] W fun e W' => e = .returned (.int .i64 (firstFrom ss ts 0)) ∧ Below W.heap.size W W' := by
  have HR := Lib.hid hr
  have HR2 := Lib.hid hr2
  have HN := Lib.hid hn
  have HN2 := Lib.hid hn2
  have HB := Lib.hid hb
  have HB2 := Lib.hid hb2
  have hn1 : (n : Int) ≤ 1048576 := by omega
  have hm1 : (n2 : Int) ≤ 1048576 := by omega
  have hl := hr.1
  have hl2 := hr2.1
  obtain ⟨R, hR⟩ : ∃ R, R = firstFrom ss ts 0 := ⟨_, rfl⟩
  rw [← hR]
  have HRR := Lib.hid hR
  clear hr hr2 hn hn2 hb hb2 hR
  have hmin : ¬ (n : Int) ≤ (n2 : Int) := by omega
  go_enter Try.func36, Try.ntmps36
  go_wp2_with fail
  go_loopw [13] (fun i wr => ∃ k : Nat, k ≤ n ∧ k ≤ n2 ∧ i = .int .i64 k ∧ Hid (R = firstFrom (ss.drop k) (ts.drop k) k) ∧ Below W.heap.size W wr) (fun i _ => n - (intOf i).toNat)
  case atStart => exact ⟨0, Nat.zero_le _, Nat.zero_le _, rfl, HRR, Below.refl _ _⟩
  case round =>
    clear HRR
    obtain ⟨k, hk, hk2, rfl, HF, hb⟩ := hrel
    have HW := Lib.hid hb
    clear hb
    by_cases hlt : k < n ∧ k < n2
    · obtain ⟨b, off, k', a', b', h', w', c', A', n', p', B', q', r', bs, xs, rfl, hbs, hj, hat⟩ := (HR.out.of_below HW.out).at hlt.1
      obtain ⟨b2, off2, k2, a2, b2', h2, w2, c2, A3, n3, p3, B3, q3, r3, bs2, ys, rfl, hbs2, hj2, hat2⟩ := (HR2.out.of_below HW.out).at hlt.2
      obtain ⟨c0, c1, c2', c3, c4, c5, c6, c7⟩ := hat.cells8
      obtain ⟨d0, d1, d2, d3, d4, d5, d6, d7⟩ := hat2.cells8
      have hbig := bigS_at8 hj
      have hbig2 := bigS_at8 hj2
      have hle := hat.lens
      have hle2 := hat2.lens
      have N1 : Hid (n' ≤ 1048576) := Lib.hid (by have := HN.out; omega)
      have N2 : Hid (q' ≤ 1048576) := Lib.hid (by have := HN.out; omega)
      have N3 : Hid (n3 ≤ 1048576) := Lib.hid (by have := HN2.out; omega)
      have N4 : Hid (q3 ≤ 1048576) := Lib.hid (by have := HN2.out; omega)
      have R1 := Lib.hid hat.rds.1
      have R2 := Lib.hid hat.rds.2
      have R3 := Lib.hid hat2.rds.1
      have R4 := Lib.hid hat2.rds.2
      have BY1 : Hid (ByB bs) := Lib.hid (HB.out _ (List.mem_of_getElem? hj))
      have BY2 : Hid (ByB bs2) := Lib.hid (HB2.out _ (List.mem_of_getElem? hj2))
      obtain ⟨T, hT⟩ : ∃ T, sameSt k' a' b' h' w' c' bs xs k2 a2 b2' h2 w2 c2 bs2 ys = T := ⟨_, rfl⟩
      have HST : Hid (firstFrom (ss.drop k) (ts.drop k) k = if T then firstFrom (ss.drop (k + 1)) (ts.drop (k + 1)) (k + 1 : Nat) else (k : Int)) := Lib.hid (by rw [first_step hj hj2]; simp only [sameTwo, hT])
      have HT := Lib.hid hT
      clear hat hat2 hj hj2 hbs hbs2 hbig hbig2 hle hle2 hT
      obtain ⟨hi, hi2⟩ : (k : Int) < (n : Int) ∧ (k : Int) < (n2 : Int) := by omega
      go_wp2_with fail
      replace c0 := cell_regrown c0
      replace d0 := cell_regrown d0
      replace c1 := cell_regrown c1
      replace d1 := cell_regrown d1
      replace c2' := cell_regrown c2'
      replace d2 := cell_regrown d2
      replace c3 := cell_regrown c3
      replace d3 := cell_regrown d3
      replace c4 := cell_regrown c4
      replace d4 := cell_regrown d4
      replace c5 := cell_regrown c5
      replace d5 := cell_regrown d5
      replace c6 := cell_regrown c6
      replace d6 := cell_regrown d6
      replace c7 := cell_regrown c7
      replace d7 := cell_regrown d7
      have q0 := Lib.hid (fun dd os => Calls.regrown_of (sameStepI k' a' b' h' w' c' A' n' p' bs B' q' r' xs k2 a2 b2' h2 w2 c2 A3 n3 p3 bs2 B3 q3 r3 ys (grow (redrawn wr dd) os) (R1.out.of_below (below_regrown wr dd os)) (R2.out.of_below (below_regrown wr dd os)) (R3.out.of_below (below_regrown wr dd os)) (R4.out.of_below (below_regrown wr dd os)) N1.out N2.out N3.out N4.out BY1.out BY2.out))
      rw [HT.out] at q0
      refine wp_region_quiet_below mixed (by kernel_rfl) ?_
      repeat (go_big_quiet_step (first | with_reducible exact q0.out _ _))
      refine wpQuiet_nil ?_
      intro _ hw'
      obtain ⟨⟨dq, osq⟩, rfl⟩ := hw'
      have HW2 := Lib.hid (HW.out.trans ((below_regrown wr dq osq).mono HW.out.size))
      clear c0 c1 c2' c3 c4 c5 c6 c7 d0 d1 d2 d3 d4 d5 d6 d7 q0
      generalize grow (redrawn wr dq) osq = u9 at HW2 ⊢
      rcases T with _ | _
      · obtain rfl : R = (k : Int) := by rw [HF.out, HST.out]; rfl
        go_wp2_with fail
        go_ret
        exact ⟨rfl, HW2.out⟩
      · have HF2 : Hid (R = firstFrom (ss.drop (k + 1)) (ts.drop (k + 1)) (k + 1 : Nat)) := Lib.hid (by rw [HF.out, HST.out]; rfl)
        go_wp2_with fail
        go_roundw
        case rel => exact ⟨k + 1, by omega, by omega, by go_num, HF2, HW2.out⟩
        case measure => simp [intOf]; omega
    · rcases (by omega : (k = n ∧ k = n2) ∨ (k = n ∧ n < n2) ∨ (k = n2 ∧ n2 < n)) with ⟨e1, e2⟩ | ⟨e1, e2⟩ | ⟨e1, e2⟩
      · exfalso; omega
      · exfalso; omega
      · obtain rfl : R = (k : Int) := by rw [HF.out]; exact first_end3 (by omega) (by omega)
        subst e1
        have z1 : (k : Int) < (n : Int) := by omega
        go_wp2_with fail
        go_ret
        exact ⟨rfl, HW.out⟩
end Qt
end Go.Proofs.Ythkjmdboflngaaa
