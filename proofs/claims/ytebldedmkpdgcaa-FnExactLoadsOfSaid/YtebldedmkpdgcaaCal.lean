/- What ScaleFor, SymmetricScale and WorstError (of the program and of its model) give when they are called. Conditions: the slice reads as the list that is named. -/
import Derived.Test.YtebldedmkpdgcaaRng
namespace Go.Proofs.Ytebldedmkpdgcaa
open Go.RowKit Go.Sort
set_option linter.unusedSimpArgs false
set_option linter.unusedVariables false
namespace Qt
theorem downG (x d : Int) (h : -4611686018427387904 ≤ x ∧ x ≤ 4611686018427387904) (hd : 0 < d) (hd2 : d ≤ 4611686018427387904) (w : World) :
    Calls Try.prog 151 #[.int .i64 x, .int .i64 d] w fun e w' => e = .returned (.int .i64 (x / d)) ∧ w = w' := by
  have hq := ediv_bd (x := x) (d := d) (B := 4611686018427387904) hd h.1 h.2 (by omega)
  have hne : ¬ d = 0 := by omega
  by_cases h0 : 0 ≤ x
  · have hm := Int.emod_nonneg x hne
    go_enter Try.func151, Try.ntmps151
    go_wp2
    go_ret
    exact ⟨rfl, rfl⟩
  · obtain ⟨e1, e2, e3⟩ := tdiv_facts (x := x) (d := d) hd (by omega)
    by_cases hm : x.tmod d < 0
    · obtain ⟨g1, g2⟩ := tneg_rest (x := x) (d := d) hd (by omega) hm
      have hb : -4611686018427387904 ≤ x.tdiv d - 1 ∧ x.tdiv d - 1 ≤ 4611686018427387904 := by omega
      rw [← g1]
      clear g1 g2 e3 hq
      go_enter Try.func151, Try.ntmps151
      go_wp2
      go_ret
      exact ⟨rfl, rfl⟩
    · obtain ⟨g1, g2⟩ := tneg_exact (x := x) (d := d) hd (by omega) hm
      rw [← g1]
      have hb : -4611686018427387904 ≤ x.tdiv d ∧ x.tdiv d ≤ 4611686018427387904 := by omega
      clear g1 g2 e3 hq
      go_enter Try.func151, Try.ntmps151
      go_wp2
      go_ret
      exact ⟨rfl, rfl⟩
theorem upS (a b : Int) (ha : 0 ≤ a ∧ a ≤ 2000000000) (hb : 0 < b ∧ b ≤ 1000) (w : World) :
    Calls Try.prog 150 #[.int .i64 a, .int .i64 b] w fun e w' => e = .returned (.int .i64 (numF a b)) ∧ w = w' := by
  have hu := upD_bd hb.1 ha.1 ha.2
  have hn := upD_neg a b hb.1
  have HN := Lib.hid hn
  have hq : -2000000000 ≤ -a / b ∧ -a / b ≤ 0 := by omega
  go_enter Try.func150, Try.ntmps150
  clear hn
  go_wp2_with fail
  refine (downG (-a) b (by omega) hb.1 (by omega) _).mono ?_
  rintro e w1 ⟨rfl, rfl⟩
  by_cases h1 : -(-a / b) < 1
  · go_wp2_with fail
    go_ret
    exact ⟨ret_int (by have := HN.out; unfold numF; omega), rfl⟩
  · go_wp2_with fail
    go_ret
    exact ⟨ret_int (by have := HN.out; unfold numF; omega), rfl⟩
theorem upI (x d : Int) (hx : 0 ≤ x ∧ x ≤ 2000000000) (hd : 1 ≤ d ∧ d ≤ 1000000000) (w : World) :
    Calls Try.prog 156 #[.int .i64 x, .int .i64 d] w fun e w' => e = .returned (.int .i64 (upD x d)) ∧ w = w' := by
  go_enter Try.func156, Try.ntmps156
  go_wp2_with fail
  go_ret
  exact ⟨rfl, rfl⟩
theorem run_max2 {P : Program} (ts : Array TypeId) (t : TypeId) (x y : Int) (w : World) : (Builtin.max_ ts t #[.int .i64 x, .int .i64 y]).run P w = .ok (.int .i64 (max x y)) w := by
  have h : max x y = if x < y then y else x := by split <;> omega
  rw [h]
  simp [Builtin.max_, Builtin.max2]
theorem numForI (x d : Int) (hx : 0 ≤ x ∧ x ≤ 2000000000) (hd : 1 ≤ d ∧ d ≤ 1000000000) (w : World) :
    Calls Try.prog 155 #[.int .i64 x, .int .i64 d] w fun e w' => e = .returned (.int .i64 (numF x d)) ∧ w = w' := by
  have hu := upD_bd (x := x) (d := d) (by omega) hx.1 hx.2
  have HU := Lib.hid (upI x d hx hd w)
  have hnf : numF x d = max 1 (upD x d) := rfl
  rw [hnf]
  generalize upD x d = u at HU hu ⊢
  have hmax := fun ts ty w0 => run_max2 (P := Try.prog) ts ty 1 u w0
  go_enter Try.func155, Try.ntmps155
  go_wp2_with fail
  refine HU.out.mono ?_
  rintro e w1 ⟨rfl, rfl⟩
  go_wp2_with fail
  go_ret
  exact ⟨rfl, rfl⟩
/-- The numbers of a list that is a range: within their bounds. -/
theorem rng_true {xs : List Int} (h : rngB xs = true) : -1000000000 ≤ leastR xs ∧ leastR xs ≤ 0 ∧ 0 ≤ mostR xs ∧ mostR xs ≤ 1000000000 ∧ rngL xs = leastR xs ∧ rngM xs = mostR xs := by
  have h2 := allR_mem (rngB_yes h).2
  have h3 := leastR_bd h2
  have h4 := mostR_bd h2
  refine ⟨h3.1, h3.2, h4.1, h4.2, ?_, ?_⟩
  · simp [rngL, h]
  · simp [rngM, h]
theorem scNum_a {xs : List Int} (h : rngB xs = false) : scNum xs = 0 ∧ scZero xs = 0 ∧ symNum xs = 0 ∧ rngL xs = 0 ∧ rngM xs = 0 := by simp [scNum, scZero, symNum, rngL, rngM, h]
theorem scNum_b {xs : List Int} (h : rngB xs = true) : scNum xs = numF (mostR xs - leastR xs) 255 ∧ scZero xs = sat8 (-128 + upD (-leastR xs) (numF (mostR xs - leastR xs) 255)) ∧ symNum xs = numF (max (-leastR xs) (mostR xs)) 127 := by simp [scNum, scZero, symNum, h]
theorem Bk.free2 {w : World} {g : Nat} {t : TypeId} {cs : Array Value} (h : Bk w g t cs) : w.frozen? ⟨g, 0, none⟩ = false ∧ w.frozen? ⟨g, 1, none⟩ = false := ⟨h.frozen 0, h.frozen 1⟩
theorem Bk.set2 {w : World} {g : Nat} {t : TypeId} {a b x y : Value} (h : Bk w g t #[a, b]) : Bk ((w.setCell ⟨g, 0, none⟩ x).setCell ⟨g, 1, none⟩ y) g t #[x, y] := (h.set 0 x).set 1 y
theorem below_set2 {B : Nat} {W w : World} (h : Below B W w) {b : Nat} (hb : B ≤ b) (x y : Value) : Below B W ((w.setCell ⟨b, 0, none⟩ x).setCell ⟨b, 1, none⟩ y) := (h.setCell (p := ⟨b, 0, none⟩) hb x).setCell (p := ⟨b, 1, none⟩) hb y
theorem rngSB (A : Option Addr) (n p : Nat) (xs : List Int) (W : World) (hr : RdI W A n xs) (hn : n ≤ 1048576) :
    Calls Try.prog 149 #[.slice A n p] W fun e W' => e = .returned (.tuple #[.int .i64 (rngL xs), .int .i64 (rngM xs), .bool (rngB xs)]) ∧ Below W.heap.size W W' :=
  (rngS A n p xs W hr hn).mono fun _ _ ⟨h1, m, h2⟩ => ⟨h1, h2 ▸ below_drewN (Below.refl _ _) m⟩
set_option maxHeartbeats 1000000 in
theorem scaleForS (A : Option Addr) (n p : Nat) (xs : List Int) (W : World) (hr : RdI W A n xs) (hn : n ≤ 1048576) :
    Calls Try.prog 107 #[.slice A n p] W fun e W' => e = .returned (.tuple #[.agg #[.int .i64 (scNum xs), .int .i64 (scZero xs)], .bool (rngB xs)]) ∧ Below W.heap.size W W' := by
  have KR := Lib.hid (Bk.new W 70 #[.int .i64 0, .int .i64 0])
  have bl := (Below.refl _ W).alloc (Nat.le_refl _) (.cells #[.int .i64 0, .int .i64 0] 70)
  have RA := Lib.hid (hr.of_below bl)
  have Bl := Lib.hid bl
  have HN := Lib.hid hn
  clear hr bl hn
  rcases h : rngB xs with _ | _
  · obtain ⟨e1, e2, e3, e4, e5⟩ := scNum_a h
    simp only [e1, e2, e3]
    have HC : Hid (∀ w, RdI w A n xs → Calls Try.prog 149 #[.slice A n p] w fun e W' => e = .returned (.tuple #[.int .i64 0, .int .i64 0, .bool false]) ∧ Below w.heap.size w W') := Lib.hid (fun w hr => by have h2 := rngSB A n p xs w hr HN.out; rw [e4, e5, h] at h2; exact h2)
    clear e1 e2 e3 e4 e5 h HN
    go_enter Try.func107, Try.ntmps107
    go_wp2_with fail
    generalize W.alloc (.cells #[.int .i64 0, .int .i64 0] 70) = v at KR RA Bl ⊢
    have hge := Nat.le_refl W.heap.size
    generalize hR : W.heap.size = R at KR ⊢
    have hge2 : W.heap.size ≤ R := Nat.le_of_eq hR
    clear hge hR
    refine (HC.out v RA.out).mono ?_
    rintro e w1 ⟨rfl, b1⟩
    replace KR := Lib.hid (KR.out.below b1)
    replace Bl := Lib.hid (Bl.out.trans (b1.mono Bl.out.size))
    clear RA HC b1
    obtain ⟨f0, f1⟩ := KR.out.free2
    obtain ⟨c0, c1⟩ := KR.out.cell2
    have hlt := KR.out.lt
    go_wp2_with fail
    have kR := Bk.set2 KR.out (x := .int .i64 (0)) (y := .int .i64 (0))
    have b9 := below_set2 Bl.out hge2 (.int .i64 (0)) (.int .i64 (0))
    obtain ⟨z0, z1⟩ := kR.cell2
    refine bodyPost_ret (v := .tuple #[.agg #[.int .i64 (0), .int .i64 (0)], .bool false]) ?_ rfl ⟨rfl, b9⟩
    simp [results, Try.results107, go_sem, z0, z1]
  · obtain ⟨e1, e2, e3⟩ := scNum_b h
    obtain ⟨b1, b2, b3, b4, b5, b6⟩ := rng_true h
    simp only [e1, e2, e3]
    have HC : Hid (∀ w, RdI w A n xs → Calls Try.prog 149 #[.slice A n p] w fun e W' => e = .returned (.tuple #[.int .i64 (leastR xs), .int .i64 (mostR xs), .bool true]) ∧ Below w.heap.size w W') := Lib.hid (fun w hr => by have h2 := rngSB A n p xs w hr HN.out; rw [b5, b6, h] at h2; exact h2)
    clear b5 b6 h e1 e2 e3 HN
    generalize leastR xs = l at *
    generalize mostR xs = q at *
    have hnum := numF_bd (w := q - l) (s := 255) (by omega) (by omega) (by omega)
    have hnum2 := numF_le (w := q - l) (s := 255) (B := 7843138) (by omega) (by omega) (by omega)
    have HU := Lib.hid (fun w => upS (q - l) 255 (by omega) (by omega) w)
    generalize numF (q - l) 255 = N at *
    have hup := upD_bd (x := -l) (d := N) (by omega) (by omega) (by omega)
    have hs8 := sat8_bd (-128 + upD (-l) N)
    have HDU : Hid (∀ w, Calls Try.prog 151 #[.int .i64 l, .int .i64 N] w fun e w' => e = .returned (.int .i64 (-(upD (-l) N))) ∧ w = w') := Lib.hid (fun w => by have h := downG l N (by omega) (by omega) (by omega) w; rw [show l / N = -(upD (-l) N) by rw [upD_neg (-l) N (by omega), Int.neg_neg, Int.neg_neg]] at h; exact h)
    generalize upD (-l) N = U at *
    generalize hZ : sat8 (-128 + U) = Z at *
    have HS8 : Hid (∀ w, Calls Try.prog 143 #[.int .i64 (-128 + U)] w fun e w' => e = .returned (.int .i64 Z) ∧ w = w') := Lib.hid (fun w => by have h := sat8S (-128 + U) w; rw [show -128 + U = -128 + U by omega, hZ] at h; rw [show -128 + U = -128 + U by omega]; exact h)
    clear hZ
    go_enter Try.func107, Try.ntmps107
    go_wp2_with fail
    generalize W.alloc (.cells #[.int .i64 0, .int .i64 0] 70) = v at KR RA Bl ⊢
    have hge := Nat.le_refl W.heap.size
    generalize hR : W.heap.size = R at KR ⊢
    have hge2 : W.heap.size ≤ R := Nat.le_of_eq hR
    clear hge hR
    refine (HC.out v RA.out).mono ?_
    rintro e w1 ⟨rfl, b1⟩
    replace KR := Lib.hid (KR.out.below b1)
    replace Bl := Lib.hid (Bl.out.trans (b1.mono Bl.out.size))
    clear RA HC b1
    obtain ⟨f0, f1⟩ := KR.out.free2
    obtain ⟨c0, c1⟩ := KR.out.cell2
    have hlt := KR.out.lt
    go_wp2_with fail
    refine (HU.out _).mono ?_
    rintro e w2 ⟨rfl, rfl⟩
    clear HU
    go_wp2_with fail
    have KS := Lib.hid (Bk.new w1 70 #[.int .i64 N, .int .i64 0])
    replace KR := Lib.hid (KR.out.alloc (.cells #[.int .i64 N, .int .i64 0] 70))
    replace Bl := Lib.hid (Bl.out.alloc Bl.out.size (.cells #[.int .i64 N, .int .i64 0] 70))
    clear f0 f1 c0 c1
    generalize w1.alloc (.cells #[.int .i64 N, .int .i64 0] 70) = w5 at KR KS Bl ⊢
    generalize w1.heap.size = S at hlt KS ⊢
    obtain ⟨f0, f1⟩ := KR.out.free2
    obtain ⟨g0, g1⟩ := KS.out.free2
    obtain ⟨c0, c1⟩ := KR.out.cell2
    obtain ⟨d0, d1⟩ := KS.out.cell2
    have hne : R ≠ S := by omega
    have hlt1 := KR.out.lt
    have hlt2 := KS.out.lt
    go_wp2_with fail
    refine (HDU.out _).mono ?_
    rintro e w2 ⟨rfl, rfl⟩
    go_wp2_with fail
    refine (HS8.out _).mono ?_
    rintro e w2 ⟨rfl, rfl⟩
    clear HDU HS8
    replace KR := Lib.hid (KR.out.far (p := ⟨S, 1, none⟩) hne (.int .i64 Z))
    replace Bl := Lib.hid (Bl.out.setCell (p := ⟨S, 1, none⟩) (by show W.heap.size ≤ S; omega) (.int .i64 Z))
    go_wp2_with fail
    have kR := Bk.set2 KR.out (x := .int .i64 (N)) (y := .int .i64 (Z))
    have b9 := below_set2 Bl.out hge2 (.int .i64 (N)) (.int .i64 (Z))
    obtain ⟨z0, z1⟩ := kR.cell2
    refine bodyPost_ret (v := .tuple #[.agg #[.int .i64 (N), .int .i64 (Z)], .bool true]) ?_ rfl ⟨rfl, b9⟩
    simp [results, Try.results107, go_sem, z0, z1]
set_option maxHeartbeats 1000000 in
theorem scaleForI (A : Option Addr) (n p : Nat) (xs : List Int) (W : World) (hr : RdI W A n xs) (hn : n ≤ 1048576) :
    Calls Try.prog 111 #[.slice A n p] W fun e W' => e = .returned (.tuple #[.agg #[.int .i64 (scNum xs), .int .i64 (scZero xs)], .bool (rngB xs)]) ∧ Below W.heap.size W W' := by
  have KR := Lib.hid (Bk.new W 70 #[.int .i64 0, .int .i64 0])
  have bl := (Below.refl _ W).alloc (Nat.le_refl _) (.cells #[.int .i64 0, .int .i64 0] 70)
  have RA := Lib.hid (hr.of_below bl)
  have Bl := Lib.hid bl
  have HN := Lib.hid hn
  clear hr bl hn
  rcases h : rngB xs with _ | _
  · obtain ⟨e1, e2, e3, e4, e5⟩ := scNum_a h
    simp only [e1, e2, e3]
    have HC : Hid (∀ w, RdI w A n xs → Calls Try.prog 154 #[.slice A n p] w fun e W' => e = .returned (.tuple #[.int .i64 0, .int .i64 0, .bool false]) ∧ Below w.heap.size w W') := Lib.hid (fun w hr => by have h2 := rngI A n p xs w hr HN.out; rw [e4, e5, h] at h2; exact h2)
    clear e1 e2 e3 e4 e5 h HN
    go_enter Try.func111, Try.ntmps111
    go_wp2_with fail
    generalize W.alloc (.cells #[.int .i64 0, .int .i64 0] 70) = v at KR RA Bl ⊢
    have hge := Nat.le_refl W.heap.size
    generalize hR : W.heap.size = R at KR ⊢
    have hge2 : W.heap.size ≤ R := Nat.le_of_eq hR
    clear hge hR
    refine (HC.out v RA.out).mono ?_
    rintro e w1 ⟨rfl, b1⟩
    replace KR := Lib.hid (KR.out.below b1)
    replace Bl := Lib.hid (Bl.out.trans (b1.mono Bl.out.size))
    clear RA HC b1
    obtain ⟨f0, f1⟩ := KR.out.free2
    obtain ⟨c0, c1⟩ := KR.out.cell2
    have hlt := KR.out.lt
    go_wp2_with fail
    have kR := Bk.set2 KR.out (x := .int .i64 (0)) (y := .int .i64 (0))
    have b9 := below_set2 Bl.out hge2 (.int .i64 (0)) (.int .i64 (0))
    obtain ⟨z0, z1⟩ := kR.cell2
    refine bodyPost_ret (v := .tuple #[.agg #[.int .i64 (0), .int .i64 (0)], .bool false]) ?_ rfl ⟨rfl, b9⟩
    simp [results, Try.results111, go_sem, z0, z1]
  · obtain ⟨e1, e2, e3⟩ := scNum_b h
    obtain ⟨b1, b2, b3, b4, b5, b6⟩ := rng_true h
    simp only [e1, e2, e3]
    have HC : Hid (∀ w, RdI w A n xs → Calls Try.prog 154 #[.slice A n p] w fun e W' => e = .returned (.tuple #[.int .i64 (leastR xs), .int .i64 (mostR xs), .bool true]) ∧ Below w.heap.size w W') := Lib.hid (fun w hr => by have h2 := rngI A n p xs w hr HN.out; rw [b5, b6, h] at h2; exact h2)
    clear b5 b6 h e1 e2 e3 HN
    generalize leastR xs = l at *
    generalize mostR xs = q at *
    have hnum := numF_bd (w := q - l) (s := 255) (by omega) (by omega) (by omega)
    have hnum2 := numF_le (w := q - l) (s := 255) (B := 7843138) (by omega) (by omega) (by omega)
    have HU := Lib.hid (fun w => numForI (q - l) 255 (by omega) (by omega) w)
    generalize numF (q - l) 255 = N at *
    have hup := upD_bd (x := -l) (d := N) (by omega) (by omega) (by omega)
    have hs8 := sat8_bd (-128 + upD (-l) N)
    have HDU : Hid (∀ w, Calls Try.prog 156 #[.int .i64 (-l), .int .i64 N] w fun e w' => e = .returned (.int .i64 (upD (-l) N)) ∧ w = w') := Lib.hid (fun w => upI (-l) N (by omega) (by omega) w)
    generalize upD (-l) N = U at *
    generalize hZ : sat8 (-128 + U) = Z at *
    have HS8 : Hid (∀ w, Calls Try.prog 146 #[.int .i64 (-128 + U)] w fun e w' => e = .returned (.int .i64 Z) ∧ w = w') := Lib.hid (fun w => by have h := sat8I (-128 + U) w; rw [show -128 + U = -128 + U by omega, hZ] at h; rw [show -128 + U = -128 + U by omega]; exact h)
    clear hZ
    go_enter Try.func111, Try.ntmps111
    go_wp2_with fail
    generalize W.alloc (.cells #[.int .i64 0, .int .i64 0] 70) = v at KR RA Bl ⊢
    have hge := Nat.le_refl W.heap.size
    generalize hR : W.heap.size = R at KR ⊢
    have hge2 : W.heap.size ≤ R := Nat.le_of_eq hR
    clear hge hR
    refine (HC.out v RA.out).mono ?_
    rintro e w1 ⟨rfl, b1⟩
    replace KR := Lib.hid (KR.out.below b1)
    replace Bl := Lib.hid (Bl.out.trans (b1.mono Bl.out.size))
    clear RA HC b1
    obtain ⟨f0, f1⟩ := KR.out.free2
    obtain ⟨c0, c1⟩ := KR.out.cell2
    have hlt := KR.out.lt
    go_wp2_with fail
    refine (HU.out _).mono ?_
    rintro e w2 ⟨rfl, rfl⟩
    clear HU
    go_wp2_with fail
    refine (HDU.out _).mono ?_
    rintro e w2 ⟨rfl, rfl⟩
    go_wp2_with fail
    refine (HS8.out _).mono ?_
    rintro e w2 ⟨rfl, rfl⟩
    clear HDU HS8
    go_wp2_with fail
    have kR := Bk.set2 KR.out (x := .int .i64 (N)) (y := .int .i64 (Z))
    have b9 := below_set2 Bl.out hge2 (.int .i64 (N)) (.int .i64 (Z))
    obtain ⟨z0, z1⟩ := kR.cell2
    refine bodyPost_ret (v := .tuple #[.agg #[.int .i64 (N), .int .i64 (Z)], .bool true]) ?_ rfl ⟨rfl, b9⟩
    simp [results, Try.results111, go_sem, z0, z1]
end Qt
end Go.Proofs.Ytebldedmkpdgcaa
