/- What MemoryOf of the program gives when it is called. Conditions: the slice of layers reads as the list that is named. -/
import Derived.Test.YtklefnmhknlilaaQMem
import Derived.Laws.ComplexArith
import Derived.Laws.Cover2
namespace Go.Proofs.Ytklefnmhknlilaa
open Go.RowKit Go.Sort
set_option linter.unusedSimpArgs false
set_option linter.unusedVariables false
namespace Qt
theorem infoC : (Try.prog.info? 72).map (fun i => (i.zero, i.size, i.bytes)) = some (some (.complex .f64 0 0), 1, 16) := by kernel_rfl
abbrev Cx (q : Nat × Nat) : Value := .complex .f64 (Fl q.1) (Fl q.2)
theorem fl_of (x y v : Int) : floatOfInt .f64 (szOf x y v) = Fl (szN (x, y, v)) := by rw [szN_cast]; rfl
set_option maxRecDepth 10000 in
theorem pairI (l : Lay) (P : Pos) (a b : Sh) (nx : Option Addr) (g : Nat) (W : World) (hb : Bk W g 64 (linkA l P a b nx)) :
    Calls Try.prog 74 #[.pointer (some ⟨g, 0, none⟩)] W fun e W' => e = .returned (Cx (szN a, szN b)) ∧ Below W.heap.size W W' := by
  obtain ⟨x, y, v⟩ := a
  obtain ⟨x2, y2, v2⟩ := b
  have c0 := cell_regrown (show W.cell? ⟨g, 9, none⟩ = some (.int .i64 x) from hb.cell 9 rfl)
  have c1 := cell_regrown (show W.cell? ⟨g, 10, none⟩ = some (.int .i64 y) from hb.cell 10 rfl)
  have c2 := cell_regrown (show W.cell? ⟨g, 11, none⟩ = some (.int .i64 v) from hb.cell 11 rfl)
  have d0 := cell_regrown (show W.cell? ⟨g, 12, none⟩ = some (.int .i64 x2) from hb.cell 12 rfl)
  have d1 := cell_regrown (show W.cell? ⟨g, 13, none⟩ = some (.int .i64 y2) from hb.cell 13 rfl)
  have d2 := cell_regrown (show W.cell? ⟨g, 14, none⟩ = some (.int .i64 v2) from hb.cell 14 rfl)
  have hlt := hb.lt
  have HV : Hid (Cx (szN (x, y, v), szN (x2, y2, v2)) = .complex .f64 (floatOfInt .f64 (szOf x y v)) (floatOfInt .f64 (szOf x2 y2 v2))) := Lib.hid (by rw [fl_of, fl_of])
  rw [HV.out]
  have p0 := Lib.hid (fun dd os => Calls.regrown_of (sizeOfI x y v (grow (redrawn W dd) os)))
  have p1 := Lib.hid (fun dd os => Calls.regrown_of (sizeOfI x2 y2 v2 (grow (redrawn W dd) os)))
  clear hb
  go_enter Try.func74, Try.ntmps74
  go_wp2_with fail
  refine wp_region_quiet_below mixed (by kernel_rfl) ?_
  repeat (go_big_quiet_step (first | with_reducible exact p0.out _ _ | with_reducible exact p1.out _ _))
  refine wpQuiet_nil ?_
  intro _ hw'
  obtain ⟨⟨dq, osq⟩, rfl⟩ := hw'
  have HB2 := Lib.hid (below_regrown W dq osq)
  clear c0 c1 c2 d0 d1 d2 p0 p1
  generalize grow (redrawn W dq) osq = u9 at HB2 ⊢
  go_wp2_with fail
  go_ret
  exact ⟨rfl, HB2.out⟩
def prs (ss : List Sh) (n : Nat) : List (Nat × Nat) := (List.range n).map fun j => (szN (shAt ss j), szN (shAt ss (j + 1)))
theorem prs_len (ss : List Sh) (n : Nat) : (prs ss n).length = n := by simp [prs]
theorem prs_at {ss : List Sh} {n j : Nat} {a b : Sh} (hj : j < n) (ha : ss[j]? = some a) (hb : ss[j + 1]? = some b) : (prs ss n)[j]? = some (szN a, szN b) := by
  simp [prs, hj, shAt_eq ha, shAt_eq hb]
/-- A slice of the call's own that reads as xs. -/
def CxR (W : World) (xs : List (Nat × Nat)) (e : Ending) (W' : World) : Prop := ∃ V, e = .returned V ∧ W'.ownsRow W.heap.size 72 1 V xs.length (xs.map Cx) ∧ Below W.heap.size W W'
theorem take_snocC {xs : List (Nat × Nat)} {j : Nat} {x : Nat × Nat} (h : xs[j]? = some x) : (xs.map Cx).take j ++ [Cx x] = (xs.map Cx).take (j + 1) := by
  rw [List.take_add_one, List.getElem?_map, h]
  rfl
theorem gatherC_nil (W : World) : Calls Try.prog 73 #[.pointer none, .func (.func 74) #[] #[]] W fun e W' => e = .returned (.slice none 0 0) ∧ Below W.heap.size W W' := by
  go_enter Try.func73, Try.ntmps73
  go_wp2_with fail
  go_loopg [5, 6] 0 (fun gk v kp wr => v = .slice none 0 0 ∧ kp = .pointer none ∧ W = wr)
  case atStart => exact ⟨rfl, rfl, rfl⟩
  case round =>
    obtain ⟨rfl, rfl, rfl⟩ := hrel
    go_wp2_with fail
    go_ret
    exact ⟨rfl, Below.refl _ _⟩
set_option maxRecDepth 10000 in
set_option maxHeartbeats 1000000 in
theorem gatherC (W0 : World) (B : Nat) (gs : List Nat) (ls : List Lay) (ss : List Sh) (g0 : Nat) (hg0 : gs[0]? = some g0) (W : World) (hc : Chain W0 B W gs ls ss) (hb0 : Below W0.heap.size W0 W) (hn : ls.length + big ls ≤ 1048576) :
    Calls Try.prog 73 #[.pointer (some ⟨g0, 0, none⟩), .func (.func 74) #[] #[]] W (CxR W (prs ss ls.length)) := by
  obtain ⟨i0, hi, hz0, hz1, hz2⟩ := info_parts infoC
  have HC := Lib.hid hc
  have HB0 := Lib.hid hb0
  have HN := Lib.hid hn
  have hxl := prs_len ss ls.length
  have hgl := hc.len
  obtain ⟨n, hnn⟩ : ∃ n, n = ls.length := ⟨_, rfl⟩
  obtain ⟨xs, hxs⟩ : ∃ xs, xs = prs ss ls.length := ⟨_, rfl⟩
  rw [← hxs] at hxl ⊢
  rw [← hnn] at hxl hgl hn
  have HXS := Lib.hid hxs
  have HXL := Lib.hid hxl
  have HGL := Lib.hid hgl
  have HNN := Lib.hid hnn
  have hnn2 : n ≤ 1048576 := by omega
  have HG0 : Hid (some (⟨g0, 0, none⟩ : Addr) = ptrAt gs 0) := Lib.hid (by unfold ptrAt; rw [hg0]; rfl)
  clear hc hb0 hn hxl hgl hxs hnn hg0
  go_enter Try.func73, Try.ntmps73
  go_wp2_with fail
  go_loopg [5, 6] n (fun gk v kp wr => ∃ (j : Nat) (q : Option Addr), gk + j = n ∧ kp = .pointer q ∧ Hid (q = ptrAt gs j) ∧ Hid (wr.ownsRow W.heap.size 72 1 v j ((xs.map Cx).take j)) ∧ Hid (Below W.heap.size W wr))
  case atStart => exact ⟨0, _, rfl, rfl, HG0, Lib.hid (World.ownsRow_nil _ _ _ _), Lib.hid (Below.refl _ _)⟩
  case round =>
    clear HG0
    obtain ⟨j, q, hgk, rfl, HQ, HO, HB⟩ := hrel
    by_cases hlt : j < n
    · have hgj : gs[j]? = some (gs[j]'(by rw [HGL.out]; exact hlt)) := List.getElem?_eq_getElem _
      obtain ⟨g, hg⟩ : ∃ g, gs[j]? = some g := ⟨_, hgj⟩
      have hlj : ls[j]? = some (ls[j]'(by rw [← HNN.out]; exact hlt)) := List.getElem?_eq_getElem _
      obtain ⟨l, hl⟩ : ∃ l, ls[j]? = some l := ⟨_, hlj⟩
      obtain ⟨P, a, b, ha, hb, hbk, hy⟩ := HC.out.node j g l hg hl
      have hq : q = some ⟨g, 0, none⟩ := by rw [HQ.out]; unfold ptrAt; rw [hg]; rfl
      subst hq
      have hbig := big_at hl
      have hx : xs[j]? = some (szN a, szN b) := by rw [HXS.out, ← HNN.out]; exact prs_at hlt ha hb
      have HBK := Lib.hid hbk
      have HY := Lib.hid (hy.of_below (HB0.out.trans (HB.out.mono HB0.out.size)))
      have H1 : Hid (l.xs.length ≤ 1048576) := Lib.hid (by have := HN.out; omega)
      have H2 : Hid (l.ys.length ≤ 1048576) := Lib.hid (by have := HN.out; omega)
      have HX := Lib.hid hx
      obtain ⟨nx, hnx⟩ : ∃ nx, nx = ptrAt gs (j + 1) := ⟨_, rfl⟩
      rw [← hnx] at HBK
      have HNX := Lib.hid hnx
      clear hgj hg hlj hl ha hb hbk hy hbig hx hnx HQ
      go_wp2_with fail
      with_reducible refine (pairI l P a b nx g _ (HBK.out.below HB.out)).mono ?_
      rintro e w2 ⟨rfl, b2⟩
      have HO2 := Lib.hid (ownsRow_below HO.out b2)
      have HB2 := Lib.hid (HB.out.trans (b2.mono HB.out.size))
      clear b2 HO HB HY
      have hsz := HB2.out.size
      obtain ⟨cx, hcx⟩ : ∃ cx, (szN a, szN b) = cx := ⟨_, rfl⟩
      rw [hcx] at HX ⊢
      clear hcx
      go_wp2_with (at_builtin; go_loud (refine wpList_append_own _ rfl _ _ 90 rfl W.heap.size 72 i0 (.complex .f64 0 0) 1 16 Try.underlying90 hi hz0 hz1 hz2 rfl (by decide) _ _ _ rfl (HO2.out.alloc _) ⟨w2.heap.size, 0, none⟩ 1 1 [Cx cx] rfl rfl ?c1 ?c2 ?c3 ?c4 ?c5 ?_))
      case c1 =>
        intro j' u hj
        match j', hj with
        | 0, hj => simp at hj; subst hj; simp [Addr.add]
      case c2 => intro u hu; simp at hu; subst hu; rfl
      case c3 => unfold maxLen; omega
      case c4 => omega
      case c5 => simp; omega
      intro v' w3 hown' hgrow _
      have hB3 : Below W.heap.size W w3 := (HB2.out.alloc HB2.out.size _).grown hgrow (by simp; omega) (fun r hr => by have := (HO2.out.lt r hr).1; omega)
      rw [take_snocC HX.out] at hown'
      have hnc : w3.cell? ⟨g, 15, none⟩ = some (.pointer nx) := (HBK.out.below hB3).cell 15 rfl
      have HO3 := Lib.hid hown'
      have HB3 := Lib.hid hB3
      clear hown' hgrow hB3 HO2 HB2
      go_wp2_with fail
      go_roundg (gk - 1)
      case measure => omega
      case rel => exact ⟨j + 1, nx, by omega, rfl, HNX, HO3, HB3⟩
    · obtain rfl : j = n := by omega
      have hq : q = none := by rw [HQ.out]; unfold ptrAt; rw [List.getElem?_eq_none (by rw [HGL.out]; exact Nat.le_refl _)]; rfl
      subst hq
      have hO := HO.out
      rw [List.take_of_length_le (by rw [List.length_map, HXL.out]; exact Nat.le_refl _)] at hO
      have HOF := Lib.hid hO
      clear hO HO HQ
      go_wp2_with fail
      go_ret
      exact ⟨_, rfl, HXL.out.symm ▸ HOF.out, HB.out⟩
def psum (q : Nat × Nat) : Nat := q.1 + q.2
def mostP (xs : List (Nat × Nat)) : Nat → Nat × Nat
  | 0 => (0, 0)
  | k + 1 => if psum (mostP xs k) < psum (xs.getD k (0, 0)) then xs.getD k (0, 0) else mostP xs k
def okP (q : Nat × Nat) : Prop := 1 ≤ q.1 ∧ q.1 ≤ 512 ∧ 1 ≤ q.2 ∧ q.2 ≤ 512
theorem mostP_ok {xs : List (Nat × Nat)} (hx : ∀ (j : Nat) q, xs[j]? = some q → okP q) {k : Nat} (hk : k ≤ xs.length) : mostP xs k = (0, 0) ∨ okP (mostP xs k) := by
  induction k with
  | zero => exact .inl rfl
  | succ k ih =>
    simp only [mostP]
    split
    · refine .inr (hx k _ ?_)
      rw [List.getD_eq_getElem?_getD, List.getElem?_eq_getElem (by omega)]; rfl
    · exact ih (by omega)
theorem fl_sum {q : Nat × Nat} (h : q = (0, 0) ∨ okP q) : FloatKind.f64.format.add (Fl q.1) (Fl q.2) = some (Fl (psum q)) := by
  rcases h with rfl | ⟨h1, h2, h3, h4⟩
  · exact fl_add00
  · exact fl_add h1 h2 h3 h4
theorem psum_le {q : Nat × Nat} (h : q = (0, 0) ∨ okP q) : psum q ≤ 1024 ∧ q.1 ≤ 512 ∧ q.2 ≤ 512 := by
  rcases h with rfl | ⟨h1, h2, h3, h4⟩
  · decide
  · unfold psum; omega
theorem run_sum {q : Nat × Nat} (h : q = (0, 0) ∨ okP q) : ∀ t w, (binOp .add t (.float .f64 (Fl q.1)) (.float .f64 (Fl q.2))).run Try.prog w = .ok (.float .f64 (Fl (psum q))) w := fun t w => run_float_arith w .add t .f64 _ _ _ (by show FloatKind.f64.format.add _ _ = _; exact fl_sum h)
theorem run_gt {q r : Nat × Nat} (hq : okP q) (hr : r = (0, 0) ∨ okP r) : (FloatKind.f64.format.order (Fl (psum q)) (Fl (psum r)) == some .gt) = decide (psum r < psum q) := by
  have h1 := psum_le (.inr hq)
  have h2 := psum_le hr
  exact fl_gt (by obtain ⟨a, b, c, d⟩ := hq; unfold psum; omega) h1.1 h2.1
theorem memU_prs (ss : List Sh) (n : Nat) : ∀ k, k ≤ n → psum (mostP (prs ss n) k) = memU ss k := by
  intro k
  induction k with
  | zero => intro _; rfl
  | succ k ih =>
    intro hk
    have hg : (prs ss n).getD k (0, 0) = (szN (shAt ss k), szN (shAt ss (k + 1))) := by
      simp [prs, List.getD_eq_getElem?_getD, List.getElem?_range (show k < n by omega)]
    have ih' := ih (by omega)
    simp only [mostP, memU, hg, ← ih', msum, psum]
    split <;> simp_all [psum]
/-- The pair of the greatest sum. -/
def WdR (W : World) (u : Nat) (e : Ending) (W' : World) : Prop := ∃ q : Nat × Nat, e = .returned (Cx q) ∧ (q = (0, 0) ∨ okP q) ∧ psum q = u ∧ Below W.heap.size W W'
theorem widest_nil (W : World) : Calls Try.prog 55 #[.pointer none] W (WdR W 0) := by
  have H0 : Hid (Cx (0, 0) = .complex .f64 0 0) := Lib.hid (by show Value.complex _ (Fl 0) (Fl 0) = _; rw [fl_zero])
  go_enter Try.func55, Try.ntmps55
  go_wp2_with fail
  with_reducible refine (gatherC_nil _).mono ?_
  rintro e w1 ⟨rfl, b1⟩
  have HB := Lib.hid b1
  clear b1
  go_wp2_with fail
  go_loopg [4, 11] 0 (fun gk m i wr => m = .complex .f64 0 0 ∧ i = .int .i64 0 ∧ w1 = wr)
  case atStart => exact ⟨rfl, rfl, rfl⟩
  case round =>
    obtain ⟨rfl, rfl, rfl⟩ := hrel
    go_wp2_with fail
    go_ret
    exact ⟨(0, 0), by rw [H0.out]; rfl, .inl rfl, rfl, HB.out⟩
set_option maxRecDepth 10000 in
set_option maxHeartbeats 1000000 in
theorem widestI (W0 : World) (B : Nat) (gs : List Nat) (ls : List Lay) (ss : List Sh) (g0 : Nat) (hg0 : gs[0]? = some g0) (W : World) (hc : Chain W0 B W gs ls ss) (hb0 : Below W0.heap.size W0 W) (hn : ls.length + big ls ≤ 1048576) (hok : ∀ (j : Nat) q, (prs ss ls.length)[j]? = some q → okP q) (hl0 : 0 < ls.length) (hl6 : ls.length ≤ 6) :
    Calls Try.prog 55 #[.pointer (some ⟨g0, 0, none⟩)] W (WdR W (memU ss ls.length)) := by
  have HG := Lib.hid (gatherC W0 B gs ls ss g0 hg0 W hc hb0 hn)
  have HU := Lib.hid (memU_prs ss ls.length)
  have hlen := prs_len ss ls.length
  obtain ⟨n, hnn⟩ : ∃ n, n = ls.length := ⟨_, rfl⟩
  rw [← hnn] at HG HU hlen hok hl0 hl6 ⊢
  generalize prs ss n = xs at HG HU hlen hok
  have HLEN := Lib.hid hlen
  have HM := Lib.hid (fun k hk => mostP_ok (xs := xs) hok (k := k) hk)
  have HOK := Lib.hid hok
  obtain ⟨R, hR⟩ : ∃ R, memU ss n = R := ⟨_, rfl⟩
  rw [hR]
  have HR : Hid (psum (mostP xs n) = R) := Lib.hid (by rw [HU.out n (Nat.le_refl _), hR])
  clear hc hb0 hn hok hlen hnn hR HU
  have H0 : Hid (Cx (0, 0) = .complex .f64 0 0) := Lib.hid (by show Value.complex _ (Fl 0) (Fl 0) = _; rw [fl_zero])
  go_enter Try.func55, Try.ntmps55
  go_wp2_with fail
  with_reducible refine HG.out.mono ?_
  rintro e w1 ⟨V, rfl, ho, b1⟩
  rw [HLEN.out] at ho
  obtain ⟨gO, cap, rfl, hgO, hgl⟩ := ownsRow_some ho hl0
  have HO := Lib.hid ho
  have HB := Lib.hid b1
  clear ho b1 hgO hgl HG
  go_wp2_with fail
  go_loopw [4, 11] (fun m i wr => ∃ k : Nat, k ≤ n ∧ i = .int .i64 (k : Int) ∧ m = Cx (mostP xs k) ∧ w1 = wr) (fun _ i _ => n - (intOf i).toNat)
  case atStart => exact ⟨0, Nat.zero_le _, rfl, H0.out.symm, rfl⟩
  case round =>
    obtain ⟨k, hk, rfl, rfl, rfl⟩ := hrel
    by_cases hlt : k < n
    · obtain ⟨q, hq⟩ : ∃ q, xs[k]? = some q := ⟨_, List.getElem?_eq_getElem (by rw [HLEN.out]; exact hlt)⟩
      have hc0 : w1.cell? ⟨gO, k, none⟩ = some (Cx q) := by
        have := HO.out.cellAt k (by omega)
        rw [this, List.getElem?_map, hq]; rfl
      have hqo := HOK.out k q hq
      have hmo := HM.out k (by rw [HLEN.out]; exact hk)
      have hgd : xs.getD k (0, 0) = q := by rw [List.getD_eq_getElem?_getD, hq]; rfl
      have hnx : Hid (mostP xs (k + 1) = if psum (mostP xs k) < psum q then q else mostP xs k) := Lib.hid (by simp only [mostP, hgd])
      obtain ⟨r, hr⟩ : ∃ r, mostP xs k = r := ⟨_, rfl⟩
      rw [hr] at hmo hnx ⊢
      have hik : (k : Int) < (n : Int) := by omega
      have s1 := run_sum (.inr hqo)
      have s2 := run_sum hmo
      have s3 := run_gt hqo hmo
      by_cases hgt : psum r < psum q
      · rw [if_pos hgt] at hnx
        rw [decide_eq_true hgt] at s3
        clear hr hgd hqo hmo hq hgt
        go_wp2_with fail
        go_roundw
        case rel => exact ⟨k + 1, by omega, by go_num, by rw [hnx.out], trivial⟩
        case measure => simp [intOf]; omega
      · rw [if_neg hgt] at hnx
        rw [decide_eq_false hgt] at s3
        clear hr hgd hqo hmo hq hgt
        go_wp2_with fail
        go_roundw
        case rel => exact ⟨k + 1, by omega, by go_num, by rw [hnx.out], trivial⟩
        case measure => simp [intOf]; omega
    · obtain rfl : k = n := by omega
      clear hk
      go_wp2_with fail
      go_ret
      exact ⟨_, rfl, HM.out _ (by rw [HLEN.out]; exact Nat.le_refl _), HR.out, HB.out⟩
theorem prs_ok {s : Sh} {ls : List Lay} {ss : List Sh} {l : Sh} (hm : modW s ls = some (ss, l)) : ∀ (j : Nat) q, (prs ss ls.length)[j]? = some q → okP q := by
  have h1 := (way_facts (modW_some hm).1)
  intro j q hq
  have hj : j < ls.length := by
    have := (List.getElem?_eq_some_iff.1 hq).1
    rwa [prs_len] at this
  obtain ⟨a, b, ha, hb, ho⟩ := h1.2.2.2 j (ls[j]) (List.getElem?_eq_getElem hj)
  rw [prs_at hj ha hb] at hq
  cases hq
  have k1 := outL_sh ho
  have k2 := outL_ok ho
  have e1 := szN_ok k1
  have e2 := szN_ok k2
  exact ⟨e1.1, e1.2, e2.1, e2.2⟩
theorem run_toInt {x : Nat} (h : x ≤ 1024) : ∀ w, (convert 74 3 (.float .f64 (Fl x))).run Try.prog w = .ok (.int .i64 (x : Int)) w := fun w => run_convert_float_int w 74 3 .f64 .i64 _ _ (by rw [Try.underlying74]; rfl) Try.underlying3 (fl_int h)
set_option maxRecDepth 10000 in
theorem memoryI (h w c : Int) (A : Option Addr) (n p : Nat) (ls : List Lay) (W : World) (hr : RdL W A n ls) (hn : n + big ls ≤ 1048576) :
    Calls Try.prog 31 #[.agg #[.int .i64 h, .int .i64 w, .int .i64 c, .slice A n p]] W fun e W' => e = .returned (.int .i64 (memM (h, w, c) ls)) ∧ Below W.heap.size W W' := by
  have b0 := (Below.refl _ W).alloc (Nat.le_refl _) (.cells #[.int .i64 h, .int .i64 w, .int .i64 c, .slice A n p] 32)
  have HC := Lib.hid (linksOfI h w c A n p ls _ (hr.of_below b0) hn)
  have B0 := Lib.hid b0
  have HN : Hid (ls.length + big ls ≤ 1048576) := Lib.hid (by rw [hr.1]; exact hn)
  clear b0 hr hn
  obtain ⟨R, hR⟩ : ∃ R, memM (h, w, c) ls = R := ⟨_, rfl⟩
  rw [hR]
  have HRR := Lib.hid hR
  clear hR
  go_enter Try.func31, Try.ntmps31
  go_wp2_with fail
  refine HC.out.mono ?_
  rintro e w1 ⟨b1, he⟩
  have B1 := Lib.hid (B0.out.trans (b1.mono B0.out.size))
  have HW : Hid (∃ v, e = .returned v ∧ Calls Try.prog 55 #[v] w1 (WdR w1 R)) := by
    rcases hm : modW (h, w, c) ls with _ | ⟨ss, l⟩
    · rw [hm] at he
      have hRN : R = 0 := by rw [← HRR.out, memM, hm]
      rw [hRN]
      exact Lib.hid ⟨_, he, widest_nil w1⟩
    · rw [hm] at he
      obtain ⟨g, gs, rfl, hc⟩ := he
      have hRC : R = memU ss ls.length := by rw [← HRR.out, memM, hm]
      rw [hRC]
      have h6 := (modW_some hm).2
      exact Lib.hid ⟨_, rfl, widestI _ _ (g :: gs) ls ss g rfl _ hc b1 HN.out (prs_ok hm) (by omega) (by omega)⟩
  clear he b1
  obtain ⟨v, rfl, hw⟩ := HW.out
  have HWW := Lib.hid hw
  clear hw HW HC HRR
  go_wp2_with fail
  refine HWW.out.mono ?_
  rintro e w2 ⟨q, rfl, hq, hs, b2⟩
  have hb := psum_le hq
  have t1 := run_toInt (x := q.1) (by omega)
  have t2 := run_toInt (x := q.2) (by omega)
  have hs' : (q.1 : Int) + (q.2 : Int) = (R : Int) := by rw [← hs]; unfold psum; omega
  have ht : IntKind.i64.wrap ((q.1 : Int) + (q.2 : Int)) = (R : Int) := by rw [hs']; exact IntWalk.i64_in _ (by omega)
  have HB2 := Lib.hid (B1.out.trans (b2.mono B1.out.size))
  clear hs' hs hq b2 hb
  go_wp2_with fail
  go_ret
  exact ⟨rfl, HB2.out⟩
end Qt
end Go.Proofs.Ytklefnmhknlilaa
