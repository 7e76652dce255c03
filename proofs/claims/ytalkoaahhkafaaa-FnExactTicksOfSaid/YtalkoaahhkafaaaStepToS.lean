/- What the laws' own helper toStepS gives when it is called: a slice that reads as the same steps. Conditions: the slice of steps reads as the list that is named. -/
import Derived.Test.YtalkoaahhkafaaaStepTo
import Derived.OwnWalk
import Derived.Outline
namespace Go.Proofs.Ytalkoaahhkafaaa
open Go.RowKit Go.Sort
set_option linter.unusedSimpArgs false
set_option linter.unusedVariables false
namespace Qt
section
variable {w w' : World} {g n k : Nat} {cs : Array Value} {ss : List Stp}
/-- Eight values more. -/
def row8 (cs : Array Value) (i : Nat) (v0 v1 v2 v3 v4 v5 v6 v7 : Value) : Array Value :=
  (((((((cs.setIfInBounds i v0).setIfInBounds (i + 1) v1).setIfInBounds (i + 2) v2).setIfInBounds (i + 3) v3).setIfInBounds (i + 4) v4).setIfInBounds (i + 5) v5).setIfInBounds (i + 6) v6).setIfInBounds (i + 7) v7
def wrow8 (w : World) (g i : Nat) (v0 v1 v2 v3 v4 v5 v6 v7 : Value) : World :=
  (((((((w.setCell ⟨g, i, none⟩ v0).setCell ⟨g, i + 1, none⟩ v1).setCell ⟨g, i + 2, none⟩ v2).setCell ⟨g, i + 3, none⟩ v3).setCell ⟨g, i + 4, none⟩ v4).setCell ⟨g, i + 5, none⟩ v5).setCell ⟨g, i + 6, none⟩ v6).setCell ⟨g, i + 7, none⟩ v7
theorem Bk.row8 {t : TypeId} (h : Bk w g t cs) (i : Nat) (v0 v1 v2 v3 v4 v5 v6 v7 : Value) : Bk (wrow8 w g i v0 v1 v2 v3 v4 v5 v6 v7) g t (row8 cs i v0 v1 v2 v3 v4 v5 v6 v7) :=
  (((((((h.set i v0).set (i + 1) v1).set (i + 2) v2).set (i + 3) v3).set (i + 4) v4).set (i + 5) v5).set (i + 6) v6).set (i + 7) v7
theorem row8_size (cs : Array Value) (i : Nat) (v0 v1 v2 v3 v4 v5 v6 v7 : Value) : (row8 cs i v0 v1 v2 v3 v4 v5 v6 v7).size = cs.size := by simp [row8]
theorem row8_old {cs : Array Value} {i j : Nat} (h : j < i) (v0 v1 v2 v3 v4 v5 v6 v7 : Value) : (row8 cs i v0 v1 v2 v3 v4 v5 v6 v7)[j]? = cs[j]? := by
  simp only [row8, Array.getElem?_setIfInBounds]
  repeat rw [if_neg (by omega)]
theorem row8_new {cs : Array Value} {i : Nat} (h : i + 8 ≤ cs.size) (s : Stp) (P : SPo) (c : Nat) (v : Value) (hv : (stpC s P)[c]? = some v) :
    (row8 cs i (.int .i64 s.k) (.int .i64 s.a) (.int .i64 s.b) (.slice P.A P.n P.p) (.int .i64 s.h) (.int .i64 s.w) (.int .i64 s.c) (.slice P.B P.q P.r))[i + c]? = some v := by
  have hc : c < 8 := by have := (List.getElem?_eq_some_iff.1 hv).1; simpa [stpC] using this
  obtain rfl | rfl | rfl | rfl | rfl | rfl | rfl | rfl : c = 0 ∨ c = 1 ∨ c = 2 ∨ c = 3 ∨ c = 4 ∨ c = 5 ∨ c = 6 ∨ c = 7 := by omega
  all_goals
    simp [stpC] at hv
    subst hv
    simp [row8, Array.getElem?_setIfInBounds]
    omega
theorem RdI.wrow8 {b m : Nat} {xs : List Int} (h : RdI w (some ⟨b, 0, none⟩) m xs) (hp : b ≠ g) (i : Nat) (v0 v1 v2 v3 v4 v5 v6 v7 : Value) : RdI (wrow8 w g i v0 v1 v2 v3 v4 v5 v6 v7) (some ⟨b, 0, none⟩) m xs :=
  (((((((h.far (p := ⟨g, i, none⟩) hp v0).far (p := ⟨g, i + 1, none⟩) hp v1).far (p := ⟨g, i + 2, none⟩) hp v2).far (p := ⟨g, i + 3, none⟩) hp v3).far (p := ⟨g, i + 4, none⟩) hp v4).far (p := ⟨g, i + 5, none⟩) hp v5).far (p := ⟨g, i + 6, none⟩) hp v6).far (p := ⟨g, i + 7, none⟩) hp v7
theorem RdB8.wrow8 {b m : Nat} {xs : List Int} (h : RdB8 w (some ⟨b, 0, none⟩) m xs) (hp : b ≠ g) (i : Nat) (v0 v1 v2 v3 v4 v5 v6 v7 : Value) : RdB8 (wrow8 w g i v0 v1 v2 v3 v4 v5 v6 v7) (some ⟨b, 0, none⟩) m xs :=
  (((((((h.far (p := ⟨g, i, none⟩) hp v0).far (p := ⟨g, i + 1, none⟩) hp v1).far (p := ⟨g, i + 2, none⟩) hp v2).far (p := ⟨g, i + 3, none⟩) hp v3).far (p := ⟨g, i + 4, none⟩) hp v4).far (p := ⟨g, i + 5, none⟩) hp v5).far (p := ⟨g, i + 6, none⟩) hp v6).far (p := ⟨g, i + 7, none⟩) hp v7
theorem below_wrow8 {C : Nat} {W : World} (h : Below C W w) (hC : C ≤ g) (i : Nat) (v0 v1 v2 v3 v4 v5 v6 v7 : Value) : Below C W (wrow8 w g i v0 v1 v2 v3 v4 v5 v6 v7) :=
  (((((((h.setCell (p := ⟨g, i, none⟩) hC v0).setCell (p := ⟨g, i + 1, none⟩) hC v1).setCell (p := ⟨g, i + 2, none⟩) hC v2).setCell (p := ⟨g, i + 3, none⟩) hC v3).setCell (p := ⟨g, i + 4, none⟩) hC v4).setCell (p := ⟨g, i + 5, none⟩) hC v5).setCell (p := ⟨g, i + 6, none⟩) hC v6).setCell (p := ⟨g, i + 7, none⟩) hC v7
def posS (s : Stp) (ga gb : Nat) : SPo := ⟨some ⟨ga, 0, none⟩, s.bs.length, s.bs.length, some ⟨gb, 0, none⟩, s.xs.length, s.xs.length⟩
/-- The first k of the steps stand in block g, which is wholly known. -/
def FillS (w : World) (g n k : Nat) (ss : List Stp) : Prop :=
  ∃ cs, Bk w g 59 cs ∧ cs.size = n * 8 ∧ ∀ j s, j < k → ss[j]? = some s → ∃ ga gb, ga ≠ g ∧ gb ≠ g ∧ (∀ c v, (stpC s (posS s ga gb))[c]? = some v → cs[j * 8 + c]? = some v) ∧ RdSY w s (posS s ga gb)
theorem FillS.of_below (h : FillS w g n k ss) (hb : Below w.heap.size w w') : FillS w' g n k ss := by
  obtain ⟨cs, hB, hs, hr⟩ := h
  exact ⟨cs, hB.below hb, hs, fun j s hj he => by
    obtain ⟨ga, gb, h1, h2, h3, h4⟩ := hr j s hj he
    exact ⟨ga, gb, h1, h2, h3, h4.of_below hb⟩⟩
theorem FillS.zero (h : Bk w g 59 cs) (hs : cs.size = n * 8) : FillS w g n 0 ss := ⟨cs, h, hs, fun j s hj => absurd hj (by omega)⟩
theorem FillS.room (h : FillS w g n k ss) {c : Nat} (hc : c < n * 8) : ∃ v, w.cell? ⟨g, c, none⟩ = some v := by
  obtain ⟨cs, hB, hs, _⟩ := h
  exact ⟨cs[c]'(by omega), hB.cell c (Array.getElem?_eq_getElem (by omega))⟩
theorem FillS.free (h : FillS w g n k ss) (c : Nat) : w.frozen? ⟨g, c, none⟩ = false := by
  obtain ⟨cs, hB, _⟩ := h
  exact hB.frozen c
theorem FillS.lt (h : FillS w g n k ss) : g < w.heap.size := by
  obtain ⟨cs, hB, _⟩ := h
  exact hB.lt
theorem FillS.rd (h : FillS w g n n ss) (hl : ss.length = n) : RdSt w (some ⟨g, 0, none⟩) n ss := by
  obtain ⟨cs, hB, hs, hr⟩ := h
  refine ⟨hl, fun hn => ⟨g, 0, rfl, hB.lt, fun j s hj => ?_⟩⟩
  have hjn : j < n := by have := (List.getElem?_eq_some_iff.1 hj).1; omega
  obtain ⟨ga, gb, _, _, h3, h4⟩ := hr j s hjn hj
  exact ⟨posS s ga gb, fun i v hv => by rw [Nat.zero_add]; exact hB.cell _ (h3 i v hv), h4⟩
/-- The next step is laid into its place. -/
theorem FillS.next {w0 : World} (h0 : FillS w0 g n k ss) (hb : Below w0.heap.size w0 w) (hk : k < n) {s : Stp} (hl : ss[k]? = some s) (ga gb : Nat) (hga : w0.heap.size ≤ ga) (hgb : w0.heap.size ≤ gb)
    (ha : RdB8 w (some ⟨ga, 0, none⟩) s.bs.length s.bs) (hb2 : RdI w (some ⟨gb, 0, none⟩) s.xs.length s.xs) :
    FillS (wrow8 w g (k * 8) (.int .i64 s.k) (.int .i64 s.a) (.int .i64 s.b) (.slice (some ⟨ga, 0, none⟩) s.bs.length s.bs.length) (.int .i64 s.h) (.int .i64 s.w) (.int .i64 s.c) (.slice (some ⟨gb, 0, none⟩) s.xs.length s.xs.length)) g n (k + 1) ss := by
  obtain ⟨cs, hB0, hs, hr0⟩ := h0
  have hg0 := hB0.lt
  have hB := hB0.below hb
  refine ⟨_, hB.row8 (k * 8) _ _ _ _ _ _ _ _, by rw [row8_size]; exact hs, fun j s' hj hjs => ?_⟩
  by_cases e : j < k
  · obtain ⟨xa, xb, h1, h2, h3, h4⟩ := hr0 j s' e hjs
    have h5 := h4.of_below hb
    refine ⟨xa, xb, h1, h2, fun c v hv => ?_, h5.1.wrow8 h1 _ _ _ _ _ _ _ _ _, h5.2.wrow8 h2 _ _ _ _ _ _ _ _ _⟩
    have hc : c < 8 := by have := (List.getElem?_eq_some_iff.1 hv).1; simpa [stpC] using this
    rw [row8_old (by omega)]
    exact h3 c v hv
  · have hjk : j = k := by omega
    subst hjk
    rw [hl] at hjs
    cases hjs
    exact ⟨ga, gb, by omega, by omega, fun c v hv => row8_new (by omega) s (posS s ga gb) c v hv, ha.wrow8 (by omega) _ _ _ _ _ _ _ _ _, hb2.wrow8 (by omega) _ _ _ _ _ _ _ _ _⟩
end
def zeroS : Value := .agg #[.int .i64 0, .int .i64 0, .int .i64 0, .slice none 0 0, .int .i64 0, .int .i64 0, .int .i64 0, .slice none 0 0]
theorem infoS : (Try.prog.info? 59).map (fun i => (i.zero, i.size, i.bytes)) = some (some zeroS, 8, 96) := by kernel_rfl
theorem ownsRow_bk8 {w : World} {base g n c : Nat} {t : TypeId} {size : Nat} {xs : List Value} (h : w.ownsRow base t size (.slice (some ⟨g, 0, none⟩) n c) n xs) : ∃ cs, Bk w g t cs ∧ cs.size = c * size := by
  rcases h.2 with ⟨h', _⟩ | ⟨g', cap, cur, hv, _, hg, _, _, hs, _⟩
  · simp at h'
  · injection hv with e1 _ e3
    cases e1; cases e3
    exact ⟨cur, hg, hs⟩
def NewSt (W : World) (n : Nat) (ss : List Stp) (e : Ending) (W' : World) : Prop := ∃ g, e = .returned (.slice (some ⟨g, 0, none⟩) n n) ∧ W.heap.size ≤ g ∧ g < W'.heap.size ∧ RdSt W' (some ⟨g, 0, none⟩) n ss ∧ Below W.heap.size W W'
set_option maxRecDepth 10000 in
set_option maxHeartbeats 1000000 in
theorem toStepSL (A : Option Addr) (n p : Nat) (ss : List Stp) (W : World) (hr : RdSt W A n ss) (hn : n + bigS ss ≤ 1048576) :
    Calls Try.prog 14 #[.slice A n p] W (NewSt W n ss) := by
  obtain ⟨i0, hi, hz0, hz1, hz2⟩ := info_parts infoS
  have HR := Lib.hid hr
  have HN := Lib.hid hn
  have hn1 : (n : Int) ≤ 1048576 := by omega
  clear hr hn
  go_enter Try.func14, Try.ntmps14
  go_wp2_with (at_make; go_loud (refine wpList_make_full _ rfl _ _ 25 rfl W.heap.size 59 i0 zeroS 8 Try.underlying25 hi hz0 hz1 .i64 .i64 _ _ n rfl rfl rfl rfl (by rw [hz2]; omega) (by unfold maxLen; omega) (Nat.le_refl _) ?_); intro w1 hown hg)
  obtain ⟨g, hgd⟩ : ∃ g, g = W.heap.size := ⟨_, rfl⟩
  obtain ⟨cs, hbk, hcs⟩ := ownsRow_bk8 hown
  rw [← hgd] at hbk ⊢
  have hf0 : FillS w1 g n 0 ss := FillS.zero hbk hcs
  have hb0 : Below g W w1 := hgd ▸ (Below.refl W.heap.size W).grown hg (Nat.le_refl _) (fun k hk => by cases hk)
  have HG := Lib.hid hgd
  clear hown hg hgd hbk hcs
  go_loopw [4] (fun i wr => ∃ k : Nat, k ≤ n ∧ i = .int .i64 k ∧ FillS wr g n k ss ∧ Below g W wr) (fun i _ => n - (intOf i).toNat)
  case atStart => exact ⟨0, Nat.zero_le _, rfl, hf0, hb0⟩
  case round =>
    clear hf0 hb0
    obtain ⟨k, hk, rfl, hfl, hb⟩ := hrel
    by_cases hlt : k < n
    · obtain ⟨b, off, k', a', b', h', w', c', A', n', p', B', q', r', bs, xs, rfl, hbs, hj, hat⟩ := (HR.out.of_below (HG.out ▸ hb)).at hlt
      obtain ⟨rfl, rfl⟩ := hat.lens
      obtain ⟨c0, c1, c2, c3, c4, c5, c6, c7⟩ := hat.cells8
      have hbig := bigS_at8 hj
      have hn2 : bs.length ≤ 1048576 := by have := HN.out; omega
      have hq2 : xs.length ≤ 1048576 := by have := HN.out; omega
      have HJ := Lib.hid hj
      have HB := Lib.hid hb
      have HF := Lib.hid hfl
      have R1 := Lib.hid hat.rds.1
      have R2 := Lib.hid hat.rds.2
      have HN2 := Lib.hid hn2
      have HQ2 := Lib.hid hq2
      clear hat hj hbs hbig hn2 hq2 hfl hb
      have hi : (k : Int) < (n : Int) := by omega
      go_wp2_with fail
      clear c0 c1 c2 c3 c4 c5 c6 c7
      with_reducible refine (toStepL k' a' b' h' w' c' A' _ p' bs B' _ r' xs _ R1.out R2.out HN2.out HQ2.out).mono ?_
      rintro e w2 ⟨ga, gb, rfl, hga, hgb, oa, ob, b2⟩
      have hfl := HF.out.of_below b2
      have hgl := HF.out.lt
      have hb2 := HB.out.trans (b2.mono (Nat.le_of_lt hgl))
      obtain ⟨d0, e0⟩ := hfl.room (c := k * 8) (by omega)
      obtain ⟨d1, e1⟩ := hfl.room (c := k * 8 + 1) (by omega)
      obtain ⟨d2, e2⟩ := hfl.room (c := k * 8 + 2) (by omega)
      obtain ⟨d3, e3⟩ := hfl.room (c := k * 8 + 3) (by omega)
      obtain ⟨d4, e4⟩ := hfl.room (c := k * 8 + 4) (by omega)
      obtain ⟨d5, e5⟩ := hfl.room (c := k * 8 + 5) (by omega)
      obtain ⟨d6, e6⟩ := hfl.room (c := k * 8 + 6) (by omega)
      obtain ⟨d7, e7⟩ := hfl.room (c := k * 8 + 7) (by omega)
      have f0 := hfl.free (k * 8)
      have f1 := hfl.free (k * 8 + 1)
      have f2 := hfl.free (k * 8 + 2)
      have f3 := hfl.free (k * 8 + 3)
      have f4 := hfl.free (k * 8 + 4)
      have f5 := hfl.free (k * 8 + 5)
      have f6 := hfl.free (k * 8 + 6)
      have f7 := hfl.free (k * 8 + 7)
      have hnx := FillS.next HF.out b2 hlt HJ.out ga gb hga hgb oa ob
      have HX := Lib.hid hnx
      have HBX := Lib.hid (below_wrow8 hb2 (Nat.le_refl g) (k * 8) (.int .i64 k') (.int .i64 a') (.int .i64 b') (.slice (some ⟨ga, 0, none⟩) bs.length bs.length) (.int .i64 h') (.int .i64 w') (.int .i64 c') (.slice (some ⟨gb, 0, none⟩) xs.length xs.length))
      clear hfl hgl hb2 hnx oa ob b2 hga hgb HJ HB HF R1 R2 HN2 HQ2
      go_wp2_with fail
      go_roundw
      case rel => exact ⟨k + 1, by omega, by go_num, HX.out, HBX.out⟩
      case measure => simp [intOf]; omega
    · obtain rfl : k = n := by omega
      have HB := Lib.hid hb
      have HF := Lib.hid hfl
      clear hb hfl
      go_wp2_with fail
      go_ret
      exact ⟨g, rfl, Nat.le_of_eq HG.out.symm, HF.out.lt, HF.out.rd HR.out.1, HG.out ▸ HB.out⟩
end Qt
end Go.Proofs.Ytalkoaahhkafaaa
