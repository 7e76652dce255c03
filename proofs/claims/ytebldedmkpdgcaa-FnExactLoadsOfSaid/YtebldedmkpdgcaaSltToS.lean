/- What the laws' own helpers toSlot and toSlotS give when they are called: a slice that reads as the same list, its elements in blocks of the call's own. Conditions: the slice reads as the list that is named. -/
import Derived.Test.YtebldedmkpdgcaaSlts
import Derived.Test.YtebldedmkpdgcaaRowB
import Derived.OwnWalk
import Derived.Outline
namespace Go.Proofs.Ytebldedmkpdgcaa
open Go.RowKit Go.Sort
set_option linter.unusedSimpArgs false
set_option linter.unusedVariables false
namespace Qt
def posSlt (s : Slt) (ga : Nat) : SltP := ⟨()⟩
section
variable {B : Nat} {w w' : World} {g n k : Nat} {cs : Array Value} {ss : List Slt}
def rowSlt (cs : Array Value) (i : Nat) (v0 v1 v2 v3 : Value) : Array Value := ((((cs.setIfInBounds i v0).setIfInBounds (i + 1) v1).setIfInBounds (i + 2) v2).setIfInBounds (i + 3) v3)
def wrowSlt (w : World) (g i : Nat) (v0 v1 v2 v3 : Value) : World := ((((w.setCell ⟨g, i, none⟩ v0).setCell ⟨g, i + 1, none⟩ v1).setCell ⟨g, i + 2, none⟩ v2).setCell ⟨g, i + 3, none⟩ v3)
theorem Bk.rowSlt {t : TypeId} (h : Bk w g t cs) (i : Nat) (v0 v1 v2 v3 : Value) : Bk (wrowSlt w g i v0 v1 v2 v3) g t (Qt.rowSlt cs i v0 v1 v2 v3) := ((((h.set i v0).set (i + 1) v1).set (i + 2) v2).set (i + 3) v3)
theorem rowSlt_size (cs : Array Value) (i : Nat) (v0 v1 v2 v3 : Value) : (rowSlt cs i v0 v1 v2 v3).size = cs.size := by simp [rowSlt]
theorem rowSlt_old {cs : Array Value} {i j : Nat} (h : j < i) (v0 v1 v2 v3 : Value) : (rowSlt cs i v0 v1 v2 v3)[j]? = cs[j]? := by
  simp only [rowSlt, Array.getElem?_setIfInBounds]
  repeat rw [if_neg (by omega)]
theorem rowSlt_new {cs : Array Value} {i : Nat} (h : i + 4 ≤ cs.size) (s : Slt) (P : SltP) (c : Nat) (v : Value) (hv : (sltC s P)[c]? = some v) :
    (rowSlt cs i (.int .i64 s.jb) (.int .i64 s.wk) (.int .i64 s.fr) (.int .i64 s.te))[i + c]? = some v := by
  have hc : c < 4 := by have := (List.getElem?_eq_some_iff.1 hv).1; simpa [sltC] using this
  obtain rfl | rfl | rfl | rfl : c = 0 ∨ c = 1 ∨ c = 2 ∨ c = 3 := by omega
  all_goals
    simp [sltC] at hv
    subst hv
    simp [rowSlt, Array.getElem?_setIfInBounds]
    omega
theorem OwnI.wrowSlt {b m : Nat} {xs : List Int} (h : OwnI B w (some ⟨b, 0, none⟩) m xs) (hp : b ≠ g) (i : Nat) (v0 v1 v2 v3 : Value) : OwnI B (wrowSlt w g i v0 v1 v2 v3) (some ⟨b, 0, none⟩) m xs := ((((h.far (p := ⟨g, i, none⟩) hp v0).far (p := ⟨g, i + 1, none⟩) hp v1).far (p := ⟨g, i + 2, none⟩) hp v2).far (p := ⟨g, i + 3, none⟩) hp v3)
theorem below_wrowSlt {C : Nat} {W : World} (h : Below C W w) (hC : C ≤ g) (i : Nat) (v0 v1 v2 v3 : Value) : Below C W (wrowSlt w g i v0 v1 v2 v3) := ((((h.setCell (p := ⟨g, i, none⟩) hC v0).setCell (p := ⟨g, i + 1, none⟩) hC v1).setCell (p := ⟨g, i + 2, none⟩) hC v2).setCell (p := ⟨g, i + 3, none⟩) hC v3)
/-- The first k stand in block g, which is wholly known; their lists lie in blocks of the call's own. -/
def FillSlt (B : Nat) (w : World) (g n k : Nat) (ss : List Slt) : Prop :=
  ∃ cs, Bk w g 92 cs ∧ cs.size = n * 4 ∧ ∀ j s, j < k → ss[j]? = some s → ∃ ga, ga ≠ g ∧ (∀ c v, (sltC s (posSlt s ga))[c]? = some v → cs[j * 4 + c]? = some v) ∧ True
theorem FillSlt.of_below (h : FillSlt B w g n k ss) (hb : Below w.heap.size w w') : FillSlt B w' g n k ss := by
  obtain ⟨cs, hB, hs, hr⟩ := h
  exact ⟨cs, hB.below hb, hs, fun j s hj he => by
    obtain ⟨ga, h1, h3, h4⟩ := hr j s hj he
    exact ⟨ga, h1, h3, trivial⟩⟩
theorem FillSlt.zero (h : Bk w g 92 cs) (hs : cs.size = n * 4) : FillSlt B w g n 0 ss := ⟨cs, h, hs, fun j s hj => absurd hj (by omega)⟩
theorem FillSlt.room (h : FillSlt B w g n k ss) {c : Nat} (hc : c < n * 4) : ∃ v, w.cell? ⟨g, c, none⟩ = some v := by
  obtain ⟨cs, hB, hs, _⟩ := h
  exact ⟨cs[c]'(by omega), hB.cell c (Array.getElem?_eq_getElem (by omega))⟩
theorem FillSlt.free (h : FillSlt B w g n k ss) (c : Nat) : w.frozen? ⟨g, c, none⟩ = false := by
  obtain ⟨cs, hB, _⟩ := h
  exact hB.frozen c
theorem FillSlt.lt (h : FillSlt B w g n k ss) : g < w.heap.size := by
  obtain ⟨cs, hB, _⟩ := h
  exact hB.lt
theorem FillSlt.rd (h : FillSlt B w g n n ss) (hl : ss.length = n) : RdSlt w (some ⟨g, 0, none⟩) n ss := by
  obtain ⟨cs, hB, hs, hr⟩ := h
  refine ⟨hl, fun hn => ⟨g, 0, rfl, hB.lt, fun j s hj => ?_⟩⟩
  have hjn : j < n := by have := (List.getElem?_eq_some_iff.1 hj).1; omega
  obtain ⟨ga, _, h3, h4⟩ := hr j s hjn hj
  exact ⟨posSlt s ga, fun i v hv => by rw [Nat.zero_add]; exact hB.cell _ (h3 i v hv), trivial⟩
/-- The next one is laid into its place. -/
theorem FillSlt.next {w0 : World} (h0 : FillSlt B w0 g n k ss) (hb : Below w0.heap.size w0 w) (hk : k < n) {s : Slt} (hl : ss[k]? = some s)  :
    FillSlt B (wrowSlt w g (k * 4) (.int .i64 s.jb) (.int .i64 s.wk) (.int .i64 s.fr) (.int .i64 s.te)) g n (k + 1) ss := by
  obtain ⟨cs, hB0, hs, hr0⟩ := h0
  have hg0 := hB0.lt
  have hB := hB0.below hb
  refine ⟨_, hB.rowSlt (k * 4) _ _ _ _, by rw [rowSlt_size]; exact hs, fun j s' hj hjs => ?_⟩
  by_cases e : j < k
  · obtain ⟨xa, h1, h3, h4⟩ := hr0 j s' e hjs
    refine ⟨xa, h1, fun c v hv => ?_, trivial⟩
    have hc : c < 4 := by have := (List.getElem?_eq_some_iff.1 hv).1; simpa [sltC] using this
    rw [rowSlt_old (by omega)]
    exact h3 c v hv
  · have hjk : j = k := by omega
    subst hjk
    rw [hl] at hjs
    cases hjs
    exact ⟨(g + 1), by omega, fun c v hv => rowSlt_new (by omega) s (posSlt s (g + 1)) c v hv, trivial⟩
end
def NewSlt (W : World) (jb wk fr te : Int) (e : Ending) (W' : World) : Prop :=
  e = .returned (.agg #[.int .i64 jb, .int .i64 wk, .int .i64 fr, .int .i64 te]) ∧ Below W.heap.size W W'
set_option maxHeartbeats 2000000 in
theorem toSltO (jb wk fr te : Int) (W : World) :
    Calls Try.prog 71 #[.agg #[.int .i64 jb, .int .i64 wk, .int .i64 fr, .int .i64 te]] W (NewSlt W jb wk fr te) := by
  go_enter Try.func71, Try.ntmps71
  go_wp2_with fail
  exact bodyPost_ret (v := .agg #[.int .i64 jb, .int .i64 wk, .int .i64 fr, .int .i64 te]) (by simp [results, Try.results71, go_sem]) rfl ⟨rfl, (((Below.refl _ W).alloc (Nat.le_refl _) _).alloc (by simp) _).alloc (by simp only [World.size_alloc]; omega) _⟩
def zeroSlt : Value := .agg #[.int .i64 0, .int .i64 0, .int .i64 0, .int .i64 0]
theorem infoSlt : (Try.prog.info? 92).map (fun i => (i.zero, i.size, i.bytes)) = some (some zeroSlt, 4, 32) := by kernel_rfl
/-- A slice of the call's own: its elements stand in one block, their lists in blocks of the call's own besides. -/
def OwnSlt (B : Nat) (w : World) (g n : Nat) (ss : List Slt) : Prop := ss.length = n ∧ B ≤ g ∧ FillSlt B w g n n ss
theorem OwnSlt.rd {B : Nat} {w : World} {g n : Nat} {ss : List Slt} (h : OwnSlt B w g n ss) : RdSlt w (some ⟨g, 0, none⟩) n ss := h.2.2.rd h.1
theorem OwnSlt.of_below {B : Nat} {w w' : World} {g n : Nat} {ss : List Slt} (h : OwnSlt B w g n ss) (hb : Below w.heap.size w w') : OwnSlt B w' g n ss := ⟨h.1, h.2.1, h.2.2.of_below hb⟩
def NewsSlt (W : World) (n : Nat) (ss : List Slt) (e : Ending) (W' : World) : Prop := ∃ g, e = .returned (.slice (some ⟨g, 0, none⟩) n n) ∧ g < W'.heap.size ∧ OwnSlt W.heap.size W' g n ss ∧ Below W.heap.size W W'
set_option maxRecDepth 10000 in
set_option maxHeartbeats 1000000 in
theorem toSltSL (A : Option Addr) (n p : Nat) (ss : List Slt) (W : World) (hr : RdSlt W A n ss) (hn : n + bigSlt ss ≤ 1048576) :
    Calls Try.prog 16 #[.slice A n p] W (NewsSlt W n ss) := by
  obtain ⟨i0, hi, hz0, hz1, hz2⟩ := info_parts infoSlt
  have HR := Lib.hid hr
  have HN := Lib.hid hn
  have hn1 : (n : Int) ≤ 1048576 := by omega
  clear hr hn
  go_enter Try.func16, Try.ntmps16
  go_wp2_with (at_make; go_loud (refine wpList_make_full _ rfl _ _ 26 rfl W.heap.size 92 i0 zeroSlt 4 Try.underlying26 hi hz0 hz1 .i64 .i64 _ _ n rfl rfl rfl rfl (by rw [hz2]; omega) (by unfold maxLen; omega) (Nat.le_refl _) ?_); intro w1 hown hg)
  obtain ⟨g, hgd⟩ : ∃ g, g = W.heap.size := ⟨_, rfl⟩
  obtain ⟨cs, hbk, hcs⟩ := ownsRow_bkR hown
  rw [← hgd] at hbk ⊢
  have hf0 : FillSlt g w1 g n 0 ss := FillSlt.zero hbk hcs
  have hb0 : Below g W w1 := hgd ▸ (Below.refl W.heap.size W).grown hg (Nat.le_refl _) (fun k hk => by cases hk)
  have HG := Lib.hid hgd
  clear hown hg hgd hbk hcs
  go_loopw [4] (fun i wr => ∃ k : Nat, k ≤ n ∧ i = .int .i64 k ∧ FillSlt g wr g n k ss ∧ Below g W wr) (fun i _ => n - (intOf i).toNat)
  case atStart => exact ⟨0, Nat.zero_le _, rfl, hf0, hb0⟩
  case round =>
    clear hf0 hb0
    obtain ⟨k, hk, rfl, hfl, hb⟩ := hrel
    by_cases hlt : k < n
    · obtain ⟨b, off, jb1, wk1, fr1, te1, P, rfl, hbs, hj, hat⟩ := (HR.out.of_below (HG.out ▸ hb)).at hlt
      obtain ⟨c0, c1, c2, c3⟩ := hat.cells
      have HJ := Lib.hid hj
      have HB := Lib.hid hb
      have HF := Lib.hid hfl
      clear hat hj hbs hfl hb
      have hi : (k : Int) < (n : Int) := by omega
      go_wp2_with fail
      clear c0 c1 c2 c3
      with_reducible refine (toSltO jb1 wk1 fr1 te1 _).mono ?_
      rintro e w2 ⟨rfl, b2⟩
      have hfl := HF.out.of_below b2
      have hgl := HF.out.lt
      have hb2 := HB.out.trans (b2.mono (Nat.le_of_lt hgl))
      obtain ⟨d0, e0⟩ := hfl.room (c := k * 4) (by omega)
      have f0 := hfl.free (k * 4)
      obtain ⟨d1, e1⟩ := hfl.room (c := k * 4 + 1) (by omega)
      have f1 := hfl.free (k * 4 + 1)
      obtain ⟨d2, e2⟩ := hfl.room (c := k * 4 + 2) (by omega)
      have f2 := hfl.free (k * 4 + 2)
      obtain ⟨d3, e3⟩ := hfl.room (c := k * 4 + 3) (by omega)
      have f3 := hfl.free (k * 4 + 3)
      have hnx := FillSlt.next HF.out b2 hlt HJ.out 
      have HX := Lib.hid hnx
      have HBX := Lib.hid (below_wrowSlt hb2 (Nat.le_refl g) (k * 4) (.int .i64 jb1) (.int .i64 wk1) (.int .i64 fr1) (.int .i64 te1))
      clear hfl hgl hb2 hnx b2 HJ HB HF
      go_wp2_with fail
      go_roundw
      case rel => exact ⟨k + 1, by omega, by go_num, HX.out, HBX.out⟩
      case measure => simp [intOf]; omega
    · obtain rfl : k = n := by omega
      have HB := Lib.hid hb
      have HF := Lib.hid hfl
      clear hb hfl
      go_wp2_with fail
      go_ret
      exact ⟨g, rfl, HF.out.lt, HG.out ▸ ⟨HR.out.1, Nat.le_refl _, HF.out⟩, HG.out ▸ HB.out⟩
end Qt
end Go.Proofs.Ytebldedmkpdgcaa
