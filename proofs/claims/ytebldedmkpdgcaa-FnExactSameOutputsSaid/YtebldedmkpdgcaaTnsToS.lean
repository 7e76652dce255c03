/- What the laws' own helpers toTensor and toTensorS give when they are called: a slice that reads as the same list, its elements in blocks of the call's own. Conditions: the slice reads as the list that is named. -/
import Derived.Test.YtebldedmkpdgcaaTnss
import Derived.Test.YtebldedmkpdgcaaRowB
import Derived.OwnWalk
import Derived.Outline
namespace Go.Proofs.Ytebldedmkpdgcaa
open Go.RowKit Go.Sort
set_option linter.unusedSimpArgs false
set_option linter.unusedVariables false
namespace Qt
def posTns (s : Tns) (ga : Nat) : TnsP := ⟨some ⟨ga, 0, none⟩, s.xs.length, s.xs.length⟩
section
variable {B : Nat} {w w' : World} {g n k : Nat} {cs : Array Value} {ss : List Tns}
def rowTns (cs : Array Value) (i : Nat) (v0 v1 v2 v3 : Value) : Array Value := ((((cs.setIfInBounds i v0).setIfInBounds (i + 1) v1).setIfInBounds (i + 2) v2).setIfInBounds (i + 3) v3)
def wrowTns (w : World) (g i : Nat) (v0 v1 v2 v3 : Value) : World := ((((w.setCell ⟨g, i, none⟩ v0).setCell ⟨g, i + 1, none⟩ v1).setCell ⟨g, i + 2, none⟩ v2).setCell ⟨g, i + 3, none⟩ v3)
theorem Bk.rowTns {t : TypeId} (h : Bk w g t cs) (i : Nat) (v0 v1 v2 v3 : Value) : Bk (wrowTns w g i v0 v1 v2 v3) g t (Qt.rowTns cs i v0 v1 v2 v3) := ((((h.set i v0).set (i + 1) v1).set (i + 2) v2).set (i + 3) v3)
theorem rowTns_size (cs : Array Value) (i : Nat) (v0 v1 v2 v3 : Value) : (rowTns cs i v0 v1 v2 v3).size = cs.size := by simp [rowTns]
theorem rowTns_old {cs : Array Value} {i j : Nat} (h : j < i) (v0 v1 v2 v3 : Value) : (rowTns cs i v0 v1 v2 v3)[j]? = cs[j]? := by
  simp only [rowTns, Array.getElem?_setIfInBounds]
  repeat rw [if_neg (by omega)]
theorem rowTns_new {cs : Array Value} {i : Nat} (h : i + 4 ≤ cs.size) (s : Tns) (P : TnsP) (c : Nat) (v : Value) (hv : (tnsC s P)[c]? = some v) :
    (rowTns cs i (.int .i64 s.h) (.int .i64 s.w) (.int .i64 s.c) (.slice P.A P.n P.p))[i + c]? = some v := by
  have hc : c < 4 := by have := (List.getElem?_eq_some_iff.1 hv).1; simpa [tnsC] using this
  obtain rfl | rfl | rfl | rfl : c = 0 ∨ c = 1 ∨ c = 2 ∨ c = 3 := by omega
  all_goals
    simp [tnsC] at hv
    subst hv
    simp [rowTns, Array.getElem?_setIfInBounds]
    omega
theorem OwnI.wrowTns {b m : Nat} {xs : List Int} (h : OwnI B w (some ⟨b, 0, none⟩) m xs) (hp : b ≠ g) (i : Nat) (v0 v1 v2 v3 : Value) : OwnI B (wrowTns w g i v0 v1 v2 v3) (some ⟨b, 0, none⟩) m xs := ((((h.far (p := ⟨g, i, none⟩) hp v0).far (p := ⟨g, i + 1, none⟩) hp v1).far (p := ⟨g, i + 2, none⟩) hp v2).far (p := ⟨g, i + 3, none⟩) hp v3)
theorem below_wrowTns {C : Nat} {W : World} (h : Below C W w) (hC : C ≤ g) (i : Nat) (v0 v1 v2 v3 : Value) : Below C W (wrowTns w g i v0 v1 v2 v3) := ((((h.setCell (p := ⟨g, i, none⟩) hC v0).setCell (p := ⟨g, i + 1, none⟩) hC v1).setCell (p := ⟨g, i + 2, none⟩) hC v2).setCell (p := ⟨g, i + 3, none⟩) hC v3)
/-- The first k stand in block g, which is wholly known; their lists lie in blocks of the call's own. -/
def FillTns (B : Nat) (w : World) (g n k : Nat) (ss : List Tns) : Prop :=
  ∃ cs, Bk w g 68 cs ∧ cs.size = n * 4 ∧ ∀ j s, j < k → ss[j]? = some s → ∃ ga, ga ≠ g ∧ (∀ c v, (tnsC s (posTns s ga))[c]? = some v → cs[j * 4 + c]? = some v) ∧ OwnI B w (some ⟨ga, 0, none⟩) s.xs.length s.xs
theorem FillTns.of_below (h : FillTns B w g n k ss) (hb : Below w.heap.size w w') : FillTns B w' g n k ss := by
  obtain ⟨cs, hB, hs, hr⟩ := h
  exact ⟨cs, hB.below hb, hs, fun j s hj he => by
    obtain ⟨ga, h1, h3, h4⟩ := hr j s hj he
    exact ⟨ga, h1, h3, h4.of_below hb⟩⟩
theorem FillTns.zero (h : Bk w g 68 cs) (hs : cs.size = n * 4) : FillTns B w g n 0 ss := ⟨cs, h, hs, fun j s hj => absurd hj (by omega)⟩
theorem FillTns.room (h : FillTns B w g n k ss) {c : Nat} (hc : c < n * 4) : ∃ v, w.cell? ⟨g, c, none⟩ = some v := by
  obtain ⟨cs, hB, hs, _⟩ := h
  exact ⟨cs[c]'(by omega), hB.cell c (Array.getElem?_eq_getElem (by omega))⟩
theorem FillTns.free (h : FillTns B w g n k ss) (c : Nat) : w.frozen? ⟨g, c, none⟩ = false := by
  obtain ⟨cs, hB, _⟩ := h
  exact hB.frozen c
theorem FillTns.lt (h : FillTns B w g n k ss) : g < w.heap.size := by
  obtain ⟨cs, hB, _⟩ := h
  exact hB.lt
theorem FillTns.rd (h : FillTns B w g n n ss) (hl : ss.length = n) : RdTns w (some ⟨g, 0, none⟩) n ss := by
  obtain ⟨cs, hB, hs, hr⟩ := h
  refine ⟨hl, fun hn => ⟨g, 0, rfl, hB.lt, fun j s hj => ?_⟩⟩
  have hjn : j < n := by have := (List.getElem?_eq_some_iff.1 hj).1; omega
  obtain ⟨ga, _, h3, h4⟩ := hr j s hjn hj
  exact ⟨posTns s ga, fun i v hv => by rw [Nat.zero_add]; exact hB.cell _ (h3 i v hv), h4.rdI⟩
/-- The next one is laid into its place. -/
theorem FillTns.next {w0 : World} (h0 : FillTns B w0 g n k ss) (hb : Below w0.heap.size w0 w) (hk : k < n) {s : Tns} (hl : ss[k]? = some s) (ga : Nat) (hga : w0.heap.size ≤ ga) (ha : OwnI B w (some ⟨ga, 0, none⟩) s.xs.length s.xs) :
    FillTns B (wrowTns w g (k * 4) (.int .i64 s.h) (.int .i64 s.w) (.int .i64 s.c) (.slice (some ⟨ga, 0, none⟩) s.xs.length s.xs.length)) g n (k + 1) ss := by
  obtain ⟨cs, hB0, hs, hr0⟩ := h0
  have hg0 := hB0.lt
  have hB := hB0.below hb
  refine ⟨_, hB.rowTns (k * 4) _ _ _ _, by rw [rowTns_size]; exact hs, fun j s' hj hjs => ?_⟩
  by_cases e : j < k
  · obtain ⟨xa, h1, h3, h4⟩ := hr0 j s' e hjs
    refine ⟨xa, h1, fun c v hv => ?_, (h4.of_below hb).wrowTns h1 _ _ _ _ _⟩
    have hc : c < 4 := by have := (List.getElem?_eq_some_iff.1 hv).1; simpa [tnsC] using this
    rw [rowTns_old (by omega)]
    exact h3 c v hv
  · have hjk : j = k := by omega
    subst hjk
    rw [hl] at hjs
    cases hjs
    exact ⟨ga, by omega, fun c v hv => rowTns_new (by omega) s (posTns s ga) c v hv, ha.wrowTns (by omega) _ _ _ _ _⟩
end
def NewTns (W : World) (h w c : Int) (n : Nat) (xs : List Int) (e : Ending) (W' : World) : Prop :=
  ∃ ga, e = .returned (.agg #[.int .i64 h, .int .i64 w, .int .i64 c, .slice (some ⟨ga, 0, none⟩) n n]) ∧ W.heap.size ≤ ga ∧ OwnI W.heap.size W' (some ⟨ga, 0, none⟩) n xs ∧ Below W.heap.size W W'
theorem toTnsO (h w c : Int) (A : Option Addr) (n p : Nat) (xs : List Int) (W : World) (hr : RdI W A n xs) (hn : n ≤ 1048576) :
    Calls Try.prog 51 #[.agg #[.int .i64 h, .int .i64 w, .int .i64 c, .slice A n p]] W (NewTns W h w c n xs) := toTensorO h w c A n p xs W hr hn
def zeroTns : Value := .agg #[.int .i64 0, .int .i64 0, .int .i64 0, .slice none 0 0]
theorem infoTns : (Try.prog.info? 68).map (fun i => (i.zero, i.size, i.bytes)) = some (some zeroTns, 4, 48) := by kernel_rfl
/-- A slice of the call's own: its elements stand in one block, their lists in blocks of the call's own besides. -/
def OwnTns (B : Nat) (w : World) (g n : Nat) (ss : List Tns) : Prop := ss.length = n ∧ B ≤ g ∧ FillTns B w g n n ss
theorem OwnTns.rd {B : Nat} {w : World} {g n : Nat} {ss : List Tns} (h : OwnTns B w g n ss) : RdTns w (some ⟨g, 0, none⟩) n ss := h.2.2.rd h.1
theorem OwnTns.of_below {B : Nat} {w w' : World} {g n : Nat} {ss : List Tns} (h : OwnTns B w g n ss) (hb : Below w.heap.size w w') : OwnTns B w' g n ss := ⟨h.1, h.2.1, h.2.2.of_below hb⟩
def NewsTns (W : World) (n : Nat) (ss : List Tns) (e : Ending) (W' : World) : Prop := ∃ g, e = .returned (.slice (some ⟨g, 0, none⟩) n n) ∧ g < W'.heap.size ∧ OwnTns W.heap.size W' g n ss ∧ Below W.heap.size W W'
set_option maxRecDepth 10000 in
set_option maxHeartbeats 1000000 in
theorem toTnsSL (A : Option Addr) (n p : Nat) (ss : List Tns) (W : World) (hr : RdTns W A n ss) (hn : n + bigTns ss ≤ 1048576) :
    Calls Try.prog 35 #[.slice A n p] W (NewsTns W n ss) := by
  obtain ⟨i0, hi, hz0, hz1, hz2⟩ := info_parts infoTns
  have HR := Lib.hid hr
  have HN := Lib.hid hn
  have hn1 : (n : Int) ≤ 1048576 := by omega
  clear hr hn
  go_enter Try.func35, Try.ntmps35
  go_wp2_with (at_make; go_loud (refine wpList_make_full _ rfl _ _ 42 rfl W.heap.size 68 i0 zeroTns 4 Try.underlying42 hi hz0 hz1 .i64 .i64 _ _ n rfl rfl rfl rfl (by rw [hz2]; omega) (by unfold maxLen; omega) (Nat.le_refl _) ?_); intro w1 hown hg)
  obtain ⟨g, hgd⟩ : ∃ g, g = W.heap.size := ⟨_, rfl⟩
  obtain ⟨cs, hbk, hcs⟩ := ownsRow_bkR hown
  rw [← hgd] at hbk ⊢
  have hf0 : FillTns g w1 g n 0 ss := FillTns.zero hbk hcs
  have hb0 : Below g W w1 := hgd ▸ (Below.refl W.heap.size W).grown hg (Nat.le_refl _) (fun k hk => by cases hk)
  have HG := Lib.hid hgd
  clear hown hg hgd hbk hcs
  go_loopw [4] (fun i wr => ∃ k : Nat, k ≤ n ∧ i = .int .i64 k ∧ FillTns g wr g n k ss ∧ Below g W wr) (fun i _ => n - (intOf i).toNat)
  case atStart => exact ⟨0, Nat.zero_le _, rfl, hf0, hb0⟩
  case round =>
    clear hf0 hb0
    obtain ⟨k, hk, rfl, hfl, hb⟩ := hrel
    by_cases hlt : k < n
    · obtain ⟨b, off, h1, w1, c1, A', n', p', xs, rfl, hbs, hj, hat⟩ := (HR.out.of_below (HG.out ▸ hb)).at hlt
      obtain rfl := hat.lens
      obtain ⟨c0, c1, c2, c3⟩ := hat.cells
      have hbig := bigTns_at1 hj
      have hn2 : xs.length ≤ 1048576 := by have := HN.out; omega
      have HJ := Lib.hid hj
      have HB := Lib.hid hb
      have HF := Lib.hid hfl
      have R1 := Lib.hid hat.rds
      have HN2 := Lib.hid hn2
      clear hat hj hbs hbig hn2 hfl hb
      have hi : (k : Int) < (n : Int) := by omega
      go_wp2_with fail
      clear c0 c1 c2 c3
      with_reducible refine (toTnsO h1 w1 c1 A' _ p' xs _ R1.out HN2.out).mono ?_
      rintro e w2 ⟨ga, rfl, hga, oa, b2⟩
      have hfl := HF.out.of_below b2
      have hgl := HF.out.lt
      have hb2 := HB.out.trans (b2.mono (Nat.le_of_lt hgl))
      obtain ⟨d0, e0⟩ := hfl.room (c := k * 4) (by omega)
      have f0 := hfl.free (k * 4)
      obtain ⟨d1, e1⟩ := hfl.room (c := k * 4 + 1) (by omega)
      have f1 := hfl.free (k * 4 + 1)
      obtain ⟨d2, e2⟩ := hfl.room (c := k * 4 + 2) (by omega)
      have f2 := hfl.free (k * 4 + 2)
      obtain ⟨d3, e3⟩ := hfl.room (c := k * 4 + 3) (by omega)
      have f3 := hfl.free (k * 4 + 3)
      have hnx := FillTns.next HF.out b2 hlt HJ.out ga hga (oa.base (Nat.le_of_lt hgl))
      have HX := Lib.hid hnx
      have HBX := Lib.hid (below_wrowTns hb2 (Nat.le_refl g) (k * 4) (.int .i64 h1) (.int .i64 w1) (.int .i64 c1) (.slice (some ⟨ga, 0, none⟩) xs.length xs.length))
      clear hfl hgl hb2 hnx oa b2 hga HJ HB HF R1 HN2
      go_wp2_with fail
      go_roundw
      case rel => exact ⟨k + 1, by omega, by go_num, HX.out, HBX.out⟩
      case measure => simp [intOf]; omega
    · obtain rfl : k = n := by omega
      have HB := Lib.hid hb
      have HF := Lib.hid hfl
      clear hb hfl
      go_wp2_with fail
      go_ret
      exact ⟨g, rfl, HF.out.lt, HG.out ▸ ⟨HR.out.1, Nat.le_refl _, HF.out⟩, HG.out ▸ HB.out⟩
end Qt
end Go.Proofs.Ytebldedmkpdgcaa
