/- Where the numbers of a list of values of the type Task lie; the laws' helpers markTaskS and heldTaskS in these words. Conditions: the list's rows stand where they are said to, and their numbers may be written. -/
import Derived.Test.YtihnpfcjnfkfjaaQMarks
import Derived.Test.YtihnpfcjnfkfjaaQSchA
namespace Go.Proofs.Ytihnpfcjnfkfjaa
open Go.RowKit Go.Sort
set_option linter.unusedSimpArgs false
set_option linter.unusedVariables false
namespace Qt
def rowLTsk (g j : Nat) (P : TskP) : List Leaf := [(⟨g, j * 5, none⟩, some .i64)] ++ (sliL (some .i64) P.A P.n ++ ([(⟨g, j * 5 + 2, none⟩, some .i64)] ++ ([(⟨g, j * 5 + 3, none⟩, some .i64)] ++ ([(⟨g, j * 5 + 4, none⟩, some .i64)]))))
def lvTsk (g : Nat) : Nat → List TskP → List Leaf
  | _, [] => []
  | j, P :: r => rowLTsk g j P ++ lvTsk g (j + 1) r
def szPTsk : List TskP → Nat
  | [] => 0
  | P :: r => 4 + P.n + szPTsk r
/-- The headers of the rows stand in block g. -/
def StrTsk (w : World) (g : Nat) (Ps : List TskP) : Prop := ∀ j P, Ps[j]? = some P → w.cell? ⟨g, j * 5 + 1, none⟩ = some (.slice P.A P.n P.p) ∧ (0 < P.n → ∃ b o, P.A = some ⟨b, o, none⟩)
theorem lvTsk_append (g : Nat) (a b : List TskP) (j : Nat) : lvTsk g j (a ++ b) = lvTsk g j a ++ lvTsk g (j + a.length) b := by
  induction a generalizing j with
  | nil => simp [lvTsk]
  | cons s r ih => simp only [List.cons_append, lvTsk, ih, List.append_assoc, List.length_cons]; congr 3; omega
theorem szPTsk_append (a b : List TskP) : szPTsk (a ++ b) = szPTsk a + szPTsk b := by
  induction a with
  | nil => simp [szPTsk]
  | cons s r ih => simp [szPTsk, ih]; omega
theorem lvTsk_take {g j : Nat} {Ps : List TskP} {P : TskP} (h : Ps[j]? = some P) : lvTsk g 0 (Ps.take (j + 1)) = lvTsk g 0 (Ps.take j) ++ rowLTsk g j P := by
  have hj : j < Ps.length := (List.getElem?_eq_some_iff.1 h).1
  rw [List.take_add_one, h, lvTsk_append]
  simp [lvTsk, List.length_take, Nat.min_eq_left (Nat.le_of_lt hj)]
theorem szPTsk_take {j : Nat} {Ps : List TskP} {P : TskP} (h : Ps[j]? = some P) : szPTsk (Ps.take (j + 1)) = szPTsk (Ps.take j) + 4 + P.n := by
  rw [List.take_add_one, h, szPTsk_append]
  simp only [Option.toList_some, szPTsk]
  omega
theorem szPTsk_take_le (Ps : List TskP) (j : Nat) : szPTsk (Ps.take j) ≤ szPTsk Ps := by
  conv => rhs; rw [← List.take_append_drop j Ps, szPTsk_append]
  omega
theorem lvTsk_split {g j : Nat} {Ps : List TskP} {P : TskP} (h : Ps[j]? = some P) : ∃ R, lvTsk g 0 Ps = (lvTsk g 0 (Ps.take j) ++ rowLTsk g j P) ++ R := by
  refine ⟨lvTsk g (0 + (Ps.take (j + 1)).length) (Ps.drop (j + 1)), ?_⟩
  rw [← lvTsk_take h, ← lvTsk_append, List.take_append_drop]
theorem lvTsk_len {w : World} {g : Nat} : ∀ (Ps : List TskP) (j : Nat), (∀ P ∈ Ps, (0 < P.n → ∃ b o, P.A = some ⟨b, o, none⟩)) → (lvTsk g j Ps).length = szPTsk Ps := by
  intro Ps
  induction Ps with
  | nil => intros; rfl
  | cons P r ih =>
    intro j h
    have h0 := h P List.mem_cons_self
    have h1 := ih (j + 1) (fun Q hQ => h Q (List.mem_cons_of_mem _ hQ))
    simp only [lvTsk, rowLTsk, List.length_append, List.length_cons, List.length_nil, sliL_len (h0), h1, szPTsk]
    omega
theorem StrTsk.ha {w : World} {g : Nat} {Ps : List TskP} (h : StrTsk w g Ps) : ∀ P ∈ Ps, (0 < P.n → ∃ b o, P.A = some ⟨b, o, none⟩) := fun P hP => by
  obtain ⟨j, hj, e⟩ := List.getElem_of_mem hP
  have := h j P (by rw [List.getElem?_eq_getElem hj, e])
  exact this.2
theorem StrTsk.of_below {w w' : World} {g : Nat} {Ps : List TskP} (h : StrTsk w g Ps) (hb : Below w.heap.size w w') : StrTsk w' g Ps := fun j P hj => by
  have := h j P hj
  exact ⟨(hb.cell (World.block_lt_of_cell? w _ (this.1))).trans (this.1), this.2⟩
theorem StrTsk.marks {w w' : World} {g : Nat} {Ps : List TskP} {L : List Leaf} {k : Int} (h : StrTsk w g Ps) (hm : Marks L k w w') (hl : Liv L w) : StrTsk w' g Ps := fun j P hj => by
  have := h j P hj
  exact ⟨hm.cells _ _ (this.1) (hl.no_slice (this.1)), this.2⟩
theorem szPTsk_ge : ∀ Ps : List TskP, Ps.length ≤ szPTsk Ps := by
  intro Ps
  induction Ps with
  | nil => simp
  | cons s r ih => simp [szPTsk]; omega
set_option maxRecDepth 100000 in
set_option maxHeartbeats 4000000 in
theorem markTaskSM (A : Option Addr) (g n cap : Nat) (Ps : List TskP) (W : World) (k : Int) (hA0 : 0 < n → A = some ⟨g, 0, none⟩) (hl : Ps.length = n) (hs : StrTsk W g Ps) (hv : Liv (lvTsk g 0 Ps) W) (ha : Apart (lvTsk g 0 Ps)) (hb : szPTsk Ps ≤ 10000000) (hk0 : 0 ≤ k) (hk1 : k ≤ 10000000) :
    Calls Try.prog 56 #[.slice A n cap, .int .i64 k] W fun e W' => e = .returned (.int .i64 (k + szPTsk Ps)) ∧ Marks (lvTsk g 0 Ps) k W W' := by
  have hn1 : (n : Int) ≤ 1048576 ∨ 1048576 < (n : Int) := by omega
  have hnb : n ≤ 10000000 := by
    have := szPTsk_ge Ps
    omega
  have HL := Lib.hid hl
  have HA0 := Lib.hid hA0
  have HS := Lib.hid hs
  have HV := Lib.hid hv
  have HA := Lib.hid ha
  have HB := Lib.hid hb
  clear hl hs hv ha hb hn1 hA0
  go_enter Try.func56, Try.ntmps56
  go_wp2_with fail
  go_loopw [1, 5] (fun q i wr => ∃ j : Nat, j ≤ n ∧ i = .int .i64 j ∧ q = .int .i64 (k + szPTsk (Ps.take j)) ∧ Hid (Marks (lvTsk g 0 (Ps.take j)) k W wr)) (fun _ i _ => n - (intOf i).toNat)
  case atStart => exact ⟨0, Nat.zero_le _, rfl, by simp [szPTsk], Lib.hid (Marks.refl k W)⟩
  case round =>
    obtain ⟨j, hj, rfl, rfl, HM⟩ := hrel
    by_cases hlt : j < n
    · obtain rfl := HA0.out (by omega)
      obtain ⟨P, hP⟩ : ∃ P, Ps[j]? = some P := ⟨_, List.getElem?_eq_getElem (by rw [HL.out]; exact hlt)⟩
      have hij : (j : Int) < (n : Int) := by omega
      have hst := HS.out j P hP
      have hbt := szPTsk_take hP
      have hble := szPTsk_take_le Ps (j + 1)
      have hB := HB.out
      obtain ⟨R, hR⟩ := lvTsk_split (g := g) hP
      have hTK := lvTsk_take (g := g) hP
      have hlen := lvTsk_len (w := W) (g := g) (Ps.take j) 0 (fun Q hQ => HS.out.ha Q (List.mem_of_mem_take hQ))
      generalize lvTsk g 0 (Ps.take j) = La at HM hR hTK hlen
      have eR : (La ++ rowLTsk g j P) ++ R = (((((La ++ [(⟨g, j * 5, none⟩, some .i64)]) ++ sliL (some .i64) P.A P.n) ++ [(⟨g, j * 5 + 2, none⟩, some .i64)]) ++ [(⟨g, j * 5 + 3, none⟩, some .i64)]) ++ [(⟨g, j * 5 + 4, none⟩, some .i64)]) ++ R := by simp [rowLTsk]
      have eT : La ++ rowLTsk g j P = (((((La ++ [(⟨g, j * 5, none⟩, some .i64)]) ++ sliL (some .i64) P.A P.n) ++ [(⟨g, j * 5 + 2, none⟩, some .i64)]) ++ [(⟨g, j * 5 + 3, none⟩, some .i64)]) ++ [(⟨g, j * 5 + 4, none⟩, some .i64)]) := by simp [rowLTsk]
      rw [eR] at hR
      rw [eT] at hTK
      have HTK := Lib.hid hTK
      have apF := HA.out
      have lvF := HV.out
      rw [hR] at apF lvF
      have ap5 := apF.of_append.1
      have lv5 := lvF.left
      have ds4 := ap5.of_append.2.2
      have ap4 := ap5.of_append.1
      have ln4 := lv5.right
      have lv4 := lv5.left
      have ds3 := ap4.of_append.2.2
      have ap3 := ap4.of_append.1
      have ln3 := lv4.right
      have lv3 := lv4.left
      have ds2 := ap3.of_append.2.2
      have ap2 := ap3.of_append.1
      have ln2 := lv3.right
      have lv2 := lv3.left
      have ds1 := ap2.of_append.2.2
      have ap1 := ap2.of_append.1
      have ln1 := lv2.right
      have lv1 := lv2.left
      have ds0 := ap1.of_append.2.2
      have ap0 := ap1.of_append.1
      have ln0 := lv1.right
      have lv0 := lv1.left
      generalize hK : k + szPTsk (Ps.take j) = K at *
      have hKa : 0 ≤ K := by omega
      have hKb : K ≤ 30000000 := by omega
      have FA := Lib.hid (And.intro hlen hK)
      have HBT := Lib.hid hbt
      have HST := Lib.hid hst
      have D0 := Lib.hid (And.intro ds0 (And.intro ln0 lv0))
      have D1 := Lib.hid (And.intro ds1 (And.intro ln1 lv1))
      have D2 := Lib.hid (And.intro ds2 (And.intro ln2 lv2))
      have D3 := Lib.hid (And.intro ds3 (And.intro ln3 lv3))
      have D4 := Lib.hid (And.intro ds4 (And.intro ln4 lv4))
      have HP := Lib.hid hP
      have hPn : szPTsk (Ps.take j) + (4 + P.n) ≤ 10000000 := by omega
      have HPN := Lib.hid hPn
      clear hR eR eT apF lvF hTK hlen hK hbt hble hB hst hP hPn ds0 ap0 ln0 lv0 ds1 ap1 ln1 lv1 ds2 ap2 ln2 lv2 ds3 ap3 ln3 lv3 ds4 ap4 ln4 lv4 ap5 lv5
      obtain ⟨⟨v, e0, y0, rfl⟩, f0⟩ := (HM.out.liv D0.out.2.1 D0.out.2.2) _ List.mem_cons_self
      simp only at e0 f0
      have hh1 := HM.out.cells _ _ (HST.out.1) (D0.out.2.2.no_slice (HST.out.1))
      have hq0 := Marks.next (a := ⟨g, j * 5, none⟩) (HM.out) (e0) (fun b hb => D0.out.1 b hb _ List.mem_cons_self) (K) (by have h1 := FA.out.1; have h2 := FA.out.2; skip; (try simp only [List.length_append, List.length_cons, List.length_nil, sliL_len (HST.out.2)]); omega)
      have HQ0 := Lib.hid hq0
      clear HM hq0
      go_wp2_with fail
      clear hh1 e0 f0
      generalize (wr.setCell ⟨g, j * 5, none⟩ (.int .i64 (K))) = w1 at HQ0 ⊢
      generalize hK1 : K + 1 = K1
      have hz0 : 0 ≤ K1 := by omega
      have hz1 : K1 ≤ 50000000 := by omega
      have HK1 := Lib.hid hK1
      clear hK1 hKa hKb
      with_reducible refine (markIntSM P.A P.n P.p K1 _ HST.out.2 (HQ0.out.liv D1.out.2.1 D1.out.2.2) (by have := HPN.out; omega) hz0 (by omega)).mono ?_
      rintro e w2 ⟨rfl, hm⟩
      have HQ1 := Lib.hid (HQ0.out.trans (x := k) (w1 := _) (by have he : K1 = k + ((La ++ [(⟨g, j * 5, none⟩, some .i64)]) : List Leaf).length := (by have h1 := FA.out.1; have h2 := FA.out.2; have hK1 := HK1.out; (try simp only [List.length_append, List.length_cons, List.length_nil, sliL_len (HST.out.2)]); omega); rw [← he]; exact hm) D1.out.1)
      clear hm HQ0
      generalize hK2 : K1 + (P.n : Int) = K2
      have hz2 : 0 ≤ K2 := by have := HPN.out; omega
      have hz3 : K2 ≤ 70000000 := by have := HPN.out; omega
      have HK2 := Lib.hid hK2
      clear hK2 hz0 hz1
      have hz0 := hz2
      have hz1 := hz3
      clear hz2 hz3
      obtain ⟨⟨v, e2, y2, rfl⟩, f2⟩ := (HQ1.out.liv D2.out.2.1 D2.out.2.2) _ List.mem_cons_self
      simp only at e2 f2
      obtain ⟨⟨v, e3, y3, rfl⟩, f3⟩ := (HQ1.out.liv D3.out.2.1 D2.out.2.2) _ List.mem_cons_self
      simp only at e3 f3
      obtain ⟨⟨v, e4, y4, rfl⟩, f4⟩ := (HQ1.out.liv D4.out.2.1 D2.out.2.2) _ List.mem_cons_self
      simp only at e4 f4
      have hq2 := Marks.next (a := ⟨g, j * 5 + 2, none⟩) (HQ1.out) (e2) (fun b hb => D2.out.1 b hb _ List.mem_cons_self) (K2) (by have h1 := FA.out.1; have h2 := FA.out.2; have hK1 := HK1.out; have hK2 := HK2.out; (try simp only [List.length_append, List.length_cons, List.length_nil, sliL_len (HST.out.2)]); omega)
      have hq3 := Marks.next (a := ⟨g, j * 5 + 3, none⟩) hq2 ((World.cell?_setCell_other _ _ _ _ (fun e => by injection e with _ e _; omega)).trans (e3)) (fun b hb => D3.out.1 b hb _ List.mem_cons_self) (K2 + 1) (by have h1 := FA.out.1; have h2 := FA.out.2; have hK1 := HK1.out; have hK2 := HK2.out; (try simp only [List.length_append, List.length_cons, List.length_nil, sliL_len (HST.out.2)]); omega)
      have hq4 := Marks.next (a := ⟨g, j * 5 + 4, none⟩) hq3 ((World.cell?_setCell_other _ _ _ _ (fun e => by injection e with _ e _; omega)).trans ((World.cell?_setCell_other _ _ _ _ (fun e => by injection e with _ e _; omega)).trans (e4))) (fun b hb => D4.out.1 b hb _ List.mem_cons_self) (K2 + 1 + 1) (by have h1 := FA.out.1; have h2 := FA.out.2; have hK1 := HK1.out; have hK2 := HK2.out; (try simp only [List.length_append, List.length_cons, List.length_nil, sliL_len (HST.out.2)]); omega)
      have HQ4 := Lib.hid hq4
      clear HQ1 hq2 hq3 hq4
      go_wp2_with fail
      go_roundw
      case rel => exact ⟨j + 1, by omega, by go_num, by have h1 := FA.out.2; have h2 := HBT.out; have hK1 := HK1.out; have hK2 := HK2.out; congr 1; omega, by rw [HTK.out]; exact HQ4⟩
      case measure => simp [intOf]; omega
    · obtain rfl : j = n := by omega
      rw [List.take_of_length_le (by rw [HL.out]; exact Nat.le_refl _)] at HM ⊢
      go_wp2_with fail
      go_ret
      exact ⟨rfl, HM.out⟩
set_option maxRecDepth 100000 in
set_option maxHeartbeats 4000000 in
theorem heldTaskSM (A : Option Addr) (g n cap : Nat) (Ps : List TskP) (W : World) (k : Int) (hA0 : 0 < n → A = some ⟨g, 0, none⟩) (hl : Ps.length = n) (hs : StrTsk W g Ps) (hv : IsSet (lvTsk g 0 Ps) k W) (hb : szPTsk Ps ≤ 10000000) (hk0 : 0 ≤ k) (hk1 : k ≤ 10000000) :
    Calls Try.prog 66 #[.slice A n cap, .int .i64 k] W fun e W' => e = .returned (.int .i64 (k + szPTsk Ps)) ∧ Below W.heap.size W W' := by
  have hnb : n ≤ 10000000 := by
    have := szPTsk_ge Ps
    omega
  have HL := Lib.hid hl
  have HA0 := Lib.hid hA0
  have HS := Lib.hid hs
  have HV := Lib.hid hv
  have HB := Lib.hid hb
  clear hl hs hv hb hA0
  go_enter Try.func66, Try.ntmps66
  go_wp2_with fail
  go_loopw [1, 5] (fun q i wr => ∃ j : Nat, j ≤ n ∧ i = .int .i64 j ∧ q = .int .i64 (k + szPTsk (Ps.take j)) ∧ Hid (Below W.heap.size W wr)) (fun _ i _ => n - (intOf i).toNat)
  case atStart => exact ⟨0, Nat.zero_le _, rfl, by simp [szPTsk], Lib.hid (Below.refl _ _)⟩
  case round =>
    obtain ⟨j, hj, rfl, rfl, Bl⟩ := hrel
    by_cases hlt : j < n
    · obtain rfl := HA0.out (by omega)
      obtain ⟨P, hP⟩ : ∃ P, Ps[j]? = some P := ⟨_, List.getElem?_eq_getElem (by rw [HL.out]; exact hlt)⟩
      have hij : (j : Int) < (n : Int) := by omega
      have hst := HS.out j P hP
      have hbt := szPTsk_take hP
      have hble := szPTsk_take_le Ps (j + 1)
      have hB := HB.out
      obtain ⟨R, hR⟩ := lvTsk_split (g := g) hP
      have hlen := lvTsk_len (w := W) (g := g) (Ps.take j) 0 (fun Q hQ => HS.out.ha Q (List.mem_of_mem_take hQ))
      generalize lvTsk g 0 (Ps.take j) = La at hR hlen
      have eR : (La ++ rowLTsk g j P) ++ R = (((((La ++ [(⟨g, j * 5, none⟩, some .i64)]) ++ sliL (some .i64) P.A P.n) ++ [(⟨g, j * 5 + 2, none⟩, some .i64)]) ++ [(⟨g, j * 5 + 3, none⟩, some .i64)]) ++ [(⟨g, j * 5 + 4, none⟩, some .i64)]) ++ R := by simp [rowLTsk]
      rw [eR] at hR
      have isF := HV.out
      rw [hR] at isF
      have is5 := isF.left
      have it4 := is5.right
      have is4 := is5.left
      have it3 := is4.right
      have is3 := is4.left
      have it2 := is3.right
      have is2 := is3.left
      have it1 := is2.right
      have is1 := is2.left
      have it0 := is1.right
      have is0 := is1.left
      generalize hK : k + szPTsk (Ps.take j) = K at *
      have hKa : 0 ≤ K := by omega
      have hKb : K ≤ 30000000 := by omega
      have FA := Lib.hid (And.intro hlen hK)
      have HBT := Lib.hid hbt
      have HST := Lib.hid hst
      have hPn : szPTsk (Ps.take j) + (4 + P.n) ≤ 10000000 := by omega
      have HPN := Lib.hid hPn
      have IT0 := Lib.hid it0
      have IT1 := Lib.hid it1
      have IT2 := Lib.hid it2
      have IT3 := Lib.hid it3
      have IT4 := Lib.hid it4
      clear hR eR isF hlen hK hbt hble hB hst hP hPn it0 is0 it1 is1 it2 is2 it3 is3 it4 is4 is5
      have e0 := IT0.out 0 _ rfl
      rw [lfV_i64, show k + _ + ((0 : Nat) : Int) = K from by simp only [Int.natCast_zero]; have h1 := FA.out.1; have h2 := FA.out.2; skip; (try simp only [List.length_append, List.length_cons, List.length_nil, sliL_len (HST.out.2)]); omega] at e0
      replace e0 := (Bl.out.cell (World.block_lt_of_cell? W _ e0)).trans e0
      simp only at e0
      have hh := (Bl.out.cell (World.block_lt_of_cell? W _ (HST.out.1))).trans (HST.out.1)
      go_wp2_with fail
      clear hh e0
      generalize hK1 : K + 1 = K1
      have hz0 : 0 ≤ K1 := by omega
      have hz1 : K1 ≤ 50000000 := by omega
      have HK1 := Lib.hid hK1
      clear hK1 hKa hKb
      have hset : IsSet (sliL (some .i64) P.A P.n) K1 W := by
        have hx := IT1.out
        rw [show k + ((_ : List Leaf).length : Int) = K1 from by have h1 := FA.out.1; have h2 := FA.out.2; have hK1 := HK1.out; (try simp only [List.length_append, List.length_cons, List.length_nil, sliL_len (HST.out.2)]); omega] at hx
        exact hx
      have hset := (IsSet.of_below0 hset Bl.out)
      with_reducible refine (heldIntSM P.A P.n P.p K1 _ (HST.out.2) hset (by have := HPN.out; omega) (by omega) (by omega)).mono ?_
      rintro e w2 ⟨rfl, bb⟩
      replace Bl := Lib.hid (Bl.out.trans (bb.mono Bl.out.size))
      clear bb hset
      generalize hK2 : K1 + ((P.n : Nat) : Int) = K2
      have hz2 : 0 ≤ K2 := by have := HPN.out; omega
      have hz3 : K2 ≤ 70000000 := by have := HPN.out; omega
      have HK2 := Lib.hid hK2
      clear hK2 hz0 hz1
      have hz0 := hz2
      have hz1 := hz3
      clear hz2 hz3
      have hzn : ¬ K2 < 0 := by omega
      have e2 := IT2.out 0 _ rfl
      rw [lfV_i64, show k + _ + ((0 : Nat) : Int) = K2 from by simp only [Int.natCast_zero]; have h1 := FA.out.1; have h2 := FA.out.2; have hK1 := HK1.out; have hK2 := HK2.out; (try simp only [List.length_append, List.length_cons, List.length_nil, sliL_len (HST.out.2)]); omega] at e2
      replace e2 := (Bl.out.cell (World.block_lt_of_cell? W _ e2)).trans e2
      simp only at e2
      have e3 := IT3.out 0 _ rfl
      rw [lfV_i64, show k + _ + ((0 : Nat) : Int) = K2 + 1 from by simp only [Int.natCast_zero]; have h1 := FA.out.1; have h2 := FA.out.2; have hK1 := HK1.out; have hK2 := HK2.out; (try simp only [List.length_append, List.length_cons, List.length_nil, sliL_len (HST.out.2)]); omega] at e3
      replace e3 := (Bl.out.cell (World.block_lt_of_cell? W _ e3)).trans e3
      simp only at e3
      have e4 := IT4.out 0 _ rfl
      rw [lfV_i64, show k + _ + ((0 : Nat) : Int) = K2 + 1 + 1 from by simp only [Int.natCast_zero]; have h1 := FA.out.1; have h2 := FA.out.2; have hK1 := HK1.out; have hK2 := HK2.out; (try simp only [List.length_append, List.length_cons, List.length_nil, sliL_len (HST.out.2)]); omega] at e4
      replace e4 := (Bl.out.cell (World.block_lt_of_cell? W _ e4)).trans e4
      simp only at e4
      go_wp2_with fail
      go_roundw
      case rel => exact ⟨j + 1, by omega, by go_num, by have h1 := FA.out.2; have h2 := HBT.out; have hK1 := HK1.out; have hK2 := HK2.out; congr 1; omega, Bl⟩
      case measure => simp [intOf]; omega
    · obtain rfl : j = n := by omega
      rw [List.take_of_length_le (by rw [HL.out]; exact Nat.le_refl _)]
      go_wp2_with fail
      go_ret
      exact ⟨rfl, Bl.out⟩
end Qt
end Go.Proofs.Ytihnpfcjnfkfjaa
