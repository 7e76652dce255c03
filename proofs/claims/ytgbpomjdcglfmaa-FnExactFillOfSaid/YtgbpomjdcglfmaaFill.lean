/- FillOf of the model: what it gives when it is called. No conditions. -/
import Derived.Test.YtgbpomjdcglfmaaFlat
import Derived.StillTailTactics
import Derived.Handy
import Derived.Deep.AppendLies
import Derived.Deep.RegionLaw
namespace Go.Proofs.Ytgbpomjdcglfmaa
open Go.RowKit Go.Sort
namespace Qt

theorem own_below {w w' : World} {B e size n : Nat} {V : Value} {vs : List Value} (h : w.ownsRow B e size V n vs) (hb : Below w.heap.size w w') : w'.ownsRow B e size V n vs := by
  refine ⟨h.1, ?_⟩
  rcases h.2 with ⟨h0, h1⟩ | ⟨g', cap, cur, hv, h1, hg, h2, h3⟩
  · exact .inl ⟨h0, h1⟩
  · exact .inr ⟨g', cap, cur, hv, h1, (hb.block g' (Array.getElem?_eq_some_iff.1 hg).1).trans hg, h2, h3⟩
theorem rep_snoc (k : Nat) (x : Int) : (List.replicate k x).map (Value.int .i64) ++ [.int .i64 x] = (List.replicate (k + 1) x).map (Value.int .i64) := by
  rw [List.replicate_succ']
  simp

/-- A tensor of these sides full of sat8 x; or nothing. -/
def Filled (W : World) (h w c x : Int) (b : Bool) (e : Ending) (W' : World) : Prop :=
  ReC W (if b then h else 0) (if b then w else 0) (if b then c else 0) b (szOf h w c).toNat (List.replicate (szOf h w c).toNat (sat8 x)) e W'
theorem fill_none (B : Nat) (W' : World) (h w c x : Int) (hs : shOk h w c = false) : OwnI B W' none (szOf h w c).toNat (List.replicate (szOf h w c).toNat (sat8 x)) := by
  rw [szOf_no hs]
  exact ⟨rfl, fun h => absurd h (Nat.lt_irrefl 0)⟩

theorem fillS_no (h w c x : Int) (hs : shOk h w c = false) (W : World) :
    Calls Try.prog 27 #[.agg #[.int .i64 h, .int .i64 w, .int .i64 c], .int .i64 x] W (Filled W h w c x false) := by
  have HS := Lib.hid hs
  have a0 := ((Below.refl _ W).alloc (Nat.le_refl _) (.cells #[.int .i64 h, .int .i64 w, .int .i64 c] 25)).alloc (by simp) (.cells #[.int .i64 0, .int .i64 0, .int .i64 0, .slice none 0 0] 35)
  have k4 := Bk.new (W.alloc (.cells #[.int .i64 h, .int .i64 w, .int .i64 c] 25)) 35 #[.int .i64 0, .int .i64 0, .int .i64 0, .slice none 0 0]
  simp only [World.size_alloc] at k4
  have i4 : W.heap.size ≤ W.heap.size + 1 := by omega
  clear hs
  go_enter Try.func27, Try.ntmps27
  go_wp2_with fail
  generalize (W.alloc (.cells #[.int .i64 h, .int .i64 w, .int .i64 c] 25)).alloc (.cells #[.int .i64 0, .int .i64 0, .int .i64 0, .slice none 0 0] 35) = v at k4 a0 ⊢
  generalize W.heap.size + 1 = g4 at k4 i4 ⊢
  refine (shapeOkS h w c false HS.out _).mono ?_
  rintro e u ⟨rfl, b1⟩
  have K4 := Lib.hid (k4.below b1)
  have A0 := Lib.hid (a0.trans (b1.mono a0.size))
  have I4 := Lib.hid i4
  clear k4 a0 b1 i4
  obtain ⟨j0, j1, j2, j3⟩ := K4.out.cell4
  obtain ⟨l0, l1, l2, l3⟩ := K4.out.free4
  go_wp2
  clear j0 j1 j2 j3 l0 l1 l2 l3
  have k9 := K4.out.set4 (x := .int .i64 0) (y := .int .i64 0) (z := .int .i64 0) (u := .slice none 0 0)
  have b9 := below_set4 A0.out I4.out (.int .i64 0) (.int .i64 0) (.int .i64 0) (.slice none 0 0)
  obtain ⟨z0, z1, z2, z3⟩ := k9.cell4
  have e0 : (szOf h w c).toNat = 0 := by rw [szOf_no HS.out]; rfl
  refine bodyPost_ret (v := .tuple #[.agg #[.int .i64 0, .int .i64 0, .int .i64 0, .slice none 0 0], .bool false]) ?_ rfl ⟨none, 0, by rw [e0]; rfl, fill_none _ _ h w c x HS.out, b9⟩
  clear k9 b9 K4 A0
  simp [results, Try.results27, go_sem, z0, z1, z2, z3]

theorem fillS_yes (h w c x : Int) (hs : shOk h w c = true) (W : World) :
    Calls Try.prog 27 #[.agg #[.int .i64 h, .int .i64 w, .int .i64 c], .int .i64 x] W (Filled W h w c x true) := by
  obtain ⟨i0, hi, hz0, hz1, hz2⟩ := info_parts info3
  have HS := Lib.hid hs
  obtain ⟨N, hN⟩ : ∃ N : Nat, szOf h w c = N := ⟨(szOf h w c).toNat, by have := szOf_bd h w c; omega⟩
  have hN2 : N ≤ 512 := by have := szOf_bd h w c; omega
  have hp := szOf_yes hs
  have hpos : 0 < N := by omega
  have HP := Lib.hid hpos
  have q : ∀ W, Calls Try.prog 16 #[.agg #[.int .i64 h, .int .i64 w, .int .i64 c]] W fun e W' => e = .returned (.int .i64 (N : Int)) ∧ Below W.heap.size W W' := fun W => by have := sizeOfS h w c W; rw [hN] at this; exact this
  have Q := Lib.hid q
  have HNN := Lib.hid hN
  have a0 := ((Below.refl _ W).alloc (Nat.le_refl _) (.cells #[.int .i64 h, .int .i64 w, .int .i64 c] 25)).alloc (by simp) (.cells #[.int .i64 0, .int .i64 0, .int .i64 0, .slice none 0 0] 35)
  have k2 := (Bk.new W 25 #[.int .i64 h, .int .i64 w, .int .i64 c]).alloc (.cells #[.int .i64 0, .int .i64 0, .int .i64 0, .slice none 0 0] 35)
  have k4 := Bk.new (W.alloc (.cells #[.int .i64 h, .int .i64 w, .int .i64 c] 25)) 35 #[.int .i64 0, .int .i64 0, .int .i64 0, .slice none 0 0]
  simp only [World.size_alloc] at k4
  have i4 : W.heap.size ≤ W.heap.size + 1 := by omega
  clear hs q hN hp hpos
  have hN0 : (N : Int) ≤ 512 := by omega
  go_enter Try.func27, Try.ntmps27
  go_wp2_with fail
  generalize (W.alloc (.cells #[.int .i64 h, .int .i64 w, .int .i64 c] 25)).alloc (.cells #[.int .i64 0, .int .i64 0, .int .i64 0, .slice none 0 0] 35) = v at k2 k4 a0 ⊢
  generalize W.heap.size + 1 = g4 at k4 i4 ⊢
  refine (shapeOkS h w c true HS.out _).mono ?_
  rintro e u ⟨rfl, b1⟩
  have K2 := Lib.hid ((k2.below b1).alloc (.cells #[.int .i64 h, .int .i64 w, .int .i64 c, .slice none 0 0] 35))
  have K4 := Lib.hid ((k4.below b1).alloc (.cells #[.int .i64 h, .int .i64 w, .int .i64 c, .slice none 0 0] 35))
  have K6 := Lib.hid (Bk.new u 35 #[.int .i64 h, .int .i64 w, .int .i64 c, .slice none 0 0])
  have A1 := a0.trans (b1.mono a0.size)
  have A0 := Lib.hid (A1.alloc A1.size (.cells #[.int .i64 h, .int .i64 w, .int .i64 c, .slice none 0 0] 35))
  have I4 := Lib.hid i4
  have I6 := Lib.hid A1.size
  have L2 := Lib.hid (k2.below b1).lt
  have L4 := Lib.hid (k4.below b1).lt
  obtain ⟨c0, c1, c2⟩ := (k2.below b1).cell3
  clear k2 k4 a0 b1 i4 A1
  go_upto_region 4 with fail
  clear c0 c1 c2
  obtain ⟨base, hbase⟩ : ∃ base, base = (u.alloc (.cells #[.int .i64 h, .int .i64 w, .int .i64 c, .slice none 0 0] 35)).heap.size := ⟨_, rfl⟩
  have HBS := Lib.hid hbase
  have LT6 := Lib.hid (show u.heap.size < base by rw [hbase]; simp)
  have LT4 := Lib.hid (show g4 < base by have := L4.out; rw [hbase]; simp; omega)
  have LT2 := Lib.hid (show W.heap.size < base by have := L2.out; rw [hbase]; simp; omega)
  have N46 := Lib.hid (show g4 ≠ u.heap.size from Nat.ne_of_lt L4.out)
  have N26 := Lib.hid (show W.heap.size ≠ u.heap.size from Nat.ne_of_lt L2.out)
  clear hbase
  generalize u.alloc (.cells #[.int .i64 h, .int .i64 w, .int .i64 c, .slice none 0 0] 35) = v2 at K2 K4 K6 A0 HBS ⊢
  generalize u.heap.size = g6 at K6 LT6 N46 N26 I6 ⊢
  go_wp2
  go_loopw [7] (fun i wr => ∃ (k : Nat) (V : Value), k ≤ N ∧ i = .int .i64 k ∧ wr.ownsRow base 3 1 V k ((List.replicate k (sat8 x)).map (Value.int .i64)) ∧ Bk wr g6 35 #[.int .i64 h, .int .i64 w, .int .i64 c, V] ∧ Bk wr g4 35 #[.int .i64 0, .int .i64 0, .int .i64 0, .slice none 0 0] ∧ Bk wr W.heap.size 25 #[.int .i64 h, .int .i64 w, .int .i64 c] ∧ Below W.heap.size W wr ∧ base ≤ wr.heap.size) (fun i _ => N - (intOf i).toNat)
  case atStart => exact ⟨0, .slice none 0 0, Nat.zero_le _, rfl, by simpa using World.ownsRow_nil v2 base _ 1, K6.out, K4.out, K2.out, A0.out, by rw [HBS.out]; exact Nat.le_refl _⟩
  case round =>
    clear K2 K4 K6 A0
    obtain ⟨k, V, hk, rfl, hown, hk6, hk4, hk2, hbw, hbs⟩ := hrel
    obtain ⟨c0, c1, c2⟩ := hk2.cell3
    have HO := Lib.hid hown
    have K6 := Lib.hid hk6
    have K4 := Lib.hid hk4
    have K2 := Lib.hid hk2
    have BW := Lib.hid hbw
    have HBs := Lib.hid hbs
    clear hown hk6 hk4 hk2 hbw hbs
    have hk0 : (0 : Int) ≤ k := Int.natCast_nonneg k
    go_wp2_with fail
    clear c0 c1 c2
    refine (Q.out _).mono ?_
    rintro e u1 ⟨rfl, b1⟩
    replace HO := Lib.hid (own_below HO.out b1)
    replace K6 := Lib.hid (K6.out.below b1)
    replace K4 := Lib.hid (K4.out.below b1)
    replace K2 := Lib.hid (K2.out.below b1)
    replace BW := Lib.hid (BW.out.trans (b1.mono BW.out.size))
    replace HBs := Lib.hid (Nat.le_trans HBs.out b1.size)
    clear b1
    by_cases hlt : k < N
    · have hi2 : (k : Int) < (N : Int) := by omega
      have e3 := K6.out.cell 3 rfl
      have f3 := K6.out.frozen 3
      go_upto_region 7 with fail
      have e3a : ∀ o, (u1.alloc o).cell? ⟨g6, 3, none⟩ = some V := fun o => (K6.out.alloc o).cell 3 rfl
      go_region_law (first
        | (go_simp; go_at_call 50; refine (sat8S _ _).mono ?_; rintro e w' ⟨rfl, rfl⟩)
        | (refine step_append_lies _ (by rfl) _ _ _ (by rfl) base 3 i0 _ 1 8 Try.underlying29 hi hz0 hz1 hz2 rfl (by omega) V k _ (by rfl) ((HO.out.alloc _).drew) ⟨u1.heap.size, 0, none⟩ 1 1 [.int .i64 (sat8 x)] (by rfl) (by rfl) (World.news_of_block (cs := #[.int .i64 (sat8 x)]) (t := 3) (fr := (0, 0)) (heap_alloc_new u1 _)) (by simp [Value.oneCell']) (by omega) (by unfold maxLen; omega) (by omega) (by have := HBs.out; simp; omega) (u1.heap.size + 1) (by simp) ?_
           intro g' cap' w5 hown' hgrow _ _
           obtain ⟨k6, k4, hbw, hbs⟩ := blkGrow HO.out K6.out K4.out BW.out HBs.out LT6.out LT4.out (Nat.le_of_lt LT2.out) hgrow
           obtain ⟨_, k2, _, _⟩ := blkGrow HO.out K6.out K2.out BW.out HBs.out LT6.out LT2.out (Nat.le_of_lt LT2.out) hgrow
           have e6 := k6.cell 3 rfl
           have f6 := k6.frozen 3
           have hne : Hid (g' ≠ g6) := Lib.hid (by have := (hown'.lt g' rfl).1; have := LT6.out; omega)
           have HO5 := Lib.hid hown'
           have K6e := Lib.hid k6
           have K4e := Lib.hid k4
           have K2e := Lib.hid k2
           have BWe := Lib.hid hbw
           have HBe := Lib.hid hbs
           clear hown' hgrow k6 k4 k2 hbw hbs))
      all_goals
        clear e3a
        go_wp2
        go_roundw
        case rel =>
          refine ⟨k + 1, _, by omega, by go_num, ?_, K6e.out.set 3 _, K4e.out.far (p := ⟨g6, 3, none⟩) N46.out _, K2e.out.far (p := ⟨g6, 3, none⟩) N26.out _, BWe.out.setCell (p := ⟨g6, 3, none⟩) I6.out _, by rw [World.size_setCell]; exact HBe.out⟩
          have hO := HO5.out
          rw [rep_snoc] at hO
          exact own_set hO hne.out _ _
        case measure => simp [intOf]; omega
    · obtain rfl : k = N := by omega
      obtain ⟨g', cap', rfl⟩ : ∃ g' cap', V = .slice (some ⟨g', 0, none⟩) k cap' := by
        rcases HO.out.2 with ⟨_, h0⟩ | ⟨g', cap', cur, rfl, _⟩
        · have := HP.out; omega
        · exact ⟨g', cap', rfl⟩
      have HW := Lib.hid ((OwnI.of_own HO.out).base (Nat.le_of_lt LT2.out))
      have HC := Lib.hid (OwnI.of_own HO.out)
      obtain ⟨e0, e1, e2, e3⟩ := K6.out.cell4
      obtain ⟨j0, j1, j2, j3⟩ := K4.out.cell4
      obtain ⟨l0, l1, l2, l3⟩ := K4.out.free4
      clear HO K2
      go_wp2
      clear j0 j1 j2 j3 l0 l1 l2 l3 e0 e1 e2 e3
      have k9 := K4.out.set4 (x := .int .i64 h) (y := .int .i64 w) (z := .int .i64 c) (u := .slice (some ⟨g', 0, none⟩) k cap')
      have o9 := (HC.out.farB LT4.out (.int .i64 h) (.int .i64 w) (.int .i64 c) (.slice (some ⟨g', 0, none⟩) k cap')).base (Nat.le_of_lt LT2.out)
      have b9 := below_set4 BW.out I4.out (.int .i64 h) (.int .i64 w) (.int .i64 c) (.slice (some ⟨g', 0, none⟩) k cap')
      obtain ⟨z0, z1, z2, z3⟩ := k9.cell4
      have eN : (szOf h w c).toNat = k := by rw [HNN.out]; rfl
      refine bodyPost_ret (v := .tuple #[.agg #[.int .i64 h, .int .i64 w, .int .i64 c, .slice (some ⟨g', 0, none⟩) k cap'], .bool true]) ?_ rfl ⟨some ⟨g', 0, none⟩, cap', by rw [eN]; rfl, by rw [eN]; exact o9, b9⟩
      clear k9 o9 b9 K4 K6 HC HW
      simp [results, Try.results27, go_sem, z0, z1, z2, z3]
end Qt
end Go.Proofs.Ytgbpomjdcglfmaa
