/- What bestWith of the program gives when it is called: the least span. Conditions: the slices read as the lists that are named, the loads' block is another one than the jobs'. -/
import Derived.Test.YtfihjehpkpminaaBestMath
namespace Go.Proofs.Ytfihjehpkpminaa
open Go.RowKit Go.Sort
set_option linter.unusedSimpArgs false
set_option linter.unusedVariables false
namespace Qt
def Lc (L : List Int) : Array Value := (L.map (Value.int .i64)).toArray
theorem Lc_get {L : List Int} {w : Nat} (h : w < L.length) : (Lc L)[w]? = some (.int .i64 (L.getD w 0)) := by
  simp [Lc, List.getD_eq_getElem?_getD, List.getElem?_eq_getElem h]
theorem Lc_set (L : List Int) (w : Nat) (y : Int) : (Lc L).setIfInBounds w (.int .i64 y) = Lc (L.set w y) := by
  simp [Lc, List.map_set]
theorem addAt_back (L : List Int) (w : Nat) (x : Int) (hw : w < L.length) : (addAt L w x).set w (L.getD w 0) = L ∧ (addAt L w x).getD w 0 = L.getD w 0 + x := by
  constructor
  · unfold addAt
    rw [List.set_set]
    have : L.getD w 0 = L[w] := by rw [List.getD_eq_getElem?_getD, List.getElem?_eq_getElem hw]; rfl
    rw [this, List.set_getElem_self]
  · unfold addAt
    rw [List.getD_eq_getElem?_getD, List.getElem?_set_self (by simpa using hw)]; rfl
theorem Below.restore {S g : Nat} {t : TypeId} {cs : Array Value} {W wr w2 : World} {p q : Addr} {u v : Value} (hW : Bk W g t cs) (hb : Below S W wr) (hS : S ≤ W.heap.size) (b2 : Below (wr.setCell p u).heap.size (wr.setCell p u) w2) (hp : p.block = g) (hq : q.block = g)
    (K3 : Bk (w2.setCell q v) g t cs) : Below S W (w2.setCell q v) := by
  refine ⟨b2.os.trans hb.os, b2.tape.trans hb.tape, b2.output.trans hb.output, ?_, fun k hk => ?_⟩
  · have h1 := b2.size
    have h2 := hb.size
    rw [World.size_setCell] at h1 ⊢
    omega
  · by_cases hkg : k = g
    · subst hkg; exact K3.trans hW.symm
    · rw [Below.heap_setCell _ _ _ _ (by omega), b2.block k (by rw [World.size_setCell]; have := hb.size; omega), Below.heap_setCell _ _ _ _ (by omega), hb.block k hk]
theorem RdI.tail {w : World} {b off n : Nat} {x : Int} {xs : List Int} (h : RdI w (some ⟨b, off, none⟩) n (x :: xs)) : RdI w (some ⟨b, off + 1, none⟩) (n - 1) xs := by
  have hl := h.1
  simp at hl
  refine ⟨by omega, fun hn => ?_⟩
  obtain ⟨b', off', e, hlt, hc⟩ := h.2 (by omega)
  injection e with e; injection e with e1 e2 _
  subst e1; subst e2
  refine ⟨b, off + 1, rfl, hlt, fun j hj => ?_⟩
  have := hc (j + 1) (by omega)
  rw [show off + (j + 1) = off + 1 + j by omega] at this
  simpa using this
theorem RdI.apartB {w : World} {b off n : Nat} {xs : List Int} (h : RdI w (some ⟨b, off, none⟩) n xs) {p : Addr} (hp : b ≠ p.block) (u : Value) : RdI (w.setCell p u) (some ⟨b, off, none⟩) n xs :=
  ⟨h.1, fun hn => by
    obtain ⟨b', off', e, hlt, hc⟩ := h.2 hn
    injection e with e; injection e with e1 e2 _
    subst e1; subst e2
    exact ⟨b, off, rfl, by rw [World.size_setCell]; exact hlt, fun j hj => (World.cell?_setCell_other _ _ _ _ (fun e => hp (by subst e; rfl))).trans (hc j hj)⟩⟩
theorem run_minI {P : Program} (ts : Array TypeId) (t : TypeId) (x y : Int) (w : World) : (Builtin.min_ ts t #[.int .i64 x, .int .i64 y]).run P w = .ok (.int .i64 (min x y)) w := by
  have h : min x y = if y < x then y else x := by split <;> omega
  rw [h]
  simp [Builtin.min_, Builtin.min2]
theorem RdI.none0 {w : World} {A : Option Addr} : RdI w A 0 [] := RdI.nil w A
/-- slices.Max of a list with one number at least. -/
theorem maxI (L : List Int) (g : Nat) (W : World) (hl : 1 ≤ L.length ∧ L.length ≤ 3) (h0 : ∀ x ∈ L, 0 ≤ x) (hb : Bk W g 3 (Lc L)) :
    Calls Try.prog 97 #[.slice (some ⟨g, 0, none⟩) L.length L.length] W fun e W' => e = .returned (.int .i64 (mxL L)) ∧ Below W.heap.size W W' := by
  have hn1 : 1 ≤ L.length := hl.1
  have hn3 : L.length ≤ 3 := hl.2
  obtain ⟨n, hn⟩ : ∃ n, n = L.length := ⟨_, rfl⟩
  have hx0 := h0 (L.getD 0 0) (by rw [List.getD_eq_getElem?_getD, List.getElem?_eq_getElem (by omega)]; exact List.getElem_mem _)
  have e1 : mxL (L.take 1) = L.getD 0 0 := by
    match L, hl with
    | a :: t, _ => simp only [mxL, List.take_succ_cons, List.take_zero, List.foldl_cons, List.foldl_nil, List.getD_cons_zero] at hx0 ⊢; omega
  have c0 : W.cell? ⟨g, 0, none⟩ = some (.int .i64 (L.getD 0 0)) := hb.cell 0 (Lc_get (by omega))
  have HS : Hid (∀ k, k < L.length → mxL (L.take (k + 1)) = max (mxL (L.take k)) (L.getD k 0)) := Lib.hid (fun k hk => by rw [List.getD_eq_getElem?_getD]; exact foldR_snoc L k hk 0)
  have HC : Hid (∀ k, k < L.length → W.cell? ⟨g, k, none⟩ = some (.int .i64 (L.getD k 0))) := Lib.hid (fun k hk => hb.cell k (Lc_get hk))
  have HE := Lib.hid e1
  have HL := Lib.hid hn
  rw [← hn] at hn1 hn3 ⊢
  clear hb h0 hl e1 hn
  generalize L.getD 0 0 = x0 at *
  go_enter Try.func97, Try.ntmps97
  go_wp2_with fail
  go_loopw [3, 4] (fun m i wr => ∃ k : Nat, 1 ≤ k ∧ k ≤ n ∧ i = .int .i64 k ∧ m = .int .i64 (mxL (L.take k)) ∧ wr = W) (fun _ i _ => n - (intOf i).toNat)
  case atStart => exact ⟨1, by omega, by omega, rfl, by rw [HE.out], rfl⟩
  case round =>
    clear c0
    obtain ⟨k, hk1, hk, rfl, rfl, rfl⟩ := hrel
    by_cases hlt : k < n
    · have hc := HC.out k (by rw [← HL.out]; exact hlt)
      have HS1 := Lib.hid (HS.out k (by rw [← HL.out]; exact hlt))
      generalize L.getD k 0 = x at *
      generalize mxL (L.take k) = q at *
      have hmax := fun ts ty w0 => run_max2 (P := Try.prog) ts ty q x w0
      have hi1 : (k : Int) < (n : Int) := by omega
      go_wp2_with fail
      go_roundw
      case rel => exact ⟨k + 1, by omega, by omega, by go_num, by rw [HS1.out], trivial⟩
      case measure => simp [intOf]; omega
    · obtain rfl : k = n := by omega
      have ht : L.take k = L := List.take_of_length_le (by have := HL.out; omega)
      rw [ht]
      clear ht
      go_wp2_with fail
      go_ret
      exact ⟨rfl, Below.refl _ _⟩
set_option maxHeartbeats 2000000 in
theorem bestI : ∀ (xs : List Int) (A : Option Addr) (N p : Nat) (L : List Int) (g : Nat) (B : Int) (W : World), RdI W A N xs → N ≤ p → N ≤ 8 → (∀ x ∈ xs, 1 ≤ x ∧ x ≤ 1000) → 1 ≤ L.length ∧ L.length ≤ 3 → capL L B → 0 ≤ B ∧ B + 1000 * (N : Int) ≤ 1000000 → Bk W g 3 (Lc L) → (0 < N → ∀ a, A = some a → a.block ≠ g) →
    Calls Try.prog 70 #[.slice A N p, .slice (some ⟨g, 0, none⟩) L.length L.length] W fun e W' => e = .returned (.int .i64 (bspan xs L)) ∧ Below W.heap.size W W' := by
  intro xs
  induction xs with
  | nil =>
    intro A N p L g B W hr hp hN hx hl hc hB hb hA
    obtain rfl : N = 0 := by have := hr.1; simpa using this.symm
    have HM := Lib.hid (maxI L g W hl (fun x hx => (hc x hx).1) hb)
    clear hr hb hx hc hB hA
    go_enter Try.func70, Try.ntmps70
    go_wp2_with fail
    refine HM.out.mono ?_
    rintro e w1 ⟨rfl, b1⟩
    have B1 := Lib.hid b1
    clear b1 HM
    go_wp2_with fail
    go_ret
    exact ⟨rfl, B1.out⟩
  | cons x xs ih =>
    intro A N p L g B W hr hp hN hx hl hc hB hb hA
    have hlen := hr.1
    simp at hlen
    obtain ⟨M, rfl⟩ : ∃ M, N = M + 1 := ⟨N - 1, by omega⟩
    obtain ⟨b, off, rfl, hbl, hcell⟩ := hr.2 (by omega)
    have hx1 := hx x (List.mem_cons_self ..)
    have hbg := hA (by omega) _ rfl
    simp only at hbg
    obtain ⟨n, hn⟩ : ∃ n, n = L.length := ⟨_, rfl⟩
    have hj0 : W.cell? ⟨b, off, none⟩ = some (.int .i64 x) := by simpa using hcell 0 (by omega)
    have HR := Lib.hid hr
    have HK := Lib.hid hb
    have HCP := Lib.hid hc
    have HX := Lib.hid hx
    have HLL := Lib.hid hl
    have HL := Lib.hid hn
    have HLE := Lib.hid hlen
    have HIH := Lib.hid ih
    have HJ := Lib.hid hj0
    obtain ⟨hl1, hl3⟩ := hl
    have hbk := bspan_cons x xs L
    have HBC := Lib.hid hbk
    rw [hbk]
    rw [← hn] at hl1 hl3 ⊢
    clear hr hb hc hx hn hlen ih hj0 hcell hA hbk
    rcases (by omega : p = 1 ∨ 1 < p) with hp1 | hp1
    · obtain rfl : M = 0 := by omega
      subst hp1
      go_enter Try.func70, Try.ntmps70
      go_wp2_with fail
      go_loopw [5, 14] (fun bv i wr => ∃ k : Nat, k ≤ n ∧ i = .int .i64 k ∧ bv = .int .i64 (minU (fun w => bspan xs (addAt L w x)) k) ∧ Hid (Below W.heap.size W wr)) (fun _ i _ => n - (intOf i).toNat)
      case atStart => exact ⟨0, Nat.zero_le _, rfl, rfl, Lib.hid (Below.refl _ _)⟩
      case round =>
        obtain ⟨k, hk, rfl, rfl, HW⟩ := hrel
        by_cases hlt : k < n
        · have KB := HK.out.below HW.out
          have ck : wr.cell? ⟨g, k, none⟩ = some (.int .i64 (L.getD k 0)) := KB.cell k (Lc_get (by rw [← HL.out]; exact hlt))
          have fk : wr.frozen? ⟨g, k, none⟩ = false := KB.frozen k
          have hj : wr.cell? ⟨b, off, none⟩ = some (.int .i64 x) := keep HW.out HJ.out
          have hbd := capL_at HCP.out k hB.1
          have HKB := Lib.hid KB
          obtain ⟨y, hy⟩ : ∃ y, y = L.getD k 0 := ⟨_, rfl⟩
          rw [← hy] at ck hbd
          have HY := Lib.hid hy
          have hi1 : (k : Int) < (n : Int) := by omega
          clear KB hy
          have HI : Hid (∀ (A' : Option Addr) (p' : Nat) (w1 : World), RdI w1 A' 0 xs → 0 ≤ p' → Bk w1 g 3 (Lc (addAt L k x)) → (∀ a, A' = some a → a.block ≠ g) →
              Calls Try.prog 70 #[.slice A' 0 p', .slice (some ⟨g, 0, none⟩) n n] w1 fun e w' => e = .returned (.int .i64 (bspan xs (addAt L k x))) ∧ Below w1.heap.size w1 w') := Lib.hid (fun A' p' w1 h1 h2 h3 h4 => by
            have := HIH.out A' 0 p' (addAt L k x) g (B + 1000) w1 h1 h2 (by omega) (fun z hz => HX.out z (List.mem_cons_of_mem _ hz)) (by rw [addAt_len]; exact HLL.out) (capL_add HCP.out (by omega) hB.1 k) (by omega) h3 (fun _ => h4)
            rw [addAt_len, ← HL.out] at this
            exact this)
          have HB1 : Hid (Bk (wr.setCell ⟨g, k, none⟩ (.int .i64 (y + x))).drew g 3 (Lc (addAt L k x))) := Lib.hid (by
            have h := HKB.out.set k (.int .i64 (y + x))
            rw [Lc_set] at h
            rw [HY.out] at h ⊢
            exact h)
          have HR1 : Hid (RdI (wr.setCell ⟨g, k, none⟩ (.int .i64 (y + x))).drew (some ⟨b, off, none⟩) (0 + 1) (x :: xs)) := Lib.hid (RdI.apartB (HR.out.of_below HW.out) (p := ⟨g, k, none⟩) hbg _)
          obtain ⟨V, hV⟩ : ∃ V, V = bspan xs (addAt L k x) := ⟨_, rfl⟩
          have hV0 := bspan_nonneg xs (addAt L k x)
          rw [← hV] at HI hV0
          have HV := Lib.hid hV
          clear hV
          have hmu := minU_nonneg (f := fun w => bspan xs (addAt L w x)) (fun w => bspan_nonneg xs _) k
          have HMS : Hid (minU (fun w => bspan xs (addAt L w x)) (k + 1) = min (minU (fun w => bspan xs (addAt L w x)) k) V) := Lib.hid (by rw [HV.out]; rfl)
          generalize minU (fun w => bspan xs (addAt L w x)) k = q at hmu HMS ⊢
          go_wp2_with fail
          go_region
          clear hj ck fk
          go_wp2_with fail
          refine (HI.out _ _ _ (by have h := RdI.tail HR1.out; exact ⟨h.1, fun h0 => absurd h0 (by omega)⟩) (by omega) HB1.out (by intro a ha; cases ha; exact hbg)).mono ?_
          rintro e w2 ⟨rfl, bb⟩
          have b2 : Below (wr.setCell ⟨g, k, none⟩ (.int .i64 (y + x))).heap.size (wr.setCell ⟨g, k, none⟩ (.int .i64 (y + x))) w2 := (Below.refl _ _).drew.trans bb
          have KB2 := HB1.out.below bb
          have RJ2 := HR1.out.of_below bb
          have ck : w2.cell? ⟨g, k, none⟩ = some (.int .i64 (y + x)) := by
            have := KB2.cell k (Lc_get (by rw [addAt_len, ← HL.out]; exact hlt))
            rw [(addAt_back L k x (by rw [← HL.out]; exact hlt)).2, ← HY.out] at this
            exact this
          have fk : w2.frozen? ⟨g, k, none⟩ = false := KB2.frozen k
          have hj : w2.cell? ⟨b, off, none⟩ = some (.int .i64 x) := by
            obtain ⟨b', off', e, _, hc⟩ := RJ2.2 (by omega)
            injection e with e; injection e with e1 e2 _
            subst e1; subst e2
            simpa using hc 0 (by omega)
          have HB3 : Hid (Below W.heap.size W (w2.setCell ⟨g, k, none⟩ (.int .i64 y)).drew) := Lib.hid ((Below.restore HK.out HW.out (Nat.le_refl _) b2 rfl rfl (by
            have h := KB2.set k (.int .i64 y)
            rw [Lc_set] at h
            have e : (addAt L k x).set k y = L := by
              have := (addAt_back L k x (by rw [← HL.out]; exact hlt)).1
              rw [HY.out]
              exact this
            rw [e] at h
            exact h)).drew)
          clear bb b2 KB2 RJ2
          have hmin := fun ts ty w0 => run_minI (P := Try.prog) ts ty q V w0
          go_wp2_with fail
          go_region
          go_wp2_with fail
          go_roundw
          case rel => exact ⟨k + 1, by omega, by go_num, by rw [HMS.out], HB3⟩
          case measure => simp [intOf]; omega
        · obtain rfl : k = n := by omega
          go_wp2_with fail
          go_ret
          exact ⟨rfl, HW.out⟩
    · have hq0 : ((M : Int) + 1 == 0) = false := by simp; omega
      go_enter Try.func70, Try.ntmps70
      go_wp2_with fail
      go_loopw [5, 14] (fun bv i wr => ∃ k : Nat, k ≤ n ∧ i = .int .i64 k ∧ bv = .int .i64 (minU (fun w => bspan xs (addAt L w x)) k) ∧ Hid (Below W.heap.size W wr)) (fun _ i _ => n - (intOf i).toNat)
      case atStart => exact ⟨0, Nat.zero_le _, rfl, rfl, Lib.hid (Below.refl _ _)⟩
      case round =>
        obtain ⟨k, hk, rfl, rfl, HW⟩ := hrel
        by_cases hlt : k < n
        · have KB := HK.out.below HW.out
          have ck : wr.cell? ⟨g, k, none⟩ = some (.int .i64 (L.getD k 0)) := KB.cell k (Lc_get (by rw [← HL.out]; exact hlt))
          have fk : wr.frozen? ⟨g, k, none⟩ = false := KB.frozen k
          have hj : wr.cell? ⟨b, off, none⟩ = some (.int .i64 x) := keep HW.out HJ.out
          have hbd := capL_at HCP.out k hB.1
          have HKB := Lib.hid KB
          obtain ⟨y, hy⟩ : ∃ y, y = L.getD k 0 := ⟨_, rfl⟩
          rw [← hy] at ck hbd
          have HY := Lib.hid hy
          have hi1 : (k : Int) < (n : Int) := by omega
          clear KB hy
          have HI : Hid (∀ (A' : Option Addr) (p' : Nat) (w1 : World), RdI w1 A' M xs → M ≤ p' → Bk w1 g 3 (Lc (addAt L k x)) → (∀ a, A' = some a → a.block ≠ g) →
              Calls Try.prog 70 #[.slice A' M p', .slice (some ⟨g, 0, none⟩) n n] w1 fun e w' => e = .returned (.int .i64 (bspan xs (addAt L k x))) ∧ Below w1.heap.size w1 w') := Lib.hid (fun A' p' w1 h1 h2 h3 h4 => by
            have := HIH.out A' M p' (addAt L k x) g (B + 1000) w1 h1 h2 (by omega) (fun z hz => HX.out z (List.mem_cons_of_mem _ hz)) (by rw [addAt_len]; exact HLL.out) (capL_add HCP.out (by omega) hB.1 k) (by omega) h3 (fun _ => h4)
            rw [addAt_len, ← HL.out] at this
            exact this)
          have HB1 : Hid (Bk (wr.setCell ⟨g, k, none⟩ (.int .i64 (y + x))).drew g 3 (Lc (addAt L k x))) := Lib.hid (by
            have h := HKB.out.set k (.int .i64 (y + x))
            rw [Lc_set] at h
            rw [HY.out] at h ⊢
            exact h)
          have HR1 : Hid (RdI (wr.setCell ⟨g, k, none⟩ (.int .i64 (y + x))).drew (some ⟨b, off, none⟩) (M + 1) (x :: xs)) := Lib.hid (RdI.apartB (HR.out.of_below HW.out) (p := ⟨g, k, none⟩) hbg _)
          obtain ⟨V, hV⟩ : ∃ V, V = bspan xs (addAt L k x) := ⟨_, rfl⟩
          have hV0 := bspan_nonneg xs (addAt L k x)
          rw [← hV] at HI hV0
          have HV := Lib.hid hV
          clear hV
          have hmu := minU_nonneg (f := fun w => bspan xs (addAt L w x)) (fun w => bspan_nonneg xs _) k
          have HMS : Hid (minU (fun w => bspan xs (addAt L w x)) (k + 1) = min (minU (fun w => bspan xs (addAt L w x)) k) V) := Lib.hid (by rw [HV.out]; rfl)
          generalize minU (fun w => bspan xs (addAt L w x)) k = q at hmu HMS ⊢
          go_wp2_with fail
          go_region
          clear hj ck fk
          go_wp2_with fail
          refine (HI.out _ _ _ (RdI.tail HR1.out) (by omega) HB1.out (by intro a ha; cases ha; exact hbg)).mono ?_
          rintro e w2 ⟨rfl, bb⟩
          have b2 : Below (wr.setCell ⟨g, k, none⟩ (.int .i64 (y + x))).heap.size (wr.setCell ⟨g, k, none⟩ (.int .i64 (y + x))) w2 := (Below.refl _ _).drew.trans bb
          have KB2 := HB1.out.below bb
          have RJ2 := HR1.out.of_below bb
          have ck : w2.cell? ⟨g, k, none⟩ = some (.int .i64 (y + x)) := by
            have := KB2.cell k (Lc_get (by rw [addAt_len, ← HL.out]; exact hlt))
            rw [(addAt_back L k x (by rw [← HL.out]; exact hlt)).2, ← HY.out] at this
            exact this
          have fk : w2.frozen? ⟨g, k, none⟩ = false := KB2.frozen k
          have hj : w2.cell? ⟨b, off, none⟩ = some (.int .i64 x) := by
            obtain ⟨b', off', e, _, hc⟩ := RJ2.2 (by omega)
            injection e with e; injection e with e1 e2 _
            subst e1; subst e2
            simpa using hc 0 (by omega)
          have HB3 : Hid (Below W.heap.size W (w2.setCell ⟨g, k, none⟩ (.int .i64 y)).drew) := Lib.hid ((Below.restore HK.out HW.out (Nat.le_refl _) b2 rfl rfl (by
            have h := KB2.set k (.int .i64 y)
            rw [Lc_set] at h
            have e : (addAt L k x).set k y = L := by
              have := (addAt_back L k x (by rw [← HL.out]; exact hlt)).1
              rw [HY.out]
              exact this
            rw [e] at h
            exact h)).drew)
          clear bb b2 KB2 RJ2
          have hmin := fun ts ty w0 => run_minI (P := Try.prog) ts ty q V w0
          go_wp2_with fail
          go_region
          go_wp2_with fail
          go_roundw
          case rel => exact ⟨k + 1, by omega, by go_num, by rw [HMS.out], HB3⟩
          case measure => simp [intOf]; omega
        · obtain rfl : k = n := by omega
          go_wp2_with fail
          go_ret
          exact ⟨rfl, HW.out⟩
end Qt
end Go.Proofs.Ytfihjehpkpminaa
