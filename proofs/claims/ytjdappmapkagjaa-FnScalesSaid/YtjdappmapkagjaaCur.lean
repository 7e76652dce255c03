/- The cursor of the draws: what its own functions give, and that each writes into the cursor's block alone. Conditions: the cursor lies whole, over bytes that can be read. -/
import Derived.Test.YtjdappmapkagjaaSlice
import Derived.Laws.BitsLemmas
namespace Go.Proofs.Ytjdappmapkagjaa
open Go.RowKit
namespace Qt

/-- n bytes can be read at A, all below block B. -/
def RdB (w : World) (B : Nat) (A : Option Addr) (n : Nat) : Prop :=
  0 < n → ∃ b off, A = some ⟨b, off, none⟩ ∧ b < B ∧ ∀ j, j < n → ∃ u : Int, 0 ≤ u ∧ u ≤ 255 ∧ w.cell? ⟨b, off + j, none⟩ = some (.int .u8 u)
theorem RdB.of_block {w w' : World} {B : Nat} {A : Option Addr} {n : Nat} (h : RdB w B A n) (hb : ∀ k, k < B → w'.heap[k]? = w.heap[k]?) : RdB w' B A n := fun hn => by
  obtain ⟨b, off, e, hlt, hc⟩ := h hn
  refine ⟨b, off, e, hlt, fun j hj => ?_⟩
  obtain ⟨u, h1, h2, h3⟩ := hc j hj
  exact ⟨u, h1, h2, (World.cell?_of_block (w := w) (hb b hlt)).trans h3⟩

def Cur (w : World) (g : Nat) (A : Option Addr) (n : Nat) : Prop :=
  n ≤ 1048577 ∧ RdB w g A n ∧ ∃ (c i : Nat) (h : Int), i ≤ n ∧ w.heap[g]? = some (.cells #[.slice A n c, .int .i64 i, .int .i64 h] 114 (0, 0))

theorem grown_trans {w w1 w2 : World} {g : Nat} (h : w.grownBy w1 (some g)) (k : w1.grownBy w2 (some g)) : w.grownBy w2 (some g) :=
  ⟨k.os.trans h.os, k.tape.trans h.tape, k.output.trans h.output, Nat.le_trans h.size k.size, fun i hi hne => (k.block i (Nat.lt_of_lt_of_le hi h.size) hne).trans (h.block i hi hne)⟩
theorem grown_set (w : World) (g j : Nat) (u : Value) : w.grownBy (w.setCell ⟨g, j, none⟩ u) (some g) :=
  ⟨rfl, rfl, rfl, by simp [World.setCell], fun k _ hne => heap_setCell_other w ⟨g, j, none⟩ k u (fun e => hne (by simp [e]))⟩

theorem grown_drewN {w w1 : World} {r : Option Nat} (h : w.grownBy w1 r) (n : Nat) : w.grownBy (w1.drewN n) r := ⟨h.os, h.tape, h.output, h.size, h.block⟩
theorem grown_below {w w1 : World} {B g : Nat} (h : w.grownBy w1 (some g)) (hB : B ≤ g) (hs : B ≤ w.heap.size) : Below B w w1 := (Below.refl B w).grown h hs (fun k hk => by cases hk; exact hB)
theorem grown_alloc {w w1 : World} {r : Option Nat} (h : w.grownBy w1 r) (o : Obj) : w.grownBy (w1.alloc o) r :=
  ⟨h.os, h.tape, h.output, by simpa using Nat.le_trans h.size (Nat.le_succ _), fun k hk hne => (Below.heap_alloc w1 o k (Nat.lt_of_lt_of_le hk h.size)).trans (h.block k hk hne)⟩

def GetP (w : World) (g : Nat) (A : Option Addr) (n : Nat) (P : Int → Prop) (e : Ending) (w' : World) : Prop := ∃ x, P x ∧ e = .returned (.int .i64 x) ∧ Cur w' g A n ∧ w.grownBy w' (some g)

theorem and255 (x : Int) : bits .and .i64 x 255 = x % 256 := by
  have e : (BitVec.ofInt 64 255).toNat = 2 ^ 8 - 1 := by decide
  have k : (BitVec.ofInt 64 x &&& BitVec.ofInt 64 255).toNat = (x % ((2 ^ 64 : Nat) : Int)).toNat % 2 ^ 8 := by
    rw [BitVec.toNat_and, BitVec.toNat_ofInt, e, Nat.and_two_pow_sub_one_eq_mod]
  show IntKind.i64.wrap ((BitVec.ofInt 64 x &&& BitVec.ofInt 64 255).toNat : Nat) = x % 256
  rw [k, IntKind.wrap_i64]
  omega

theorem byteC (g : Nat) (A : Option Addr) (n : Nat) (w : World) (hc : Cur w g A n) :
    Calls Try.prog 97 #[.pointer (some ⟨g, 0, none⟩)] w (GetP w g A n fun x => 0 ≤ x ∧ x ≤ 255) := by
  obtain ⟨hn, hr, c, i, h, hi, hg⟩ := hc
  have c0 : w.cell? ⟨g, 0, none⟩ = some (.slice A n c) := cell_of_row w g 0 _ _ _ hg
  have c1 : w.cell? ⟨g, 1, none⟩ = some (.int .i64 i) := cell_of_row w g 1 _ _ _ hg
  have c2 : w.cell? ⟨g, 2, none⟩ = some (.int .i64 h) := cell_of_row w g 2 _ _ _ hg
  have f1 := frozen_of_row w g 1 _ _ hg
  have f2 := frozen_of_row w g 2 _ _ hg
  have HG := Lib.hid hg
  have HR := Lib.hid hr
  clear hg hr
  have hand := and255
  by_cases hlt : i < n
  · obtain ⟨b, off, rfl, hbg, hcell⟩ := HR.out (by omega)
    obtain ⟨u, u1, u2, hu⟩ := hcell i hlt
    clear hcell
    have hi2 : (i : Int) < (n : Int) := by omega
    go_enter Try.func97, Try.ntmps97
    go_wp2
    go_quiet (fail)
    go_wp2
    go_quiet (fail)
    go_wp2
    go_quiet (fail)
    go_wp2
    go_ret
    refine ⟨_, ?_, rfl, ⟨hn, ?_, c, i + 1, wrap64 (wrap64 (h * 6364136223846793005) + 1442695040888963407), by omega, ?_⟩, ?_⟩
    · omega
    · exact HR.out.of_block fun k hk => (heap_setCell_other _ _ k _ (by simp; omega)).trans (heap_setCell_other w _ k _ (by simp; omega))
    · exact heap_setCell_same _ g 1 _ _ _ (heap_setCell_same w g 2 _ _ _ HG.out)
    · exact grown_trans (grown_drewN (grown_set w g 2 _) _) (grown_set _ g 1 _)
  · have hi2 : ¬ ((i : Int) < (n : Int)) := by omega
    go_enter Try.func97, Try.ntmps97
    go_wp2
    go_quiet (fail)
    go_wp2
    go_quiet (fail)
    go_wp2
    go_ret
    refine ⟨_, ?_, rfl, ⟨hn, ?_, c, i, wrap64 (wrap64 (h * 6364136223846793005) + 1442695040888963407), by omega, ?_⟩, ?_⟩
    · omega
    · exact HR.out.of_block fun k hk => heap_setCell_other w _ k _ (by simp; omega)
    · exact heap_setCell_same w g 2 _ _ _ HG.out
    · exact grown_drewN (grown_drewN (grown_set w g 2 _) _) _

/-- The cursor's block is an older one than b. -/
theorem belowC (g : Nat) (A : Option Addr) (n : Nat) (m : Int) (w : World) (hc : Cur w g A n) (h0 : 0 < m) (h1 : m ≤ 1073741824) :
    Calls Try.prog 72 #[.pointer (some ⟨g, 0, none⟩), .int .i64 m] w (GetP w g A n fun x => 0 ≤ x ∧ x < m) := by
  have HC := Lib.hid hc
  clear hc
  by_cases h2 : m ≤ 256
  · go_enter Try.func72, Try.ntmps72
    go_wp2_with fail
    refine (byteC g A n _ HC.out).mono ?_
    rintro e w1 ⟨x, hx, rfl, hc1, hg1⟩
    have HC1 := Lib.hid hc1; have HG1 := Lib.hid hg1
    clear hc1 hg1
    have hm := Int.emod_lt_of_pos x h0
    have hm0 := Int.emod_nonneg x (show m ≠ 0 by omega)
    go_wp2
    go_ret
    exact ⟨_, ⟨hm0, hm⟩, rfl, HC1.out, HG1.out⟩
  · go_enter Try.func72, Try.ntmps72
    go_wp2_with fail
    refine (byteC g A n _ HC.out).mono ?_
    rintro e w1 ⟨x, hx, rfl, hc1, hg1⟩
    have HC1 := Lib.hid hc1; have HG1 := Lib.hid hg1
    clear hc1 hg1 HC
    go_wp2_with fail
    refine (byteC g A n _ HC1.out).mono ?_
    rintro e w2 ⟨y, hy, rfl, hc2, hg2⟩
    have HC2 := Lib.hid hc2; have HG2 := Lib.hid (grown_trans HG1.out hg2)
    clear hc2 hg2 HC1 HG1
    go_wp2_with fail
    refine (byteC g A n _ HC2.out).mono ?_
    rintro e w3 ⟨z, hz, rfl, hc3, hg3⟩
    have HC3 := Lib.hid hc3; have HG3 := Lib.hid (grown_trans HG2.out hg3)
    clear hc3 hg3 HC2 HG2
    have hm := Int.emod_lt_of_pos (x * 65536 + y * 256 + z) h0
    have hm0 := Int.emod_nonneg (x * 65536 + y * 256 + z) (show m ≠ 0 by omega)
    go_wp2
    go_ret
    exact ⟨_, ⟨hm0, hm⟩, rfl, HC3.out, HG3.out⟩
theorem onceC (g : Nat) (A : Option Addr) (n : Nat) (m : Int) (w : World) (hc : Cur w g A n) (h0 : 0 < m) (h1 : m ≤ 1073741824) :
    Calls Try.prog 73 #[.pointer (some ⟨g, 0, none⟩), .int .i64 m] w fun e w' => ∃ q, e = .returned (.bool q) ∧ Cur w' g A n ∧ w.grownBy w' (some g) := by
  have HC := Lib.hid hc
  clear hc
  go_enter Try.func73, Try.ntmps73
  go_wp2_with fail
  refine (belowC g A n m _ HC.out h0 h1).mono ?_
  rintro e w1 ⟨x, hx, rfl, hc1, hg1⟩
  have HC1 := Lib.hid hc1; have HG1 := Lib.hid hg1
  clear hc1 hg1
  go_wp2
  go_ret
  exact ⟨_, rfl, HC1.out, HG1.out⟩

/-- Each of these values is a whole number that has P. -/
def AllP (P : Int → Prop) : List Value → Prop
  | [] => True
  | v :: r => (∃ x, P x ∧ v = .int .i64 x) ∧ AllP P r
theorem AllP.at_ {P : Int → Prop} {l : List Value} (h : AllP P l) {j : Nat} (hj : j < l.length) : ∃ x, P x ∧ l[j]? = some (.int .i64 x) := by
  induction l generalizing j with
  | nil => exact absurd hj (by simp)
  | cons v r ih =>
    obtain ⟨⟨x, hx, rfl⟩, h2⟩ := h
    cases j with
    | zero => exact ⟨x, hx, rfl⟩
    | succ j =>
      obtain ⟨y, hy, e⟩ := ih h2 (j := j) (by simpa using hj)
      exact ⟨y, hy, by simpa using e⟩
theorem pickC (P : Int → Prop) (g b k : Nat) (A : Option Addr) (n : Nat) (T : TypeId) (cs : Array Value) (w : World) (hc : Cur w g A n) (hb : w.heap[b]? = some (.cells cs T (0, 0))) (hbg : b ≠ g) (hk : cs.size = k) (h0 : 0 < k) (h1 : k ≤ 1073741824) (hP : AllP P cs.toList) :
    Calls Try.prog 99 #[.pointer (some ⟨g, 0, none⟩), .slice (some ⟨b, 0, none⟩) k k] w (GetP w g A n P) := by
  have HC := Lib.hid hc
  have HB := Lib.hid hb
  have HP := Lib.hid hP
  have HK := Lib.hid hk
  clear hc hb hP hk
  go_enter Try.func99, Try.ntmps99
  go_wp2_with fail
  refine (belowC g A n k _ HC.out (by omega) (by omega)).mono ?_
  rintro e w1 ⟨x, hx, rfl, hc1, hg1⟩
  have HC1 := Lib.hid hc1; have HG1 := Lib.hid hg1
  clear hc1 hg1
  obtain ⟨y, rfl⟩ : ∃ y : Nat, x = (y : Int) := ⟨x.toNat, by omega⟩
  obtain ⟨hx0, hx1⟩ := hx
  have hy : y < k := by omega
  obtain ⟨z, hz, he⟩ := HP.out.at_ (j := y) (by rw [Array.length_toList, HK.out]; exact hy)
  have hcell : w1.cell? ⟨b, y, none⟩ = some (.int .i64 z) := by
    have hlt : b < w.heap.size := by
      rcases Nat.lt_or_ge b w.heap.size with hlt | hge
      · exact hlt
      · have := HB.out; rw [Array.getElem?_eq_none hge] at this; cases this
    rw [World.cell?_of_block (w := w) (a := ⟨b, y, none⟩) (HG1.out.block b hlt (by simpa using hbg)), cell_of_row w b y _ _ _ HB.out]
    rw [← he]; simp
  clear he
  go_wp2
  go_ret
  exact ⟨z, hz, rfl, HC1.out, HG1.out⟩
end Qt
end Go.Proofs.Ytjdappmapkagjaa
