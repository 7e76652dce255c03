/- What the laws' helpers that mark a list leave: ints in place of ints, in blocks of a known range. Conditions: the slice lies in a block of that range, and may be written. -/
import Derived.Test.YtihnpfcjnfkfjaaQTouch
import Derived.Test.YtihnpfcjnfkfjaaQSchC
namespace Go.Proofs.Ytihnpfcjnfkfjaa
open Go.RowKit Go.Sort
set_option linter.unusedSimpArgs false
set_option linter.unusedVariables false
namespace Qt
/-- Nothing but ints has been written over, by ints of their kind, in blocks from B on, below C. -/
structure Rem (B C : Nat) (w w' : World) : Prop where
  t : Touch B C w w'
  c : ∀ p v, w.cell? p = some v → ∃ v', w'.cell? p = some v' ∧ (v' = v ∨ ∃ k x y, v = .int k x ∧ v' = .int k y)
  f : ∀ p, p.block < w.heap.size → w'.frozen? p = w.frozen? p
section
variable {B C : Nat} {w w' w'' : World}
theorem Rem.refl (B C : Nat) (w : World) : Rem B C w w := ⟨Touch.refl B C w, fun p v h => ⟨v, h, .inl rfl⟩, fun _ _ => rfl⟩
theorem Rem.trans (h : Rem B C w w') (k : Rem B C w' w'') : Rem B C w w'' :=
  ⟨h.t.trans k.t, fun p v hv => by
    obtain ⟨v1, h1, e1⟩ := h.c p v hv
    obtain ⟨v2, h2, e2⟩ := k.c p v1 h1
    refine ⟨v2, h2, ?_⟩
    rcases e1 with rfl | ⟨k1, x, y, rfl, rfl⟩
    · exact e2
    · rcases e2 with rfl | ⟨k2, x2, y2, e, rfl⟩
      · exact .inr ⟨k1, x, y, rfl, rfl⟩
      · cases e
        exact .inr ⟨k1, x, y2, rfl, rfl⟩, fun p hp => (k.f p (Nat.lt_of_lt_of_le hp h.t.size)).trans (h.f p hp)⟩
theorem Rem.int (h : Rem B C w w') {p : Addr} {k : IntKind} {x : Int} (hv : w.cell? p = some (.int k x)) : ∃ y, w'.cell? p = some (.int k y) := by
  obtain ⟨v', h1, rfl | ⟨k', a, b, e, rfl⟩⟩ := h.c p _ hv
  · exact ⟨x, h1⟩
  · cases e
    exact ⟨b, h1⟩
theorem Rem.slice (h : Rem B C w w') {p : Addr} {A : Option Addr} {n c : Nat} (hv : w.cell? p = some (.slice A n c)) : w'.cell? p = some (.slice A n c) := by
  obtain ⟨v', h1, rfl | ⟨k', a, b, e, rfl⟩⟩ := h.c p _ hv
  · exact h1
  · cases e
theorem Rem.set {g i : Nat} {k : IntKind} {x : Int} (h : Rem B C w w') (hv : w'.cell? ⟨g, i, none⟩ = some (.int k x)) (hB : B ≤ g) (hC : g < C) (y : Int) : Rem B C w (w'.setCell ⟨g, i, none⟩ (.int k y)) :=
  h.trans ⟨(Touch.refl B C w').setCell hB hC _, fun p v hp => by
    by_cases e : p = ⟨g, i, none⟩
    · subst e
      rw [hv] at hp
      cases hp
      exact ⟨_, World.cell?_setCell_same _ _ _ hv, .inr ⟨k, x, y, rfl, rfl⟩⟩
    · exact ⟨v, (World.cell?_setCell_other _ _ _ _ (Ne.symm e)).trans hp, .inl rfl⟩, fun p _ => World.frozen?_setCell _ _ _ _⟩
/-- The n cells of the slice are ints of kind k that may be written, in one block from B on, below C. -/
def Free (k : IntKind) (B C : Nat) (w : World) (A : Option Addr) (n : Nat) : Prop :=
  0 < n → ∃ g, A = some ⟨g, 0, none⟩ ∧ B ≤ g ∧ g < C ∧ g < w.heap.size ∧ ∀ j, j < n → (∃ x, w.cell? ⟨g, j, none⟩ = some (.int k x)) ∧ w.frozen? ⟨g, j, none⟩ = false
theorem Free.rem {k : IntKind} {A : Option Addr} {n B' C' : Nat} (h : Free k B' C' w A n) (hr : Rem B C w w') : Free k B' C' w' A n := fun hn => by
  obtain ⟨g, e, hB, hC, hl, hc⟩ := h hn
  refine ⟨g, e, hB, hC, Nat.lt_of_lt_of_le hl hr.t.size, fun j hj => ?_⟩
  obtain ⟨⟨x, h1⟩, h2⟩ := hc j hj
  exact ⟨hr.int h1, (hr.f ⟨g, j, none⟩ hl).trans h2⟩
theorem Free.of_below {k : IntKind} {A : Option Addr} {n : Nat} (h : Free k B C w A n) (hb : Below w.heap.size w w') : Free k B C w' A n := fun hn => by
  obtain ⟨g, e, hB, hC, hl, hc⟩ := h hn
  exact ⟨g, e, hB, hC, Nat.lt_of_lt_of_le hl hb.size, fun j hj => ⟨by obtain ⟨x, h1⟩ := (hc j hj).1; exact ⟨x, (hb.cell (p := ⟨g, j, none⟩) hl).trans h1⟩, (hb.frozen (p := ⟨g, j, none⟩) hl).trans (hc j hj).2⟩⟩
theorem OwnI.free {A : Option Addr} {n : Nat} {xs : List Int} (h : OwnI B w A n xs) (hC : w.heap.size ≤ C) : Free .i64 B C w A n := fun hn => by
  obtain ⟨g, e, hB, hl, hc⟩ := h.2 hn
  exact ⟨g, e, hB, by omega, hl, fun j hj => ⟨⟨_, (hc j hj).1⟩, (hc j hj).2⟩⟩
theorem OwnY.free {A : Option Addr} {n : Nat} {xs : List Int} (h : OwnY B w A n xs) (hC : w.heap.size ≤ C) : Free .u8 B C w A n := fun hn => by
  obtain ⟨g, e, hB, hl, hc⟩ := h.2 hn
  exact ⟨g, e, hB, by omega, hl, fun j hj => ⟨⟨_, (hc j hj).1⟩, (hc j hj).2⟩⟩
end
theorem markIntS_free (A : Option Addr) (n p B C : Nat) (k : Int) (W : World) (hr : Free .i64 B C W A n) (hn : n ≤ 1048576) (hk : 0 ≤ k) (hk2 : k ≤ 100000000) :
    Calls Try.prog 25 #[.slice A n p, .int .i64 k] W fun e W' => e = .returned (.int .i64 (k + n)) ∧ Rem B C W W' := by
  have hn1 : (n : Int) ≤ 1048576 := by omega
  have HA := Lib.hid hr
  clear hr
  go_enter Try.func25, Try.ntmps25
  go_wp2
  go_loopw [1, 5] (fun q x wr => ∃ i : Nat, i ≤ n ∧ x = .int .i64 i ∧ q = .int .i64 (k + (i : Nat)) ∧ Rem B C W wr) (fun _ x _ => n - (intOf x).toNat)
  case atStart => exact ⟨0, Nat.zero_le _, rfl, by simp, Rem.refl _ _ _⟩
  case round =>
    obtain ⟨i, hi, rfl, rfl, hm⟩ := hrel
    by_cases hlt : i < n
    · obtain ⟨g, rfl, hB, hC, _, hc⟩ := (Free.rem HA.out hm) (by omega)
      obtain ⟨⟨x, hc1⟩, hf1⟩ := hc i hlt
      have hi2 : (i : Int) < (n : Int) := by omega
      have HM := Lib.hid (hm.set hc1 hB hC (k + (i : Nat)))
      clear hm hc hB hC
      go_wp2
      go_roundw
      case rel => exact ⟨i + 1, by omega, by go_num, by go_num, HM.out⟩
      case measure => simp [intOf]; omega
    · obtain rfl : i = n := by omega
      have HM := Lib.hid hm
      clear hm
      go_wp2
      go_ret
      exact ⟨rfl, HM.out⟩
end Qt
end Go.Proofs.Ytihnpfcjnfkfjaa
