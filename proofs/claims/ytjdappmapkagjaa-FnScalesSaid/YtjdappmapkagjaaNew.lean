/- The cursor of a draw made anew, and the other code of a law's second draw: what l01New and alt give over bytes that can be read. -/
import Derived.Test.YtjdappmapkagjaaCur
namespace Go.Proofs.Ytjdappmapkagjaa
open Go.RowKit
namespace Qt

def NewC (w : World) (A : Option Addr) (n : Nat) (e : Ending) (w' : World) : Prop := ∃ g, e = .returned (.pointer (some ⟨g, 0, none⟩)) ∧ w.heap.size ≤ g ∧ g < w'.heap.size ∧ Cur w' g A n ∧ Below w.heap.size w w'
theorem newC (A : Option Addr) (n c : Nat) (w : World) (hr : RdB w w.heap.size A n) (hn0 : n ≤ 1048577) :
    Calls Try.prog 69 #[.slice A n c] w (NewC w A n) := by
  have HR := Lib.hid hr
  have hn : (n : Int) ≤ 1048577 := by omega
  clear hr hn0
  go_enter Try.func69, Try.ntmps69
  go_wp2
  go_loop [3, 4] (fun h i => ∃ (H : Int) (k : Nat), k ≤ n ∧ h = .int .i64 H ∧ i = .int .i64 k) (fun _ i => n - (intOf i).toNat)
  case atStart => exact ⟨_, 0, Nat.zero_le _, rfl, rfl⟩
  case round =>
    obtain ⟨H, k, hk, rfl, rfl⟩ := hrel
    by_cases hlt : k < n ∧ (k : Int) < 4000
    · obtain ⟨hlt, h4⟩ := hlt
      obtain ⟨b, off, rfl, hbg, hcell⟩ := HR.out (by omega)
      obtain ⟨u, u1, u2, hu⟩ := hcell k hlt
      clear hcell
      go_wp2
      go_round
      case rel => exact ⟨_, k + 1, by omega, rfl, by go_num⟩
      case measure => simp [intOf]; omega
    · have hfin : ∀ (W : World), W = w.alloc (.cells #[.slice A n c, .int .i64 ((0 : Nat) : Int), .int .i64 H] 114) → NewC w A n (.returned (.pointer (some ⟨w.heap.size, 0, none⟩))) W := by
        rintro W rfl
        exact ⟨w.heap.size, rfl, Nat.le_refl _, by simp, ⟨by omega, HR.out.of_block fun k hk => Below.heap_alloc _ _ _ hk, c, 0, H, Nat.zero_le _, heap_alloc_new w _⟩, (Below.refl _ _).alloc (Nat.le_refl _) _⟩
      have HF := Lib.hid hfin
      clear hfin
      by_cases hlt2 : k < n
      · have h4 : decide ((k : Int) < 4000) = false := by simp; omega
        clear hlt
        go_wp2
        go_ret
        exact HF.out _ rfl
      · clear hlt
        go_wp2
        go_ret
        exact HF.out _ rfl

/-- Each of these values is a byte. -/
def AllB (l : List Value) : Prop := ∀ v ∈ l, ∃ u : Int, 0 ≤ u ∧ u ≤ 255 ∧ v = .int .u8 u
theorem AllB.snoc {l : List Value} (h : AllB l) {u : Int} (h0 : 0 ≤ u) (h1 : u ≤ 255) : AllB (l ++ [.int .u8 u]) := by
  intro v hv
  rcases List.mem_append.1 hv with hv | hv
  · exact h v hv
  · exact ⟨u, h0, h1, by simpa using hv⟩
theorem RdB.of_own {w : World} {base c e n : Nat} {A : Option Addr} {vs : List Value} (h : w.ownsRow base e 1 (.slice A n c) n vs) (hb : AllB vs) : RdB w w.heap.size A n := fun hn => by
  rcases h.2 with ⟨_, h0⟩ | ⟨g, cap, cur, hv, _, hg, _⟩
  · omega
  · injection hv with hA _ hc
    subst hA hc
    refine ⟨g, 0, rfl, ?_, fun j hj => ?_⟩
    · rcases Nat.lt_or_ge g w.heap.size with hlt | hge
      · exact hlt
      · rw [Array.getElem?_eq_none hge] at hg; cases hg
    · have hl : j < vs.length := by have := h.1; omega
      obtain ⟨u, h0, h1, he⟩ := hb vs[j] (List.getElem_mem hl)
      refine ⟨u, h0, h1, ?_⟩
      rw [Nat.zero_add, h.cellAt j (by omega), List.getElem?_eq_getElem hl, he]

def AltC (w : World) (e : Ending) (w' : World) : Prop := ∃ A n c, e = .returned (.slice A n c) ∧ n ≤ 1048577 ∧ RdB w' w'.heap.size A n ∧ Below w.heap.size w w'
theorem info5 : (Try.prog.info? 5).map (fun i => (i.zero, i.size, i.bytes)) = some (some (.int .u8 0), 1, 1) := by kernel_rfl
theorem altC (A : Option Addr) (n c : Nat) (m : Int) (hm0 : 0 ≤ m) (hm : m ≤ 255) (w : World) (hr : RdB w w.heap.size A n) (hn0 : n ≤ 1048577) :
    Calls Try.prog 34 #[.slice A n c, .int .i64 m] w (AltC w) := by
  obtain ⟨i0, hi, hz0, hz1, hz2⟩ := info_parts info5
  have HR := Lib.hid hr
  have hn : (n : Int) ≤ 1048577 := by omega
  clear hr hn0
  go_enter Try.func34, Try.ntmps34
  go_wp2
  go_loopw [5, 6] (fun v i wr => ∃ (k : Nat) (vs : List Value), k ≤ n ∧ k ≤ 3000 ∧ i = .int .i64 k ∧ AllB vs ∧ wr.ownsRow w.heap.size 5 1 v (k + 1) vs ∧ Below w.heap.size w wr) (fun _ i _ => n - (intOf i).toNat)
  case atStart =>
    refine ⟨0, [.int .u8 m], Nat.zero_le _, by omega, rfl, ?_, ?_, (Below.refl _ _).alloc (Nat.le_refl _) _⟩
    · intro v hv; exact ⟨m, hm0, hm, by simpa using hv⟩
    · exact World.ownsRow_lit w #[.int .u8 m] 1 (Nat.le_refl _) (by decide) rfl
  case round =>
    obtain ⟨k, vs, hk, hk2, rfl, hvs, hown, hb⟩ := hrel
    have HV := Lib.hid hvs
    have HB := Lib.hid hb
    clear hvs hb
    by_cases hlt : k < n ∧ (k : Int) < 3000
    · obtain ⟨hlt, h4⟩ := hlt
      obtain ⟨b, off, rfl, hbg, hcell⟩ := HR.out (by omega)
      obtain ⟨u, u1, u2, hu⟩ := hcell k hlt
      clear hcell
      have hcx : wr.cell? ⟨b, off + k, none⟩ = some (.int .u8 u) := (HB.out.cell (p := ⟨b, off + k, none⟩) hbg).trans hu
      clear hu
      have HO := Lib.hid hown
      clear hown
      go_wp2_with (at_builtin; refine wpList_append_own _ rfl _ _ 22 rfl w.heap.size 5 i0 (.int .u8 0) 1 1 Try.underlying22 hi hz0 hz1 hz2 rfl (by decide) _ _ _ rfl (HO.out.alloc _) ⟨wr.heap.size, 0, none⟩ 1 1 [.int .u8 u] rfl rfl ?c1 ?c2 ?c3 ?c4 ?c5 ?_)
      case c1 =>
        intro j v hj
        match j, hj with
        | 0, hj => simp at hj; subst hj; simp [Addr.add]
      case c2 => intro v hv; simp at hv; subst hv; rfl
      case c3 => unfold maxLen; omega
      case c4 => omega
      case c5 => have := HB.out.size; simp; omega
      · intro v' w1 hown' hgrow _
        have hold := HO.out
        have hB1 : Below w.heap.size w w1 := (HB.out.alloc HB.out.size _).grown hgrow (by have := HB.out.size; simp; omega) (fun r hr => (hold.lt r hr).1)
        have HO1 := Lib.hid hown'
        have HB1 := Lib.hid hB1
        clear hown' hgrow hB1 hold
        go_wp2
        go_roundw
        case rel => exact ⟨k + 1, vs ++ [.int .u8 u], by omega, by omega, by go_num, HV.out.snoc u1 u2, HO1.out, HB1.out⟩
        case measure => simp [intOf]; omega
    · have hfin : ∀ (V : Value), wr.ownsRow w.heap.size 5 1 V (k + 1) vs → AltC w (.returned V) wr := by
        intro V hown
        rcases hown.2 with ⟨rfl, h0⟩ | ⟨g, cap, cur, rfl, _⟩
        · omega
        · exact ⟨_, _, _, rfl, by omega, RdB.of_own hown HV.out, HB.out⟩
      have HF := Lib.hid hfin
      have HO := Lib.hid hown
      clear hfin hown
      by_cases hlt2 : k < n
      · have h4 : decide ((k : Int) < 3000) = false := by simp; omega
        clear hlt
        go_wp2
        go_ret
        exact HF.out _ HO.out
      · clear hlt
        go_wp2
        go_ret
        exact HF.out _ HO.out
end Qt
end Go.Proofs.Ytjdappmapkagjaa
