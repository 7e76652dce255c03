/- What the draw of DotOf's lists gives over bytes that can be read: two lists of whole numbers of at most twelve; it writes nothing that was there. -/
import Derived.Test.YtnldmonnbdkkkaaDraw
namespace Go.Proofs.Ytnldmonnbdkkkaa
open Go.RowKit
namespace Qt

/-- The two lists under way: rows of the call's own above the cursor, apart from one another. -/
def Two (wr : World) (g m : Nat) (a b : Value) : Prop :=
  ∃ xs ys : List Int, wr.ownsRow (g + 1) 3 1 a m (xs.map (Value.int .i64)) ∧ wr.ownsRow (g + 1) 3 1 b m (ys.map (Value.int .i64)) ∧ a.ownBlock ≠ b.ownBlock ∧ a.ownBlock ≠ none ∧ b.ownBlock ≠ none
theorem Two.of_grown {w w' : World} {g m : Nat} {a b : Value} (h : Two w g m a b) (hg : w.grownBy w' (some g)) : Two w' g m a b := by
  obtain ⟨xs, ys, ha, hb, hne⟩ := h
  refine ⟨xs, ys, ha.kept hg (Or.inr fun e => ?_), hb.kept hg (Or.inr fun e => ?_), hne⟩
  · have := (ha.lt g e).1; omega
  · have := (hb.lt g e).1; omega
theorem Two.alloc {w : World} {g m : Nat} {a b : Value} (h : Two w g m a b) (o : Obj) : Two (w.alloc o) g m a b := by
  obtain ⟨xs, ys, ha, hb, hne⟩ := h
  exact ⟨xs, ys, ha.alloc o, hb.alloc o, hne⟩
/-- Half a round: a is one longer than b. -/
def TwoA (wr : World) (g m : Nat) (a b : Value) : Prop :=
  ∃ xs ys : List Int, wr.ownsRow (g + 1) 3 1 a (m + 1) (xs.map (Value.int .i64)) ∧ wr.ownsRow (g + 1) 3 1 b m (ys.map (Value.int .i64)) ∧ a.ownBlock ≠ b.ownBlock ∧ a.ownBlock ≠ none ∧ b.ownBlock ≠ none
theorem TwoA.of_grown {w w' : World} {g m : Nat} {a b : Value} (h : TwoA w g m a b) (hg : w.grownBy w' (some g)) : TwoA w' g m a b := by
  obtain ⟨xs, ys, ha, hb, hne⟩ := h
  refine ⟨xs, ys, ha.kept hg (Or.inr fun e => ?_), hb.kept hg (Or.inr fun e => ?_), hne⟩
  · have := (ha.lt g e).1; omega
  · have := (hb.lt g e).1; omega
theorem TwoA.alloc {w : World} {g m : Nat} {a b : Value} (h : TwoA w g m a b) (o : Obj) : TwoA (w.alloc o) g m a b := by
  obtain ⟨xs, ys, ha, hb, hne⟩ := h
  exact ⟨xs, ys, ha.alloc o, hb.alloc o, hne⟩

def Lists2 (w : World) (e : Ending) (w' : World) : Prop :=
  ∃ (A B : Option Addr) (n m c d : Nat) (xs ys : List Int), e = .returned (.tuple #[.slice A n c, .slice B m d]) ∧ n ≤ 12 ∧ m ≤ 12 ∧ RdI w' A n xs ∧ RdI w' B m ys ∧ Below w.heap.size w w'

theorem own_shape {w : World} {base e m : Nat} {v : Value} {vs : List Value} (h : w.ownsRow base e 1 v m vs) (h0 : v.ownBlock ≠ none) : ∃ gb cap, v = .slice (some ⟨gb, 0, none⟩) m cap ∧ m ≤ cap := by
  rcases h.2 with ⟨rfl, _⟩ | ⟨gb, cap, cur, rfl, _, _, hc, _⟩
  · exact absurd rfl h0
  · exact ⟨gb, cap, rfl, hc⟩
theorem RdI.drop1 {w : World} {gb m : Nat} {xs : List Int} (h : RdI w (some ⟨gb, 0, none⟩) m xs) : RdI w (some ⟨gb, 1, none⟩) (m - 1) (xs.drop 1) := by
  refine ⟨by rw [List.length_drop, h.1], fun hn => ?_⟩
  obtain ⟨b, off, e, hlt, hc⟩ := h.2 (by omega)
  injection e with e
  injection e with e1 e2 _
  subst e1 e2
  refine ⟨gb, 1, rfl, hlt, fun j hj => ?_⟩
  have := hc (j + 1) (by omega)
  rw [show 0 + (j + 1) = 1 + j by omega] at this
  rw [this]
  simp [List.getD_eq_getElem?_getD]

theorem Two.step {w4 w5 : World} {g m : Nat} {a b a' : Value} {xs ys : List Int} {x : Int} {o : Obj} (hob : w4.ownsRow (g + 1) 3 1 b m (ys.map (Value.int .i64)))
    (hne : a.ownBlock ≠ b.ownBlock ∧ a.ownBlock ≠ none ∧ b.ownBlock ≠ none) (h5 : w5.ownsRow (g + 1) 3 1 a' (m + 1) (xs.map (Value.int .i64) ++ [.int .i64 x]))
    (hg : (w4.alloc o).grownBy w5 a.ownBlock) (hat : a'.ownBlock = a.ownBlock ∨ a'.ownBlock = some (w4.heap.size + 1)) : TwoA w5 g m a' b := by
  refine ⟨xs ++ [x], ys, by simpa using h5, (hob.alloc o).kept hg (Or.inr hne.1.symm), ?_, ?_, hne.2.2⟩
  · rcases hat with e | e
    · rw [e]; exact hne.1
    · rw [e]; intro he
      have := (hob.lt _ he.symm).2
      omega
  · rcases hat with e | e
    · rw [e]; exact hne.2.1
    · rw [e]; simp
theorem TwoA.step {w4 w5 : World} {g m : Nat} {a b b' : Value} {xs ys : List Int} {x : Int} {o : Obj} (hoa : w4.ownsRow (g + 1) 3 1 a (m + 1) (xs.map (Value.int .i64)))
    (hne : a.ownBlock ≠ b.ownBlock ∧ a.ownBlock ≠ none ∧ b.ownBlock ≠ none) (h5 : w5.ownsRow (g + 1) 3 1 b' (m + 1) (ys.map (Value.int .i64) ++ [.int .i64 x]))
    (hg : (w4.alloc o).grownBy w5 b.ownBlock) (hat : b'.ownBlock = b.ownBlock ∨ b'.ownBlock = some (w4.heap.size + 1)) : Two w5 g (m + 1) a b' := by
  refine ⟨xs, ys ++ [x], (hoa.alloc o).kept hg (Or.inr hne.1), by simpa using h5, ?_, hne.2.1, ?_⟩
  · rcases hat with e | e
    · rw [e]; exact hne.1
    · rw [e]; intro he
      have := (hoa.lt _ he).2
      omega
  · rcases hat with e | e
    · rw [e]; exact hne.2.2
    · rw [e]; simp
theorem lists_plain {w wr w' : World} {g m ca cb ga gb : Nat} {xs ys : List Int} (hm : m ≤ 12) (ha : wr.ownsRow (g + 1) 3 1 (.slice (some ⟨ga, 0, none⟩) m ca) m (xs.map (Value.int .i64)))
    (hb : wr.ownsRow (g + 1) 3 1 (.slice (some ⟨gb, 0, none⟩) m cb) m (ys.map (Value.int .i64))) (hW : wr.grownBy w' (some g)) (hB : Below w.heap.size w w') :
    Lists2 w (.returned (.tuple #[.slice (some ⟨ga, 0, none⟩) m ca, .slice (some ⟨gb, 0, none⟩) m cb])) w' := by
  have ha' := ha.kept hW (Or.inr fun e => by have := (ha.lt g e).1; omega)
  have hb' := hb.kept hW (Or.inr fun e => by have := (hb.lt g e).1; omega)
  exact ⟨_, _, m, m, ca, cb, xs, ys, rfl, hm, hm, RdI.of_own ha', RdI.of_own hb', hB⟩
theorem lists_cut {w wr w' : World} {g m ca cb ga gb d off : Nat} {xs ys : List Int} (hm : m ≤ 12) (ha : wr.ownsRow (g + 1) 3 1 (.slice (some ⟨ga, 0, none⟩) m ca) m (xs.map (Value.int .i64)))
    (hb : wr.ownsRow (g + 1) 3 1 (.slice (some ⟨gb, 0, none⟩) m cb) m (ys.map (Value.int .i64))) (hW : wr.grownBy w' (some g)) (hB : Below w.heap.size w w') (hoff : off = 1 ∨ m ≤ 1) :
    Lists2 w (.returned (.tuple #[.slice (some ⟨ga, 0, none⟩) m ca, .slice (some ⟨gb, off, none⟩) (m - 1) d])) w' := by
  have ha' := ha.kept hW (Or.inr fun e => by have := (ha.lt g e).1; omega)
  have hb' := hb.kept hW (Or.inr fun e => by have := (hb.lt g e).1; omega)
  refine ⟨_, _, m, m - 1, ca, d, xs, ys.drop 1, rfl, hm, by omega, RdI.of_own ha', ?_, hB⟩
  rcases hoff with rfl | h1
  · exact (RdI.of_own hb').drop1
  · have hl := (RdI.of_own hb').1
    exact ⟨by rw [List.length_drop, hl], fun hn => absurd hn (by omega)⟩

set_option maxHeartbeats 800000 in
theorem drawDotOfC (A : Option Addr) (n c : Nat) (w : World) (hr : RdB w w.heap.size A n) (hn : n ≤ 1048577) :
    Calls Try.prog 21 #[.slice A n c] w (Lists2 w) := by
  obtain ⟨i0, hi, hz0, hz1, hz2⟩ := info_parts info3
  have HR := Lib.hid hr
  have HN := Lib.hid hn
  clear hr hn
  go_enter Try.func21, Try.ntmps21
  go_wp2_with fail
  refine (newC A n c _ HR.out HN.out).mono ?_
  rintro e w0 ⟨g, rfl, hle, hlt, hc0, hb0⟩
  have HC0 := Lib.hid hc0; have HB0 := Lib.hid hb0; have HL := Lib.hid hle; have HLT := Lib.hid hlt
  clear hc0 hb0 HR hle hlt
  go_wp2_with fail
  refine (belowC g A n 12 _ ((HC0.out.alloc _).alloc _) (by omega) (by omega)).mono ?_
  rintro e w1 ⟨x1, hx1, rfl, hc1, hg1⟩
  have hT : Two w1 g 0 (.slice (some ⟨w0.heap.size, 0, none⟩) 0 0) (.slice (some ⟨w0.heap.size + 1, 0, none⟩) 0 0) := by
    refine Two.of_grown ⟨[], [], ?_, ?_, by simp [Value.ownBlock], by simp [Value.ownBlock], by simp [Value.ownBlock]⟩ hg1
    · exact (World.ownsRow_lit w0 #[] 0 HLT.out (by decide) rfl).alloc _
    · have := World.ownsRow_lit (base := g + 1) (e := 3) (size := 1) (w0.alloc (.cells #[] 3)) #[] 0 (by have := HLT.out; simp; omega) (by decide) rfl
      simpa using this
  have HC1 := Lib.hid hc1; have HT := Lib.hid hT
  have HB1 := Lib.hid (((HB0.out.alloc HB0.out.size _).alloc (by have := HB0.out.size; simp; omega) _).trans (grown_below hg1 HL.out (by have := HB0.out.size; simp; omega)))
  clear hc1 hg1 HC0 HB0 hT
  go_wp2_with fail
  go_loopw [5, 6, 7] (fun a b k wr => ∃ (K : Int) (m : Nat), 0 ≤ K ∧ K + m < 12 ∧ k = .int .i64 K ∧ Two wr g m a b ∧ Cur wr g A n ∧ Below w.heap.size w wr) (fun _ _ k _ => (intOf k).toNat)
  case atStart => exact ⟨x1, 0, by omega, by omega, rfl, HT.out, HC1.out, HB1.out⟩
  case round =>
    obtain ⟨K, m, hK0, hK1, rfl, ht, hc, hb⟩ := hrel
    have HT1 := Lib.hid ht; have HC2 := Lib.hid hc; have HB2 := Lib.hid hb
    clear ht hc hb HT HC1 HB1
    by_cases hK : 0 < K
    · go_wp2_with fail
      refine (belowC g A n 256 _ HC2.out (by omega) (by omega)).mono ?_
      rintro e w3 ⟨x3, hx3, rfl, hc3, hg3⟩
      have HC3 := Lib.hid hc3; have HB3 := Lib.hid (HB2.out.trans (grown_below hg3 HL.out HB2.out.size)); have HT3 := Lib.hid (HT1.out.of_grown hg3)
      clear hc3 hg3 HC2 HB2 HT1
      go_wp2_with fail
      refine (pickC (fun _ => True) g _ 4 A n _ _ _ (HC3.out.alloc _) (heap_alloc_new _ _) (by have := HC3.out.lt; omega) rfl (by omega) (by omega) (by exact ⟨⟨_, trivial, rfl⟩, ⟨_, trivial, rfl⟩, ⟨_, trivial, rfl⟩, ⟨_, trivial, rfl⟩, trivial⟩)).mono ?_
      rintro e w4 ⟨x4, hx4, rfl, hc4, hg4⟩
      have HC4 := Lib.hid hc4; have HB4 := Lib.hid ((HB3.out.alloc HB3.out.size _).trans (grown_below hg4 HL.out (by have := HB3.out.size; simp; omega))); have HT4 := Lib.hid ((HT3.out.alloc _).of_grown hg4)
      clear hc4 hg4 HC3 HB3 HT3 hx4 hx3
      obtain ⟨xs, ys, hoa, hob, hne⟩ := HT4.out
      have HOA := Lib.hid hoa; have HOB := Lib.hid hob; have HNE := Lib.hid hne
      clear HT4 hoa hob hne
      go_wp2_with (at_builtin; refine wpList_append_own_at _ rfl (.tmp 18) _ 32 rfl (g + 1) 3 i0 (.int .i64 0) 1 8 Try.underlying32 hi hz0 hz1 hz2 rfl (by decide) _ _ _ rfl (HOA.out.alloc _) ⟨w4.heap.size, 0, none⟩ 1 1 [.int .i64 x4] rfl rfl ?c1 ?c2 ?c3 ?c4 ?c5 ?_)
      case c1 =>
        intro j v hj
        match j, hj with
        | 0, hj => simp at hj; subst hj; simp [Addr.add]
      case c2 => intro v hv; simp at hv; subst hv; rfl
      case c3 => unfold maxLen; omega
      case c4 => omega
      case c5 => have := HC4.out.lt; simp; omega
      · intro a' w5 hown5 hgrow5 _ hat5
        have HT5 := Lib.hid (Two.step HOB.out HNE.out hown5 hgrow5 hat5)
        have hup : ∀ k, u5.ownBlock = some k → g + 1 ≤ k := fun k hk => (HOA.out.lt k hk).1
        have HC5 := Lib.hid ((HC4.out.alloc _).of_grown hgrow5 (fun k hk => by have := hup k hk; omega))
        have HB5 := Lib.hid ((HB4.out.alloc HB4.out.size _).grown hgrow5 (by have := HB4.out.size; simp; omega) (fun k hk => by have := hup k hk; have := HL.out; omega))
        clear hown5 hgrow5 hat5 hup HOA HOB HNE HC4 HB4
        go_wp2_with fail
        refine (belowC g A n 256 _ HC5.out (by omega) (by omega)).mono ?_
        rintro e w6 ⟨x6, hx6, rfl, hc6, hg6⟩
        have HC6 := Lib.hid hc6; have HB6 := Lib.hid (HB5.out.trans (grown_below hg6 HL.out HB5.out.size)); have HT6 := Lib.hid (HT5.out.of_grown hg6)
        clear hc6 hg6 HC5 HB5 HT5
        go_wp2_with fail
        refine (pickC (fun _ => True) g _ 4 A n _ _ _ (HC6.out.alloc _) (heap_alloc_new _ _) (by have := HC6.out.lt; omega) rfl (by omega) (by omega) (by exact ⟨⟨_, trivial, rfl⟩, ⟨_, trivial, rfl⟩, ⟨_, trivial, rfl⟩, ⟨_, trivial, rfl⟩, trivial⟩)).mono ?_
        rintro e w7 ⟨x7, hx7, rfl, hc7, hg7⟩
        have HC7 := Lib.hid hc7; have HB7 := Lib.hid ((HB6.out.alloc HB6.out.size _).trans (grown_below hg7 HL.out (by have := HB6.out.size; simp; omega))); have HT7 := Lib.hid ((HT6.out.alloc _).of_grown hg7)
        clear hc7 hg7 HC6 HB6 HT6 hx7 hx6
        obtain ⟨us, vs, hoa, hob, hne⟩ := HT7.out
        have HOA := Lib.hid hoa; have HOB := Lib.hid hob; have HNE := Lib.hid hne
        clear HT7 hoa hob hne
        go_wp2_with (at_builtin; refine wpList_append_own_at _ rfl (.tmp 27) _ 32 rfl (g + 1) 3 i0 (.int .i64 0) 1 8 Try.underlying32 hi hz0 hz1 hz2 rfl (by decide) _ _ _ rfl (HOB.out.alloc _) ⟨w7.heap.size, 0, none⟩ 1 1 [.int .i64 x7] rfl rfl ?d1 ?d2 ?d3 ?d4 ?d5 ?_)
        case d1 =>
          intro j v hj
          match j, hj with
          | 0, hj => simp at hj; subst hj; simp [Addr.add]
        case d2 => intro v hv; simp at hv; subst hv; rfl
        case d3 => unfold maxLen; omega
        case d4 => omega
        case d5 => have := HC7.out.lt; simp; omega
        · intro b' w8 hown8 hgrow8 _ hat8
          have HT8 := Lib.hid (TwoA.step HOA.out HNE.out hown8 hgrow8 hat8)
          have hup : ∀ k, u6.ownBlock = some k → g + 1 ≤ k := fun k hk => (HOB.out.lt k hk).1
          have HC8 := Lib.hid ((HC7.out.alloc _).of_grown hgrow8 (fun k hk => by have := hup k hk; omega))
          have HB8 := Lib.hid ((HB7.out.alloc HB7.out.size _).grown hgrow8 (by have := HB7.out.size; simp; omega) (fun k hk => by have := hup k hk; have := HL.out; omega))
          clear hown8 hgrow8 hat8 hup HOA HOB HNE HC7 HB7
          go_wp2_with fail
          go_roundw
          case rel => exact ⟨K - 1, m + 1, by omega, by omega, rfl, HT8.out, HC8.out, HB8.out⟩
          case measure => simp [intOf]; omega
    · obtain ⟨xs, ys, hoa, hob, hne⟩ := HT1.out
      obtain ⟨ga, ca, rfl, hca⟩ := own_shape hoa hne.2.1
      obtain ⟨gb, cb, rfl, hcb⟩ := own_shape hob hne.2.2
      have HOA := Lib.hid hoa; have HOB := Lib.hid hob
      clear HT1 hoa hob hne
      go_wp2_with fail
      refine (onceC g A n 4 _ HC2.out (by omega) (by omega)).mono ?_
      rintro e w3 ⟨q, rfl, hc3, hg3⟩
      have HG3 := Lib.hid hg3; have HB3 := Lib.hid (HB2.out.trans (grown_below hg3 HL.out HB2.out.size))
      clear hc3 hg3 HC2 HB2
      cases q
      · go_wp2_with fail
        go_ret2
        exact lists_plain (by omega) HOA.out HOB.out HG3.out HB3.out
      · by_cases hm : m = 0
        · subst hm
          go_wp2_with fail
          go_ret2
          exact lists_plain (by omega) HOA.out HOB.out HG3.out HB3.out
        · have hm2 : 0 < m := by omega
          have hcb2 : 0 < cb := by omega
          by_cases h1 : cb = 1
          · subst h1
            obtain rfl : m = 1 := by omega
            go_wp2_with fail
            go_ret2
            exact lists_cut (by omega) HOA.out HOB.out HG3.out HB3.out (Or.inr (by omega))
          · go_wp2_with fail
            go_ret2
            exact lists_cut (by omega) HOA.out HOB.out HG3.out HB3.out (Or.inl rfl)
end Qt
end Go.Proofs.Ytnldmonnbdkkkaa
