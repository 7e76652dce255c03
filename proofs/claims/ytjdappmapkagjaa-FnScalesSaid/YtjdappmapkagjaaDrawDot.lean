/- What the draw of DotOf's lists gives over bytes that can be read: two lists of whole numbers of at most twelve; it writes nothing that was there. -/
import Derived.Test.YtjdappmapkagjaaDraw
namespace Go.Proofs.Ytjdappmapkagjaa
open Go.RowKit
namespace Qt

/-- The two lists under way: rows of the call's own above the cursor, apart from one another. -/
def Two (wr : World) (g m : Nat) (a b : Value) : Prop :=
  ∃ xs ys : List Int, wr.ownsRow (g + 1) 3 1 a m (xs.map (Value.int .i64)) ∧ wr.ownsRow (g + 1) 3 1 b m (ys.map (Value.int .i64)) ∧ a.ownBlock ≠ b.ownBlock ∧ a.ownBlock ≠ none ∧ b.ownBlock ≠ none
theorem Two.of_grown {w w' : World} {g m : Nat} {a b : Value} (h : Two w g m a b) (hg : w.grownBy w' (some g)) : Two w' g m a b := by
  obtain ⟨xs, ys, ha, hb, hne⟩ := h
  refine ⟨xs, ys, ha.kept hg (Or.inr fun e => ?_), hb.kept hg (Or.inr fun e => ?_), hne⟩
  · have := (ha.lt g e).1; omega
  · have := (hb.lt g e).1; omega
theorem Two.alloc {w : World} {g m : Nat} {a b : Value} (h : Two w g m a b) (o : Obj) : Two (w.alloc o) g m a b := by
  obtain ⟨xs, ys, ha, hb, hne⟩ := h
  exact ⟨xs, ys, ha.alloc o, hb.alloc o, hne⟩
/-- Half a round: a is one longer than b. -/
def TwoA (wr : World) (g m : Nat) (a b : Value) : Prop :=
  ∃ xs ys : List Int, wr.ownsRow (g + 1) 3 1 a (m + 1) (xs.map (Value.int .i64)) ∧ wr.ownsRow (g + 1) 3 1 b m (ys.map (Value.int .i64)) ∧ a.ownBlock ≠ b.ownBlock ∧ a.ownBlock ≠ none ∧ b.ownBlock ≠ none
theorem TwoA.of_grown {w w' : World} {g m : Nat} {a b : Value} (h : TwoA w g m a b) (hg : w.grownBy w' (some g)) : TwoA w' g m a b := by
  obtain ⟨xs, ys, ha, hb, hne⟩ := h
  refine ⟨xs, ys, ha.kept hg (Or.inr fun e => ?_), hb.kept hg (Or.inr fun e => ?_), hne⟩
  · have := (ha.lt g e).1; omega
  · have := (hb.lt g e).1; omega
theorem TwoA.alloc {w : World} {g m : Nat} {a b : Value} (h : TwoA w g m a b) (o : Obj) : TwoA (w.alloc o) g m a b := by
  obtain ⟨xs, ys, ha, hb, hne⟩ := h
  exact ⟨xs, ys, ha.alloc o, hb.alloc o, hne⟩

def Lists2 (w : World) (e : Ending) (w' : World) : Prop :=
  ∃ (A B : Option Addr) (n m c d : Nat) (xs ys : List Int), e = .returned (.tuple #[.slice A n c, .slice B m d]) ∧ n ≤ 12 ∧ m ≤ 12 ∧ RdI w' A n xs ∧ RdI w' B m ys ∧ Below w.heap.size w w'

theorem own_shape {w : World} {base e m : Nat} {v : Value} {vs : List Value} (h : w.ownsRow base e 1 v m vs) (h0 : v.ownBlock ≠ none) : ∃ gb cap, v = .slice (some ⟨gb, 0, none⟩) m cap ∧ m ≤ cap := by
  rcases h.2 with ⟨rfl, _⟩ | ⟨gb, cap, cur, rfl, _, _, hc, _⟩
  · exact absurd rfl h0
  · exact ⟨gb, cap, rfl, hc⟩
theorem RdI.drop1 {w : World} {gb m : Nat} {xs : List Int} (h : RdI w (some ⟨gb, 0, none⟩) m xs) : RdI w (some ⟨gb, 1, none⟩) (m - 1) (xs.drop 1) := by
  refine ⟨by rw [List.length_drop, h.1], fun hn => ?_⟩
  obtain ⟨b, off, e, hlt, hc⟩ := h.2 (by omega)
  injection e with e
  injection e with e1 e2 _
  subst e1 e2
  refine ⟨gb, 1, rfl, hlt, fun j hj => ?_⟩
  have := hc (j + 1) (by omega)
  rw [show 0 + (j + 1) = 1 + j by omega] at this
  rw [this]
  simp [List.getD_eq_getElem?_getD]

theorem Two.step {w4 w5 : World} {g m : Nat} {a b a' : Value} {xs ys : List Int} {x : Int} {o : Obj} (hob : w4.ownsRow (g + 1) 3 1 b m (ys.map (Value.int .i64)))
    (hne : a.ownBlock ≠ b.ownBlock ∧ a.ownBlock ≠ none ∧ b.ownBlock ≠ none) (h5 : w5.ownsRow (g + 1) 3 1 a' (m + 1) (xs.map (Value.int .i64) ++ [.int .i64 x]))
    (hg : (w4.alloc o).grownBy w5 a.ownBlock) (hat : a'.ownBlock = a.ownBlock ∨ a'.ownBlock = some (w4.heap.size + 1)) : TwoA w5 g m a' b := by
  refine ⟨xs ++ [x], ys, by simpa using h5, (hob.alloc o).kept hg (Or.inr hne.1.symm), ?_, ?_, hne.2.2⟩
  · rcases hat with e | e
    · rw [e]; exact hne.1
    · rw [e]; intro he
      have := (hob.lt _ he.symm).2
      omega
  · rcases hat with e | e
    · rw [e]; exact hne.2.1
    · rw [e]; simp
theorem TwoA.step {w4 w5 : World} {g m : Nat} {a b b' : Value} {xs ys : List Int} {x : Int} {o : Obj} (hoa : w4.ownsRow (g + 1) 3 1 a (m + 1) (xs.map (Value.int .i64)))
    (hne : a.ownBlock ≠ b.ownBlock ∧ a.ownBlock ≠ none ∧ b.ownBlock ≠ none) (h5 : w5.ownsRow (g + 1) 3 1 b' (m + 1) (ys.map (Value.int .i64) ++ [.int .i64 x]))
    (hg : (w4.alloc o).grownBy w5 b.ownBlock) (hat : b'.ownBlock = b.ownBlock ∨ b'.ownBlock = some (w4.heap.size + 1)) : Two w5 g (m + 1) a b' := by
  refine ⟨xs, ys ++ [x], (hoa.alloc o).kept hg (Or.inr hne.1), by simpa using h5, ?_, hne.2.1, ?_⟩
  · rcases hat with e | e
    · rw [e]; exact hne.1
    · rw [e]; intro he
      have := (hoa.lt _ he).2
      omega
  · rcases hat with e | e
    · rw [e]; exact hne.2.2
    · rw [e]; simp
theorem lists_plain {w wr w' : World} {g m ca cb ga gb : Nat} {xs ys : List Int} (hm : m ≤ 12) (ha : wr.ownsRow (g + 1) 3 1 (.slice (some ⟨ga, 0, none⟩) m ca) m (xs.map (Value.int .i64)))
    (hb : wr.ownsRow (g + 1) 3 1 (.slice (some ⟨gb, 0, none⟩) m cb) m (ys.map (Value.int .i64))) (hW : wr.grownBy w' (some g)) (hB : Below w.heap.size w w') :
    Lists2 w (.returned (.tuple #[.slice (some ⟨ga, 0, none⟩) m ca, .slice (some ⟨gb, 0, none⟩) m cb])) w' := by
  have ha' := ha.kept hW (Or.inr fun e => by have := (ha.lt g e).1; omega)
  have hb' := hb.kept hW (Or.inr fun e => by have := (hb.lt g e).1; omega)
  exact ⟨_, _, m, m, ca, cb, xs, ys, rfl, hm, hm, RdI.of_own ha', RdI.of_own hb', hB⟩
theorem lists_cut {w wr w' : World} {g m ca cb ga gb d off : Nat} {xs ys : List Int} (hm : m ≤ 12) (ha : wr.ownsRow (g + 1) 3 1 (.slice (some ⟨ga, 0, none⟩) m ca) m (xs.map (Value.int .i64)))
    (hb : wr.ownsRow (g + 1) 3 1 (.slice (some ⟨gb, 0, none⟩) m cb) m (ys.map (Value.int .i64))) (hW : wr.grownBy w' (some g)) (hB : Below w.heap.size w w') (hoff : off = 1 ∨ m ≤ 1) :
    Lists2 w (.returned (.tuple #[.slice (some ⟨ga, 0, none⟩) m ca, .slice (some ⟨gb, off, none⟩) (m - 1) d])) w' := by
  have ha' := ha.kept hW (Or.inr fun e => by have := (ha.lt g e).1; omega)
  have hb' := hb.kept hW (Or.inr fun e => by have := (hb.lt g e).1; omega)
  refine ⟨_, _, m, m - 1, ca, d, xs, ys.drop 1, rfl, hm, by omega, RdI.of_own ha', ?_, hB⟩
  rcases hoff with rfl | h1
  · exact (RdI.of_own hb').drop1
  · have hl := (RdI.of_own hb').1
    exact ⟨by rw [List.length_drop, hl], fun hn => absurd hn (by omega)⟩

end Qt
end Go.Proofs.Ytjdappmapkagjaa
