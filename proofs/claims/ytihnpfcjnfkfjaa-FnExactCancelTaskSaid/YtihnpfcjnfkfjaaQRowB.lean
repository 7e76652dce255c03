/- What is known of a block that make has laid. No conditions. -/
import Derived.Test.YtihnpfcjnfkfjaaQSchA
namespace Go.Proofs.Ytihnpfcjnfkfjaa
open Go.RowKit Go.Sort
namespace Qt
theorem ownsRow_bkR {w : World} {base g n c : Nat} {t : TypeId} {size : Nat} {xs : List Value} (h : w.ownsRow base t size (.slice (some ⟨g, 0, none⟩) n c) n xs) : ∃ cs, Bk w g t cs ∧ cs.size = c * size := by
  rcases h.2 with ⟨h', _⟩ | ⟨g', cap, cur, hv, _, hg, _, _, hs, _⟩
  · simp at h'
  · injection hv with e1 _ e3
    cases e1; cases e3
    exact ⟨cur, hg, hs⟩
theorem OwnI.lowR {B : Nat} {w : World} {A : Option Addr} {n : Nat} {xs : List Int} (h : OwnI B w A n xs) {p : Addr} (hp : p.block < B) (u : Value) : OwnI B (w.setCell p u) A n xs := ⟨h.1, fun hn => by
  obtain ⟨g, rfl, hB, r⟩ := h.2 hn
  exact (OwnI.far (g := g) ⟨h.1, fun _ => ⟨g, rfl, hB, r⟩⟩ (by omega) u).2 hn⟩
end Qt
end Go.Proofs.Ytihnpfcjnfkfjaa
