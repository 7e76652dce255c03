/- What is known of a block that make has laid. No conditions. -/
import Derived.Test.YtebldedmkpdgcaaOwn
namespace Go.Proofs.Ytebldedmkpdgcaa
open Go.RowKit Go.Sort
namespace Qt
theorem ownsRow_bkR {w : World} {base g n c : Nat} {t : TypeId} {size : Nat} {xs : List Value} (h : w.ownsRow base t size (.slice (some ⟨g, 0, none⟩) n c) n xs) : ∃ cs, Bk w g t cs ∧ cs.size = c * size := by
  rcases h.2 with ⟨h', _⟩ | ⟨g', cap, cur, hv, _, hg, _, _, hs, _⟩
  · simp at h'
  · injection hv with e1 _ e3
    cases e1; cases e3
    exact ⟨cur, hg, hs⟩
end Qt
end Go.Proofs.Ytebldedmkpdgcaa
