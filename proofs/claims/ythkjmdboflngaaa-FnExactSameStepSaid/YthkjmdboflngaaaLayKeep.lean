/- What is said of two blocks of nine cells while a statement's order is drawn. -/
import Derived.Test.YthkjmdboflngaaaBlk9
namespace Go.Proofs.Ythkjmdboflngaaa
open Go.RowKit
namespace Qt
theorem keep18 {v w1 w2 : World} {g g2 : Nat} {x0 x1 x2 x3 x4 x5 x6 x7 x8 y0 y1 y2 y3 y4 y5 y6 y7 y8 : Value} (hb : Below w1.heap.size w1 w2)
    (h : w1.cell? ⟨g, 0, none⟩ = some x0 ∧ w1.cell? ⟨g, 1, none⟩ = some x1 ∧ w1.cell? ⟨g, 2, none⟩ = some x2 ∧ w1.cell? ⟨g, 3, none⟩ = some x3 ∧ w1.cell? ⟨g, 4, none⟩ = some x4 ∧ w1.cell? ⟨g, 5, none⟩ = some x5 ∧ w1.cell? ⟨g, 6, none⟩ = some x6 ∧ w1.cell? ⟨g, 7, none⟩ = some x7 ∧ w1.cell? ⟨g, 8, none⟩ = some x8 ∧
      w1.cell? ⟨g2, 0, none⟩ = some y0 ∧ w1.cell? ⟨g2, 1, none⟩ = some y1 ∧ w1.cell? ⟨g2, 2, none⟩ = some y2 ∧ w1.cell? ⟨g2, 3, none⟩ = some y3 ∧ w1.cell? ⟨g2, 4, none⟩ = some y4 ∧ w1.cell? ⟨g2, 5, none⟩ = some y5 ∧ w1.cell? ⟨g2, 6, none⟩ = some y6 ∧ w1.cell? ⟨g2, 7, none⟩ = some y7 ∧ w1.cell? ⟨g2, 8, none⟩ = some y8 ∧ Hid (Below v.heap.size v w1)) :
      w2.cell? ⟨g, 0, none⟩ = some x0 ∧ w2.cell? ⟨g, 1, none⟩ = some x1 ∧ w2.cell? ⟨g, 2, none⟩ = some x2 ∧ w2.cell? ⟨g, 3, none⟩ = some x3 ∧ w2.cell? ⟨g, 4, none⟩ = some x4 ∧ w2.cell? ⟨g, 5, none⟩ = some x5 ∧ w2.cell? ⟨g, 6, none⟩ = some x6 ∧ w2.cell? ⟨g, 7, none⟩ = some x7 ∧ w2.cell? ⟨g, 8, none⟩ = some x8 ∧
      w2.cell? ⟨g2, 0, none⟩ = some y0 ∧ w2.cell? ⟨g2, 1, none⟩ = some y1 ∧ w2.cell? ⟨g2, 2, none⟩ = some y2 ∧ w2.cell? ⟨g2, 3, none⟩ = some y3 ∧ w2.cell? ⟨g2, 4, none⟩ = some y4 ∧ w2.cell? ⟨g2, 5, none⟩ = some y5 ∧ w2.cell? ⟨g2, 6, none⟩ = some y6 ∧ w2.cell? ⟨g2, 7, none⟩ = some y7 ∧ w2.cell? ⟨g2, 8, none⟩ = some y8 ∧ Hid (Below v.heap.size v w2) :=
  ⟨keep hb h.1, keep hb h.2.1, keep hb h.2.2.1, keep hb h.2.2.2.1, keep hb h.2.2.2.2.1, keep hb h.2.2.2.2.2.1, keep hb h.2.2.2.2.2.2.1, keep hb h.2.2.2.2.2.2.2.1, keep hb h.2.2.2.2.2.2.2.2.1, keep hb h.2.2.2.2.2.2.2.2.2.1, keep hb h.2.2.2.2.2.2.2.2.2.2.1, keep hb h.2.2.2.2.2.2.2.2.2.2.2.1, keep hb h.2.2.2.2.2.2.2.2.2.2.2.2.1, keep hb h.2.2.2.2.2.2.2.2.2.2.2.2.2.1, keep hb h.2.2.2.2.2.2.2.2.2.2.2.2.2.2.1, keep hb h.2.2.2.2.2.2.2.2.2.2.2.2.2.2.2.1, keep hb h.2.2.2.2.2.2.2.2.2.2.2.2.2.2.2.2.1, keep hb h.2.2.2.2.2.2.2.2.2.2.2.2.2.2.2.2.2.1, keepB hb h.2.2.2.2.2.2.2.2.2.2.2.2.2.2.2.2.2.2⟩
end Qt
end Go.Proofs.Ythkjmdboflngaaa
