/- What the laws over one model keep of the worlds that they go through. Conditions: the slice of layers reads as the list that is named. -/
import Derived.Test.YtklefnmhknlilaaToL
import Derived.Test.YtklefnmhknlilaaEqL
import Derived.Test.YtklefnmhknlilaaSzL
import Derived.Test.YtklefnmhknlilaaKept
import Derived.Deep.RegionHeld3
import Derived.Deep.DeepCutAuto
import Derived.Outline
namespace Go.Proofs.Ytklefnmhknlilaa
open Go.RowKit Go.Sort
set_option linter.unusedSimpArgs false
set_option linter.unusedVariables false
namespace Qt
theorem rdLT_mk {w : World} {A : Option Addr} {n : Nat} {ls : List Lay} (h : RdL w A n ls) (hm : (n : Int) ≤ 9223372036854775807 ∧ ∀ l ∈ ls, (l.xs.length : Int) ≤ 9223372036854775807 ∧ (l.ys.length : Int) ≤ 9223372036854775807) : RdLT w A n ls := ⟨h, hm⟩
/-- The model that came in. -/
structure JM (h w c : Int) (A : Option Addr) (n p : Nat) (ls : List Lay) (gM : Nat) (u : World) : Prop where
  b : Bk u gM 26 #[.int .i64 h, .int .i64 w, .int .i64 c, .slice A n p]
  r : RdL u A n ls
theorem JM.st {h w c : Int} {A : Option Addr} {n p : Nat} {ls : List Lay} {gM : Nat} : ∀ u u', JM h w c A n p ls gM u → Below u.heap.size u u' → JM h w c A n p ls gM u' := fun _ _ h hb => ⟨h.b.below hb, h.r.of_below hb⟩
/-- .. and a copy of it. -/
structure JX (h w c : Int) (A : Option Addr) (n p : Nat) (ls : List Lay) (gM gx gX : Nat) (u : World) : Prop where
  m : JM h w c A n p ls gM u
  b : Bk u gX 32 #[.int .i64 h, .int .i64 w, .int .i64 c, .slice (some ⟨gx, 0, none⟩) n n]
  r : RdL u (some ⟨gx, 0, none⟩) n ls
theorem JX.st {h w c : Int} {A : Option Addr} {n p : Nat} {ls : List Lay} {gM gx gX : Nat} : ∀ u u', JX h w c A n p ls gM gx gX u → Below u.heap.size u u' → JX h w c A n p ls gM gx gX u' := fun _ _ h hb => ⟨JM.st _ _ h.m hb, h.b.below hb, h.r.of_below hb⟩
theorem JX.cells {h w c : Int} {A : Option Addr} {n p : Nat} {ls : List Lay} {gM gx gX : Nat} {u : World} (hx : JX h w c A n p ls gM gx gX u) : u.cell? ⟨gX, 0, none⟩ = some (.int .i64 h) ∧ u.cell? ⟨gX, 1, none⟩ = some (.int .i64 w) ∧ u.cell? ⟨gX, 2, none⟩ = some (.int .i64 c) ∧ u.cell? ⟨gX, 3, none⟩ = some (.slice (some ⟨gx, 0, none⟩) n n) ∧ u.cell? ⟨gM, 0, none⟩ = some (.int .i64 h) ∧ u.cell? ⟨gM, 1, none⟩ = some (.int .i64 w) ∧ u.cell? ⟨gM, 2, none⟩ = some (.int .i64 c) ∧ u.cell? ⟨gM, 3, none⟩ = some (.slice A n p) := by
  obtain ⟨a0, a1, a2, a3⟩ := hx.b.cell4
  obtain ⟨b0, b1, b2, b3⟩ := hx.m.b.cell4
  exact ⟨a0, a1, a2, a3, b0, b1, b2, b3⟩
end Qt
end Go.Proofs.Ytklefnmhknlilaa
