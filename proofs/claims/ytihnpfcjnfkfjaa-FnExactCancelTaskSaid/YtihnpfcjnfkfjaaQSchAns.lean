/- The laws' own helpers markSched and heldSched at an answer, and what its numbers are then. Conditions: the answer's tasks lie in memory of its own. -/
import Derived.Test.YtihnpfcjnfkfjaaQSchMark
import Derived.Test.YtihnpfcjnfkfjaaQTskGr
namespace Go.Proofs.Ytihnpfcjnfkfjaa
open Go.RowKit Go.Sort
set_option linter.unusedSimpArgs false
set_option linter.unusedVariables false
namespace Qt
theorem markSchG (nw sk ag rn lf tu nx : Int) (A : Option Addr) (n cap B : Nat) (ss : List Tsk) (Ps : List TskP) (W : World) (k : Int) (h : GrTsk B W (.slice A n cap) ss Ps) (hB : B ≤ W.heap.size) (hb : 4 * n + bigTsk ss ≤ 10000000) (hk0 : 0 ≤ k) (hk1 : k ≤ 10000000) :
    Calls Try.prog 24 #[.agg #[.int .i64 nw, .int .i64 sk, .int .i64 ag, .slice A n cap, .int .i64 rn, .int .i64 lf, .int .i64 tu, .int .i64 nx], .int .i64 k] W fun e W' => e = .returned (.int .i64 (k + (4 * n + bigTsk ss : Nat))) ∧ Below B W W' ∧ MkdTsk W' A n k (4 * n + bigTsk ss) ∧ ∀ b, b < W.heap.size → (Value.slice A n cap).ownBlock ≠ some b → (∀ P ∈ Ps, 0 < P.n → ∀ a, P.A = some a → a.block ≠ b) → W'.heap[b]? = W.heap[b]? := by
  have b0 := (Below.refl _ W).alloc (Nat.le_refl _) (.cells #[.int .i64 nw, .int .i64 sk, .int .i64 ag, .slice A n cap, .int .i64 rn, .int .i64 lf, .int .i64 tu, .int .i64 nx] 29)
  have HM := Lib.hid (h.of_below b0)
  have HB0 := Lib.hid b0
  have HB := Lib.hid hB
  clear h b0 hB
  go_enter Try.func24, Try.ntmps24
  go_wp2_with fail
  with_reducible refine (markTaskSG A n cap B ss Ps _ k HM.out hb hk0 hk1).mono ?_
  rintro e w1 ⟨rfl, ht, hm, hu⟩
  have h1 := (HB0.out.mono HB.out).trans (ht.isBelow (Nat.le_trans HB.out HB0.out.size))
  have R := Lib.hid (And.intro h1 (And.intro hm (fun b (hb : b < W.heap.size) (hr : (Value.slice A n cap).ownBlock ≠ some b) (hl : ∀ P ∈ Ps, 0 < P.n → ∀ a, P.A = some a → a.block ≠ b) => (hu b (Nat.lt_of_lt_of_le hb HB0.out.size) hr hl).trans (HB0.out.block b hb))))
  clear h1 ht hm hu HM
  go_wp2_with fail
  go_ret
  exact ⟨rfl, R.out.1, R.out.2.1, R.out.2.2⟩
theorem heldSchA (nw sk ag rn lf tu nx : Int) (A : Option Addr) (n cap m : Nat) (W : World) (k : Int) (h : MkdTsk W A n k m) (hk0 : 0 ≤ k) (hk1 : k ≤ 10000000) :
    Calls Try.prog 39 #[.agg #[.int .i64 nw, .int .i64 sk, .int .i64 ag, .slice A n cap, .int .i64 rn, .int .i64 lf, .int .i64 tu, .int .i64 nx], .int .i64 k] W fun e W' => e = .returned (.int .i64 (k + (m : Nat))) ∧ Below W.heap.size W W' := by
  have b0 := (Below.refl _ W).alloc (Nat.le_refl _) (.cells #[.int .i64 nw, .int .i64 sk, .int .i64 ag, .slice A n cap, .int .i64 rn, .int .i64 lf, .int .i64 tu, .int .i64 nx] 29)
  have HM := Lib.hid (h.of_below b0)
  have HB0 := Lib.hid b0
  have hm := h.1
  clear h b0
  go_enter Try.func39, Try.ntmps39
  go_wp2_with fail
  with_reducible refine (heldTaskSA A n cap m _ k HM.out hk0 hk1).mono ?_
  rintro e w1 ⟨rfl, bb⟩
  have R := Lib.hid (HB0.out.trans (bb.mono HB0.out.size))
  have hk : ¬ k + (m : Int) < 0 := by omega
  clear bb HM
  go_wp2_with fail
  go_ret
  exact ⟨rfl, R.out⟩
/-- What is kept of the answers while the argument's copy is still whole. -/
structure GJ (C gW gG : Nat) (cw cg : Array Value) (A0 : Option Addr) (A1 : Option Addr) (c1 : Nat) (sso : List Tsk) (Ps : List TskP) (w : World) : Prop where
  kw : Bk w gW 29 cw
  kg : Bk w gG 29 cg
  r0 : RdTsk w A0 sso.length sso
  g : GrTsk C w (.slice A1 sso.length c1) sso Ps
theorem GJ.st {C gW gG : Nat} {cw cg : Array Value} {A0 A1 : Option Addr} {c1 : Nat} {sso : List Tsk} {Ps : List TskP} (w w' : World) (h : GJ C gW gG cw cg A0 A1 c1 sso Ps w) (hb : Below w.heap.size w w') : GJ C gW gG cw cg A0 A1 c1 sso Ps w' := ⟨h.kw.below hb, h.kg.below hb, h.r0.of_below hb, h.g.of_below hb⟩
end Qt
end Go.Proofs.Ytihnpfcjnfkfjaa
