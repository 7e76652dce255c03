/- The program's SameStep answers as its model does and writes into no argument, and the law returns true. Proved for every input; no conditions. -/
import Derived.Test.YthkjmdboflngaaaRows
import Derived.WalkKit
import Derived.ProofKit
import Derived.OpenShut
import Derived.ShutString
import Derived.ChangeOld
import Derived.Below
import Derived.Test.YthkjmdboflngaaaOpen
import Derived.Test.YthkjmdboflngaaaSameStepLaw
import Derived.Test.YthkjmdboflngaaaOpenE
namespace Go.Proofs.Ythkjmdboflngaaa.fnExactSameStep
open Go.ChangeShapes Go.WideShapes Go.ChangeAt Go.RowKit
set_option linter.unusedVariables false

theorem own : ownKnob Try.prog.godebug = none := by kernel_rfl
theorem laidOut : laidOutB Try.prog = true := by kernel_rfl

/-- The law returns true, and writes into nothing that was there. -/
theorem walk (ek0 ea0 eb0 eh0 ew0 ec0 : Int) (A0 : Option Addr) (n0 p0 : Nat) (bs0 : List Int) (B0 : Option Addr) (nb0 pb0 : Nat) (xs0 : List Int) (ek1 ea1 eb1 eh1 ew1 ec1 : Int) (A1 : Option Addr) (n1 p1 : Nat) (bs1 : List Int) (B1 : Option Addr) (nb1 pb1 : Nat) (xs1 : List Int) (W : World) (r0 : Qt.RdYT W A0 n0 bs0) (rb0 : Qt.RdT W B0 nb0 xs0) (r1 : Qt.RdYT W A1 n1 bs1) (rb1 : Qt.RdT W B1 nb1 xs1) :
    Calls Try.prog 7 #[.agg #[.int .i64 ek0, .int .i64 ea0, .int .i64 eb0, .slice A0 n0 p0, .int .i64 eh0, .int .i64 ew0, .int .i64 ec0, .slice B0 nb0 pb0], .agg #[.int .i64 ek1, .int .i64 ea1, .int .i64 eb1, .slice A1 n1 p1, .int .i64 eh1, .int .i64 ew1, .int .i64 ec1, .slice B1 nb1 pb1]] W fun e W' => e = .returned (.bool true) ∧ Below W.heap.size W W' := by
  exact Qt.sameStepLaw ek0 ea0 eb0 eh0 ew0 ec0 A0 n0 p0 bs0 B0 nb0 pb0 xs0 ek1 ea1 eb1 eh1 ew1 ec1 A1 n1 p1 bs1 B1 nb1 pb1 xs1 W r0.1 rb0 r1.1 rb1 r0.2 r1.2

set_option maxRecDepth 100000 in
theorem lifted (os : Os) (started : os.Started) (H : Type) (enc : TypeId × Value → H) :
    ReturnsInHanded {} Try.checked os 7 .any (Rows.fnExactSameStepSpec.pre6 enc Try.prog Try.f7 Rows.fnExactSameStepRow.domain false) (Rows.fnExactSameStepSpec.post enc Try.prog Try.f7 false true false false) := by
  refine returnsInHanded_of_change (C := Try.checked) own started (by kernel_rfl) Try.func7
    (ChangeSpec.witness6 (enc := enc) (C := Try.checked) false ⟨#[], #[.agg #[.int .i64 0, .int .i64 0, .int .i64 0, .slice none 0 0, .int .i64 0, .int .i64 0, .int .i64 0, .slice none 0 0], .agg #[.int .i64 0, .int .i64 0, .int .i64 0, .slice none 0 0, .int .i64 0, .int .i64 0, .int .i64 0, .slice none 0 0]], []⟩ 8 (by kernel_rfl) (by kernel_rfl) (by kernel_rfl) (by kernel_rfl)) ?_
  intro W base args ds gs before hval0 hW hcnd _
  have hval : ∀ (j : Nat) t v, Try.f7.params[j]? = some t → args[j]? = some v → Value.okWide Try.prog W .any base t v := hval0
  have hW' := hW
  obtain ⟨p, q, hA0, hV, rfl, hfz, hnd⟩ := hW
  have hA : DataW.TrodAll enc Try.prog W 0 (fun _ => true) true Try.f7.params.toList args.toList ds p := hA0
  rw [Try.params7] at hA hval
  obtain ⟨v0, vs0, d0, ds0, q0, qq0, hargs, rfl, rfl, e0, t0⟩ := trodAll_cons hA
  obtain ⟨v1, vs1, d1, ds1, q1, qq1, rfl, rfl, rfl, e1, t1⟩ := trodAll_cons t0
  obtain ⟨rfl, rfl, rfl⟩ := trodAll_nil t1
  obtain rfl : args = #[v0, v1] := by cases args; simp_all
  obtain ⟨rfl, rfl⟩ := trodVars_none hV
  have k0 := e0
  have ltt0 : ∀ x ∈ q0, x.block < W.heap.size := by obtain ⟨m, hm⟩ := k0; exact DataW.trod_lt m _ _ _ hm
  obtain ⟨ek0, ea0, eb0, eh0, ew0, ec0, A0, n0, p0, bs0, B0, nb0, pb0, xs0, rfl, r0, rb0⟩ := Qt.open_step (hval 0 29 v0 rfl rfl) e0
  have k1 := e1
  have ltt1 : ∀ x ∈ q1, x.block < W.heap.size := by obtain ⟨m, hm⟩ := k1; exact DataW.trod_lt m _ _ _ hm
  obtain ⟨ek1, ea1, eb1, eh1, ew1, ec1, A1, n1, p1, bs1, B1, nb1, pb1, xs1, rfl, r1, rb1⟩ := Qt.open_step (hval 1 29 v1 rfl rfl) e1
  clear hA0 hval0
  refine (walk ek0 ea0 eb0 eh0 ew0 ec0 A0 n0 p0 bs0 B0 nb0 pb0 xs0 ek1 ea1 eb1 eh1 ew1 ec1 A1 n1 p1 bs1 B1 nb1 pb1 xs1 W r0 rb0 r1 rb1).mono fun e W' ⟨he, bel⟩ => ?_
  subst he
  exact ⟨_, rfl, _, _, _, [], _, [], hW', trodAll_mk1 (shut_bool Try.underlying4 _), (trodAll_cons_mk (Below.trod laidOut (by kernel_rfl) (of_decide_eq_true (by kernel_rfl)) k0 bel ltt0) (trodAll_cons_mk (Below.trod laidOut (by kernel_rfl) (of_decide_eq_true (by kernel_rfl)) k1 bel ltt1) trodAll_mk0)), rfl, bel.frame _, fun h => by cases h⟩

theorem over : Rows.fnExactSameStepRow.holds Try.pinned (OpenSpec.ofChange Rows.fnExactSameStepSpec) :=
  OpenClaim.holds_of_wide 7 Try.f7 rfl rfl rfl rfl rfl rfl rfl ⟨rfl, rfl, rfl, rfl, rfl⟩ rfl rfl rfl rfl rfl (by kernel_rfl) Try.func7 (by kernel_rfl)
    (of_decide_eq_true (by kernel_rfl)) (by unfold Func.isWrapper; first | (rw [if_pos (by decide +kernel)]; kernel_rfl) | (rw [if_neg (by decide +kernel)]; exact ⟨rfl, rfl⟩))
    (fun os started H enc _ => lifted os started H enc)

theorem proved : Rows.FnExactSameStepSaid := over
#print axioms proved
end Go.Proofs.Ythkjmdboflngaaa.fnExactSameStep
