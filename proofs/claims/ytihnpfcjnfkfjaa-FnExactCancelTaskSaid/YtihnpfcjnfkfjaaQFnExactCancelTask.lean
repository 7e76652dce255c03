/- The program's CancelTask answers as its model does, writes into no argument, and its answer is its own; the law returns true. Proved for every input; no conditions. -/
import Derived.Test.YtihnpfcjnfkfjaaRows
import Derived.WalkKit
import Derived.ProofKit
import Derived.OpenShut
import Derived.ShutString
import Derived.ChangeOld
import Derived.Below
import Derived.Test.YtihnpfcjnfkfjaaQSchC
import Derived.Test.YtihnpfcjnfkfjaaQCancelLaw
import Derived.Test.YtihnpfcjnfkfjaaQSchedOpen
namespace Go.Proofs.Ytihnpfcjnfkfjaa.fnExactCancelTask
open Go.ChangeShapes Go.WideShapes Go.ChangeAt Go.RowKit
set_option linter.unusedVariables false

theorem own : ownKnob Try.prog.godebug = none := by kernel_rfl
theorem laidOut : laidOutB Try.prog = true := by kernel_rfl

/-- The law returns true, and writes into nothing that was there. -/
theorem walk (nw0 sk0 ag0 rn0 lf0 tu0 nx0 : Int) (A0 : Option Addr) (n0 p0 : Nat) (ss0 : List Qt.Tsk) (x1 : Int) (W : World) (r0 : Qt.RdTskT W A0 n0 ss0 ∧ (Lit.int .i64 rn0).wf = true) (wf1 : (Lit.int .i64 x1).wf = true) :
    Calls Try.prog 11 #[.agg #[.int .i64 nw0, .int .i64 sk0, .int .i64 ag0, .slice A0 n0 p0, .int .i64 rn0, .int .i64 lf0, .int .i64 tu0, .int .i64 nx0], .int .i64 x1] W fun e W' => e = .returned (.bool true) ∧ Below W.heap.size W W' := by
  exact Qt.cancelLaw nw0 sk0 ag0 A0 n0 p0 ss0 rn0 lf0 tu0 nx0 x1 W r0.1 r0.2 wf1

set_option maxRecDepth 100000 in
theorem lifted (os : Os) (started : os.Started) (H : Type) (enc : TypeId × Value → H) :
    ReturnsInHanded {} Try.checked os 11 .any (Rows.fnExactCancelTaskSpec.pre6 enc Try.prog Try.f11 Rows.fnExactCancelTaskRow.domain false) (Rows.fnExactCancelTaskSpec.post enc Try.prog Try.f11 false true false false) := by
  refine returnsInHanded_of_change (C := Try.checked) own started (by kernel_rfl) Try.func11
    (ChangeSpec.witness6 (enc := enc) (C := Try.checked) false ⟨#[], #[.agg #[.int .i64 0, .int .i64 0, .int .i64 0, .slice none 0 0, .int .i64 0, .int .i64 0, .int .i64 0, .int .i64 0], .int .i64 0], []⟩ 8 (by kernel_rfl) (by kernel_rfl) (by kernel_rfl) (by kernel_rfl)) ?_
  intro W base args ds gs before hval0 hW hcnd _
  have hval : ∀ (j : Nat) t v, Try.f11.params[j]? = some t → args[j]? = some v → Value.okWide Try.prog W .any base t v := hval0
  have hW' := hW
  obtain ⟨p, q, hA0, hV, rfl, hfz, hnd⟩ := hW
  have hA : DataW.TrodAll enc Try.prog W 0 (fun _ => true) true Try.f11.params.toList args.toList ds p := hA0
  rw [Try.params11] at hA hval
  obtain ⟨v0, vs0, d0, ds0, q0, qq0, hargs, rfl, rfl, e0, t0⟩ := trodAll_cons hA
  obtain ⟨v1, vs1, d1, ds1, q1, qq1, rfl, rfl, rfl, e1, t1⟩ := trodAll_cons t0
  obtain ⟨rfl, rfl, rfl⟩ := trodAll_nil t1
  obtain rfl : args = #[v0, v1] := by cases args; simp_all
  obtain ⟨rfl, rfl⟩ := trodVars_none hV
  have k0 := e0
  have ltt0 : ∀ x ∈ q0, x.block < W.heap.size := by obtain ⟨m, hm⟩ := k0; exact DataW.trod_lt m _ _ _ hm
  obtain ⟨nw0, sk0, ag0, rn0, lf0, tu0, nx0, A0, n0, p0, ss0, rfl, r0⟩ := Qt.open_sched (hval 0 24 v0 rfl rfl) e0
  obtain ⟨x1, rfl, rfl, rfl, wf1⟩ := open_int Try.underlying3 (hval 1 3 v1 rfl rfl) e1
  clear hA0 hval0
  refine (walk nw0 sk0 ag0 rn0 lf0 tu0 nx0 A0 n0 p0 ss0 x1 W r0 wf1).mono fun e W' ⟨he, bel⟩ => ?_
  subst he
  exact ⟨_, rfl, _, _, _, [], _, [], hW', trodAll_mk1 (shut_bool Try.underlying4 _), (trodAll_cons_mk (Below.trod laidOut (by kernel_rfl) (of_decide_eq_true (by kernel_rfl)) k0 bel ltt0) (trodAll_cons_mk (shut_int Try.underlying3 wf1) trodAll_mk0)), rfl, bel.frame _, fun h => by cases h⟩

theorem over : Rows.fnExactCancelTaskRow.holds Try.pinned (OpenSpec.ofChange Rows.fnExactCancelTaskSpec) :=
  OpenClaim.holds_of_wide 11 Try.f11 rfl rfl rfl rfl rfl rfl rfl ⟨rfl, rfl, rfl, rfl, rfl⟩ rfl rfl rfl rfl rfl (by kernel_rfl) Try.func11 (by kernel_rfl)
    (of_decide_eq_true (by kernel_rfl)) (by unfold Func.isWrapper; first | (rw [if_pos (by decide +kernel)]; kernel_rfl) | (rw [if_neg (by decide +kernel)]; exact ⟨rfl, rfl⟩))
    (fun os started H enc _ => lifted os started H enc)

theorem proved : Rows.FnExactCancelTaskSaid := over
#print axioms proved
end Go.Proofs.Ytihnpfcjnfkfjaa.fnExactCancelTask
