/- The program's TotalCost answers as its model does, at every model, and writes into no argument, and the law returns true. Proved for every input; no conditions. -/
import Derived.Test.YtbmchpoffceehaaRows
import Derived.WalkKit
import Derived.ProofKit
import Derived.OpenShut
import Derived.ShutString
import Derived.ChangeOld
import Derived.Below
import Derived.Test.YtbmchpoffceehaaQBaseA
import Derived.Test.YtbmchpoffceehaaQBaseB
import Derived.Test.YtbmchpoffceehaaQTotalLaw
namespace Go.Proofs.Ytbmchpoffceehaa.fnExactTotalCost
open Go.ChangeShapes Go.WideShapes Go.ChangeAt Go.RowKit
set_option linter.unusedVariables false

theorem own : ownKnob Try.prog.godebug = none := by kernel_rfl
theorem laidOut : laidOutB Try.prog = true := by kernel_rfl

/-- The law returns true, and writes into nothing that was there. -/
theorem walk (h0 w0 c0 : Int) (A0 : Option Addr) (n0 p0 : Nat) (ls0 : List Qt.Lay) (W : World) (r0 : Qt.RdLT W A0 n0 ls0) :
    Calls Try.prog 7 #[.agg #[.int .i64 h0, .int .i64 w0, .int .i64 c0, .slice A0 n0 p0]] W fun e W' => e = .returned (.bool true) ∧ Below W.heap.size W W' := by
  exact Qt.totalLaw h0 w0 c0 A0 n0 p0 ls0 W r0

set_option maxRecDepth 100000 in
theorem lifted (os : Os) (started : os.Started) (H : Type) (enc : TypeId × Value → H) :
    ReturnsInHanded {} Try.checked os 7 .any (Rows.fnExactTotalCostSpec.pre6 enc Try.prog Try.f7 Rows.fnExactTotalCostRow.domain false) (Rows.fnExactTotalCostSpec.post enc Try.prog Try.f7 false true false false) := by
  refine returnsInHanded_of_change (C := Try.checked) own started (by kernel_rfl) Try.func7
    (ChangeSpec.witness6 (enc := enc) (C := Try.checked) false ⟨#[], #[.agg #[.int .i64 0, .int .i64 0, .int .i64 0, .slice none 0 0]], []⟩ 8 (by kernel_rfl) (by kernel_rfl) (by kernel_rfl) (by kernel_rfl)) ?_
  intro W base args ds gs before hval0 hW hcnd _
  have hval : ∀ (j : Nat) t v, Try.f7.params[j]? = some t → args[j]? = some v → Value.okWide Try.prog W .any base t v := hval0
  have hW' := hW
  obtain ⟨p, q, hA0, hV, rfl, hfz, hnd⟩ := hW
  have hA : DataW.TrodAll enc Try.prog W 0 (fun _ => true) true Try.f7.params.toList args.toList ds p := hA0
  rw [Try.params7] at hA hval
  obtain ⟨v0, vs0, d0, ds0, q0, qq0, hargs, rfl, rfl, e0, t0⟩ := trodAll_cons hA
  obtain ⟨rfl, rfl, rfl⟩ := trodAll_nil t0
  obtain rfl : args = #[v0] := by cases args; simp_all
  obtain ⟨rfl, rfl⟩ := trodVars_none hV
  have k0 := e0
  have ltt0 : ∀ x ∈ q0, x.block < W.heap.size := by obtain ⟨m, hm⟩ := k0; exact DataW.trod_lt m _ _ _ hm
  obtain ⟨h0, w0, c0, A0, n0, p0, ls0, rfl, r0⟩ := Qt.open_model (hval 0 26 v0 rfl rfl) e0
  clear hA0 hval0
  refine (walk h0 w0 c0 A0 n0 p0 ls0 W r0).mono fun e W' ⟨he, bel⟩ => ?_
  subst he
  exact ⟨_, rfl, _, _, _, [], _, [], hW', trodAll_mk1 (shut_bool Try.underlying4 _), (trodAll_cons_mk (Below.trod laidOut (by kernel_rfl) (of_decide_eq_true (by kernel_rfl)) k0 bel ltt0) trodAll_mk0), rfl, bel.frame _, fun h => by cases h⟩

theorem over : Rows.fnExactTotalCostRow.holds Try.pinned (OpenSpec.ofChange Rows.fnExactTotalCostSpec) :=
  OpenClaim.holds_of_wide 7 Try.f7 rfl rfl rfl rfl rfl rfl rfl ⟨rfl, rfl, rfl, rfl, rfl⟩ rfl rfl rfl rfl rfl (by kernel_rfl) Try.func7 (by kernel_rfl)
    (of_decide_eq_true (by kernel_rfl)) (by unfold Func.isWrapper; first | (rw [if_pos (by decide +kernel)]; kernel_rfl) | (rw [if_neg (by decide +kernel)]; exact ⟨rfl, rfl⟩))
    (fun os started H enc _ => lifted os started H enc)

theorem proved : Rows.FnExactTotalCostSaid := over
#print axioms proved
end Go.Proofs.Ytbmchpoffceehaa.fnExactTotalCost
