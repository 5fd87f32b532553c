/-
  For every int, laws.FnExactTypeOk returns true and writes into nothing that was there: the program's TypeOk answers as the specification's. No condition.
-/
import Derived.Test.YtdbojhbdfcknfaaRows
import Derived.WalkKit
import Derived.ProofKit
import Derived.OpenShut
import Derived.ShutString
import Derived.ChangeOld
import Derived.Below
import Derived.Test.YtdbojhbdfcknfaaOpenName
import Derived.Test.YtdbojhbdfcknfaaClosed
import Derived.Test.YtdbojhbdfcknfaaLawTypeOk
namespace Go.Proofs.Ytdbojhbdfcknfaa.fnExactTypeOk
open Go.ChangeShapes Go.WideShapes Go.ChangeAt Go.RowKit
set_option linter.unusedVariables false

theorem own : ownKnob Try.prog.godebug = none := by kernel_rfl
theorem laidOut : laidOutB Try.prog = true := by kernel_rfl

set_option maxRecDepth 100000 in
theorem lifted (os : Os) (started : os.Started) (H : Type) (enc : TypeId × Value → H) :
    ReturnsInHanded {} Try.checked os 14 .any (Rows.fnExactTypeOkSpec.pre6 enc Try.prog Try.f14 Rows.fnExactTypeOkRow.domain false) (Rows.fnExactTypeOkSpec.post enc Try.prog Try.f14 false true false false) := by
  refine returnsInHanded_of_change (C := Try.checked) own started (by kernel_rfl) Try.func14
    (ChangeSpec.witness6 (enc := enc) (C := Try.checked) false ⟨#[], #[.int .i64 0], []⟩ 8 (by kernel_rfl) (by kernel_rfl) (by kernel_rfl) (by kernel_rfl)) ?_
  intro W base args ds gs before hval0 hW hcnd _
  have hval : ∀ (j : Nat) t v, Try.f14.params[j]? = some t → args[j]? = some v → Value.okWide Try.prog W .any base t v := hval0
  have hW' := hW
  obtain ⟨p, q, hA0, hV, rfl, hfz, hnd⟩ := hW
  have hA : DataW.TrodAll enc Try.prog W 0 (fun _ => true) true Try.f14.params.toList args.toList ds p := hA0
  rw [Try.params14] at hA hval
  obtain ⟨v0, vs0, d0, ds0, p0, q0, hargs0, rfl, rfl, h0, r0⟩ := trodAll_cons hA
  obtain ⟨rfl, rfl, rfl⟩ := trodAll_nil r0
  obtain rfl : args = #[v0] := by cases args; simp_all
  obtain ⟨rfl, rfl⟩ := trodVars_none hV
  obtain ⟨x0, rfl, rfl, rfl, w0⟩ := open_int Try.underlying3 (hval 0 3 v0 rfl rfl) h0
  clear hA0 hval0
  have walk : Calls Try.prog 14 #[.int .i64 x0] W fun e w' => e = .returned (.bool true) ∧ Below W.heap.size W w' := by
    exact lawTypeOk x0 W
  refine walk.mono fun e W' ⟨he, bel⟩ => ?_
  subst he
  exact ⟨_, rfl, _, _, _, [], _, [], hW', trodAll_mk1 (shut_bool Try.underlying4 _), (trodAll_cons_mk (shut_int Try.underlying3 w0) trodAll_mk0), rfl, bel.frame _, fun h => by cases h⟩

theorem k_named : Try.pinned.checked.prog.funcNamed Rows.fnExactTypeOkRow.func = some 14 := by kernel_rfl
theorem k_inPlace : (Rows.fnExactTypeOkRow.inPlace == Try.prog.inPlace 14) = true := by kernel_rfl
theorem k_unfollowed : (Rows.fnExactTypeOkRow.unfollowed == Try.prog.unfollowed 14) = true := by kernel_rfl
theorem k_recurses : (Rows.fnExactTypeOkRow.recurses == Try.prog.recurses 14) = true := by kernel_rfl
theorem k_vars : (Rows.fnExactTypeOkRow.named == Try.prog.varsNamed 14) = true := by kernel_rfl
theorem k_wf : Rows.fnExactTypeOkRow.wf (OpenSpec.ofChange Rows.fnExactTypeOkSpec) = true := by kernel_rfl
theorem k_instance : Try.f14.isInstance Try.pinned.checked.prog Rows.fnExactTypeOkRow.origin Rows.fnExactTypeOkRow.targs := of_decide_eq_true (by kernel_rfl)
theorem k_wrapper : Try.f14.isWrapper Try.pinned.checked.prog Rows.fnExactTypeOkRow.wrapper Rows.fnExactTypeOkRow.mainSum := by
  unfold Func.isWrapper
  rw [if_neg (by decide +kernel)]
  exact ⟨rfl, rfl⟩
theorem k_closed : joinedFacts Try.prog 14 Try.f14 Rows.fnExactTypeOkSpec Rows.fnExactTypeOkRow = true :=
  closed_of k_wf (by kernel_rfl) (by kernel_rfl) (by kernel_rfl) (by kernel_rfl) k_inPlace k_unfollowed k_recurses k_vars (by kernel_rfl) (by kernel_rfl) (by kernel_rfl) (by kernel_rfl) (by kernel_rfl) (by kernel_rfl) (by kernel_rfl) (by kernel_rfl) (by kernel_rfl) rfl rfl rfl rfl (by kernel_rfl) (by kernel_rfl) (by kernel_rfl) (by kernel_rfl)

theorem over : Rows.fnExactTypeOkRow.holds Try.pinned (OpenSpec.ofChange Rows.fnExactTypeOkSpec) :=
  OpenClaim.holds_of_wide 14 Try.f14 rfl rfl rfl rfl rfl rfl rfl ⟨rfl, rfl, rfl, rfl, rfl⟩ rfl rfl rfl rfl rfl k_named Try.func14 k_closed k_instance k_wrapper
    (fun os started H enc _ => lifted os started H enc)

theorem proved : Rows.FnExactTypeOkSaid := over
end Go.Proofs.Ytdbojhbdfcknfaa.fnExactTypeOk
