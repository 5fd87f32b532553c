/-
  For every Name, laws.FnExactParent returns true and writes into nothing that was there: the program's Parent answers as the specification's, writes into no argument, and its answer owns its memory. No condition.
-/
import Derived.Test.YtdbojhbdfcknfaaRows
import Derived.WalkKit
import Derived.ProofKit
import Derived.OpenShut
import Derived.ShutString
import Derived.ChangeOld
import Derived.Below
import Derived.Test.YtdbojhbdfcknfaaOpenName
import Derived.Test.YtdbojhbdfcknfaaClosed
import Derived.Test.YtdbojhbdfcknfaaLawParent
namespace Go.Proofs.Ytdbojhbdfcknfaa.fnExactParent
open Go.ChangeShapes Go.WideShapes Go.ChangeAt Go.RowKit
set_option linter.unusedVariables false

theorem own : ownKnob Try.prog.godebug = none := by kernel_rfl
theorem laidOut : laidOutB Try.prog = true := by kernel_rfl

set_option maxRecDepth 100000 in
theorem lifted (os : Os) (started : os.Started) (H : Type) (enc : TypeId × Value → H) :
    ReturnsInHanded {} Try.checked os 10 .any (Rows.fnExactParentSpec.pre6 enc Try.prog Try.f10 Rows.fnExactParentRow.domain false) (Rows.fnExactParentSpec.post enc Try.prog Try.f10 false true false false) := by
  refine returnsInHanded_of_change (C := Try.checked) own started (by kernel_rfl) Try.func10
    (ChangeSpec.witness6 (enc := enc) (C := Try.checked) false ⟨#[], #[.agg #[.slice none 0 0]], []⟩ 8 (by kernel_rfl) (by kernel_rfl) (by kernel_rfl) (by kernel_rfl)) ?_
  intro W base args ds gs before hval0 hW hcnd _
  have hval : ∀ (j : Nat) t v, Try.f10.params[j]? = some t → args[j]? = some v → Value.okWide Try.prog W .any base t v := hval0
  have hW' := hW
  obtain ⟨p, q, hA0, hV, rfl, hfz, hnd⟩ := hW
  have hA : DataW.TrodAll enc Try.prog W 0 (fun _ => true) true Try.f10.params.toList args.toList ds p := hA0
  rw [Try.params10] at hA hval
  obtain ⟨v0, vs0, d0, ds0, p0, q0, hargs0, rfl, rfl, h0, r0⟩ := trodAll_cons hA
  obtain ⟨rfl, rfl, rfl⟩ := trodAll_nil r0
  obtain rfl : args = #[v0] := by cases args; simp_all
  obtain ⟨rfl, rfl⟩ := trodVars_none hV
  have k0 := h0
  have lt0 : ∀ x ∈ p0, x.block < W.heap.size := by obtain ⟨m, hm⟩ := k0; exact DataW.trod_lt m _ _ _ hm
  obtain ⟨a0, cap0, n0, rfl, hm0, hL0, hb0⟩ := open_name Try.underlying61 rfl rfl (by kernel_rfl) (by kernel_rfl) Try.underlying23 Try.underlying22 Try.underlying5 (by kernel_rfl) (by kernel_rfl) (fun _ => rfl) (hval 0 61 v0 rfl rfl) h0
  clear hA0 hval0
  have walk : Calls Try.prog 10 #[.agg #[.slice a0 n0.length cap0]] W fun e w' => e = .returned (.bool true) ∧ Below W.heap.size W w' := by
    exact lawParent a0 cap0 n0 W hL0 hm0 (fun i hi => (hb0 i hi).1)
  refine walk.mono fun e W' ⟨he, bel⟩ => ?_
  subst he
  exact ⟨_, rfl, _, _, _, [], _, [], hW', trodAll_mk1 (shut_bool Try.underlying4 _), (trodAll_cons_mk (Below.trod laidOut (by kernel_rfl) (of_decide_eq_true (by kernel_rfl)) k0 bel lt0) trodAll_mk0), rfl, bel.frame _, fun h => by cases h⟩

theorem k_named : Try.pinned.checked.prog.funcNamed Rows.fnExactParentRow.func = some 10 := by kernel_rfl
theorem k_inPlace : (Rows.fnExactParentRow.inPlace == Try.prog.inPlace 10) = true := by kernel_rfl
theorem k_unfollowed : (Rows.fnExactParentRow.unfollowed == Try.prog.unfollowed 10) = true := by kernel_rfl
theorem k_recurses : (Rows.fnExactParentRow.recurses == Try.prog.recurses 10) = true := by kernel_rfl
theorem k_vars : (Rows.fnExactParentRow.named == Try.prog.varsNamed 10) = true := by kernel_rfl
theorem k_wf : Rows.fnExactParentRow.wf (OpenSpec.ofChange Rows.fnExactParentSpec) = true := by kernel_rfl
theorem k_instance : Try.f10.isInstance Try.pinned.checked.prog Rows.fnExactParentRow.origin Rows.fnExactParentRow.targs := of_decide_eq_true (by kernel_rfl)
theorem k_wrapper : Try.f10.isWrapper Try.pinned.checked.prog Rows.fnExactParentRow.wrapper Rows.fnExactParentRow.mainSum := by
  unfold Func.isWrapper
  rw [if_neg (by decide +kernel)]
  exact ⟨rfl, rfl⟩
theorem k_closed : joinedFacts Try.prog 10 Try.f10 Rows.fnExactParentSpec Rows.fnExactParentRow = true :=
  closed_of k_wf (by kernel_rfl) (by kernel_rfl) (by kernel_rfl) (by kernel_rfl) k_inPlace k_unfollowed k_recurses k_vars (by kernel_rfl) (by kernel_rfl) (by kernel_rfl) (by kernel_rfl) (by kernel_rfl) (by kernel_rfl) (by kernel_rfl) (by kernel_rfl) (by kernel_rfl) rfl rfl rfl rfl (by kernel_rfl) (by kernel_rfl) (by kernel_rfl) (by kernel_rfl)

theorem over : Rows.fnExactParentRow.holds Try.pinned (OpenSpec.ofChange Rows.fnExactParentSpec) :=
  OpenClaim.holds_of_wide 10 Try.f10 rfl rfl rfl rfl rfl rfl rfl ⟨rfl, rfl, rfl, rfl, rfl⟩ rfl rfl rfl rfl rfl k_named Try.func10 k_closed k_instance k_wrapper
    (fun os started H enc _ => lifted os started H enc)

theorem proved : Rows.FnExactParentSaid := over
end Go.Proofs.Ytdbojhbdfcknfaa.fnExactParent
