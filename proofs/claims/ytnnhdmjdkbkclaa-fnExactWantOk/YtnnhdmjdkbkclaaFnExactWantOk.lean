/-
  At every argument WantOk answers as the specification; it writes into no argument. No condition.
-/
import Derived.Test.YtnnhdmjdkbkclaaRows
import Derived.WalkKit
import Derived.ProofKit
import Derived.OpenShut
import Derived.ShutString
import Derived.ChangeOld
import Derived.Below
import Derived.Test.YtnnhdmjdkbkclaaOpenName
import Derived.Test.YtnnhdmjdkbkclaaClosed
import Derived.Test.YtnnhdmjdkbkclaaOpenWant
import Derived.Test.YtnnhdmjdkbkclaaLawWantOk
namespace Go.Proofs.Ytnnhdmjdkbkclaa.fnExactWantOk
open Go.ChangeShapes Go.WideShapes Go.ChangeAt Go.RowKit
set_option linter.unusedVariables false

theorem own : ownKnob Try.prog.godebug = none := by kernel_rfl
theorem laidOut : laidOutB Try.prog = true := by kernel_rfl

set_option maxRecDepth 100000 in
theorem lifted (os : Os) (started : os.Started) (H : Type) (enc : TypeId × Value → H) :
    ReturnsInHanded {} Try.checked os 3 .any (Rows.fnExactWantOkSpec.pre6 enc Try.prog Try.f3 Rows.fnExactWantOkRow.domain false) (Rows.fnExactWantOkSpec.post enc Try.prog Try.f3 false true false false) := by
  refine returnsInHanded_of_change (C := Try.checked) own started (by kernel_rfl) Try.func3
    (ChangeSpec.witness6 (enc := enc) (C := Try.checked) false ⟨#[], #[.agg #[.slice none 0 0, .int .i64 0, .int .i64 0, .int .i64 0, .slice none 0 0, .slice none 0 0, .slice none 0 0, .int .i64 0, .bool false]], []⟩ 8 (by kernel_rfl) (by kernel_rfl) (by kernel_rfl) (by kernel_rfl)) ?_
  intro W base args ds gs before hval0 hW hcnd _
  have hval : ∀ (j : Nat) t v, Try.f3.params[j]? = some t → args[j]? = some v → Value.okWide Try.prog W .any base t v := hval0
  have hW' := hW
  obtain ⟨p, q, hA0, hV, rfl, hfz, hnd⟩ := hW
  have hA : DataW.TrodAll enc Try.prog W 0 (fun _ => true) true Try.f3.params.toList args.toList ds p := hA0
  rw [Try.params3] at hA hval
  obtain ⟨v0, vs0, d0, ds0, p0, q0, hargs0, rfl, rfl, h0, r0⟩ := trodAll_cons hA
  obtain ⟨rfl, rfl, rfl⟩ := trodAll_nil r0
  obtain rfl : args = #[v0] := by cases args; simp_all
  obtain ⟨rfl, rfl⟩ := trodVars_none hV
  have k0 := h0
  have lt0 : ∀ x ∈ p0, x.block < W.heap.size := by obtain ⟨m, hm⟩ := k0; exact DataW.trod_lt m _ _ _ hm
  obtain ⟨an0, cn0, at0, ct0, ax0, cx0, ai0, ci0, q0, cl0, br0, rfl, hL0, hm0⟩ := open_want (fun _ => rfl) (hval 0 30 v0 rfl rfl) h0
  clear hA0 hval0
  have walk : Calls Try.prog 3 #[.agg #[.slice an0 q0.name.length cn0, .int .i64 q0.type, .int .i64 q0.ttl, .int .i64 q0.addr, .slice at0 q0.to.length ct0, .slice ax0 q0.text.length cx0, .slice ai0 q0.nums.length ci0, .int .i64 cl0, .bool br0]] W fun e w' => e = .returned (.bool true) ∧ Below W.heap.size W w' := by
    exact lawWantOk an0 cn0 at0 ct0 ax0 cx0 ai0 ci0 q0 cl0 br0 W hL0 hm0
  refine walk.mono fun e W' ⟨he, bel⟩ => ?_
  subst he
  exact ⟨_, rfl, _, _, _, [], _, [], hW', trodAll_mk1 (shut_bool Try.underlying4 _), (trodAll_cons_mk (Below.trod laidOut (by kernel_rfl) (of_decide_eq_true (by kernel_rfl)) k0 bel lt0) trodAll_mk0), rfl, bel.frame _, fun h => by cases h⟩

theorem k_named : Try.pinned.checked.prog.funcNamed Rows.fnExactWantOkRow.func = some 3 := by kernel_rfl
theorem k_inPlace : (Rows.fnExactWantOkRow.inPlace == Try.prog.inPlace 3) = true := by kernel_rfl
theorem k_unfollowed : (Rows.fnExactWantOkRow.unfollowed == Try.prog.unfollowed 3) = true := by kernel_rfl
theorem k_recurses : (Rows.fnExactWantOkRow.recurses == Try.prog.recurses 3) = true := by kernel_rfl
theorem k_vars : (Rows.fnExactWantOkRow.named == Try.prog.varsNamed 3) = true := by kernel_rfl
theorem k_wf : Rows.fnExactWantOkRow.wf (OpenSpec.ofChange Rows.fnExactWantOkSpec) = true := by kernel_rfl
theorem k_instance : Try.f3.isInstance Try.pinned.checked.prog Rows.fnExactWantOkRow.origin Rows.fnExactWantOkRow.targs := of_decide_eq_true (by kernel_rfl)
theorem k_wrapper : Try.f3.isWrapper Try.pinned.checked.prog Rows.fnExactWantOkRow.wrapper Rows.fnExactWantOkRow.mainSum := by
  unfold Func.isWrapper
  rw [if_neg (by decide +kernel)]
  exact ⟨rfl, rfl⟩
theorem k_closed : joinedFacts Try.prog 3 Try.f3 Rows.fnExactWantOkSpec Rows.fnExactWantOkRow = true :=
  closed_of k_wf (by kernel_rfl) (by kernel_rfl) (by kernel_rfl) (by kernel_rfl) k_inPlace k_unfollowed k_recurses k_vars (by kernel_rfl) (by kernel_rfl) (by kernel_rfl) (by kernel_rfl) (by kernel_rfl) (by kernel_rfl) (by kernel_rfl) (by kernel_rfl) (by kernel_rfl) rfl rfl rfl rfl (by kernel_rfl) (by kernel_rfl) (by kernel_rfl) (by kernel_rfl)

theorem over : Rows.fnExactWantOkRow.holds Try.pinned (OpenSpec.ofChange Rows.fnExactWantOkSpec) :=
  OpenClaim.holds_of_wide 3 Try.f3 rfl rfl rfl rfl rfl rfl rfl ⟨rfl, rfl, rfl, rfl, rfl⟩ rfl rfl rfl rfl rfl k_named Try.func3 k_closed k_instance k_wrapper
    (fun os started H enc _ => lifted os started H enc)

theorem proved : Rows.FnExactWantOkSaid := over
end Go.Proofs.Ytnnhdmjdkbkclaa.fnExactWantOk
