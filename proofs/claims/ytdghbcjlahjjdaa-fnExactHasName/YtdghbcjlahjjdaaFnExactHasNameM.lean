/-
  For every Zone and every Name, laws.FnExactHasName returns true and writes into nothing that was there: the program's HasName answers as the specification's, at every argument, and writes into no argument. No condition.
-/
import Derived.Test.YtdghbcjlahjjdaaRows
import Derived.WalkKit
import Derived.ProofKit
import Derived.OpenShut
import Derived.ShutString
import Derived.ChangeOld
import Derived.Below
import Derived.Test.YtdghbcjlahjjdaaHasNameG01
import Derived.Test.YtdghbcjlahjjdaaHasNameG05
import Derived.Test.YtdghbcjlahjjdaaHasNameG44
namespace Go.Proofs.Ytdghbcjlahjjdaa.fnExactHasName
open Go.ChangeShapes Go.WideShapes Go.ChangeAt Go.RowKit
set_option linter.unusedVariables false

theorem own : ownKnob Try.prog.godebug = none := by kernel_rfl
theorem laidOut : laidOutB Try.prog = true := by kernel_rfl

set_option maxRecDepth 100000 in
theorem lifted (os : Os) (started : os.Started) (H : Type) (enc : TypeId × Value → H) :
    ReturnsInHanded {} Try.checked os 5 .any (Rows.fnExactHasNameSpec.pre6 enc Try.prog Try.f5 Rows.fnExactHasNameRow.domain false) (Rows.fnExactHasNameSpec.post enc Try.prog Try.f5 false true false false) := by
  refine returnsInHanded_of_change (C := Try.checked) own started (by kernel_rfl) Try.func5
    (ChangeSpec.witness6 (enc := enc) (C := Try.checked) false ⟨#[], #[.agg #[.slice none 0 0, .slice none 0 0], .agg #[.slice none 0 0]], []⟩ 8 (by kernel_rfl) (by kernel_rfl) (by kernel_rfl) (by kernel_rfl)) ?_
  intro W base args ds gs before hval0 hW hcnd _
  have hval : ∀ (j : Nat) t v, Try.f5.params[j]? = some t → args[j]? = some v → Value.okWide Try.prog W .any base t v := hval0
  have hW' := hW
  obtain ⟨p, q, hA0, hV, rfl, hfz, hnd⟩ := hW
  have hA : DataW.TrodAll enc Try.prog W 0 (fun _ => true) true Try.f5.params.toList args.toList ds p := hA0
  rw [Try.params5] at hA hval
  obtain ⟨v0, vs0, d0, ds0, p0, q0, hargs0, rfl, rfl, h0, r0⟩ := trodAll_cons hA
  obtain ⟨v1, vs1, d1, ds1, p1, q1, hargs1, rfl, rfl, h1, r1⟩ := trodAll_cons r0
  obtain ⟨rfl, rfl, rfl⟩ := trodAll_nil r1
  obtain rfl : args = #[v0, v1] := by cases args; simp_all
  obtain ⟨rfl, rfl⟩ := trodVars_none hV
  have k0 := h0
  have lt0 : ∀ x ∈ p0, x.block < W.heap.size := by obtain ⟨m, hm⟩ := k0; exact DataW.trod_lt m _ _ _ hm
  obtain ⟨ao0, co0, ar0, cr0, o0, rs0, rfl, hmo0, hLo0, hbo0, hmr0, hLr0, hbr0⟩ := open_zone (fun _ => rfl) (hval 0 51 v0 rfl rfl) h0
  have k1 := h1
  have lt1 : ∀ x ∈ p1, x.block < W.heap.size := by obtain ⟨m, hm⟩ := k1; exact DataW.trod_lt m _ _ _ hm
  obtain ⟨a1, cap1, n1, rfl, hm1, hL1, hb1⟩ := open_name Try.underlying36 rfl rfl (by kernel_rfl) (by kernel_rfl) Try.underlying23 Try.underlying22 Try.underlying5 (by kernel_rfl) (by kernel_rfl) (fun _ => rfl) (hval 1 36 v1 rfl rfl) h1
  clear hA0 hval0
  have walk : Calls Try.prog 5 #[.agg #[.slice ao0 o0.length co0, .slice ar0 rs0.length cr0], .agg #[.slice a1 n1.length cap1]] W fun e w' => e = .returned (.bool true) ∧ Below W.heap.size W w' := by
    exact lawHasName ao0 co0 ar0 cr0 o0 rs0 a1 cap1 n1 W ⟨hLo0, hLr0⟩ ⟨hmo0, hbo0, hmr0, hbr0⟩ hL1 hm1 (fun i hi => (hb1 i hi).1)
  refine walk.mono fun e W' ⟨he, bel⟩ => ?_
  subst he
  exact ⟨_, rfl, _, _, _, [], _, [], hW', trodAll_mk1 (shut_bool Try.underlying4 _), (trodAll_cons_mk (Below.trod laidOut (by kernel_rfl) (of_decide_eq_true (by kernel_rfl)) k0 bel lt0) (trodAll_cons_mk (Below.trod laidOut (by kernel_rfl) (of_decide_eq_true (by kernel_rfl)) k1 bel lt1) trodAll_mk0)), rfl, bel.frame _, fun h => by cases h⟩

theorem k_named : Try.pinned.checked.prog.funcNamed Rows.fnExactHasNameRow.func = some 5 := by kernel_rfl
theorem k_inPlace : (Rows.fnExactHasNameRow.inPlace == Try.prog.inPlace 5) = true := by kernel_rfl
theorem k_unfollowed : (Rows.fnExactHasNameRow.unfollowed == Try.prog.unfollowed 5) = true := by kernel_rfl
theorem k_recurses : (Rows.fnExactHasNameRow.recurses == Try.prog.recurses 5) = true := by kernel_rfl
theorem k_vars : (Rows.fnExactHasNameRow.named == Try.prog.varsNamed 5) = true := by kernel_rfl
theorem k_wf : Rows.fnExactHasNameRow.wf (OpenSpec.ofChange Rows.fnExactHasNameSpec) = true := by kernel_rfl
theorem k_instance : Try.f5.isInstance Try.pinned.checked.prog Rows.fnExactHasNameRow.origin Rows.fnExactHasNameRow.targs := of_decide_eq_true (by kernel_rfl)
theorem k_wrapper : Try.f5.isWrapper Try.pinned.checked.prog Rows.fnExactHasNameRow.wrapper Rows.fnExactHasNameRow.mainSum := by
  unfold Func.isWrapper
  rw [if_neg (by decide +kernel)]
  exact ⟨rfl, rfl⟩
theorem k_closed : joinedFacts Try.prog 5 Try.f5 Rows.fnExactHasNameSpec Rows.fnExactHasNameRow = true :=
  closed_of k_wf (by kernel_rfl) (by kernel_rfl) (by kernel_rfl) (by kernel_rfl) k_inPlace k_unfollowed k_recurses k_vars (by kernel_rfl) (by kernel_rfl) (by kernel_rfl) (by kernel_rfl) (by kernel_rfl) (by kernel_rfl) (by kernel_rfl) (by kernel_rfl) (by kernel_rfl) rfl rfl rfl rfl (by kernel_rfl) (by kernel_rfl) (by kernel_rfl) (by kernel_rfl)

theorem over : Rows.fnExactHasNameRow.holds Try.pinned (OpenSpec.ofChange Rows.fnExactHasNameSpec) :=
  OpenClaim.holds_of_wide 5 Try.f5 rfl rfl rfl rfl rfl rfl rfl ⟨rfl, rfl, rfl, rfl, rfl⟩ rfl rfl rfl rfl rfl k_named Try.func5 k_closed k_instance k_wrapper
    (fun os started H enc _ => lifted os started H enc)

theorem proved : Rows.FnExactHasNameSaid := over
end Go.Proofs.Ytdghbcjlahjjdaa.fnExactHasName
