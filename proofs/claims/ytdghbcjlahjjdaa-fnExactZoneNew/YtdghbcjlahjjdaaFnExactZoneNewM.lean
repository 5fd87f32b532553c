/-
  For every Name and every int, laws.FnExactZoneNew returns true and writes into nothing that was there: the program's ZoneNew answers as the specification's, at every argument, writes into no argument, and its answer owns its memory. No condition.
-/
import Derived.Test.YtdghbcjlahjjdaaRows
import Derived.WalkKit
import Derived.ProofKit
import Derived.OpenShut
import Derived.ShutString
import Derived.ChangeOld
import Derived.Below
import Derived.Test.YtdghbcjlahjjdaaZoneNewG00
import Derived.Test.YtdghbcjlahjjdaaZoneNewG01
import Derived.Test.YtdghbcjlahjjdaaZoneNewG32
namespace Go.Proofs.Ytdghbcjlahjjdaa.fnExactZoneNew
open Go.ChangeShapes Go.WideShapes Go.ChangeAt Go.RowKit
set_option linter.unusedVariables false

theorem own : ownKnob Try.prog.godebug = none := by kernel_rfl
theorem laidOut : laidOutB Try.prog = true := by kernel_rfl

set_option maxRecDepth 100000 in
theorem lifted (os : Os) (started : os.Started) (H : Type) (enc : TypeId × Value → H) :
    ReturnsInHanded {} Try.checked os 4 .any (Rows.fnExactZoneNewSpec.pre6 enc Try.prog Try.f4 Rows.fnExactZoneNewRow.domain false) (Rows.fnExactZoneNewSpec.post enc Try.prog Try.f4 false true false false) := by
  refine returnsInHanded_of_change (C := Try.checked) own started (by kernel_rfl) Try.func4
    (ChangeSpec.witness6 (enc := enc) (C := Try.checked) false ⟨#[], #[.agg #[.slice none 0 0], .int .i64 0], []⟩ 8 (by kernel_rfl) (by kernel_rfl) (by kernel_rfl) (by kernel_rfl)) ?_
  intro W base args ds gs before hval0 hW hcnd _
  have hval : ∀ (j : Nat) t v, Try.f4.params[j]? = some t → args[j]? = some v → Value.okWide Try.prog W .any base t v := hval0
  have hW' := hW
  obtain ⟨p, q, hA0, hV, rfl, hfz, hnd⟩ := hW
  have hA : DataW.TrodAll enc Try.prog W 0 (fun _ => true) true Try.f4.params.toList args.toList ds p := hA0
  rw [Try.params4] at hA hval
  obtain ⟨v0, vs0, d0, ds0, p0, q0, hargs0, rfl, rfl, h0, r0⟩ := trodAll_cons hA
  obtain ⟨v1, vs1, d1, ds1, p1, q1, hargs1, rfl, rfl, h1, r1⟩ := trodAll_cons r0
  obtain ⟨rfl, rfl, rfl⟩ := trodAll_nil r1
  obtain rfl : args = #[v0, v1] := by cases args; simp_all
  obtain ⟨rfl, rfl⟩ := trodVars_none hV
  have k0 := h0
  have lt0 : ∀ x ∈ p0, x.block < W.heap.size := by obtain ⟨m, hm⟩ := k0; exact DataW.trod_lt m _ _ _ hm
  obtain ⟨a0, cap0, n0, rfl, hm0, hL0, hb0⟩ := open_name Try.underlying36 rfl rfl (by kernel_rfl) (by kernel_rfl) Try.underlying23 Try.underlying22 Try.underlying5 (by kernel_rfl) (by kernel_rfl) (fun _ => rfl) (hval 0 36 v0 rfl rfl) h0
  obtain ⟨x1, rfl, rfl, rfl, w1⟩ := open_int Try.underlying3 (hval 1 3 v1 rfl rfl) h1
  clear hA0 hval0
  have walk : Calls Try.prog 4 #[.agg #[.slice a0 n0.length cap0], .int .i64 x1] W fun e w' => e = .returned (.bool true) ∧ Below W.heap.size W w' := by
    exact lawZoneNew a0 cap0 n0 x1 W hL0 hm0 (fun i hi => (hb0 i hi).1) w1
  refine walk.mono fun e W' ⟨he, bel⟩ => ?_
  subst he
  exact ⟨_, rfl, _, _, _, [], _, [], hW', trodAll_mk1 (shut_bool Try.underlying4 _), (trodAll_cons_mk (Below.trod laidOut (by kernel_rfl) (of_decide_eq_true (by kernel_rfl)) k0 bel lt0) (trodAll_cons_mk (shut_int Try.underlying3 w1) trodAll_mk0)), rfl, bel.frame _, fun h => by cases h⟩

theorem k_named : Try.pinned.checked.prog.funcNamed Rows.fnExactZoneNewRow.func = some 4 := by kernel_rfl
theorem k_inPlace : (Rows.fnExactZoneNewRow.inPlace == Try.prog.inPlace 4) = true := by kernel_rfl
theorem k_unfollowed : (Rows.fnExactZoneNewRow.unfollowed == Try.prog.unfollowed 4) = true := by kernel_rfl
theorem k_recurses : (Rows.fnExactZoneNewRow.recurses == Try.prog.recurses 4) = true := by kernel_rfl
theorem k_vars : (Rows.fnExactZoneNewRow.named == Try.prog.varsNamed 4) = true := by kernel_rfl
theorem k_wf : Rows.fnExactZoneNewRow.wf (OpenSpec.ofChange Rows.fnExactZoneNewSpec) = true := by kernel_rfl
theorem k_instance : Try.f4.isInstance Try.pinned.checked.prog Rows.fnExactZoneNewRow.origin Rows.fnExactZoneNewRow.targs := of_decide_eq_true (by kernel_rfl)
theorem k_wrapper : Try.f4.isWrapper Try.pinned.checked.prog Rows.fnExactZoneNewRow.wrapper Rows.fnExactZoneNewRow.mainSum := by
  unfold Func.isWrapper
  rw [if_neg (by decide +kernel)]
  exact ⟨rfl, rfl⟩
theorem k_closed : joinedFacts Try.prog 4 Try.f4 Rows.fnExactZoneNewSpec Rows.fnExactZoneNewRow = true :=
  closed_of k_wf (by kernel_rfl) (by kernel_rfl) (by kernel_rfl) (by kernel_rfl) k_inPlace k_unfollowed k_recurses k_vars (by kernel_rfl) (by kernel_rfl) (by kernel_rfl) (by kernel_rfl) (by kernel_rfl) (by kernel_rfl) (by kernel_rfl) (by kernel_rfl) (by kernel_rfl) rfl rfl rfl rfl (by kernel_rfl) (by kernel_rfl) (by kernel_rfl) (by kernel_rfl)

theorem over : Rows.fnExactZoneNewRow.holds Try.pinned (OpenSpec.ofChange Rows.fnExactZoneNewSpec) :=
  OpenClaim.holds_of_wide 4 Try.f4 rfl rfl rfl rfl rfl rfl rfl ⟨rfl, rfl, rfl, rfl, rfl⟩ rfl rfl rfl rfl rfl k_named Try.func4 k_closed k_instance k_wrapper
    (fun os started H enc _ => lifted os started H enc)

theorem proved : Rows.FnExactZoneNewSaid := over
end Go.Proofs.Ytdghbcjlahjjdaa.fnExactZoneNew
