/-
  For every Zone, laws.FnExactBump returns true and writes into nothing that was there: the program's Bump answers as the specification's, at every argument, writes into no argument, and its answer owns its memory. No condition.
-/
import Derived.Test.YtdghbcjlahjjdaaGreatRows
import Derived.WalkKit
import Derived.ProofKit
import Derived.OpenShut
import Derived.ShutString
import Derived.ChangeOld
import Derived.Below
import Derived.Test.YtdghbcjlahjjdaaGreatBumpG00
import Derived.Test.YtdghbcjlahjjdaaGreatBumpG01
import Derived.Test.YtdghbcjlahjjdaaGreatBumpG03
import Derived.Test.YtdghbcjlahjjdaaGreatBumpG34
namespace Go.Proofs.YtdghbcjlahjjdaaGreat.fnExactBump
open Go.ChangeShapes Go.WideShapes Go.ChangeAt Go.RowKit
set_option linter.unusedVariables false

theorem own : ownKnob Tryz.prog.godebug = none := by kernel_rfl
theorem laidOut : laidOutB Tryz.prog = true := by kernel_rfl

set_option maxRecDepth 100000 in
theorem lifted (os : Os) (started : os.Started) (H : Type) (enc : TypeId × Value → H) :
    ReturnsInHanded {} Tryz.checked os 7 .any (Rows.fnExactBumpSpec.pre6 enc Tryz.prog Tryz.f7 Rows.fnExactBumpRow.domain false) (Rows.fnExactBumpSpec.post enc Tryz.prog Tryz.f7 false true false false) := by
  refine returnsInHanded_of_change (C := Tryz.checked) own started (by kernel_rfl) Tryz.func7
    (ChangeSpec.witness6 (enc := enc) (C := Tryz.checked) false ⟨#[], #[.agg #[.slice none 0 0, .slice none 0 0]], []⟩ 8 (by kernel_rfl) (by kernel_rfl) (by kernel_rfl) (by kernel_rfl)) ?_
  intro W base args ds gs before hval0 hW hcnd _
  have hval : ∀ (j : Nat) t v, Tryz.f7.params[j]? = some t → args[j]? = some v → Value.okWide Tryz.prog W .any base t v := hval0
  have hW' := hW
  obtain ⟨p, q, hA0, hV, rfl, hfz, hnd⟩ := hW
  have hA : DataW.TrodAll enc Tryz.prog W 0 (fun _ => true) true Tryz.f7.params.toList args.toList ds p := hA0
  rw [Tryz.params7] at hA hval
  obtain ⟨v0, vs0, d0, ds0, p0, q0, hargs0, rfl, rfl, h0, r0⟩ := trodAll_cons hA
  obtain ⟨rfl, rfl, rfl⟩ := trodAll_nil r0
  obtain rfl : args = #[v0] := by cases args; simp_all
  obtain ⟨rfl, rfl⟩ := trodVars_none hV
  have k0 := h0
  have lt0 : ∀ x ∈ p0, x.block < W.heap.size := by obtain ⟨m, hm⟩ := k0; exact DataW.trod_lt m _ _ _ hm
  obtain ⟨ao0, co0, ar0, cr0, o0, rs0, rfl, hmo0, hLo0, hbo0, hmr0, hLr0, hbr0⟩ := open_zone (fun _ => rfl) (hval 0 49 v0 rfl rfl) h0
  clear hA0 hval0
  have walk : Calls Tryz.prog 7 #[.agg #[.slice ao0 o0.length co0, .slice ar0 rs0.length cr0]] W fun e w' => e = .returned (.bool true) ∧ Below W.heap.size W w' := by
    exact lawBump ao0 co0 ar0 cr0 o0 rs0 W ⟨hLo0, hLr0⟩ ⟨hmo0, hbo0, hmr0, hbr0⟩
  refine walk.mono fun e W' ⟨he, bel⟩ => ?_
  subst he
  exact ⟨_, rfl, _, _, _, [], _, [], hW', trodAll_mk1 (shut_bool Tryz.underlying4 _), (trodAll_cons_mk (Below.trod laidOut (by kernel_rfl) (of_decide_eq_true (by kernel_rfl)) k0 bel lt0) trodAll_mk0), rfl, bel.frame _, fun h => by cases h⟩

theorem k_named : Tryz.pinned.checked.prog.funcNamed Rows.fnExactBumpRow.func = some 7 := by kernel_rfl
theorem k_inPlace : (Rows.fnExactBumpRow.inPlace == Tryz.prog.inPlace 7) = true := by kernel_rfl
theorem k_unfollowed : (Rows.fnExactBumpRow.unfollowed == Tryz.prog.unfollowed 7) = true := by kernel_rfl
theorem k_recurses : (Rows.fnExactBumpRow.recurses == Tryz.prog.recurses 7) = true := by kernel_rfl
theorem k_vars : (Rows.fnExactBumpRow.named == Tryz.prog.varsNamed 7) = true := by kernel_rfl
theorem k_wf : Rows.fnExactBumpRow.wf (OpenSpec.ofChange Rows.fnExactBumpSpec) = true := by kernel_rfl
theorem k_instance : Tryz.f7.isInstance Tryz.pinned.checked.prog Rows.fnExactBumpRow.origin Rows.fnExactBumpRow.targs := of_decide_eq_true (by kernel_rfl)
theorem k_wrapper : Tryz.f7.isWrapper Tryz.pinned.checked.prog Rows.fnExactBumpRow.wrapper Rows.fnExactBumpRow.mainSum := by
  unfold Func.isWrapper
  rw [if_neg (by decide +kernel)]
  exact ⟨rfl, rfl⟩
theorem k_closed : joinedFacts Tryz.prog 7 Tryz.f7 Rows.fnExactBumpSpec Rows.fnExactBumpRow = true :=
  closed_of k_wf (by kernel_rfl) (by kernel_rfl) (by kernel_rfl) (by kernel_rfl) k_inPlace k_unfollowed k_recurses k_vars (by kernel_rfl) (by kernel_rfl) (by kernel_rfl) (by kernel_rfl) (by kernel_rfl) (by kernel_rfl) (by kernel_rfl) (by kernel_rfl) (by kernel_rfl) rfl rfl rfl rfl (by kernel_rfl) (by kernel_rfl) (by kernel_rfl) (by kernel_rfl)

theorem over : Rows.fnExactBumpRow.holds Tryz.pinned (OpenSpec.ofChange Rows.fnExactBumpSpec) :=
  OpenClaim.holds_of_wide 7 Tryz.f7 rfl rfl rfl rfl rfl rfl rfl ⟨rfl, rfl, rfl, rfl, rfl⟩ rfl rfl rfl rfl rfl k_named Tryz.func7 k_closed k_instance k_wrapper
    (fun os started H enc _ => lifted os started H enc)

theorem proved : Rows.FnExactBumpSaid := over
end Go.Proofs.YtdghbcjlahjjdaaGreat.fnExactBump
