/-
 For every int, laws.FnExactHouseNew returns true and writes into nothing that was there: the program's HouseNew answers as the specification's, at every argument, and its answer owns its memory. No condition.
-/
import Derived.Test.YtfgcmjpkgdjcfaaGreatRows
import Derived.WalkKit
import Derived.ProofKit
import Derived.OpenShut
import Derived.ShutString
import Derived.ChangeOld
import Derived.Below
import Derived.Test.YtfgcmjpkgdjcfaaGreatHouseNewG00
import Derived.Test.YtfgcmjpkgdjcfaaGreatHouseNewG01
import Derived.Test.YtfgcmjpkgdjcfaaGreatHouseNewG40
namespace Go.Proofs.YtfgcmjpkgdjcfaaGreat.fnExactHouseNew
open Go.ChangeShapes Go.WideShapes Go.ChangeAt Go.RowKit
set_option linter.unusedVariables false

theorem own : ownKnob Tryz.prog.godebug = none := by kernel_rfl
theorem laidOut : laidOutB Tryz.prog = true := by kernel_rfl

set_option maxRecDepth 100000 in
theorem lifted (os : Os) (started : os.Started) (H : Type) (enc : TypeId × Value → H) :
  ReturnsInHanded {} Tryz.checked os 4 .any (Rows.fnExactHouseNewSpec.pre6 enc Tryz.prog Tryz.f4 Rows.fnExactHouseNewRow.domain false) (Rows.fnExactHouseNewSpec.post enc Tryz.prog Tryz.f4 false true false false) := by
 refine returnsInHanded_of_change (C := Tryz.checked) own started (by kernel_rfl) Tryz.func4
  (ChangeSpec.witness6 (enc := enc) (C := Tryz.checked) false ⟨#[], #[.int .i64 0], []⟩ 8 (by kernel_rfl) (by kernel_rfl) (by kernel_rfl) (by kernel_rfl)) ?_
 intro W base args ds gs before hval0 hW hcnd _
 have hval : ∀ (j : Nat) t v, Tryz.f4.params[j]? = some t → args[j]? = some v → Value.okWide Tryz.prog W .any base t v := hval0
 have hW' := hW
 obtain ⟨p, q, hA0, hV, rfl, hfz, hnd⟩ := hW
 have hA : DataW.TrodAll enc Tryz.prog W 0 (fun _ => true) true Tryz.f4.params.toList args.toList ds p := hA0
 rw [Tryz.params4] at hA hval
 obtain ⟨v0, vs0, d0, ds0, p0, q0, hargs0, rfl, rfl, h0, r0⟩ := trodAll_cons hA
 obtain ⟨rfl, rfl, rfl⟩ := trodAll_nil r0
 obtain rfl : args = #[v0] := by cases args; simp_all
 obtain ⟨rfl, rfl⟩ := trodVars_none hV
 obtain ⟨x0, rfl, rfl, rfl, w0⟩ := open_int Tryz.underlying3 (hval 0 3 v0 rfl rfl) h0
 clear hA0 hval0
 have walk : Calls Tryz.prog 4 #[.int .i64 x0] W fun e w' => e = .returned (.bool true) ∧ Below W.heap.size W w' := by
  exact lawHouseNew x0 W
 refine walk.mono fun e W' ⟨he, bel⟩ => ?_
 subst he
 exact ⟨_, rfl, _, _, _, [], _, [], hW', trodAll_mk1 (shut_bool Tryz.underlying4 _), (trodAll_cons_mk (shut_int Tryz.underlying3 w0) trodAll_mk0), rfl, bel.frame _, fun h => by cases h⟩

theorem k_named : Tryz.pinned.checked.prog.funcNamed Rows.fnExactHouseNewRow.func = some 4 := by kernel_rfl
theorem k_inPlace : (Rows.fnExactHouseNewRow.inPlace == Tryz.prog.inPlace 4) = true := by kernel_rfl
theorem k_unfollowed : (Rows.fnExactHouseNewRow.unfollowed == Tryz.prog.unfollowed 4) = true := by kernel_rfl
theorem k_recurses : (Rows.fnExactHouseNewRow.recurses == Tryz.prog.recurses 4) = true := by kernel_rfl
theorem k_vars : (Rows.fnExactHouseNewRow.named == Tryz.prog.varsNamed 4) = true := by kernel_rfl
theorem k_wf : Rows.fnExactHouseNewRow.wf (OpenSpec.ofChange Rows.fnExactHouseNewSpec) = true := by kernel_rfl
theorem k_instance : Tryz.f4.isInstance Tryz.pinned.checked.prog Rows.fnExactHouseNewRow.origin Rows.fnExactHouseNewRow.targs := of_decide_eq_true (by kernel_rfl)
theorem k_wrapper : Tryz.f4.isWrapper Tryz.pinned.checked.prog Rows.fnExactHouseNewRow.wrapper Rows.fnExactHouseNewRow.mainSum := by
 unfold Func.isWrapper
 rw [if_neg (by decide +kernel)]
 exact ⟨rfl, rfl⟩
theorem k_closed : joinedFacts Tryz.prog 4 Tryz.f4 Rows.fnExactHouseNewSpec Rows.fnExactHouseNewRow = true :=
 closed_of k_wf (by kernel_rfl) (by kernel_rfl) (by kernel_rfl) (by kernel_rfl) k_inPlace k_unfollowed k_recurses k_vars (by kernel_rfl) (by kernel_rfl) (by kernel_rfl) (by kernel_rfl) (by kernel_rfl) (by kernel_rfl) (by kernel_rfl) (by kernel_rfl) (by kernel_rfl) rfl rfl rfl rfl (by kernel_rfl) (by kernel_rfl) (by kernel_rfl) (by kernel_rfl)

theorem over : Rows.fnExactHouseNewRow.holds Tryz.pinned (OpenSpec.ofChange Rows.fnExactHouseNewSpec) :=
 OpenClaim.holds_of_wide 4 Tryz.f4 rfl rfl rfl rfl rfl rfl rfl ⟨rfl, rfl, rfl, rfl, rfl⟩ rfl rfl rfl rfl rfl k_named Tryz.func4 k_closed k_instance k_wrapper
  (fun os started H enc _ => lifted os started H enc)

theorem proved : Rows.FnExactHouseNewSaid := over
end Go.Proofs.YtfgcmjpkgdjcfaaGreat.fnExactHouseNew
