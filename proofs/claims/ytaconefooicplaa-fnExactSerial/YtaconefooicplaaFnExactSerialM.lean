/-
  For every zone, laws.FnExactSerial returns true and writes into nothing that was there: the program's Serial answers as the specification's, at every argument (no condition).
-/
import Derived.Test.YtaconefooicplaaRows
import Derived.WalkKit
import Derived.ProofKit
import Derived.OpenShut
import Derived.ShutString
import Derived.ChangeOld
import Derived.Below
import Derived.Test.YtaconefooicplaaSerialG01
import Derived.Test.YtaconefooicplaaSerialG05
import Derived.Test.YtaconefooicplaaSerialG35
namespace Go.Proofs.Ytaconefooicplaa.fnExactSerial
open Go.ChangeShapes Go.WideShapes Go.ChangeAt Go.RowKit
set_option linter.unusedVariables false

theorem own : ownKnob Try.prog.godebug = none := by kernel_rfl
theorem laidOut : laidOutB Try.prog = true := by kernel_rfl

set_option maxRecDepth 100000 in
theorem lifted (os : Os) (started : os.Started) (H : Type) (enc : TypeId × Value → H) :
    ReturnsInHanded {} Try.checked os 8 .any (Rows.fnExactSerialSpec.pre6 enc Try.prog Try.f8 Rows.fnExactSerialRow.domain false) (Rows.fnExactSerialSpec.post enc Try.prog Try.f8 false true false false) := by
  refine returnsInHanded_of_change (C := Try.checked) own started (by kernel_rfl) Try.func8
    (ChangeSpec.witness6 (enc := enc) (C := Try.checked) false ⟨#[], #[.agg #[.slice none 0 0, .slice none 0 0]], []⟩ 8 (by kernel_rfl) (by kernel_rfl) (by kernel_rfl) (by kernel_rfl)) ?_
  intro W base args ds gs before hval0 hW hcnd _
  have hval : ∀ (j : Nat) t v, Try.f8.params[j]? = some t → args[j]? = some v → Value.okWide Try.prog W .any base t v := hval0
  have hW' := hW
  obtain ⟨p, q, hA0, hV, rfl, hfz, hnd⟩ := hW
  have hA : DataW.TrodAll enc Try.prog W 0 (fun _ => true) true Try.f8.params.toList args.toList ds p := hA0
  rw [Try.params8] at hA hval
  obtain ⟨v0, vs0, d0, ds0, p0, q0, hargs0, rfl, rfl, h0, r0⟩ := trodAll_cons hA
  obtain ⟨rfl, rfl, rfl⟩ := trodAll_nil r0
  obtain rfl : args = #[v0] := by cases args; simp_all
  obtain ⟨rfl, rfl⟩ := trodVars_none hV
  have k0 := h0
  have lt0 : ∀ x ∈ p0, x.block < W.heap.size := by obtain ⟨m, hm⟩ := k0; exact DataW.trod_lt m _ _ _ hm
  obtain ⟨ao0, co0, ar0, cr0, o0, rs0, rfl, hmo0, hLo0, hbo0, hmr0, hLr0, hbr0⟩ := open_zone (fun _ => rfl) (hval 0 59 v0 rfl rfl) h0
  clear hA0 hval0
  have walk : Calls Try.prog 8 #[.agg #[.slice ao0 o0.length co0, .slice ar0 rs0.length cr0]] W fun e w' => e = .returned (.bool true) ∧ Below W.heap.size W w' := by
    exact lawSerial ao0 co0 ar0 cr0 o0 rs0 W ⟨hLo0, hLr0⟩ ⟨hmo0, hbo0, hmr0, hbr0⟩
  refine walk.mono fun e W' ⟨he, bel⟩ => ?_
  subst he
  exact ⟨_, rfl, _, _, _, [], _, [], hW', trodAll_mk1 (shut_bool Try.underlying4 _), (trodAll_cons_mk (Below.trod laidOut (by kernel_rfl) (of_decide_eq_true (by kernel_rfl)) k0 bel lt0) trodAll_mk0), rfl, bel.frame _, fun h => by cases h⟩

theorem k_named : Try.pinned.checked.prog.funcNamed Rows.fnExactSerialRow.func = some 8 := by kernel_rfl
theorem k_inPlace : (Rows.fnExactSerialRow.inPlace == Try.prog.inPlace 8) = true := by kernel_rfl
theorem k_unfollowed : (Rows.fnExactSerialRow.unfollowed == Try.prog.unfollowed 8) = true := by kernel_rfl
theorem k_recurses : (Rows.fnExactSerialRow.recurses == Try.prog.recurses 8) = true := by kernel_rfl
theorem k_vars : (Rows.fnExactSerialRow.named == Try.prog.varsNamed 8) = true := by kernel_rfl
theorem k_wf : Rows.fnExactSerialRow.wf (OpenSpec.ofChange Rows.fnExactSerialSpec) = true := by kernel_rfl
theorem k_instance : Try.f8.isInstance Try.pinned.checked.prog Rows.fnExactSerialRow.origin Rows.fnExactSerialRow.targs := of_decide_eq_true (by kernel_rfl)
theorem k_wrapper : Try.f8.isWrapper Try.pinned.checked.prog Rows.fnExactSerialRow.wrapper Rows.fnExactSerialRow.mainSum := by
  unfold Func.isWrapper
  rw [if_neg (by decide +kernel)]
  exact ⟨rfl, rfl⟩
theorem k_closed : joinedFacts Try.prog 8 Try.f8 Rows.fnExactSerialSpec Rows.fnExactSerialRow = true :=
  closed_of k_wf (by kernel_rfl) (by kernel_rfl) (by kernel_rfl) (by kernel_rfl) k_inPlace k_unfollowed k_recurses k_vars (by kernel_rfl) (by kernel_rfl) (by kernel_rfl) (by kernel_rfl) (by kernel_rfl) (by kernel_rfl) (by kernel_rfl) (by kernel_rfl) (by kernel_rfl) rfl rfl rfl rfl (by kernel_rfl) (by kernel_rfl) (by kernel_rfl) (by kernel_rfl)

theorem over : Rows.fnExactSerialRow.holds Try.pinned (OpenSpec.ofChange Rows.fnExactSerialSpec) :=
  OpenClaim.holds_of_wide 8 Try.f8 rfl rfl rfl rfl rfl rfl rfl ⟨rfl, rfl, rfl, rfl, rfl⟩ rfl rfl rfl rfl rfl k_named Try.func8 k_closed k_instance k_wrapper
    (fun os started H enc _ => lifted os started H enc)

theorem proved : Rows.FnExactSerialSaid := over
end Go.Proofs.Ytaconefooicplaa.fnExactSerial
