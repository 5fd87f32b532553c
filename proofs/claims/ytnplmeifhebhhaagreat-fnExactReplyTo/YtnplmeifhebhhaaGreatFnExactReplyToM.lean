/-
 For every message and number, laws.FnExactReplyTo returns true and writes into nothing that was there: the program's ReplyTo answers as the specification's, at every argument (no condition).
-/
import Derived.Test.YtnplmeifhebhhaaGreatRows
import Derived.WalkKit
import Derived.ProofKit
import Derived.OpenShut
import Derived.ShutString
import Derived.ChangeOld
import Derived.Below
import Derived.Test.YtnplmeifhebhhaaGreatReplyToG01
import Derived.Test.YtnplmeifhebhhaaGreatReplyToG06
import Derived.Test.YtnplmeifhebhhaaGreatReplyToG46
namespace Go.Proofs.YtnplmeifhebhhaaGreat.fnExactReplyTo
open Go.ChangeShapes Go.WideShapes Go.ChangeAt Go.RowKit
set_option linter.unusedVariables false

theorem own : ownKnob Tryz.prog.godebug = none := by kernel_rfl
theorem laidOut : laidOutB Tryz.prog = true := by kernel_rfl

set_option maxRecDepth 100000 in
theorem lifted (os : Os) (started : os.Started) (H : Type) (enc : TypeId × Value → H) :
  ReturnsInHanded {} Tryz.checked os 5 .any (Rows.fnExactReplyToSpec.pre6 enc Tryz.prog Tryz.f5 Rows.fnExactReplyToRow.domain false) (Rows.fnExactReplyToSpec.post enc Tryz.prog Tryz.f5 false true false false) := by
 refine returnsInHanded_of_change (C := Tryz.checked) own started (by kernel_rfl) Tryz.func5
  (ChangeSpec.witness6 (enc := enc) (C := Tryz.checked) false ⟨#[], #[.agg #[.int .i64 0, .bool false, .int .i64 0, .bool false, .int .i64 0, .slice none 0 0, .slice none 0 0, .slice none 0 0, .slice none 0 0, .slice none 0 0, .slice none 0 0], .int .i64 0], []⟩ 8 (by kernel_rfl) (by kernel_rfl) (by kernel_rfl) (by kernel_rfl)) ?_
 intro W base args ds gs before hval0 hW hcnd _
 have hval : ∀ (j : Nat) t v, Tryz.f5.params[j]? = some t → args[j]? = some v → Value.okWide Tryz.prog W .any base t v := hval0
 have hW' := hW
 obtain ⟨p, q, hA0, hV, rfl, hfz, hnd⟩ := hW
 have hA : DataW.TrodAll enc Tryz.prog W 0 (fun _ => true) true Tryz.f5.params.toList args.toList ds p := hA0
 rw [Tryz.params5] at hA hval
 obtain ⟨v0, vs0, d0, ds0, p0, q0, hargs0, rfl, rfl, h0, r0⟩ := trodAll_cons hA
 obtain ⟨v1, vs1, d1, ds1, p1, q1, hargs1, rfl, rfl, h1, r1⟩ := trodAll_cons r0
 obtain ⟨rfl, rfl, rfl⟩ := trodAll_nil r1
 obtain rfl : args = #[v0, v1] := by cases args; simp_all
 obtain ⟨rfl, rfl⟩ := trodVars_none hV
 have k0 := h0
 have lt0 : ∀ x ∈ p0, x.block < W.heap.size := by obtain ⟨m, hm⟩ := k0; exact DataW.trod_lt m _ _ _ hm
 obtain ⟨aq0, cq0, aa0, ca0, ab0, cb0, am0, cm0, ap0, cp0, au0, cu0, q0, rfl, wi0, wo0, wc0, hL0, hl0, hm0⟩ := open_msg (fun _ => rfl) (hval 0 26 v0 rfl rfl) h0
 obtain ⟨x1, rfl, rfl, rfl, w1⟩ := open_int Tryz.underlying3 (hval 1 3 v1 rfl rfl) h1
 clear hA0 hval0
 have walk : Calls Tryz.prog 5 #[.agg #[.int .i64 q0.id, .bool q0.reply, .int .i64 q0.op, .bool q0.auth, .int .i64 q0.code, .slice aq0 q0.qs.length cq0, .slice aa0 q0.ans.length ca0, .slice ab0 q0.aus.length cb0, .slice am0 q0.more.length cm0, .slice ap0 q0.pres.length cp0, .slice au0 q0.ups.length cu0], .int .i64 x1] W fun e w' => e = .returned (.bool true) ∧ Below W.heap.size W w' := by
  exact lawReplyTo aq0 cq0 aa0 ca0 ab0 cb0 am0 cm0 ap0 cp0 au0 cu0 q0 x1 W hL0 hl0 hm0
 refine walk.mono fun e W' ⟨he, bel⟩ => ?_
 subst he
 exact ⟨_, rfl, _, _, _, [], _, [], hW', trodAll_mk1 (shut_bool Tryz.underlying4 _), (trodAll_cons_mk (Below.trod laidOut (by kernel_rfl) (of_decide_eq_true (by kernel_rfl)) k0 bel lt0) (trodAll_cons_mk (shut_int Tryz.underlying3 w1) trodAll_mk0)), rfl, bel.frame _, fun h => by cases h⟩

theorem k_named : Tryz.pinned.checked.prog.funcNamed Rows.fnExactReplyToRow.func = some 5 := by kernel_rfl
theorem k_inPlace : (Rows.fnExactReplyToRow.inPlace == Tryz.prog.inPlace 5) = true := by kernel_rfl
theorem k_unfollowed : (Rows.fnExactReplyToRow.unfollowed == Tryz.prog.unfollowed 5) = true := by kernel_rfl
theorem k_recurses : (Rows.fnExactReplyToRow.recurses == Tryz.prog.recurses 5) = true := by kernel_rfl
theorem k_vars : (Rows.fnExactReplyToRow.named == Tryz.prog.varsNamed 5) = true := by kernel_rfl
theorem k_wf : Rows.fnExactReplyToRow.wf (OpenSpec.ofChange Rows.fnExactReplyToSpec) = true := by kernel_rfl
theorem k_instance : Tryz.f5.isInstance Tryz.pinned.checked.prog Rows.fnExactReplyToRow.origin Rows.fnExactReplyToRow.targs := of_decide_eq_true (by kernel_rfl)
theorem k_wrapper : Tryz.f5.isWrapper Tryz.pinned.checked.prog Rows.fnExactReplyToRow.wrapper Rows.fnExactReplyToRow.mainSum := by
 unfold Func.isWrapper
 rw [if_neg (by decide +kernel)]
 exact ⟨rfl, rfl⟩
theorem k_closed : joinedFacts Tryz.prog 5 Tryz.f5 Rows.fnExactReplyToSpec Rows.fnExactReplyToRow = true :=
 closed_of k_wf (by kernel_rfl) (by kernel_rfl) (by kernel_rfl) (by kernel_rfl) k_inPlace k_unfollowed k_recurses k_vars (by kernel_rfl) (by kernel_rfl) (by kernel_rfl) (by kernel_rfl) (by kernel_rfl) (by kernel_rfl) (by kernel_rfl) (by kernel_rfl) (by kernel_rfl) rfl rfl rfl rfl (by kernel_rfl) (by kernel_rfl) (by kernel_rfl) (by kernel_rfl)

theorem over : Rows.fnExactReplyToRow.holds Tryz.pinned (OpenSpec.ofChange Rows.fnExactReplyToSpec) :=
 OpenClaim.holds_of_wide 5 Tryz.f5 rfl rfl rfl rfl rfl rfl rfl ⟨rfl, rfl, rfl, rfl, rfl⟩ rfl rfl rfl rfl rfl k_named Tryz.func5 k_closed k_instance k_wrapper
  (fun os started H enc _ => lifted os started H enc)

theorem proved : Rows.FnExactReplyToSaid := over
end Go.Proofs.YtnplmeifhebhhaaGreat.fnExactReplyTo
