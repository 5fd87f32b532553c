/-
 For every transaction, laws.FnExactTxnOk returns true and writes into nothing that was there: the program's TxnOk answers as the specification's, at every argument (no condition).
-/
import Derived.Test.YtnplmeifhebhhaaGreatRows
import Derived.WalkKit
import Derived.ProofKit
import Derived.OpenShut
import Derived.ShutString
import Derived.ChangeOld
import Derived.Below
import Derived.Test.YtnplmeifhebhhaaGreatTxnOkG01
import Derived.Test.YtnplmeifhebhhaaGreatTxnOkG08
import Derived.Test.YtnplmeifhebhhaaGreatTxnOkG47
namespace Go.Proofs.YtnplmeifhebhhaaGreat.fnExactTxnOk
open Go.ChangeShapes Go.WideShapes Go.ChangeAt Go.RowKit
set_option linter.unusedVariables false

theorem own : ownKnob Tryz.prog.godebug = none := by kernel_rfl
theorem laidOut : laidOutB Tryz.prog = true := by kernel_rfl

set_option maxRecDepth 100000 in
theorem lifted (os : Os) (started : os.Started) (H : Type) (enc : TypeId × Value → H) :
  ReturnsInHanded {} Tryz.checked os 6 .any (Rows.fnExactTxnOkSpec.pre6 enc Tryz.prog Tryz.f6 Rows.fnExactTxnOkRow.domain false) (Rows.fnExactTxnOkSpec.post enc Tryz.prog Tryz.f6 false true false false) := by
 refine returnsInHanded_of_change (C := Tryz.checked) own started (by kernel_rfl) Tryz.func6
  (ChangeSpec.witness6 (enc := enc) (C := Tryz.checked) false ⟨#[], #[.agg #[.int .i64 0, .int .i64 0, .bool false, .int .i64 0, .bool false, .int .i64 0, .slice none 0 0, .slice none 0 0, .slice none 0 0, .slice none 0 0, .slice none 0 0, .slice none 0 0, .int .i64 0, .slice none 0 0, .slice none 0 0, .int .i64 0]], []⟩ 8 (by kernel_rfl) (by kernel_rfl) (by kernel_rfl) (by kernel_rfl)) ?_
 intro W base args ds gs before hval0 hW hcnd _
 have hval : ∀ (j : Nat) t v, Tryz.f6.params[j]? = some t → args[j]? = some v → Value.okWide Tryz.prog W .any base t v := hval0
 have hW' := hW
 obtain ⟨p, q, hA0, hV, rfl, hfz, hnd⟩ := hW
 have hA : DataW.TrodAll enc Tryz.prog W 0 (fun _ => true) true Tryz.f6.params.toList args.toList ds p := hA0
 rw [Tryz.params6] at hA hval
 obtain ⟨v0, vs0, d0, ds0, p0, q0, hargs0, rfl, rfl, h0, r0⟩ := trodAll_cons hA
 obtain ⟨rfl, rfl, rfl⟩ := trodAll_nil r0
 obtain rfl : args = #[v0] := by cases args; simp_all
 obtain ⟨rfl, rfl⟩ := trodVars_none hV
 have k0 := h0
 have lt0 : ∀ x ∈ p0, x.block < W.heap.size := by obtain ⟨m, hm⟩ := k0; exact DataW.trod_lt m _ _ _ hm
 obtain ⟨aq0, cq0, aa0, ca0, ab0, cb0, am0, cm0, ap0, cp0, au0, cu0, ac0, cc0, ah0, ch0, q0, rfl, hL0, hl0, hm0, hc0, hh0⟩ := open_txn (fun _ => rfl) (hval 0 46 v0 rfl rfl) h0
 clear hA0 hval0
 have walk : Calls Tryz.prog 6 #[.agg #[.int .i64 q0.kind, .int .i64 q0.msg.id, .bool q0.msg.reply, .int .i64 q0.msg.op, .bool q0.msg.auth, .int .i64 q0.msg.code, .slice aq0 q0.msg.qs.length cq0, .slice aa0 q0.msg.ans.length ca0, .slice ab0 q0.msg.aus.length cb0, .slice am0 q0.msg.more.length cm0, .slice ap0 q0.msg.pres.length cp0, .slice au0 q0.msg.ups.length cu0, .int .i64 q0.ip, .slice ac0 q0.client.length cc0, .slice ah0 q0.host.length ch0, .int .i64 q0.when]] W fun e w' => e = .returned (.bool true) ∧ Below W.heap.size W w' := by
  exact lawTxnOk aq0 cq0 aa0 ca0 ab0 cb0 am0 cm0 ap0 cp0 au0 cu0 ac0 cc0 ah0 ch0 q0 W hL0 hl0 hm0 hc0 hh0
 refine walk.mono fun e W' ⟨he, bel⟩ => ?_
 subst he
 exact ⟨_, rfl, _, _, _, [], _, [], hW', trodAll_mk1 (shut_bool Tryz.underlying4 _), (trodAll_cons_mk (Below.trod laidOut (by kernel_rfl) (of_decide_eq_true (by kernel_rfl)) k0 bel lt0) trodAll_mk0), rfl, bel.frame _, fun h => by cases h⟩

theorem k_named : Tryz.pinned.checked.prog.funcNamed Rows.fnExactTxnOkRow.func = some 6 := by kernel_rfl
theorem k_inPlace : (Rows.fnExactTxnOkRow.inPlace == Tryz.prog.inPlace 6) = true := by kernel_rfl
theorem k_unfollowed : (Rows.fnExactTxnOkRow.unfollowed == Tryz.prog.unfollowed 6) = true := by kernel_rfl
theorem k_recurses : (Rows.fnExactTxnOkRow.recurses == Tryz.prog.recurses 6) = true := by kernel_rfl
theorem k_vars : (Rows.fnExactTxnOkRow.named == Tryz.prog.varsNamed 6) = true := by kernel_rfl
theorem k_wf : Rows.fnExactTxnOkRow.wf (OpenSpec.ofChange Rows.fnExactTxnOkSpec) = true := by kernel_rfl
theorem k_instance : Tryz.f6.isInstance Tryz.pinned.checked.prog Rows.fnExactTxnOkRow.origin Rows.fnExactTxnOkRow.targs := of_decide_eq_true (by kernel_rfl)
theorem k_wrapper : Tryz.f6.isWrapper Tryz.pinned.checked.prog Rows.fnExactTxnOkRow.wrapper Rows.fnExactTxnOkRow.mainSum := by
 unfold Func.isWrapper
 rw [if_neg (by decide +kernel)]
 exact ⟨rfl, rfl⟩
theorem k_closed : joinedFacts Tryz.prog 6 Tryz.f6 Rows.fnExactTxnOkSpec Rows.fnExactTxnOkRow = true :=
 closed_of k_wf (by kernel_rfl) (by kernel_rfl) (by kernel_rfl) (by kernel_rfl) k_inPlace k_unfollowed k_recurses k_vars (by kernel_rfl) (by kernel_rfl) (by kernel_rfl) (by kernel_rfl) (by kernel_rfl) (by kernel_rfl) (by kernel_rfl) (by kernel_rfl) (by kernel_rfl) rfl rfl rfl rfl (by kernel_rfl) (by kernel_rfl) (by kernel_rfl) (by kernel_rfl)

theorem over : Rows.fnExactTxnOkRow.holds Tryz.pinned (OpenSpec.ofChange Rows.fnExactTxnOkSpec) :=
 OpenClaim.holds_of_wide 6 Tryz.f6 rfl rfl rfl rfl rfl rfl rfl ⟨rfl, rfl, rfl, rfl, rfl⟩ rfl rfl rfl rfl rfl k_named Tryz.func6 k_closed k_instance k_wrapper
  (fun os started H enc _ => lifted os started H enc)

theorem proved : Rows.FnExactTxnOkSaid := over
end Go.Proofs.YtnplmeifhebhhaaGreat.fnExactTxnOk
