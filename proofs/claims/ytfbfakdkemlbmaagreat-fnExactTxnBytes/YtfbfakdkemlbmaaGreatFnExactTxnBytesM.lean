/-
 For every transaction, laws.FnExactTxnBytes returns true and writes into nothing that was there: the program's TxnBytes answers as the specification's, at every argument (no condition).
-/
import Derived.Test.YtfbfakdkemlbmaaGreatRows
import Derived.WalkKit
import Derived.ProofKit
import Derived.OpenShut
import Derived.ShutString
import Derived.ChangeOld
import Derived.Below
import Derived.Test.YtfbfakdkemlbmaaGreatTxnBytesG00
import Derived.Test.YtfbfakdkemlbmaaGreatTxnBytesG01
import Derived.Test.YtfbfakdkemlbmaaGreatTxnBytesG06
import Derived.Test.YtfbfakdkemlbmaaGreatTxnBytesG47
namespace Go.Proofs.YtfbfakdkemlbmaaGreat.fnExactTxnBytes
open Go.ChangeShapes Go.WideShapes Go.ChangeAt Go.RowKit
set_option linter.unusedVariables false

theorem own : ownKnob Tryz.prog.godebug = none := by kernel_rfl
theorem laidOut : laidOutB Tryz.prog = true := by kernel_rfl

set_option maxRecDepth 100000 in
theorem lifted (os : Os) (started : os.Started) (H : Type) (enc : TypeId × Value → H) :
  ReturnsInHanded {} Tryz.checked os 3 .any (Rows.fnExactTxnBytesSpec.pre6 enc Tryz.prog Tryz.f3 Rows.fnExactTxnBytesRow.domain false) (Rows.fnExactTxnBytesSpec.post enc Tryz.prog Tryz.f3 false true false false) := by
 refine returnsInHanded_of_change (C := Tryz.checked) own started (by kernel_rfl) Tryz.func3
  (ChangeSpec.witness6 (enc := enc) (C := Tryz.checked) false ⟨#[], #[.agg #[.int .i64 0, .int .i64 0, .bool false, .int .i64 0, .bool false, .int .i64 0, .slice none 0 0, .slice none 0 0, .slice none 0 0, .slice none 0 0, .slice none 0 0, .slice none 0 0, .int .i64 0, .slice none 0 0, .slice none 0 0, .int .i64 0]], []⟩ 8 (by kernel_rfl) (by kernel_rfl) (by kernel_rfl) (by kernel_rfl)) ?_
 intro W base args ds gs before hval0 hW hcnd _
 have hval : ∀ (j : Nat) t v, Tryz.f3.params[j]? = some t → args[j]? = some v → Value.okWide Tryz.prog W .any base t v := hval0
 have hW' := hW
 obtain ⟨p, q, hA0, hV, rfl, hfz, hnd⟩ := hW
 have hA : DataW.TrodAll enc Tryz.prog W 0 (fun _ => true) true Tryz.f3.params.toList args.toList ds p := hA0
 rw [Tryz.params3] at hA hval
 obtain ⟨v0, vs0, d0, ds0, p0, q0, hargs0, rfl, rfl, h0, r0⟩ := trodAll_cons hA
 obtain ⟨rfl, rfl, rfl⟩ := trodAll_nil r0
 obtain rfl : args = #[v0] := by cases args; simp_all
 obtain ⟨rfl, rfl⟩ := trodVars_none hV
 have k0 := h0
 have lt0 : ∀ x ∈ p0, x.block < W.heap.size := by obtain ⟨m, hm⟩ := k0; exact DataW.trod_lt m _ _ _ hm
 obtain ⟨aq0, cq0, aa0, ca0, ab0, cb0, am0, cm0, ap0, cp0, au0, cu0, ac0, cc0, ah0, ch0, q0, rfl, hL0, hl0, hm0, hc0, hh0⟩ := open_txn (fun _ => rfl) (hval 0 29 v0 rfl rfl) h0
 clear hA0 hval0
 have walk : Calls Tryz.prog 3 #[.agg #[.int .i64 q0.kind, .int .i64 q0.msg.id, .bool q0.msg.reply, .int .i64 q0.msg.op, .bool q0.msg.auth, .int .i64 q0.msg.code, .slice aq0 q0.msg.qs.length cq0, .slice aa0 q0.msg.ans.length ca0, .slice ab0 q0.msg.aus.length cb0, .slice am0 q0.msg.more.length cm0, .slice ap0 q0.msg.pres.length cp0, .slice au0 q0.msg.ups.length cu0, .int .i64 q0.ip, .slice ac0 q0.client.length cc0, .slice ah0 q0.host.length ch0, .int .i64 q0.when]] W fun e w' => e = .returned (.bool true) ∧ Below W.heap.size W w' := by
  exact lawTxnBytes aq0 cq0 aa0 ca0 ab0 cb0 am0 cm0 ap0 cp0 au0 cu0 ac0 cc0 ah0 ch0 q0 W hL0 hl0 hm0 hc0 hh0
 refine walk.mono fun e W' ⟨he, bel⟩ => ?_
 subst he
 exact ⟨_, rfl, _, _, _, [], _, [], hW', trodAll_mk1 (shut_bool Tryz.underlying4 _), (trodAll_cons_mk (Below.trod laidOut (by kernel_rfl) (of_decide_eq_true (by kernel_rfl)) k0 bel lt0) trodAll_mk0), rfl, bel.frame _, fun h => by cases h⟩

theorem k_named : Tryz.pinned.checked.prog.funcNamed Rows.fnExactTxnBytesRow.func = some 3 := by kernel_rfl
theorem k_inPlace : (Rows.fnExactTxnBytesRow.inPlace == Tryz.prog.inPlace 3) = true := by kernel_rfl
theorem k_unfollowed : (Rows.fnExactTxnBytesRow.unfollowed == Tryz.prog.unfollowed 3) = true := by kernel_rfl
theorem k_recurses : (Rows.fnExactTxnBytesRow.recurses == Tryz.prog.recurses 3) = true := by kernel_rfl
theorem k_vars : (Rows.fnExactTxnBytesRow.named == Tryz.prog.varsNamed 3) = true := by kernel_rfl
theorem k_wf : Rows.fnExactTxnBytesRow.wf (OpenSpec.ofChange Rows.fnExactTxnBytesSpec) = true := by kernel_rfl
theorem k_instance : Tryz.f3.isInstance Tryz.pinned.checked.prog Rows.fnExactTxnBytesRow.origin Rows.fnExactTxnBytesRow.targs := of_decide_eq_true (by kernel_rfl)
theorem k_wrapper : Tryz.f3.isWrapper Tryz.pinned.checked.prog Rows.fnExactTxnBytesRow.wrapper Rows.fnExactTxnBytesRow.mainSum := by
 unfold Func.isWrapper
 rw [if_neg (by decide +kernel)]
 exact ⟨rfl, rfl⟩
theorem k_closed : joinedFacts Tryz.prog 3 Tryz.f3 Rows.fnExactTxnBytesSpec Rows.fnExactTxnBytesRow = true :=
 closed_of k_wf (by kernel_rfl) (by kernel_rfl) (by kernel_rfl) (by kernel_rfl) k_inPlace k_unfollowed k_recurses k_vars (by kernel_rfl) (by kernel_rfl) (by kernel_rfl) (by kernel_rfl) (by kernel_rfl) (by kernel_rfl) (by kernel_rfl) (by kernel_rfl) (by kernel_rfl) rfl rfl rfl rfl (by kernel_rfl) (by kernel_rfl) (by kernel_rfl) (by kernel_rfl)

theorem over : Rows.fnExactTxnBytesRow.holds Tryz.pinned (OpenSpec.ofChange Rows.fnExactTxnBytesSpec) :=
 OpenClaim.holds_of_wide 3 Tryz.f3 rfl rfl rfl rfl rfl rfl rfl ⟨rfl, rfl, rfl, rfl, rfl⟩ rfl rfl rfl rfl rfl k_named Tryz.func3 k_closed k_instance k_wrapper
  (fun os started H enc _ => lifted os started H enc)

theorem proved : Rows.FnExactTxnBytesSaid := over
end Go.Proofs.YtfbfakdkemlbmaaGreat.fnExactTxnBytes
