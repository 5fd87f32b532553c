/-
 For every Question, every []int and every int, laws.FnExactBegin returns true and writes into nothing that was there: the program's Begin answers as the specification's, at every argument, writes into no argument, and its answer owns its memory. No condition.
-/
import Derived.Test.YtjgfljndeolmoaaRows
import Derived.WalkKit
import Derived.ProofKit
import Derived.OpenShut
import Derived.ShutString
import Derived.ChangeOld
import Derived.Below
import Derived.Test.YtjgfljndeolmoaaBeginG01
import Derived.Test.YtjgfljndeolmoaaBeginG02
import Derived.Test.YtjgfljndeolmoaaBeginG09
import Derived.Test.YtjgfljndeolmoaaBeginG42
namespace Go.Proofs.Ytjgfljndeolmoaa.fnExactBegin
open Go.ChangeShapes Go.WideShapes Go.ChangeAt Go.RowKit
set_option linter.unusedVariables false

theorem own : ownKnob Try.prog.godebug = none := by kernel_rfl
theorem laidOut : laidOutB Try.prog = true := by kernel_rfl

set_option maxRecDepth 100000 in
theorem lifted (os : Os) (started : os.Started) (H : Type) (enc : TypeId × Value → H) :
  ReturnsInHanded {} Try.checked os 6 .any (Rows.fnExactBeginSpec.pre6 enc Try.prog Try.f6 Rows.fnExactBeginRow.domain false) (Rows.fnExactBeginSpec.post enc Try.prog Try.f6 false true false false) := by
 refine returnsInHanded_of_change (C := Try.checked) own started (by kernel_rfl) Try.func6
  (ChangeSpec.witness6 (enc := enc) (C := Try.checked) false ⟨#[], #[.agg #[.slice none 0 0, .int .i64 0], .slice none 0 0, .int .i64 0], []⟩ 8 (by kernel_rfl) (by kernel_rfl) (by kernel_rfl) (by kernel_rfl)) ?_
 intro W base args ds gs before hval0 hW hcnd _
 have hval : ∀ (j : Nat) t v, Try.f6.params[j]? = some t → args[j]? = some v → Value.okWide Try.prog W .any base t v := hval0
 have hW' := hW
 obtain ⟨p, q, hA0, hV, rfl, hfz, hnd⟩ := hW
 have hA : DataW.TrodAll enc Try.prog W 0 (fun _ => true) true Try.f6.params.toList args.toList ds p := hA0
 rw [Try.params6] at hA hval
 obtain ⟨v0, vs0, d0, ds0, p0, q0, hargs0, rfl, rfl, h0, r0⟩ := trodAll_cons hA
 obtain ⟨v1, vs1, d1, ds1, p1, q1, hargs1, rfl, rfl, h1, r1⟩ := trodAll_cons r0
 obtain ⟨v2, vs2, d2, ds2, p2, q2, hargs2, rfl, rfl, h2, r2⟩ := trodAll_cons r1
 obtain ⟨rfl, rfl, rfl⟩ := trodAll_nil r2
 obtain rfl : args = #[v0, v1, v2] := by cases args; simp_all
 obtain ⟨rfl, rfl⟩ := trodVars_none hV
 have k0 := h0
 have lt0 : ∀ x ∈ p0, x.block < W.heap.size := by obtain ⟨m, hm⟩ := k0; exact DataW.trod_lt m _ _ _ hm
 obtain ⟨a0, c0, q0, rfl, hL0, hm0⟩ := open_que (fun _ => rfl) (hval 0 39 v0 rfl rfl) h0
 have k1 := h1
 have lt1 : ∀ x ∈ p1, x.block < W.heap.size := by obtain ⟨m, hm⟩ := k1; exact DataW.trod_lt m _ _ _ hm
 obtain ⟨a1, cap1, l1, rfl, hm1, hL1⟩ : ∃ (a : Option Addr) (cap : Nat) (l : List Int), v1 = .slice a l.length cap ∧ l.length ≤ maxLen ∧ LiesI W a l := by
  obtain ⟨c0, c1, c2, rfl⟩ := okWide_slice Try.underlying32 (hval 1 32 v1 rfl rfl)
  obtain ⟨fuel, hf⟩ := h1
  exact nums_lies Try.underlying32 Try.underlying3 cellsInt (fun _ => rfl) hf
 obtain ⟨x2, rfl, rfl, rfl, w2⟩ := open_int Try.underlying3 (hval 2 3 v2 rfl rfl) h2
 clear hA0 hval0
 have walk : Calls Try.prog 6 #[.agg #[.slice a0 q0.name.length c0, .int .i64 q0.type], .slice a1 l1.length cap1, .int .i64 x2] W fun e w' => e = .returned (.bool true) ∧ Below W.heap.size W w' := by
  exact lawBegin a0 c0 q0 a1 cap1 l1 x2 W hL0 hm0 hL1 hm1
 refine walk.mono fun e W' ⟨he, bel⟩ => ?_
 subst he
 exact ⟨_, rfl, _, _, _, [], _, [], hW', trodAll_mk1 (shut_bool Try.underlying4 _), (trodAll_cons_mk (Below.trod laidOut (by kernel_rfl) (of_decide_eq_true (by kernel_rfl)) k0 bel lt0) (trodAll_cons_mk (Below.trod laidOut (by kernel_rfl) (of_decide_eq_true (by kernel_rfl)) k1 bel lt1) (trodAll_cons_mk (shut_int Try.underlying3 w2) trodAll_mk0))), rfl, bel.frame _, fun h => by cases h⟩

theorem k_named : Try.pinned.checked.prog.funcNamed Rows.fnExactBeginRow.func = some 6 := by kernel_rfl
theorem k_inPlace : (Rows.fnExactBeginRow.inPlace == Try.prog.inPlace 6) = true := by kernel_rfl
theorem k_unfollowed : (Rows.fnExactBeginRow.unfollowed == Try.prog.unfollowed 6) = true := by kernel_rfl
theorem k_recurses : (Rows.fnExactBeginRow.recurses == Try.prog.recurses 6) = true := by kernel_rfl
theorem k_vars : (Rows.fnExactBeginRow.named == Try.prog.varsNamed 6) = true := by kernel_rfl
theorem k_wf : Rows.fnExactBeginRow.wf (OpenSpec.ofChange Rows.fnExactBeginSpec) = true := by kernel_rfl
theorem k_instance : Try.f6.isInstance Try.pinned.checked.prog Rows.fnExactBeginRow.origin Rows.fnExactBeginRow.targs := of_decide_eq_true (by kernel_rfl)
theorem k_wrapper : Try.f6.isWrapper Try.pinned.checked.prog Rows.fnExactBeginRow.wrapper Rows.fnExactBeginRow.mainSum := by
 unfold Func.isWrapper
 rw [if_neg (by decide +kernel)]
 exact ⟨rfl, rfl⟩
theorem k_closed : joinedFacts Try.prog 6 Try.f6 Rows.fnExactBeginSpec Rows.fnExactBeginRow = true :=
 closed_of k_wf (by kernel_rfl) (by kernel_rfl) (by kernel_rfl) (by kernel_rfl) k_inPlace k_unfollowed k_recurses k_vars (by kernel_rfl) (by kernel_rfl) (by kernel_rfl) (by kernel_rfl) (by kernel_rfl) (by kernel_rfl) (by kernel_rfl) (by kernel_rfl) (by kernel_rfl) rfl rfl rfl rfl (by kernel_rfl) (by kernel_rfl) (by kernel_rfl) (by kernel_rfl)

theorem over : Rows.fnExactBeginRow.holds Try.pinned (OpenSpec.ofChange Rows.fnExactBeginSpec) :=
 OpenClaim.holds_of_wide 6 Try.f6 rfl rfl rfl rfl rfl rfl rfl ⟨rfl, rfl, rfl, rfl, rfl⟩ rfl rfl rfl rfl rfl k_named Try.func6 k_closed k_instance k_wrapper
  (fun os started H enc _ => lifted os started H enc)

theorem proved : Rows.FnExactBeginSaid := over
end Go.Proofs.Ytjgfljndeolmoaa.fnExactBegin
