/-
 For every []Rr and every Name, laws.FnExactInside returns true and writes into nothing that was there: the program's Inside answers as the specification's, at every argument, writes into no argument, and its answer owns its memory. No condition.
-/
import Derived.Test.YtjgfljndeolmoaaRows
import Derived.WalkKit
import Derived.ProofKit
import Derived.OpenShut
import Derived.ShutString
import Derived.ChangeOld
import Derived.Below
import Derived.Test.YtjgfljndeolmoaaInsideG01
import Derived.Test.YtjgfljndeolmoaaInsideG02
import Derived.Test.YtjgfljndeolmoaaInsideG05
import Derived.Test.YtjgfljndeolmoaaInsideG32
namespace Go.Proofs.Ytjgfljndeolmoaa.fnExactInside
open Go.ChangeShapes Go.WideShapes Go.ChangeAt Go.RowKit
set_option linter.unusedVariables false

theorem own : ownKnob Try.prog.godebug = none := by kernel_rfl
theorem laidOut : laidOutB Try.prog = true := by kernel_rfl

set_option maxRecDepth 100000 in
theorem lifted (os : Os) (started : os.Started) (H : Type) (enc : TypeId × Value → H) :
  ReturnsInHanded {} Try.checked os 5 .any (Rows.fnExactInsideSpec.pre6 enc Try.prog Try.f5 Rows.fnExactInsideRow.domain false) (Rows.fnExactInsideSpec.post enc Try.prog Try.f5 false true false false) := by
 refine returnsInHanded_of_change (C := Try.checked) own started (by kernel_rfl) Try.func5
  (ChangeSpec.witness6 (enc := enc) (C := Try.checked) false ⟨#[], #[.slice none 0 0, .agg #[.slice none 0 0]], []⟩ 8 (by kernel_rfl) (by kernel_rfl) (by kernel_rfl) (by kernel_rfl)) ?_
 intro W base args ds gs before hval0 hW hcnd _
 have hval : ∀ (j : Nat) t v, Try.f5.params[j]? = some t → args[j]? = some v → Value.okWide Try.prog W .any base t v := hval0
 have hW' := hW
 obtain ⟨p, q, hA0, hV, rfl, hfz, hnd⟩ := hW
 have hA : DataW.TrodAll enc Try.prog W 0 (fun _ => true) true Try.f5.params.toList args.toList ds p := hA0
 rw [Try.params5] at hA hval
 obtain ⟨v0, vs0, d0, ds0, p0, q0, hargs0, rfl, rfl, h0, r0⟩ := trodAll_cons hA
 obtain ⟨v1, vs1, d1, ds1, p1, q1, hargs1, rfl, rfl, h1, r1⟩ := trodAll_cons r0
 obtain ⟨rfl, rfl, rfl⟩ := trodAll_nil r1
 obtain rfl : args = #[v0, v1] := by cases args; simp_all
 obtain ⟨rfl, rfl⟩ := trodVars_none hV
 have k0 := h0
 have lt0 : ∀ x ∈ p0, x.block < W.heap.size := by obtain ⟨m, hm⟩ := k0; exact DataW.trod_lt m _ _ _ hm
 obtain ⟨a0, cap0, rs0, rfl, hm0, hL0, hb0⟩ : ∃ (a : Option Addr) (cap : Nat) (rs : List Rec), v0 = .slice a rs.length cap ∧ rs.length ≤ maxLen ∧ LiesRs W a rs ∧ ∀ i, i < rs.length → SizeR maxLen (rs.getD i recZ) := by
  obtain ⟨c0, c1, c2, rfl⟩ := okWide_slice Try.underlying40 (hval 0 40 v0 rfl rfl)
  obtain ⟨fuel, hf⟩ := h0
  exact open_recs (fun _ => rfl) hf
 have k1 := h1
 have lt1 : ∀ x ∈ p1, x.block < W.heap.size := by obtain ⟨m, hm⟩ := k1; exact DataW.trod_lt m _ _ _ hm
 obtain ⟨a1, cap1, n1, rfl, hm1, hL1, hb1⟩ := open_name Try.underlying37 rfl rfl (by kernel_rfl) (by kernel_rfl) Try.underlying24 Try.underlying22 Try.underlying5 (by kernel_rfl) (by kernel_rfl) (fun _ => rfl) (hval 1 37 v1 rfl rfl) h1
 clear hA0 hval0
 have walk : Calls Try.prog 5 #[.slice a0 rs0.length cap0, .agg #[.slice a1 n1.length cap1]] W fun e w' => e = .returned (.bool true) ∧ Below W.heap.size W w' := by
  exact lawInside a0 cap0 rs0 a1 cap1 n1 W hL0 hm0 hb0 hL1 hm1 (fun i hi => (hb1 i hi).1)
 refine walk.mono fun e W' ⟨he, bel⟩ => ?_
 subst he
 exact ⟨_, rfl, _, _, _, [], _, [], hW', trodAll_mk1 (shut_bool Try.underlying4 _), (trodAll_cons_mk (Below.trod laidOut (by kernel_rfl) (of_decide_eq_true (by kernel_rfl)) k0 bel lt0) (trodAll_cons_mk (Below.trod laidOut (by kernel_rfl) (of_decide_eq_true (by kernel_rfl)) k1 bel lt1) trodAll_mk0)), rfl, bel.frame _, fun h => by cases h⟩

theorem k_named : Try.pinned.checked.prog.funcNamed Rows.fnExactInsideRow.func = some 5 := by kernel_rfl
theorem k_inPlace : (Rows.fnExactInsideRow.inPlace == Try.prog.inPlace 5) = true := by kernel_rfl
theorem k_unfollowed : (Rows.fnExactInsideRow.unfollowed == Try.prog.unfollowed 5) = true := by kernel_rfl
theorem k_recurses : (Rows.fnExactInsideRow.recurses == Try.prog.recurses 5) = true := by kernel_rfl
theorem k_vars : (Rows.fnExactInsideRow.named == Try.prog.varsNamed 5) = true := by kernel_rfl
theorem k_wf : Rows.fnExactInsideRow.wf (OpenSpec.ofChange Rows.fnExactInsideSpec) = true := by kernel_rfl
theorem k_instance : Try.f5.isInstance Try.pinned.checked.prog Rows.fnExactInsideRow.origin Rows.fnExactInsideRow.targs := of_decide_eq_true (by kernel_rfl)
theorem k_wrapper : Try.f5.isWrapper Try.pinned.checked.prog Rows.fnExactInsideRow.wrapper Rows.fnExactInsideRow.mainSum := by
 unfold Func.isWrapper
 rw [if_neg (by decide +kernel)]
 exact ⟨rfl, rfl⟩
theorem k_closed : joinedFacts Try.prog 5 Try.f5 Rows.fnExactInsideSpec Rows.fnExactInsideRow = true :=
 closed_of k_wf (by kernel_rfl) (by kernel_rfl) (by kernel_rfl) (by kernel_rfl) k_inPlace k_unfollowed k_recurses k_vars (by kernel_rfl) (by kernel_rfl) (by kernel_rfl) (by kernel_rfl) (by kernel_rfl) (by kernel_rfl) (by kernel_rfl) (by kernel_rfl) (by kernel_rfl) rfl rfl rfl rfl (by kernel_rfl) (by kernel_rfl) (by kernel_rfl) (by kernel_rfl)

theorem over : Rows.fnExactInsideRow.holds Try.pinned (OpenSpec.ofChange Rows.fnExactInsideSpec) :=
 OpenClaim.holds_of_wide 5 Try.f5 rfl rfl rfl rfl rfl rfl rfl ⟨rfl, rfl, rfl, rfl, rfl⟩ rfl rfl rfl rfl rfl k_named Try.func5 k_closed k_instance k_wrapper
  (fun os started H enc _ => lifted os started H enc)

theorem proved : Rows.FnExactInsideSaid := over
end Go.Proofs.Ytjgfljndeolmoaa.fnExactInside
