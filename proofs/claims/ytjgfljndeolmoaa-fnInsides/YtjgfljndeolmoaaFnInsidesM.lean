/-
 For every []byte to draw from, laws.FnInsides returns true and writes into nothing that was there: of drawn records, those that the program's Inside answers are all that lie in the drawn zone, in order. No condition.
-/
import Derived.Test.YtjgfljndeolmoaaRows
import Derived.WalkKit
import Derived.ProofKit
import Derived.OpenShut
import Derived.ShutString
import Derived.ChangeOld
import Derived.Below
import Derived.Test.YtjgfljndeolmoaaFnInsidesG01
import Derived.Test.YtjgfljndeolmoaaFnInsidesG46
namespace Go.Proofs.Ytjgfljndeolmoaa.fnInsides
open Go.ChangeShapes Go.WideShapes Go.ChangeAt Go.RowKit
set_option linter.unusedVariables false

theorem own : ownKnob Try.prog.godebug = none := by kernel_rfl
theorem laidOut : laidOutB Try.prog = true := by kernel_rfl

set_option maxRecDepth 100000 in
theorem lifted (os : Os) (started : os.Started) (H : Type) (enc : TypeId × Value → H) :
  ReturnsInHanded {} Try.checked os 3 .any (Rows.fnInsidesSpec.pre6 enc Try.prog Try.f3 Rows.fnInsidesRow.domain false) (Rows.fnInsidesSpec.post enc Try.prog Try.f3 false true false false) := by
 refine returnsInHanded_of_change (C := Try.checked) own started (by kernel_rfl) Try.func3
  (ChangeSpec.witness6 (enc := enc) (C := Try.checked) false ⟨#[], #[.slice none 0 0], []⟩ 8 (by kernel_rfl) (by kernel_rfl) (by kernel_rfl) (by kernel_rfl)) ?_
 intro W base args ds gs before hval0 hW hcnd _
 have hval : ∀ (j : Nat) t v, Try.f3.params[j]? = some t → args[j]? = some v → Value.okWide Try.prog W .any base t v := hval0
 have hW' := hW
 obtain ⟨p, q, hA0, hV, rfl, hfz, hnd⟩ := hW
 have hA : DataW.TrodAll enc Try.prog W 0 (fun _ => true) true Try.f3.params.toList args.toList ds p := hA0
 rw [Try.params3] at hA hval
 obtain ⟨v0, vs0, d0, ds0, p0, q0, hargs0, rfl, rfl, h0, r0⟩ := trodAll_cons hA
 obtain ⟨rfl, rfl, rfl⟩ := trodAll_nil r0
 obtain rfl : args = #[v0] := by cases args; simp_all
 obtain ⟨rfl, rfl⟩ := trodVars_none hV
 have k0 := h0
 have lt0 : ∀ x ∈ p0, x.block < W.heap.size := by obtain ⟨m, hm⟩ := k0; exact DataW.trod_lt m _ _ _ hm
 obtain ⟨a0, cap0, l0, rfl, hm0, hL0, hb0⟩ : ∃ (a : Option Addr) (cap : Nat) (l : List Int), v0 = .slice a l.length cap ∧ l.length ≤ maxLen ∧ Lies W a l ∧ ∀ k, 0 ≤ l.getD k 0 ∧ l.getD k 0 ≤ 255 := by
  obtain ⟨c0, c1, c2, rfl⟩ := okWide_slice Try.underlying22 (hval 0 22 v0 rfl rfl)
  obtain ⟨fuel, hf⟩ := h0
  exact ints_lies Try.underlying22 Try.underlying5 (by kernel_rfl) (fun _ => rfl) hf
 clear hA0 hval0
 have walk : Calls Try.prog 3 #[.slice a0 l0.length cap0] W fun e w' => e = .returned (.bool true) ∧ Below W.heap.size W w' := by
  exact lawInsides a0 cap0 l0 W hL0 hb0 hm0
 refine walk.mono fun e W' ⟨he, bel⟩ => ?_
 subst he
 exact ⟨_, rfl, _, _, _, [], _, [], hW', trodAll_mk1 (shut_bool Try.underlying4 _), (trodAll_cons_mk (Below.trod laidOut (by kernel_rfl) (of_decide_eq_true (by kernel_rfl)) k0 bel lt0) trodAll_mk0), rfl, bel.frame _, fun h => by cases h⟩

theorem k_named : Try.pinned.checked.prog.funcNamed Rows.fnInsidesRow.func = some 3 := by kernel_rfl
theorem k_inPlace : (Rows.fnInsidesRow.inPlace == Try.prog.inPlace 3) = true := by kernel_rfl
theorem k_unfollowed : (Rows.fnInsidesRow.unfollowed == Try.prog.unfollowed 3) = true := by kernel_rfl
theorem k_recurses : (Rows.fnInsidesRow.recurses == Try.prog.recurses 3) = true := by kernel_rfl
theorem k_vars : (Rows.fnInsidesRow.named == Try.prog.varsNamed 3) = true := by kernel_rfl
theorem k_wf : Rows.fnInsidesRow.wf (OpenSpec.ofChange Rows.fnInsidesSpec) = true := by kernel_rfl
theorem k_instance : Try.f3.isInstance Try.pinned.checked.prog Rows.fnInsidesRow.origin Rows.fnInsidesRow.targs := of_decide_eq_true (by kernel_rfl)
theorem k_wrapper : Try.f3.isWrapper Try.pinned.checked.prog Rows.fnInsidesRow.wrapper Rows.fnInsidesRow.mainSum := by
 unfold Func.isWrapper
 rw [if_neg (by decide +kernel)]
 exact ⟨rfl, rfl⟩
theorem k_closed : joinedFacts Try.prog 3 Try.f3 Rows.fnInsidesSpec Rows.fnInsidesRow = true :=
 closed_of k_wf (by kernel_rfl) (by kernel_rfl) (by kernel_rfl) (by kernel_rfl) k_inPlace k_unfollowed k_recurses k_vars (by kernel_rfl) (by kernel_rfl) (by kernel_rfl) (by kernel_rfl) (by kernel_rfl) (by kernel_rfl) (by kernel_rfl) (by kernel_rfl) (by kernel_rfl) rfl rfl rfl rfl (by kernel_rfl) (by kernel_rfl) (by kernel_rfl) (by kernel_rfl)

theorem over : Rows.fnInsidesRow.holds Try.pinned (OpenSpec.ofChange Rows.fnInsidesSpec) :=
 OpenClaim.holds_of_wide 3 Try.f3 rfl rfl rfl rfl rfl rfl rfl ⟨rfl, rfl, rfl, rfl, rfl⟩ rfl rfl rfl rfl rfl k_named Try.func3 k_closed k_instance k_wrapper
  (fun os started H enc _ => lifted os started H enc)

theorem proved : Rows.FnInsidesSaid := over
end Go.Proofs.Ytjgfljndeolmoaa.fnInsides
