/-
 For every []byte to draw from, laws.FnOwners returns true and writes into nothing that was there: a name of a drawn zone is free, as the program's Owner tells it, just if it has no records; one that is a client's has its sum, and no other.
-/
import Derived.Test.YtfneahdnpmamkaaGreatRows
import Derived.OpenShut
import Derived.ShutString
import Derived.ChangeOld
import Derived.Test.YtfneahdnpmamkaaGreatFnOwnersG47
namespace Go.Proofs.YtfneahdnpmamkaaGreat.fnOwners
open Go.ChangeShapes Go.WideShapes Go.ChangeAt Go.RowKit
set_option linter.unusedVariables false

theorem own : ownKnob Tryz.prog.godebug = none := by kernel_rfl
theorem laidOut : laidOutB Tryz.prog = true := by kernel_rfl

set_option maxRecDepth 100000 in
theorem lifted (os : Os) (started : os.Started) (H : Type) (enc : TypeId × Value → H) :
  ReturnsInHanded {} Tryz.checked os 3 .any (Rows.fnOwnersSpec.pre6 enc Tryz.prog Tryz.f3 Rows.fnOwnersRow.domain false) (Rows.fnOwnersSpec.post enc Tryz.prog Tryz.f3 false true false false) := by
 refine returnsInHanded_of_change (C := Tryz.checked) own started (by kernel_rfl) Tryz.func3
  (ChangeSpec.witness6 (enc := enc) (C := Tryz.checked) false ⟨#[], #[.slice none 0 0], []⟩ 8 (by kernel_rfl) (by kernel_rfl) (by kernel_rfl) (by kernel_rfl)) ?_
 intro W base args ds gs before hval0 hW hcnd _
 have hval : ∀ (j : Nat) t v, Tryz.f3.params[j]? = some t → args[j]? = some v → Value.okWide Tryz.prog W .any base t v := hval0
 have hW' := hW
 obtain ⟨p, q, hA0, hV, rfl, hfz, hnd⟩ := hW
 have hA : DataW.TrodAll enc Tryz.prog W 0 (fun _ => true) true Tryz.f3.params.toList args.toList ds p := hA0
 rw [Tryz.params3] at hA hval
 obtain ⟨v0, vs0, d0, ds0, p0, q0, hargs0, rfl, rfl, h0, r0⟩ := trodAll_cons hA
 obtain ⟨rfl, rfl, rfl⟩ := trodAll_nil r0
 obtain rfl : args = #[v0] := by cases args; simp_all
 obtain ⟨rfl, rfl⟩ := trodVars_none hV
 have k0 := h0
 have lt0 : ∀ x ∈ p0, x.block < W.heap.size := by obtain ⟨m, hm⟩ := k0; exact DataW.trod_lt m _ _ _ hm
 obtain ⟨a0, cap0, l0, rfl, hm0, hL0, hb0⟩ : ∃ (a : Option Addr) (cap : Nat) (l : List Int), v0 = .slice a l.length cap ∧ l.length ≤ maxLen ∧ Lies W a l ∧ ∀ k, 0 ≤ l.getD k 0 ∧ l.getD k 0 ≤ 255 := by
  obtain ⟨c0, c1, c2, rfl⟩ := okWide_slice Tryz.underlying22 (hval 0 22 v0 rfl rfl)
  obtain ⟨fuel, hf⟩ := h0
  exact Vv Tryz.underlying22 Tryz.underlying5 (by kernel_rfl) (fun _ => rfl) hf
 clear hA0 hval0
 have walk : Calls Tryz.prog 3 #[.slice a0 l0.length cap0] W fun e w' => e = .returned (.bool true) ∧ Below W.heap.size W w' := by
  exact Vj a0 cap0 l0 W hL0 hb0 hm0
 refine walk.mono fun e W' ⟨he, bel⟩ => ?_
 subst he
 exact ⟨_, rfl, _, _, _, [], _, [], hW', trodAll_mk1 (shut_bool Tryz.underlying4 _), (trodAll_cons_mk (Below.trod laidOut (by kernel_rfl) (of_decide_eq_true (by kernel_rfl)) k0 bel lt0) trodAll_mk0), rfl, bel.frame _, fun h => by cases h⟩

theorem k_named : Tryz.pinned.checked.prog.funcNamed Rows.fnOwnersRow.func = some 3 := by kernel_rfl
theorem k_inPlace : (Rows.fnOwnersRow.inPlace == Tryz.prog.inPlace 3) = true := by kernel_rfl
theorem k_unfollowed : (Rows.fnOwnersRow.unfollowed == Tryz.prog.unfollowed 3) = true := by kernel_rfl
theorem k_recurses : (Rows.fnOwnersRow.recurses == Tryz.prog.recurses 3) = true := by kernel_rfl
theorem k_vars : (Rows.fnOwnersRow.named == Tryz.prog.varsNamed 3) = true := by kernel_rfl
theorem k_wf : Rows.fnOwnersRow.wf (OpenSpec.ofChange Rows.fnOwnersSpec) = true := by kernel_rfl
theorem k_instance : Tryz.f3.isInstance Tryz.pinned.checked.prog Rows.fnOwnersRow.origin Rows.fnOwnersRow.targs := of_decide_eq_true (by kernel_rfl)
theorem k_wrapper : Tryz.f3.isWrapper Tryz.pinned.checked.prog Rows.fnOwnersRow.wrapper Rows.fnOwnersRow.mainSum := by
 unfold Func.isWrapper
 rw [if_neg (by decide +kernel)]
 exact ⟨rfl, rfl⟩
theorem k_closed : joinedFacts Tryz.prog 3 Tryz.f3 Rows.fnOwnersSpec Rows.fnOwnersRow = true :=
 Wk k_wf (by kernel_rfl) (by kernel_rfl) (by kernel_rfl) (by kernel_rfl) k_inPlace k_unfollowed k_recurses k_vars (by kernel_rfl) (by kernel_rfl) (by kernel_rfl) (by kernel_rfl) (by kernel_rfl) (by kernel_rfl) (by kernel_rfl) (by kernel_rfl) (by kernel_rfl) rfl rfl rfl rfl (by kernel_rfl) (by kernel_rfl) (by kernel_rfl) (by kernel_rfl)

theorem over : Rows.fnOwnersRow.holds Tryz.pinned (OpenSpec.ofChange Rows.fnOwnersSpec) :=
 OpenClaim.holds_of_wide 3 Tryz.f3 rfl rfl rfl rfl rfl rfl rfl ⟨rfl, rfl, rfl, rfl, rfl⟩ rfl rfl rfl rfl rfl k_named Tryz.func3 k_closed k_instance k_wrapper
  (fun os started H enc _ => lifted os started H enc)

theorem proved : Rows.FnOwnersSaid := over
end Go.Proofs.YtfneahdnpmamkaaGreat.fnOwners
