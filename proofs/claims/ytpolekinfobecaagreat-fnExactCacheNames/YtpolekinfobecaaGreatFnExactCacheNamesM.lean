/-
 For every Cache, laws.FnExactCacheNames returns true and writes into nothing that was there: the program's CacheNames answers as the specification's, at every argument, writes into no argument, and its answer owns its memory.
-/
import Derived.Test.YtpolekinfobecaaGreatRows
import Derived.WalkKit
import Derived.ProofKit
import Derived.OpenShut
import Derived.ShutString
import Derived.ChangeOld
import Derived.Below
import Derived.Test.YtpolekinfobecaaGreatCacheNamesG01
import Derived.Test.YtpolekinfobecaaGreatCacheNamesG02
import Derived.Test.YtpolekinfobecaaGreatCacheNamesG10
import Derived.Test.YtpolekinfobecaaGreatCacheNamesG45
namespace Go.Proofs.YtpolekinfobecaaGreat.fnExactCacheNames
open Go.ChangeShapes Go.WideShapes Go.ChangeAt Go.RowKit
set_option linter.unusedVariables false

theorem own : ownKnob Tryz.prog.godebug = none := by kernel_rfl
theorem laidOut : laidOutB Tryz.prog = true := by kernel_rfl

set_option maxRecDepth 100000 in
theorem lifted (os : Os) (started : os.Started) (H : Type) (enc : TypeId × Value → H) :
  ReturnsInHanded {} Tryz.checked os 5 .any (Rows.fnExactCacheNamesSpec.pre6 enc Tryz.prog Tryz.f5 Rows.fnExactCacheNamesRow.domain false) (Rows.fnExactCacheNamesSpec.post enc Tryz.prog Tryz.f5 false true false false) := by
 refine returnsInHanded_of_change (C := Tryz.checked) own started (by kernel_rfl) Tryz.func5
  (ChangeSpec.witness6 (enc := enc) (C := Tryz.checked) false ⟨#[], #[.agg #[.int .i64 0, .int .i64 0, .slice none 0 0]], []⟩ 8 (by kernel_rfl) (by kernel_rfl) (by kernel_rfl) (by kernel_rfl)) ?_
 intro W base args ds gs before hval0 hW hcnd _
 have hval : ∀ (j : Nat) t v, Tryz.f5.params[j]? = some t → args[j]? = some v → Value.okWide Tryz.prog W .any base t v := hval0
 have hW' := hW
 obtain ⟨p, q, hA0, hV, rfl, hfz, hnd⟩ := hW
 have hA : DataW.TrodAll enc Tryz.prog W 0 (fun _ => true) true Tryz.f5.params.toList args.toList ds p := hA0
 rw [Tryz.params5] at hA hval
 obtain ⟨v0, vs0, d0, ds0, p0, q0, hargs0, rfl, rfl, h0, r0⟩ := trodAll_cons hA
 obtain ⟨rfl, rfl, rfl⟩ := trodAll_nil r0
 obtain rfl : args = #[v0] := by cases args; simp_all
 obtain ⟨rfl, rfl⟩ := trodVars_none hV
 have k0 := h0
 have lt0 : ∀ x ∈ p0, x.block < W.heap.size := by obtain ⟨m, hm⟩ := k0; exact DataW.trod_lt m _ _ _ hm
 obtain ⟨a0, c0, q0, rfl, hL0, hm0⟩ := open_cache (fun _ => rfl) (hval 0 24 v0 rfl rfl) h0
 clear hA0 hval0
 have walk : Calls Tryz.prog 5 #[.agg #[.int .i64 q0.now, .int .i64 q0.turn, .slice a0 q0.slots.length c0]] W fun e w' => e = .returned (.bool true) ∧ Below W.heap.size W w' := by
  exact lawCacheNames a0 c0 q0 W hL0 hm0
 refine walk.mono fun e W' ⟨he, bel⟩ => ?_
 subst he
 exact ⟨_, rfl, _, _, _, [], _, [], hW', trodAll_mk1 (shut_bool Tryz.underlying4 _), (trodAll_cons_mk (Below.trod laidOut (by kernel_rfl) (of_decide_eq_true (by kernel_rfl)) k0 bel lt0) trodAll_mk0), rfl, bel.frame _, fun h => by cases h⟩

theorem k_named : Tryz.pinned.checked.prog.funcNamed Rows.fnExactCacheNamesRow.func = some 5 := by kernel_rfl
theorem k_inPlace : (Rows.fnExactCacheNamesRow.inPlace == Tryz.prog.inPlace 5) = true := by kernel_rfl
theorem k_unfollowed : (Rows.fnExactCacheNamesRow.unfollowed == Tryz.prog.unfollowed 5) = true := by kernel_rfl
theorem k_recurses : (Rows.fnExactCacheNamesRow.recurses == Tryz.prog.recurses 5) = true := by kernel_rfl
theorem k_vars : (Rows.fnExactCacheNamesRow.named == Tryz.prog.varsNamed 5) = true := by kernel_rfl
theorem k_wf : Rows.fnExactCacheNamesRow.wf (OpenSpec.ofChange Rows.fnExactCacheNamesSpec) = true := by kernel_rfl
theorem k_instance : Tryz.f5.isInstance Tryz.pinned.checked.prog Rows.fnExactCacheNamesRow.origin Rows.fnExactCacheNamesRow.targs := of_decide_eq_true (by kernel_rfl)
theorem k_wrapper : Tryz.f5.isWrapper Tryz.pinned.checked.prog Rows.fnExactCacheNamesRow.wrapper Rows.fnExactCacheNamesRow.mainSum := by
 unfold Func.isWrapper
 rw [if_neg (by decide +kernel)]
 exact ⟨rfl, rfl⟩
theorem k_closed : joinedFacts Tryz.prog 5 Tryz.f5 Rows.fnExactCacheNamesSpec Rows.fnExactCacheNamesRow = true :=
 closed_of k_wf (by kernel_rfl) (by kernel_rfl) (by kernel_rfl) (by kernel_rfl) k_inPlace k_unfollowed k_recurses k_vars (by kernel_rfl) (by kernel_rfl) (by kernel_rfl) (by kernel_rfl) (by kernel_rfl) (by kernel_rfl) (by kernel_rfl) (by kernel_rfl) (by kernel_rfl) rfl rfl rfl rfl (by kernel_rfl) (by kernel_rfl) (by kernel_rfl) (by kernel_rfl)

theorem over : Rows.fnExactCacheNamesRow.holds Tryz.pinned (OpenSpec.ofChange Rows.fnExactCacheNamesSpec) :=
 OpenClaim.holds_of_wide 5 Tryz.f5 rfl rfl rfl rfl rfl rfl rfl ⟨rfl, rfl, rfl, rfl, rfl⟩ rfl rfl rfl rfl rfl k_named Tryz.func5 k_closed k_instance k_wrapper
  (fun os started H enc _ => lifted os started H enc)

theorem proved : Rows.FnExactCacheNamesSaid := over
end Go.Proofs.YtpolekinfobecaaGreat.fnExactCacheNames
