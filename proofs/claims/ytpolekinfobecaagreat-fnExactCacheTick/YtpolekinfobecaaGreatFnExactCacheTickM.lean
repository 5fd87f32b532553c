/-
 For every Cache and every moment, laws.FnExactCacheTick returns true and writes into nothing that was there: the program's CacheTick answers as the specification's, at every argument, writes into no argument, and its answer owns its memory.
-/
import Derived.Test.YtpolekinfobecaaGreatRows
import Derived.WalkKit
import Derived.ProofKit
import Derived.OpenShut
import Derived.ShutString
import Derived.ChangeOld
import Derived.Below
import Derived.Test.YtpolekinfobecaaGreatCacheTickG01
import Derived.Test.YtpolekinfobecaaGreatCacheTickG09
import Derived.Test.YtpolekinfobecaaGreatCacheTickG47
namespace Go.Proofs.YtpolekinfobecaaGreat.fnExactCacheTick
open Go.ChangeShapes Go.WideShapes Go.ChangeAt Go.RowKit
set_option linter.unusedVariables false

theorem own : ownKnob Tryz.prog.godebug = none := by kernel_rfl
theorem laidOut : laidOutB Tryz.prog = true := by kernel_rfl

set_option maxRecDepth 100000 in
theorem lifted (os : Os) (started : os.Started) (H : Type) (enc : TypeId × Value → H) :
  ReturnsInHanded {} Tryz.checked os 4 .any (Rows.fnExactCacheTickSpec.pre6 enc Tryz.prog Tryz.f4 Rows.fnExactCacheTickRow.domain false) (Rows.fnExactCacheTickSpec.post enc Tryz.prog Tryz.f4 false true false false) := by
 refine returnsInHanded_of_change (C := Tryz.checked) own started (by kernel_rfl) Tryz.func4
  (ChangeSpec.witness6 (enc := enc) (C := Tryz.checked) false ⟨#[], #[.agg #[.int .i64 0, .int .i64 0, .slice none 0 0], .int .i64 0], []⟩ 8 (by kernel_rfl) (by kernel_rfl) (by kernel_rfl) (by kernel_rfl)) ?_
 intro W base args ds gs before hval0 hW hcnd _
 have hval : ∀ (j : Nat) t v, Tryz.f4.params[j]? = some t → args[j]? = some v → Value.okWide Tryz.prog W .any base t v := hval0
 have hW' := hW
 obtain ⟨p, q, hA0, hV, rfl, hfz, hnd⟩ := hW
 have hA : DataW.TrodAll enc Tryz.prog W 0 (fun _ => true) true Tryz.f4.params.toList args.toList ds p := hA0
 rw [Tryz.params4] at hA hval
 obtain ⟨v0, vs0, d0, ds0, p0, q0, hargs0, rfl, rfl, h0, r0⟩ := trodAll_cons hA
 obtain ⟨v1, vs1, d1, ds1, p1, q1, hargs1, rfl, rfl, h1, r1⟩ := trodAll_cons r0
 obtain ⟨rfl, rfl, rfl⟩ := trodAll_nil r1
 obtain rfl : args = #[v0, v1] := by cases args; simp_all
 obtain ⟨rfl, rfl⟩ := trodVars_none hV
 have k0 := h0
 have lt0 : ∀ x ∈ p0, x.block < W.heap.size := by obtain ⟨m, hm⟩ := k0; exact DataW.trod_lt m _ _ _ hm
 obtain ⟨a0, c0, q0, rfl, hL0, hm0⟩ := open_cache (fun _ => rfl) (hval 0 24 v0 rfl rfl) h0
 obtain ⟨x1, rfl, rfl, rfl, w1⟩ := open_int Tryz.underlying3 (hval 1 3 v1 rfl rfl) h1
 clear hA0 hval0
 have walk : Calls Tryz.prog 4 #[.agg #[.int .i64 q0.now, .int .i64 q0.turn, .slice a0 q0.slots.length c0], .int .i64 x1] W fun e w' => e = .returned (.bool true) ∧ Below W.heap.size W w' := by
  exact lawCacheTick a0 c0 q0 x1 W hL0 hm0
 refine walk.mono fun e W' ⟨he, bel⟩ => ?_
 subst he
 exact ⟨_, rfl, _, _, _, [], _, [], hW', trodAll_mk1 (shut_bool Tryz.underlying4 _), (trodAll_cons_mk (Below.trod laidOut (by kernel_rfl) (of_decide_eq_true (by kernel_rfl)) k0 bel lt0) (trodAll_cons_mk (shut_int Tryz.underlying3 w1) trodAll_mk0)), rfl, bel.frame _, fun h => by cases h⟩

theorem k_named : Tryz.pinned.checked.prog.funcNamed Rows.fnExactCacheTickRow.func = some 4 := by kernel_rfl
theorem k_inPlace : (Rows.fnExactCacheTickRow.inPlace == Tryz.prog.inPlace 4) = true := by kernel_rfl
theorem k_unfollowed : (Rows.fnExactCacheTickRow.unfollowed == Tryz.prog.unfollowed 4) = true := by kernel_rfl
theorem k_recurses : (Rows.fnExactCacheTickRow.recurses == Tryz.prog.recurses 4) = true := by kernel_rfl
theorem k_vars : (Rows.fnExactCacheTickRow.named == Tryz.prog.varsNamed 4) = true := by kernel_rfl
theorem k_wf : Rows.fnExactCacheTickRow.wf (OpenSpec.ofChange Rows.fnExactCacheTickSpec) = true := by kernel_rfl
theorem k_instance : Tryz.f4.isInstance Tryz.pinned.checked.prog Rows.fnExactCacheTickRow.origin Rows.fnExactCacheTickRow.targs := of_decide_eq_true (by kernel_rfl)
theorem k_wrapper : Tryz.f4.isWrapper Tryz.pinned.checked.prog Rows.fnExactCacheTickRow.wrapper Rows.fnExactCacheTickRow.mainSum := by
 unfold Func.isWrapper
 rw [if_neg (by decide +kernel)]
 exact ⟨rfl, rfl⟩
theorem k_closed : joinedFacts Tryz.prog 4 Tryz.f4 Rows.fnExactCacheTickSpec Rows.fnExactCacheTickRow = true :=
 closed_of k_wf (by kernel_rfl) (by kernel_rfl) (by kernel_rfl) (by kernel_rfl) k_inPlace k_unfollowed k_recurses k_vars (by kernel_rfl) (by kernel_rfl) (by kernel_rfl) (by kernel_rfl) (by kernel_rfl) (by kernel_rfl) (by kernel_rfl) (by kernel_rfl) (by kernel_rfl) rfl rfl rfl rfl (by kernel_rfl) (by kernel_rfl) (by kernel_rfl) (by kernel_rfl)

theorem over : Rows.fnExactCacheTickRow.holds Tryz.pinned (OpenSpec.ofChange Rows.fnExactCacheTickSpec) :=
 OpenClaim.holds_of_wide 4 Tryz.f4 rfl rfl rfl rfl rfl rfl rfl ⟨rfl, rfl, rfl, rfl, rfl⟩ rfl rfl rfl rfl rfl k_named Tryz.func4 k_closed k_instance k_wrapper
  (fun os started H enc _ => lifted os started H enc)

theorem proved : Rows.FnExactCacheTickSaid := over
end Go.Proofs.YtpolekinfobecaaGreat.fnExactCacheTick
