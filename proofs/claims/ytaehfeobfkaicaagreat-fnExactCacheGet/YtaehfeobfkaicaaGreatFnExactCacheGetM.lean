/-
 FnExactCacheGet: the program's CacheGet answers as the specification's.
-/
import Derived.Test.YtaehfeobfkaicaaGreatRows
import Derived.WalkKit
import Derived.ProofKit
import Derived.OpenShut
import Derived.ShutString
import Derived.ChangeOld
import Derived.Below
import Derived.Test.YtaehfeobfkaicaaGreatCacheGetG01
import Derived.Test.YtaehfeobfkaicaaGreatCacheGetG06
import Derived.Test.YtaehfeobfkaicaaGreatCacheGetG47
namespace Go.Proofs.YtaehfeobfkaicaaGreat.fnExactCacheGet
open Go.ChangeShapes Go.WideShapes Go.ChangeAt Go.RowKit
set_option linter.unusedVariables false

theorem own : ownKnob Tryz.prog.godebug = none := by kernel_rfl
theorem laidOut : laidOutB Tryz.prog = true := by kernel_rfl

set_option maxRecDepth 100000 in
theorem lifted (os : Os) (started : os.Started) (H : Type) (enc : TypeId × Value → H) :
  ReturnsInHanded {} Tryz.checked os 5 .any (Rows.fnExactCacheGetSpec.pre6 enc Tryz.prog Tryz.f5 Rows.fnExactCacheGetRow.domain false) (Rows.fnExactCacheGetSpec.post enc Tryz.prog Tryz.f5 false true false false) := by
 refine returnsInHanded_of_change (C := Tryz.checked) own started (by kernel_rfl) Tryz.func5
  (ChangeSpec.witness6 (enc := enc) (C := Tryz.checked) false ⟨#[], #[.agg #[.int .i64 0, .int .i64 0, .slice none 0 0], .agg #[.slice none 0 0], .int .i64 0], []⟩ 8 (by kernel_rfl) (by kernel_rfl) (by kernel_rfl) (by kernel_rfl)) ?_
 intro W base args ds gs before hval0 hW hcnd _
 have hval : ∀ (j : Nat) t v, Tryz.f5.params[j]? = some t → args[j]? = some v → Value.okWide Tryz.prog W .any base t v := hval0
 have hW' := hW
 obtain ⟨p, q, hA0, hV, rfl, hfz, hnd⟩ := hW
 have hA : DataW.TrodAll enc Tryz.prog W 0 (fun _ => true) true Tryz.f5.params.toList args.toList ds p := hA0
 rw [Tryz.params5] at hA hval
 obtain ⟨v0, vs0, d0, ds0, p0, q0, hargs0, rfl, rfl, h0, r0⟩ := trodAll_cons hA
 obtain ⟨v1, vs1, d1, ds1, p1, q1, hargs1, rfl, rfl, h1, r1⟩ := trodAll_cons r0
 obtain ⟨v2, vs2, d2, ds2, p2, q2, hargs2, rfl, rfl, h2, r2⟩ := trodAll_cons r1
 obtain ⟨rfl, rfl, rfl⟩ := trodAll_nil r2
 obtain rfl : args = #[v0, v1, v2] := by cases args; simp_all
 obtain ⟨rfl, rfl⟩ := trodVars_none hV
 have k0 := h0
 have lt0 : ∀ x ∈ p0, x.block < W.heap.size := by obtain ⟨m, hm⟩ := k0; exact DataW.trod_lt m _ _ _ hm
 obtain ⟨a0, c0, q0, rfl, hL0, hm0⟩ := open_cache (fun _ => rfl) (hval 0 24 v0 rfl rfl) h0
 have k1 := h1
 have lt1 : ∀ x ∈ p1, x.block < W.heap.size := by obtain ⟨m, hm⟩ := k1; exact DataW.trod_lt m _ _ _ hm
 obtain ⟨a1, cap1, n1, rfl, hm1, hL1, hb1⟩ := open_name Tryz.underlying43 rfl rfl (by kernel_rfl) (by kernel_rfl) Tryz.underlying41 Tryz.underlying56 Tryz.underlying5 (by kernel_rfl) (by kernel_rfl) (fun _ => rfl) (hval 1 43 v1 rfl rfl) h1
 obtain ⟨x2, rfl, rfl, rfl, w2⟩ := open_int Tryz.underlying3 (hval 2 3 v2 rfl rfl) h2
 clear hA0 hval0
 have walk : Calls Tryz.prog 5 #[.agg #[.int .i64 q0.now, .int .i64 q0.turn, .slice a0 q0.slots.length c0], .agg #[.slice a1 n1.length cap1], .int .i64 x2] W fun e w' => e = .returned (.bool true) ∧ Below W.heap.size W w' := by
  exact lawCacheGet a0 c0 q0 a1 cap1 n1 x2 W hL0 hm0 hL1 hm1 (fun i hi => (hb1 i hi).1)
 refine walk.mono fun e W' ⟨he, bel⟩ => ?_
 subst he
 exact ⟨_, rfl, _, _, _, [], _, [], hW', trodAll_mk1 (shut_bool Tryz.underlying4 _), (trodAll_cons_mk (Below.trod laidOut (by kernel_rfl) (of_decide_eq_true (by kernel_rfl)) k0 bel lt0) (trodAll_cons_mk (Below.trod laidOut (by kernel_rfl) (of_decide_eq_true (by kernel_rfl)) k1 bel lt1) (trodAll_cons_mk (shut_int Tryz.underlying3 w2) trodAll_mk0))), rfl, bel.frame _, fun h => by cases h⟩

theorem k_named : Tryz.pinned.checked.prog.funcNamed Rows.fnExactCacheGetRow.func = some 5 := by kernel_rfl
theorem k_inPlace : (Rows.fnExactCacheGetRow.inPlace == Tryz.prog.inPlace 5) = true := by kernel_rfl
theorem k_unfollowed : (Rows.fnExactCacheGetRow.unfollowed == Tryz.prog.unfollowed 5) = true := by kernel_rfl
theorem k_recurses : (Rows.fnExactCacheGetRow.recurses == Tryz.prog.recurses 5) = true := by kernel_rfl
theorem k_vars : (Rows.fnExactCacheGetRow.named == Tryz.prog.varsNamed 5) = true := by kernel_rfl
theorem k_wf : Rows.fnExactCacheGetRow.wf (OpenSpec.ofChange Rows.fnExactCacheGetSpec) = true := by kernel_rfl
theorem k_instance : Tryz.f5.isInstance Tryz.pinned.checked.prog Rows.fnExactCacheGetRow.origin Rows.fnExactCacheGetRow.targs := of_decide_eq_true (by kernel_rfl)
theorem k_wrapper : Tryz.f5.isWrapper Tryz.pinned.checked.prog Rows.fnExactCacheGetRow.wrapper Rows.fnExactCacheGetRow.mainSum := by
 unfold Func.isWrapper
 rw [if_neg (by decide +kernel)]
 exact ⟨rfl, rfl⟩
theorem k_closed : joinedFacts Tryz.prog 5 Tryz.f5 Rows.fnExactCacheGetSpec Rows.fnExactCacheGetRow = true :=
 closed_of k_wf (by kernel_rfl) (by kernel_rfl) (by kernel_rfl) (by kernel_rfl) k_inPlace k_unfollowed k_recurses k_vars (by kernel_rfl) (by kernel_rfl) (by kernel_rfl) (by kernel_rfl) (by kernel_rfl) (by kernel_rfl) (by kernel_rfl) (by kernel_rfl) (by kernel_rfl) rfl rfl rfl rfl (by kernel_rfl) (by kernel_rfl) (by kernel_rfl) (by kernel_rfl)

theorem over : Rows.fnExactCacheGetRow.holds Tryz.pinned (OpenSpec.ofChange Rows.fnExactCacheGetSpec) :=
 OpenClaim.holds_of_wide 5 Tryz.f5 rfl rfl rfl rfl rfl rfl rfl ⟨rfl, rfl, rfl, rfl, rfl⟩ rfl rfl rfl rfl rfl k_named Tryz.func5 k_closed k_instance k_wrapper
  (fun os started H enc _ => lifted os started H enc)

theorem proved : Rows.FnExactCacheGetSaid := over
end Go.Proofs.YtaehfeobfkaicaaGreat.fnExactCacheGet
