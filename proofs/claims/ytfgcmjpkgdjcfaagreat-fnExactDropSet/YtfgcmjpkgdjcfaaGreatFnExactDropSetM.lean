/-
 For every Zone, every Name and every int, laws.FnExactDropSet returns true and writes into nothing that was there: the program's DropSet answers as the specification's, at every argument, writes into no argument, and its answer owns its memory. No condition.
-/
import Derived.Test.YtfgcmjpkgdjcfaaGreatRows
import Derived.WalkKit
import Derived.ProofKit
import Derived.OpenShut
import Derived.ShutString
import Derived.ChangeOld
import Derived.Below
import Derived.Test.YtfgcmjpkgdjcfaaGreatDropSetG00
import Derived.Test.YtfgcmjpkgdjcfaaGreatDropSetG02
import Derived.Test.YtfgcmjpkgdjcfaaGreatDropSetG40
namespace Go.Proofs.YtfgcmjpkgdjcfaaGreat.fnExactDropSet
open Go.ChangeShapes Go.WideShapes Go.ChangeAt Go.RowKit
set_option linter.unusedVariables false

theorem own : ownKnob Tryz.prog.godebug = none := by kernel_rfl
theorem laidOut : laidOutB Tryz.prog = true := by kernel_rfl

set_option maxRecDepth 100000 in
theorem lifted (os : Os) (started : os.Started) (H : Type) (enc : TypeId × Value → H) :
  ReturnsInHanded {} Tryz.checked os 3 .any (Rows.fnExactDropSetSpec.pre6 enc Tryz.prog Tryz.f3 Rows.fnExactDropSetRow.domain false) (Rows.fnExactDropSetSpec.post enc Tryz.prog Tryz.f3 false true false false) := by
 refine returnsInHanded_of_change (C := Tryz.checked) own started (by kernel_rfl) Tryz.func3
  (ChangeSpec.witness6 (enc := enc) (C := Tryz.checked) false ⟨#[], #[.agg #[.slice none 0 0, .slice none 0 0], .agg #[.slice none 0 0], .int .i64 0], []⟩ 8 (by kernel_rfl) (by kernel_rfl) (by kernel_rfl) (by kernel_rfl)) ?_
 intro W base args ds gs before hval0 hW hcnd _
 have hval : ∀ (j : Nat) t v, Tryz.f3.params[j]? = some t → args[j]? = some v → Value.okWide Tryz.prog W .any base t v := hval0
 have hW' := hW
 obtain ⟨p, q, hA0, hV, rfl, hfz, hnd⟩ := hW
 have hA : DataW.TrodAll enc Tryz.prog W 0 (fun _ => true) true Tryz.f3.params.toList args.toList ds p := hA0
 rw [Tryz.params3] at hA hval
 obtain ⟨v0, vs0, d0, ds0, p0, q0, hargs0, rfl, rfl, h0, r0⟩ := trodAll_cons hA
 obtain ⟨v1, vs1, d1, ds1, p1, q1, hargs1, rfl, rfl, h1, r1⟩ := trodAll_cons r0
 obtain ⟨v2, vs2, d2, ds2, p2, q2, hargs2, rfl, rfl, h2, r2⟩ := trodAll_cons r1
 obtain ⟨rfl, rfl, rfl⟩ := trodAll_nil r2
 obtain rfl : args = #[v0, v1, v2] := by cases args; simp_all
 obtain ⟨rfl, rfl⟩ := trodVars_none hV
 have k0 := h0
 have lt0 : ∀ x ∈ p0, x.block < W.heap.size := by obtain ⟨m, hm⟩ := k0; exact DataW.trod_lt m _ _ _ hm
 obtain ⟨ao0, co0, ar0, cr0, o0, rs0, rfl, hmo0, hLo0, hbo0, hmr0, hLr0, hbr0⟩ := open_zone (fun _ => rfl) (hval 0 27 v0 rfl rfl) h0
 have k1 := h1
 have lt1 : ∀ x ∈ p1, x.block < W.heap.size := by obtain ⟨m, hm⟩ := k1; exact DataW.trod_lt m _ _ _ hm
 obtain ⟨a1, cap1, n1, rfl, hm1, hL1, hb1⟩ := open_name Tryz.underlying24 rfl rfl (by kernel_rfl) (by kernel_rfl) Tryz.underlying22 Tryz.underlying56 Tryz.underlying5 (by kernel_rfl) (by kernel_rfl) (fun _ => rfl) (hval 1 24 v1 rfl rfl) h1
 obtain ⟨x2, rfl, rfl, rfl, w2⟩ := open_int Tryz.underlying3 (hval 2 3 v2 rfl rfl) h2
 clear hA0 hval0
 have walk : Calls Tryz.prog 3 #[.agg #[.slice ao0 o0.length co0, .slice ar0 rs0.length cr0], .agg #[.slice a1 n1.length cap1], .int .i64 x2] W fun e w' => e = .returned (.bool true) ∧ Below W.heap.size W w' := by
  exact lawDropSet ao0 co0 ar0 cr0 o0 rs0 a1 cap1 n1 x2 W ⟨hLo0, hLr0⟩ ⟨hmo0, hbo0, hmr0, hbr0⟩ hL1 hm1 (fun i hi => (hb1 i hi).1) w2
 refine walk.mono fun e W' ⟨he, bel⟩ => ?_
 subst he
 exact ⟨_, rfl, _, _, _, [], _, [], hW', trodAll_mk1 (shut_bool Tryz.underlying4 _), (trodAll_cons_mk (Below.trod laidOut (by kernel_rfl) (of_decide_eq_true (by kernel_rfl)) k0 bel lt0) (trodAll_cons_mk (Below.trod laidOut (by kernel_rfl) (of_decide_eq_true (by kernel_rfl)) k1 bel lt1) (trodAll_cons_mk (shut_int Tryz.underlying3 w2) trodAll_mk0))), rfl, bel.frame _, fun h => by cases h⟩

theorem k_named : Tryz.pinned.checked.prog.funcNamed Rows.fnExactDropSetRow.func = some 3 := by kernel_rfl
theorem k_inPlace : (Rows.fnExactDropSetRow.inPlace == Tryz.prog.inPlace 3) = true := by kernel_rfl
theorem k_unfollowed : (Rows.fnExactDropSetRow.unfollowed == Tryz.prog.unfollowed 3) = true := by kernel_rfl
theorem k_recurses : (Rows.fnExactDropSetRow.recurses == Tryz.prog.recurses 3) = true := by kernel_rfl
theorem k_vars : (Rows.fnExactDropSetRow.named == Tryz.prog.varsNamed 3) = true := by kernel_rfl
theorem k_wf : Rows.fnExactDropSetRow.wf (OpenSpec.ofChange Rows.fnExactDropSetSpec) = true := by kernel_rfl
theorem k_instance : Tryz.f3.isInstance Tryz.pinned.checked.prog Rows.fnExactDropSetRow.origin Rows.fnExactDropSetRow.targs := of_decide_eq_true (by kernel_rfl)
theorem k_wrapper : Tryz.f3.isWrapper Tryz.pinned.checked.prog Rows.fnExactDropSetRow.wrapper Rows.fnExactDropSetRow.mainSum := by
 unfold Func.isWrapper
 rw [if_neg (by decide +kernel)]
 exact ⟨rfl, rfl⟩
theorem k_closed : joinedFacts Tryz.prog 3 Tryz.f3 Rows.fnExactDropSetSpec Rows.fnExactDropSetRow = true :=
 closed_of k_wf (by kernel_rfl) (by kernel_rfl) (by kernel_rfl) (by kernel_rfl) k_inPlace k_unfollowed k_recurses k_vars (by kernel_rfl) (by kernel_rfl) (by kernel_rfl) (by kernel_rfl) (by kernel_rfl) (by kernel_rfl) (by kernel_rfl) (by kernel_rfl) (by kernel_rfl) rfl rfl rfl rfl (by kernel_rfl) (by kernel_rfl) (by kernel_rfl) (by kernel_rfl)

theorem over : Rows.fnExactDropSetRow.holds Tryz.pinned (OpenSpec.ofChange Rows.fnExactDropSetSpec) :=
 OpenClaim.holds_of_wide 3 Tryz.f3 rfl rfl rfl rfl rfl rfl rfl ⟨rfl, rfl, rfl, rfl, rfl⟩ rfl rfl rfl rfl rfl k_named Tryz.func3 k_closed k_instance k_wrapper
  (fun os started H enc _ => lifted os started H enc)

theorem proved : Rows.FnExactDropSetSaid := over
end Go.Proofs.YtfgcmjpkgdjcfaaGreat.fnExactDropSet
