/-
 For every Zone and every Rr, laws.FnExactDrop returns true and writes into nothing that was there: the program's Drop answers as the specification's, at every argument, writes into no argument, and its answer owns its memory. No condition.
-/
import Derived.Test.YtmlcmkoefelolaaGreatRows
import Derived.WalkKit
import Derived.ProofKit
import Derived.OpenShut
import Derived.ShutString
import Derived.ChangeOld
import Derived.Below
import Derived.Test.YtmlcmkoefelolaaGreatDropG00
import Derived.Test.YtmlcmkoefelolaaGreatDropG02
import Derived.Test.YtmlcmkoefelolaaGreatDropG39
namespace Go.Proofs.YtmlcmkoefelolaaGreat.fnExactDrop
open Go.ChangeShapes Go.WideShapes Go.ChangeAt Go.RowKit
set_option linter.unusedVariables false

theorem own : ownKnob Tryz.prog.godebug = none := by kernel_rfl
theorem laidOut : laidOutB Tryz.prog = true := by kernel_rfl

set_option maxRecDepth 100000 in
theorem lifted (os : Os) (started : os.Started) (H : Type) (enc : TypeId × Value → H) :
  ReturnsInHanded {} Tryz.checked os 5 .any (Rows.fnExactDropSpec.pre6 enc Tryz.prog Tryz.f5 Rows.fnExactDropRow.domain false) (Rows.fnExactDropSpec.post enc Tryz.prog Tryz.f5 false true false false) := by
 refine returnsInHanded_of_change (C := Tryz.checked) own started (by kernel_rfl) Tryz.func5
  (ChangeSpec.witness6 (enc := enc) (C := Tryz.checked) false ⟨#[], #[.agg #[.slice none 0 0, .slice none 0 0], .agg #[.slice none 0 0, .int .i64 0, .int .i64 0, .int .i64 0, .slice none 0 0, .slice none 0 0, .slice none 0 0]], []⟩ 8 (by kernel_rfl) (by kernel_rfl) (by kernel_rfl) (by kernel_rfl)) ?_
 intro W base args ds gs before hval0 hW hcnd _
 have hval : ∀ (j : Nat) t v, Tryz.f5.params[j]? = some t → args[j]? = some v → Value.okWide Tryz.prog W .any base t v := hval0
 have hW' := hW
 obtain ⟨p, q, hA0, hV, rfl, hfz, hnd⟩ := hW
 have hA : DataW.TrodAll enc Tryz.prog W 0 (fun _ => true) true Tryz.f5.params.toList args.toList ds p := hA0
 rw [Tryz.params5] at hA hval
 obtain ⟨v0, vs0, d0, ds0, p0, q0, hargs0, rfl, rfl, h0, r0⟩ := trodAll_cons hA
 obtain ⟨v1, vs1, d1, ds1, p1, q1, hargs1, rfl, rfl, h1, r1⟩ := trodAll_cons r0
 obtain ⟨rfl, rfl, rfl⟩ := trodAll_nil r1
 obtain rfl : args = #[v0, v1] := by cases args; simp_all
 obtain ⟨rfl, rfl⟩ := trodVars_none hV
 have k0 := h0
 have lt0 : ∀ x ∈ p0, x.block < W.heap.size := by obtain ⟨m, hm⟩ := k0; exact DataW.trod_lt m _ _ _ hm
 obtain ⟨ao0, co0, ar0, cr0, o0, rs0, rfl, hmo0, hLo0, hbo0, hmr0, hLr0, hbr0⟩ := open_zone (fun _ => rfl) (hval 0 27 v0 rfl rfl) h0
 have k1 := h1
 have lt1 : ∀ x ∈ p1, x.block < W.heap.size := by obtain ⟨m, hm⟩ := k1; exact DataW.trod_lt m _ _ _ hm
 obtain ⟨an1, cn1, at1, ct1, ax1, cx1, ai1, ci1, q1, rfl, hL1, hm1⟩ := open_rec (fun _ => rfl) (hval 1 47 v1 rfl rfl) h1
 clear hA0 hval0
 have walk : Calls Tryz.prog 5 #[.agg #[.slice ao0 o0.length co0, .slice ar0 rs0.length cr0], .agg #[.slice an1 q1.name.length cn1, .int .i64 q1.type, .int .i64 q1.ttl, .int .i64 q1.addr, .slice at1 q1.to.length ct1, .slice ax1 q1.text.length cx1, .slice ai1 q1.nums.length ci1]] W fun e w' => e = .returned (.bool true) ∧ Below W.heap.size W w' := by
  exact lawDrop ao0 co0 ar0 cr0 o0 rs0 an1 cn1 at1 ct1 ax1 cx1 ai1 ci1 q1 W ⟨hLo0, hLr0⟩ ⟨hmo0, hbo0, hmr0, hbr0⟩ hL1 hm1
 refine walk.mono fun e W' ⟨he, bel⟩ => ?_
 subst he
 exact ⟨_, rfl, _, _, _, [], _, [], hW', trodAll_mk1 (shut_bool Tryz.underlying4 _), (trodAll_cons_mk (Below.trod laidOut (by kernel_rfl) (of_decide_eq_true (by kernel_rfl)) k0 bel lt0) (trodAll_cons_mk (Below.trod laidOut (by kernel_rfl) (of_decide_eq_true (by kernel_rfl)) k1 bel lt1) trodAll_mk0)), rfl, bel.frame _, fun h => by cases h⟩

theorem k_named : Tryz.pinned.checked.prog.funcNamed Rows.fnExactDropRow.func = some 5 := by kernel_rfl
theorem k_inPlace : (Rows.fnExactDropRow.inPlace == Tryz.prog.inPlace 5) = true := by kernel_rfl
theorem k_unfollowed : (Rows.fnExactDropRow.unfollowed == Tryz.prog.unfollowed 5) = true := by kernel_rfl
theorem k_recurses : (Rows.fnExactDropRow.recurses == Tryz.prog.recurses 5) = true := by kernel_rfl
theorem k_vars : (Rows.fnExactDropRow.named == Tryz.prog.varsNamed 5) = true := by kernel_rfl
theorem k_wf : Rows.fnExactDropRow.wf (OpenSpec.ofChange Rows.fnExactDropSpec) = true := by kernel_rfl
theorem k_instance : Tryz.f5.isInstance Tryz.pinned.checked.prog Rows.fnExactDropRow.origin Rows.fnExactDropRow.targs := of_decide_eq_true (by kernel_rfl)
theorem k_wrapper : Tryz.f5.isWrapper Tryz.pinned.checked.prog Rows.fnExactDropRow.wrapper Rows.fnExactDropRow.mainSum := by
 unfold Func.isWrapper
 rw [if_neg (by decide +kernel)]
 exact ⟨rfl, rfl⟩
theorem k_closed : joinedFacts Tryz.prog 5 Tryz.f5 Rows.fnExactDropSpec Rows.fnExactDropRow = true :=
 closed_of k_wf (by kernel_rfl) (by kernel_rfl) (by kernel_rfl) (by kernel_rfl) k_inPlace k_unfollowed k_recurses k_vars (by kernel_rfl) (by kernel_rfl) (by kernel_rfl) (by kernel_rfl) (by kernel_rfl) (by kernel_rfl) (by kernel_rfl) (by kernel_rfl) (by kernel_rfl) rfl rfl rfl rfl (by kernel_rfl) (by kernel_rfl) (by kernel_rfl) (by kernel_rfl)

theorem over : Rows.fnExactDropRow.holds Tryz.pinned (OpenSpec.ofChange Rows.fnExactDropSpec) :=
 OpenClaim.holds_of_wide 5 Tryz.f5 rfl rfl rfl rfl rfl rfl rfl ⟨rfl, rfl, rfl, rfl, rfl⟩ rfl rfl rfl rfl rfl k_named Tryz.func5 k_closed k_instance k_wrapper
  (fun os started H enc _ => lifted os started H enc)

theorem proved : Rows.FnExactDropSaid := over
end Go.Proofs.YtmlcmkoefelolaaGreat.fnExactDrop
