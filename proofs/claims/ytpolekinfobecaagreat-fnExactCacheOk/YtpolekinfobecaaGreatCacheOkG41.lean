/-
  The walk of laws.FnExactCacheOk.
-/
import Derived.Test.YtpolekinfobecaaGreatCacheOkG15
import Derived.Test.YtpolekinfobecaaGreatCacheOkG30
import Derived.Test.YtpolekinfobecaaGreatCacheOkG40
import Derived.Test.YtpolekinfobecaaGreatCacheOkG03
import Derived.Test.YtpolekinfobecaaGreatCacheOkG25
namespace Go.Proofs.YtpolekinfobecaaGreat
open Go.RowKit
set_option linter.unusedVariables false

set_option maxHeartbeats 8000000 in
set_option maxRecDepth 100000 in
theorem lawCacheOk (a : Option Addr) (k : Nat) (c : Ca) (w : World) (h : LiesSs w a c.slots) (hm : SizeCa maxLen c) :
  Calls Tryz.prog 3 #[.agg #[.int .i64 c.now, .int .i64 c.turn, .slice a c.slots.length k]] w fun e w' => e = .returned (.bool true) ∧ Below w.heap.size w w' := by
 have bb := below_alloc (w := w) (.cells #[.int .i64 c.now, .int .i64 c.turn, .slice a c.slots.length k] 24)
 have K0 := hide (heap_alloc_new w (.cells #[.int .i64 c.now, .int .i64 c.turn, .slice a c.slots.length k] 24))
 have L0 := hide h
 have HM := hide hm
 clear h hm
 go_enter Tryz.func3, Tryz.ntmps3
 go_wp2_with fail
 generalize w.alloc (.cells #[.int .i64 c.now, .int .i64 c.turn, .slice a c.slots.length k] 24) = W at *
 have zk0 := block_lt (unhide K0)
 refine (szCache_any a k c 1048576 _ (lowSs (unhide L0) bb) (unhide HM) (by omega) (by omega)).mono ?_
 rintro e w1 ⟨⟨y, rfl, hr0, hr1, hr2⟩, b1⟩
 replace bb := below_next bb b1
 replace K0 := hide (block_kept b1 (unhide K0))
 have z1 := b1.size
 clear b1
 generalize Value.agg #[.int .i64 c.now, .int .i64 c.turn, .slice a c.slots.length k] = V1
 by_cases hneg : y < 0
 ·clear hr2
  go_wp2_with fail
  go_ret
  exact ⟨rfl, bb⟩
 have HS := hide ((hr2 (by omega)).mono (m' := 1048576) (by omega))
 have HSS := hide ((unhide HS).mono (m' := 2097152) (by omega))
 clear hr2 HM
 obtain ⟨G0, SP, IM⟩ : ∃ G0 : Bool, (∀ (w : World) (v : Value), HasSs w v c.slots → Calls Tryz.prog 7 #[.agg #[.int .i64 c.now, .int .i64 c.turn, v]] w fun e w' => e = .returned (.bool G0) ∧ Below w.heap.size w w') ∧ (∀ (w : World) (v : Value), HasSs w v c.slots → Calls Tryz.prog 9 #[.agg #[.int .i64 c.now, .int .i64 c.turn, v]] w fun e w' => e = .returned (.bool G0) ∧ Below w.heap.size w w') :=
  ⟨cacheOk c, fun w v h => specCacheOk_has h (unhide HS), fun w v h => implCacheOk_has h⟩
 have hgg : (G0 != G0) = false := by simp
 replace SP := hide SP
 replace IM := hide IM
 obtain ⟨k0, k1, k2⟩ := cells3 (unhide K0)
 go_wp2_with fail
 clear k0 k1 k2
 refine (toCache_own a k c _ (lowSs (unhide L0) bb) (unhide HS)).mono ?_
 rintro e w2 ⟨v2, rfl, o2, b2⟩
 obtain ⟨x2, y2, rfl, _⟩ := o2.form
 have A2 := hide (RowSl.hasS o2)
 clear o2
 replace bb := below_next bb b2
 replace K0 := hide (block_kept b2 (unhide K0))
 have z2 := b2.size
 clear b2
 obtain ⟨k0, k1, k2⟩ := cells3 (unhide K0)
 go_wp2_with fail
 clear k0 k1 k2
 refine (unhide SP _ _ (unhide A2)).mono ?_
 rintro e w3 ⟨rfl, b3⟩
 clear A2
 generalize Value.agg #[.int .i64 c.now, .int .i64 c.turn, .slice a c.slots.length k] = V2
 generalize Value.agg #[.int .i64 c.now, .int .i64 c.turn, .slice x2 c.slots.length y2] = V3
 replace bb := below_next bb b3
 replace K0 := hide (block_kept b3 (unhide K0))
 have z3 := b3.size
 clear b3
 obtain ⟨k0, k1, k2⟩ := cells3 (unhide K0)
 go_wp2_with fail
 clear k0 k1 k2
 refine (toCache_own a k c _ (lowSs (unhide L0) bb) (unhide HS)).mono ?_
 rintro e w4 ⟨v4, rfl, o4, b4⟩
 obtain ⟨x4, y4, rfl, _⟩ := o4.form
 have X0 := hide (RowSl.hasS o4)
 clear o4
 replace bb := below_next bb b4
 replace K0 := hide (block_kept b4 (unhide K0))
 have z4 := b4.size
 clear b4
 have b5 := below_alloc (w := w4) (.cells #[.int .i64 c.now, .int .i64 c.turn, .slice x4 c.slots.length y4] 29)
 have VX := hide (heap_alloc_new w4 (.cells #[.int .i64 c.now, .int .i64 c.turn, .slice x4 c.slots.length y4] 29))
 obtain ⟨k0, k1, k2⟩ := cells3 (block_kept b5 (unhide K0))
 go_wp2_with fail
 clear k0 k1 k2
 generalize w4.alloc (.cells #[.int .i64 c.now, .int .i64 c.turn, .slice x4 c.slots.length y4] 29) = w5 at *
 replace bb := below_next bb b5
 replace K0 := hide (block_kept b5 (unhide K0))
 replace X0 := hide (keptSs (unhide X0) b5)
 have z5 := b5.size
 clear b5
 refine (unhide IM _ _ (unhide X0)).mono ?_
 rintro e w6 ⟨rfl, b6⟩
 generalize Value.agg #[.int .i64 c.now, .int .i64 c.turn, .slice a c.slots.length k] = V4
 generalize Value.agg #[.int .i64 c.now, .int .i64 c.turn, .slice x4 c.slots.length y4] = V5
 have b7 := below_next b6 (below_drew (w := w6))
 replace bb := below_next bb b7
 replace K0 := hide (block_kept b7 (unhide K0))
 replace VX := hide (block_kept b7 (unhide VX))
 replace X0 := hide (keptSs (unhide X0) b7)
 clear b6 b7
 obtain ⟨k0, k1, k2⟩ := cells3 (unhide K0)
 obtain ⟨x0, x1, x2⟩ := cells3 (unhide VX)
 go_wp2_with fail
 clear k0 k1 k2 x0 x1 x2
 refine startF 5 (S := (fun w' => (w'.cell? ⟨w.heap.size, 0, none⟩ = some (.int .i64 c.now) ∧ w'.cell? ⟨w.heap.size, 1, none⟩ = some (.int .i64 c.turn) ∧ w'.cell? ⟨w.heap.size, 2, none⟩ = some (.slice a c.slots.length k)) ∧ (w'.cell? ⟨w4.heap.size, 0, none⟩ = some (.int .i64 c.now) ∧ w'.cell? ⟨w4.heap.size, 1, none⟩ = some (.int .i64 c.turn) ∧ w'.cell? ⟨w4.heap.size, 2, none⟩ = some (.slice x4 c.slots.length y4)))) (by kernel_rfl) rfl ⟨cells3 (unhide K0), cells3 (unhide VX)⟩ (fun hHeld => ?_)
 simp only [List.replicate]
 repeat ((first | (refine tkF ?_ rfl (by kernel_rfl) (by rfl) (fun _ _ _ h => h) ?_ hHeld ?_; rotate_left; · (intro w hSw; (try dsimp only at hSw); go_simp <;> with_reducible rfl)) | refine skF rfl (by kernel_rfl) (by rfl) (fun _ _ _ h => h) hHeld ?_); simp only [Act.put, setF, List.setIfInBounds_toArray, List.set_cons_zero, List.set_cons_succ])
 refine runI 2 rfl (by kernel_rfl) (by kernel_rfl) (fun K hK => ?_)
 have HK := hide hK
 clear hK hHeld
 go_simp
 refine (toCache_own a k c _ (lowSs (unhide L0) bb) (unhide HS)).mono ?_
 rintro e w8 ⟨v8, rfl, o8, b8⟩
 obtain ⟨x8, y8, rfl, _⟩ := o8.form
 refine (unhide HK).out _ _ ⟨cells3 (block_kept b8 (unhide K0)), cells3 (block_kept b8 (unhide VX))⟩ (fun hHeld => ?_)
 clear HK K
 simp only [List.setIfInBounds_toArray, List.set_cons_zero, List.set_cons_succ]
 refine runI 3 rfl (by kernel_rfl) (by kernel_rfl) (fun K hK => ?_)
 have HK := hide hK
 clear hK hHeld
 go_simp
 refine (eqCache_has (keptSs (unhide X0) b8) (RowSl.hasS o8) (unhide HSS)).mono ?_
 rintro e w9 ⟨rfl, b9⟩
 have q9 := below_next b8 b9
 refine (unhide HK).out _ _ ⟨cells3 (block_kept q9 (unhide K0)), cells3 (block_kept q9 (unhide VX))⟩ (fun hHeld => ?_)
 clear HK K
 simp only [List.setIfInBounds_toArray, List.set_cons_zero, List.set_cons_succ]
 repeat ((first | (refine tkF ?_ rfl (by kernel_rfl) (by rfl) (fun _ _ _ h => h) ?_ hHeld ?_; rotate_left; · (intro w hSw; (try dsimp only at hSw); go_simp <;> with_reducible rfl)) | refine skF rfl (by kernel_rfl) (by rfl) (fun _ _ _ h => h) hHeld ?_); simp only [Act.put, setF, List.setIfInBounds_toArray, List.set_cons_zero, List.set_cons_succ])
 refine wpAnyH_done (by kernel_rfl) ?_ _
 clear hHeld
 clear b8 b9 o8
 replace bb := below_next bb q9
 go_wp2_with fail
 go_ret
 exact ⟨rfl, bb⟩
end Go.Proofs.YtpolekinfobecaaGreat
