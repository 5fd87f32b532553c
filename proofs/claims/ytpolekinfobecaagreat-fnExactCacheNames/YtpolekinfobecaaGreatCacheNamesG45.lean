/-
  The walk of laws.FnExactCacheNames.
-/
import Derived.Test.YtpolekinfobecaaGreatCacheNamesG15
import Derived.Test.YtpolekinfobecaaGreatCacheNamesG14
import Derived.Test.YtpolekinfobecaaGreatCacheNamesG31
import Derived.Test.YtpolekinfobecaaGreatCacheNamesG41
import Derived.Test.YtpolekinfobecaaGreatCacheNamesG42
import Derived.Test.YtpolekinfobecaaGreatCacheNamesG44
import Derived.Test.YtpolekinfobecaaGreatCacheNamesG03
import Derived.Test.YtpolekinfobecaaGreatCacheNamesG30
namespace Go.Proofs.YtpolekinfobecaaGreat
open Go.RowKit
set_option linter.unusedVariables false

set_option maxHeartbeats 8000000 in
set_option maxRecDepth 100000 in
theorem lawCacheNames (a : Option Addr) (k : Nat) (c : Ca) (w : World) (h : LiesSs w a c.slots) (hm : SizeCa maxLen c) :
  Calls Tryz.prog 5 #[.agg #[.int .i64 c.now, .int .i64 c.turn, .slice a c.slots.length k]] w fun e w' => e = .returned (.bool true) ∧ Below w.heap.size w w' := by
 have bb := below_alloc (w := w) (.cells #[.int .i64 c.now, .int .i64 c.turn, .slice a c.slots.length k] 24)
 have K0 := hide (heap_alloc_new w (.cells #[.int .i64 c.now, .int .i64 c.turn, .slice a c.slots.length k] 24))
 have L0 := hide h
 have HM := hide hm
 clear h hm
 go_enter Tryz.func5, Tryz.ntmps5
 go_wp2_with fail
 generalize w.alloc (.cells #[.int .i64 c.now, .int .i64 c.turn, .slice a c.slots.length k] 24) = W at *
 have zk0 := block_lt (unhide K0)
 refine (szCache_tot a k c 1048576 _ (lowSs (unhide L0) bb) (unhide HM) (by omega) (by omega)).mono ?_
 rintro e w1 ⟨⟨y, rfl, hr0, hr1, hr2⟩, b1⟩
 replace bb := below_next bb b1
 replace K0 := hide (block_kept b1 (unhide K0))
 have zb1 := b1.size
 clear b1
 generalize Value.agg #[.int .i64 c.now, .int .i64 c.turn, .slice a c.slots.length k] = V1
 by_cases hneg : y < 0
 ·clear hr2
  go_wp2_with fail
  go_ret
  exact ⟨rfl, bb⟩
 obtain ⟨htot, hsz⟩ := hr2 (by omega)
 have HS := hide (hsz.mono (m' := 1048576) (by omega))
 have HSS := hide ((unhide HS).mono (m' := 2097152) (by omega))
 have htot' : c.slots.length + totR c.slots c.slots.length ≤ 1048576 := by omega
 have HTOT := hide htot'
 clear hr2 HM hsz htot htot'
 obtain ⟨N, SP, IM, hN8, hNZ⟩ : ∃ N : List (List (List Int)), (∀ (w : World) (v : Value), HasSs w v c.slots → Calls Tryz.prog 15 #[.agg #[.int .i64 c.now, .int .i64 c.turn, v]] w fun e w' => ∃ v', e = .returned v' ∧ RowX 1 (OwnNm 53 5) namZ w.heap.size w'.heap.size 44 w' v' N ∧ Below w.heap.size w w') ∧ (∀ (w : World) (v : Value), HasSs w v c.slots → Calls Tryz.prog 16 #[.agg #[.int .i64 c.now, .int .i64 c.turn, v]] w fun e w' => ∃ v', e = .returned v' ∧ RowX 1 (OwnNm 53 5) namZ w.heap.size w'.heap.size 44 w' v' N ∧ Below w.heap.size w w') ∧ N.length ≤ 8 ∧ (∀ i, i < N.length → SizeNm 1048576 (N.getD i namZ)) :=
  ⟨cacheNames c, fun w v h => specCacheNames_own h (unhide HS), fun w v h => implCacheNames_own h, (cacheNames_size c).1, (cacheNames_size c).2⟩
 have HNZ := hide hNZ
 have HNZ2 := hide (fun i hi => (hNZ i hi).mono (m' := 2097152) (by omega))
 have hgg : (posNs N 1 N.length != posNs N 1 N.length) = false := by simp
 have hpn := (posNs_bound hNZ 1 N.length (Nat.le_refl _)).1
 have hpn0 : ¬ posNs N 1 N.length < 0 := by omega
 clear hNZ hpn
 replace SP := hide SP
 replace IM := hide IM
 obtain ⟨k0, k1, k2⟩ := cells3 (unhide K0)
 go_wp2_with fail
 clear k0 k1 k2
 refine (toCache_own a k c _ (lowSs (unhide L0) bb) (unhide HS)).mono ?_
 rintro e w2 ⟨v2, rfl, o2, b2⟩
 obtain ⟨x2, y2, rfl, _⟩ := o2.form
 have A2 := hide (RowSl.hasS o2)
 clear o2
 replace bb := below_next bb b2
 replace K0 := hide (block_kept b2 (unhide K0))
 have zb2 := b2.size
 clear b2
 obtain ⟨k0, k1, k2⟩ := cells3 (unhide K0)
 go_wp2_with fail
 clear k0 k1 k2
 refine (unhide SP _ _ (unhide A2)).mono ?_
 rintro e w3 ⟨vS, rfl, r3, b3⟩
 obtain ⟨sx, sy, rfl, _⟩ := r3.form
 have R3 := hide r3
 clear A2 r3
 generalize Value.agg #[.int .i64 c.now, .int .i64 c.turn, .slice a c.slots.length k] = V2
 generalize Value.agg #[.int .i64 c.now, .int .i64 c.turn, .slice x2 c.slots.length y2] = V3
 replace bb := below_next bb b3
 replace K0 := hide (block_kept b3 (unhide K0))
 have zb3 := b3.size
 clear b3
 obtain ⟨k0, k1, k2⟩ := cells3 (unhide K0)
 go_wp2_with fail
 clear k0 k1 k2
 refine (toCache_own a k c _ (lowSs (unhide L0) bb) (unhide HS)).mono ?_
 rintro e w4 ⟨v4, rfl, o4, b4⟩
 obtain ⟨x4, y4, rfl, _⟩ := o4.form
 have X0 := hide o4
 clear o4
 replace bb := below_next bb b4
 replace K0 := hide (block_kept b4 (unhide K0))
 replace R3 := hide (RowX.below (ownsNm 53 5) (unhide R3) b4)
 have zb4 := b4.size
 clear b4
 have b5 := below_alloc (w := w4) (.cells #[.int .i64 c.now, .int .i64 c.turn, .slice x4 c.slots.length y4] 29)
 have VX := hide (heap_alloc_new w4 (.cells #[.int .i64 c.now, .int .i64 c.turn, .slice x4 c.slots.length y4] 29))
 obtain ⟨k0, k1, k2⟩ := cells3 (block_kept b5 (unhide K0))
 obtain ⟨p0, p1, p2⟩ := cells3 (unhide VX)
 go_wp2_with fail
 clear k0 k1 k2 p0 p1 p2
 generalize w4.alloc (.cells #[.int .i64 c.now, .int .i64 c.turn, .slice x4 c.slots.length y4] 29) = w5 at *
 replace bb := below_next bb b5
 replace K0 := hide (block_kept b5 (unhide K0))
 replace X0 := hide (RowX.below (ownsSl 56 53 5 3) (unhide X0) b5)
 replace R3 := hide (RowX.below (ownsNm 53 5) (unhide R3) b5)
 have zb5 := b5.size
 clear b5
 refine (unhide IM _ _ (RowSl.hasS (unhide X0))).mono ?_
 rintro e w6 ⟨vI, rfl, r6, b6⟩
 obtain ⟨gx, gy, rfl, _⟩ := r6.form
 have R6 := hide r6
 clear r6
 generalize Value.agg #[.int .i64 c.now, .int .i64 c.turn, .slice a c.slots.length k] = V4
 generalize Value.agg #[.int .i64 c.now, .int .i64 c.turn, .slice x4 c.slots.length y4] = V5
 replace bb := below_next bb b6
 replace K0 := hide (block_kept b6 (unhide K0))
 replace VX := hide (block_kept b6 (unhide VX))
 replace X0 := hide (RowX.below (ownsSl 56 53 5 3) (unhide X0) b6)
 replace R3 := hide (RowX.below (ownsNm 53 5) (unhide R3) b6)
 have zb6 := b6.size
 clear b6
 go_wp2_with fail
 refine (eqNameS_has (RowX.has (ownsNm 53 5) OwnNm.has (unhide R6)) (RowX.has (ownsNm 53 5) OwnNm.has (unhide R3)) (unhide HNZ2)).mono ?_
 rintro e w7 ⟨rfl, b7'⟩
 have b7 := below_next b7' (below_drew (w := w7))
 clear b7'
 replace bb := below_next bb b7
 replace K0 := hide (block_kept b7 (unhide K0))
 replace VX := hide (block_kept b7 (unhide VX))
 replace X0 := hide (RowX.below (ownsSl 56 53 5 3) (unhide X0) b7)
 replace R3 := hide (RowX.below (ownsNm 53 5) (unhide R3) b7)
 replace R6 := hide (RowX.below (ownsNm 53 5) (unhide R6) b7)
 have zb7 := b7.size
 clear b7
 obtain ⟨k0, k1, k2⟩ := cells3 (unhide K0)
 obtain ⟨x0, x1, x2⟩ := cells3 (unhide VX)
 go_wp2_with fail
 clear k0 k1 k2 x0 x1 x2
 refine startA (by kernel_rfl) ⟨by kernel_rfl, by kernel_rfl⟩ (fun w' => (w'.cell? ⟨w.heap.size, 0, none⟩ = some (.int .i64 c.now) ∧ w'.cell? ⟨w.heap.size, 1, none⟩ = some (.int .i64 c.turn) ∧ w'.cell? ⟨w.heap.size, 2, none⟩ = some (.slice a c.slots.length k)) ∧ (w'.cell? ⟨w4.heap.size, 0, none⟩ = some (.int .i64 c.now) ∧ w'.cell? ⟨w4.heap.size, 1, none⟩ = some (.int .i64 c.turn) ∧ w'.cell? ⟨w4.heap.size, 2, none⟩ = some (.slice x4 c.slots.length y4))) ⟨cells3 (unhide K0), cells3 (unhide VX)⟩ (fun hA hHeld => ?_)
 replace hA := hide hA
 repeat ((first | (refine takeA ?_ (unhide hA) rfl rfl (by rfl) (fun _ _ _ h => h) ?_ hHeld ?_; rotate_left; · (intro w hSw; (try dsimp only at hSw); go_simp <;> with_reducible rfl)) | refine skipA (unhide hA) rfl (by rfl) (fun _ _ _ h => h) hHeld ?_); simp only [Act.put, List.setIfInBounds_toArray, List.set_cons_zero, List.set_cons_succ, Nat.reduceAdd])
 refine runA (unhide hA) rfl (by kernel_rfl) (by kernel_rfl) (fun K hK => ?_)
 have HK := hide hK
 clear hK hHeld
 go_simp
 refine (toCache_own a k c _ (lowSs (unhide L0) bb) (unhide HS)).mono ?_
 rintro e w8 ⟨v8, rfl, o8, b8⟩
 obtain ⟨x8, y8, rfl, _⟩ := o8.form
 refine (unhide HK).out _ _ ⟨cells3 (block_kept b8 (unhide K0)), cells3 (block_kept b8 (unhide VX))⟩ (fun hHeld => ?_)
 clear HK K
 simp only [Nat.reduceAdd]
 refine runA (unhide hA) rfl (by kernel_rfl) (by kernel_rfl) (fun K hK => ?_)
 have HK := hide hK
 clear hK hHeld
 go_simp
 refine (eqCache_has (keptSs (RowSl.hasS (unhide X0)) b8) (RowSl.hasS o8) (unhide HSS)).mono ?_
 rintro e w9 ⟨rfl, b9⟩
 have q9 := below_next b8 b9
 refine (unhide HK).out _ _ ⟨cells3 (block_kept q9 (unhide K0)), cells3 (block_kept q9 (unhide VX))⟩ (fun hHeld => ?_)
 clear HK K
 simp only [Nat.reduceAdd]
 repeat ((first | (refine takeA ?_ (unhide hA) rfl rfl (by rfl) (fun _ _ _ h => h) ?_ hHeld ?_; rotate_left; · (intro w hSw; (try dsimp only at hSw); go_simp <;> with_reducible rfl)) | refine skipA (unhide hA) rfl (by rfl) (fun _ _ _ h => h) hHeld ?_); simp only [Act.put, List.setIfInBounds_toArray, List.set_cons_zero, List.set_cons_succ, Nat.reduceAdd])
 refine doneA rfl ?_
 clear hHeld hA
 clear b8 b9 o8
 replace bb := below_next bb q9
 replace K0 := hide (block_kept q9 (unhide K0))
 replace VX := hide (block_kept q9 (unhide VX))
 replace X0 := hide (RowX.below (ownsSl 56 53 5 3) (unhide X0) q9)
 replace R3 := hide (RowX.below (ownsNm 53 5) (unhide R3) q9)
 replace R6 := hide (RowX.below (ownsNm 53 5) (unhide R6) q9)
 have zq9 := q9.size
 clear q9
 obtain ⟨x0, x1, x2⟩ := cells3 (unhide VX)
 go_wp2_with fail
 clear x0 x1 x2
 refine (markCache_own (unhide HS).each (unhide HTOT) 1 (by omega) (by omega) c.now c.turn (B := w3.heap.size) (E := w4.heap.size) (by omega) (unhide X0)).mono ?_
 rintro e w10 ⟨rfl, _, u10⟩
 have hpc := (posSs_bound (unhide HS).each 1 c.slots.length (Nat.le_refl _)).1
 generalize posSs c.slots 1 c.slots.length = PC at *
 replace bb := u10.below bb (by omega)
 replace K0 := hide (u10.kept (unhide K0) (by omega))
 replace R3 := hide (RowX.outside (ownsNm 53 5) (unhide R3) u10 (by omega))
 replace R6 := hide (RowX.outside (ownsNm 53 5) (unhide R6) u10 (by omega))
 have z10 := u10.size
 have hpc0 : ¬ PC < 0 := by omega
 have hpcd : decide (PC < 0) = false := decide_eq_false hpc0
 clear u10 X0 VX HTOT
 go_wp2_with fail
 refine (eqNameS_has (RowX.has (ownsNm 53 5) OwnNm.has (unhide R6)) (RowX.has (ownsNm 53 5) OwnNm.has (unhide R3)) (unhide HNZ2)).mono ?_
 rintro e w11 ⟨rfl, b11⟩
 replace bb := below_next bb b11
 replace K0 := hide (block_kept b11 (unhide K0))
 replace R3 := hide (RowX.below (ownsNm 53 5) (unhide R3) b11)
 replace R6 := hide (RowX.below (ownsNm 53 5) (unhide R6) b11)
 have zb11 := b11.size
 clear b11
 go_wp2_with fail
 refine (markNameS_own (unhide HNZ) (by omega) 1 (by omega) (by omega) (B := w5.heap.size) (E := w6.heap.size) (by omega) (unhide R6)).mono ?_
 rintro e w12 ⟨rfl, r12, u12⟩
 replace bb := u12.below bb (by omega)
 replace K0 := hide (u12.kept (unhide K0) (by omega))
 replace R3 := hide (RowX.outside (ownsNm 53 5) (unhide R3) u12 (by omega))
 replace R6 := hide r12
 have z12 := u12.size
 clear u12 r12
 go_wp2_with fail
 refine (heldNameS_has (unhide HNZ) (by omega) 1 (by omega) (by omega) (RowX.has (ownsNm 53 5) OwnNm.has (unhide R6))).mono ?_
 rintro e w13 ⟨rfl, rfl⟩
 obtain ⟨k0, k1, k2⟩ := cells3 (unhide K0)
 go_wp2_with fail
 clear k0 k1 k2
 refine (toCache_own a k c _ (lowSs (unhide L0) bb) (unhide HS)).mono ?_
 rintro e w14 ⟨v14, rfl, o14, b14⟩
 obtain ⟨x14, y14, rfl, _⟩ := o14.form
 have A14 := hide (RowSl.hasS o14)
 clear o14
 replace bb := below_next bb b14
 replace K0 := hide (block_kept b14 (unhide K0))
 replace R3 := hide (RowX.below (ownsNm 53 5) (unhide R3) b14)
 replace R6 := hide (RowX.below (ownsNm 53 5) (unhide R6) b14)
 have zb14 := b14.size
 clear b14
 go_wp2_with fail
 refine (unhide IM _ _ (unhide A14)).mono ?_
 rintro e w15 ⟨vJ, rfl, r15, b15⟩
 obtain ⟨jx, jy, rfl, _⟩ := r15.form
 have R15 := hide r15
 clear A14 r15
 replace bb := below_next bb b15
 replace K0 := hide (block_kept b15 (unhide K0))
 replace R3 := hide (RowX.below (ownsNm 53 5) (unhide R3) b15)
 replace R6 := hide (RowX.below (ownsNm 53 5) (unhide R6) b15)
 have zb15 := b15.size
 clear b15
 go_wp2_with fail
 refine (eqNameS_has (RowX.has (ownsNm 53 5) OwnNm.has (unhide R15)) (RowX.has (ownsNm 53 5) OwnNm.has (unhide R3)) (unhide HNZ2)).mono ?_
 rintro e w16 ⟨rfl, b16⟩
 replace bb := below_next bb b16
 replace R6 := hide (RowX.below (ownsNm 53 5) (unhide R6) b16)
 have zb16 := b16.size
 clear b16
 go_wp2_with fail
 refine (heldNameS_has (unhide HNZ) (by omega) 1 (by omega) (by omega) (RowX.has (ownsNm 53 5) OwnNm.has (unhide R6))).mono ?_
 rintro e w17 ⟨rfl, rfl⟩
 go_wp2_with fail
 go_ret
 exact ⟨rfl, bb⟩
end Go.Proofs.YtpolekinfobecaaGreat
