/-
  Contracts of helpers of the laws for slots and caches that are answers (heldSlotS, heldCache). The walk of laws.FnExactCacheTick.
-/
import Derived.Test.YtpolekinfobecaaGreatCacheTickG09
import Derived.Test.YtpolekinfobecaaGreatCacheTickG45
import Derived.Test.YtpolekinfobecaaGreatCacheTickG46
import Derived.Test.YtpolekinfobecaaGreatCacheTickG13
import Derived.Test.YtpolekinfobecaaGreatCacheTickG32
import Derived.Test.YtpolekinfobecaaGreatCacheTickG44
import Derived.Test.YtpolekinfobecaaGreatCacheTickG02
import Derived.Test.YtpolekinfobecaaGreatCacheTickG29
namespace Go.Proofs.YtpolekinfobecaaGreat
open Go.RowKit
set_option linter.unusedVariables false

set_option maxHeartbeats 4000000 in
set_option maxRecDepth 100000 in
theorem heldSlotS_has {l : List Slt} (hs : ∀ i, i < l.length → SizeSl 1048576 (l.getD i sltZ)) (hl : l.length + totR l l.length ≤ 1048576) (k0 : Int) (hk0 : 0 ≤ k0) (hk1 : k0 ≤ 1000000000000000000) {v : Value} {w : World}
  (h : HasSs w v (markSs l k0 l.length)) :
  Calls Tryz.prog 36 #[v, .int .i64 k0] w fun e w' => e = .returned (.int .i64 (posSs l k0 l.length)) ∧ w = w' := by
 obtain ⟨a, cap, rfl, _⟩ := h.form
 rw [markSs_length] at *
 have HP := hide (fun i (hi : i ≤ l.length) => (show k0 ≤ posSs l k0 i ∧ posSs l k0 i ≤ 4465000000000000000 from by
  have q := posSs_bound hs k0 i hi
  have ht := totR_mono l (l.length - i) i
  rw [show i + (l.length - i) = l.length by omega] at ht
  have : i * 1099511627781 ≤ 1048576 * 1099511627781 := Nat.mul_le_mul_right _ (by omega)
  have : totR l i * 2199025352707 ≤ 1048576 * 2199025352707 := Nat.mul_le_mul_right _ (by omega)
  omega))
 have HS := hide hs
 have HPS := hide (fun i => (show posSs l k0 (i + 1) = posSl (l.getD i sltZ) (posSs l k0 i) from rfl))
 have HMG := hide (fun j (hj : j < l.length) => (show (markSs l k0 l.length).getD j sltZ = markSlt (l.getD j sltZ) (posSs l k0 j) by rw [markSs_getD l k0 l.length j hj, if_pos hj]))
 have HML := hide (markSs_length l k0 l.length)
 have H0 := hide h
 have HZ := hide (show posSs l k0 0 = k0 from rfl)
 have hlm : l.length ≤ 1048576 := by omega
 clear h hs hl
 generalize markSs l k0 l.length = M at *
 generalize posSs l k0 = P at *
 generalize hn : l.length = m at *
 have HN := hide hn
 clear hn
 go_enter Tryz.func36, Tryz.ntmps36
 go_wp2
 go_loopw [1, 5] (fun kk i wr => ∃ k : Nat, k ≤ m ∧ i = .int .i64 k ∧ kk = .int .i64 (P k) ∧ wr = w) (fun _ i _ => m - (intOf i).toNat)
 case atStart => exact ⟨0, Nat.zero_le _, rfl, by rw [unhide HZ], rfl⟩
 case round =>
  obtain ⟨k, hk, rfl, rfl, rfl⟩ := hrel
  by_cases hlt : k < m
  ·have hmk := unhide HMG k hlt
   obtain ⟨b, off, vs, rfl, hbl, hc, vn, vr, rfl, hR⟩ := (unhide H0).here (k := k) (by rw [unhide HML]; exact hlt)
   have hps := unhide HPS k
   have hpk := unhide HP k (by omega)
   have hsk := unhide HS k hlt
   rw [hmk] at hc hR
   generalize l.getD k sltZ = r at *
   have hpb := posSl_bound hsk (P k)
   have hrl := hsk.rrs
   have hrr := hsk.rrss
   have hmq : markSlt r (P k) = ⟨markL r.name (P k), pos r.name (P k) r.name.length, pos r.name (P k) r.name.length + 1, markRs r.rrs (pos r.name (P k) r.name.length + 2) r.rrs.length, posRs r.rrs (pos r.name (P k) r.name.length + 2) r.rrs.length, posRs r.rrs (pos r.name (P k) r.name.length + 2) r.rrs.length + 1, posRs r.rrs (pos r.name (P k) r.name.length + 2) r.rrs.length + 2⟩ := rfl
   have hpq : posSl r (P k) = posRs r.rrs (pos r.name (P k) r.name.length + 2) r.rrs.length + 3 := rfl
   rw [hpq] at hps
   rw [hmq] at hc hR
   obtain ⟨na, nc, rfl, _⟩ := hR.name.form
   obtain ⟨ra, rc, rfl, _⟩ := hR.rrs.form
   have M1 := heldByteSS_has (P k) hR.name hsk.name hsk.names (by omega) (by omega)
   have M2 := heldRrS_has hrr hrl (pos r.name (P k) r.name.length + 2) (by omega) (by omega) hR.rrs
   simp only [markL_length, markRs_length] at M1 M2 hc
   generalize pos r.name (P k) r.name.length = P1 at *
   generalize posRs r.rrs (P1 + 2) r.rrs.length = P2 at *
   obtain ⟨c0, c1, c2, c3, c4, c5, c6⟩ := range7 hc
   have hneg : ¬ P1 < 0 := by omega
   have hneg2 : ¬ P2 < 0 := by omega
   have hw1 : IntKind.i64.wrap (P1 + 1) = P1 + 1 := wrap_intM _ (by omega) (by omega)
   have hw2 : IntKind.i64.wrap (P1 + 1 + 1) = P1 + 2 := by rw [show P1 + 1 + 1 = P1 + 2 by omega]; exact wrap_intM _ (by omega) (by omega)
   have hv1 : IntKind.i64.wrap (P2 + 1) = P2 + 1 := wrap_intM _ (by omega) (by omega)
   have hv2 : IntKind.i64.wrap (P2 + 1 + 1) = P2 + 2 := by rw [show P2 + 1 + 1 = P2 + 2 by omega]; exact wrap_intM _ (by omega) (by omega)
   have hv3 : IntKind.i64.wrap (P2 + 2 + 1) = P2 + 3 := by rw [show P2 + 2 + 1 = P2 + 3 by omega]; exact wrap_intM _ (by omega) (by omega)
   have heq : ∀ x : Int, (x != x) = false := fun x => by simp
   have q1 := heq P1
   have q2 := heq (P1 + 1)
   have q3 := heq P2
   have q4 := heq (P2 + 1)
   have q5 := heq (P2 + 2)
   replace M1 := hide M1
   replace M2 := hide M2
   have HPS2 := hide hps
   have HLT := hide hlt
   clear hps hpq hmq hmk hc hR hpb hsk hrr hrl heq
   go_wp2_with fail
   refine (unhide M1).mono ?_
   rintro e w1 ⟨rfl, rfl⟩
   go_wp2_with fail
   refine (unhide M2).mono ?_
   rintro e w2 ⟨rfl, rfl⟩
   go_wp2_with fail
   clear hw1 hw2 hv1 hv2 hv3
   have hps := unhide HPS2
   have hlt := unhide HLT
   exact ⟨⟨k + 1, hlt, by go_num, by rw [hps], by trivial⟩, by simp [intOf]; omega⟩
  ·obtain rfl : k = m := by omega
   go_wp2
   go_ret
   exact ⟨rfl, rfl⟩

set_option maxHeartbeats 1000000 in
set_option maxRecDepth 100000 in
theorem heldCache_has {l : List Slt} (hs : ∀ i, i < l.length → SizeSl 1048576 (l.getD i sltZ)) (hl : l.length + totR l l.length ≤ 1048576) (k0 : Int) (hk0 : 0 ≤ k0) (hk1 : k0 ≤ 1000000000000000000) {v : Value} {w : World} (now turn : Int)
  (h : HasSs w v (markSs l k0 l.length)) :
  Calls Tryz.prog 14 #[.agg #[.int .i64 now, .int .i64 turn, v], .int .i64 k0] w fun e w' => e = .returned (.int .i64 (posSs l k0 l.length)) ∧ Below w.heap.size w w' := by
 obtain ⟨a, cap, rfl, _⟩ := h.form
 rw [markSs_length] at *
 have b0 := below_alloc (w := w) (.cells #[.int .i64 now, .int .i64 turn, .slice a l.length cap] 29)
 have KK := hide (heap_alloc_new w (.cells #[.int .i64 now, .int .i64 turn, .slice a l.length cap] 29))
 have HC := hide (heldSlotS_has hs hl k0 hk0 hk1 (keptSs h b0))
 have hp := (posSs_bound hs k0 l.length (Nat.le_refl _)).1
 clear h hs hl
 generalize posSs l k0 l.length = P at *
 have hneg : ¬ P < 0 := by omega
 obtain ⟨d0, d1, d2⟩ := cells3 (unhide KK)
 go_enter Tryz.func14, Tryz.ntmps14
 go_wp2_with fail
 clear d0 d1 d2
 refine (unhide HC).mono ?_
 rintro e w1 ⟨rfl, rfl⟩
 go_wp2_with fail
 go_ret
 exact ⟨rfl, b0⟩
end Go.Proofs.YtpolekinfobecaaGreat

namespace Go.Proofs.YtpolekinfobecaaGreat
open Go.RowKit
set_option linter.unusedVariables false

theorem totR_short {l : List Slt} (h : ∀ j, j < l.length → ShortS (l.getD j sltZ)) : ∀ k, k ≤ l.length → totR l k ≤ k * 12
 | 0, _ => by simp [totR]
 | k + 1, hk => by
  have h1 := totR_short h k (by omega)
  have h2 := (h k (by omega)).2.1
  unfold totR
  omega
set_option maxHeartbeats 8000000 in
set_option maxRecDepth 100000 in
theorem lawCacheTick (a : Option Addr) (k : Nat) (c : Ca) (now : Int) (w : World) (h : LiesSs w a c.slots) (hm : SizeCa maxLen c) :
  Calls Tryz.prog 4 #[.agg #[.int .i64 c.now, .int .i64 c.turn, .slice a c.slots.length k], .int .i64 now] w fun e w' => e = .returned (.bool true) ∧ Below w.heap.size w w' := by
 have bb := below_alloc (w := w) (.cells #[.int .i64 c.now, .int .i64 c.turn, .slice a c.slots.length k] 24)
 have K0 := hide (heap_alloc_new w (.cells #[.int .i64 c.now, .int .i64 c.turn, .slice a c.slots.length k] 24))
 have L0 := hide h
 have HM := hide hm
 clear h hm
 go_enter Tryz.func4, Tryz.ntmps4
 go_wp2_with fail
 generalize w.alloc (.cells #[.int .i64 c.now, .int .i64 c.turn, .slice a c.slots.length k] 24) = W at *
 have zk0 := block_lt (unhide K0)
 refine (szCache_tot a k c 1048576 _ (lowSs (unhide L0) bb) (unhide HM) (by omega) (by omega)).mono ?_
 rintro e w1 ⟨⟨y, rfl, hr0, hr1, hr2⟩, b1⟩
 replace bb := below_next bb b1
 replace K0 := hide (block_kept b1 (unhide K0))
 have zb1 := b1.size
 clear b1
 generalize Value.agg #[.int .i64 c.now, .int .i64 c.turn, .slice a c.slots.length k] = V1
 by_cases hneg : y < 0
 ·clear hr2
  go_wp2_with fail
  go_ret
  exact ⟨rfl, bb⟩
 obtain ⟨htot, hsz⟩ := hr2 (by omega)
 have HS := hide (hsz.mono (m' := 1048576) (by omega))
 have HSS := hide ((unhide HS).mono (m' := 2097152) (by omega))
 have htot' : c.slots.length + totR c.slots c.slots.length ≤ 1048576 := by omega
 have HTOT := hide htot'
 clear hr2 HM hsz htot htot'
 obtain ⟨T, tn, SP, IM, hT8, hTS⟩ : ∃ (T : Ca) (tn : Int), (∀ (w : World) (v : Value), HasSs w v c.slots → Calls Tryz.prog 11 #[.agg #[.int .i64 c.now, .int .i64 c.turn, v], .int .i64 now] w fun e w' => ∃ v', e = .returned (.tuple #[.agg #[.int .i64 T.now, .int .i64 T.turn, v'], .int .i64 tn]) ∧ HasSs w' v' T.slots ∧ Below w.heap.size w w') ∧ (∀ (w : World) (v : Value), HasSs w v c.slots → Calls Tryz.prog 12 #[.agg #[.int .i64 c.now, .int .i64 c.turn, v], .int .i64 now] w fun e w' => ∃ v', e = .returned (.tuple #[.agg #[.int .i64 T.now, .int .i64 T.turn, v'], .int .i64 tn]) ∧ RowX 7 (OwnSl 56 53 5 3) sltZ w.heap.size w'.heap.size 47 w' v' T.slots ∧ Below w.heap.size w w') ∧ T.slots.length ≤ 8 ∧ (∀ j, j < T.slots.length → ShortS (T.slots.getD j sltZ)) :=
  ⟨tickC c now, tickN c now, fun w v h => specCacheTick_own now h (unhide HS), fun w v h => implCacheTick_own now h, (tickC_short c now).1, (tickC_short c now).2⟩
 have HT1 := hide (show SizeCa 1048576 T from ⟨by omega, fun i hi => (hTS i hi).size⟩)
 have HT2 := hide ((unhide HT1).mono (m' := 2097152) (by omega))
 have HTT := hide (show T.slots.length + totR T.slots T.slots.length ≤ 1048576 by have := totR_short hTS T.slots.length (Nat.le_refl _); omega)
 have hgg : (tn != tn) = false := by simp
 have hpp : (posSs T.slots 1 T.slots.length != posSs T.slots 1 T.slots.length) = false := by simp
 have hpn := (posSs_bound (unhide HT1).each 1 T.slots.length (Nat.le_refl _)).1
 have hpn0 : ¬ posSs T.slots 1 T.slots.length < 0 := by omega
 clear hTS hpn
 replace SP := hide SP
 replace IM := hide IM
 obtain ⟨k0, k1, k2⟩ := cells3 (unhide K0)
 go_wp2_with fail
 clear k0 k1 k2
 refine (toCache_own a k c _ (lowSs (unhide L0) bb) (unhide HS)).mono ?_
 rintro e w2 ⟨v2, rfl, o2, b2⟩
 obtain ⟨x2, y2, rfl, _⟩ := o2.form
 have A2 := hide (RowSl.hasS o2)
 clear o2
 replace bb := below_next bb b2
 replace K0 := hide (block_kept b2 (unhide K0))
 have zb2 := b2.size
 clear b2
 obtain ⟨k0, k1, k2⟩ := cells3 (unhide K0)
 go_wp2_with fail
 clear k0 k1 k2
 refine (unhide SP _ _ (unhide A2)).mono ?_
 rintro e w3 ⟨vS, rfl, h3, b3⟩
 obtain ⟨sx, sy, rfl, _⟩ := h3.form
 have H3 := hide h3
 clear A2 h3
 generalize Value.agg #[.int .i64 c.now, .int .i64 c.turn, .slice a c.slots.length k] = V2
 generalize Value.agg #[.int .i64 c.now, .int .i64 c.turn, .slice x2 c.slots.length y2] = V3
 replace bb := below_next bb b3
 replace K0 := hide (block_kept b3 (unhide K0))
 have zb3 := b3.size
 clear b3
 have bS := below_alloc (w := w3) (.cells #[.int .i64 T.now, .int .i64 T.turn, .slice sx T.slots.length sy] 29)
 have KS := hide (heap_alloc_new w3 (.cells #[.int .i64 T.now, .int .i64 T.turn, .slice sx T.slots.length sy] 29))
 replace bb := below_next bb bS
 replace K0 := hide (block_kept bS (unhide K0))
 have zS := bS.size
 have zKS := block_lt (unhide KS)
 obtain ⟨k0, k1, k2⟩ := cells3 (unhide K0)
 go_wp2_with fail
 clear k0 k1 k2
 generalize w3.alloc (.cells #[.int .i64 T.now, .int .i64 T.turn, .slice sx T.slots.length sy] 29) = w4 at *
 refine (toCache_own a k c _ (lowSs (unhide L0) bb) (unhide HS)).mono ?_
 rintro e w5 ⟨v5, rfl, o5, b5⟩
 obtain ⟨x5, y5, rfl, _⟩ := o5.form
 have X0 := hide o5
 clear o5
 replace bb := below_next bb b5
 replace bS := below_next bS b5
 replace K0 := hide (block_kept b5 (unhide K0))
 replace KS := hide (block_kept b5 (unhide KS))
 have zb5 := b5.size
 clear b5
 have b6 := below_alloc (w := w5) (.cells #[.int .i64 c.now, .int .i64 c.turn, .slice x5 c.slots.length y5] 29)
 have KX := hide (heap_alloc_new w5 (.cells #[.int .i64 c.now, .int .i64 c.turn, .slice x5 c.slots.length y5] 29))
 obtain ⟨p0, p1, p2⟩ := cells3 (unhide KX)
 go_wp2_with fail
 clear p0 p1 p2
 generalize w5.alloc (.cells #[.int .i64 c.now, .int .i64 c.turn, .slice x5 c.slots.length y5] 29) = w6 at *
 replace bb := below_next bb b6
 replace bS := below_next bS b6
 replace K0 := hide (block_kept b6 (unhide K0))
 replace KS := hide (block_kept b6 (unhide KS))
 replace X0 := hide (RowX.below (ownsSl 56 53 5 3) (unhide X0) b6)
 have zb6 := b6.size
 clear b6
 have zKX := block_lt (unhide KX)
 refine (unhide IM _ _ (RowSl.hasS (unhide X0))).mono ?_
 rintro e w7 ⟨vI, rfl, r7, b7⟩
 obtain ⟨gx, gy, rfl, _⟩ := r7.form
 have R7 := hide r7
 clear r7
 generalize Value.agg #[.int .i64 c.now, .int .i64 c.turn, .slice a c.slots.length k] = V4
 generalize Value.agg #[.int .i64 c.now, .int .i64 c.turn, .slice x5 c.slots.length y5] = V5
 replace bb := below_next bb b7
 replace bS := below_next bS b7
 replace K0 := hide (block_kept b7 (unhide K0))
 replace KS := hide (block_kept b7 (unhide KS))
 replace KX := hide (block_kept b7 (unhide KX))
 replace X0 := hide (RowX.below (ownsSl 56 53 5 3) (unhide X0) b7)
 have zb7 := b7.size
 clear b7
 have b8 := below_alloc (w := w7) (.cells #[.int .i64 T.now, .int .i64 T.turn, .slice gx T.slots.length gy] 29)
 have KG := hide (heap_alloc_new w7 (.cells #[.int .i64 T.now, .int .i64 T.turn, .slice gx T.slots.length gy] 29))
 obtain ⟨p0, p1, p2⟩ := cells3 (unhide KG)
 obtain ⟨s0, s1, s2⟩ := cells3 (block_kept b8 (unhide KS))
 go_wp2_with fail
 clear p0 p1 p2 s0 s1 s2
 generalize w7.alloc (.cells #[.int .i64 T.now, .int .i64 T.turn, .slice gx T.slots.length gy] 29) = w8 at *
 replace bb := below_next bb b8
 replace bS := below_next bS b8
 replace K0 := hide (block_kept b8 (unhide K0))
 replace KS := hide (block_kept b8 (unhide KS))
 replace KX := hide (block_kept b8 (unhide KX))
 replace X0 := hide (RowX.below (ownsSl 56 53 5 3) (unhide X0) b8)
 replace R7 := hide (RowX.below (ownsSl 56 53 5 3) (unhide R7) b8)
 have zb8 := b8.size
 clear b8
 have zKG := block_lt (unhide KG)
 refine (eqCache_has (c := T) (RowSl.hasS (unhide R7)) (keptSs (unhide H3) bS) (unhide HT2)).mono ?_
 rintro e w9 ⟨rfl, b9'⟩
 have b9 := below_next b9' (below_drew (w := w9))
 clear b9'
 replace bb := below_next bb b9
 replace bS := below_next bS b9
 replace K0 := hide (block_kept b9 (unhide K0))
 replace KS := hide (block_kept b9 (unhide KS))
 replace KX := hide (block_kept b9 (unhide KX))
 replace KG := hide (block_kept b9 (unhide KG))
 replace X0 := hide (RowX.below (ownsSl 56 53 5 3) (unhide X0) b9)
 replace R7 := hide (RowX.below (ownsSl 56 53 5 3) (unhide R7) b9)
 have zb9 := b9.size
 clear b9
 obtain ⟨k0, k1, k2⟩ := cells3 (unhide K0)
 obtain ⟨x0, x1, x2⟩ := cells3 (unhide KX)
 go_wp2_with fail
 clear k0 k1 k2 x0 x1 x2
 refine startA (by kernel_rfl) ⟨by kernel_rfl, by kernel_rfl⟩ (fun w' => (w'.cell? ⟨w.heap.size, 0, none⟩ = some (.int .i64 c.now) ∧ w'.cell? ⟨w.heap.size, 1, none⟩ = some (.int .i64 c.turn) ∧ w'.cell? ⟨w.heap.size, 2, none⟩ = some (.slice a c.slots.length k)) ∧ (w'.cell? ⟨w5.heap.size, 0, none⟩ = some (.int .i64 c.now) ∧ w'.cell? ⟨w5.heap.size, 1, none⟩ = some (.int .i64 c.turn) ∧ w'.cell? ⟨w5.heap.size, 2, none⟩ = some (.slice x5 c.slots.length y5))) ⟨cells3 (unhide K0), cells3 (unhide KX)⟩ (fun hA hHeld => ?_)
 replace hA := hide hA
 repeat ((first | (refine takeA ?_ (unhide hA) rfl rfl (by rfl) (fun _ _ _ h => h) ?_ hHeld ?_; rotate_left; · (intro w hSw; (try dsimp only at hSw); go_simp <;> with_reducible rfl)) | refine skipA (unhide hA) rfl (by rfl) (fun _ _ _ h => h) hHeld ?_); simp only [Act.put, List.setIfInBounds_toArray, List.set_cons_zero, List.set_cons_succ, Nat.reduceAdd])
 refine runA (unhide hA) rfl (by kernel_rfl) (by kernel_rfl) (fun K hK => ?_)
 have HK := hide hK
 clear hK hHeld
 go_simp
 refine (toCache_own a k c _ (lowSs (unhide L0) bb) (unhide HS)).mono ?_
 rintro e w10 ⟨v10, rfl, o10, b10⟩
 obtain ⟨x10, y10, rfl, _⟩ := o10.form
 refine (unhide HK).out _ _ ⟨cells3 (block_kept b10 (unhide K0)), cells3 (block_kept b10 (unhide KX))⟩ (fun hHeld => ?_)
 clear HK K
 simp only [Nat.reduceAdd]
 refine runA (unhide hA) rfl (by kernel_rfl) (by kernel_rfl) (fun K hK => ?_)
 have HK := hide hK
 clear hK hHeld
 go_simp
 refine (eqCache_has (keptSs (RowSl.hasS (unhide X0)) b10) (RowSl.hasS o10) (unhide HSS)).mono ?_
 rintro e w11 ⟨rfl, b11⟩
 have q11 := below_next b10 b11
 refine (unhide HK).out _ _ ⟨cells3 (block_kept q11 (unhide K0)), cells3 (block_kept q11 (unhide KX))⟩ (fun hHeld => ?_)
 clear HK K
 simp only [Nat.reduceAdd]
 repeat ((first | (refine takeA ?_ (unhide hA) rfl rfl (by rfl) (fun _ _ _ h => h) ?_ hHeld ?_; rotate_left; · (intro w hSw; (try dsimp only at hSw); go_simp <;> with_reducible rfl)) | refine skipA (unhide hA) rfl (by rfl) (fun _ _ _ h => h) hHeld ?_); simp only [Act.put, List.setIfInBounds_toArray, List.set_cons_zero, List.set_cons_succ, Nat.reduceAdd])
 refine doneA rfl ?_
 clear hHeld hA
 clear b10 b11 o10
 replace bb := below_next bb q11
 replace bS := below_next bS q11
 replace K0 := hide (block_kept q11 (unhide K0))
 replace KS := hide (block_kept q11 (unhide KS))
 replace KX := hide (block_kept q11 (unhide KX))
 replace KG := hide (block_kept q11 (unhide KG))
 replace X0 := hide (RowX.below (ownsSl 56 53 5 3) (unhide X0) q11)
 replace R7 := hide (RowX.below (ownsSl 56 53 5 3) (unhide R7) q11)
 have zq11 := q11.size
 clear q11
 obtain ⟨x0, x1, x2⟩ := cells3 (unhide KX)
 go_wp2_with fail
 clear x0 x1 x2
 refine (markCache_own (unhide HS).each (unhide HTOT) 1 (by omega) (by omega) c.now c.turn (B := w4.heap.size) (E := w5.heap.size) (by omega) (unhide X0)).mono ?_
 rintro e w12 ⟨rfl, _, u12⟩
 have hpc := (posSs_bound (unhide HS).each 1 c.slots.length (Nat.le_refl _)).1
 generalize posSs c.slots 1 c.slots.length = PC at *
 replace bb := u12.below bb (by omega)
 replace bS := u12.below bS (by omega)
 replace K0 := hide (u12.kept (unhide K0) (by omega))
 replace KS := hide (u12.kept (unhide KS) (by omega))
 replace KG := hide (u12.kept (unhide KG) (by omega))
 replace R7 := hide (RowX.outside (ownsSl 56 53 5 3) (unhide R7) u12 (by omega))
 have zu12 := u12.size
 have hpc0 : ¬ PC < 0 := by omega
 have hpcd : decide (PC < 0) = false := decide_eq_false hpc0
 clear u12 X0 KX HTOT
 obtain ⟨p0, p1, p2⟩ := cells3 (unhide KG)
 obtain ⟨s0, s1, s2⟩ := cells3 (unhide KS)
 go_wp2_with fail
 clear p0 p1 p2 s0 s1 s2
 refine (eqCache_has (c := T) (RowSl.hasS (unhide R7)) (keptSs (unhide H3) bS) (unhide HT2)).mono ?_
 rintro e w13 ⟨rfl, b13⟩
 replace bb := below_next bb b13
 replace bS := below_next bS b13
 replace K0 := hide (block_kept b13 (unhide K0))
 replace KS := hide (block_kept b13 (unhide KS))
 replace KG := hide (block_kept b13 (unhide KG))
 replace R7 := hide (RowX.below (ownsSl 56 53 5 3) (unhide R7) b13)
 have zb13 := b13.size
 clear b13
 obtain ⟨p0, p1, p2⟩ := cells3 (unhide KG)
 go_wp2_with fail
 clear p0 p1 p2
 refine (markCache_own (unhide HT1).each (unhide HTT) 1 (by omega) (by omega) T.now T.turn (B := w6.heap.size) (E := w7.heap.size) (by omega) (unhide R7)).mono ?_
 rintro e w14 ⟨rfl, r14, u14⟩
 replace bb := u14.below bb (by omega)
 replace bS := u14.below bS (by omega)
 replace K0 := hide (u14.kept (unhide K0) (by omega))
 replace KS := hide (u14.kept (unhide KS) (by omega))
 replace KG := hide (u14.kept (unhide KG) (by omega))
 have zu14 := u14.size
 replace R7 := hide r14
 clear u14 r14
 obtain ⟨p0, p1, p2⟩ := cells3 (unhide KG)
 go_wp2_with fail
 clear p0 p1 p2
 refine (heldCache_has (unhide HT1).each (unhide HTT) 1 (by omega) (by omega) T.now T.turn (RowSl.hasS (unhide R7))).mono ?_
 rintro e w15 ⟨rfl, b15⟩
 replace bb := below_next bb b15
 replace bS := below_next bS b15
 replace K0 := hide (block_kept b15 (unhide K0))
 replace KS := hide (block_kept b15 (unhide KS))
 replace KG := hide (block_kept b15 (unhide KG))
 replace R7 := hide (RowX.below (ownsSl 56 53 5 3) (unhide R7) b15)
 have zb15 := b15.size
 clear b15
 obtain ⟨k0, k1, k2⟩ := cells3 (unhide K0)
 go_wp2_with fail
 clear k0 k1 k2
 refine (toCache_own a k c _ (lowSs (unhide L0) bb) (unhide HS)).mono ?_
 rintro e w16 ⟨v16, rfl, o16, b16⟩
 obtain ⟨x16, y16, rfl, _⟩ := o16.form
 have A16 := hide (RowSl.hasS o16)
 clear o16
 replace bb := below_next bb b16
 replace bS := below_next bS b16
 replace K0 := hide (block_kept b16 (unhide K0))
 replace KS := hide (block_kept b16 (unhide KS))
 replace KG := hide (block_kept b16 (unhide KG))
 replace R7 := hide (RowX.below (ownsSl 56 53 5 3) (unhide R7) b16)
 have zb16 := b16.size
 clear b16
 go_wp2_with fail
 refine (unhide IM _ _ (unhide A16)).mono ?_
 rintro e w17 ⟨vJ, rfl, r17, b17⟩
 obtain ⟨hx, hy, rfl, _⟩ := r17.form
 have H17 := hide (RowSl.hasS r17)
 clear A16 r17
 replace bb := below_next bb b17
 replace bS := below_next bS b17
 replace KS := hide (block_kept b17 (unhide KS))
 replace KG := hide (block_kept b17 (unhide KG))
 replace R7 := hide (RowX.below (ownsSl 56 53 5 3) (unhide R7) b17)
 have zb17 := b17.size
 clear b17
 have b18 := below_alloc (w := w17) (.cells #[.int .i64 T.now, .int .i64 T.turn, .slice hx T.slots.length hy] 29)
 have KH := hide (heap_alloc_new w17 (.cells #[.int .i64 T.now, .int .i64 T.turn, .slice hx T.slots.length hy] 29))
 obtain ⟨p0, p1, p2⟩ := cells3 (unhide KH)
 obtain ⟨s0, s1, s2⟩ := cells3 (block_kept b18 (unhide KS))
 go_wp2_with fail
 clear p0 p1 p2 s0 s1 s2
 generalize w17.alloc (.cells #[.int .i64 T.now, .int .i64 T.turn, .slice hx T.slots.length hy] 29) = w18 at *
 replace H17 := hide (keptSs (unhide H17) b18)
 replace bb := below_next bb b18
 replace bS := below_next bS b18
 replace KG := hide (block_kept b18 (unhide KG))
 replace R7 := hide (RowX.below (ownsSl 56 53 5 3) (unhide R7) b18)
 have zb18 := b18.size
 clear b18
 refine (eqCache_has (c := T) (unhide H17) (keptSs (unhide H3) bS) (unhide HT2)).mono ?_
 rintro e w19 ⟨rfl, b19⟩
 replace bb := below_next bb b19
 replace bS := below_next bS b19
 replace KG := hide (block_kept b19 (unhide KG))
 replace R7 := hide (RowX.below (ownsSl 56 53 5 3) (unhide R7) b19)
 have zb19 := b19.size
 clear b19
 obtain ⟨p0, p1, p2⟩ := cells3 (unhide KG)
 go_wp2_with fail
 clear p0 p1 p2
 refine (heldCache_has (unhide HT1).each (unhide HTT) 1 (by omega) (by omega) T.now T.turn (RowSl.hasS (unhide R7))).mono ?_
 rintro e w20 ⟨rfl, b20⟩
 replace bb := below_next bb b20
 go_wp2_with fail
 go_ret
 exact ⟨rfl, bb⟩
end Go.Proofs.YtpolekinfobecaaGreat
