/-
  Contracts of helpers of the laws for slots and caches that are answers (heldSlotS, heldCache). Plain facts: how far the marks of a row of records go. Contracts of the helpers of the laws for names (markName).
-/
import Derived.Test.YtaehfeobfkaicaaGreatCacheGetG07
import Derived.Test.YtaehfeobfkaicaaGreatCacheGetG45
import Derived.Test.YtaehfeobfkaicaaGreatCacheGetG05
import Derived.Test.YtaehfeobfkaicaaGreatCacheGetG44
namespace Go.Proofs.YtaehfeobfkaicaaGreat
open Go.RowKit
set_option linter.unusedVariables false
set_option maxHeartbeats 4000000
set_option maxRecDepth 100000

theorem heldSlotS_has {l : List Slt} (hs : ∀ i, i < l.length → SizeSl 1048576 (l.getD i VK)) (hl : l.length + totR l l.length ≤ 1048576) (k0 : Int) (hk0 : 0 ≤ k0) (hk1 : k0 ≤ 1000000000000000000) {v : Value} {w : World}
  (h : HasSs w v (markSs l k0 l.length)) :
  Calls Tryz.prog 44 #[v, .int .i64 k0] w fun e w' => e = .returned (.int .i64 (posSs l k0 l.length)) ∧ w = w' := by
 obtain ⟨a, cap, rfl, _⟩ := h.form
 rw [markSs_length] at *
 have HP := UC (fun i (hi : i ≤ l.length) => (show k0 ≤ posSs l k0 i ∧ posSs l k0 i ≤ 4465000000000000000 from by
  have q := posSs_bound hs k0 i hi
  have ht := totR_mono l (l.length - i) i
  rw [show i + (l.length - i) = l.length by omega] at ht
  have : i * 1099511627781 ≤ 1048576 * 1099511627781 := Nat.mul_le_mul_right _ (by omega)
  have : totR l i * 2199025352707 ≤ 1048576 * 2199025352707 := Nat.mul_le_mul_right _ (by omega)
  omega))
 have HS := UC hs
 have HPS := UC (fun i => (show posSs l k0 (i + 1) = posSl (l.getD i VK) (posSs l k0 i) from rfl))
 have HMG := UC (fun j (hj : j < l.length) => (show (markSs l k0 l.length).getD j VK = markSlt (l.getD j VK) (posSs l k0 j) by rw [markSs_getD l k0 l.length j hj, if_pos hj]))
 have HML := UC (markSs_length l k0 l.length)
 have H0 := UC h
 have HZ := UC (show posSs l k0 0 = k0 from rfl)
 have hlm : l.length ≤ 1048576 := by omega
 clear h hs hl
 generalize markSs l k0 l.length = M at *
 generalize posSs l k0 = P at *
 generalize hn : l.length = m at *
 have HN := UC hn
 clear hn
 go_enter Tryz.func44, Tryz.ntmps44
 go_wp2
 go_loopw [1, 5] (fun kk i wr => ∃ k : Nat, k ≤ m ∧ i = .int .i64 k ∧ kk = .int .i64 (P k) ∧ wr = w) (fun _ i _ => m - (intOf i).toNat)
 case atStart => exact ⟨0, Nat.zero_le _, rfl, by rw [UB HZ], rfl⟩
 case round =>
  obtain ⟨k, hk, rfl, rfl, rfl⟩ := hrel
  by_cases hlt : k < m
  ·have hmk := UB HMG k hlt
   obtain ⟨b, off, vs, rfl, hbl, hc, vn, vr, rfl, hR⟩ := (UB H0).here (k := k) (by rw [UB HML]; exact hlt)
   have hps := UB HPS k
   have hpk := UB HP k (by omega)
   have hsk := UB HS k hlt
   rw [hmk] at hc hR
   generalize l.getD k VK = r at *
   have hpb := posSl_bound hsk (P k)
   have hrl := hsk.rrs
   have hrr := hsk.rrss
   have hmq : markSlt r (P k) = ⟨markL r.name (P k), pos r.name (P k) r.name.length, pos r.name (P k) r.name.length + 1, markRs r.rrs (pos r.name (P k) r.name.length + 2) r.rrs.length, posRs r.rrs (pos r.name (P k) r.name.length + 2) r.rrs.length, posRs r.rrs (pos r.name (P k) r.name.length + 2) r.rrs.length + 1, posRs r.rrs (pos r.name (P k) r.name.length + 2) r.rrs.length + 2⟩ := rfl
   have hpq : posSl r (P k) = posRs r.rrs (pos r.name (P k) r.name.length + 2) r.rrs.length + 3 := rfl
   rw [hpq] at hps
   rw [hmq] at hc hR
   obtain ⟨na, nc, rfl, _⟩ := hR.name.form
   obtain ⟨ra, rc, rfl, _⟩ := hR.rrs.form
   have M1 := heldByteSS_has (P k) hR.name hsk.name hsk.names (by omega) (by omega)
   have M2 := heldRrS_has hrr hrl (pos r.name (P k) r.name.length + 2) (by omega) (by omega) hR.rrs
   simp only [markL_length, markRs_length] at M1 M2 hc
   generalize pos r.name (P k) r.name.length = P1 at *
   generalize posRs r.rrs (P1 + 2) r.rrs.length = P2 at *
   obtain ⟨c0, c1, c2, c3, c4, c5, c6⟩ := VH hc
   have hneg : ¬ P1 < 0 := by omega
   have hneg2 : ¬ P2 < 0 := by omega
   have hw1 : IntKind.i64.wrap (P1 + 1) = P1 + 1 := wrap_intM _ (by omega) (by omega)
   have hw2 : IntKind.i64.wrap (P1 + 1 + 1) = P1 + 2 := by rw [show P1 + 1 + 1 = P1 + 2 by omega]; exact wrap_intM _ (by omega) (by omega)
   have hv1 : IntKind.i64.wrap (P2 + 1) = P2 + 1 := wrap_intM _ (by omega) (by omega)
   have hv2 : IntKind.i64.wrap (P2 + 1 + 1) = P2 + 2 := by rw [show P2 + 1 + 1 = P2 + 2 by omega]; exact wrap_intM _ (by omega) (by omega)
   have hv3 : IntKind.i64.wrap (P2 + 2 + 1) = P2 + 3 := by rw [show P2 + 2 + 1 = P2 + 3 by omega]; exact wrap_intM _ (by omega) (by omega)
   have heq : ∀ x : Int, (x != x) = false := fun x => by simp
   have q1 := heq P1
   have q2 := heq (P1 + 1)
   have q3 := heq P2
   have q4 := heq (P2 + 1)
   have q5 := heq (P2 + 2)
   replace M1 := UC M1
   replace M2 := UC M2
   have HPS2 := UC hps
   have HLT := UC hlt
   clear hps hpq hmq hmk hc hR hpb hsk hrr hrl heq
   go_wp2_with fail
   refine (UB M1).mono ?_
   rintro e w1 ⟨rfl, rfl⟩
   go_wp2_with fail
   refine (UB M2).mono ?_
   rintro e w2 ⟨rfl, rfl⟩
   go_wp2_with fail
   clear hw1 hw2 hv1 hv2 hv3
   have hps := UB HPS2
   have hlt := UB HLT
   exact ⟨⟨k + 1, hlt, by go_num, by rw [hps], by trivial⟩, by simp [intOf]; omega⟩
  ·obtain rfl : k = m := by omega
   go_wp2
   go_ret
   exact ⟨rfl, rfl⟩

theorem heldCache_has {l : List Slt} (hs : ∀ i, i < l.length → SizeSl 1048576 (l.getD i VK)) (hl : l.length + totR l l.length ≤ 1048576) (k0 : Int) (hk0 : 0 ≤ k0) (hk1 : k0 ≤ 1000000000000000000) {v : Value} {w : World} (now turn : Int)
  (h : HasSs w v (markSs l k0 l.length)) :
  Calls Tryz.prog 16 #[.agg #[.int .i64 now, .int .i64 turn, v], .int .i64 k0] w fun e w' => e = .returned (.int .i64 (posSs l k0 l.length)) ∧ Below w.heap.size w w' := by
 obtain ⟨a, cap, rfl, _⟩ := h.form
 rw [markSs_length] at *
 have b0 := UI (w := w) (.cells #[.int .i64 now, .int .i64 turn, .slice a l.length cap] 30)
 have KK := UC (heap_alloc_new w (.cells #[.int .i64 now, .int .i64 turn, .slice a l.length cap] 30))
 have HC := UC (heldSlotS_has hs hl k0 hk0 hk1 (VF h b0))
 have hp := (posSs_bound hs k0 l.length (Nat.le_refl _)).1
 clear h hs hl
 generalize posSs l k0 l.length = P at *
 have hneg : ¬ P < 0 := by omega
 obtain ⟨d0, d1, d2⟩ := UL (UB KK)
 go_enter Tryz.func16, Tryz.ntmps16
 go_wp2_with fail
 clear d0 d1 d2
 refine (UB HC).mono ?_
 rintro e w1 ⟨rfl, rfl⟩
 go_wp2_with fail
 go_ret
 exact ⟨rfl, b0⟩
end Go.Proofs.YtaehfeobfkaicaaGreat

namespace Go.Proofs.YtaehfeobfkaicaaGreat
open Go.RowKit

theorem posRs_bound' {rs : List Rec} (hs : ∀ i, i < rs.length → SizeR 1048576 (rs.getD i recZ)) (hl : rs.length ≤ 1048576) (k : Int) : k ≤ posRs rs k rs.length ∧ posRs rs k rs.length ≤ k + 2305845208240095232 := by
 have h := posRs_bound hs k rs.length (Nat.le_refl _)
 have : rs.length * 2199025352707 ≤ 1048576 * 2199025352707 := Nat.mul_le_mul_right _ hl
 omega
end Go.Proofs.YtaehfeobfkaicaaGreat

namespace Go.Proofs.YtaehfeobfkaicaaGreat
open Go.RowKit
set_option linter.unusedVariables false

set_option maxHeartbeats 400000 in
set_option maxRecDepth 100000 in
theorem markName_any {B E : Nat} {v : Value} {n : List (List Int)} (k0 : Int) {w : World} (h : OwnN B E 56 5 w v n) (hl : n.length ≤ 1048576) (hl2 : ∀ i, i < n.length → (n.getD i []).length ≤ 1048576) (hk0 : 0 ≤ k0) (hk1 : k0 ≤ 8000000000000000000) :
  Calls Tryz.prog 22 #[.agg #[v], .int .i64 k0] w fun e w' => e = .returned (.int .i64 (pos n k0 n.length)) ∧ OwnN B E 56 5 w' v (markL n k0) ∧ Outside B E w w' := by
 have hc := UC (markByteSS_any k0 (h.below (UI (.cells #[v] 46))) hl hl2 hk0 hk1)
 obtain ⟨a, cap, rfl, _⟩ := h.ownL.hasL.form
 have HL2 := UC hl2
 clear h hl2
 generalize pos n k0 n.length = P at *
 go_enter Tryz.func22, Tryz.ntmps22
 go_wp2_with fail
 refine (UB hc).mono ?_
 rintro e w1 ⟨rfl, o1, x1⟩
 go_wp2_with fail
 go_ret
 exact ⟨rfl, o1, (Below.outside (UI _)).trans x1⟩
end Go.Proofs.YtaehfeobfkaicaaGreat
