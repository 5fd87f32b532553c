/-
  Contracts of the helpers of the laws for records (toRr). Contracts of the helpers of the laws for rows of records (szRrS, toRrS, eqRrS). Contracts of the helpers of the laws for questions.
-/
import Derived.Test.YtfbfakdkemlbmaaGreatTxnBytesG07
import Derived.Test.YtfbfakdkemlbmaaGreatTxnBytesG02
import Derived.Deep.RegionHeld3
import Derived.Test.YtfbfakdkemlbmaaGreatTxnBytesG06
import Derived.Test.YtfbfakdkemlbmaaGreatTxnBytesG05
import Derived.Test.YtfbfakdkemlbmaaGreatTxnBytesG01
namespace Go.Proofs.YtfbfakdkemlbmaaGreat
open Go.RowKit
set_option linter.unusedVariables false

set_option maxHeartbeats 1000000 in
set_option maxRecDepth 100000 in
theorem toRr_any (an : Option Addr) (cn : Nat) (ato : Option Addr) (ct : Nat) (ax : Option Addr) (cx : Nat) (ai : Option Addr) (ci : Nat) (r : Rec) (w : World) (h : InR w an ato ax ai r) (hs : SizeR 1048576 r) :
  Calls Tryz.prog 53 #[(.agg #[.slice an r.name.length cn, .int .i64 r.type, .int .i64 r.ttl, .int .i64 r.addr, .slice ato r.to.length ct, .slice ax r.text.length cx, .slice ai r.nums.length ci])] w fun e w' => ∃ vn vt vx vi, e = .returned (.agg #[vn, .int .i64 r.type, .int .i64 r.ttl, .int .i64 r.addr, vt, vx, vi]) ∧ OwnR w.heap.size w'.heap.size 27 5 3 w' vn vt vx vi r ∧ Below w.heap.size w w' := by
 obtain ⟨hsz, r0, v0⟩ := box3 w (.cells #[.slice an r.name.length cn, .int .i64 r.type, .int .i64 r.ttl, .int .i64 r.addr, .slice ato r.to.length ct, .slice ax r.text.length cx, .slice ai r.nums.length ci] 94) #[.slice none 0 0, .int .i64 0, .int .i64 0, .int .i64 0, .slice none 0 0, .slice none 0 0, .slice none 0 0] #[.slice none 0 0, .int .i64 0, .int .i64 0, .int .i64 0, .slice none 0 0, .slice none 0 0, .slice none 0 0] 105 105
 have b0 : Below w.heap.size w (((w.alloc (.cells #[.slice an r.name.length cn, .int .i64 r.type, .int .i64 r.ttl, .int .i64 r.addr, .slice ato r.to.length ct, .slice ax r.text.length cx, .slice ai r.nums.length ci] 94)).alloc (.cells #[.slice none 0 0, .int .i64 0, .int .i64 0, .int .i64 0, .slice none 0 0, .slice none 0 0, .slice none 0 0] 105)).alloc (.cells #[.slice none 0 0, .int .i64 0, .int .i64 0, .int .i64 0, .slice none 0 0, .slice none 0 0, .slice none 0 0] 105)) := ((below_alloc _).alloc (below_alloc _).size _).alloc ((below_alloc _).alloc (below_alloc _).size _).size _
 have k0 : (((w.alloc (.cells #[.slice an r.name.length cn, .int .i64 r.type, .int .i64 r.ttl, .int .i64 r.addr, .slice ato r.to.length ct, .slice ax r.text.length cx, .slice ai r.nums.length ci] 94)).alloc (.cells #[.slice none 0 0, .int .i64 0, .int .i64 0, .int .i64 0, .slice none 0 0, .slice none 0 0, .slice none 0 0] 105)).alloc (.cells #[.slice none 0 0, .int .i64 0, .int .i64 0, .int .i64 0, .slice none 0 0, .slice none 0 0, .slice none 0 0] 105)).heap[w.heap.size]? = some (.cells #[.slice an r.name.length cn, .int .i64 r.type, .int .i64 r.ttl, .int .i64 r.addr, .slice ato r.to.length ct, .slice ax r.text.length cx, .slice ai r.nums.length ci] 94) := block_kept (below_alloc _) (block_kept (below_alloc _) (heap_alloc_new w _))
 have I0 := hide (h.below b0)
 have HS := hide hs
 have K0 := hide k0
 have R0 := hide r0
 have V0 := hide v0
 have HI := hide h
 clear h hs k0 r0 v0
 go_enter Tryz.func53, Tryz.ntmps53
 go_wp2_with fail
 generalize (((w.alloc (.cells #[.slice an r.name.length cn, .int .i64 r.type, .int .i64 r.ttl, .int .i64 r.addr, .slice ato r.to.length ct, .slice ax r.text.length cx, .slice ai r.nums.length ci] 94)).alloc (.cells #[.slice none 0 0, .int .i64 0, .int .i64 0, .int .i64 0, .slice none 0 0, .slice none 0 0, .slice none 0 0] 105)).alloc (.cells #[.slice none 0 0, .int .i64 0, .int .i64 0, .int .i64 0, .slice none 0 0, .slice none 0 0, .slice none 0 0] 105)) = W at *
 refine (toName_any an cn r.name _ (unhide I0).name (unhide HS).name (unhide HS).names).mono ?_
 rintro e w1 ⟨v1, rfl, o1, b1⟩
 obtain ⟨n1, m1, rfl, _⟩ := o1.hasL.form
 have bb1 := below_next b0 b1
 have K1 := hide (block_kept b1 (unhide K0))
 have R1 := hide (block_kept b1 (unhide R0))
 have V1 := block_kept b1 (unhide V0)
 have O1 := hide o1.here
 have z1 := b1.size
 obtain ⟨d0, d1, d2, d3, d4, d5, d6⟩ := cells7 (unhide K1)
 obtain ⟨f0, f1, f2, f3, f4, f5, f6⟩ := cells7 V1
 obtain ⟨g0, g1, g2, g3, g4, g5, g6⟩ := frozen7 V1
 clear b0 K0 R0 V0 b1 o1 I0
 go_wp2_with fail
 clear d0 d1 d2 d3 d4 d5 d6 f0 f1 f2 f3 f4 f5 f6 g0 g1 g2 g3 g4 g5 g6
 have u2 : Outside (w.heap.size + 1 + 1) (w.heap.size + 1 + 1 + 1) w1 ((((w1.setCell ⟨w.heap.size + 1 + 1, 0, none⟩ (.slice n1 r.name.length m1)).setCell ⟨w.heap.size + 1 + 1, 1, none⟩ (.int .i64 r.type)).setCell ⟨w.heap.size + 1 + 1, 2, none⟩ (.int .i64 r.ttl)).setCell ⟨w.heap.size + 1 + 1, 3, none⟩ (.int .i64 r.addr)) := (((outside_set _ _ _ _).trans (outside_set _ _ _ _)).trans (outside_set _ _ _ _)).trans (outside_set _ _ _ _)
 have V2 : ((((w1.setCell ⟨w.heap.size + 1 + 1, 0, none⟩ (.slice n1 r.name.length m1)).setCell ⟨w.heap.size + 1 + 1, 1, none⟩ (.int .i64 r.type)).setCell ⟨w.heap.size + 1 + 1, 2, none⟩ (.int .i64 r.ttl)).setCell ⟨w.heap.size + 1 + 1, 3, none⟩ (.int .i64 r.addr)).heap[w.heap.size + 1 + 1]? = some (.cells #[.slice n1 r.name.length m1, .int .i64 r.type, .int .i64 r.ttl, .int .i64 r.addr, .slice none 0 0, .slice none 0 0, .slice none 0 0] 105) := block_setAt (block_setAt (block_setAt (block_setAt V1 0 _) 1 _) 2 _) 3 _
 generalize ((((w1.setCell ⟨w.heap.size + 1 + 1, 0, none⟩ (.slice n1 r.name.length m1)).setCell ⟨w.heap.size + 1 + 1, 1, none⟩ (.int .i64 r.type)).setCell ⟨w.heap.size + 1 + 1, 2, none⟩ (.int .i64 r.ttl)).setCell ⟨w.heap.size + 1 + 1, 3, none⟩ (.int .i64 r.addr)) = w2 at *
 have bb2 := u2.below bb1 (by omega)
 have K2 := hide (u2.kept (unhide K1) (by omega))
 have R2 := hide (u2.kept (unhide R1) (by omega))
 have O2 := hide ((unhide O1).outside u2 (by omega))
 have z2 := u2.size
 clear bb1 K1 R1 O1 u2 V1
 refine (toName_any ato ct r.to _ ((unhide HI).below bb2).to (unhide HS).to (unhide HS).tos).mono ?_
 rintro e w3 ⟨v3, rfl, o3, b3⟩
 obtain ⟨n2, m2, rfl, _⟩ := o3.hasL.form
 have bb3 := below_next bb2 b3
 have K3 := hide (block_kept b3 (unhide K2))
 have R3 := hide (block_kept b3 (unhide R2))
 have V3 := block_kept b3 V2
 have O3 := hide ((unhide O2).below b3)
 have T3 := hide o3.here
 have z3 := b3.size
 obtain ⟨d0, d1, d2, d3, d4, d5, d6⟩ := cells7 (unhide K3)
 obtain ⟨f0, f1, f2, f3, f4, f5, f6⟩ := cells7 V3
 obtain ⟨g0, g1, g2, g3, g4, g5, g6⟩ := frozen7 V3
 clear bb2 K2 R2 V2 b3 o3 O2
 go_wp2_with fail
 clear d0 d1 d2 d3 d4 d5 d6 f0 f1 f2 f3 f4 f5 f6 g0 g1 g2 g3 g4 g5 g6
 have u4 := outside_set w3 (w.heap.size + 1 + 1) 4 (.slice n2 r.to.length m2)
 have V4 : (w3.setCell ⟨w.heap.size + 1 + 1, 4, none⟩ (.slice n2 r.to.length m2)).heap[w.heap.size + 1 + 1]? = some (.cells #[.slice n1 r.name.length m1, .int .i64 r.type, .int .i64 r.ttl, .int .i64 r.addr, .slice n2 r.to.length m2, .slice none 0 0, .slice none 0 0] 105) := block_setAt V3 4 _
 generalize (w3.setCell ⟨w.heap.size + 1 + 1, 4, none⟩ (.slice n2 r.to.length m2)) = w4 at *
 have bb4 := u4.below bb3 (by omega)
 have K4 := hide (u4.kept (unhide K3) (by omega))
 have R4 := hide (u4.kept (unhide R3) (by omega))
 have O4 := hide ((unhide O3).outside u4 (by omega))
 have T4 := hide ((unhide T3).outside u4 (by omega))
 have z4 := u4.size
 clear bb3 K3 R3 O3 T3 u4 V3
 refine (toByteS_any ax cx r.text _ ((unhide HI).below bb4).text (unhide HS).text).mono ?_
 rintro e w5 ⟨v5, rfl, o5, b5⟩
 obtain ⟨n3, m3, rfl, _⟩ := o5.lies
 have bb5 := below_next bb4 b5
 have K5 := hide (block_kept b5 (unhide K4))
 have R5 := hide (block_kept b5 (unhide R4))
 have V5 := block_kept b5 V4
 have O5 := hide ((unhide O4).below b5)
 have T5 := hide ((unhide T4).below b5)
 have X5 := hide o5.here
 have z5 := b5.size
 obtain ⟨d0, d1, d2, d3, d4, d5, d6⟩ := cells7 (unhide K5)
 obtain ⟨f0, f1, f2, f3, f4, f5, f6⟩ := cells7 V5
 obtain ⟨g0, g1, g2, g3, g4, g5, g6⟩ := frozen7 V5
 clear bb4 K4 R4 V4 b5 o5 O4 T4
 go_wp2_with fail
 clear d0 d1 d2 d3 d4 d5 d6 f0 f1 f2 f3 f4 f5 f6 g0 g1 g2 g3 g4 g5 g6
 have u6 := outside_set w5 (w.heap.size + 1 + 1) 5 (.slice n3 r.text.length m3)
 have V6 : (w5.setCell ⟨w.heap.size + 1 + 1, 5, none⟩ (.slice n3 r.text.length m3)).heap[w.heap.size + 1 + 1]? = some (.cells #[.slice n1 r.name.length m1, .int .i64 r.type, .int .i64 r.ttl, .int .i64 r.addr, .slice n2 r.to.length m2, .slice n3 r.text.length m3, .slice none 0 0] 105) := block_setAt V5 5 _
 generalize (w5.setCell ⟨w.heap.size + 1 + 1, 5, none⟩ (.slice n3 r.text.length m3)) = w6 at *
 have bb6 := u6.below bb5 (by omega)
 have R6 := hide (u6.kept (unhide R5) (by omega))
 have O6 := hide ((unhide O5).outside u6 (by omega))
 have T6 := hide ((unhide T5).outside u6 (by omega))
 have X6 := hide ((unhide X5).outside u6 (by omega))
 have z6 := u6.size
 clear bb5 K5 R5 O5 T5 X5 u6 V5
 refine (toIntS_any ai ci r.nums _ ((unhide HI).below bb6).nums (unhide HS).nums).mono ?_
 rintro e w7 ⟨v7, rfl, o7, b7⟩
 obtain ⟨n4, m4, rfl, _⟩ := o7.lies
 have bb7 := below_next bb6 b7
 have R7 := block_kept b7 (unhide R6)
 have V7 := block_kept b7 V6
 have O7 := hide ((unhide O6).below b7)
 have T7 := hide ((unhide T6).below b7)
 have X7 := hide ((unhide X6).below b7)
 have Y7 := hide o7.here
 have z7 := b7.size
 obtain ⟨f0, f1, f2, f3, f4, f5, f6⟩ := cells7 V7
 obtain ⟨g0, g1, g2, g3, g4, g5, g6⟩ := frozen7 V7
 obtain ⟨p0, p1, p2, p3, p4, p5, p6⟩ := cells7 R7
 obtain ⟨q0, q1, q2, q3, q4, q5, q6⟩ := frozen7 R7
 clear bb6 R6 V6 b7 o7 O6 T6 X6
 go_wp2_with fail
 clear f0 f1 f2 f3 f4 f5 f6 g0 g1 g2 g3 g4 g5 g6 p0 p1 p2 p3 p4 p5 p6 q0 q1 q2 q3 q4 q5 q6
 have u8 := (outside_set w7 (w.heap.size + 1 + 1) 6 (.slice n4 r.nums.length m4)).wide (B' := w.heap.size + 1) (E' := w.heap.size + 3) (by omega) (by omega)
 have R8 := block_other R7 (b' := w.heap.size + 1 + 1) (by omega) 6 (.slice n4 r.nums.length m4)
 generalize w7.setCell ⟨w.heap.size + 1 + 1, 6, none⟩ (.slice n4 r.nums.length m4) = w8 at *
 obtain ⟨R9, u9⟩ := set7 (c0 := .slice n1 r.name.length m1) (c1 := .int .i64 r.type) (c2 := .int .i64 r.ttl) (c3 := .int .i64 r.addr) (c4 := .slice n2 r.to.length m2) (c5 := .slice n3 r.text.length m3) (c6 := .slice n4 r.nums.length m4) R8
 refine bodyPost_ret (results_cell_row rfl _ _ (w.heap.size + 1) 105 #[.slice n1 r.name.length m1, .int .i64 r.type, .int .i64 r.ttl, .int .i64 r.addr, .slice n2 r.to.length m2, .slice n3 r.text.length m3, .slice n4 r.nums.length m4] (0, 0) _ rfl R9 Tryz.underlying105 rfl (by kernel_rfl)) rfl ?_
 have u10 := u8.trans (u9.wide (B' := w.heap.size + 1) (E' := w.heap.size + 3) (by omega) (by omega))
 have z10 := u10.size
 exact ⟨_, _, _, _, rfl, ⟨w1.heap.size, w3.heap.size, w5.heap.size, by omega, by omega, by omega, by omega, ((unhide O7).outside u10 (by omega)).wide (by omega) (by omega), ((unhide T7).outside u10 (by omega)).wide (by omega) (by omega), ((unhide X7).outside u10 (by omega)).wide (by omega) (by omega), ((unhide Y7).outside u10 (by omega)).wide (by omega) (by omega)⟩, u10.below bb7 (by omega)⟩
end Go.Proofs.YtfbfakdkemlbmaaGreat

namespace Go.Proofs.YtfbfakdkemlbmaaGreat
open Go.RowKit
set_option linter.unusedVariables false

theorem run_make7 {P : Program} (t e : TypeId) (zs : Array Value) (bytes : Nat) (ht : P.underlying t = some (.slice e)) (hinfo : (P.info? e).map (fun i => (i.zero, i.size, i.bytes)) = some (some (.agg zs), 7, bytes))
  (kl kc : IntKind) (n : Nat) (hbytes : bytes * n ≤ 281474976710656) (h63 : n ≤ 9223372036854775807) (w : World) :
  (Instr.makeSlice t (.int kl (n : Int)) (.int kc (n : Int))).run P w = .ok (.slice (some ⟨w.heap.size, 0, none⟩) n n) (w.alloc (.cells (madeCells zs (n * 7)) e)) := by
 obtain ⟨i, hi, hzz⟩ := Option.map_eq_some_iff.1 hinfo
 simp only [Prod.mk.injEq] at hzz
 obtain ⟨hz, hs, hb⟩ := hzz
 subst hb
 have hb' : (i.bytes : Int) * (n : Int) ≤ 281474976710656 := by
  have h : ((i.bytes * n : Nat) : Int) ≤ 281474976710656 := by omega
  rwa [Int.natCast_mul] at h
 have hr := run_make (P := P) w t e i (.agg zs) ht hi hz kl kc n n (by omega) (Int.le_refl _) hb' (by omega)
 simp only [Int.toNat_natCast, hs] at hr
 exact hr
theorem info_rr : (Tryz.prog.info? 105).map (fun i => (i.zero, i.size, i.bytes)) = some (some (.agg #[.slice none 0 0, .int .i64 0, .int .i64 0, .int .i64 0, .slice none 0 0, .slice none 0 0, .slice none 0 0]), 7, 120) := by kernel_rfl
set_option maxHeartbeats 1000000 in
set_option maxRecDepth 100000 in
theorem eqRrS_has {v v' : Value} {rs : List Rec} {w : World} (h : HasRs w v rs) (h' : HasRs w v' rs) (hl2 : ∀ i, i < rs.length → SizeR 2097152 (rs.getD i recZ)) :
  Calls Tryz.prog 39 #[v, v'] w fun e w' => e = .returned (.bool true) ∧ Below w.heap.size w w' := by
 obtain ⟨a, cap, rfl, hl, hm⟩ := h.form
 obtain ⟨a', cap', rfl, hl', hm'⟩ := h'.form
 unfold maxLen at hm hm'
 have HL := hide hl2
 clear hl2
 generalize hn : rs.length = m at *
 have HN := hide hn
 clear hn
 go_enter Tryz.func39, Tryz.ntmps39
 go_wp2
 go_loopw [5] (fun i wr => ∃ k : Nat, k ≤ m ∧ i = .int .i64 k ∧ Below w.heap.size w wr) (fun i _ => m - (intOf i).toNat)
 case atStart => exact ⟨0, Nat.zero_le _, rfl, Below.refl _ _⟩
 case round =>
  obtain ⟨k, hk, rfl, hb⟩ := hrel
  by_cases hlt : k < m
  ·obtain ⟨b, off, na, nc, ta, tc, xa, xc, ia, ic, rfl, hbl, hc, hu⟩ := (h.below hb).here (k := k) (by rw [unhide HN]; exact hlt)
   obtain ⟨b', off', na', nc', ta', tc', xa', xc', ia', ic', rfl, hbl', hc', hu'⟩ := (h'.below hb).here (k := k) (by rw [unhide HN]; exact hlt)
   have HLK := hide (unhide HL k hlt)
   generalize rs.getD k recZ = rk at *
   have bd := below_drew (w := wr)
   have HU := hide (hu.below bd)
   have HU' := hide (hu'.below bd)
   have hbd := below_next hb bd
   have HC := hide (range_below hc hbl bd)
   have HC' := hide (range_below hc' hbl' bd)
   have hbld : b < wr.drew.heap.size := hbl
   have hbld' : b' < wr.drew.heap.size := hbl'
   clear hu hu' hc hc' hb
   go_wp2_with fail
   go_region_held3 (fun w' => (w'.cell? ⟨b, off + k * 7, none⟩ = some (.slice na rk.name.length nc) ∧ w'.cell? ⟨b, off + k * 7 + 1, none⟩ = some (.int .i64 rk.type) ∧ w'.cell? ⟨b, off + k * 7 + 2, none⟩ = some (.int .i64 rk.ttl) ∧ w'.cell? ⟨b, off + k * 7 + 3, none⟩ = some (.int .i64 rk.addr) ∧ w'.cell? ⟨b, off + k * 7 + 4, none⟩ = some (.slice ta rk.to.length tc) ∧ w'.cell? ⟨b, off + k * 7 + 5, none⟩ = some (.slice xa rk.text.length xc) ∧ w'.cell? ⟨b, off + k * 7 + 6, none⟩ = some (.slice ia rk.nums.length ic)) ∧ (w'.cell? ⟨b', off' + k * 7, none⟩ = some (.slice na' rk.name.length nc') ∧ w'.cell? ⟨b', off' + k * 7 + 1, none⟩ = some (.int .i64 rk.type) ∧ w'.cell? ⟨b', off' + k * 7 + 2, none⟩ = some (.int .i64 rk.ttl) ∧ w'.cell? ⟨b', off' + k * 7 + 3, none⟩ = some (.int .i64 rk.addr) ∧ w'.cell? ⟨b', off' + k * 7 + 4, none⟩ = some (.slice ta' rk.to.length tc') ∧ w'.cell? ⟨b', off' + k * 7 + 5, none⟩ = some (.slice xa' rk.text.length xc') ∧ w'.cell? ⟨b', off' + k * 7 + 6, none⟩ = some (.slice ia' rk.nums.length ic')))
    (first | exact ⟨range7 (unhide HC), range7 (unhide HC')⟩ | exact ⟨range7 (range_below (unhide HC) hbld b2), range7 (range_below (unhide HC') hbld' b2)⟩)
    (first
    | (go_at_call 57; refine (eqRr_has (unhide HU) (unhide HU') (unhide HLK)).mono ?_; rintro e w2 ⟨rfl, b2⟩))
   go_wp2
   exact ⟨⟨k + 1, by omega, by go_num, below_next hbd b2⟩, by simp [intOf]; omega⟩
  ·go_wp2
   go_ret
   exact ⟨rfl, hb⟩
end Go.Proofs.YtfbfakdkemlbmaaGreat

namespace Go.Proofs.YtfbfakdkemlbmaaGreat
open Go.RowKit
set_option linter.unusedVariables false


set_option maxHeartbeats 1000000 in
set_option maxRecDepth 100000 in
theorem szQuestion_any (a : Option Addr) (c : Nat) (q : Que) (left : Int) (w : World) (h : LiesL w a q.name) (hm : SizeQu maxLen q) (h0 : 0 ≤ left) (h1 : left ≤ 1048576) :
  Calls Tryz.prog 44 #[.agg #[.slice a q.name.length c, .int .i64 q.type], .int .i64 left] w fun e w' => (∃ y : Int, e = .returned (.int .i64 y) ∧ -1 ≤ y ∧ y ≤ left ∧ (0 ≤ y → SizeQu left.toNat q)) ∧ Below w.heap.size w w' := by
 have b0 := below_alloc (w := w) (.cells #[.slice a q.name.length c, .int .i64 q.type] 90)
 have HC := hide (szName_any a c q.name left _ (h.below b0) hm.name hm.names h0 h1)
 clear h hm
 go_enter Tryz.func44, Tryz.ntmps44
 go_wp2_with fail
 generalize w.alloc (.cells #[.slice a q.name.length c, .int .i64 q.type] 90) = W at *
 refine (unhide HC).mono ?_
 rintro e w1 ⟨⟨y1, rfl, ya1, yb1, yc1⟩, b1⟩
 have bb1 := below_next b0 b1
 have Y1 := hide yc1
 clear yc1 b0 b1 HC
 by_cases n1 : y1 < 0
 ·go_wp2
  go_ret
  exact ⟨⟨-1, rfl, by omega, by omega, fun q => by omega⟩, bb1⟩
 go_wp2
 go_ret
 have p1 := unhide Y1 (by omega)
 exact ⟨⟨y1, rfl, by omega, by omega, fun _ => ⟨by omega, fun i hi => by have := p1.2 i hi; omega⟩⟩, bb1⟩

set_option maxHeartbeats 1000000 in
set_option maxRecDepth 100000 in
theorem toQuestion_any (a : Option Addr) (c : Nat) (q : Que) (w : World) (h : LiesL w a q.name) (hs : SizeQu 1048576 q) :
  Calls Tryz.prog 52 #[.agg #[.slice a q.name.length c, .int .i64 q.type]] w fun e w' => ∃ v, e = .returned (.agg #[v, .int .i64 q.type]) ∧ OwnN w.heap.size w'.heap.size 27 5 w' v q.name ∧ Below w.heap.size w w' := by
 obtain ⟨hsz, r0, v0⟩ := box3 w (.cells #[.slice a q.name.length c, .int .i64 q.type] 90) #[.slice none 0 0, .int .i64 0] #[.slice none 0 0, .int .i64 0] 102 102
 have b0 : Below w.heap.size w (((w.alloc (.cells #[.slice a q.name.length c, .int .i64 q.type] 90)).alloc (.cells #[.slice none 0 0, .int .i64 0] 102)).alloc (.cells #[.slice none 0 0, .int .i64 0] 102)) := ((below_alloc _).alloc (below_alloc _).size _).alloc ((below_alloc _).alloc (below_alloc _).size _).size _
 have k0 : (((w.alloc (.cells #[.slice a q.name.length c, .int .i64 q.type] 90)).alloc (.cells #[.slice none 0 0, .int .i64 0] 102)).alloc (.cells #[.slice none 0 0, .int .i64 0] 102)).heap[w.heap.size]? = some (.cells #[.slice a q.name.length c, .int .i64 q.type] 90) := block_kept (below_alloc _) (block_kept (below_alloc _) (heap_alloc_new w _))
 have HC := hide (toName_any a c q.name _ (h.below b0) hs.name hs.names)
 have K0 := hide k0
 have R0 := hide r0
 have V0 := hide v0
 have zv := block_lt v0
 clear h hs k0 r0 v0 hsz
 go_enter Tryz.func52, Tryz.ntmps52
 go_wp2_with fail
 generalize (((w.alloc (.cells #[.slice a q.name.length c, .int .i64 q.type] 90)).alloc (.cells #[.slice none 0 0, .int .i64 0] 102)).alloc (.cells #[.slice none 0 0, .int .i64 0] 102)) = W at *
 refine (unhide HC).mono ?_
 rintro e w1 ⟨v1, rfl, o1, b1⟩
 obtain ⟨n1, m1, rfl, _⟩ := o1.hasL.form
 have bb1 := below_next b0 b1
 have K1 := block_kept b1 (unhide K0)
 have R1 := block_kept b1 (unhide R0)
 have V1 := block_kept b1 (unhide V0)
 have O1 := hide o1.here
 have z1 := b1.size
 obtain ⟨d0, d1⟩ := cells2 K1
 obtain ⟨f0, f1⟩ := cells2 V1
 obtain ⟨g0, g1⟩ := frozen2 V1
 obtain ⟨p0, p1⟩ := cells2 R1
 obtain ⟨q0, q1⟩ := frozen2 R1
 clear b0 K0 R0 V0 b1 o1 HC
 go_wp2_with fail
 clear d0 d1 f0 f1 g0 g1 p0 p1 q0 q1
 have V2 : ((w1.setCell ⟨w.heap.size + 1 + 1, 0, none⟩ (.slice n1 q.name.length m1)).setCell ⟨w.heap.size + 1 + 1, 1, none⟩ (.int .i64 q.type)).heap[w.heap.size + 1 + 1]? = some (.cells #[.slice n1 q.name.length m1, .int .i64 q.type] 102) := block_setAt (block_setAt V1 0 _) 1 _
 have u2 := ((outside_set w1 (w.heap.size + 1 + 1) 0 (.slice n1 q.name.length m1)).trans (outside_set _ (w.heap.size + 1 + 1) 1 (.int .i64 q.type))).wide (B' := w.heap.size + 1) (E' := w.heap.size + 3) (by omega) (by omega)
 have R2 := block_other (block_other R1 (b' := w.heap.size + 1 + 1) (by omega) 0 (.slice n1 q.name.length m1)) (b' := w.heap.size + 1 + 1) (by omega) 1 (.int .i64 q.type)
 generalize (w1.setCell ⟨w.heap.size + 1 + 1, 0, none⟩ (.slice n1 q.name.length m1)).setCell ⟨w.heap.size + 1 + 1, 1, none⟩ (.int .i64 q.type) = w4 at *
 have R5 : ((w4.setCell ⟨w.heap.size + 1, 0, none⟩ (.slice n1 q.name.length m1)).setCell ⟨w.heap.size + 1, 1, none⟩ (.int .i64 q.type)).heap[w.heap.size + 1]? = some (.cells #[.slice n1 q.name.length m1, .int .i64 q.type] 102) := block_setAt (block_setAt R2 0 _) 1 _
 have u5 := ((outside_set w4 (w.heap.size + 1) 0 (.slice n1 q.name.length m1)).trans (outside_set _ (w.heap.size + 1) 1 (.int .i64 q.type))).wide (B' := w.heap.size + 1) (E' := w.heap.size + 3) (by omega) (by omega)
 refine bodyPost_ret (results_cell_row rfl _ _ (w.heap.size + 1) 102 #[.slice n1 q.name.length m1, .int .i64 q.type] (0, 0) _ rfl R5 Tryz.underlying102 rfl (by kernel_rfl)) rfl ?_
 have u6 := u2.trans u5
 have z6 := u6.size
 exact ⟨_, rfl, ((unhide O1).outside u6 (by omega)).wide (by omega) (by omega), u6.below bb1 (by omega)⟩

set_option maxHeartbeats 1000000 in
set_option maxRecDepth 100000 in
theorem eqQuestion_has {v v' : Value} {q : Que} {w : World} (h : HasL w v q.name) (h' : HasL w v' q.name) (hs : SizeQu 2097152 q) :
  Calls Tryz.prog 56 #[.agg #[v, .int .i64 q.type], .agg #[v', .int .i64 q.type]] w fun e w' => e = .returned (.bool true) ∧ Below w.heap.size w w' := by
 obtain ⟨oa, oc, rfl, _⟩ := h.form
 obtain ⟨oa', oc', rfl, _⟩ := h'.form
 have b0 := below2 w (.cells #[.slice oa q.name.length oc, .int .i64 q.type] 102) (.cells #[.slice oa' q.name.length oc', .int .i64 q.type] 102)
 obtain ⟨hsz, k0, x0⟩ := box2 w (.cells #[.slice oa q.name.length oc, .int .i64 q.type] 102) #[.slice oa' q.name.length oc', .int .i64 q.type] 102
 have HC := hide (eqName_has (h.below b0) (h'.below b0) hs.names)
 have K0 := hide k0
 have X0 := hide x0
 clear h h' hs k0 x0 hsz
 go_enter Tryz.func56, Tryz.ntmps56
 go_wp2_with fail
 generalize (w.alloc (.cells #[.slice oa q.name.length oc, .int .i64 q.type] 102)).alloc (.cells #[.slice oa' q.name.length oc', .int .i64 q.type] 102) = W at *
 refine (unhide HC).mono ?_
 rintro e w1 ⟨rfl, b1⟩
 have bb1 := below_next b0 b1
 obtain ⟨d0, d1⟩ := cells2 (block_kept b1 (unhide K0))
 obtain ⟨f0, f1⟩ := cells2 (block_kept b1 (unhide X0))
 clear b0 K0 X0 b1 HC
 go_wp2_with fail
 go_ret
 exact ⟨rfl, bb1⟩
end Go.Proofs.YtfbfakdkemlbmaaGreat
