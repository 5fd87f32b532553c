/-
  Contracts of the helpers of the laws for rows of records (szRrS, toRrS, eqRrS). Contract of a helper of the laws: rows of records that are made of what came in, and own their memory (toRrS). Contracts of the helpers of the laws for slots (szSlot, toSlot, eqSlot).
-/
import Derived.Test.YtpolekinfobecaaGreatCacheTickG04
import Derived.Test.YtpolekinfobecaaGreatCacheTickG11
import Derived.Deep.RegionHeld3
import Derived.Test.YtpolekinfobecaaGreatCacheTickG07
import Derived.Test.YtpolekinfobecaaGreatCacheTickG08
import Derived.Test.YtpolekinfobecaaGreatCacheTickG10
import Derived.Test.YtpolekinfobecaaGreatCacheTickG02
namespace Go.Proofs.YtpolekinfobecaaGreat
open Go.RowKit
set_option linter.unusedVariables false

theorem run_make7 {P : Program} (t e : TypeId) (zs : Array Value) (bytes : Nat) (ht : P.underlying t = some (.slice e)) (hinfo : (P.info? e).map (fun i => (i.zero, i.size, i.bytes)) = some (some (.agg zs), 7, bytes))
  (kl kc : IntKind) (n : Nat) (hbytes : bytes * n ≤ 281474976710656) (h63 : n ≤ 9223372036854775807) (w : World) :
  (Instr.makeSlice t (.int kl (n : Int)) (.int kc (n : Int))).run P w = .ok (.slice (some ⟨w.heap.size, 0, none⟩) n n) (w.alloc (.cells (madeCells zs (n * 7)) e)) := by
 obtain ⟨i, hi, hzz⟩ := Option.map_eq_some_iff.1 hinfo
 simp only [Prod.mk.injEq] at hzz
 obtain ⟨hz, hs, hb⟩ := hzz
 subst hb
 have hb' : (i.bytes : Int) * (n : Int) ≤ 281474976710656 := by
  have h : ((i.bytes * n : Nat) : Int) ≤ 281474976710656 := by omega
  rwa [Int.natCast_mul] at h
 have hr := run_make (P := P) w t e i (.agg zs) ht hi hz kl kc n n (by omega) (Int.le_refl _) hb' (by omega)
 simp only [Int.toNat_natCast, hs] at hr
 exact hr
theorem info_rr : (Tryz.prog.info? 56).map (fun i => (i.zero, i.size, i.bytes)) = some (some (.agg #[.slice none 0 0, .int .i64 0, .int .i64 0, .int .i64 0, .slice none 0 0, .slice none 0 0, .slice none 0 0]), 7, 120) := by kernel_rfl
set_option maxHeartbeats 1000000 in
set_option maxRecDepth 100000 in
theorem eqRrS_has {v v' : Value} {rs : List Rec} {w : World} (h : HasRs w v rs) (h' : HasRs w v' rs) (hl2 : ∀ i, i < rs.length → SizeR 2097152 (rs.getD i recZ)) :
  Calls Tryz.prog 79 #[v, v'] w fun e w' => e = .returned (.bool true) ∧ Below w.heap.size w w' := by
 obtain ⟨a, cap, rfl, hl, hm⟩ := h.form
 obtain ⟨a', cap', rfl, hl', hm'⟩ := h'.form
 unfold maxLen at hm hm'
 have HL := hide hl2
 clear hl2
 generalize hn : rs.length = m at *
 have HN := hide hn
 clear hn
 go_enter Tryz.func79, Tryz.ntmps79
 go_wp2
 go_loopw [5] (fun i wr => ∃ k : Nat, k ≤ m ∧ i = .int .i64 k ∧ Below w.heap.size w wr) (fun i _ => m - (intOf i).toNat)
 case atStart => exact ⟨0, Nat.zero_le _, rfl, Below.refl _ _⟩
 case round =>
  obtain ⟨k, hk, rfl, hb⟩ := hrel
  by_cases hlt : k < m
  ·obtain ⟨b, off, na, nc, ta, tc, xa, xc, ia, ic, rfl, hbl, hc, hu⟩ := (h.below hb).here (k := k) (by rw [unhide HN]; exact hlt)
   obtain ⟨b', off', na', nc', ta', tc', xa', xc', ia', ic', rfl, hbl', hc', hu'⟩ := (h'.below hb).here (k := k) (by rw [unhide HN]; exact hlt)
   have HLK := hide (unhide HL k hlt)
   generalize rs.getD k recZ = rk at *
   have bd := below_drew (w := wr)
   have HU := hide (hu.below bd)
   have HU' := hide (hu'.below bd)
   have hbd := below_next hb bd
   have HC := hide (range_below hc hbl bd)
   have HC' := hide (range_below hc' hbl' bd)
   have hbld : b < wr.drew.heap.size := hbl
   have hbld' : b' < wr.drew.heap.size := hbl'
   clear hu hu' hc hc' hb
   go_wp2_with fail
   go_region_held3 (fun w' => (w'.cell? ⟨b, off + k * 7, none⟩ = some (.slice na rk.name.length nc) ∧ w'.cell? ⟨b, off + k * 7 + 1, none⟩ = some (.int .i64 rk.type) ∧ w'.cell? ⟨b, off + k * 7 + 2, none⟩ = some (.int .i64 rk.ttl) ∧ w'.cell? ⟨b, off + k * 7 + 3, none⟩ = some (.int .i64 rk.addr) ∧ w'.cell? ⟨b, off + k * 7 + 4, none⟩ = some (.slice ta rk.to.length tc) ∧ w'.cell? ⟨b, off + k * 7 + 5, none⟩ = some (.slice xa rk.text.length xc) ∧ w'.cell? ⟨b, off + k * 7 + 6, none⟩ = some (.slice ia rk.nums.length ic)) ∧ (w'.cell? ⟨b', off' + k * 7, none⟩ = some (.slice na' rk.name.length nc') ∧ w'.cell? ⟨b', off' + k * 7 + 1, none⟩ = some (.int .i64 rk.type) ∧ w'.cell? ⟨b', off' + k * 7 + 2, none⟩ = some (.int .i64 rk.ttl) ∧ w'.cell? ⟨b', off' + k * 7 + 3, none⟩ = some (.int .i64 rk.addr) ∧ w'.cell? ⟨b', off' + k * 7 + 4, none⟩ = some (.slice ta' rk.to.length tc') ∧ w'.cell? ⟨b', off' + k * 7 + 5, none⟩ = some (.slice xa' rk.text.length xc') ∧ w'.cell? ⟨b', off' + k * 7 + 6, none⟩ = some (.slice ia' rk.nums.length ic')))
    (first | exact ⟨range7 (unhide HC), range7 (unhide HC')⟩ | exact ⟨range7 (range_below (unhide HC) hbld b2), range7 (range_below (unhide HC') hbld' b2)⟩)
    (first
    | (go_at_call 109; refine (eqRr_has (unhide HU) (unhide HU') (unhide HLK)).mono ?_; rintro e w2 ⟨rfl, b2⟩))
   go_wp2
   exact ⟨⟨k + 1, by omega, by go_num, below_next hbd b2⟩, by simp [intOf]; omega⟩
  ·go_wp2
   go_ret
   exact ⟨rfl, hb⟩
end Go.Proofs.YtpolekinfobecaaGreat

namespace Go.Proofs.YtpolekinfobecaaGreat
open Go.RowKit
set_option linter.unusedVariables false

set_option maxHeartbeats 1000000 in
set_option maxRecDepth 100000 in
theorem toRrS_own (a : Option Addr) (cap : Nat) (rs : List Rec) (w : World) (h : LiesRs w a rs) (hl : rs.length ≤ 1048576) (hl2 : ∀ i, i < rs.length → SizeR 1048576 (rs.getD i recZ)) :
  Calls Tryz.prog 72 #[.slice a rs.length cap] w fun e w' => ∃ v, e = .returned v ∧ RowO w.heap.size w'.heap.size 56 53 5 3 w' v rs ∧ Below w.heap.size w w' := by
 have hmk := run_make7 (P := Tryz.prog) 45 56 _ 120 Tryz.underlying45 info_rr .i64 .i64 rs.length (by omega) (by omega)
 generalize hn : rs.length = m at *
 have HN := hide hn
 clear hn
 have HL := hide hl2
 clear hl2
 have F0 := hide (fillO_none w m #[.slice none 0 0, .int .i64 0, .int .i64 0, .int .i64 0, .slice none 0 0, .slice none 0 0, .slice none 0 0] 56 53 5 3 rs)
 have B0 := hide (below_alloc (w := w) (.cells (madeCells #[.slice none 0 0, .int .i64 0, .int .i64 0, .int .i64 0, .slice none 0 0, .slice none 0 0, .slice none 0 0] (m * 7)) 56))
 go_enter Tryz.func72, Tryz.ntmps72
 go_wp2
 go_loopw [4] (fun i wr => ∃ (k : Nat), k ≤ m ∧ i = .int .i64 k ∧ FillO w.heap.size m k 56 53 5 3 wr rs ∧ Below w.heap.size w wr) (fun i _ => m - (intOf i).toNat)
 case atStart => exact ⟨0, Nat.zero_le _, rfl, unhide F0, unhide B0⟩
 case round =>
  clear F0 B0
  obtain ⟨k, hk, rfl, hf, hb⟩ := hrel
  by_cases hlt : k < m
  ·obtain ⟨b, off, an, cn, ato, ct, ax, cx, ai, ci, rfl, hbl, hc, hIn⟩ := (h.below hb).here (k := k) (by rw [unhide HN]; exact hlt)
   have HF := hide hf
   have HI := hide hIn
   have HLK := hide (unhide HL k hlt)
   obtain ⟨c0, c1, c2, c3, c4, c5, c6⟩ := range7 hc
   have zf := hf.lt
   generalize hrk : rs.getD k recZ = rk at *
   have HRK := hide hrk
   clear hf hIn hc hrk
   go_wp2_with fail
   refine (toRr_any an cn ato ct ax cx ai ci rk _ (unhide HI) (unhide HLK)).mono ?_
   rintro e w1 ⟨vn, vt, vx, vi, rfl, o1, b1⟩
   clear c0 c1 c2 c3 c4 c5 c6
   have hb1 := below_next hb b1
   have ht := ((unhide HF).below b1).here hlt
   have hst := (unhide HF).step b1 hlt (vn := vn) (vt := vt) (vx := vx) (vi := vi) (by rw [unhide HRK]; exact o1)
   rw [unhide HRK] at hst
   have HST := hide hst
   have hbs := (outside_sets w.heap.size (cellsR vn vt vx vi rk) (k * 7) w1).below hb1 (Nat.le_refl _)
   have HBS := hide hbs
   have HT := hide ht
   obtain ⟨na, nc, rfl, _⟩ := o1.hasR.name.form
   obtain ⟨ta, tc, rfl, _⟩ := o1.hasR.to.form
   obtain ⟨xa, xc, rfl, _⟩ := o1.hasR.text.form
   obtain ⟨ia, ic, rfl, _⟩ := o1.hasR.nums.form
   clear hb1 hst hbs ht o1 b1 hb
   obtain ⟨y0, y1, y2, y3, y4, y5, y6, ⟨d0, d1, d2, d3, d4, d5, d6⟩, f0, f1, f2, f3, f4, f5, f6⟩ := there_cells (unhide HT)
   clear HT
   go_wp2
   exact ⟨⟨k + 1, by omega, by go_num, unhide HST, unhide HBS⟩, by simp [intOf]; omega⟩
  ·obtain rfl : k = m := by omega
   go_wp2
   go_ret
   have hN := unhide HN
   subst hN
   exact ⟨_, rfl, hf.row rfl (by unfold maxLen; omega), hb⟩
end Go.Proofs.YtpolekinfobecaaGreat

namespace Go.Proofs.YtpolekinfobecaaGreat
open Go.RowKit
set_option linter.unusedVariables false

set_option maxHeartbeats 1000000 in
set_option maxRecDepth 100000 in
theorem toSlot_own (na : Option Addr) (nc : Nat) (ra : Option Addr) (rc : Nat) (x : Slt) (w : World) (h : InS2 w na ra x) (hs : SizeSl 1048576 x) :
  Calls Tryz.prog 48 #[.agg #[.slice na x.name.length nc, .int .i64 x.type, .int .i64 x.kind, .slice ra x.rrs.length rc, .int .i64 x.rank, .int .i64 x.till, .int .i64 x.used]] w fun e w' => ∃ vn vr, e = .returned (.agg #[vn, .int .i64 x.type, .int .i64 x.kind, vr, .int .i64 x.rank, .int .i64 x.till, .int .i64 x.used]) ∧ OwnS2 56 53 5 3 w.heap.size w'.heap.size w' vn vr x ∧ Below w.heap.size w w' := by
 obtain ⟨hsz, r0, v0⟩ := box3 w (.cells #[.slice na x.name.length nc, .int .i64 x.type, .int .i64 x.kind, .slice ra x.rrs.length rc, .int .i64 x.rank, .int .i64 x.till, .int .i64 x.used] 75) #[.slice none 0 0, .int .i64 0, .int .i64 0, .slice none 0 0, .int .i64 0, .int .i64 0, .int .i64 0] #[.slice none 0 0, .int .i64 0, .int .i64 0, .slice none 0 0, .int .i64 0, .int .i64 0, .int .i64 0] 47 47
 have bb : Below w.heap.size w (((w.alloc (.cells #[.slice na x.name.length nc, .int .i64 x.type, .int .i64 x.kind, .slice ra x.rrs.length rc, .int .i64 x.rank, .int .i64 x.till, .int .i64 x.used] 75)).alloc (.cells #[.slice none 0 0, .int .i64 0, .int .i64 0, .slice none 0 0, .int .i64 0, .int .i64 0, .int .i64 0] 47)).alloc (.cells #[.slice none 0 0, .int .i64 0, .int .i64 0, .slice none 0 0, .int .i64 0, .int .i64 0, .int .i64 0] 47)) := ((below_alloc _).alloc (below_alloc _).size _).alloc ((below_alloc _).alloc (below_alloc _).size _).size _
 have k0 : (((w.alloc (.cells #[.slice na x.name.length nc, .int .i64 x.type, .int .i64 x.kind, .slice ra x.rrs.length rc, .int .i64 x.rank, .int .i64 x.till, .int .i64 x.used] 75)).alloc (.cells #[.slice none 0 0, .int .i64 0, .int .i64 0, .slice none 0 0, .int .i64 0, .int .i64 0, .int .i64 0] 47)).alloc (.cells #[.slice none 0 0, .int .i64 0, .int .i64 0, .slice none 0 0, .int .i64 0, .int .i64 0, .int .i64 0] 47)).heap[w.heap.size]? = some (.cells #[.slice na x.name.length nc, .int .i64 x.type, .int .i64 x.kind, .slice ra x.rrs.length rc, .int .i64 x.rank, .int .i64 x.till, .int .i64 x.used] 75) := block_kept (below_alloc _) (block_kept (below_alloc _) (heap_alloc_new w _))
 have HI := hide h
 have HS := hide hs
 have KK := hide k0
 have RR := hide r0
 have V := hide v0
 have zv := block_lt v0
 clear h hs r0 v0 hsz
 obtain ⟨d0, d1, d2, d3, d4, d5, d6⟩ := cells7 k0
 clear k0
 go_enter Tryz.func48, Tryz.ntmps48
 go_wp2_with fail
 clear d0 d1 d2 d3 d4 d5 d6
 generalize (((w.alloc (.cells #[.slice na x.name.length nc, .int .i64 x.type, .int .i64 x.kind, .slice ra x.rrs.length rc, .int .i64 x.rank, .int .i64 x.till, .int .i64 x.used] 75)).alloc (.cells #[.slice none 0 0, .int .i64 0, .int .i64 0, .slice none 0 0, .int .i64 0, .int .i64 0, .int .i64 0] 47)).alloc (.cells #[.slice none 0 0, .int .i64 0, .int .i64 0, .slice none 0 0, .int .i64 0, .int .i64 0, .int .i64 0] 47)) = W at *
 refine (toName_any na nc x.name _ ((unhide HI).below bb).name (unhide HS).name (unhide HS).names).mono ?_
 rintro e w1 ⟨v1, rfl, o1, b1⟩
 obtain ⟨xa, xc, rfl, _⟩ := o1.hasL.form
 replace bb := below_next bb b1
 replace KK := hide (block_kept b1 (unhide KK))
 replace RR := hide (block_kept b1 (unhide RR))
 replace V := hide (block_kept b1 (unhide V))
 have O1 := hide o1.here
 have z1 := b1.size
 clear o1 b1
 obtain ⟨d0, d1, d2, d3, d4, d5, d6⟩ := cells7 (unhide KK)
 obtain ⟨f0, f1, f2, f3, f4, f5, f6⟩ := cells7 (unhide V)
 obtain ⟨g0, g1, g2, g3, g4, g5, g6⟩ := frozen7 (unhide V)
 go_wp2_with fail
 clear d0 d1 d2 d3 d4 d5 d6 f0 f1 f2 f3 f4 f5 f6 g0 g1 g2 g3 g4 g5 g6
 obtain ⟨V1, u1⟩ := setA_is (c0 := .slice xa x.name.length xc) (c1 := .int .i64 x.type) (c2 := .int .i64 x.kind) (unhide V)
 unfold setA at V1 u1
 generalize ((w1.setCell ⟨w.heap.size + 1 + 1, 0, none⟩ (.slice xa x.name.length xc)).setCell ⟨w.heap.size + 1 + 1, 1, none⟩ (.int .i64 x.type)).setCell ⟨w.heap.size + 1 + 1, 2, none⟩ (.int .i64 x.kind) = x1 at *
 replace V := hide V1
 replace bb := u1.below bb (by omega)
 replace KK := hide (u1.kept (unhide KK) (by omega))
 replace RR := hide (u1.kept (unhide RR) (by omega))
 replace O1 := hide ((unhide O1).outside u1 (by omega))
 have y1 := u1.size
 clear V1 u1
 refine (toRrS_own ra rc x.rrs _ ((unhide HI).below bb).rrs (unhide HS).rrs (unhide HS).rrss).mono ?_
 rintro e w2 ⟨v2, rfl, o2, b2⟩
 obtain ⟨ya, yc, rfl, _⟩ := o2.form
 replace bb := below_next bb b2
 replace KK := hide (block_kept b2 (unhide KK))
 replace RR := hide (block_kept b2 (unhide RR))
 replace V := hide (block_kept b2 (unhide V))
 replace O1 := hide ((unhide O1).below b2)
 have O2 := hide o2
 have z2 := b2.size
 clear o2 b2
 obtain ⟨d0, d1, d2, d3, d4, d5, d6⟩ := cells7 (unhide KK)
 obtain ⟨f0, f1, f2, f3, f4, f5, f6⟩ := cells7 (unhide V)
 obtain ⟨g0, g1, g2, g3, g4, g5, g6⟩ := frozen7 (unhide V)
 obtain ⟨p0, p1, p2, p3, p4, p5, p6⟩ := cells7 (unhide RR)
 obtain ⟨q0, q1, q2, q3, q4, q5, q6⟩ := frozen7 (unhide RR)
 go_wp2_with fail
 clear d0 d1 d2 d3 d4 d5 d6 f0 f1 f2 f3 f4 f5 f6 g0 g1 g2 g3 g4 g5 g6 p0 p1 p2 p3 p4 p5 p6 q0 q1 q2 q3 q4 q5 q6
 obtain ⟨V4, u4'⟩ := setB_is (c3 := .slice ya x.rrs.length yc) (c4 := .int .i64 x.rank) (c5 := .int .i64 x.till) (c6 := .int .i64 x.used) (unhide V)
 have u4 := u4'.wide (B' := w.heap.size + 1) (E' := w.heap.size + 3) (by omega) (by omega)
 have R4 := u4'.kept (unhide RR) (by omega)
 unfold setB at V4 u4 u4' R4
 generalize (((w2.setCell ⟨w.heap.size + 1 + 1, 3, none⟩ (.slice ya x.rrs.length yc)).setCell ⟨w.heap.size + 1 + 1, 4, none⟩ (.int .i64 x.rank)).setCell ⟨w.heap.size + 1 + 1, 5, none⟩ (.int .i64 x.till)).setCell ⟨w.heap.size + 1 + 1, 6, none⟩ (.int .i64 x.used) = x4 at *
 obtain ⟨R5, u5⟩ := setS_is (c0 := .slice xa x.name.length xc) (c1 := .int .i64 x.type) (c2 := .int .i64 x.kind) (c3 := .slice ya x.rrs.length yc) (c4 := .int .i64 x.rank) (c5 := .int .i64 x.till) (c6 := .int .i64 x.used) R4
 have u8 := u4.trans (u5.wide (B' := w.heap.size + 1) (E' := w.heap.size + 3) (by omega) (by omega))
 have z8 := u8.size
 unfold setS at R5 u8 z8
 refine bodyPost_ret (results_cell_row rfl _ _ (w.heap.size + 1) 47 #[.slice xa x.name.length xc, .int .i64 x.type, .int .i64 x.kind, .slice ya x.rrs.length yc, .int .i64 x.rank, .int .i64 x.till, .int .i64 x.used] (0, 0) _ rfl R5 Tryz.underlying47 rfl (by kernel_rfl)) rfl ?_
 refine ⟨_, _, rfl, ⟨w1.heap.size, by omega, by omega, ?_, ?_⟩, u8.below bb (by omega)⟩
 ·exact ((unhide O1).outside u8 (.inr (by omega))).wide (by omega) (by omega)
 ·exact ((unhide O2).outside u8 (.inr (by omega))).wide (by omega) (by omega)

set_option maxHeartbeats 1000000 in
set_option maxRecDepth 100000 in
theorem eqSlot_has {vn vr vn' vr' : Value} {x : Slt} {w : World} (h : HasS2 w vn vr x) (h' : HasS2 w vn' vr' x) (hs : SizeSl 2097152 x) :
  Calls Tryz.prog 55 #[.agg #[vn, .int .i64 x.type, .int .i64 x.kind, vr, .int .i64 x.rank, .int .i64 x.till, .int .i64 x.used], .agg #[vn', .int .i64 x.type, .int .i64 x.kind, vr', .int .i64 x.rank, .int .i64 x.till, .int .i64 x.used]] w fun e w' => e = .returned (.bool true) ∧ Below w.heap.size w w' := by
 obtain ⟨na, nc, rfl, _⟩ := h.name.form
 obtain ⟨ra, rc, rfl, _⟩ := h.rrs.form
 obtain ⟨na', nc', rfl, _⟩ := h'.name.form
 obtain ⟨ra', rc', rfl, _⟩ := h'.rrs.form
 have b0 := below2 w (.cells #[.slice na x.name.length nc, .int .i64 x.type, .int .i64 x.kind, .slice ra x.rrs.length rc, .int .i64 x.rank, .int .i64 x.till, .int .i64 x.used] 47) (.cells #[.slice na' x.name.length nc', .int .i64 x.type, .int .i64 x.kind, .slice ra' x.rrs.length rc', .int .i64 x.rank, .int .i64 x.till, .int .i64 x.used] 47)
 obtain ⟨hsz, k0, x0⟩ := box2 w (.cells #[.slice na x.name.length nc, .int .i64 x.type, .int .i64 x.kind, .slice ra x.rrs.length rc, .int .i64 x.rank, .int .i64 x.till, .int .i64 x.used] 47) #[.slice na' x.name.length nc', .int .i64 x.type, .int .i64 x.kind, .slice ra' x.rrs.length rc', .int .i64 x.rank, .int .i64 x.till, .int .i64 x.used] 47
 have H := hide (h.below b0)
 have H' := hide (h'.below b0)
 have HS := hide hs
 have KK := hide k0
 have XX := hide x0
 obtain ⟨d0, d1, d2, d3, d4, d5, d6⟩ := cells7 k0
 obtain ⟨f0, f1, f2, f3, f4, f5, f6⟩ := cells7 x0
 clear h h' hs k0 x0 hsz
 go_enter Tryz.func55, Tryz.ntmps55
 go_wp2_with fail
 clear d0 d1 d2 d3 d4 d5 d6 f0 f1 f2 f3 f4 f5 f6
 generalize (w.alloc (.cells #[.slice na x.name.length nc, .int .i64 x.type, .int .i64 x.kind, .slice ra x.rrs.length rc, .int .i64 x.rank, .int .i64 x.till, .int .i64 x.used] 47)).alloc (.cells #[.slice na' x.name.length nc', .int .i64 x.type, .int .i64 x.kind, .slice ra' x.rrs.length rc', .int .i64 x.rank, .int .i64 x.till, .int .i64 x.used] 47) = W at *
 refine (eqName_has (unhide H).name (unhide H').name (unhide HS).names).mono ?_
 rintro e w1 ⟨rfl, b1⟩
 replace b0 := below_next b0 b1
 replace H := hide ((unhide H).below b1)
 replace H' := hide ((unhide H').below b1)
 replace KK := hide (block_kept b1 (unhide KK))
 replace XX := hide (block_kept b1 (unhide XX))
 clear b1
 obtain ⟨d0, d1, d2, d3, d4, d5, d6⟩ := cells7 (unhide KK)
 obtain ⟨f0, f1, f2, f3, f4, f5, f6⟩ := cells7 (unhide XX)
 go_wp2_with fail
 clear d0 d1 d2 d3 d4 d5 d6 f0 f1 f2 f3 f4 f5 f6
 refine (eqRrS_has (unhide H).rrs (unhide H').rrs (unhide HS).rrss).mono ?_
 rintro e w2 ⟨rfl, b2⟩
 replace b0 := below_next b0 b2
 replace KK := hide (block_kept b2 (unhide KK))
 replace XX := hide (block_kept b2 (unhide XX))
 clear b2
 obtain ⟨d0, d1, d2, d3, d4, d5, d6⟩ := cells7 (unhide KK)
 obtain ⟨f0, f1, f2, f3, f4, f5, f6⟩ := cells7 (unhide XX)
 go_wp2_with fail
 go_ret
 exact ⟨rfl, b0⟩
end Go.Proofs.YtpolekinfobecaaGreat
