/-
  Contracts of the helpers of the laws for rows of slots. Contracts of the helpers of the laws for caches (szCache, toCache, eqCache). Contracts of the laws' helpers for the sizes of caches: with how many records there are.
-/
import Derived.Test.YtpolekinfobecaaGreatCacheTickG12
import Derived.Test.YtpolekinfobecaaGreatCacheTickG09
namespace Go.Proofs.YtpolekinfobecaaGreat
open Go.RowKit
set_option linter.unusedVariables false

theorem info_Slot : (Tryz.prog.info? 47).map (fun i => (i.zero, i.size, i.bytes)) = some (some (.agg #[.slice none 0 0, .int .i64 0, .int .i64 0, .slice none 0 0, .int .i64 0, .int .i64 0, .int .i64 0]), 7, 88) := by kernel_rfl
set_option maxHeartbeats 1000000 in
set_option maxRecDepth 100000 in
theorem toSlotS_own (a : Option Addr) (cap : Nat) (xs : List Slt) (w : World) (h : LiesSs w a xs) (hl : xs.length ≤ 1048576) (hl2 : ∀ i, i < xs.length → SizeSl 1048576 (xs.getD i sltZ)) :
  Calls Tryz.prog 26 #[.slice a xs.length cap] w fun e w' => ∃ v, e = .returned v ∧ RowX 7 (OwnSl 56 53 5 3) sltZ w.heap.size w'.heap.size 47 w' v xs ∧ Below w.heap.size w w' := by
 have hmk := run_makeG (P := Tryz.prog) 7 27 47 _ 88 Tryz.underlying27 info_Slot .i64 .i64 xs.length (by omega) (by omega)
 generalize hn : xs.length = m at *
 have HN := hide hn
 clear hn
 have HL := hide hl2
 clear hl2
 have F0 := hide (fillX_none (c := 7) (O := OwnSl 56 53 5 3) (d := sltZ) w m #[.slice none 0 0, .int .i64 0, .int .i64 0, .slice none 0 0, .int .i64 0, .int .i64 0, .int .i64 0] 47 xs)
 have B0 := hide (below_alloc (w := w) (.cells (madeCells #[.slice none 0 0, .int .i64 0, .int .i64 0, .slice none 0 0, .int .i64 0, .int .i64 0, .int .i64 0] (m * 7)) 47))
 go_enter Tryz.func26, Tryz.ntmps26
 go_wp2
 go_loopw [4] (fun i wr => ∃ (k : Nat), k ≤ m ∧ i = .int .i64 k ∧ FillX 7 (OwnSl 56 53 5 3) sltZ w.heap.size m k 47 wr xs ∧ Below w.heap.size w wr) (fun i _ => m - (intOf i).toNat)
 case atStart => exact ⟨0, Nat.zero_le _, rfl, unhide F0, unhide B0⟩
 case round =>
  clear F0 B0
  obtain ⟨k, hk, rfl, hf, hb⟩ := hrel
  by_cases hlt : k < m
  ·have hIk := (lowSs h hb)
   obtain ⟨b, off, vs, rfl, hbl, hc, na, nc, ra, rc, rfl, hIn⟩ := hIk.here (k := k) (by rw [unhide HN]; exact hlt)
   clear hIk
   have HF := hide hf
   have HI := hide hIn
   have HLK := hide (unhide HL k hlt)
   obtain ⟨c0, c1, c2, c3, c4, c5, c6⟩ := range7 hc
   have zf := hf.lt
   generalize hrk : xs.getD k sltZ = rk at *
   have HRK := hide hrk
   clear hf hIn hc hrk
   go_wp2_with fail
   refine (toSlot_own na nc ra rc rk _ (unhide HI) (unhide HLK)).mono ?_
   rintro e w1 ⟨vn, vr, rfl, o1, b1⟩
   clear c0 c1 c2 c3 c4 c5 c6
   have hb1 := below_next hb b1
   have ht := (FillX.below (ownsSl 56 53 5 3) (unhide HF) b1).here hlt
   have hst := FillX.step (ownsSl 56 53 5 3) (unhide HF) b1 hlt (vs := [vn, .int .i64 rk.type, .int .i64 rk.kind, vr, .int .i64 rk.rank, .int .i64 rk.till, .int .i64 rk.used]) (by rw [unhide HRK]; exact ⟨vn, vr, rfl, o1⟩)
   have HST := hide hst
   have hbs := (outside_sets w.heap.size [vn, .int .i64 rk.type, .int .i64 rk.kind, vr, .int .i64 rk.rank, .int .i64 rk.till, .int .i64 rk.used] (k * 7) w1).below hb1 (Nat.le_refl _)
   have HBS := hide hbs
   have HT := hide ht
   obtain ⟨na, nc, rfl, _⟩ := o1.has.name.form
   obtain ⟨ra, rc, rfl, _⟩ := o1.has.rrs.form
   clear hb1 hst hbs ht o1 b1 hb
   obtain ⟨⟨y0, d0⟩, f0⟩ := there_cell0 (unhide HT) (by omega)
   obtain ⟨⟨y1, d1⟩, f1⟩ := there_cell (unhide HT) (j := 1) (by omega)
   obtain ⟨⟨y2, d2⟩, f2⟩ := there_cell (unhide HT) (j := 2) (by omega)
   obtain ⟨⟨y3, d3⟩, f3⟩ := there_cell (unhide HT) (j := 3) (by omega)
   obtain ⟨⟨y4, d4⟩, f4⟩ := there_cell (unhide HT) (j := 4) (by omega)
   obtain ⟨⟨y5, d5⟩, f5⟩ := there_cell (unhide HT) (j := 5) (by omega)
   obtain ⟨⟨y6, d6⟩, f6⟩ := there_cell (unhide HT) (j := 6) (by omega)
   clear HT
   go_wp2
   exact ⟨⟨k + 1, by omega, by go_num, unhide HST, unhide HBS⟩, by simp [intOf]; omega⟩
  ·obtain rfl : k = m := by omega
   go_wp2
   go_ret
   have hN := unhide HN
   subst hN
   exact ⟨_, rfl, FillX.row (ownsSl 56 53 5 3) hf rfl (by unfold maxLen; omega), hb⟩

set_option maxHeartbeats 1000000 in
set_option maxRecDepth 100000 in
theorem eqSlotS_has {v v' : Value} {xs : List Slt} {w : World} (h : HasSs w v xs) (h' : HasSs w v' xs) (hl2 : ∀ i, i < xs.length → SizeSl 2097152 (xs.getD i sltZ)) :
  Calls Tryz.prog 31 #[v, v'] w fun e w' => e = .returned (.bool true) ∧ Below w.heap.size w w' := by
 obtain ⟨a, cap, rfl, hl, hm⟩ := h.form
 obtain ⟨a', cap', rfl, hl', hm'⟩ := h'.form
 unfold maxLen at hm hm'
 have HL := hide hl2
 clear hl2
 generalize hn : xs.length = m at *
 have HN := hide hn
 clear hn
 go_enter Tryz.func31, Tryz.ntmps31
 go_wp2
 go_loopw [5] (fun i wr => ∃ k : Nat, k ≤ m ∧ i = .int .i64 k ∧ Below w.heap.size w wr) (fun i _ => m - (intOf i).toNat)
 case atStart => exact ⟨0, Nat.zero_le _, rfl, Below.refl _ _⟩
 case round =>
  obtain ⟨k, hk, rfl, hb⟩ := hrel
  by_cases hlt : k < m
  ·obtain ⟨b, off, vs, rfl, hbl, hc, vn, vr, rfl, hu⟩ := (keptSs h hb).here (k := k) (by rw [unhide HN]; exact hlt)
   obtain ⟨b', off', vs', rfl, hbl', hc', vn', vr', rfl, hu'⟩ := (keptSs h' hb).here (k := k) (by rw [unhide HN]; exact hlt)
   have HLK := hide (unhide HL k hlt)
   generalize xs.getD k sltZ = rk at *
   obtain ⟨na, nc, rfl, _⟩ := hu.name.form
   obtain ⟨ra, rc, rfl, _⟩ := hu.rrs.form
   obtain ⟨na', nc', rfl, _⟩ := hu'.name.form
   obtain ⟨ra', rc', rfl, _⟩ := hu'.rrs.form
   have bd := below_drew (w := wr)
   have HU := hide (hu.below bd)
   have HU' := hide (hu'.below bd)
   have hbd := below_next hb bd
   have HC := hide (range_below hc hbl bd)
   have HC' := hide (range_below hc' hbl' bd)
   have hbld : b < wr.drew.heap.size := hbl
   have hbld' : b' < wr.drew.heap.size := hbl'
   clear hu hu' hc hc' hb
   go_wp2_with fail
   go_region_held3 (fun w' => (w'.cell? ⟨b, off + k * 7, none⟩ = some (.slice na rk.name.length nc) ∧ w'.cell? ⟨b, off + k * 7 + 1, none⟩ = some (.int .i64 rk.type) ∧ w'.cell? ⟨b, off + k * 7 + 2, none⟩ = some (.int .i64 rk.kind) ∧ w'.cell? ⟨b, off + k * 7 + 3, none⟩ = some (.slice ra rk.rrs.length rc) ∧ w'.cell? ⟨b, off + k * 7 + 4, none⟩ = some (.int .i64 rk.rank) ∧ w'.cell? ⟨b, off + k * 7 + 5, none⟩ = some (.int .i64 rk.till) ∧ w'.cell? ⟨b, off + k * 7 + 6, none⟩ = some (.int .i64 rk.used)) ∧ (w'.cell? ⟨b', off' + k * 7, none⟩ = some (.slice na' rk.name.length nc') ∧ w'.cell? ⟨b', off' + k * 7 + 1, none⟩ = some (.int .i64 rk.type) ∧ w'.cell? ⟨b', off' + k * 7 + 2, none⟩ = some (.int .i64 rk.kind) ∧ w'.cell? ⟨b', off' + k * 7 + 3, none⟩ = some (.slice ra' rk.rrs.length rc') ∧ w'.cell? ⟨b', off' + k * 7 + 4, none⟩ = some (.int .i64 rk.rank) ∧ w'.cell? ⟨b', off' + k * 7 + 5, none⟩ = some (.int .i64 rk.till) ∧ w'.cell? ⟨b', off' + k * 7 + 6, none⟩ = some (.int .i64 rk.used)))
    (first | exact ⟨range7 (unhide HC), range7 (unhide HC')⟩ | exact ⟨range7 (range_below (unhide HC) hbld b2), range7 (range_below (unhide HC') hbld' b2)⟩)
    (first
    | (go_at_call 55; refine (eqSlot_has (unhide HU) (unhide HU') (unhide HLK)).mono ?_; rintro e w2 ⟨rfl, b2⟩))
   go_wp2
   exact ⟨⟨k + 1, by omega, by go_num, below_next hbd b2⟩, by simp [intOf]; omega⟩
  ·go_wp2
   go_ret
   exact ⟨rfl, hb⟩
end Go.Proofs.YtpolekinfobecaaGreat

namespace Go.Proofs.YtpolekinfobecaaGreat
open Go.RowKit
set_option linter.unusedVariables false

set_option maxHeartbeats 1000000 in
set_option maxRecDepth 100000 in
theorem toCache_own (a : Option Addr) (k : Nat) (c : Ca) (w : World) (h : LiesSs w a c.slots) (hs : SizeCa 1048576 c) :
  Calls Tryz.prog 8 #[.agg #[.int .i64 c.now, .int .i64 c.turn, .slice a c.slots.length k]] w fun e w' => ∃ v, e = .returned (.agg #[.int .i64 c.now, .int .i64 c.turn, v]) ∧ RowSl 56 53 5 3 47 w.heap.size w'.heap.size w' v c.slots ∧ Below w.heap.size w w' := by
 obtain ⟨hsz, r0, v0⟩ := box3 w (.cells #[.int .i64 c.now, .int .i64 c.turn, .slice a c.slots.length k] 24) #[.int .i64 0, .int .i64 0, .slice none 0 0] #[.int .i64 c.now, .int .i64 c.turn, .slice none 0 0] 29 29
 have bb : Below w.heap.size w (((w.alloc (.cells #[.int .i64 c.now, .int .i64 c.turn, .slice a c.slots.length k] 24)).alloc (.cells #[.int .i64 0, .int .i64 0, .slice none 0 0] 29)).alloc (.cells #[.int .i64 c.now, .int .i64 c.turn, .slice none 0 0] 29)) := ((below_alloc _).alloc (below_alloc _).size _).alloc ((below_alloc _).alloc (below_alloc _).size _).size _
 have k0 : (((w.alloc (.cells #[.int .i64 c.now, .int .i64 c.turn, .slice a c.slots.length k] 24)).alloc (.cells #[.int .i64 0, .int .i64 0, .slice none 0 0] 29)).alloc (.cells #[.int .i64 c.now, .int .i64 c.turn, .slice none 0 0] 29)).heap[w.heap.size]? = some (.cells #[.int .i64 c.now, .int .i64 c.turn, .slice a c.slots.length k] 24) := block_kept (below_alloc _) (block_kept (below_alloc _) (heap_alloc_new w _))
 have HC := hide (toSlotS_own a k c.slots _ (lowSs h bb) hs.slots hs.each)
 have KK := hide k0
 have RR := hide r0
 have V := hide v0
 have zv := block_lt v0
 clear h hs r0 v0 hsz
 obtain ⟨d0, d1, d2⟩ := cells3 k0
 clear k0
 go_enter Tryz.func8, Tryz.ntmps8
 go_wp2_with fail
 clear d0 d1 d2
 generalize (((w.alloc (.cells #[.int .i64 c.now, .int .i64 c.turn, .slice a c.slots.length k] 24)).alloc (.cells #[.int .i64 0, .int .i64 0, .slice none 0 0] 29)).alloc (.cells #[.int .i64 c.now, .int .i64 c.turn, .slice none 0 0] 29)) = W at *
 refine (unhide HC).mono ?_
 rintro e w1 ⟨v1, rfl, o1, b1⟩
 obtain ⟨xa, xc, rfl, _⟩ := o1.form
 replace bb := below_next bb b1
 replace RR := hide (block_kept b1 (unhide RR))
 replace V := hide (block_kept b1 (unhide V))
 have O1 := hide o1
 have z1 := b1.size
 clear o1 b1 KK HC
 obtain ⟨f0, f1, f2⟩ := cells3 (unhide V)
 obtain ⟨g0, g1, g2⟩ := frozen3 (unhide V)
 obtain ⟨p0, p1, p2⟩ := cells3 (unhide RR)
 obtain ⟨q0, q1, q2⟩ := frozen3 (unhide RR)
 go_wp2_with fail
 clear f0 f1 f2 g0 g1 g2 p0 p1 p2 q0 q1 q2
 have u4 := (outside_set w1 (w.heap.size + 1 + 1) 2 (.slice xa c.slots.length xc)).wide (B' := w.heap.size + 1) (E' := w.heap.size + 3) (by omega) (by omega)
 have R4 := block_other (unhide RR) (b' := w.heap.size + 1 + 1) (by omega) 2 (.slice xa c.slots.length xc)
 generalize w1.setCell ⟨w.heap.size + 1 + 1, 2, none⟩ (.slice xa c.slots.length xc) = x4 at *
 obtain ⟨R5, u5⟩ := set3_is (c0 := .int .i64 c.now) (c1 := .int .i64 c.turn) (c2 := .slice xa c.slots.length xc) R4
 have u8 := u4.trans (u5.wide (B' := w.heap.size + 1) (E' := w.heap.size + 3) (by omega) (by omega))
 have z8 := u8.size
 unfold set3 at R5 u8 z8
 refine bodyPost_ret (results_cell_row rfl _ _ (w.heap.size + 1) 29 #[.int .i64 c.now, .int .i64 c.turn, .slice xa c.slots.length xc] (0, 0) _ rfl R5 Tryz.underlying29 rfl (by kernel_rfl)) rfl ?_
 exact ⟨_, rfl, (RowX.outside (ownsSl 56 53 5 3) (unhide O1) u8 (.inr (by omega))).wide (by omega) (by omega), u8.below bb (by omega)⟩

set_option maxHeartbeats 1000000 in
set_option maxRecDepth 100000 in
theorem eqCache_has {v v' : Value} {c : Ca} {w : World} (h : HasSs w v c.slots) (h' : HasSs w v' c.slots) (hs : SizeCa 2097152 c) :
  Calls Tryz.prog 10 #[.agg #[.int .i64 c.now, .int .i64 c.turn, v], .agg #[.int .i64 c.now, .int .i64 c.turn, v']] w fun e w' => e = .returned (.bool true) ∧ Below w.heap.size w w' := by
 obtain ⟨xa, xc, rfl, _⟩ := h.form
 obtain ⟨ua, uc, rfl, _⟩ := h'.form
 have b0 := below2 w (.cells #[.int .i64 c.now, .int .i64 c.turn, .slice xa c.slots.length xc] 29) (.cells #[.int .i64 c.now, .int .i64 c.turn, .slice ua c.slots.length uc] 29)
 obtain ⟨hsz, k0, x0⟩ := box2 w (.cells #[.int .i64 c.now, .int .i64 c.turn, .slice xa c.slots.length xc] 29) #[.int .i64 c.now, .int .i64 c.turn, .slice ua c.slots.length uc] 29
 have HC := hide (eqSlotS_has (keptSs h b0) (keptSs h' b0) hs.each)
 obtain ⟨d0, d1, d2⟩ := cells3 k0
 obtain ⟨f0, f1, f2⟩ := cells3 x0
 clear h h' hs k0 x0 hsz
 go_enter Tryz.func10, Tryz.ntmps10
 go_wp2_with fail
 clear d0 d1 d2 f0 f1 f2
 generalize (w.alloc (.cells #[.int .i64 c.now, .int .i64 c.turn, .slice xa c.slots.length xc] 29)).alloc (.cells #[.int .i64 c.now, .int .i64 c.turn, .slice ua c.slots.length uc] 29) = W at *
 refine (unhide HC).mono ?_
 rintro e w1 ⟨rfl, b1⟩
 replace b0 := below_next b0 b1
 clear b1 HC
 go_wp2_with fail
 go_ret
 exact ⟨rfl, b0⟩
end Go.Proofs.YtpolekinfobecaaGreat

namespace Go.Proofs.YtpolekinfobecaaGreat
open Go.RowKit
set_option linter.unusedVariables false

set_option maxHeartbeats 1000000 in
set_option maxRecDepth 100000 in
theorem szRrS_tot (a : Option Addr) (cap : Nat) (xs : List Rec) (left : Int) (w : World) (h : LiesRs w a xs) (hm : xs.length ≤ maxLen) (hm2 : ∀ i, i < xs.length → SizeR maxLen (xs.getD i recZ)) (h0 : 0 ≤ left) (h1 : left ≤ 1048576) :
  Calls Tryz.prog 67 #[.slice a xs.length cap, .int .i64 left] w fun e w' => (∃ y : Int, e = .returned (.int .i64 y) ∧ -1 ≤ y ∧ y ≤ left ∧ (0 ≤ y → y + xs.length ≤ left ∧ ∀ i, i < xs.length → SizeR left.toNat (xs.getD i recZ))) ∧ Below w.heap.size w w' := by
 generalize hn : xs.length = m at *
 have HN := hide hn
 clear hn
 have HM := hide hm2
 clear hm2
 unfold maxLen at hm
 by_cases hlen : (m : Int) ≤ left
 ·go_enter Tryz.func67, Tryz.ntmps67
  go_wp2
  go_loopw [1, 5] (fun r i wr => ∃ (k : Nat) (x : Int), k ≤ m ∧ i = .int .i64 k ∧ r = .int .i64 x ∧ 0 ≤ x ∧ x ≤ left - m ∧ Hid (∀ j, j < k → SizeR left.toNat (xs.getD j recZ)) ∧ Below w.heap.size w wr) (fun _ i _ => m - (intOf i).toNat)
  case atStart => exact ⟨0, left - m, Nat.zero_le _, rfl, rfl, by omega, by omega, hide (fun j hj => absurd hj (Nat.not_lt_zero _)), Below.refl _ _⟩
  case round =>
   obtain ⟨k, x, hk, rfl, rfl, hx0, hx1, hall, hb⟩ := hrel
   by_cases hlt : k < m
   ·have hIk := (h.below hb)
    obtain ⟨b, off, an, cn, ato, ct, ax, cx, ai, ci, rfl, hbl, hc, hIn⟩ := hIk.here (k := k) (by rw [unhide HN]; exact hlt)
    clear hIk
    have hmk := unhide HM k hlt
    have hone := hide (fun (hs : SizeR left.toNat (xs.getD k recZ)) => (show ∀ j, j < k + 1 → SizeR left.toNat (xs.getD j recZ) from fun j hj => by
      by_cases e : j = k
      ·subst e; exact hs
      ·exact unhide hall j (by omega)))
    generalize xs.getD k recZ = rk at *
    obtain ⟨c0, c1, c2, c3, c4, c5, c6⟩ := range7 hc
    have HI := hide hIn
    have HMK := hide hmk
    clear hIn hmk hc
    go_wp2_with fail
    refine (szRr_any an cn ato ct ax cx ai ci rk x _ (unhide HI) (unhide HMK) hx0 (by omega)).mono ?_
    rintro e w1 ⟨⟨y, rfl, hy0, hy1, hy2⟩, b1⟩
    have hb1 := below_next hb b1
    have HY := hide hy2
    clear hy2 c0 c1 c2 c3 c4 c5 c6 b1 hb
    by_cases hle : y < 0
    ·go_wp2
     go_ret
     exact ⟨⟨-1, rfl, by omega, by omega, fun hneg => by omega⟩, hb1⟩
    ·go_wp2
     exact ⟨⟨k + 1, y, by omega, by go_num, rfl, by omega, by omega, hide (unhide hone ((unhide HY (by omega)).mono (by omega))), hb1⟩, by simp [intOf]; omega⟩
   ·obtain rfl : k = m := by omega
    go_wp2
    go_ret
    exact ⟨⟨x, rfl, by omega, by omega, fun _ => ⟨by omega, unhide hall⟩⟩, hb⟩
 ·go_enter Tryz.func67, Tryz.ntmps67
  go_wp2
  go_ret
  exact ⟨⟨-1, rfl, by omega, by omega, fun hneg => by omega⟩, Below.refl _ _⟩

set_option maxHeartbeats 1000000 in
set_option maxRecDepth 100000 in
theorem szSlot_tot (na : Option Addr) (nc : Nat) (ra : Option Addr) (rc : Nat) (x : Slt) (left : Int) (w : World) (h : InS2 w na ra x) (hm : SizeSl maxLen x) (h0 : 0 ≤ left) (h1 : left ≤ 1048576) :
  Calls Tryz.prog 43 #[.agg #[.slice na x.name.length nc, .int .i64 x.type, .int .i64 x.kind, .slice ra x.rrs.length rc, .int .i64 x.rank, .int .i64 x.till, .int .i64 x.used], .int .i64 left] w fun e w' => (∃ y : Int, e = .returned (.int .i64 y) ∧ -1 ≤ y ∧ y ≤ left ∧ (0 ≤ y → y + x.rrs.length ≤ left ∧ SizeSl left.toNat x)) ∧ Below w.heap.size w w' := by
 have b0 := below_alloc (w := w) (.cells #[.slice na x.name.length nc, .int .i64 x.type, .int .i64 x.kind, .slice ra x.rrs.length rc, .int .i64 x.rank, .int .i64 x.till, .int .i64 x.used] 75)
 have KK := hide (heap_alloc_new w (.cells #[.slice na x.name.length nc, .int .i64 x.type, .int .i64 x.kind, .slice ra x.rrs.length rc, .int .i64 x.rank, .int .i64 x.till, .int .i64 x.used] 75))
 have HI := hide h
 have HM := hide hm
 clear h hm
 obtain ⟨d0, d1, d2, d3, d4, d5, d6⟩ := cells7 (unhide KK)
 go_enter Tryz.func43, Tryz.ntmps43
 go_wp2_with fail
 clear d0 d1 d2 d3 d4 d5 d6
 generalize w.alloc (.cells #[.slice na x.name.length nc, .int .i64 x.type, .int .i64 x.kind, .slice ra x.rrs.length rc, .int .i64 x.rank, .int .i64 x.till, .int .i64 x.used] 75) = W at *
 refine (szName_any na nc x.name left _ ((unhide HI).below b0).name (unhide HM).name (unhide HM).names (by omega) (by omega)).mono ?_
 rintro e w1 ⟨⟨y1, rfl, ya1, yb1, yc1⟩, b1⟩
 replace b0 := below_next b0 b1
 replace KK := hide (block_kept b1 (unhide KK))
 have Y1 := hide yc1
 clear yc1 b1
 by_cases n1 : y1 < 0
 ·go_wp2
  go_ret
  exact ⟨⟨-1, rfl, by omega, by omega, fun q => by omega⟩, b0⟩
 obtain ⟨d0, d1, d2, d3, d4, d5, d6⟩ := cells7 (unhide KK)
 go_wp2_with fail
 clear d0 d1 d2 d3 d4 d5 d6
 refine (szRrS_tot ra rc x.rrs y1 _ ((unhide HI).below b0).rrs (unhide HM).rrs (unhide HM).rrss (by omega) (by omega)).mono ?_
 rintro e w2 ⟨⟨y2, rfl, ya2, yb2, yc2⟩, b2⟩
 replace b0 := below_next b0 b2
 have Y2 := hide yc2
 clear yc2 b2 KK
 by_cases n2 : y2 < 0
 ·go_wp2
  go_ret
  exact ⟨⟨-1, rfl, by omega, by omega, fun q => by omega⟩, b0⟩
 go_wp2
 go_ret
 have p1 := unhide Y1 (by omega)
 have p2 := unhide Y2 (by omega)
 exact ⟨⟨y2, rfl, by omega, by omega, fun _ => ⟨by omega, ⟨by omega, fun i hi => by have := p1.2 i hi; omega, by omega, fun i hi => (p2.2 i hi).mono (by omega)⟩⟩⟩, b0⟩

set_option maxHeartbeats 1000000 in
set_option maxRecDepth 100000 in
theorem szSlotS_tot (a : Option Addr) (cap : Nat) (xs : List Slt) (left : Int) (w : World) (h : LiesSs w a xs) (hm : xs.length ≤ maxLen) (hm2 : ∀ i, i < xs.length → SizeSl maxLen (xs.getD i sltZ)) (h0 : 0 ≤ left) (h1 : left ≤ 1048576) :
  Calls Tryz.prog 20 #[.slice a xs.length cap, .int .i64 left] w fun e w' => (∃ y : Int, e = .returned (.int .i64 y) ∧ -1 ≤ y ∧ y ≤ left ∧ (0 ≤ y → y + xs.length + totR xs xs.length ≤ left ∧ ∀ i, i < xs.length → SizeSl left.toNat (xs.getD i sltZ))) ∧ Below w.heap.size w w' := by
 have HT := hide (show ∀ k, totR xs (k + 1) = totR xs k + (xs.getD k sltZ).rrs.length from fun _ => rfl)
 have HT0 := hide (show totR xs 0 = 0 from rfl)
 generalize totR xs = T at *
 generalize hn : xs.length = m at *
 have HN := hide hn
 clear hn
 have HM := hide hm2
 clear hm2
 unfold maxLen at hm
 by_cases hlen : (m : Int) ≤ left
 ·go_enter Tryz.func20, Tryz.ntmps20
  go_wp2
  go_loopw [1, 5] (fun r i wr => ∃ (k : Nat) (x : Int), k ≤ m ∧ i = .int .i64 k ∧ r = .int .i64 x ∧ 0 ≤ x ∧ x + T k ≤ left - m ∧ Hid (∀ j, j < k → SizeSl left.toNat (xs.getD j sltZ)) ∧ Below w.heap.size w wr) (fun _ i _ => m - (intOf i).toNat)
  case atStart => exact ⟨0, left - m, Nat.zero_le _, rfl, rfl, by omega, by rw [unhide HT0]; omega, hide (fun j hj => absurd hj (Nat.not_lt_zero _)), Below.refl _ _⟩
  case round =>
   obtain ⟨k, x, hk, rfl, rfl, hx0, hx1, hall, hb⟩ := hrel
   by_cases hlt : k < m
   ·have hIk := (lowSs h hb)
    obtain ⟨b, off, vs, rfl, hbl, hc, na, nc, ra, rc, rfl, hIn⟩ := hIk.here (k := k) (by rw [unhide HN]; exact hlt)
    clear hIk
    have hmk := unhide HM k hlt
    have hT := unhide HT k
    have hone := hide (fun (hs : SizeSl left.toNat (xs.getD k sltZ)) => (show ∀ j, j < k + 1 → SizeSl left.toNat (xs.getD j sltZ) from fun j hj => by
      by_cases e : j = k
      ·subst e; exact hs
      ·exact unhide hall j (by omega)))
    generalize xs.getD k sltZ = rk at *
    obtain ⟨c0, c1, c2, c3, c4, c5, c6⟩ := range7 hc
    have HI := hide hIn
    have HMK := hide hmk
    clear hIn hmk hc
    go_wp2_with fail
    refine (szSlot_tot na nc ra rc rk x _ (unhide HI) (unhide HMK) hx0 (by omega)).mono ?_
    rintro e w1 ⟨⟨y, rfl, hy0, hy1, hy2⟩, b1⟩
    have hb1 := below_next hb b1
    have HY := hide hy2
    clear hy2 c0 c1 c2 c3 c4 c5 c6 b1 hb
    by_cases hle : y < 0
    ·go_wp2
     go_ret
     exact ⟨⟨-1, rfl, by omega, by omega, fun hneg => by omega⟩, hb1⟩
    ·have hy3 := (unhide HY (by omega)).1
     go_wp2
     exact ⟨⟨k + 1, y, by omega, by go_num, rfl, by omega, by omega, hide (unhide hone ((unhide HY (by omega)).2.mono (by omega))), hb1⟩, by simp [intOf]; omega⟩
   ·obtain rfl : k = m := by omega
    go_wp2
    go_ret
    exact ⟨⟨x, rfl, by omega, by omega, fun _ => ⟨by omega, unhide hall⟩⟩, hb⟩
 ·go_enter Tryz.func20, Tryz.ntmps20
  go_wp2
  go_ret
  exact ⟨⟨-1, rfl, by omega, by omega, fun hneg => by omega⟩, Below.refl _ _⟩

set_option maxHeartbeats 1000000 in
set_option maxRecDepth 100000 in
theorem szCache_tot (a : Option Addr) (k : Nat) (c : Ca) (left : Int) (w : World) (h : LiesSs w a c.slots) (hm : SizeCa maxLen c) (h0 : 0 ≤ left) (h1 : left ≤ 1048576) :
  Calls Tryz.prog 6 #[.agg #[.int .i64 c.now, .int .i64 c.turn, .slice a c.slots.length k], .int .i64 left] w fun e w' => (∃ y : Int, e = .returned (.int .i64 y) ∧ -1 ≤ y ∧ y ≤ left ∧ (0 ≤ y → c.slots.length + totR c.slots c.slots.length ≤ left ∧ SizeCa left.toNat c)) ∧ Below w.heap.size w w' := by
 have b0 := below_alloc (w := w) (.cells #[.int .i64 c.now, .int .i64 c.turn, .slice a c.slots.length k] 24)
 have KK := hide (heap_alloc_new w (.cells #[.int .i64 c.now, .int .i64 c.turn, .slice a c.slots.length k] 24))
 have HC := hide (szSlotS_tot a k c.slots left _ (lowSs h b0) hm.slots hm.each h0 h1)
 clear h hm
 obtain ⟨d0, d1, d2⟩ := cells3 (unhide KK)
 go_enter Tryz.func6, Tryz.ntmps6
 go_wp2_with fail
 clear d0 d1 d2
 generalize w.alloc (.cells #[.int .i64 c.now, .int .i64 c.turn, .slice a c.slots.length k] 24) = W at *
 refine (unhide HC).mono ?_
 rintro e w1 ⟨⟨y1, rfl, ya1, yb1, yc1⟩, b1⟩
 replace b0 := below_next b0 b1
 have Y1 := hide yc1
 clear yc1 b1 HC KK
 by_cases n1 : y1 < 0
 ·go_wp2
  go_ret
  exact ⟨⟨-1, rfl, by omega, by omega, fun q => by omega⟩, b0⟩
 go_wp2
 go_ret
 have p1 := unhide Y1 (by omega)
 exact ⟨⟨y1, rfl, by omega, by omega, fun _ => ⟨by omega, ⟨by omega, p1.2⟩⟩⟩, b0⟩
end Go.Proofs.YtpolekinfobecaaGreat
