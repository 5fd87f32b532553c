/-
  Contracts of the helpers of the laws for questions and for rows of questions, records and wants (sz.., to.., eq..).
-/
import Derived.Test.YtnplmeifhebhhaaGreatTxnOkG06
import Derived.Test.YtnplmeifhebhhaaGreatTxnOkG11
namespace Go.Proofs.YtnplmeifhebhhaaGreat
open Go.RowKit
set_option linter.unusedVariables false

theorem cells2 {w : World} {b : Nat} {c0 c1 : Value} {t : TypeId} (h : w.heap[b]? = some (.cells #[c0, c1] t)) : w.cell? ⟨b, 0, none⟩ = some c0 ∧ w.cell? ⟨b, 1, none⟩ = some c1 := ⟨block_cell h 0, block_cell h 1⟩
theorem frozen2 {w : World} {b : Nat} {c : Array Value} {t : TypeId} (h : w.heap[b]? = some (.cells c t)) : w.frozen? ⟨b, 0, none⟩ = false ∧ w.frozen? ⟨b, 1, none⟩ = false := ⟨block_frozen h 0, block_frozen h 1⟩

set_option maxHeartbeats 1000000 in
set_option maxRecDepth 100000 in
theorem szQuestion_any (a : Option Addr) (c : Nat) (q : Que) (left : Int) (w : World) (h : LiesL w a q.name) (hm : SizeQu maxLen q) (h0 : 0 ≤ left) (h1 : left ≤ 1048576) :
  Calls Tryz.prog 65 #[.agg #[.slice a q.name.length c, .int .i64 q.type], .int .i64 left] w fun e w' => (∃ y : Int, e = .returned (.int .i64 y) ∧ -1 ≤ y ∧ y ≤ left ∧ (0 ≤ y → SizeQu left.toNat q)) ∧ Below w.heap.size w w' := by
 have b0 := below_alloc (w := w) (.cells #[.slice a q.name.length c, .int .i64 q.type] 92)
 have HC := hide (szName_any a c q.name left _ (h.below b0) hm.name hm.names h0 h1)
 clear h hm
 go_enter Tryz.func65, Tryz.ntmps65
 go_wp2_with fail
 generalize w.alloc (.cells #[.slice a q.name.length c, .int .i64 q.type] 92) = W at *
 refine (unhide HC).mono ?_
 rintro e w1 ⟨⟨y1, rfl, ya1, yb1, yc1⟩, b1⟩
 have bb1 := below_next b0 b1
 have Y1 := hide yc1
 clear yc1 b0 b1 HC
 by_cases n1 : y1 < 0
 ·go_wp2
  go_ret
  exact ⟨⟨-1, rfl, by omega, by omega, fun q => by omega⟩, bb1⟩
 go_wp2
 go_ret
 have p1 := unhide Y1 (by omega)
 exact ⟨⟨y1, rfl, by omega, by omega, fun _ => ⟨by omega, fun i hi => by have := p1.2 i hi; omega⟩⟩, bb1⟩

set_option maxHeartbeats 1000000 in
set_option maxRecDepth 100000 in
theorem toQuestion_any (a : Option Addr) (c : Nat) (q : Que) (w : World) (h : LiesL w a q.name) (hs : SizeQu 1048576 q) :
  Calls Tryz.prog 76 #[.agg #[.slice a q.name.length c, .int .i64 q.type]] w fun e w' => ∃ v, e = .returned (.agg #[v, .int .i64 q.type]) ∧ OwnN w.heap.size w'.heap.size 37 5 w' v q.name ∧ Below w.heap.size w w' := by
 obtain ⟨hsz, r0, v0⟩ := box3 w (.cells #[.slice a q.name.length c, .int .i64 q.type] 92) #[.slice none 0 0, .int .i64 0] #[.slice none 0 0, .int .i64 0] 71 71
 have b0 : Below w.heap.size w (((w.alloc (.cells #[.slice a q.name.length c, .int .i64 q.type] 92)).alloc (.cells #[.slice none 0 0, .int .i64 0] 71)).alloc (.cells #[.slice none 0 0, .int .i64 0] 71)) := ((below_alloc _).alloc (below_alloc _).size _).alloc ((below_alloc _).alloc (below_alloc _).size _).size _
 have k0 : (((w.alloc (.cells #[.slice a q.name.length c, .int .i64 q.type] 92)).alloc (.cells #[.slice none 0 0, .int .i64 0] 71)).alloc (.cells #[.slice none 0 0, .int .i64 0] 71)).heap[w.heap.size]? = some (.cells #[.slice a q.name.length c, .int .i64 q.type] 92) := block_kept (below_alloc _) (block_kept (below_alloc _) (heap_alloc_new w _))
 have HC := hide (toName_any a c q.name _ (h.below b0) hs.name hs.names)
 have K0 := hide k0
 have R0 := hide r0
 have V0 := hide v0
 have zv := block_lt v0
 clear h hs k0 r0 v0 hsz
 go_enter Tryz.func76, Tryz.ntmps76
 go_wp2_with fail
 generalize (((w.alloc (.cells #[.slice a q.name.length c, .int .i64 q.type] 92)).alloc (.cells #[.slice none 0 0, .int .i64 0] 71)).alloc (.cells #[.slice none 0 0, .int .i64 0] 71)) = W at *
 refine (unhide HC).mono ?_
 rintro e w1 ⟨v1, rfl, o1, b1⟩
 obtain ⟨n1, m1, rfl, _⟩ := o1.hasL.form
 have bb1 := below_next b0 b1
 have K1 := block_kept b1 (unhide K0)
 have R1 := block_kept b1 (unhide R0)
 have V1 := block_kept b1 (unhide V0)
 have O1 := hide o1.here
 have z1 := b1.size
 obtain ⟨d0, d1⟩ := cells2 K1
 obtain ⟨f0, f1⟩ := cells2 V1
 obtain ⟨g0, g1⟩ := frozen2 V1
 obtain ⟨p0, p1⟩ := cells2 R1
 obtain ⟨q0, q1⟩ := frozen2 R1
 clear b0 K0 R0 V0 b1 o1 HC
 go_wp2_with fail
 clear d0 d1 f0 f1 g0 g1 p0 p1 q0 q1
 have V2 : ((w1.setCell ⟨w.heap.size + 1 + 1, 0, none⟩ (.slice n1 q.name.length m1)).setCell ⟨w.heap.size + 1 + 1, 1, none⟩ (.int .i64 q.type)).heap[w.heap.size + 1 + 1]? = some (.cells #[.slice n1 q.name.length m1, .int .i64 q.type] 71) := block_setAt (block_setAt V1 0 _) 1 _
 have u2 := ((outside_set w1 (w.heap.size + 1 + 1) 0 (.slice n1 q.name.length m1)).trans (outside_set _ (w.heap.size + 1 + 1) 1 (.int .i64 q.type))).wide (B' := w.heap.size + 1) (E' := w.heap.size + 3) (by omega) (by omega)
 have R2 := block_other (block_other R1 (b' := w.heap.size + 1 + 1) (by omega) 0 (.slice n1 q.name.length m1)) (b' := w.heap.size + 1 + 1) (by omega) 1 (.int .i64 q.type)
 generalize (w1.setCell ⟨w.heap.size + 1 + 1, 0, none⟩ (.slice n1 q.name.length m1)).setCell ⟨w.heap.size + 1 + 1, 1, none⟩ (.int .i64 q.type) = w4 at *
 have R5 : ((w4.setCell ⟨w.heap.size + 1, 0, none⟩ (.slice n1 q.name.length m1)).setCell ⟨w.heap.size + 1, 1, none⟩ (.int .i64 q.type)).heap[w.heap.size + 1]? = some (.cells #[.slice n1 q.name.length m1, .int .i64 q.type] 71) := block_setAt (block_setAt R2 0 _) 1 _
 have u5 := ((outside_set w4 (w.heap.size + 1) 0 (.slice n1 q.name.length m1)).trans (outside_set _ (w.heap.size + 1) 1 (.int .i64 q.type))).wide (B' := w.heap.size + 1) (E' := w.heap.size + 3) (by omega) (by omega)
 refine bodyPost_ret (results_cell_row rfl _ _ (w.heap.size + 1) 71 #[.slice n1 q.name.length m1, .int .i64 q.type] (0, 0) _ rfl R5 Tryz.underlying71 rfl (by kernel_rfl)) rfl ?_
 have u6 := u2.trans u5
 have z6 := u6.size
 exact ⟨_, rfl, ((unhide O1).outside u6 (by omega)).wide (by omega) (by omega), u6.below bb1 (by omega)⟩

set_option maxHeartbeats 1000000 in
set_option maxRecDepth 100000 in
theorem eqQuestion_has {v v' : Value} {q : Que} {w : World} (h : HasL w v q.name) (h' : HasL w v' q.name) (hs : SizeQu 2097152 q) :
  Calls Tryz.prog 79 #[.agg #[v, .int .i64 q.type], .agg #[v', .int .i64 q.type]] w fun e w' => e = .returned (.bool true) ∧ Below w.heap.size w w' := by
 obtain ⟨oa, oc, rfl, _⟩ := h.form
 obtain ⟨oa', oc', rfl, _⟩ := h'.form
 have b0 := below2 w (.cells #[.slice oa q.name.length oc, .int .i64 q.type] 71) (.cells #[.slice oa' q.name.length oc', .int .i64 q.type] 71)
 obtain ⟨hsz, k0, x0⟩ := box2 w (.cells #[.slice oa q.name.length oc, .int .i64 q.type] 71) #[.slice oa' q.name.length oc', .int .i64 q.type] 71
 have HC := hide (eqName_has (h.below b0) (h'.below b0) hs.names)
 have K0 := hide k0
 have X0 := hide x0
 clear h h' hs k0 x0 hsz
 go_enter Tryz.func79, Tryz.ntmps79
 go_wp2_with fail
 generalize (w.alloc (.cells #[.slice oa q.name.length oc, .int .i64 q.type] 71)).alloc (.cells #[.slice oa' q.name.length oc', .int .i64 q.type] 71) = W at *
 refine (unhide HC).mono ?_
 rintro e w1 ⟨rfl, b1⟩
 have bb1 := below_next b0 b1
 obtain ⟨d0, d1⟩ := cells2 (block_kept b1 (unhide K0))
 obtain ⟨f0, f1⟩ := cells2 (block_kept b1 (unhide X0))
 clear b0 K0 X0 b1 HC
 go_wp2_with fail
 go_ret
 exact ⟨rfl, bb1⟩

set_option maxHeartbeats 1000000 in
set_option maxRecDepth 100000 in
theorem szQuestionS_sum (a : Option Addr) (cap : Nat) (xs : List Que) (left : Int) (w : World) (h : LiesQs w a xs) (hm : xs.length ≤ maxLen) (hm2 : ∀ i, i < xs.length → SizeQu maxLen (xs.getD i queZ)) (h0 : 0 ≤ left) (h1 : left ≤ 1048576) :
  Calls Tryz.prog 30 #[.slice a xs.length cap, .int .i64 left] w fun e w' => (∃ y : Int, e = .returned (.int .i64 y) ∧ -1 ≤ y ∧ y ≤ left ∧ (0 ≤ y → y + xs.length ≤ left ∧ ∀ i, i < xs.length → SizeQu left.toNat (xs.getD i queZ))) ∧ Below w.heap.size w w' := by
 generalize hn : xs.length = m at *
 have HN := hide hn
 clear hn
 have HM := hide hm2
 clear hm2
 unfold maxLen at hm
 by_cases hlen : (m : Int) ≤ left
 ·go_enter Tryz.func30, Tryz.ntmps30
  go_wp2
  go_loopw [1, 5] (fun r i wr => ∃ (k : Nat) (x : Int), k ≤ m ∧ i = .int .i64 k ∧ r = .int .i64 x ∧ 0 ≤ x ∧ x ≤ left - m ∧ Hid (∀ j, j < k → SizeQu left.toNat (xs.getD j queZ)) ∧ Below w.heap.size w wr) (fun _ i _ => m - (intOf i).toNat)
  case atStart => exact ⟨0, left - m, Nat.zero_le _, rfl, rfl, by omega, by omega, hide (fun j hj => absurd hj (Nat.not_lt_zero _)), Below.refl _ _⟩
  case round =>
   obtain ⟨k, x, hk, rfl, rfl, hx0, hx1, hall, hb⟩ := hrel
   by_cases hlt : k < m
   ·have hIk := (lowQs h hb)
    obtain ⟨b, off, vs, rfl, hbl, hc, aq, cq, rfl, hIn⟩ := hIk.here (k := k) (by rw [unhide HN]; exact hlt)
    clear hIk
    have hmk := unhide HM k hlt
    have hone := hide (fun (hs : SizeQu left.toNat (xs.getD k queZ)) => (show ∀ j, j < k + 1 → SizeQu left.toNat (xs.getD j queZ) from fun j hj => by
      by_cases e : j = k
      ·subst e; exact hs
      ·exact unhide hall j (by omega)))
    generalize xs.getD k queZ = rk at *
    obtain ⟨c0, c1⟩ := range2 hc
    have HI := hide hIn
    have HMK := hide hmk
    clear hIn hmk hc
    go_wp2_with fail
    refine (szQuestion_any aq cq rk x _ (unhide HI) (unhide HMK) hx0 (by omega)).mono ?_
    rintro e w1 ⟨⟨y, rfl, hy0, hy1, hy2⟩, b1⟩
    have hb1 := below_next hb b1
    have HY := hide hy2
    clear hy2 c0 c1 b1 hb
    by_cases hle : y < 0
    ·go_wp2
     go_ret
     exact ⟨⟨-1, rfl, by omega, by omega, fun hneg => by omega⟩, hb1⟩
    ·go_wp2
     exact ⟨⟨k + 1, y, by omega, by go_num, rfl, by omega, by omega, hide (unhide hone ((unhide HY (by omega)).mono (by omega))), hb1⟩, by simp [intOf]; omega⟩
   ·obtain rfl : k = m := by omega
    go_wp2
    go_ret
    exact ⟨⟨x, rfl, by omega, by omega, fun _ => ⟨by omega, unhide hall⟩⟩, hb⟩
 ·go_enter Tryz.func30, Tryz.ntmps30
  go_wp2
  go_ret
  exact ⟨⟨-1, rfl, by omega, by omega, fun hneg => by omega⟩, Below.refl _ _⟩

set_option maxHeartbeats 1000000 in
set_option maxRecDepth 100000 in
theorem szWantS_sum (a : Option Addr) (cap : Nat) (xs : List Wnt) (left : Int) (w : World) (h : LiesWs w a xs) (hm : xs.length ≤ maxLen) (hm2 : ∀ i, i < xs.length → SizeR maxLen (xs.getD i wntZ).rr) (h0 : 0 ≤ left) (h1 : left ≤ 1048576) :
  Calls Tryz.prog 32 #[.slice a xs.length cap, .int .i64 left] w fun e w' => (∃ y : Int, e = .returned (.int .i64 y) ∧ -1 ≤ y ∧ y ≤ left ∧ (0 ≤ y → y + xs.length ≤ left ∧ ∀ i, i < xs.length → SizeR left.toNat (xs.getD i wntZ).rr)) ∧ Below w.heap.size w w' := by
 generalize hn : xs.length = m at *
 have HN := hide hn
 clear hn
 have HM := hide hm2
 clear hm2
 unfold maxLen at hm
 by_cases hlen : (m : Int) ≤ left
 ·go_enter Tryz.func32, Tryz.ntmps32
  go_wp2
  go_loopw [1, 5] (fun r i wr => ∃ (k : Nat) (x : Int), k ≤ m ∧ i = .int .i64 k ∧ r = .int .i64 x ∧ 0 ≤ x ∧ x ≤ left - m ∧ Hid (∀ j, j < k → SizeR left.toNat (xs.getD j wntZ).rr) ∧ Below w.heap.size w wr) (fun _ i _ => m - (intOf i).toNat)
  case atStart => exact ⟨0, left - m, Nat.zero_le _, rfl, rfl, by omega, by omega, hide (fun j hj => absurd hj (Nat.not_lt_zero _)), Below.refl _ _⟩
  case round =>
   obtain ⟨k, x, hk, rfl, rfl, hx0, hx1, hall, hb⟩ := hrel
   by_cases hlt : k < m
   ·have hIk := (lowWs h hb)
    obtain ⟨b, off, vs, rfl, hbl, hc, an, cn, ato, ct, ax, cx, ai, ci, rfl, hIn⟩ := hIk.here (k := k) (by rw [unhide HN]; exact hlt)
    clear hIk
    have hmk := unhide HM k hlt
    have hone := hide (fun (hs : SizeR left.toNat (xs.getD k wntZ).rr) => (show ∀ j, j < k + 1 → SizeR left.toNat (xs.getD j wntZ).rr from fun j hj => by
      by_cases e : j = k
      ·subst e; exact hs
      ·exact unhide hall j (by omega)))
    generalize xs.getD k wntZ = rk at *
    obtain ⟨c0, c1, c2, c3, c4, c5, c6, c7, c8⟩ := range9 hc
    have HI := hide hIn
    have HMK := hide hmk
    clear hIn hmk hc
    go_wp2_with fail
    refine (szWant_any an cn ato ct ax cx ai ci rk.rr rk.cls rk.bare x _ (unhide HI) (unhide HMK) hx0 (by omega)).mono ?_
    rintro e w1 ⟨⟨y, rfl, hy0, hy1, hy2⟩, b1⟩
    have hb1 := below_next hb b1
    have HY := hide hy2
    clear hy2 c0 c1 c2 c3 c4 c5 c6 c7 c8 b1 hb
    by_cases hle : y < 0
    ·go_wp2
     go_ret
     exact ⟨⟨-1, rfl, by omega, by omega, fun hneg => by omega⟩, hb1⟩
    ·go_wp2
     exact ⟨⟨k + 1, y, by omega, by go_num, rfl, by omega, by omega, hide (unhide hone ((unhide HY (by omega)).mono (by omega))), hb1⟩, by simp [intOf]; omega⟩
   ·obtain rfl : k = m := by omega
    go_wp2
    go_ret
    exact ⟨⟨x, rfl, by omega, by omega, fun _ => ⟨by omega, unhide hall⟩⟩, hb⟩
 ·go_enter Tryz.func32, Tryz.ntmps32
  go_wp2
  go_ret
  exact ⟨⟨-1, rfl, by omega, by omega, fun hneg => by omega⟩, Below.refl _ _⟩

set_option maxHeartbeats 1000000 in
set_option maxRecDepth 100000 in
theorem szRrS_sum (a : Option Addr) (cap : Nat) (xs : List Rec) (left : Int) (w : World) (h : LiesRs w a xs) (hm : xs.length ≤ maxLen) (hm2 : ∀ i, i < xs.length → SizeR maxLen (xs.getD i recZ)) (h0 : 0 ≤ left) (h1 : left ≤ 1048576) :
  Calls Tryz.prog 31 #[.slice a xs.length cap, .int .i64 left] w fun e w' => (∃ y : Int, e = .returned (.int .i64 y) ∧ -1 ≤ y ∧ y ≤ left ∧ (0 ≤ y → y + xs.length ≤ left ∧ ∀ i, i < xs.length → SizeR left.toNat (xs.getD i recZ))) ∧ Below w.heap.size w w' := by
 generalize hn : xs.length = m at *
 have HN := hide hn
 clear hn
 have HM := hide hm2
 clear hm2
 unfold maxLen at hm
 by_cases hlen : (m : Int) ≤ left
 ·go_enter Tryz.func31, Tryz.ntmps31
  go_wp2
  go_loopw [1, 5] (fun r i wr => ∃ (k : Nat) (x : Int), k ≤ m ∧ i = .int .i64 k ∧ r = .int .i64 x ∧ 0 ≤ x ∧ x ≤ left - m ∧ Hid (∀ j, j < k → SizeR left.toNat (xs.getD j recZ)) ∧ Below w.heap.size w wr) (fun _ i _ => m - (intOf i).toNat)
  case atStart => exact ⟨0, left - m, Nat.zero_le _, rfl, rfl, by omega, by omega, hide (fun j hj => absurd hj (Nat.not_lt_zero _)), Below.refl _ _⟩
  case round =>
   obtain ⟨k, x, hk, rfl, rfl, hx0, hx1, hall, hb⟩ := hrel
   by_cases hlt : k < m
   ·have hIk := (h.below hb)
    obtain ⟨b, off, an, cn, ato, ct, ax, cx, ai, ci, rfl, hbl, hc, hIn⟩ := hIk.here (k := k) (by rw [unhide HN]; exact hlt)
    clear hIk
    have hmk := unhide HM k hlt
    have hone := hide (fun (hs : SizeR left.toNat (xs.getD k recZ)) => (show ∀ j, j < k + 1 → SizeR left.toNat (xs.getD j recZ) from fun j hj => by
      by_cases e : j = k
      ·subst e; exact hs
      ·exact unhide hall j (by omega)))
    generalize xs.getD k recZ = rk at *
    obtain ⟨c0, c1, c2, c3, c4, c5, c6⟩ := range7 hc
    have HI := hide hIn
    have HMK := hide hmk
    clear hIn hmk hc
    go_wp2_with fail
    refine (szRr_any an cn ato ct ax cx ai ci rk x _ (unhide HI) (unhide HMK) hx0 (by omega)).mono ?_
    rintro e w1 ⟨⟨y, rfl, hy0, hy1, hy2⟩, b1⟩
    have hb1 := below_next hb b1
    have HY := hide hy2
    clear hy2 c0 c1 c2 c3 c4 c5 c6 b1 hb
    by_cases hle : y < 0
    ·go_wp2
     go_ret
     exact ⟨⟨-1, rfl, by omega, by omega, fun hneg => by omega⟩, hb1⟩
    ·go_wp2
     exact ⟨⟨k + 1, y, by omega, by go_num, rfl, by omega, by omega, hide (unhide hone ((unhide HY (by omega)).mono (by omega))), hb1⟩, by simp [intOf]; omega⟩
   ·obtain rfl : k = m := by omega
    go_wp2
    go_ret
    exact ⟨⟨x, rfl, by omega, by omega, fun _ => ⟨by omega, unhide hall⟩⟩, hb⟩
 ·go_enter Tryz.func31, Tryz.ntmps31
  go_wp2
  go_ret
  exact ⟨⟨-1, rfl, by omega, by omega, fun hneg => by omega⟩, Below.refl _ _⟩

theorem info_Question : (Tryz.prog.info? 71).map (fun i => (i.zero, i.size, i.bytes)) = some (some (.agg #[.slice none 0 0, .int .i64 0]), 2, 32) := by kernel_rfl
set_option maxHeartbeats 1000000 in
set_option maxRecDepth 100000 in
theorem toQuestionS_own (a : Option Addr) (cap : Nat) (xs : List Que) (w : World) (h : LiesQs w a xs) (hl : xs.length ≤ 1048576) (hl2 : ∀ i, i < xs.length → SizeQu 1048576 (xs.getD i queZ)) :
  Calls Tryz.prog 35 #[.slice a xs.length cap] w fun e w' => ∃ v, e = .returned v ∧ RowX 2 (OwnQu 37 5) queZ w.heap.size w'.heap.size 71 w' v xs ∧ Below w.heap.size w w' := by
 have hmk := run_makeG (P := Tryz.prog) 2 29 71 _ 32 Tryz.underlying29 info_Question .i64 .i64 xs.length (by omega) (by omega)
 generalize hn : xs.length = m at *
 have HN := hide hn
 clear hn
 have HL := hide hl2
 clear hl2
 have F0 := hide (fillX_none (c := 2) (O := OwnQu 37 5) (d := queZ) w m #[.slice none 0 0, .int .i64 0] 71 xs)
 have B0 := hide (below_alloc (w := w) (.cells (madeCells #[.slice none 0 0, .int .i64 0] (m * 2)) 71))
 go_enter Tryz.func35, Tryz.ntmps35
 go_wp2
 go_loopw [4] (fun i wr => ∃ (k : Nat), k ≤ m ∧ i = .int .i64 k ∧ FillX 2 (OwnQu 37 5) queZ w.heap.size m k 71 wr xs ∧ Below w.heap.size w wr) (fun i _ => m - (intOf i).toNat)
 case atStart => exact ⟨0, Nat.zero_le _, rfl, unhide F0, unhide B0⟩
 case round =>
  clear F0 B0
  obtain ⟨k, hk, rfl, hf, hb⟩ := hrel
  by_cases hlt : k < m
  ·have hIk := (lowQs h hb)
   obtain ⟨b, off, vs, rfl, hbl, hc, aq, cq, rfl, hIn⟩ := hIk.here (k := k) (by rw [unhide HN]; exact hlt)
   clear hIk
   have HF := hide hf
   have HI := hide hIn
   have HLK := hide (unhide HL k hlt)
   obtain ⟨c0, c1⟩ := range2 hc
   have zf := hf.lt
   generalize hrk : xs.getD k queZ = rk at *
   have HRK := hide hrk
   clear hf hIn hc hrk
   go_wp2_with fail
   refine (toQuestion_any aq cq rk _ (unhide HI) (unhide HLK)).mono ?_
   rintro e w1 ⟨vn, rfl, o1, b1⟩
   clear c0 c1
   have hb1 := below_next hb b1
   have ht := (FillX.below (ownsQu 37 5) (unhide HF) b1).here hlt
   have hst := FillX.step (ownsQu 37 5) (unhide HF) b1 hlt (vs := [vn, .int .i64 rk.type]) (by rw [unhide HRK]; exact ⟨vn, rfl, o1⟩)
   have HST := hide hst
   have hbs := (outside_sets w.heap.size [vn, .int .i64 rk.type] (k * 2) w1).below hb1 (Nat.le_refl _)
   have HBS := hide hbs
   have HT := hide ht
   obtain ⟨na, nc, rfl, _⟩ := o1.hasL.form
   clear hb1 hst hbs ht o1 b1 hb
   obtain ⟨⟨y0, d0⟩, f0⟩ := there_cell0 (unhide HT) (by omega)
   obtain ⟨⟨y1, d1⟩, f1⟩ := there_cell (unhide HT) (j := 1) (by omega)
   clear HT
   go_wp2
   exact ⟨⟨k + 1, by omega, by go_num, unhide HST, unhide HBS⟩, by simp [intOf]; omega⟩
  ·obtain rfl : k = m := by omega
   go_wp2
   go_ret
   have hN := unhide HN
   subst hN
   exact ⟨_, rfl, FillX.row (ownsQu 37 5) hf rfl (by unfold maxLen; omega), hb⟩

theorem info_Want : (Tryz.prog.info? 110).map (fun i => (i.zero, i.size, i.bytes)) = some (some (.agg #[.slice none 0 0, .int .i64 0, .int .i64 0, .int .i64 0, .slice none 0 0, .slice none 0 0, .slice none 0 0, .int .i64 0, .bool false]), 9, 136) := by kernel_rfl
set_option maxHeartbeats 1000000 in
set_option maxRecDepth 100000 in
theorem toWantS_own (a : Option Addr) (cap : Nat) (xs : List Wnt) (w : World) (h : LiesWs w a xs) (hl : xs.length ≤ 1048576) (hl2 : ∀ i, i < xs.length → SizeR 1048576 (xs.getD i wntZ).rr) :
  Calls Tryz.prog 37 #[.slice a xs.length cap] w fun e w' => ∃ v, e = .returned v ∧ RowX 9 (OwnWn 37 5 3) wntZ w.heap.size w'.heap.size 110 w' v xs ∧ Below w.heap.size w w' := by
 have hmk := run_makeG (P := Tryz.prog) 9 31 110 _ 136 Tryz.underlying31 info_Want .i64 .i64 xs.length (by omega) (by omega)
 generalize hn : xs.length = m at *
 have HN := hide hn
 clear hn
 have HL := hide hl2
 clear hl2
 have F0 := hide (fillX_none (c := 9) (O := OwnWn 37 5 3) (d := wntZ) w m #[.slice none 0 0, .int .i64 0, .int .i64 0, .int .i64 0, .slice none 0 0, .slice none 0 0, .slice none 0 0, .int .i64 0, .bool false] 110 xs)
 have B0 := hide (below_alloc (w := w) (.cells (madeCells #[.slice none 0 0, .int .i64 0, .int .i64 0, .int .i64 0, .slice none 0 0, .slice none 0 0, .slice none 0 0, .int .i64 0, .bool false] (m * 9)) 110))
 go_enter Tryz.func37, Tryz.ntmps37
 go_wp2
 go_loopw [4] (fun i wr => ∃ (k : Nat), k ≤ m ∧ i = .int .i64 k ∧ FillX 9 (OwnWn 37 5 3) wntZ w.heap.size m k 110 wr xs ∧ Below w.heap.size w wr) (fun i _ => m - (intOf i).toNat)
 case atStart => exact ⟨0, Nat.zero_le _, rfl, unhide F0, unhide B0⟩
 case round =>
  clear F0 B0
  obtain ⟨k, hk, rfl, hf, hb⟩ := hrel
  by_cases hlt : k < m
  ·have hIk := (lowWs h hb)
   obtain ⟨b, off, vs, rfl, hbl, hc, an, cn, ato, ct, ax, cx, ai, ci, rfl, hIn⟩ := hIk.here (k := k) (by rw [unhide HN]; exact hlt)
   clear hIk
   have HF := hide hf
   have HI := hide hIn
   have HLK := hide (unhide HL k hlt)
   obtain ⟨c0, c1, c2, c3, c4, c5, c6, c7, c8⟩ := range9 hc
   have zf := hf.lt
   generalize hrk : xs.getD k wntZ = rk at *
   have HRK := hide hrk
   clear hf hIn hc hrk
   go_wp2_with fail
   refine (toWant_any an cn ato ct ax cx ai ci rk.rr rk.cls rk.bare _ (unhide HI) (unhide HLK)).mono ?_
   rintro e w1 ⟨vn, vt, vx, vi, rfl, o1, b1⟩
   clear c0 c1 c2 c3 c4 c5 c6 c7 c8
   have hb1 := below_next hb b1
   have ht := (FillX.below (ownsWn 37 5 3) (unhide HF) b1).here hlt
   have hst := FillX.step (ownsWn 37 5 3) (unhide HF) b1 hlt (vs := [vn, .int .i64 rk.rr.type, .int .i64 rk.rr.ttl, .int .i64 rk.rr.addr, vt, vx, vi, .int .i64 rk.cls, .bool rk.bare]) (by rw [unhide HRK]; exact ⟨vn, vt, vx, vi, rfl, o1⟩)
   have HST := hide hst
   have hbs := (outside_sets w.heap.size [vn, .int .i64 rk.rr.type, .int .i64 rk.rr.ttl, .int .i64 rk.rr.addr, vt, vx, vi, .int .i64 rk.cls, .bool rk.bare] (k * 9) w1).below hb1 (Nat.le_refl _)
   have HBS := hide hbs
   have HT := hide ht
   obtain ⟨na, nc, rfl, _⟩ := o1.hasR.name.form
   obtain ⟨ta, tc, rfl, _⟩ := o1.hasR.to.form
   obtain ⟨xa, xc, rfl, _⟩ := o1.hasR.text.form
   obtain ⟨ia, ic, rfl, _⟩ := o1.hasR.nums.form
   clear hb1 hst hbs ht o1 b1 hb
   obtain ⟨⟨y0, d0⟩, f0⟩ := there_cell0 (unhide HT) (by omega)
   obtain ⟨⟨y1, d1⟩, f1⟩ := there_cell (unhide HT) (j := 1) (by omega)
   obtain ⟨⟨y2, d2⟩, f2⟩ := there_cell (unhide HT) (j := 2) (by omega)
   obtain ⟨⟨y3, d3⟩, f3⟩ := there_cell (unhide HT) (j := 3) (by omega)
   obtain ⟨⟨y4, d4⟩, f4⟩ := there_cell (unhide HT) (j := 4) (by omega)
   obtain ⟨⟨y5, d5⟩, f5⟩ := there_cell (unhide HT) (j := 5) (by omega)
   obtain ⟨⟨y6, d6⟩, f6⟩ := there_cell (unhide HT) (j := 6) (by omega)
   obtain ⟨⟨y7, d7⟩, f7⟩ := there_cell (unhide HT) (j := 7) (by omega)
   obtain ⟨⟨y8, d8⟩, f8⟩ := there_cell (unhide HT) (j := 8) (by omega)
   clear HT
   go_wp2
   exact ⟨⟨k + 1, by omega, by go_num, unhide HST, unhide HBS⟩, by simp [intOf]; omega⟩
  ·obtain rfl : k = m := by omega
   go_wp2
   go_ret
   have hN := unhide HN
   subst hN
   exact ⟨_, rfl, FillX.row (ownsWn 37 5 3) hf rfl (by unfold maxLen; omega), hb⟩

set_option maxHeartbeats 1000000 in
set_option maxRecDepth 100000 in
theorem eqQuestionS_has {v v' : Value} {xs : List Que} {w : World} (h : HasQs w v xs) (h' : HasQs w v' xs) (hl2 : ∀ i, i < xs.length → SizeQu 2097152 (xs.getD i queZ)) :
  Calls Tryz.prog 38 #[v, v'] w fun e w' => e = .returned (.bool true) ∧ Below w.heap.size w w' := by
 obtain ⟨a, cap, rfl, hl, hm⟩ := h.form
 obtain ⟨a', cap', rfl, hl', hm'⟩ := h'.form
 unfold maxLen at hm hm'
 have HL := hide hl2
 clear hl2
 generalize hn : xs.length = m at *
 have HN := hide hn
 clear hn
 go_enter Tryz.func38, Tryz.ntmps38
 go_wp2
 go_loopw [5] (fun i wr => ∃ k : Nat, k ≤ m ∧ i = .int .i64 k ∧ Below w.heap.size w wr) (fun i _ => m - (intOf i).toNat)
 case atStart => exact ⟨0, Nat.zero_le _, rfl, Below.refl _ _⟩
 case round =>
  obtain ⟨k, hk, rfl, hb⟩ := hrel
  by_cases hlt : k < m
  ·obtain ⟨b, off, vs, rfl, hbl, hc, vn, rfl, hu⟩ := (keptQs h hb).here (k := k) (by rw [unhide HN]; exact hlt)
   obtain ⟨b', off', vs', rfl, hbl', hc', vn', rfl, hu'⟩ := (keptQs h' hb).here (k := k) (by rw [unhide HN]; exact hlt)
   have HLK := hide (unhide HL k hlt)
   generalize xs.getD k queZ = rk at *
   obtain ⟨na, nc, rfl, _⟩ := hu.form
   obtain ⟨na', nc', rfl, _⟩ := hu'.form
   have bd := below_drew (w := wr)
   have HU := hide (hu.below bd)
   have HU' := hide (hu'.below bd)
   have hbd := below_next hb bd
   have HC := hide (range_below hc hbl bd)
   have HC' := hide (range_below hc' hbl' bd)
   have hbld : b < wr.drew.heap.size := hbl
   have hbld' : b' < wr.drew.heap.size := hbl'
   clear hu hu' hc hc' hb
   go_wp2_with fail
   go_region_held3 (fun w' => (w'.cell? ⟨b, off + k * 2, none⟩ = some (.slice na rk.name.length nc) ∧ w'.cell? ⟨b, off + k * 2 + 1, none⟩ = some (.int .i64 rk.type)) ∧ (w'.cell? ⟨b', off' + k * 2, none⟩ = some (.slice na' rk.name.length nc') ∧ w'.cell? ⟨b', off' + k * 2 + 1, none⟩ = some (.int .i64 rk.type)))
    (first | exact ⟨range2 (unhide HC), range2 (unhide HC')⟩ | exact ⟨range2 (range_below (unhide HC) hbld b2), range2 (range_below (unhide HC') hbld' b2)⟩)
    (first
    | (go_at_call 79; refine (eqQuestion_has (unhide HU) (unhide HU') (unhide HLK)).mono ?_; rintro e w2 ⟨rfl, b2⟩))
   go_wp2
   exact ⟨⟨k + 1, by omega, by go_num, below_next hbd b2⟩, by simp [intOf]; omega⟩
  ·go_wp2
   go_ret
   exact ⟨rfl, hb⟩

set_option maxHeartbeats 1000000 in
set_option maxRecDepth 100000 in
theorem eqWantS_has {v v' : Value} {xs : List Wnt} {w : World} (h : HasWs w v xs) (h' : HasWs w v' xs) (hl2 : ∀ i, i < xs.length → SizeR 2097152 (xs.getD i wntZ).rr) :
  Calls Tryz.prog 40 #[v, v'] w fun e w' => e = .returned (.bool true) ∧ Below w.heap.size w w' := by
 obtain ⟨a, cap, rfl, hl, hm⟩ := h.form
 obtain ⟨a', cap', rfl, hl', hm'⟩ := h'.form
 unfold maxLen at hm hm'
 have HL := hide hl2
 clear hl2
 generalize hn : xs.length = m at *
 have HN := hide hn
 clear hn
 go_enter Tryz.func40, Tryz.ntmps40
 go_wp2
 go_loopw [5] (fun i wr => ∃ k : Nat, k ≤ m ∧ i = .int .i64 k ∧ Below w.heap.size w wr) (fun i _ => m - (intOf i).toNat)
 case atStart => exact ⟨0, Nat.zero_le _, rfl, Below.refl _ _⟩
 case round =>
  obtain ⟨k, hk, rfl, hb⟩ := hrel
  by_cases hlt : k < m
  ·obtain ⟨b, off, vs, rfl, hbl, hc, vn, vt, vx, vi, rfl, hu⟩ := (keptWs h hb).here (k := k) (by rw [unhide HN]; exact hlt)
   obtain ⟨b', off', vs', rfl, hbl', hc', vn', vt', vx', vi', rfl, hu'⟩ := (keptWs h' hb).here (k := k) (by rw [unhide HN]; exact hlt)
   have HLK := hide (unhide HL k hlt)
   generalize xs.getD k wntZ = rk at *
   obtain ⟨na, nc, rfl, _⟩ := hu.name.form
   obtain ⟨ta, tc, rfl, _⟩ := hu.to.form
   obtain ⟨xa, xc, rfl, _⟩ := hu.text.form
   obtain ⟨ia, ic, rfl, _⟩ := hu.nums.form
   obtain ⟨na', nc', rfl, _⟩ := hu'.name.form
   obtain ⟨ta', tc', rfl, _⟩ := hu'.to.form
   obtain ⟨xa', xc', rfl, _⟩ := hu'.text.form
   obtain ⟨ia', ic', rfl, _⟩ := hu'.nums.form
   have bd := below_drew (w := wr)
   have HU := hide (hu.below bd)
   have HU' := hide (hu'.below bd)
   have hbd := below_next hb bd
   have HC := hide (range_below hc hbl bd)
   have HC' := hide (range_below hc' hbl' bd)
   have hbld : b < wr.drew.heap.size := hbl
   have hbld' : b' < wr.drew.heap.size := hbl'
   clear hu hu' hc hc' hb
   go_wp2_with fail
   go_region_held3 (fun w' => (w'.cell? ⟨b, off + k * 9, none⟩ = some (.slice na rk.rr.name.length nc) ∧ w'.cell? ⟨b, off + k * 9 + 1, none⟩ = some (.int .i64 rk.rr.type) ∧ w'.cell? ⟨b, off + k * 9 + 2, none⟩ = some (.int .i64 rk.rr.ttl) ∧ w'.cell? ⟨b, off + k * 9 + 3, none⟩ = some (.int .i64 rk.rr.addr) ∧ w'.cell? ⟨b, off + k * 9 + 4, none⟩ = some (.slice ta rk.rr.to.length tc) ∧ w'.cell? ⟨b, off + k * 9 + 5, none⟩ = some (.slice xa rk.rr.text.length xc) ∧ w'.cell? ⟨b, off + k * 9 + 6, none⟩ = some (.slice ia rk.rr.nums.length ic) ∧ w'.cell? ⟨b, off + k * 9 + 7, none⟩ = some (.int .i64 rk.cls) ∧ w'.cell? ⟨b, off + k * 9 + 8, none⟩ = some (.bool rk.bare)) ∧ (w'.cell? ⟨b', off' + k * 9, none⟩ = some (.slice na' rk.rr.name.length nc') ∧ w'.cell? ⟨b', off' + k * 9 + 1, none⟩ = some (.int .i64 rk.rr.type) ∧ w'.cell? ⟨b', off' + k * 9 + 2, none⟩ = some (.int .i64 rk.rr.ttl) ∧ w'.cell? ⟨b', off' + k * 9 + 3, none⟩ = some (.int .i64 rk.rr.addr) ∧ w'.cell? ⟨b', off' + k * 9 + 4, none⟩ = some (.slice ta' rk.rr.to.length tc') ∧ w'.cell? ⟨b', off' + k * 9 + 5, none⟩ = some (.slice xa' rk.rr.text.length xc') ∧ w'.cell? ⟨b', off' + k * 9 + 6, none⟩ = some (.slice ia' rk.rr.nums.length ic') ∧ w'.cell? ⟨b', off' + k * 9 + 7, none⟩ = some (.int .i64 rk.cls) ∧ w'.cell? ⟨b', off' + k * 9 + 8, none⟩ = some (.bool rk.bare)))
    (first | exact ⟨range9 (unhide HC), range9 (unhide HC')⟩ | exact ⟨range9 (range_below (unhide HC) hbld b2), range9 (range_below (unhide HC') hbld' b2)⟩)
    (first
    | (go_at_call 81; refine (eqWant_has rk.cls rk.bare (unhide HU) (unhide HU') (unhide HLK)).mono ?_; rintro e w2 ⟨rfl, b2⟩))
   go_wp2
   exact ⟨⟨k + 1, by omega, by go_num, below_next hbd b2⟩, by simp [intOf]; omega⟩
  ·go_wp2
   go_ret
   exact ⟨rfl, hb⟩

end Go.Proofs.YtnplmeifhebhhaaGreat
