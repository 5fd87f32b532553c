/-
  Contracts of the helpers of the laws for questions and for rows of questions, records and wants (sz.., to.., eq..). Contract of a helper of the laws: rows of records that are made of what came in, and own their memory (toRrS).
-/
import Derived.Test.YtfbfakdkemlbmaaGreatTxnBytesG08
import Derived.Test.YtfbfakdkemlbmaaGreatTxnBytesG05
import Derived.Test.YtfbfakdkemlbmaaGreatTxnBytesG09
import Derived.Test.YtfbfakdkemlbmaaGreatTxnBytesG04
namespace Go.Proofs.YtfbfakdkemlbmaaGreat
open Go.RowKit
set_option linter.unusedVariables false

set_option maxHeartbeats 1000000 in
set_option maxRecDepth 100000 in
theorem szQuestionS_sum (a : Option Addr) (cap : Nat) (xs : List Que) (left : Int) (w : World) (h : LiesQs w a xs) (hm : xs.length ≤ maxLen) (hm2 : ∀ i, i < xs.length → SizeQu maxLen (xs.getD i queZ)) (h0 : 0 ≤ left) (h1 : left ≤ 1048576) :
  Calls Tryz.prog 23 #[.slice a xs.length cap, .int .i64 left] w fun e w' => (∃ y : Int, e = .returned (.int .i64 y) ∧ -1 ≤ y ∧ y ≤ left ∧ (0 ≤ y → y + xs.length ≤ left ∧ ∀ i, i < xs.length → SizeQu left.toNat (xs.getD i queZ))) ∧ Below w.heap.size w w' := by
 generalize hn : xs.length = m at *
 have HN := hide hn
 clear hn
 have HM := hide hm2
 clear hm2
 unfold maxLen at hm
 by_cases hlen : (m : Int) ≤ left
 ·go_enter Tryz.func23, Tryz.ntmps23
  go_wp2
  go_loopw [1, 5] (fun r i wr => ∃ (k : Nat) (x : Int), k ≤ m ∧ i = .int .i64 k ∧ r = .int .i64 x ∧ 0 ≤ x ∧ x ≤ left - m ∧ Hid (∀ j, j < k → SizeQu left.toNat (xs.getD j queZ)) ∧ Below w.heap.size w wr) (fun _ i _ => m - (intOf i).toNat)
  case atStart => exact ⟨0, left - m, Nat.zero_le _, rfl, rfl, by omega, by omega, hide (fun j hj => absurd hj (Nat.not_lt_zero _)), Below.refl _ _⟩
  case round =>
   obtain ⟨k, x, hk, rfl, rfl, hx0, hx1, hall, hb⟩ := hrel
   by_cases hlt : k < m
   ·have hIk := (lowQs h hb)
    obtain ⟨b, off, vs, rfl, hbl, hc, aq, cq, rfl, hIn⟩ := hIk.here (k := k) (by rw [unhide HN]; exact hlt)
    clear hIk
    have hmk := unhide HM k hlt
    have hone := hide (fun (hs : SizeQu left.toNat (xs.getD k queZ)) => (show ∀ j, j < k + 1 → SizeQu left.toNat (xs.getD j queZ) from fun j hj => by
      by_cases e : j = k
      ·subst e; exact hs
      ·exact unhide hall j (by omega)))
    generalize xs.getD k queZ = rk at *
    obtain ⟨c0, c1⟩ := range2 hc
    have HI := hide hIn
    have HMK := hide hmk
    clear hIn hmk hc
    go_wp2_with fail
    refine (szQuestion_any aq cq rk x _ (unhide HI) (unhide HMK) hx0 (by omega)).mono ?_
    rintro e w1 ⟨⟨y, rfl, hy0, hy1, hy2⟩, b1⟩
    have hb1 := below_next hb b1
    have HY := hide hy2
    clear hy2 c0 c1 b1 hb
    by_cases hle : y < 0
    ·go_wp2
     go_ret
     exact ⟨⟨-1, rfl, by omega, by omega, fun hneg => by omega⟩, hb1⟩
    ·go_wp2
     exact ⟨⟨k + 1, y, by omega, by go_num, rfl, by omega, by omega, hide (unhide hone ((unhide HY (by omega)).mono (by omega))), hb1⟩, by simp [intOf]; omega⟩
   ·obtain rfl : k = m := by omega
    go_wp2
    go_ret
    exact ⟨⟨x, rfl, by omega, by omega, fun _ => ⟨by omega, unhide hall⟩⟩, hb⟩
 ·go_enter Tryz.func23, Tryz.ntmps23
  go_wp2
  go_ret
  exact ⟨⟨-1, rfl, by omega, by omega, fun hneg => by omega⟩, Below.refl _ _⟩

set_option maxHeartbeats 1000000 in
set_option maxRecDepth 100000 in
theorem szWantS_sum (a : Option Addr) (cap : Nat) (xs : List Wnt) (left : Int) (w : World) (h : LiesWs w a xs) (hm : xs.length ≤ maxLen) (hm2 : ∀ i, i < xs.length → SizeR maxLen (xs.getD i wntZ).rr) (h0 : 0 ≤ left) (h1 : left ≤ 1048576) :
  Calls Tryz.prog 25 #[.slice a xs.length cap, .int .i64 left] w fun e w' => (∃ y : Int, e = .returned (.int .i64 y) ∧ -1 ≤ y ∧ y ≤ left ∧ (0 ≤ y → y + xs.length ≤ left ∧ ∀ i, i < xs.length → SizeR left.toNat (xs.getD i wntZ).rr)) ∧ Below w.heap.size w w' := by
 generalize hn : xs.length = m at *
 have HN := hide hn
 clear hn
 have HM := hide hm2
 clear hm2
 unfold maxLen at hm
 by_cases hlen : (m : Int) ≤ left
 ·go_enter Tryz.func25, Tryz.ntmps25
  go_wp2
  go_loopw [1, 5] (fun r i wr => ∃ (k : Nat) (x : Int), k ≤ m ∧ i = .int .i64 k ∧ r = .int .i64 x ∧ 0 ≤ x ∧ x ≤ left - m ∧ Hid (∀ j, j < k → SizeR left.toNat (xs.getD j wntZ).rr) ∧ Below w.heap.size w wr) (fun _ i _ => m - (intOf i).toNat)
  case atStart => exact ⟨0, left - m, Nat.zero_le _, rfl, rfl, by omega, by omega, hide (fun j hj => absurd hj (Nat.not_lt_zero _)), Below.refl _ _⟩
  case round =>
   obtain ⟨k, x, hk, rfl, rfl, hx0, hx1, hall, hb⟩ := hrel
   by_cases hlt : k < m
   ·have hIk := (lowWs h hb)
    obtain ⟨b, off, vs, rfl, hbl, hc, an, cn, ato, ct, ax, cx, ai, ci, rfl, hIn⟩ := hIk.here (k := k) (by rw [unhide HN]; exact hlt)
    clear hIk
    have hmk := unhide HM k hlt
    have hone := hide (fun (hs : SizeR left.toNat (xs.getD k wntZ).rr) => (show ∀ j, j < k + 1 → SizeR left.toNat (xs.getD j wntZ).rr from fun j hj => by
      by_cases e : j = k
      ·subst e; exact hs
      ·exact unhide hall j (by omega)))
    generalize xs.getD k wntZ = rk at *
    obtain ⟨c0, c1, c2, c3, c4, c5, c6, c7, c8⟩ := range9 hc
    have HI := hide hIn
    have HMK := hide hmk
    clear hIn hmk hc
    go_wp2_with fail
    refine (szWant_any an cn ato ct ax cx ai ci rk.rr rk.cls rk.bare x _ (unhide HI) (unhide HMK) hx0 (by omega)).mono ?_
    rintro e w1 ⟨⟨y, rfl, hy0, hy1, hy2⟩, b1⟩
    have hb1 := below_next hb b1
    have HY := hide hy2
    clear hy2 c0 c1 c2 c3 c4 c5 c6 c7 c8 b1 hb
    by_cases hle : y < 0
    ·go_wp2
     go_ret
     exact ⟨⟨-1, rfl, by omega, by omega, fun hneg => by omega⟩, hb1⟩
    ·go_wp2
     exact ⟨⟨k + 1, y, by omega, by go_num, rfl, by omega, by omega, hide (unhide hone ((unhide HY (by omega)).mono (by omega))), hb1⟩, by simp [intOf]; omega⟩
   ·obtain rfl : k = m := by omega
    go_wp2
    go_ret
    exact ⟨⟨x, rfl, by omega, by omega, fun _ => ⟨by omega, unhide hall⟩⟩, hb⟩
 ·go_enter Tryz.func25, Tryz.ntmps25
  go_wp2
  go_ret
  exact ⟨⟨-1, rfl, by omega, by omega, fun hneg => by omega⟩, Below.refl _ _⟩

set_option maxHeartbeats 1000000 in
set_option maxRecDepth 100000 in
theorem szRrS_sum (a : Option Addr) (cap : Nat) (xs : List Rec) (left : Int) (w : World) (h : LiesRs w a xs) (hm : xs.length ≤ maxLen) (hm2 : ∀ i, i < xs.length → SizeR maxLen (xs.getD i recZ)) (h0 : 0 ≤ left) (h1 : left ≤ 1048576) :
  Calls Tryz.prog 24 #[.slice a xs.length cap, .int .i64 left] w fun e w' => (∃ y : Int, e = .returned (.int .i64 y) ∧ -1 ≤ y ∧ y ≤ left ∧ (0 ≤ y → y + xs.length ≤ left ∧ ∀ i, i < xs.length → SizeR left.toNat (xs.getD i recZ))) ∧ Below w.heap.size w w' := by
 generalize hn : xs.length = m at *
 have HN := hide hn
 clear hn
 have HM := hide hm2
 clear hm2
 unfold maxLen at hm
 by_cases hlen : (m : Int) ≤ left
 ·go_enter Tryz.func24, Tryz.ntmps24
  go_wp2
  go_loopw [1, 5] (fun r i wr => ∃ (k : Nat) (x : Int), k ≤ m ∧ i = .int .i64 k ∧ r = .int .i64 x ∧ 0 ≤ x ∧ x ≤ left - m ∧ Hid (∀ j, j < k → SizeR left.toNat (xs.getD j recZ)) ∧ Below w.heap.size w wr) (fun _ i _ => m - (intOf i).toNat)
  case atStart => exact ⟨0, left - m, Nat.zero_le _, rfl, rfl, by omega, by omega, hide (fun j hj => absurd hj (Nat.not_lt_zero _)), Below.refl _ _⟩
  case round =>
   obtain ⟨k, x, hk, rfl, rfl, hx0, hx1, hall, hb⟩ := hrel
   by_cases hlt : k < m
   ·have hIk := (h.below hb)
    obtain ⟨b, off, an, cn, ato, ct, ax, cx, ai, ci, rfl, hbl, hc, hIn⟩ := hIk.here (k := k) (by rw [unhide HN]; exact hlt)
    clear hIk
    have hmk := unhide HM k hlt
    have hone := hide (fun (hs : SizeR left.toNat (xs.getD k recZ)) => (show ∀ j, j < k + 1 → SizeR left.toNat (xs.getD j recZ) from fun j hj => by
      by_cases e : j = k
      ·subst e; exact hs
      ·exact unhide hall j (by omega)))
    generalize xs.getD k recZ = rk at *
    obtain ⟨c0, c1, c2, c3, c4, c5, c6⟩ := range7 hc
    have HI := hide hIn
    have HMK := hide hmk
    clear hIn hmk hc
    go_wp2_with fail
    refine (szRr_any an cn ato ct ax cx ai ci rk x _ (unhide HI) (unhide HMK) hx0 (by omega)).mono ?_
    rintro e w1 ⟨⟨y, rfl, hy0, hy1, hy2⟩, b1⟩
    have hb1 := below_next hb b1
    have HY := hide hy2
    clear hy2 c0 c1 c2 c3 c4 c5 c6 b1 hb
    by_cases hle : y < 0
    ·go_wp2
     go_ret
     exact ⟨⟨-1, rfl, by omega, by omega, fun hneg => by omega⟩, hb1⟩
    ·go_wp2
     exact ⟨⟨k + 1, y, by omega, by go_num, rfl, by omega, by omega, hide (unhide hone ((unhide HY (by omega)).mono (by omega))), hb1⟩, by simp [intOf]; omega⟩
   ·obtain rfl : k = m := by omega
    go_wp2
    go_ret
    exact ⟨⟨x, rfl, by omega, by omega, fun _ => ⟨by omega, unhide hall⟩⟩, hb⟩
 ·go_enter Tryz.func24, Tryz.ntmps24
  go_wp2
  go_ret
  exact ⟨⟨-1, rfl, by omega, by omega, fun hneg => by omega⟩, Below.refl _ _⟩

theorem info_Question : (Tryz.prog.info? 102).map (fun i => (i.zero, i.size, i.bytes)) = some (some (.agg #[.slice none 0 0, .int .i64 0]), 2, 32) := by kernel_rfl
set_option maxHeartbeats 1000000 in
set_option maxRecDepth 100000 in
theorem toQuestionS_own (a : Option Addr) (cap : Nat) (xs : List Que) (w : World) (h : LiesQs w a xs) (hl : xs.length ≤ 1048576) (hl2 : ∀ i, i < xs.length → SizeQu 1048576 (xs.getD i queZ)) :
  Calls Tryz.prog 34 #[.slice a xs.length cap] w fun e w' => ∃ v, e = .returned v ∧ RowX 2 (OwnQu 27 5) queZ w.heap.size w'.heap.size 102 w' v xs ∧ Below w.heap.size w w' := by
 have hmk := run_makeG (P := Tryz.prog) 2 33 102 _ 32 Tryz.underlying33 info_Question .i64 .i64 xs.length (by omega) (by omega)
 generalize hn : xs.length = m at *
 have HN := hide hn
 clear hn
 have HL := hide hl2
 clear hl2
 have F0 := hide (fillX_none (c := 2) (O := OwnQu 27 5) (d := queZ) w m #[.slice none 0 0, .int .i64 0] 102 xs)
 have B0 := hide (below_alloc (w := w) (.cells (madeCells #[.slice none 0 0, .int .i64 0] (m * 2)) 102))
 go_enter Tryz.func34, Tryz.ntmps34
 go_wp2
 go_loopw [4] (fun i wr => ∃ (k : Nat), k ≤ m ∧ i = .int .i64 k ∧ FillX 2 (OwnQu 27 5) queZ w.heap.size m k 102 wr xs ∧ Below w.heap.size w wr) (fun i _ => m - (intOf i).toNat)
 case atStart => exact ⟨0, Nat.zero_le _, rfl, unhide F0, unhide B0⟩
 case round =>
  clear F0 B0
  obtain ⟨k, hk, rfl, hf, hb⟩ := hrel
  by_cases hlt : k < m
  ·have hIk := (lowQs h hb)
   obtain ⟨b, off, vs, rfl, hbl, hc, aq, cq, rfl, hIn⟩ := hIk.here (k := k) (by rw [unhide HN]; exact hlt)
   clear hIk
   have HF := hide hf
   have HI := hide hIn
   have HLK := hide (unhide HL k hlt)
   obtain ⟨c0, c1⟩ := range2 hc
   have zf := hf.lt
   generalize hrk : xs.getD k queZ = rk at *
   have HRK := hide hrk
   clear hf hIn hc hrk
   go_wp2_with fail
   refine (toQuestion_any aq cq rk _ (unhide HI) (unhide HLK)).mono ?_
   rintro e w1 ⟨vn, rfl, o1, b1⟩
   clear c0 c1
   have hb1 := below_next hb b1
   have ht := (FillX.below (ownsQu 27 5) (unhide HF) b1).here hlt
   have hst := FillX.step (ownsQu 27 5) (unhide HF) b1 hlt (vs := [vn, .int .i64 rk.type]) (by rw [unhide HRK]; exact ⟨vn, rfl, o1⟩)
   have HST := hide hst
   have hbs := (outside_sets w.heap.size [vn, .int .i64 rk.type] (k * 2) w1).below hb1 (Nat.le_refl _)
   have HBS := hide hbs
   have HT := hide ht
   obtain ⟨na, nc, rfl, _⟩ := o1.hasL.form
   clear hb1 hst hbs ht o1 b1 hb
   obtain ⟨⟨y0, d0⟩, f0⟩ := there_cell0 (unhide HT) (by omega)
   obtain ⟨⟨y1, d1⟩, f1⟩ := there_cell (unhide HT) (j := 1) (by omega)
   clear HT
   go_wp2
   exact ⟨⟨k + 1, by omega, by go_num, unhide HST, unhide HBS⟩, by simp [intOf]; omega⟩
  ·obtain rfl : k = m := by omega
   go_wp2
   go_ret
   have hN := unhide HN
   subst hN
   exact ⟨_, rfl, FillX.row (ownsQu 27 5) hf rfl (by unfold maxLen; omega), hb⟩

theorem info_Want : (Tryz.prog.info? 107).map (fun i => (i.zero, i.size, i.bytes)) = some (some (.agg #[.slice none 0 0, .int .i64 0, .int .i64 0, .int .i64 0, .slice none 0 0, .slice none 0 0, .slice none 0 0, .int .i64 0, .bool false]), 9, 136) := by kernel_rfl
set_option maxHeartbeats 1000000 in
set_option maxRecDepth 100000 in
theorem toWantS_own (a : Option Addr) (cap : Nat) (xs : List Wnt) (w : World) (h : LiesWs w a xs) (hl : xs.length ≤ 1048576) (hl2 : ∀ i, i < xs.length → SizeR 1048576 (xs.getD i wntZ).rr) :
  Calls Tryz.prog 36 #[.slice a xs.length cap] w fun e w' => ∃ v, e = .returned v ∧ RowX 9 (OwnWn 27 5 3) wntZ w.heap.size w'.heap.size 107 w' v xs ∧ Below w.heap.size w w' := by
 have hmk := run_makeG (P := Tryz.prog) 9 35 107 _ 136 Tryz.underlying35 info_Want .i64 .i64 xs.length (by omega) (by omega)
 generalize hn : xs.length = m at *
 have HN := hide hn
 clear hn
 have HL := hide hl2
 clear hl2
 have F0 := hide (fillX_none (c := 9) (O := OwnWn 27 5 3) (d := wntZ) w m #[.slice none 0 0, .int .i64 0, .int .i64 0, .int .i64 0, .slice none 0 0, .slice none 0 0, .slice none 0 0, .int .i64 0, .bool false] 107 xs)
 have B0 := hide (below_alloc (w := w) (.cells (madeCells #[.slice none 0 0, .int .i64 0, .int .i64 0, .int .i64 0, .slice none 0 0, .slice none 0 0, .slice none 0 0, .int .i64 0, .bool false] (m * 9)) 107))
 go_enter Tryz.func36, Tryz.ntmps36
 go_wp2
 go_loopw [4] (fun i wr => ∃ (k : Nat), k ≤ m ∧ i = .int .i64 k ∧ FillX 9 (OwnWn 27 5 3) wntZ w.heap.size m k 107 wr xs ∧ Below w.heap.size w wr) (fun i _ => m - (intOf i).toNat)
 case atStart => exact ⟨0, Nat.zero_le _, rfl, unhide F0, unhide B0⟩
 case round =>
  clear F0 B0
  obtain ⟨k, hk, rfl, hf, hb⟩ := hrel
  by_cases hlt : k < m
  ·have hIk := (lowWs h hb)
   obtain ⟨b, off, vs, rfl, hbl, hc, an, cn, ato, ct, ax, cx, ai, ci, rfl, hIn⟩ := hIk.here (k := k) (by rw [unhide HN]; exact hlt)
   clear hIk
   have HF := hide hf
   have HI := hide hIn
   have HLK := hide (unhide HL k hlt)
   obtain ⟨c0, c1, c2, c3, c4, c5, c6, c7, c8⟩ := range9 hc
   have zf := hf.lt
   generalize hrk : xs.getD k wntZ = rk at *
   have HRK := hide hrk
   clear hf hIn hc hrk
   go_wp2_with fail
   refine (toWant_any an cn ato ct ax cx ai ci rk.rr rk.cls rk.bare _ (unhide HI) (unhide HLK)).mono ?_
   rintro e w1 ⟨vn, vt, vx, vi, rfl, o1, b1⟩
   clear c0 c1 c2 c3 c4 c5 c6 c7 c8
   have hb1 := below_next hb b1
   have ht := (FillX.below (ownsWn 27 5 3) (unhide HF) b1).here hlt
   have hst := FillX.step (ownsWn 27 5 3) (unhide HF) b1 hlt (vs := [vn, .int .i64 rk.rr.type, .int .i64 rk.rr.ttl, .int .i64 rk.rr.addr, vt, vx, vi, .int .i64 rk.cls, .bool rk.bare]) (by rw [unhide HRK]; exact ⟨vn, vt, vx, vi, rfl, o1⟩)
   have HST := hide hst
   have hbs := (outside_sets w.heap.size [vn, .int .i64 rk.rr.type, .int .i64 rk.rr.ttl, .int .i64 rk.rr.addr, vt, vx, vi, .int .i64 rk.cls, .bool rk.bare] (k * 9) w1).below hb1 (Nat.le_refl _)
   have HBS := hide hbs
   have HT := hide ht
   obtain ⟨na, nc, rfl, _⟩ := o1.hasR.name.form
   obtain ⟨ta, tc, rfl, _⟩ := o1.hasR.to.form
   obtain ⟨xa, xc, rfl, _⟩ := o1.hasR.text.form
   obtain ⟨ia, ic, rfl, _⟩ := o1.hasR.nums.form
   clear hb1 hst hbs ht o1 b1 hb
   obtain ⟨⟨y0, d0⟩, f0⟩ := there_cell0 (unhide HT) (by omega)
   obtain ⟨⟨y1, d1⟩, f1⟩ := there_cell (unhide HT) (j := 1) (by omega)
   obtain ⟨⟨y2, d2⟩, f2⟩ := there_cell (unhide HT) (j := 2) (by omega)
   obtain ⟨⟨y3, d3⟩, f3⟩ := there_cell (unhide HT) (j := 3) (by omega)
   obtain ⟨⟨y4, d4⟩, f4⟩ := there_cell (unhide HT) (j := 4) (by omega)
   obtain ⟨⟨y5, d5⟩, f5⟩ := there_cell (unhide HT) (j := 5) (by omega)
   obtain ⟨⟨y6, d6⟩, f6⟩ := there_cell (unhide HT) (j := 6) (by omega)
   obtain ⟨⟨y7, d7⟩, f7⟩ := there_cell (unhide HT) (j := 7) (by omega)
   obtain ⟨⟨y8, d8⟩, f8⟩ := there_cell (unhide HT) (j := 8) (by omega)
   clear HT
   go_wp2
   exact ⟨⟨k + 1, by omega, by go_num, unhide HST, unhide HBS⟩, by simp [intOf]; omega⟩
  ·obtain rfl : k = m := by omega
   go_wp2
   go_ret
   have hN := unhide HN
   subst hN
   exact ⟨_, rfl, FillX.row (ownsWn 27 5 3) hf rfl (by unfold maxLen; omega), hb⟩

set_option maxHeartbeats 1000000 in
set_option maxRecDepth 100000 in
theorem eqQuestionS_has {v v' : Value} {xs : List Que} {w : World} (h : HasQs w v xs) (h' : HasQs w v' xs) (hl2 : ∀ i, i < xs.length → SizeQu 2097152 (xs.getD i queZ)) :
  Calls Tryz.prog 38 #[v, v'] w fun e w' => e = .returned (.bool true) ∧ Below w.heap.size w w' := by
 obtain ⟨a, cap, rfl, hl, hm⟩ := h.form
 obtain ⟨a', cap', rfl, hl', hm'⟩ := h'.form
 unfold maxLen at hm hm'
 have HL := hide hl2
 clear hl2
 generalize hn : xs.length = m at *
 have HN := hide hn
 clear hn
 go_enter Tryz.func38, Tryz.ntmps38
 go_wp2
 go_loopw [5] (fun i wr => ∃ k : Nat, k ≤ m ∧ i = .int .i64 k ∧ Below w.heap.size w wr) (fun i _ => m - (intOf i).toNat)
 case atStart => exact ⟨0, Nat.zero_le _, rfl, Below.refl _ _⟩
 case round =>
  obtain ⟨k, hk, rfl, hb⟩ := hrel
  by_cases hlt : k < m
  ·obtain ⟨b, off, vs, rfl, hbl, hc, vn, rfl, hu⟩ := (keptQs h hb).here (k := k) (by rw [unhide HN]; exact hlt)
   obtain ⟨b', off', vs', rfl, hbl', hc', vn', rfl, hu'⟩ := (keptQs h' hb).here (k := k) (by rw [unhide HN]; exact hlt)
   have HLK := hide (unhide HL k hlt)
   generalize xs.getD k queZ = rk at *
   obtain ⟨na, nc, rfl, _⟩ := hu.form
   obtain ⟨na', nc', rfl, _⟩ := hu'.form
   have bd := below_drew (w := wr)
   have HU := hide (hu.below bd)
   have HU' := hide (hu'.below bd)
   have hbd := below_next hb bd
   have HC := hide (range_below hc hbl bd)
   have HC' := hide (range_below hc' hbl' bd)
   have hbld : b < wr.drew.heap.size := hbl
   have hbld' : b' < wr.drew.heap.size := hbl'
   clear hu hu' hc hc' hb
   go_wp2_with fail
   go_region_held3 (fun w' => (w'.cell? ⟨b, off + k * 2, none⟩ = some (.slice na rk.name.length nc) ∧ w'.cell? ⟨b, off + k * 2 + 1, none⟩ = some (.int .i64 rk.type)) ∧ (w'.cell? ⟨b', off' + k * 2, none⟩ = some (.slice na' rk.name.length nc') ∧ w'.cell? ⟨b', off' + k * 2 + 1, none⟩ = some (.int .i64 rk.type)))
    (first | exact ⟨range2 (unhide HC), range2 (unhide HC')⟩ | exact ⟨range2 (range_below (unhide HC) hbld b2), range2 (range_below (unhide HC') hbld' b2)⟩)
    (first
    | (go_at_call 56; refine (eqQuestion_has (unhide HU) (unhide HU') (unhide HLK)).mono ?_; rintro e w2 ⟨rfl, b2⟩))
   go_wp2
   exact ⟨⟨k + 1, by omega, by go_num, below_next hbd b2⟩, by simp [intOf]; omega⟩
  ·go_wp2
   go_ret
   exact ⟨rfl, hb⟩

set_option maxHeartbeats 1000000 in
set_option maxRecDepth 100000 in
theorem eqWantS_has {v v' : Value} {xs : List Wnt} {w : World} (h : HasWs w v xs) (h' : HasWs w v' xs) (hl2 : ∀ i, i < xs.length → SizeR 2097152 (xs.getD i wntZ).rr) :
  Calls Tryz.prog 40 #[v, v'] w fun e w' => e = .returned (.bool true) ∧ Below w.heap.size w w' := by
 obtain ⟨a, cap, rfl, hl, hm⟩ := h.form
 obtain ⟨a', cap', rfl, hl', hm'⟩ := h'.form
 unfold maxLen at hm hm'
 have HL := hide hl2
 clear hl2
 generalize hn : xs.length = m at *
 have HN := hide hn
 clear hn
 go_enter Tryz.func40, Tryz.ntmps40
 go_wp2
 go_loopw [5] (fun i wr => ∃ k : Nat, k ≤ m ∧ i = .int .i64 k ∧ Below w.heap.size w wr) (fun i _ => m - (intOf i).toNat)
 case atStart => exact ⟨0, Nat.zero_le _, rfl, Below.refl _ _⟩
 case round =>
  obtain ⟨k, hk, rfl, hb⟩ := hrel
  by_cases hlt : k < m
  ·obtain ⟨b, off, vs, rfl, hbl, hc, vn, vt, vx, vi, rfl, hu⟩ := (keptWs h hb).here (k := k) (by rw [unhide HN]; exact hlt)
   obtain ⟨b', off', vs', rfl, hbl', hc', vn', vt', vx', vi', rfl, hu'⟩ := (keptWs h' hb).here (k := k) (by rw [unhide HN]; exact hlt)
   have HLK := hide (unhide HL k hlt)
   generalize xs.getD k wntZ = rk at *
   obtain ⟨na, nc, rfl, _⟩ := hu.name.form
   obtain ⟨ta, tc, rfl, _⟩ := hu.to.form
   obtain ⟨xa, xc, rfl, _⟩ := hu.text.form
   obtain ⟨ia, ic, rfl, _⟩ := hu.nums.form
   obtain ⟨na', nc', rfl, _⟩ := hu'.name.form
   obtain ⟨ta', tc', rfl, _⟩ := hu'.to.form
   obtain ⟨xa', xc', rfl, _⟩ := hu'.text.form
   obtain ⟨ia', ic', rfl, _⟩ := hu'.nums.form
   have bd := below_drew (w := wr)
   have HU := hide (hu.below bd)
   have HU' := hide (hu'.below bd)
   have hbd := below_next hb bd
   have HC := hide (range_below hc hbl bd)
   have HC' := hide (range_below hc' hbl' bd)
   have hbld : b < wr.drew.heap.size := hbl
   have hbld' : b' < wr.drew.heap.size := hbl'
   clear hu hu' hc hc' hb
   go_wp2_with fail
   go_region_held3 (fun w' => (w'.cell? ⟨b, off + k * 9, none⟩ = some (.slice na rk.rr.name.length nc) ∧ w'.cell? ⟨b, off + k * 9 + 1, none⟩ = some (.int .i64 rk.rr.type) ∧ w'.cell? ⟨b, off + k * 9 + 2, none⟩ = some (.int .i64 rk.rr.ttl) ∧ w'.cell? ⟨b, off + k * 9 + 3, none⟩ = some (.int .i64 rk.rr.addr) ∧ w'.cell? ⟨b, off + k * 9 + 4, none⟩ = some (.slice ta rk.rr.to.length tc) ∧ w'.cell? ⟨b, off + k * 9 + 5, none⟩ = some (.slice xa rk.rr.text.length xc) ∧ w'.cell? ⟨b, off + k * 9 + 6, none⟩ = some (.slice ia rk.rr.nums.length ic) ∧ w'.cell? ⟨b, off + k * 9 + 7, none⟩ = some (.int .i64 rk.cls) ∧ w'.cell? ⟨b, off + k * 9 + 8, none⟩ = some (.bool rk.bare)) ∧ (w'.cell? ⟨b', off' + k * 9, none⟩ = some (.slice na' rk.rr.name.length nc') ∧ w'.cell? ⟨b', off' + k * 9 + 1, none⟩ = some (.int .i64 rk.rr.type) ∧ w'.cell? ⟨b', off' + k * 9 + 2, none⟩ = some (.int .i64 rk.rr.ttl) ∧ w'.cell? ⟨b', off' + k * 9 + 3, none⟩ = some (.int .i64 rk.rr.addr) ∧ w'.cell? ⟨b', off' + k * 9 + 4, none⟩ = some (.slice ta' rk.rr.to.length tc') ∧ w'.cell? ⟨b', off' + k * 9 + 5, none⟩ = some (.slice xa' rk.rr.text.length xc') ∧ w'.cell? ⟨b', off' + k * 9 + 6, none⟩ = some (.slice ia' rk.rr.nums.length ic') ∧ w'.cell? ⟨b', off' + k * 9 + 7, none⟩ = some (.int .i64 rk.cls) ∧ w'.cell? ⟨b', off' + k * 9 + 8, none⟩ = some (.bool rk.bare)))
    (first | exact ⟨range9 (unhide HC), range9 (unhide HC')⟩ | exact ⟨range9 (range_below (unhide HC) hbld b2), range9 (range_below (unhide HC') hbld' b2)⟩)
    (first
    | (go_at_call 58; refine (eqWant_has rk.cls rk.bare (unhide HU) (unhide HU') (unhide HLK)).mono ?_; rintro e w2 ⟨rfl, b2⟩))
   go_wp2
   exact ⟨⟨k + 1, by omega, by go_num, below_next hbd b2⟩, by simp [intOf]; omega⟩
  ·go_wp2
   go_ret
   exact ⟨rfl, hb⟩

end Go.Proofs.YtfbfakdkemlbmaaGreat

namespace Go.Proofs.YtfbfakdkemlbmaaGreat
open Go.RowKit
set_option linter.unusedVariables false

set_option maxHeartbeats 1000000 in
set_option maxRecDepth 100000 in
theorem toRrS_own (a : Option Addr) (cap : Nat) (rs : List Rec) (w : World) (h : LiesRs w a rs) (hl : rs.length ≤ 1048576) (hl2 : ∀ i, i < rs.length → SizeR 1048576 (rs.getD i recZ)) :
  Calls Tryz.prog 35 #[.slice a rs.length cap] w fun e w' => ∃ v, e = .returned v ∧ RowO w.heap.size w'.heap.size 105 27 5 3 w' v rs ∧ Below w.heap.size w w' := by
 have hmk := run_make7 (P := Tryz.prog) 34 105 _ 120 Tryz.underlying34 info_rr .i64 .i64 rs.length (by omega) (by omega)
 generalize hn : rs.length = m at *
 have HN := hide hn
 clear hn
 have HL := hide hl2
 clear hl2
 have F0 := hide (fillO_none w m #[.slice none 0 0, .int .i64 0, .int .i64 0, .int .i64 0, .slice none 0 0, .slice none 0 0, .slice none 0 0] 105 27 5 3 rs)
 have B0 := hide (below_alloc (w := w) (.cells (madeCells #[.slice none 0 0, .int .i64 0, .int .i64 0, .int .i64 0, .slice none 0 0, .slice none 0 0, .slice none 0 0] (m * 7)) 105))
 go_enter Tryz.func35, Tryz.ntmps35
 go_wp2
 go_loopw [4] (fun i wr => ∃ (k : Nat), k ≤ m ∧ i = .int .i64 k ∧ FillO w.heap.size m k 105 27 5 3 wr rs ∧ Below w.heap.size w wr) (fun i _ => m - (intOf i).toNat)
 case atStart => exact ⟨0, Nat.zero_le _, rfl, unhide F0, unhide B0⟩
 case round =>
  clear F0 B0
  obtain ⟨k, hk, rfl, hf, hb⟩ := hrel
  by_cases hlt : k < m
  ·obtain ⟨b, off, an, cn, ato, ct, ax, cx, ai, ci, rfl, hbl, hc, hIn⟩ := (h.below hb).here (k := k) (by rw [unhide HN]; exact hlt)
   have HF := hide hf
   have HI := hide hIn
   have HLK := hide (unhide HL k hlt)
   obtain ⟨c0, c1, c2, c3, c4, c5, c6⟩ := range7 hc
   have zf := hf.lt
   generalize hrk : rs.getD k recZ = rk at *
   have HRK := hide hrk
   clear hf hIn hc hrk
   go_wp2_with fail
   refine (toRr_any an cn ato ct ax cx ai ci rk _ (unhide HI) (unhide HLK)).mono ?_
   rintro e w1 ⟨vn, vt, vx, vi, rfl, o1, b1⟩
   clear c0 c1 c2 c3 c4 c5 c6
   have hb1 := below_next hb b1
   have ht := ((unhide HF).below b1).here hlt
   have hst := (unhide HF).step b1 hlt (vn := vn) (vt := vt) (vx := vx) (vi := vi) (by rw [unhide HRK]; exact o1)
   rw [unhide HRK] at hst
   have HST := hide hst
   have hbs := (outside_sets w.heap.size (cellsR vn vt vx vi rk) (k * 7) w1).below hb1 (Nat.le_refl _)
   have HBS := hide hbs
   have HT := hide ht
   obtain ⟨na, nc, rfl, _⟩ := o1.hasR.name.form
   obtain ⟨ta, tc, rfl, _⟩ := o1.hasR.to.form
   obtain ⟨xa, xc, rfl, _⟩ := o1.hasR.text.form
   obtain ⟨ia, ic, rfl, _⟩ := o1.hasR.nums.form
   clear hb1 hst hbs ht o1 b1 hb
   obtain ⟨y0, y1, y2, y3, y4, y5, y6, ⟨d0, d1, d2, d3, d4, d5, d6⟩, f0, f1, f2, f3, f4, f5, f6⟩ := there_cells (unhide HT)
   clear HT
   go_wp2
   exact ⟨⟨k + 1, by omega, by go_num, unhide HST, unhide HBS⟩, by simp [intOf]; omega⟩
  ·obtain rfl : k = m := by omega
   go_wp2
   go_ret
   have hN := unhide HN
   subst hN
   exact ⟨_, rfl, hf.row rfl (by unfold maxLen; omega), hb⟩
end Go.Proofs.YtfbfakdkemlbmaaGreat
