/-
  Contracts of the helpers of the laws for questions and for rows of questions, records and wants (sz.., to.., eq..). Contract of a helper of the laws: rows of records that are made of what came in, and own their memory (toRrS).
-/
import Derived.Test.YtfpenlobnnlnfaaGreatDoorMsgTextG06
import Derived.Test.YtfpenlobnnlnfaaGreatDoorMsgTextG04
import Derived.Test.YtfpenlobnnlnfaaGreatDoorMsgTextG03
namespace Go.Proofs.YtfpenlobnnlnfaaGreatDoor
open Go.RowKit
set_option linter.unusedVariables false
set_option maxHeartbeats 1000000
set_option maxRecDepth 100000

theorem szQuestionS_sum (a : Option Addr) (cap : Nat) (xs : List Que) (left : Int) (w : World) (h : LiesQs w a xs) (hm : xs.length ≤ maxLen) (hm2 : ∀ i, i < xs.length → SizeQu maxLen (xs.getD i queZ)) (h0 : 0 ≤ left) (h1 : left ≤ 1048576) :
  Calls Tryz.prog 13 #[.slice a xs.length cap, .int .i64 left] w fun e w' => (∃ y : Int, e = .returned (.int .i64 y) ∧ -1 ≤ y ∧ y ≤ left ∧ (0 ≤ y → y + xs.length ≤ left ∧ ∀ i, i < xs.length → SizeQu left.toNat (xs.getD i queZ))) ∧ Below w.heap.size w w' := by
 generalize hn : xs.length = m at *
 have HN := UC hn
 clear hn
 have HM := UC hm2
 clear hm2
 unfold maxLen at hm
 by_cases hlen : (m : Int) ≤ left
 ·go_enter Tryz.func13, Tryz.ntmps13
  go_wp2
  go_loopw [1, 5] (fun r i wr => ∃ (k : Nat) (x : Int), k ≤ m ∧ i = .int .i64 k ∧ r = .int .i64 x ∧ 0 ≤ x ∧ x ≤ left - m ∧ Hid (∀ j, j < k → SizeQu left.toNat (xs.getD j queZ)) ∧ Below w.heap.size w wr) (fun _ i _ => m - (intOf i).toNat)
  case atStart => exact ⟨0, left - m, Nat.zero_le _, rfl, rfl, by omega, by omega, UC (fun j hj => absurd hj (Nat.not_lt_zero _)), Below.refl _ _⟩
  case round =>
   obtain ⟨k, x, hk, rfl, rfl, hx0, hx1, hall, hb⟩ := hrel
   by_cases hlt : k < m
   ·have hIk := (lowQs h hb)
    obtain ⟨b, off, vs, rfl, hbl, hc, aq, cq, rfl, hIn⟩ := hIk.here (k := k) (by rw [UB HN]; exact hlt)
    clear hIk
    have hmk := UB HM k hlt
    have hone := UC (fun (hs : SizeQu left.toNat (xs.getD k queZ)) => (show ∀ j, j < k + 1 → SizeQu left.toNat (xs.getD j queZ) from fun j hj => by
      by_cases e : j = k
      ·subst e; exact hs
      ·exact UB hall j (by omega)))
    generalize xs.getD k queZ = rk at *
    obtain ⟨c0, c1⟩ := range2 hc
    have HI := UC hIn
    have HMK := UC hmk
    clear hIn hmk hc
    go_wp2_with fail
    refine (szQuestion_any aq cq rk x _ (UB HI) (UB HMK) hx0 (by omega)).mono ?_
    rintro e w1 ⟨⟨y, rfl, hy0, hy1, hy2⟩, b1⟩
    have hb1 := UG hb b1
    have HY := UC hy2
    clear hy2 c0 c1 b1 hb
    by_cases hle : y < 0
    ·go_wp2
     go_ret
     exact ⟨⟨-1, rfl, by omega, by omega, fun hneg => by omega⟩, hb1⟩
    ·go_wp2
     exact ⟨⟨k + 1, y, by omega, by go_num, rfl, by omega, by omega, UC (UB hone ((UB HY (by omega)).mono (by omega))), hb1⟩, by simp [intOf]; omega⟩
   ·obtain rfl : k = m := by omega
    go_wp2
    go_ret
    exact ⟨⟨x, rfl, by omega, by omega, fun _ => ⟨by omega, UB hall⟩⟩, hb⟩
 ·go_enter Tryz.func13, Tryz.ntmps13
  go_wp2
  go_ret
  exact ⟨⟨-1, rfl, by omega, by omega, fun hneg => by omega⟩, Below.refl _ _⟩

theorem szWantS_sum (a : Option Addr) (cap : Nat) (xs : List Wnt) (left : Int) (w : World) (h : LiesWs w a xs) (hm : xs.length ≤ maxLen) (hm2 : ∀ i, i < xs.length → SizeR maxLen (xs.getD i wntZ).rr) (h0 : 0 ≤ left) (h1 : left ≤ 1048576) :
  Calls Tryz.prog 15 #[.slice a xs.length cap, .int .i64 left] w fun e w' => (∃ y : Int, e = .returned (.int .i64 y) ∧ -1 ≤ y ∧ y ≤ left ∧ (0 ≤ y → y + xs.length ≤ left ∧ ∀ i, i < xs.length → SizeR left.toNat (xs.getD i wntZ).rr)) ∧ Below w.heap.size w w' := by
 generalize hn : xs.length = m at *
 have HN := UC hn
 clear hn
 have HM := UC hm2
 clear hm2
 unfold maxLen at hm
 by_cases hlen : (m : Int) ≤ left
 ·go_enter Tryz.func15, Tryz.ntmps15
  go_wp2
  go_loopw [1, 5] (fun r i wr => ∃ (k : Nat) (x : Int), k ≤ m ∧ i = .int .i64 k ∧ r = .int .i64 x ∧ 0 ≤ x ∧ x ≤ left - m ∧ Hid (∀ j, j < k → SizeR left.toNat (xs.getD j wntZ).rr) ∧ Below w.heap.size w wr) (fun _ i _ => m - (intOf i).toNat)
  case atStart => exact ⟨0, left - m, Nat.zero_le _, rfl, rfl, by omega, by omega, UC (fun j hj => absurd hj (Nat.not_lt_zero _)), Below.refl _ _⟩
  case round =>
   obtain ⟨k, x, hk, rfl, rfl, hx0, hx1, hall, hb⟩ := hrel
   by_cases hlt : k < m
   ·have hIk := (lowWs h hb)
    obtain ⟨b, off, vs, rfl, hbl, hc, an, cn, ato, ct, ax, cx, ai, ci, rfl, hIn⟩ := hIk.here (k := k) (by rw [UB HN]; exact hlt)
    clear hIk
    have hmk := UB HM k hlt
    have hone := UC (fun (hs : SizeR left.toNat (xs.getD k wntZ).rr) => (show ∀ j, j < k + 1 → SizeR left.toNat (xs.getD j wntZ).rr from fun j hj => by
      by_cases e : j = k
      ·subst e; exact hs
      ·exact UB hall j (by omega)))
    generalize xs.getD k wntZ = rk at *
    obtain ⟨c0, c1, c2, c3, c4, c5, c6, c7, c8⟩ := range9 hc
    have HI := UC hIn
    have HMK := UC hmk
    clear hIn hmk hc
    go_wp2_with fail
    refine (szWant_any an cn ato ct ax cx ai ci rk.rr rk.cls rk.bare x _ (UB HI) (UB HMK) hx0 (by omega)).mono ?_
    rintro e w1 ⟨⟨y, rfl, hy0, hy1, hy2⟩, b1⟩
    have hb1 := UG hb b1
    have HY := UC hy2
    clear hy2 c0 c1 c2 c3 c4 c5 c6 c7 c8 b1 hb
    by_cases hle : y < 0
    ·go_wp2
     go_ret
     exact ⟨⟨-1, rfl, by omega, by omega, fun hneg => by omega⟩, hb1⟩
    ·go_wp2
     exact ⟨⟨k + 1, y, by omega, by go_num, rfl, by omega, by omega, UC (UB hone ((UB HY (by omega)).mono (by omega))), hb1⟩, by simp [intOf]; omega⟩
   ·obtain rfl : k = m := by omega
    go_wp2
    go_ret
    exact ⟨⟨x, rfl, by omega, by omega, fun _ => ⟨by omega, UB hall⟩⟩, hb⟩
 ·go_enter Tryz.func15, Tryz.ntmps15
  go_wp2
  go_ret
  exact ⟨⟨-1, rfl, by omega, by omega, fun hneg => by omega⟩, Below.refl _ _⟩

theorem szRrS_sum (a : Option Addr) (cap : Nat) (xs : List Rec) (left : Int) (w : World) (h : LiesRs w a xs) (hm : xs.length ≤ maxLen) (hm2 : ∀ i, i < xs.length → SizeR maxLen (xs.getD i recZ)) (h0 : 0 ≤ left) (h1 : left ≤ 1048576) :
  Calls Tryz.prog 14 #[.slice a xs.length cap, .int .i64 left] w fun e w' => (∃ y : Int, e = .returned (.int .i64 y) ∧ -1 ≤ y ∧ y ≤ left ∧ (0 ≤ y → y + xs.length ≤ left ∧ ∀ i, i < xs.length → SizeR left.toNat (xs.getD i recZ))) ∧ Below w.heap.size w w' := by
 generalize hn : xs.length = m at *
 have HN := UC hn
 clear hn
 have HM := UC hm2
 clear hm2
 unfold maxLen at hm
 by_cases hlen : (m : Int) ≤ left
 ·go_enter Tryz.func14, Tryz.ntmps14
  go_wp2
  go_loopw [1, 5] (fun r i wr => ∃ (k : Nat) (x : Int), k ≤ m ∧ i = .int .i64 k ∧ r = .int .i64 x ∧ 0 ≤ x ∧ x ≤ left - m ∧ Hid (∀ j, j < k → SizeR left.toNat (xs.getD j recZ)) ∧ Below w.heap.size w wr) (fun _ i _ => m - (intOf i).toNat)
  case atStart => exact ⟨0, left - m, Nat.zero_le _, rfl, rfl, by omega, by omega, UC (fun j hj => absurd hj (Nat.not_lt_zero _)), Below.refl _ _⟩
  case round =>
   obtain ⟨k, x, hk, rfl, rfl, hx0, hx1, hall, hb⟩ := hrel
   by_cases hlt : k < m
   ·have hIk := (h.below hb)
    obtain ⟨b, off, an, cn, ato, ct, ax, cx, ai, ci, rfl, hbl, hc, hIn⟩ := hIk.here (k := k) (by rw [UB HN]; exact hlt)
    clear hIk
    have hmk := UB HM k hlt
    have hone := UC (fun (hs : SizeR left.toNat (xs.getD k recZ)) => (show ∀ j, j < k + 1 → SizeR left.toNat (xs.getD j recZ) from fun j hj => by
      by_cases e : j = k
      ·subst e; exact hs
      ·exact UB hall j (by omega)))
    generalize xs.getD k recZ = rk at *
    obtain ⟨c0, c1, c2, c3, c4, c5, c6⟩ := VH hc
    have HI := UC hIn
    have HMK := UC hmk
    clear hIn hmk hc
    go_wp2_with fail
    refine (szRr_any an cn ato ct ax cx ai ci rk x _ (UB HI) (UB HMK) hx0 (by omega)).mono ?_
    rintro e w1 ⟨⟨y, rfl, hy0, hy1, hy2⟩, b1⟩
    have hb1 := UG hb b1
    have HY := UC hy2
    clear hy2 c0 c1 c2 c3 c4 c5 c6 b1 hb
    by_cases hle : y < 0
    ·go_wp2
     go_ret
     exact ⟨⟨-1, rfl, by omega, by omega, fun hneg => by omega⟩, hb1⟩
    ·go_wp2
     exact ⟨⟨k + 1, y, by omega, by go_num, rfl, by omega, by omega, UC (UB hone ((UB HY (by omega)).mono (by omega))), hb1⟩, by simp [intOf]; omega⟩
   ·obtain rfl : k = m := by omega
    go_wp2
    go_ret
    exact ⟨⟨x, rfl, by omega, by omega, fun _ => ⟨by omega, UB hall⟩⟩, hb⟩
 ·go_enter Tryz.func14, Tryz.ntmps14
  go_wp2
  go_ret
  exact ⟨⟨-1, rfl, by omega, by omega, fun hneg => by omega⟩, Below.refl _ _⟩

theorem info_Question : (Tryz.prog.info? 51).map (fun i => (i.zero, i.size, i.bytes)) = some (some (.agg #[.slice none 0 0, .int .i64 0]), 2, 32) := by kernel_rfl
theorem toQuestionS_own (a : Option Addr) (cap : Nat) (xs : List Que) (w : World) (h : LiesQs w a xs) (hl : xs.length ≤ 1048576) (hl2 : ∀ i, i < xs.length → SizeQu 1048576 (xs.getD i queZ)) :
  Calls Tryz.prog 20 #[.slice a xs.length cap] w fun e w' => ∃ v, e = .returned v ∧ RowX 2 (OwnQu 28 5) queZ w.heap.size w'.heap.size 51 w' v xs ∧ Below w.heap.size w w' := by
 have hmk := run_makeG (P := Tryz.prog) 2 30 51 _ 32 Tryz.underlying30 info_Question .i64 .i64 xs.length (by omega) (by omega)
 generalize hn : xs.length = m at *
 have HN := UC hn
 clear hn
 have HL := UC hl2
 clear hl2
 have F0 := UC (fillX_none (c := 2) (O := OwnQu 28 5) (d := queZ) w m #[.slice none 0 0, .int .i64 0] 51 xs)
 have B0 := UC (UI (w := w) (.cells (madeCells #[.slice none 0 0, .int .i64 0] (m * 2)) 51))
 go_enter Tryz.func20, Tryz.ntmps20
 go_wp2
 go_loopw [4] (fun i wr => ∃ (k : Nat), k ≤ m ∧ i = .int .i64 k ∧ FillX 2 (OwnQu 28 5) queZ w.heap.size m k 51 wr xs ∧ Below w.heap.size w wr) (fun i _ => m - (intOf i).toNat)
 case atStart => exact ⟨0, Nat.zero_le _, rfl, UB F0, UB B0⟩
 case round =>
  clear F0 B0
  obtain ⟨k, hk, rfl, hf, hb⟩ := hrel
  by_cases hlt : k < m
  ·have hIk := (lowQs h hb)
   obtain ⟨b, off, vs, rfl, hbl, hc, aq, cq, rfl, hIn⟩ := hIk.here (k := k) (by rw [UB HN]; exact hlt)
   clear hIk
   have HF := UC hf
   have HI := UC hIn
   have HLK := UC (UB HL k hlt)
   obtain ⟨c0, c1⟩ := range2 hc
   have zf := hf.lt
   generalize hrk : xs.getD k queZ = rk at *
   have HRK := UC hrk
   clear hf hIn hc hrk
   go_wp2_with fail
   refine (toQuestion_any aq cq rk _ (UB HI) (UB HLK)).mono ?_
   rintro e w1 ⟨vn, rfl, o1, b1⟩
   clear c0 c1
   have hb1 := UG hb b1
   have ht := (FillX.below (ownsQu 28 5) (UB HF) b1).here hlt
   have hst := FillX.step (ownsQu 28 5) (UB HF) b1 hlt (vs := [vn, .int .i64 rk.type]) (by rw [UB HRK]; exact ⟨vn, rfl, o1⟩)
   have HST := UC hst
   have hbs := (outside_sets w.heap.size [vn, .int .i64 rk.type] (k * 2) w1).below hb1 (Nat.le_refl _)
   have HBS := UC hbs
   have HT := UC ht
   obtain ⟨na, nc, rfl, _⟩ := o1.hasL.form
   clear hb1 hst hbs ht o1 b1 hb
   obtain ⟨⟨y0, d0⟩, f0⟩ := there_cell0 (UB HT) (by omega)
   obtain ⟨⟨y1, d1⟩, f1⟩ := there_cell (UB HT) (j := 1) (by omega)
   clear HT
   go_wp2
   exact ⟨⟨k + 1, by omega, by go_num, UB HST, UB HBS⟩, by simp [intOf]; omega⟩
  ·obtain rfl : k = m := by omega
   go_wp2
   go_ret
   have hN := UB HN
   subst hN
   exact ⟨_, rfl, FillX.row (ownsQu 28 5) hf rfl (by unfold maxLen; omega), hb⟩

theorem info_Want : (Tryz.prog.info? 81).map (fun i => (i.zero, i.size, i.bytes)) = some (some (.agg #[.slice none 0 0, .int .i64 0, .int .i64 0, .int .i64 0, .slice none 0 0, .slice none 0 0, .slice none 0 0, .int .i64 0, .bool false]), 9, 136) := by kernel_rfl
theorem toWantS_own (a : Option Addr) (cap : Nat) (xs : List Wnt) (w : World) (h : LiesWs w a xs) (hl : xs.length ≤ 1048576) (hl2 : ∀ i, i < xs.length → SizeR 1048576 (xs.getD i wntZ).rr) :
  Calls Tryz.prog 22 #[.slice a xs.length cap] w fun e w' => ∃ v, e = .returned v ∧ RowX 9 (OwnWn 28 5 3) wntZ w.heap.size w'.heap.size 81 w' v xs ∧ Below w.heap.size w w' := by
 have hmk := run_makeG (P := Tryz.prog) 9 32 81 _ 136 Tryz.underlying32 info_Want .i64 .i64 xs.length (by omega) (by omega)
 generalize hn : xs.length = m at *
 have HN := UC hn
 clear hn
 have HL := UC hl2
 clear hl2
 have F0 := UC (fillX_none (c := 9) (O := OwnWn 28 5 3) (d := wntZ) w m #[.slice none 0 0, .int .i64 0, .int .i64 0, .int .i64 0, .slice none 0 0, .slice none 0 0, .slice none 0 0, .int .i64 0, .bool false] 81 xs)
 have B0 := UC (UI (w := w) (.cells (madeCells #[.slice none 0 0, .int .i64 0, .int .i64 0, .int .i64 0, .slice none 0 0, .slice none 0 0, .slice none 0 0, .int .i64 0, .bool false] (m * 9)) 81))
 go_enter Tryz.func22, Tryz.ntmps22
 go_wp2
 go_loopw [4] (fun i wr => ∃ (k : Nat), k ≤ m ∧ i = .int .i64 k ∧ FillX 9 (OwnWn 28 5 3) wntZ w.heap.size m k 81 wr xs ∧ Below w.heap.size w wr) (fun i _ => m - (intOf i).toNat)
 case atStart => exact ⟨0, Nat.zero_le _, rfl, UB F0, UB B0⟩
 case round =>
  clear F0 B0
  obtain ⟨k, hk, rfl, hf, hb⟩ := hrel
  by_cases hlt : k < m
  ·have hIk := (lowWs h hb)
   obtain ⟨b, off, vs, rfl, hbl, hc, an, cn, ato, ct, ax, cx, ai, ci, rfl, hIn⟩ := hIk.here (k := k) (by rw [UB HN]; exact hlt)
   clear hIk
   have HF := UC hf
   have HI := UC hIn
   have HLK := UC (UB HL k hlt)
   obtain ⟨c0, c1, c2, c3, c4, c5, c6, c7, c8⟩ := range9 hc
   have zf := hf.lt
   generalize hrk : xs.getD k wntZ = rk at *
   have HRK := UC hrk
   clear hf hIn hc hrk
   go_wp2_with fail
   refine (toWant_any an cn ato ct ax cx ai ci rk.rr rk.cls rk.bare _ (UB HI) (UB HLK)).mono ?_
   rintro e w1 ⟨vn, vt, vx, vi, rfl, o1, b1⟩
   clear c0 c1 c2 c3 c4 c5 c6 c7 c8
   have hb1 := UG hb b1
   have ht := (FillX.below (ownsWn 28 5 3) (UB HF) b1).here hlt
   have hst := FillX.step (ownsWn 28 5 3) (UB HF) b1 hlt (vs := [vn, .int .i64 rk.rr.type, .int .i64 rk.rr.ttl, .int .i64 rk.rr.addr, vt, vx, vi, .int .i64 rk.cls, .bool rk.bare]) (by rw [UB HRK]; exact ⟨vn, vt, vx, vi, rfl, o1⟩)
   have HST := UC hst
   have hbs := (outside_sets w.heap.size [vn, .int .i64 rk.rr.type, .int .i64 rk.rr.ttl, .int .i64 rk.rr.addr, vt, vx, vi, .int .i64 rk.cls, .bool rk.bare] (k * 9) w1).below hb1 (Nat.le_refl _)
   have HBS := UC hbs
   have HT := UC ht
   obtain ⟨na, nc, rfl, _⟩ := o1.hasR.name.form
   obtain ⟨ta, tc, rfl, _⟩ := o1.hasR.to.form
   obtain ⟨xa, xc, rfl, _⟩ := o1.hasR.text.form
   obtain ⟨ia, ic, rfl, _⟩ := o1.hasR.nums.form
   clear hb1 hst hbs ht o1 b1 hb
   obtain ⟨⟨y0, d0⟩, f0⟩ := there_cell0 (UB HT) (by omega)
   obtain ⟨⟨y1, d1⟩, f1⟩ := there_cell (UB HT) (j := 1) (by omega)
   obtain ⟨⟨y2, d2⟩, f2⟩ := there_cell (UB HT) (j := 2) (by omega)
   obtain ⟨⟨y3, d3⟩, f3⟩ := there_cell (UB HT) (j := 3) (by omega)
   obtain ⟨⟨y4, d4⟩, f4⟩ := there_cell (UB HT) (j := 4) (by omega)
   obtain ⟨⟨y5, d5⟩, f5⟩ := there_cell (UB HT) (j := 5) (by omega)
   obtain ⟨⟨y6, d6⟩, f6⟩ := there_cell (UB HT) (j := 6) (by omega)
   obtain ⟨⟨y7, d7⟩, f7⟩ := there_cell (UB HT) (j := 7) (by omega)
   obtain ⟨⟨y8, d8⟩, f8⟩ := there_cell (UB HT) (j := 8) (by omega)
   clear HT
   go_wp2
   exact ⟨⟨k + 1, by omega, by go_num, UB HST, UB HBS⟩, by simp [intOf]; omega⟩
  ·obtain rfl : k = m := by omega
   go_wp2
   go_ret
   have hN := UB HN
   subst hN
   exact ⟨_, rfl, FillX.row (ownsWn 28 5 3) hf rfl (by unfold maxLen; omega), hb⟩

theorem eqQuestionS_has {v v' : Value} {xs : List Que} {w : World} (h : HasQs w v xs) (h' : HasQs w v' xs) (hl2 : ∀ i, i < xs.length → SizeQu 2097152 (xs.getD i queZ)) :
  Calls Tryz.prog 28 #[v, v'] w fun e w' => e = .returned (.bool true) ∧ Below w.heap.size w w' := by
 obtain ⟨a, cap, rfl, hl, hm⟩ := h.form
 obtain ⟨a', cap', rfl, hl', hm'⟩ := h'.form
 unfold maxLen at hm hm'
 have HL := UC hl2
 clear hl2
 generalize hn : xs.length = m at *
 have HN := UC hn
 clear hn
 go_enter Tryz.func28, Tryz.ntmps28
 go_wp2
 go_loopw [5] (fun i wr => ∃ k : Nat, k ≤ m ∧ i = .int .i64 k ∧ Below w.heap.size w wr) (fun i _ => m - (intOf i).toNat)
 case atStart => exact ⟨0, Nat.zero_le _, rfl, Below.refl _ _⟩
 case round =>
  obtain ⟨k, hk, rfl, hb⟩ := hrel
  by_cases hlt : k < m
  ·obtain ⟨b, off, vs, rfl, hbl, hc, vn, rfl, hu⟩ := (keptQs h hb).here (k := k) (by rw [UB HN]; exact hlt)
   obtain ⟨b', off', vs', rfl, hbl', hc', vn', rfl, hu'⟩ := (keptQs h' hb).here (k := k) (by rw [UB HN]; exact hlt)
   have HLK := UC (UB HL k hlt)
   generalize xs.getD k queZ = rk at *
   obtain ⟨na, nc, rfl, _⟩ := hu.form
   obtain ⟨na', nc', rfl, _⟩ := hu'.form
   have bd := UX (w := wr)
   have HU := UC (hu.below bd)
   have HU' := UC (hu'.below bd)
   have hbd := UG hb bd
   have HC := UC (UW hc hbl bd)
   have HC' := UC (UW hc' hbl' bd)
   have hbld : b < wr.drew.heap.size := hbl
   have hbld' : b' < wr.drew.heap.size := hbl'
   clear hu hu' hc hc' hb
   go_wp2_with fail
   go_region_held3 (fun w' => (w'.cell? ⟨b, off + k * 2, none⟩ = some (.slice na rk.name.length nc) ∧ w'.cell? ⟨b, off + k * 2 + 1, none⟩ = some (.int .i64 rk.type)) ∧ (w'.cell? ⟨b', off' + k * 2, none⟩ = some (.slice na' rk.name.length nc') ∧ w'.cell? ⟨b', off' + k * 2 + 1, none⟩ = some (.int .i64 rk.type)))
    (first | exact ⟨range2 (UB HC), range2 (UB HC')⟩ | exact ⟨range2 (UW (UB HC) hbld b2), range2 (UW (UB HC') hbld' b2)⟩)
    (first
    | (go_at_call 48; refine (eqQuestion_has (UB HU) (UB HU') (UB HLK)).mono ?_; rintro e w2 ⟨rfl, b2⟩))
   go_wp2
   exact ⟨⟨k + 1, by omega, by go_num, UG hbd b2⟩, by simp [intOf]; omega⟩
  ·go_wp2
   go_ret
   exact ⟨rfl, hb⟩

theorem eqWantS_has {v v' : Value} {xs : List Wnt} {w : World} (h : HasWs w v xs) (h' : HasWs w v' xs) (hl2 : ∀ i, i < xs.length → SizeR 2097152 (xs.getD i wntZ).rr) :
  Calls Tryz.prog 30 #[v, v'] w fun e w' => e = .returned (.bool true) ∧ Below w.heap.size w w' := by
 obtain ⟨a, cap, rfl, hl, hm⟩ := h.form
 obtain ⟨a', cap', rfl, hl', hm'⟩ := h'.form
 unfold maxLen at hm hm'
 have HL := UC hl2
 clear hl2
 generalize hn : xs.length = m at *
 have HN := UC hn
 clear hn
 go_enter Tryz.func30, Tryz.ntmps30
 go_wp2
 go_loopw [5] (fun i wr => ∃ k : Nat, k ≤ m ∧ i = .int .i64 k ∧ Below w.heap.size w wr) (fun i _ => m - (intOf i).toNat)
 case atStart => exact ⟨0, Nat.zero_le _, rfl, Below.refl _ _⟩
 case round =>
  obtain ⟨k, hk, rfl, hb⟩ := hrel
  by_cases hlt : k < m
  ·obtain ⟨b, off, vs, rfl, hbl, hc, vn, vt, vx, vi, rfl, hu⟩ := (keptWs h hb).here (k := k) (by rw [UB HN]; exact hlt)
   obtain ⟨b', off', vs', rfl, hbl', hc', vn', vt', vx', vi', rfl, hu'⟩ := (keptWs h' hb).here (k := k) (by rw [UB HN]; exact hlt)
   have HLK := UC (UB HL k hlt)
   generalize xs.getD k wntZ = rk at *
   obtain ⟨na, nc, rfl, _⟩ := hu.name.form
   obtain ⟨ta, tc, rfl, _⟩ := hu.to.form
   obtain ⟨xa, xc, rfl, _⟩ := hu.text.form
   obtain ⟨ia, ic, rfl, _⟩ := hu.nums.form
   obtain ⟨na', nc', rfl, _⟩ := hu'.name.form
   obtain ⟨ta', tc', rfl, _⟩ := hu'.to.form
   obtain ⟨xa', xc', rfl, _⟩ := hu'.text.form
   obtain ⟨ia', ic', rfl, _⟩ := hu'.nums.form
   have bd := UX (w := wr)
   have HU := UC (hu.below bd)
   have HU' := UC (hu'.below bd)
   have hbd := UG hb bd
   have HC := UC (UW hc hbl bd)
   have HC' := UC (UW hc' hbl' bd)
   have hbld : b < wr.drew.heap.size := hbl
   have hbld' : b' < wr.drew.heap.size := hbl'
   clear hu hu' hc hc' hb
   go_wp2_with fail
   go_region_held3 (fun w' => (w'.cell? ⟨b, off + k * 9, none⟩ = some (.slice na rk.rr.name.length nc) ∧ w'.cell? ⟨b, off + k * 9 + 1, none⟩ = some (.int .i64 rk.rr.type) ∧ w'.cell? ⟨b, off + k * 9 + 2, none⟩ = some (.int .i64 rk.rr.ttl) ∧ w'.cell? ⟨b, off + k * 9 + 3, none⟩ = some (.int .i64 rk.rr.addr) ∧ w'.cell? ⟨b, off + k * 9 + 4, none⟩ = some (.slice ta rk.rr.to.length tc) ∧ w'.cell? ⟨b, off + k * 9 + 5, none⟩ = some (.slice xa rk.rr.text.length xc) ∧ w'.cell? ⟨b, off + k * 9 + 6, none⟩ = some (.slice ia rk.rr.nums.length ic) ∧ w'.cell? ⟨b, off + k * 9 + 7, none⟩ = some (.int .i64 rk.cls) ∧ w'.cell? ⟨b, off + k * 9 + 8, none⟩ = some (.bool rk.bare)) ∧ (w'.cell? ⟨b', off' + k * 9, none⟩ = some (.slice na' rk.rr.name.length nc') ∧ w'.cell? ⟨b', off' + k * 9 + 1, none⟩ = some (.int .i64 rk.rr.type) ∧ w'.cell? ⟨b', off' + k * 9 + 2, none⟩ = some (.int .i64 rk.rr.ttl) ∧ w'.cell? ⟨b', off' + k * 9 + 3, none⟩ = some (.int .i64 rk.rr.addr) ∧ w'.cell? ⟨b', off' + k * 9 + 4, none⟩ = some (.slice ta' rk.rr.to.length tc') ∧ w'.cell? ⟨b', off' + k * 9 + 5, none⟩ = some (.slice xa' rk.rr.text.length xc') ∧ w'.cell? ⟨b', off' + k * 9 + 6, none⟩ = some (.slice ia' rk.rr.nums.length ic') ∧ w'.cell? ⟨b', off' + k * 9 + 7, none⟩ = some (.int .i64 rk.cls) ∧ w'.cell? ⟨b', off' + k * 9 + 8, none⟩ = some (.bool rk.bare)))
    (first | exact ⟨range9 (UB HC), range9 (UB HC')⟩ | exact ⟨range9 (UW (UB HC) hbld b2), range9 (UW (UB HC') hbld' b2)⟩)
    (first
    | (go_at_call 50; refine (eqWant_has rk.cls rk.bare (UB HU) (UB HU') (UB HLK)).mono ?_; rintro e w2 ⟨rfl, b2⟩))
   go_wp2
   exact ⟨⟨k + 1, by omega, by go_num, UG hbd b2⟩, by simp [intOf]; omega⟩
  ·go_wp2
   go_ret
   exact ⟨rfl, hb⟩

set_option maxHeartbeats 1000000 in
set_option maxRecDepth 100000 in
theorem toRrS_own (a : Option Addr) (cap : Nat) (rs : List Rec) (w : World) (h : LiesRs w a rs) (hl : rs.length ≤ 1048576) (hl2 : ∀ i, i < rs.length → SizeR 1048576 (rs.getD i recZ)) :
  Calls Tryz.prog 21 #[.slice a rs.length cap] w fun e w' => ∃ v, e = .returned v ∧ RowO w.heap.size w'.heap.size 77 28 5 3 w' v rs ∧ Below w.heap.size w w' := by
 have hmk := run_make7 (P := Tryz.prog) 31 77 _ 120 Tryz.underlying31 info_rr .i64 .i64 rs.length (by omega) (by omega)
 generalize hn : rs.length = m at *
 have HN := UC hn
 clear hn
 have HL := UC hl2
 clear hl2
 have F0 := UC (fillO_none w m #[.slice none 0 0, .int .i64 0, .int .i64 0, .int .i64 0, .slice none 0 0, .slice none 0 0, .slice none 0 0] 77 28 5 3 rs)
 have B0 := UC (UI (w := w) (.cells (madeCells #[.slice none 0 0, .int .i64 0, .int .i64 0, .int .i64 0, .slice none 0 0, .slice none 0 0, .slice none 0 0] (m * 7)) 77))
 go_enter Tryz.func21, Tryz.ntmps21
 go_wp2
 go_loopw [4] (fun i wr => ∃ (k : Nat), k ≤ m ∧ i = .int .i64 k ∧ FillO w.heap.size m k 77 28 5 3 wr rs ∧ Below w.heap.size w wr) (fun i _ => m - (intOf i).toNat)
 case atStart => exact ⟨0, Nat.zero_le _, rfl, UB F0, UB B0⟩
 case round =>
  clear F0 B0
  obtain ⟨k, hk, rfl, hf, hb⟩ := hrel
  by_cases hlt : k < m
  ·obtain ⟨b, off, an, cn, ato, ct, ax, cx, ai, ci, rfl, hbl, hc, hIn⟩ := (h.below hb).here (k := k) (by rw [UB HN]; exact hlt)
   have HF := UC hf
   have HI := UC hIn
   have HLK := UC (UB HL k hlt)
   obtain ⟨c0, c1, c2, c3, c4, c5, c6⟩ := VH hc
   have zf := hf.lt
   generalize hrk : rs.getD k recZ = rk at *
   have HRK := UC hrk
   clear hf hIn hc hrk
   go_wp2_with fail
   refine (toRr_any an cn ato ct ax cx ai ci rk _ (UB HI) (UB HLK)).mono ?_
   rintro e w1 ⟨vn, vt, vx, vi, rfl, o1, b1⟩
   clear c0 c1 c2 c3 c4 c5 c6
   have hb1 := UG hb b1
   have ht := ((UB HF).below b1).here hlt
   have hst := (UB HF).step b1 hlt (vn := vn) (vt := vt) (vx := vx) (vi := vi) (by rw [UB HRK]; exact o1)
   rw [UB HRK] at hst
   have HST := UC hst
   have hbs := (outside_sets w.heap.size (cellsR vn vt vx vi rk) (k * 7) w1).below hb1 (Nat.le_refl _)
   have HBS := UC hbs
   have HT := UC ht
   obtain ⟨na, nc, rfl, _⟩ := o1.hasR.name.form
   obtain ⟨ta, tc, rfl, _⟩ := o1.hasR.to.form
   obtain ⟨xa, xc, rfl, _⟩ := o1.hasR.text.form
   obtain ⟨ia, ic, rfl, _⟩ := o1.hasR.nums.form
   clear hb1 hst hbs ht o1 b1 hb
   obtain ⟨y0, y1, y2, y3, y4, y5, y6, ⟨d0, d1, d2, d3, d4, d5, d6⟩, f0, f1, f2, f3, f4, f5, f6⟩ := there_cells (UB HT)
   clear HT
   go_wp2
   exact ⟨⟨k + 1, by omega, by go_num, UB HST, UB HBS⟩, by simp [intOf]; omega⟩
  ·obtain rfl : k = m := by omega
   go_wp2
   go_ret
   have hN := UB HN
   subst hN
   exact ⟨_, rfl, hf.row rfl (by unfold maxLen; omega), hb⟩
end Go.Proofs.YtfpenlobnnlnfaaGreatDoor
