/-
  Contracts of the program's askable, bareOk and WantOk. Contracts of the program's codeOk, questionsOk, opOk, listOk, listsOk and partsOk. Contracts of the program's opOk and listOk.
-/
import Derived.Test.YtfbfakdkemlbmaaGreatTxnBytesG05
import Derived.Test.YtfbfakdkemlbmaaGreatTxnBytesG18
import Derived.Test.YtfbfakdkemlbmaaGreatTxnBytesG15
import Derived.Test.YtfbfakdkemlbmaaGreatTxnBytesG16
namespace Go.Proofs.YtfbfakdkemlbmaaGreat
open Go.RowKit
set_option linter.unusedVariables false

set_option maxHeartbeats 1000000 in
set_option maxRecDepth 100000 in
theorem implBareOk_has {vn vt vx vi : Value} {r : Rec} {w : World} (h : HasR w vn vt vx vi r) :
  Calls Tryz.prog 133 #[.agg #[vn, .int .i64 r.type, .int .i64 r.ttl, .int .i64 r.addr, vt, vx, vi]] w fun e w' => e = .returned (.bool (bareOk r)) ∧ Below w.heap.size w w' := by
 obtain ⟨na, nc, rfl, _⟩ := h.name.form
 obtain ⟨ta, tc, rfl, _⟩ := h.to.form
 obtain ⟨xa, xc, rfl, _⟩ := h.text.form
 obtain ⟨ia, ic, rfl, _⟩ := h.nums.form
 have b0 := below_alloc (w := w) (.cells #[.slice na r.name.length nc, .int .i64 r.type, .int .i64 r.ttl, .int .i64 r.addr, .slice ta r.to.length tc, .slice xa r.text.length xc, .slice ia r.nums.length ic] 105)
 have K0 := hide (heap_alloc_new w (.cells #[.slice na r.name.length nc, .int .i64 r.type, .int .i64 r.ttl, .int .i64 r.addr, .slice ta r.to.length tc, .slice xa r.text.length xc, .slice ia r.nums.length ic] 105))
 have H0 := hide (h.below b0)
 have HN := implNameOk_has (h.below b0).name
 unfold bareOk
 clear h
 cases hn : nameOk r.name with
 | false =>
  rw [hn] at HN
  replace HN := hide HN
  clear hn
  rw [Bool.false_and]
  go_enter Tryz.func133, Tryz.ntmps133
  go_wp2_with fail
  refine (unhide HN).mono ?_
  rintro e w1 ⟨rfl, b1⟩
  go_wp2_with fail
  go_ret
  exact ⟨rfl, below_next b0 b1⟩
 | true =>
  rw [hn] at HN
  replace HN := hide HN
  clear hn
  rw [Bool.true_and]
  generalize hRes : (asked r.type && (decide (r.ttl = 0) && emptyOk r)) = Res
  have HRES := hide hRes
  clear hRes
  go_enter Tryz.func133, Tryz.ntmps133
  go_wp2_with fail
  generalize w.alloc (.cells #[.slice na r.name.length nc, .int .i64 r.type, .int .i64 r.ttl, .int .i64 r.addr, .slice ta r.to.length tc, .slice xa r.text.length xc, .slice ia r.nums.length ic] 105) = W at *
  refine (unhide HN).mono ?_
  rintro e w1 ⟨rfl, b1⟩
  have K1 := hide (block_kept b1 (unhide K0))
  have bb1 := below_next b0 b1
  clear HN K0 H0 b0 b1
  obtain ⟨d0, d1, d2, d3, d4, d5, d6⟩ := cells7 (unhide K1)
  go_wp2_with fail
  have HA := askable_any r.type w1
  cases ha : asked r.type with
  | false =>
   rw [ha] at HA
   have hRes := unhide HRES
   rw [ha, Bool.false_and] at hRes
   subst hRes
   refine HA.mono ?_
   rintro e w2 ⟨rfl, rfl⟩
   clear ha HRES
   go_wp2_with fail
   go_ret
   exact ⟨rfl, bb1⟩
  | true =>
   rw [ha] at HA
   have hRes := unhide HRES
   rw [ha, Bool.true_and] at hRes
   have HRES := hide hRes
   clear hRes
   refine HA.mono ?_
   rintro e w2 ⟨rfl, rfl⟩
   clear ha HA
   by_cases ht : r.ttl = 0
   ·have ht' : (r.ttl == 0) = true := by rw [beq_iff_eq]; exact ht
    have hRes := unhide HRES
    rw [decide_eq_true ht, Bool.true_and] at hRes
    unfold emptyOk at hRes
    have HRES := hide hRes
    clear ht hRes
    go_wp2_with fail
    refine nothingElse_any.mono ?_
    rintro e w3 ⟨he, b3⟩
    rw [unhide HRES] at he
    subst he
    go_wp2_with fail
    go_ret
    exact ⟨rfl, below_next bb1 b3⟩
   ·have ht' : (r.ttl == 0) = false := by rw [beq_eq_false_iff_ne]; exact ht
    have hRes := unhide HRES
    rw [decide_eq_false ht, Bool.false_and] at hRes
    subst hRes
    clear ht HRES
    go_wp2_with fail
    go_ret
    exact ⟨rfl, bb1⟩

set_option maxHeartbeats 1000000 in
set_option maxRecDepth 100000 in
theorem implWantOk_bareNo {vn vt vx vi : Value} {r : Rec} {c : Int} {w : World} (h : HasR w vn vt vx vi r) (h1 : (c == 254) = false) (h2 : (c == 255) = false) :
  Calls Tryz.prog 123 #[.agg #[vn, .int .i64 r.type, .int .i64 r.ttl, .int .i64 r.addr, vt, vx, vi, .int .i64 c, .bool true]] w fun e w' => e = .returned (.bool (false)) ∧ Below w.heap.size w w' := by
 obtain ⟨na, nc, rfl, _⟩ := h.name.form
 obtain ⟨ta, tc, rfl, _⟩ := h.to.form
 obtain ⟨xa, xc, rfl, _⟩ := h.text.form
 obtain ⟨ia, ic, rfl, _⟩ := h.nums.form
 have b0 := below_alloc (w := w) (.cells #[.slice na r.name.length nc, .int .i64 r.type, .int .i64 r.ttl, .int .i64 r.addr, .slice ta r.to.length tc, .slice xa r.text.length xc, .slice ia r.nums.length ic, .int .i64 c, .bool true] 107)
 have K0 := hide (heap_alloc_new w (.cells #[.slice na r.name.length nc, .int .i64 r.type, .int .i64 r.ttl, .int .i64 r.addr, .slice ta r.to.length tc, .slice xa r.text.length xc, .slice ia r.nums.length ic, .int .i64 c, .bool true] 107))
 clear h
 obtain ⟨d0, d1, d2, d3, d4, d5, d6, d7, d8⟩ := cells9 (unhide K0)
 go_enter Tryz.func123, Tryz.ntmps123
 go_wp2_with fail
 go_ret
 exact ⟨rfl, b0⟩

set_option maxHeartbeats 1000000 in
set_option maxRecDepth 100000 in
theorem implWantOk_bare254 {vn vt vx vi : Value} {r : Rec} {w : World} (h : HasR w vn vt vx vi r) :
  Calls Tryz.prog 123 #[.agg #[vn, .int .i64 r.type, .int .i64 r.ttl, .int .i64 r.addr, vt, vx, vi, .int .i64 254, .bool true]] w fun e w' => e = .returned (.bool (bareOk r)) ∧ Below w.heap.size w w' := by
 obtain ⟨na, nc, rfl, _⟩ := h.name.form
 obtain ⟨ta, tc, rfl, _⟩ := h.to.form
 obtain ⟨xa, xc, rfl, _⟩ := h.text.form
 obtain ⟨ia, ic, rfl, _⟩ := h.nums.form
 have b0 := below_alloc (w := w) (.cells #[.slice na r.name.length nc, .int .i64 r.type, .int .i64 r.ttl, .int .i64 r.addr, .slice ta r.to.length tc, .slice xa r.text.length xc, .slice ia r.nums.length ic, .int .i64 254, .bool true] 107)
 have K0 := hide (heap_alloc_new w (.cells #[.slice na r.name.length nc, .int .i64 r.type, .int .i64 r.ttl, .int .i64 r.addr, .slice ta r.to.length tc, .slice xa r.text.length xc, .slice ia r.nums.length ic, .int .i64 254, .bool true] 107))
 have HB := hide (implBareOk_has (h.below b0))
 clear h
 obtain ⟨d0, d1, d2, d3, d4, d5, d6, d7, d8⟩ := cells9 (unhide K0)
 go_enter Tryz.func123, Tryz.ntmps123
 go_wp2_with fail
 refine (unhide HB).mono ?_
 rintro e w1 ⟨rfl, b1⟩
 go_wp2_with fail
 go_ret
 exact ⟨rfl, below_next b0 b1⟩

set_option maxHeartbeats 1000000 in
set_option maxRecDepth 100000 in
theorem implWantOk_bare255 {vn vt vx vi : Value} {r : Rec} {w : World} (h : HasR w vn vt vx vi r) :
  Calls Tryz.prog 123 #[.agg #[vn, .int .i64 r.type, .int .i64 r.ttl, .int .i64 r.addr, vt, vx, vi, .int .i64 255, .bool true]] w fun e w' => e = .returned (.bool (bareOk r)) ∧ Below w.heap.size w w' := by
 obtain ⟨na, nc, rfl, _⟩ := h.name.form
 obtain ⟨ta, tc, rfl, _⟩ := h.to.form
 obtain ⟨xa, xc, rfl, _⟩ := h.text.form
 obtain ⟨ia, ic, rfl, _⟩ := h.nums.form
 have b0 := below_alloc (w := w) (.cells #[.slice na r.name.length nc, .int .i64 r.type, .int .i64 r.ttl, .int .i64 r.addr, .slice ta r.to.length tc, .slice xa r.text.length xc, .slice ia r.nums.length ic, .int .i64 255, .bool true] 107)
 have K0 := hide (heap_alloc_new w (.cells #[.slice na r.name.length nc, .int .i64 r.type, .int .i64 r.ttl, .int .i64 r.addr, .slice ta r.to.length tc, .slice xa r.text.length xc, .slice ia r.nums.length ic, .int .i64 255, .bool true] 107))
 have HB := hide (implBareOk_has (h.below b0))
 clear h
 obtain ⟨d0, d1, d2, d3, d4, d5, d6, d7, d8⟩ := cells9 (unhide K0)
 go_enter Tryz.func123, Tryz.ntmps123
 go_wp2_with fail
 refine (unhide HB).mono ?_
 rintro e w1 ⟨rfl, b1⟩
 go_wp2_with fail
 go_ret
 exact ⟨rfl, below_next b0 b1⟩

set_option maxHeartbeats 1000000 in
set_option maxRecDepth 100000 in
theorem implWantOk_in {vn vt vx vi : Value} {r : Rec} {w : World} (h : HasR w vn vt vx vi r) :
  Calls Tryz.prog 123 #[.agg #[vn, .int .i64 r.type, .int .i64 r.ttl, .int .i64 r.addr, vt, vx, vi, .int .i64 1, .bool false]] w fun e w' => e = .returned (.bool (rrOk r)) ∧ Below w.heap.size w w' := by
 obtain ⟨na, nc, rfl, _⟩ := h.name.form
 obtain ⟨ta, tc, rfl, _⟩ := h.to.form
 obtain ⟨xa, xc, rfl, _⟩ := h.text.form
 obtain ⟨ia, ic, rfl, _⟩ := h.nums.form
 have b0 := below_alloc (w := w) (.cells #[.slice na r.name.length nc, .int .i64 r.type, .int .i64 r.ttl, .int .i64 r.addr, .slice ta r.to.length tc, .slice xa r.text.length xc, .slice ia r.nums.length ic, .int .i64 1, .bool false] 107)
 have K0 := hide (heap_alloc_new w (.cells #[.slice na r.name.length nc, .int .i64 r.type, .int .i64 r.ttl, .int .i64 r.addr, .slice ta r.to.length tc, .slice xa r.text.length xc, .slice ia r.nums.length ic, .int .i64 1, .bool false] 107))
 have HB := hide (implRrOk_has (h.below b0))
 clear h
 obtain ⟨d0, d1, d2, d3, d4, d5, d6, d7, d8⟩ := cells9 (unhide K0)
 go_enter Tryz.func123, Tryz.ntmps123
 go_wp2_with fail
 refine (unhide HB).mono ?_
 rintro e w1 ⟨rfl, b1⟩
 go_wp2_with fail
 go_ret
 exact ⟨rfl, below_next b0 b1⟩

set_option maxHeartbeats 1000000 in
set_option maxRecDepth 100000 in
theorem implWantOk_none {vn vt vx vi : Value} {r : Rec} {w : World} (h : HasR w vn vt vx vi r) :
  Calls Tryz.prog 123 #[.agg #[vn, .int .i64 r.type, .int .i64 r.ttl, .int .i64 r.addr, vt, vx, vi, .int .i64 254, .bool false]] w fun e w' => e = .returned (.bool (rrOk r && decide (r.ttl = 0))) ∧ Below w.heap.size w w' := by
 obtain ⟨na, nc, rfl, _⟩ := h.name.form
 obtain ⟨ta, tc, rfl, _⟩ := h.to.form
 obtain ⟨xa, xc, rfl, _⟩ := h.text.form
 obtain ⟨ia, ic, rfl, _⟩ := h.nums.form
 have b0 := below_alloc (w := w) (.cells #[.slice na r.name.length nc, .int .i64 r.type, .int .i64 r.ttl, .int .i64 r.addr, .slice ta r.to.length tc, .slice xa r.text.length xc, .slice ia r.nums.length ic, .int .i64 254, .bool false] 107)
 have K0 := hide (heap_alloc_new w (.cells #[.slice na r.name.length nc, .int .i64 r.type, .int .i64 r.ttl, .int .i64 r.addr, .slice ta r.to.length tc, .slice xa r.text.length xc, .slice ia r.nums.length ic, .int .i64 254, .bool false] 107))
 have HB := implRrOk_has (h.below b0)
 clear h
 obtain ⟨d0, d1, d2, d3, d4, d5, d6, d7, d8⟩ := cells9 (unhide K0)
 cases hr : rrOk r with
 | false =>
  rw [hr] at HB
  replace HB := hide HB
  rw [Bool.false_and]
  clear hr
  go_enter Tryz.func123, Tryz.ntmps123
  go_wp2_with fail
  refine (unhide HB).mono ?_
  rintro e w1 ⟨rfl, b1⟩
  go_wp2_with fail
  go_ret
  exact ⟨rfl, below_next b0 b1⟩
 | true =>
  rw [hr] at HB
  replace HB := hide HB
  rw [Bool.true_and]
  clear hr d0 d1 d2 d3 d4 d5 d6 d7 d8
  by_cases ht : r.ttl = 0
  ·rw [decide_eq_true ht]
   have ht' : (r.ttl == 0) = true := by rw [beq_iff_eq]; exact ht
   clear ht
   obtain ⟨d0, d1, d2, d3, d4, d5, d6, d7, d8⟩ := cells9 (unhide K0)
   go_enter Tryz.func123, Tryz.ntmps123
   go_wp2_with fail
   generalize w.alloc (.cells #[.slice na r.name.length nc, .int .i64 r.type, .int .i64 r.ttl, .int .i64 r.addr, .slice ta r.to.length tc, .slice xa r.text.length xc, .slice ia r.nums.length ic, .int .i64 254, .bool false] 107) = W at *
   refine (unhide HB).mono ?_
   rintro e w1 ⟨rfl, b1⟩
   clear d0 d1 d2 d3 d4 d5 d6 d7 d8
   obtain ⟨d0, d1, d2, d3, d4, d5, d6, d7, d8⟩ := cells9 (block_kept b1 (unhide K0))
   go_wp2_with fail
   go_ret
   exact ⟨rfl, below_next b0 b1⟩
  ·rw [decide_eq_false ht]
   have ht' : (r.ttl == 0) = false := by rw [beq_eq_false_iff_ne]; exact ht
   clear ht
   obtain ⟨d0, d1, d2, d3, d4, d5, d6, d7, d8⟩ := cells9 (unhide K0)
   go_enter Tryz.func123, Tryz.ntmps123
   go_wp2_with fail
   generalize w.alloc (.cells #[.slice na r.name.length nc, .int .i64 r.type, .int .i64 r.ttl, .int .i64 r.addr, .slice ta r.to.length tc, .slice xa r.text.length xc, .slice ia r.nums.length ic, .int .i64 254, .bool false] 107) = W at *
   refine (unhide HB).mono ?_
   rintro e w1 ⟨rfl, b1⟩
   clear d0 d1 d2 d3 d4 d5 d6 d7 d8
   obtain ⟨d0, d1, d2, d3, d4, d5, d6, d7, d8⟩ := cells9 (block_kept b1 (unhide K0))
   go_wp2_with fail
   go_ret
   exact ⟨rfl, below_next b0 b1⟩

set_option maxHeartbeats 1000000 in
set_option maxRecDepth 100000 in
theorem implWantOk_no {vn vt vx vi : Value} {r : Rec} {c : Int} {w : World} (h : HasR w vn vt vx vi r) (h1 : (c == 1) = false) (h2 : (c == 254) = false) :
  Calls Tryz.prog 123 #[.agg #[vn, .int .i64 r.type, .int .i64 r.ttl, .int .i64 r.addr, vt, vx, vi, .int .i64 c, .bool false]] w fun e w' => e = .returned (.bool (false)) ∧ Below w.heap.size w w' := by
 obtain ⟨na, nc, rfl, _⟩ := h.name.form
 obtain ⟨ta, tc, rfl, _⟩ := h.to.form
 obtain ⟨xa, xc, rfl, _⟩ := h.text.form
 obtain ⟨ia, ic, rfl, _⟩ := h.nums.form
 have b0 := below_alloc (w := w) (.cells #[.slice na r.name.length nc, .int .i64 r.type, .int .i64 r.ttl, .int .i64 r.addr, .slice ta r.to.length tc, .slice xa r.text.length xc, .slice ia r.nums.length ic, .int .i64 c, .bool false] 107)
 have K0 := hide (heap_alloc_new w (.cells #[.slice na r.name.length nc, .int .i64 r.type, .int .i64 r.ttl, .int .i64 r.addr, .slice ta r.to.length tc, .slice xa r.text.length xc, .slice ia r.nums.length ic, .int .i64 c, .bool false] 107))
 clear h
 obtain ⟨d0, d1, d2, d3, d4, d5, d6, d7, d8⟩ := cells9 (unhide K0)
 go_enter Tryz.func123, Tryz.ntmps123
 go_wp2_with fail
 go_ret
 exact ⟨rfl, b0⟩

theorem implWantOk_has {vn vt vx vi : Value} {r : Rec} (c : Int) (b : Bool) {w : World} (h : HasR w vn vt vx vi r) :
  Calls Tryz.prog 123 #[.agg #[vn, .int .i64 r.type, .int .i64 r.ttl, .int .i64 r.addr, vt, vx, vi, .int .i64 c, .bool b]] w fun e w' => e = .returned (.bool (wantOk r c b)) ∧ Below w.heap.size w w' := by
 unfold wantOk
 cases b with
 | true =>
  rw [if_pos rfl]
  by_cases h1 : c = 254
  ·subst h1; rw [decide_eq_true (.inl rfl), Bool.true_and]; exact implWantOk_bare254 h
  by_cases h2 : c = 255
  ·subst h2; rw [decide_eq_true (.inr rfl), Bool.true_and]; exact implWantOk_bare255 h
  ·rw [decide_eq_false (by omega), Bool.false_and]; exact implWantOk_bareNo h (by rw [beq_eq_false_iff_ne]; exact h1) (by rw [beq_eq_false_iff_ne]; exact h2)
 | false =>
  rw [if_neg (by simp)]
  by_cases h1 : c = 1
  ·subst h1; rw [if_pos rfl]; exact implWantOk_in h
  by_cases h2 : c = 254
  ·subst h2; rw [if_neg (by omega), if_pos rfl]; exact implWantOk_none h
  ·rw [if_neg h1, if_neg h2]; exact implWantOk_no h (by rw [beq_eq_false_iff_ne]; exact h1) (by rw [beq_eq_false_iff_ne]; exact h2)
end Go.Proofs.YtfbfakdkemlbmaaGreat

namespace Go.Proofs.YtfbfakdkemlbmaaGreat
open Go.RowKit
set_option linter.unusedVariables false

set_option maxHeartbeats 1000000 in
set_option maxRecDepth 100000 in
theorem questionsOk_has {v : Value} {l : List Que} {w : World} (h : HasQs w v l) :
  Calls Tryz.prog 111 #[v] w fun e w' => e = .returned (.bool (queOk l)) ∧ Below w.heap.size w w' := by
 obtain ⟨a, cap, rfl, hl, hm⟩ := h.form
 unfold queOk
 by_cases h1 : l.length = 1
 ·obtain ⟨b, off, vs, rfl, hbl, hc, vn, rfl, hu⟩ := h.here (k := 0) (by omega)
  rw [decide_eq_true h1, Bool.true_and]
  simp only [Nat.zero_mul, Nat.add_zero] at hc
  have HN := implNameOk_has hu
  generalize l.getD 0 queZ = q at *
  obtain ⟨na, nc, rfl, _⟩ := hu.form
  obtain ⟨c0, c1⟩ := range2 hc
  have HC := hide hc
  clear hu hm hc
  generalize l.length = m at *
  subst h1
  cases hn : nameOk q.name with
  | false =>
   rw [hn] at HN
   replace HN := hide HN
   rw [Bool.false_and]
   go_enter Tryz.func111, Tryz.ntmps111
   go_wp2_with fail
   refine (unhide HN).mono ?_
   rintro e w1 ⟨rfl, b1⟩
   clear c0 c1
   go_wp2_with fail
   go_ret
   exact ⟨rfl, b1⟩
  | true =>
   rw [hn] at HN
   replace HN := hide HN
   rw [Bool.true_and]
   have HA := fun w => askable_any q.type w
   generalize asked q.type = A at *
   replace HA := hide HA
   go_enter Tryz.func111, Tryz.ntmps111
   go_wp2_with fail
   refine (unhide HN).mono ?_
   rintro e w1 ⟨rfl, b1⟩
   clear c0 c1
   obtain ⟨c0, c1⟩ := range2 (range_below (unhide HC) hbl b1)
   go_wp2_with fail
   refine (unhide HA _).mono ?_
   rintro e w2 ⟨rfl, rfl⟩
   go_wp2_with fail
   go_ret
   exact ⟨rfl, b1⟩
 ·rw [decide_eq_false h1, Bool.false_and]
  clear h
  unfold maxLen at hm
  generalize l.length = m at *
  have h2 : ((m : Int) == 1) = false := by rw [beq_eq_false_iff_ne]; omega
  clear h1
  go_enter Tryz.func111, Tryz.ntmps111
  go_wp2_with fail
  go_ret
  exact ⟨rfl, Below.refl _ _⟩
end Go.Proofs.YtfbfakdkemlbmaaGreat

namespace Go.Proofs.YtfbfakdkemlbmaaGreat
open Go.RowKit
set_option linter.unusedVariables false

set_option maxHeartbeats 1000000 in
set_option maxRecDepth 100000 in
theorem opOk_has {vq va vb vm vp vu : Value} {m : Mg} {w : World} (h : HasM w vq va vb vm vp vu m) (h1 : m.qs.length = 1) :
  Calls Tryz.prog 112 #[.agg #[.int .i64 m.id, .bool m.reply, .int .i64 m.op, .bool m.auth, .int .i64 m.code, vq, va, vb, vm, vp, vu]] w fun e w' => e = .returned (.bool (opOk m)) ∧ Below w.heap.size w w' := by
 obtain ⟨xq, yq, rfl, _, zq⟩ := h.qs.form
 obtain ⟨xa, ya, rfl, _, za⟩ := h.ans.form
 obtain ⟨xb, yb, rfl, _, zb⟩ := h.aus.form
 obtain ⟨xm, ym, rfl, _, zm⟩ := h.more.form
 obtain ⟨xp, yp, rfl, _, zp⟩ := h.pres.form
 obtain ⟨xu, yu, rfl, _, zu⟩ := h.ups.form
 have b0 := below_alloc (w := w) (.cells #[.int .i64 m.id, .bool m.reply, .int .i64 m.op, .bool m.auth, .int .i64 m.code, .slice xq m.qs.length yq, .slice xa m.ans.length ya, .slice xb m.aus.length yb, .slice xm m.more.length ym, .slice xp m.pres.length yp, .slice xu m.ups.length yu] 37)
 have KK := hide (heap_alloc_new w (.cells #[.int .i64 m.id, .bool m.reply, .int .i64 m.op, .bool m.auth, .int .i64 m.code, .slice xq m.qs.length yq, .slice xa m.ans.length ya, .slice xb m.aus.length yb, .slice xm m.more.length ym, .slice xp m.pres.length yp, .slice xu m.ups.length yu] 37))
 obtain ⟨d0, d1, d2, d3, d4, d5, d6, d7, d8, d9, d10⟩ := cells11 (unhide KK)
 obtain ⟨b, off, vs, rfl, hbl, hc, vn, rfl, hu⟩ := h.qs.here (k := 0) (by omega)
 simp only [Nat.zero_mul, Nat.add_zero] at hc
 obtain ⟨c0, c1⟩ := range2 (range_below hc hbl b0)
 unfold opOk que1
 unfold maxLen at *
 generalize (m.qs.getD 0 queZ).type = T at *
 have hqs : 0 < m.qs.length := by omega
 generalize m.ans.length = n_ans at *
 generalize m.aus.length = n_aus at *
 generalize m.more.length = n_more at *
 generalize m.pres.length = n_pres at *
 generalize m.ups.length = n_ups at *
 clear h hu hc h1
 by_cases h0 : m.op = 0
 ·rw [if_pos h0]
  have o0 : (m.op == 0) = true := by rw [beq_iff_eq]; exact h0
  generalize m.op = O at *
  clear h0
  by_cases e_pres : n_pres = 0
  ·rw [decide_eq_true e_pres]
   subst e_pres
   by_cases e_ups : n_ups = 0
   ·rw [decide_eq_true e_ups]
    subst e_ups
    show Calls Tryz.prog _ _ w (fun e w' => e = .returned (.bool true) ∧ Below w.heap.size w w')
    go_enter Tryz.func112, Tryz.ntmps112
    go_wp2_with fail
    go_ret
    exact ⟨rfl, b0⟩
   ·rw [decide_eq_false e_ups]
    have q_ups : ((n_ups : Int) == 0) = false := by rw [beq_eq_false_iff_ne]; omega
    clear e_ups
    show Calls Tryz.prog _ _ w (fun e w' => e = .returned (.bool false) ∧ Below w.heap.size w w')
    go_enter Tryz.func112, Tryz.ntmps112
    go_wp2_with fail
    go_ret
    exact ⟨rfl, b0⟩
  ·rw [decide_eq_false e_pres]
   have q_pres : ((n_pres : Int) == 0) = false := by rw [beq_eq_false_iff_ne]; omega
   clear e_pres
   show Calls Tryz.prog _ _ w (fun e w' => e = .returned (.bool false) ∧ Below w.heap.size w w')
   go_enter Tryz.func112, Tryz.ntmps112
   go_wp2_with fail
   go_ret
   exact ⟨rfl, b0⟩
 ·rw [if_neg h0]
  have o0 : (m.op == 0) = false := by rw [beq_eq_false_iff_ne]; exact h0
  by_cases h5 : m.op = 5
  ·rw [if_pos h5]
   have o5 : (m.op == 5) = true := by rw [beq_iff_eq]; exact h5
   generalize m.op = O at *
   clear h0 h5
   by_cases e_T : T = 6
   ·rw [decide_eq_true e_T]
    subst e_T
    by_cases e_ans : n_ans = 0
    ·rw [decide_eq_true e_ans]
     subst e_ans
     by_cases e_aus : n_aus = 0
     ·rw [decide_eq_true e_aus]
      subst e_aus
      by_cases e_more : n_more = 0
      ·rw [decide_eq_true e_more]
       subst e_more
       show Calls Tryz.prog _ _ w (fun e w' => e = .returned (.bool true) ∧ Below w.heap.size w w')
       go_enter Tryz.func112, Tryz.ntmps112
       go_wp2_with fail
       go_ret
       exact ⟨rfl, b0⟩
      ·rw [decide_eq_false e_more]
       have q_more : ((n_more : Int) == 0) = false := by rw [beq_eq_false_iff_ne]; omega
       clear e_more
       show Calls Tryz.prog _ _ w (fun e w' => e = .returned (.bool false) ∧ Below w.heap.size w w')
       go_enter Tryz.func112, Tryz.ntmps112
       go_wp2_with fail
       go_ret
       exact ⟨rfl, b0⟩
     ·rw [decide_eq_false e_aus]
      have q_aus : ((n_aus : Int) == 0) = false := by rw [beq_eq_false_iff_ne]; omega
      clear e_aus
      show Calls Tryz.prog _ _ w (fun e w' => e = .returned (.bool false) ∧ Below w.heap.size w w')
      go_enter Tryz.func112, Tryz.ntmps112
      go_wp2_with fail
      go_ret
      exact ⟨rfl, b0⟩
    ·rw [decide_eq_false e_ans]
     have q_ans : ((n_ans : Int) == 0) = false := by rw [beq_eq_false_iff_ne]; omega
     clear e_ans
     show Calls Tryz.prog _ _ w (fun e w' => e = .returned (.bool false) ∧ Below w.heap.size w w')
     go_enter Tryz.func112, Tryz.ntmps112
     go_wp2_with fail
     go_ret
     exact ⟨rfl, b0⟩
   ·rw [decide_eq_false e_T]
    have q_T : (T == 6) = false := by rw [beq_eq_false_iff_ne]; omega
    clear e_T
    show Calls Tryz.prog _ _ w (fun e w' => e = .returned (.bool false) ∧ Below w.heap.size w w')
    go_enter Tryz.func112, Tryz.ntmps112
    go_wp2_with fail
    go_ret
    exact ⟨rfl, b0⟩
  ·rw [if_neg h5]
   have o5 : (m.op == 5) = false := by rw [beq_eq_false_iff_ne]; exact h5
   generalize m.op = O at *
   clear h0 h5
   go_enter Tryz.func112, Tryz.ntmps112
   go_wp2_with fail
   go_ret
   exact ⟨rfl, b0⟩

set_option maxHeartbeats 1000000 in
set_option maxRecDepth 100000 in
theorem listOkWant_has {v : Value} {l : List Wnt} {w : World} (h : HasWs w v l) :
  Calls Tryz.prog 122 #[v, .func (Fn.func 123) #[] #[]] w fun e w' => e = .returned (.bool (wntsOk l)) ∧ Below w.heap.size w w' := by
 obtain ⟨a, cap, rfl, hl, hm⟩ := h.form
 unfold wntsOk maxLen at *
 have HA := hide (all_of (p := wntOk) l wntZ)
 have HB := hide (fun k (hk : k < l.length) (hp : wntOk (l.getD k wntZ) = false) => all_not (p := wntOk) l wntZ hk hp)
 by_cases h12 : l.length ≤ 12
 ·rw [decide_eq_true h12, Bool.true_and]
  generalize l.all wntOk = R at *
  generalize hn : l.length = m at *
  have HN := hide hn
  have H := hide h
  clear hn h
  go_enter Tryz.func122, Tryz.ntmps122
  go_wp2
  go_loopw [12] (fun i wr => ∃ k : Nat, k ≤ m ∧ i = .int .i64 k ∧ Hid (∀ j, j < k → wntOk (l.getD j wntZ) = true) ∧ Below w.heap.size w wr) (fun i _ => m - (intOf i).toNat)
  case atStart => exact ⟨0, Nat.zero_le _, rfl, hide (fun j hj => absurd hj (Nat.not_lt_zero _)), Below.refl _ _⟩
  case round =>
   obtain ⟨k, hk, rfl, hall, hb⟩ := hrel
   by_cases hlt : k < m
   ·obtain ⟨b, off, vs, rfl, hbl, hc, vn, vt, vx, vi, rfl, hu⟩ := (keptWs (unhide H) hb).here (k := k) (by rw [unhide HN]; exact hlt)
    have hbk := unhide HB k hlt
    have HBK := hide hbk
    have hone := hide (fun (hs : wntOk (l.getD k wntZ) = true) => (show ∀ j, j < k + 1 → wntOk (l.getD j wntZ) = true from fun j hj => by
      by_cases e : j = k
      ·subst e; exact hs
      ·exact unhide hall j (by omega)))
    clear hbk
    generalize l.getD k wntZ = rk at *
    obtain ⟨na, nc, rfl, _⟩ := hu.name.form
    obtain ⟨ta, tc, rfl, _⟩ := hu.to.form
    obtain ⟨xa, xc, rfl, _⟩ := hu.text.form
    obtain ⟨ia, ic, rfl, _⟩ := hu.nums.form
    have bA := fun o => below_alloc (w := wr) o
    have HC := hide (fun o => implWantOk_has rk.cls rk.bare (hu.below (below_alloc (w := wr) o)))
    obtain ⟨c0, c1, c2, c3, c4, c5, c6, c7, c8⟩ := range9 hc
    clear hc hu
    cases hp : wntOk rk with
    | true =>
     have HC' := unhide HC
     rw [show wantOk rk.rr rk.cls rk.bare = true from hp] at HC'
     replace HC := hide HC'
     clear HC'
     go_wp2_with fail
     refine (unhide HC _).mono ?_
     rintro e w1 ⟨rfl, b1⟩
     clear c0 c1 c2 c3 c4 c5 c6 c7 c8
     have b2 := below_next (below_next hb (bA _)) b1
     clear b1 bA
     go_wp2_with fail
     exact ⟨⟨k + 1, by omega, by go_num, hide (unhide hone hp), b2⟩, by simp [intOf]; omega⟩
    | false =>
     have HC' := unhide HC
     rw [show wantOk rk.rr rk.cls rk.bare = false from hp] at HC'
     replace HC := hide HC'
     clear HC'
     have hR := unhide HBK hp
     subst hR
     go_wp2_with fail
     refine (unhide HC _).mono ?_
     rintro e w1 ⟨rfl, b1⟩
     clear c0 c1 c2 c3 c4 c5 c6 c7 c8
     have b2 := below_next (below_next hb (bA _)) b1
     clear b1 bA
     go_wp2_with fail
     go_ret
     exact ⟨rfl, b2⟩
   ·obtain rfl : k = m := by omega
    have hR := unhide HA (unhide hall)
    subst hR
    go_wp2
    go_ret
    exact ⟨rfl, hb⟩
 ·rw [decide_eq_false h12, Bool.false_and]
  clear HA HB h
  generalize l.length = m at *
  go_enter Tryz.func122, Tryz.ntmps122
  go_wp2
  go_ret
  exact ⟨rfl, Below.refl _ _⟩
end Go.Proofs.YtfbfakdkemlbmaaGreat
