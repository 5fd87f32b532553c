/-
  Contracts of the program's askable, bareOk and WantOk. Contracts of the program's codeOk, questionsOk, opOk, listOk, listsOk and partsOk.
-/
import Derived.Test.YtnplmeifhebhhaaGreatReplyToG05
import Derived.Test.YtnplmeifhebhhaaGreatReplyToG17
import Derived.Test.YtnplmeifhebhhaaGreatReplyToG14
namespace Go.Proofs.YtnplmeifhebhhaaGreat
open Go.RowKit
set_option linter.unusedVariables false

set_option maxHeartbeats 1000000 in
set_option maxRecDepth 100000 in
theorem implBareOk_has {vn vt vx vi : Value} {r : Rec} {w : World} (h : HasR w vn vt vx vi r) :
  Calls Tryz.prog 129 #[.agg #[vn, .int .i64 r.type, .int .i64 r.ttl, .int .i64 r.addr, vt, vx, vi]] w fun e w' => e = .returned (.bool (bareOk r)) ∧ Below w.heap.size w w' := by
 obtain ⟨na, nc, rfl, _⟩ := h.name.form
 obtain ⟨ta, tc, rfl, _⟩ := h.to.form
 obtain ⟨xa, xc, rfl, _⟩ := h.text.form
 obtain ⟨ia, ic, rfl, _⟩ := h.nums.form
 have b0 := below_alloc (w := w) (.cells #[.slice na r.name.length nc, .int .i64 r.type, .int .i64 r.ttl, .int .i64 r.addr, .slice ta r.to.length tc, .slice xa r.text.length xc, .slice ia r.nums.length ic] 108)
 have K0 := hide (heap_alloc_new w (.cells #[.slice na r.name.length nc, .int .i64 r.type, .int .i64 r.ttl, .int .i64 r.addr, .slice ta r.to.length tc, .slice xa r.text.length xc, .slice ia r.nums.length ic] 108))
 have H0 := hide (h.below b0)
 have HN := implNameOk_has (h.below b0).name
 unfold bareOk
 clear h
 cases hn : nameOk r.name with
 | false =>
  rw [hn] at HN
  replace HN := hide HN
  clear hn
  rw [Bool.false_and]
  go_enter Tryz.func129, Tryz.ntmps129
  go_wp2_with fail
  refine (unhide HN).mono ?_
  rintro e w1 ⟨rfl, b1⟩
  go_wp2_with fail
  go_ret
  exact ⟨rfl, below_next b0 b1⟩
 | true =>
  rw [hn] at HN
  replace HN := hide HN
  clear hn
  rw [Bool.true_and]
  generalize hRes : (asked r.type && (decide (r.ttl = 0) && emptyOk r)) = Res
  have HRES := hide hRes
  clear hRes
  go_enter Tryz.func129, Tryz.ntmps129
  go_wp2_with fail
  generalize w.alloc (.cells #[.slice na r.name.length nc, .int .i64 r.type, .int .i64 r.ttl, .int .i64 r.addr, .slice ta r.to.length tc, .slice xa r.text.length xc, .slice ia r.nums.length ic] 108) = W at *
  refine (unhide HN).mono ?_
  rintro e w1 ⟨rfl, b1⟩
  have K1 := hide (block_kept b1 (unhide K0))
  have bb1 := below_next b0 b1
  clear HN K0 H0 b0 b1
  obtain ⟨d0, d1, d2, d3, d4, d5, d6⟩ := cells7 (unhide K1)
  go_wp2_with fail
  have HA := askable_any r.type w1
  cases ha : asked r.type with
  | false =>
   rw [ha] at HA
   have hRes := unhide HRES
   rw [ha, Bool.false_and] at hRes
   subst hRes
   refine HA.mono ?_
   rintro e w2 ⟨rfl, rfl⟩
   clear ha HRES
   go_wp2_with fail
   go_ret
   exact ⟨rfl, bb1⟩
  | true =>
   rw [ha] at HA
   have hRes := unhide HRES
   rw [ha, Bool.true_and] at hRes
   have HRES := hide hRes
   clear hRes
   refine HA.mono ?_
   rintro e w2 ⟨rfl, rfl⟩
   clear ha HA
   by_cases ht : r.ttl = 0
   ·have ht' : (r.ttl == 0) = true := by rw [beq_iff_eq]; exact ht
    have hRes := unhide HRES
    rw [decide_eq_true ht, Bool.true_and] at hRes
    unfold emptyOk at hRes
    have HRES := hide hRes
    clear ht hRes
    go_wp2_with fail
    refine nothingElse_any.mono ?_
    rintro e w3 ⟨he, b3⟩
    rw [unhide HRES] at he
    subst he
    go_wp2_with fail
    go_ret
    exact ⟨rfl, below_next bb1 b3⟩
   ·have ht' : (r.ttl == 0) = false := by rw [beq_eq_false_iff_ne]; exact ht
    have hRes := unhide HRES
    rw [decide_eq_false ht, Bool.false_and] at hRes
    subst hRes
    clear ht HRES
    go_wp2_with fail
    go_ret
    exact ⟨rfl, bb1⟩

set_option maxHeartbeats 1000000 in
set_option maxRecDepth 100000 in
theorem implWantOk_bareNo {vn vt vx vi : Value} {r : Rec} {c : Int} {w : World} (h : HasR w vn vt vx vi r) (h1 : (c == 254) = false) (h2 : (c == 255) = false) :
  Calls Tryz.prog 114 #[.agg #[vn, .int .i64 r.type, .int .i64 r.ttl, .int .i64 r.addr, vt, vx, vi, .int .i64 c, .bool true]] w fun e w' => e = .returned (.bool (false)) ∧ Below w.heap.size w w' := by
 obtain ⟨na, nc, rfl, _⟩ := h.name.form
 obtain ⟨ta, tc, rfl, _⟩ := h.to.form
 obtain ⟨xa, xc, rfl, _⟩ := h.text.form
 obtain ⟨ia, ic, rfl, _⟩ := h.nums.form
 have b0 := below_alloc (w := w) (.cells #[.slice na r.name.length nc, .int .i64 r.type, .int .i64 r.ttl, .int .i64 r.addr, .slice ta r.to.length tc, .slice xa r.text.length xc, .slice ia r.nums.length ic, .int .i64 c, .bool true] 110)
 have K0 := hide (heap_alloc_new w (.cells #[.slice na r.name.length nc, .int .i64 r.type, .int .i64 r.ttl, .int .i64 r.addr, .slice ta r.to.length tc, .slice xa r.text.length xc, .slice ia r.nums.length ic, .int .i64 c, .bool true] 110))
 clear h
 obtain ⟨d0, d1, d2, d3, d4, d5, d6, d7, d8⟩ := cells9 (unhide K0)
 go_enter Tryz.func114, Tryz.ntmps114
 go_wp2_with fail
 go_ret
 exact ⟨rfl, b0⟩

set_option maxHeartbeats 1000000 in
set_option maxRecDepth 100000 in
theorem implWantOk_bare254 {vn vt vx vi : Value} {r : Rec} {w : World} (h : HasR w vn vt vx vi r) :
  Calls Tryz.prog 114 #[.agg #[vn, .int .i64 r.type, .int .i64 r.ttl, .int .i64 r.addr, vt, vx, vi, .int .i64 254, .bool true]] w fun e w' => e = .returned (.bool (bareOk r)) ∧ Below w.heap.size w w' := by
 obtain ⟨na, nc, rfl, _⟩ := h.name.form
 obtain ⟨ta, tc, rfl, _⟩ := h.to.form
 obtain ⟨xa, xc, rfl, _⟩ := h.text.form
 obtain ⟨ia, ic, rfl, _⟩ := h.nums.form
 have b0 := below_alloc (w := w) (.cells #[.slice na r.name.length nc, .int .i64 r.type, .int .i64 r.ttl, .int .i64 r.addr, .slice ta r.to.length tc, .slice xa r.text.length xc, .slice ia r.nums.length ic, .int .i64 254, .bool true] 110)
 have K0 := hide (heap_alloc_new w (.cells #[.slice na r.name.length nc, .int .i64 r.type, .int .i64 r.ttl, .int .i64 r.addr, .slice ta r.to.length tc, .slice xa r.text.length xc, .slice ia r.nums.length ic, .int .i64 254, .bool true] 110))
 have HB := hide (implBareOk_has (h.below b0))
 clear h
 obtain ⟨d0, d1, d2, d3, d4, d5, d6, d7, d8⟩ := cells9 (unhide K0)
 go_enter Tryz.func114, Tryz.ntmps114
 go_wp2_with fail
 refine (unhide HB).mono ?_
 rintro e w1 ⟨rfl, b1⟩
 go_wp2_with fail
 go_ret
 exact ⟨rfl, below_next b0 b1⟩

set_option maxHeartbeats 1000000 in
set_option maxRecDepth 100000 in
theorem implWantOk_bare255 {vn vt vx vi : Value} {r : Rec} {w : World} (h : HasR w vn vt vx vi r) :
  Calls Tryz.prog 114 #[.agg #[vn, .int .i64 r.type, .int .i64 r.ttl, .int .i64 r.addr, vt, vx, vi, .int .i64 255, .bool true]] w fun e w' => e = .returned (.bool (bareOk r)) ∧ Below w.heap.size w w' := by
 obtain ⟨na, nc, rfl, _⟩ := h.name.form
 obtain ⟨ta, tc, rfl, _⟩ := h.to.form
 obtain ⟨xa, xc, rfl, _⟩ := h.text.form
 obtain ⟨ia, ic, rfl, _⟩ := h.nums.form
 have b0 := below_alloc (w := w) (.cells #[.slice na r.name.length nc, .int .i64 r.type, .int .i64 r.ttl, .int .i64 r.addr, .slice ta r.to.length tc, .slice xa r.text.length xc, .slice ia r.nums.length ic, .int .i64 255, .bool true] 110)
 have K0 := hide (heap_alloc_new w (.cells #[.slice na r.name.length nc, .int .i64 r.type, .int .i64 r.ttl, .int .i64 r.addr, .slice ta r.to.length tc, .slice xa r.text.length xc, .slice ia r.nums.length ic, .int .i64 255, .bool true] 110))
 have HB := hide (implBareOk_has (h.below b0))
 clear h
 obtain ⟨d0, d1, d2, d3, d4, d5, d6, d7, d8⟩ := cells9 (unhide K0)
 go_enter Tryz.func114, Tryz.ntmps114
 go_wp2_with fail
 refine (unhide HB).mono ?_
 rintro e w1 ⟨rfl, b1⟩
 go_wp2_with fail
 go_ret
 exact ⟨rfl, below_next b0 b1⟩

set_option maxHeartbeats 1000000 in
set_option maxRecDepth 100000 in
theorem implWantOk_in {vn vt vx vi : Value} {r : Rec} {w : World} (h : HasR w vn vt vx vi r) :
  Calls Tryz.prog 114 #[.agg #[vn, .int .i64 r.type, .int .i64 r.ttl, .int .i64 r.addr, vt, vx, vi, .int .i64 1, .bool false]] w fun e w' => e = .returned (.bool (rrOk r)) ∧ Below w.heap.size w w' := by
 obtain ⟨na, nc, rfl, _⟩ := h.name.form
 obtain ⟨ta, tc, rfl, _⟩ := h.to.form
 obtain ⟨xa, xc, rfl, _⟩ := h.text.form
 obtain ⟨ia, ic, rfl, _⟩ := h.nums.form
 have b0 := below_alloc (w := w) (.cells #[.slice na r.name.length nc, .int .i64 r.type, .int .i64 r.ttl, .int .i64 r.addr, .slice ta r.to.length tc, .slice xa r.text.length xc, .slice ia r.nums.length ic, .int .i64 1, .bool false] 110)
 have K0 := hide (heap_alloc_new w (.cells #[.slice na r.name.length nc, .int .i64 r.type, .int .i64 r.ttl, .int .i64 r.addr, .slice ta r.to.length tc, .slice xa r.text.length xc, .slice ia r.nums.length ic, .int .i64 1, .bool false] 110))
 have HB := hide (implRrOk_has (h.below b0))
 clear h
 obtain ⟨d0, d1, d2, d3, d4, d5, d6, d7, d8⟩ := cells9 (unhide K0)
 go_enter Tryz.func114, Tryz.ntmps114
 go_wp2_with fail
 refine (unhide HB).mono ?_
 rintro e w1 ⟨rfl, b1⟩
 go_wp2_with fail
 go_ret
 exact ⟨rfl, below_next b0 b1⟩

set_option maxHeartbeats 1000000 in
set_option maxRecDepth 100000 in
theorem implWantOk_none {vn vt vx vi : Value} {r : Rec} {w : World} (h : HasR w vn vt vx vi r) :
  Calls Tryz.prog 114 #[.agg #[vn, .int .i64 r.type, .int .i64 r.ttl, .int .i64 r.addr, vt, vx, vi, .int .i64 254, .bool false]] w fun e w' => e = .returned (.bool (rrOk r && decide (r.ttl = 0))) ∧ Below w.heap.size w w' := by
 obtain ⟨na, nc, rfl, _⟩ := h.name.form
 obtain ⟨ta, tc, rfl, _⟩ := h.to.form
 obtain ⟨xa, xc, rfl, _⟩ := h.text.form
 obtain ⟨ia, ic, rfl, _⟩ := h.nums.form
 have b0 := below_alloc (w := w) (.cells #[.slice na r.name.length nc, .int .i64 r.type, .int .i64 r.ttl, .int .i64 r.addr, .slice ta r.to.length tc, .slice xa r.text.length xc, .slice ia r.nums.length ic, .int .i64 254, .bool false] 110)
 have K0 := hide (heap_alloc_new w (.cells #[.slice na r.name.length nc, .int .i64 r.type, .int .i64 r.ttl, .int .i64 r.addr, .slice ta r.to.length tc, .slice xa r.text.length xc, .slice ia r.nums.length ic, .int .i64 254, .bool false] 110))
 have HB := implRrOk_has (h.below b0)
 clear h
 obtain ⟨d0, d1, d2, d3, d4, d5, d6, d7, d8⟩ := cells9 (unhide K0)
 cases hr : rrOk r with
 | false =>
  rw [hr] at HB
  replace HB := hide HB
  rw [Bool.false_and]
  clear hr
  go_enter Tryz.func114, Tryz.ntmps114
  go_wp2_with fail
  refine (unhide HB).mono ?_
  rintro e w1 ⟨rfl, b1⟩
  go_wp2_with fail
  go_ret
  exact ⟨rfl, below_next b0 b1⟩
 | true =>
  rw [hr] at HB
  replace HB := hide HB
  rw [Bool.true_and]
  clear hr d0 d1 d2 d3 d4 d5 d6 d7 d8
  by_cases ht : r.ttl = 0
  ·rw [decide_eq_true ht]
   have ht' : (r.ttl == 0) = true := by rw [beq_iff_eq]; exact ht
   clear ht
   obtain ⟨d0, d1, d2, d3, d4, d5, d6, d7, d8⟩ := cells9 (unhide K0)
   go_enter Tryz.func114, Tryz.ntmps114
   go_wp2_with fail
   generalize w.alloc (.cells #[.slice na r.name.length nc, .int .i64 r.type, .int .i64 r.ttl, .int .i64 r.addr, .slice ta r.to.length tc, .slice xa r.text.length xc, .slice ia r.nums.length ic, .int .i64 254, .bool false] 110) = W at *
   refine (unhide HB).mono ?_
   rintro e w1 ⟨rfl, b1⟩
   clear d0 d1 d2 d3 d4 d5 d6 d7 d8
   obtain ⟨d0, d1, d2, d3, d4, d5, d6, d7, d8⟩ := cells9 (block_kept b1 (unhide K0))
   go_wp2_with fail
   go_ret
   exact ⟨rfl, below_next b0 b1⟩
  ·rw [decide_eq_false ht]
   have ht' : (r.ttl == 0) = false := by rw [beq_eq_false_iff_ne]; exact ht
   clear ht
   obtain ⟨d0, d1, d2, d3, d4, d5, d6, d7, d8⟩ := cells9 (unhide K0)
   go_enter Tryz.func114, Tryz.ntmps114
   go_wp2_with fail
   generalize w.alloc (.cells #[.slice na r.name.length nc, .int .i64 r.type, .int .i64 r.ttl, .int .i64 r.addr, .slice ta r.to.length tc, .slice xa r.text.length xc, .slice ia r.nums.length ic, .int .i64 254, .bool false] 110) = W at *
   refine (unhide HB).mono ?_
   rintro e w1 ⟨rfl, b1⟩
   clear d0 d1 d2 d3 d4 d5 d6 d7 d8
   obtain ⟨d0, d1, d2, d3, d4, d5, d6, d7, d8⟩ := cells9 (block_kept b1 (unhide K0))
   go_wp2_with fail
   go_ret
   exact ⟨rfl, below_next b0 b1⟩

set_option maxHeartbeats 1000000 in
set_option maxRecDepth 100000 in
theorem implWantOk_no {vn vt vx vi : Value} {r : Rec} {c : Int} {w : World} (h : HasR w vn vt vx vi r) (h1 : (c == 1) = false) (h2 : (c == 254) = false) :
  Calls Tryz.prog 114 #[.agg #[vn, .int .i64 r.type, .int .i64 r.ttl, .int .i64 r.addr, vt, vx, vi, .int .i64 c, .bool false]] w fun e w' => e = .returned (.bool (false)) ∧ Below w.heap.size w w' := by
 obtain ⟨na, nc, rfl, _⟩ := h.name.form
 obtain ⟨ta, tc, rfl, _⟩ := h.to.form
 obtain ⟨xa, xc, rfl, _⟩ := h.text.form
 obtain ⟨ia, ic, rfl, _⟩ := h.nums.form
 have b0 := below_alloc (w := w) (.cells #[.slice na r.name.length nc, .int .i64 r.type, .int .i64 r.ttl, .int .i64 r.addr, .slice ta r.to.length tc, .slice xa r.text.length xc, .slice ia r.nums.length ic, .int .i64 c, .bool false] 110)
 have K0 := hide (heap_alloc_new w (.cells #[.slice na r.name.length nc, .int .i64 r.type, .int .i64 r.ttl, .int .i64 r.addr, .slice ta r.to.length tc, .slice xa r.text.length xc, .slice ia r.nums.length ic, .int .i64 c, .bool false] 110))
 clear h
 obtain ⟨d0, d1, d2, d3, d4, d5, d6, d7, d8⟩ := cells9 (unhide K0)
 go_enter Tryz.func114, Tryz.ntmps114
 go_wp2_with fail
 go_ret
 exact ⟨rfl, b0⟩

theorem implWantOk_has {vn vt vx vi : Value} {r : Rec} (c : Int) (b : Bool) {w : World} (h : HasR w vn vt vx vi r) :
  Calls Tryz.prog 114 #[.agg #[vn, .int .i64 r.type, .int .i64 r.ttl, .int .i64 r.addr, vt, vx, vi, .int .i64 c, .bool b]] w fun e w' => e = .returned (.bool (wantOk r c b)) ∧ Below w.heap.size w w' := by
 unfold wantOk
 cases b with
 | true =>
  rw [if_pos rfl]
  by_cases h1 : c = 254
  ·subst h1; rw [decide_eq_true (.inl rfl), Bool.true_and]; exact implWantOk_bare254 h
  by_cases h2 : c = 255
  ·subst h2; rw [decide_eq_true (.inr rfl), Bool.true_and]; exact implWantOk_bare255 h
  ·rw [decide_eq_false (by omega), Bool.false_and]; exact implWantOk_bareNo h (by rw [beq_eq_false_iff_ne]; exact h1) (by rw [beq_eq_false_iff_ne]; exact h2)
 | false =>
  rw [if_neg (by simp)]
  by_cases h1 : c = 1
  ·subst h1; rw [if_pos rfl]; exact implWantOk_in h
  by_cases h2 : c = 254
  ·subst h2; rw [if_neg (by omega), if_pos rfl]; exact implWantOk_none h
  ·rw [if_neg h1, if_neg h2]; exact implWantOk_no h (by rw [beq_eq_false_iff_ne]; exact h1) (by rw [beq_eq_false_iff_ne]; exact h2)
end Go.Proofs.YtnplmeifhebhhaaGreat

namespace Go.Proofs.YtnplmeifhebhhaaGreat
open Go.RowKit
set_option linter.unusedVariables false

set_option maxHeartbeats 400000 in
set_option maxRecDepth 100000 in
theorem codeOk_any (c : Int) (w : World) : Calls Tryz.prog 50 #[.int .i64 c] w fun e w' => e = .returned (.bool (decide (0 ≤ c ∧ c ≤ 10))) ∧ w = w' := by
 by_cases h0 : 0 ≤ c
 ·by_cases h1 : c ≤ 10
  ·rw [decide_eq_true ⟨h0, h1⟩]
   go_enter Tryz.func50, Tryz.ntmps50
   go_wp2
   go_ret
   exact ⟨rfl, rfl⟩
  ·rw [decide_eq_false (fun h => h1 h.2)]
   go_enter Tryz.func50, Tryz.ntmps50
   go_wp2
   go_ret
   exact ⟨rfl, rfl⟩
 ·rw [decide_eq_false (fun h => h0 h.1)]
  go_enter Tryz.func50, Tryz.ntmps50
  go_wp2
  go_ret
  exact ⟨rfl, rfl⟩

set_option maxHeartbeats 1000000 in
set_option maxRecDepth 100000 in
theorem questionsOk_has {v : Value} {l : List Que} {w : World} (h : HasQs w v l) :
  Calls Tryz.prog 83 #[v] w fun e w' => e = .returned (.bool (queOk l)) ∧ Below w.heap.size w w' := by
 obtain ⟨a, cap, rfl, hl, hm⟩ := h.form
 unfold queOk
 by_cases h1 : l.length = 1
 ·obtain ⟨b, off, vs, rfl, hbl, hc, vn, rfl, hu⟩ := h.here (k := 0) (by omega)
  rw [decide_eq_true h1, Bool.true_and]
  simp only [Nat.zero_mul, Nat.add_zero] at hc
  have HN := implNameOk_has hu
  generalize l.getD 0 queZ = q at *
  obtain ⟨na, nc, rfl, _⟩ := hu.form
  obtain ⟨c0, c1⟩ := range2 hc
  have HC := hide hc
  clear hu hm hc
  generalize l.length = m at *
  subst h1
  cases hn : nameOk q.name with
  | false =>
   rw [hn] at HN
   replace HN := hide HN
   rw [Bool.false_and]
   go_enter Tryz.func83, Tryz.ntmps83
   go_wp2_with fail
   refine (unhide HN).mono ?_
   rintro e w1 ⟨rfl, b1⟩
   clear c0 c1
   go_wp2_with fail
   go_ret
   exact ⟨rfl, b1⟩
  | true =>
   rw [hn] at HN
   replace HN := hide HN
   rw [Bool.true_and]
   have HA := fun w => askable_any q.type w
   generalize asked q.type = A at *
   replace HA := hide HA
   go_enter Tryz.func83, Tryz.ntmps83
   go_wp2_with fail
   refine (unhide HN).mono ?_
   rintro e w1 ⟨rfl, b1⟩
   clear c0 c1
   obtain ⟨c0, c1⟩ := range2 (range_below (unhide HC) hbl b1)
   go_wp2_with fail
   refine (unhide HA _).mono ?_
   rintro e w2 ⟨rfl, rfl⟩
   go_wp2_with fail
   go_ret
   exact ⟨rfl, b1⟩
 ·rw [decide_eq_false h1, Bool.false_and]
  clear h
  unfold maxLen at hm
  generalize l.length = m at *
  have h2 : ((m : Int) == 1) = false := by rw [beq_eq_false_iff_ne]; omega
  clear h1
  go_enter Tryz.func83, Tryz.ntmps83
  go_wp2_with fail
  go_ret
  exact ⟨rfl, Below.refl _ _⟩
end Go.Proofs.YtnplmeifhebhhaaGreat
