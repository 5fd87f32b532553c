/-
  Contracts of the specification's l4asked and WantOk.
-/
import Derived.Test.YtbabmdiklefgcaaGreatDoorFnRepliesG05
import Derived.Test.YtbabmdiklefgcaaGreatDoorFnRepliesG36
import Derived.Test.YtbabmdiklefgcaaGreatDoorFnRepliesG08
import Derived.Test.YtbabmdiklefgcaaGreatDoorFnRepliesG40
namespace Go.Proofs.YtbabmdiklefgcaaGreatDoor
open Go.RowKit
set_option linter.unusedVariables false
set_option maxHeartbeats 1000000
set_option maxRecDepth 100000

theorem specWantOk_othertrue {vn vt vx vi : Value} {r : Rec} {c : Int} {w : World} (h : HasR w vn vt vx vi r) (h1 : (c == 1) = false) (h2 : (c == 254) = false) (h3 : (c == 255) = false) :
  Calls Tryz.prog 63 #[.agg #[vn, .int .i64 r.type, .int .i64 r.ttl, .int .i64 r.addr, vt, vx, vi, .int .i64 c, .bool true]] w fun e w' => e = .returned (.bool (false)) ∧ Below w.heap.size w w' := by
 obtain ⟨na, nc, rfl, _⟩ := h.name.form
 obtain ⟨ta, tc, rfl, _⟩ := h.to.form
 obtain ⟨xa, xc, rfl, _⟩ := h.text.form
 obtain ⟨ia, ic, rfl, _⟩ := h.nums.form
 have b0 := UI (w := w) (.cells #[.slice na r.name.length nc, .int .i64 r.type, .int .i64 r.ttl, .int .i64 r.addr, .slice ta r.to.length tc, .slice xa r.text.length xc, .slice ia r.nums.length ic, .int .i64 c, .bool true] 66)
 have K0 := UC (heap_alloc_new w (.cells #[.slice na r.name.length nc, .int .i64 r.type, .int .i64 r.ttl, .int .i64 r.addr, .slice ta r.to.length tc, .slice xa r.text.length xc, .slice ia r.nums.length ic, .int .i64 c, .bool true] 66))
 have h1' : (c != 1) = true := by rw [bne_iff_ne]; simpa using h1
 have h2' : (c != 254) = true := by rw [bne_iff_ne]; simpa using h2
 have h3' : (c != 255) = true := by rw [bne_iff_ne]; simpa using h3
 clear h
 obtain ⟨d0, d1, d2, d3, d4, d5, d6, d7, d8⟩ := cells9 (UB K0)
 go_enter Tryz.func63, Tryz.ntmps63
 go_wp2_with fail
 go_ret
 exact ⟨rfl, b0⟩

theorem specWantOk_otherfalse {vn vt vx vi : Value} {r : Rec} {c : Int} {w : World} (h : HasR w vn vt vx vi r) (h1 : (c == 1) = false) (h2 : (c == 254) = false) (h3 : (c == 255) = false) :
  Calls Tryz.prog 63 #[.agg #[vn, .int .i64 r.type, .int .i64 r.ttl, .int .i64 r.addr, vt, vx, vi, .int .i64 c, .bool false]] w fun e w' => e = .returned (.bool (false)) ∧ Below w.heap.size w w' := by
 obtain ⟨na, nc, rfl, _⟩ := h.name.form
 obtain ⟨ta, tc, rfl, _⟩ := h.to.form
 obtain ⟨xa, xc, rfl, _⟩ := h.text.form
 obtain ⟨ia, ic, rfl, _⟩ := h.nums.form
 have b0 := UI (w := w) (.cells #[.slice na r.name.length nc, .int .i64 r.type, .int .i64 r.ttl, .int .i64 r.addr, .slice ta r.to.length tc, .slice xa r.text.length xc, .slice ia r.nums.length ic, .int .i64 c, .bool false] 66)
 have K0 := UC (heap_alloc_new w (.cells #[.slice na r.name.length nc, .int .i64 r.type, .int .i64 r.ttl, .int .i64 r.addr, .slice ta r.to.length tc, .slice xa r.text.length xc, .slice ia r.nums.length ic, .int .i64 c, .bool false] 66))
 have h1' : (c != 1) = true := by rw [bne_iff_ne]; simpa using h1
 have h2' : (c != 254) = true := by rw [bne_iff_ne]; simpa using h2
 have h3' : (c != 255) = true := by rw [bne_iff_ne]; simpa using h3
 clear h
 obtain ⟨d0, d1, d2, d3, d4, d5, d6, d7, d8⟩ := cells9 (UB K0)
 go_enter Tryz.func63, Tryz.ntmps63
 go_wp2_with fail
 go_ret
 exact ⟨rfl, b0⟩

theorem specWantOk_bare1 {vn vt vx vi : Value} {r : Rec} {w : World} (h : HasR w vn vt vx vi r) :
  Calls Tryz.prog 63 #[.agg #[vn, .int .i64 r.type, .int .i64 r.ttl, .int .i64 r.addr, vt, vx, vi, .int .i64 1, .bool true]] w fun e w' => e = .returned (.bool (false)) ∧ Below w.heap.size w w' := by
 obtain ⟨na, nc, rfl, _⟩ := h.name.form
 obtain ⟨ta, tc, rfl, _⟩ := h.to.form
 obtain ⟨xa, xc, rfl, _⟩ := h.text.form
 obtain ⟨ia, ic, rfl, _⟩ := h.nums.form
 have b0 := UI (w := w) (.cells #[.slice na r.name.length nc, .int .i64 r.type, .int .i64 r.ttl, .int .i64 r.addr, .slice ta r.to.length tc, .slice xa r.text.length xc, .slice ia r.nums.length ic, .int .i64 1, .bool true] 66)
 have K0 := UC (heap_alloc_new w (.cells #[.slice na r.name.length nc, .int .i64 r.type, .int .i64 r.ttl, .int .i64 r.addr, .slice ta r.to.length tc, .slice xa r.text.length xc, .slice ia r.nums.length ic, .int .i64 1, .bool true] 66))
 have b1 := UI (w := w.alloc (.cells #[.slice na r.name.length nc, .int .i64 r.type, .int .i64 r.ttl, .int .i64 r.addr, .slice ta r.to.length tc, .slice xa r.text.length xc, .slice ia r.nums.length ic, .int .i64 1, .bool true] 66)) (.cells #[.slice na r.name.length nc, .int .i64 r.type, .int .i64 r.ttl, .int .i64 r.addr, .slice ta r.to.length tc, .slice xa r.text.length xc, .slice ia r.nums.length ic] 63)
 clear h
 obtain ⟨d0, d1, d2, d3, d4, d5, d6, d7, d8⟩ := cells9 (UB K0)
 go_enter Tryz.func63, Tryz.ntmps63
 go_wp2_with fail
 go_ret
 exact ⟨rfl, UG b0 b1⟩

theorem specWantOk_in {vn vt vx vi : Value} {r : Rec} {w : World} (h : HasR w vn vt vx vi r) :
  Calls Tryz.prog 63 #[.agg #[vn, .int .i64 r.type, .int .i64 r.ttl, .int .i64 r.addr, vt, vx, vi, .int .i64 1, .bool false]] w fun e w' => e = .returned (.bool (rrOk r)) ∧ Below w.heap.size w w' := by
 obtain ⟨na, nc, rfl, _⟩ := h.name.form
 obtain ⟨ta, tc, rfl, _⟩ := h.to.form
 obtain ⟨xa, xc, rfl, _⟩ := h.text.form
 obtain ⟨ia, ic, rfl, _⟩ := h.nums.form
 have b0 := UI (w := w) (.cells #[.slice na r.name.length nc, .int .i64 r.type, .int .i64 r.ttl, .int .i64 r.addr, .slice ta r.to.length tc, .slice xa r.text.length xc, .slice ia r.nums.length ic, .int .i64 1, .bool false] 66)
 have K0 := UC (heap_alloc_new w (.cells #[.slice na r.name.length nc, .int .i64 r.type, .int .i64 r.ttl, .int .i64 r.addr, .slice ta r.to.length tc, .slice xa r.text.length xc, .slice ia r.nums.length ic, .int .i64 1, .bool false] 66))
 have HB := specRrOk_has (h.below b0)
 clear h
 cases hr : rrOk r with
 | false =>
  rw [hr] at HB
  replace HB := UC HB
  clear hr
  obtain ⟨d0, d1, d2, d3, d4, d5, d6, d7, d8⟩ := cells9 (UB K0)
  go_enter Tryz.func63, Tryz.ntmps63
  go_wp2_with fail
  generalize w.alloc (.cells #[.slice na r.name.length nc, .int .i64 r.type, .int .i64 r.ttl, .int .i64 r.addr, .slice ta r.to.length tc, .slice xa r.text.length xc, .slice ia r.nums.length ic, .int .i64 1, .bool false] 66) = W at *
  refine (UB HB).mono ?_
  rintro e w1 ⟨rfl, b1⟩
  clear d0 d1 d2 d3 d4 d5 d6 d7 d8
  obtain ⟨d0, d1, d2, d3, d4, d5, d6, d7, d8⟩ := cells9 (UE b1 (UB K0))
  go_wp2_with fail
  go_ret
  exact ⟨rfl, UG b0 b1⟩
 | true =>
  rw [hr] at HB
  replace HB := UC HB
  clear hr
  obtain ⟨d0, d1, d2, d3, d4, d5, d6, d7, d8⟩ := cells9 (UB K0)
  go_enter Tryz.func63, Tryz.ntmps63
  go_wp2_with fail
  generalize w.alloc (.cells #[.slice na r.name.length nc, .int .i64 r.type, .int .i64 r.ttl, .int .i64 r.addr, .slice ta r.to.length tc, .slice xa r.text.length xc, .slice ia r.nums.length ic, .int .i64 1, .bool false] 66) = W at *
  refine (UB HB).mono ?_
  rintro e w1 ⟨rfl, b1⟩
  clear d0 d1 d2 d3 d4 d5 d6 d7 d8
  obtain ⟨d0, d1, d2, d3, d4, d5, d6, d7, d8⟩ := cells9 (UE b1 (UB K0))
  go_wp2_with fail
  go_ret
  exact ⟨rfl, UG b0 b1⟩

theorem specWantOk_none {vn vt vx vi : Value} {r : Rec} {w : World} (h : HasR w vn vt vx vi r) :
  Calls Tryz.prog 63 #[.agg #[vn, .int .i64 r.type, .int .i64 r.ttl, .int .i64 r.addr, vt, vx, vi, .int .i64 254, .bool false]] w fun e w' => e = .returned (.bool (rrOk r && decide (r.ttl = 0))) ∧ Below w.heap.size w w' := by
 obtain ⟨na, nc, rfl, _⟩ := h.name.form
 obtain ⟨ta, tc, rfl, _⟩ := h.to.form
 obtain ⟨xa, xc, rfl, _⟩ := h.text.form
 obtain ⟨ia, ic, rfl, _⟩ := h.nums.form
 have b0 := UI (w := w) (.cells #[.slice na r.name.length nc, .int .i64 r.type, .int .i64 r.ttl, .int .i64 r.addr, .slice ta r.to.length tc, .slice xa r.text.length xc, .slice ia r.nums.length ic, .int .i64 254, .bool false] 66)
 have K0 := UC (heap_alloc_new w (.cells #[.slice na r.name.length nc, .int .i64 r.type, .int .i64 r.ttl, .int .i64 r.addr, .slice ta r.to.length tc, .slice xa r.text.length xc, .slice ia r.nums.length ic, .int .i64 254, .bool false] 66))
 have HB := specRrOk_has (h.below b0)
 clear h
 cases hr : rrOk r with
 | false =>
  rw [hr] at HB
  replace HB := UC HB
  clear hr
  rw [Bool.false_and]
  obtain ⟨d0, d1, d2, d3, d4, d5, d6, d7, d8⟩ := cells9 (UB K0)
  go_enter Tryz.func63, Tryz.ntmps63
  go_wp2_with fail
  generalize w.alloc (.cells #[.slice na r.name.length nc, .int .i64 r.type, .int .i64 r.ttl, .int .i64 r.addr, .slice ta r.to.length tc, .slice xa r.text.length xc, .slice ia r.nums.length ic, .int .i64 254, .bool false] 66) = W at *
  refine (UB HB).mono ?_
  rintro e w1 ⟨rfl, b1⟩
  clear d0 d1 d2 d3 d4 d5 d6 d7 d8
  obtain ⟨d0, d1, d2, d3, d4, d5, d6, d7, d8⟩ := cells9 (UE b1 (UB K0))
  go_wp2_with fail
  go_ret
  exact ⟨rfl, UG b0 b1⟩
 | true =>
  rw [hr] at HB
  replace HB := UC HB
  clear hr
  rw [Bool.true_and]
  by_cases ht : r.ttl = 0
  ·rw [decide_eq_true ht]
   have ht' : (r.ttl == 0) = true := by rw [beq_iff_eq]; exact ht
   clear ht
   obtain ⟨d0, d1, d2, d3, d4, d5, d6, d7, d8⟩ := cells9 (UB K0)
   go_enter Tryz.func63, Tryz.ntmps63
   go_wp2_with fail
   generalize w.alloc (.cells #[.slice na r.name.length nc, .int .i64 r.type, .int .i64 r.ttl, .int .i64 r.addr, .slice ta r.to.length tc, .slice xa r.text.length xc, .slice ia r.nums.length ic, .int .i64 254, .bool false] 66) = W at *
   refine (UB HB).mono ?_
   rintro e w1 ⟨rfl, b1⟩
   clear d0 d1 d2 d3 d4 d5 d6 d7 d8
   obtain ⟨d0, d1, d2, d3, d4, d5, d6, d7, d8⟩ := cells9 (UE b1 (UB K0))
   go_wp2_with fail
   go_ret
   exact ⟨rfl, UG b0 b1⟩
  ·rw [decide_eq_false ht]
   have ht' : (r.ttl == 0) = false := by rw [beq_eq_false_iff_ne]; exact ht
   clear ht
   obtain ⟨d0, d1, d2, d3, d4, d5, d6, d7, d8⟩ := cells9 (UB K0)
   go_enter Tryz.func63, Tryz.ntmps63
   go_wp2_with fail
   generalize w.alloc (.cells #[.slice na r.name.length nc, .int .i64 r.type, .int .i64 r.ttl, .int .i64 r.addr, .slice ta r.to.length tc, .slice xa r.text.length xc, .slice ia r.nums.length ic, .int .i64 254, .bool false] 66) = W at *
   refine (UB HB).mono ?_
   rintro e w1 ⟨rfl, b1⟩
   clear d0 d1 d2 d3 d4 d5 d6 d7 d8
   obtain ⟨d0, d1, d2, d3, d4, d5, d6, d7, d8⟩ := cells9 (UE b1 (UB K0))
   go_wp2_with fail
   go_ret
   exact ⟨rfl, UG b0 b1⟩

theorem specWantOk_anyNo {vn vt vx vi : Value} {r : Rec} {w : World} (h : HasR w vn vt vx vi r) :
  Calls Tryz.prog 63 #[.agg #[vn, .int .i64 r.type, .int .i64 r.ttl, .int .i64 r.addr, vt, vx, vi, .int .i64 255, .bool false]] w fun e w' => e = .returned (.bool (false)) ∧ Below w.heap.size w w' := by
 obtain ⟨na, nc, rfl, _⟩ := h.name.form
 obtain ⟨ta, tc, rfl, _⟩ := h.to.form
 obtain ⟨xa, xc, rfl, _⟩ := h.text.form
 obtain ⟨ia, ic, rfl, _⟩ := h.nums.form
 have b0 := UI (w := w) (.cells #[.slice na r.name.length nc, .int .i64 r.type, .int .i64 r.ttl, .int .i64 r.addr, .slice ta r.to.length tc, .slice xa r.text.length xc, .slice ia r.nums.length ic, .int .i64 255, .bool false] 66)
 have K0 := UC (heap_alloc_new w (.cells #[.slice na r.name.length nc, .int .i64 r.type, .int .i64 r.ttl, .int .i64 r.addr, .slice ta r.to.length tc, .slice xa r.text.length xc, .slice ia r.nums.length ic, .int .i64 255, .bool false] 66))
 have HB := specRrOk_has (h.below b0)
 clear h
 cases hr : rrOk r with
 | false =>
  rw [hr] at HB
  replace HB := UC HB
  clear hr
  obtain ⟨d0, d1, d2, d3, d4, d5, d6, d7, d8⟩ := cells9 (UB K0)
  go_enter Tryz.func63, Tryz.ntmps63
  go_wp2_with fail
  generalize w.alloc (.cells #[.slice na r.name.length nc, .int .i64 r.type, .int .i64 r.ttl, .int .i64 r.addr, .slice ta r.to.length tc, .slice xa r.text.length xc, .slice ia r.nums.length ic, .int .i64 255, .bool false] 66) = W at *
  refine (UB HB).mono ?_
  rintro e w1 ⟨rfl, b1⟩
  clear d0 d1 d2 d3 d4 d5 d6 d7 d8
  obtain ⟨d0, d1, d2, d3, d4, d5, d6, d7, d8⟩ := cells9 (UE b1 (UB K0))
  go_wp2_with fail
  go_ret
  exact ⟨rfl, UG b0 b1⟩
 | true =>
  rw [hr] at HB
  replace HB := UC HB
  clear hr
  obtain ⟨d0, d1, d2, d3, d4, d5, d6, d7, d8⟩ := cells9 (UB K0)
  go_enter Tryz.func63, Tryz.ntmps63
  go_wp2_with fail
  generalize w.alloc (.cells #[.slice na r.name.length nc, .int .i64 r.type, .int .i64 r.ttl, .int .i64 r.addr, .slice ta r.to.length tc, .slice xa r.text.length xc, .slice ia r.nums.length ic, .int .i64 255, .bool false] 66) = W at *
  refine (UB HB).mono ?_
  rintro e w1 ⟨rfl, b1⟩
  clear d0 d1 d2 d3 d4 d5 d6 d7 d8
  obtain ⟨d0, d1, d2, d3, d4, d5, d6, d7, d8⟩ := cells9 (UE b1 (UB K0))
  go_wp2_with fail
  go_ret
  exact ⟨rfl, UG b0 b1⟩

theorem specWantOk_bare254 {vn vt vx vi : Value} {r : Rec} {w : World} (h : HasR w vn vt vx vi r) :
  Calls Tryz.prog 63 #[.agg #[vn, .int .i64 r.type, .int .i64 r.ttl, .int .i64 r.addr, vt, vx, vi, .int .i64 254, .bool true]] w fun e w' => e = .returned (.bool (bareOk r)) ∧ Below w.heap.size w w' := by
 obtain ⟨na, nc, rfl, _⟩ := h.name.form
 obtain ⟨ta, tc, rfl, _⟩ := h.to.form
 obtain ⟨xa, xc, rfl, _⟩ := h.text.form
 obtain ⟨ia, ic, rfl, _⟩ := h.nums.form
 have b0 := UI (w := w) (.cells #[.slice na r.name.length nc, .int .i64 r.type, .int .i64 r.ttl, .int .i64 r.addr, .slice ta r.to.length tc, .slice xa r.text.length xc, .slice ia r.nums.length ic, .int .i64 254, .bool true] 66)
 have K0 := UC (heap_alloc_new w (.cells #[.slice na r.name.length nc, .int .i64 r.type, .int .i64 r.ttl, .int .i64 r.addr, .slice ta r.to.length tc, .slice xa r.text.length xc, .slice ia r.nums.length ic, .int .i64 254, .bool true] 66))
 have b1 := UI (w := w.alloc (.cells #[.slice na r.name.length nc, .int .i64 r.type, .int .i64 r.ttl, .int .i64 r.addr, .slice ta r.to.length tc, .slice xa r.text.length xc, .slice ia r.nums.length ic, .int .i64 254, .bool true] 66)) (.cells #[.slice na r.name.length nc, .int .i64 r.type, .int .i64 r.ttl, .int .i64 r.addr, .slice ta r.to.length tc, .slice xa r.text.length xc, .slice ia r.nums.length ic] 63)
 have K1 := UC (UE b1 (UB K0))
 have V1 := UC (heap_alloc_new (w.alloc (.cells #[.slice na r.name.length nc, .int .i64 r.type, .int .i64 r.ttl, .int .i64 r.addr, .slice ta r.to.length tc, .slice xa r.text.length xc, .slice ia r.nums.length ic, .int .i64 254, .bool true] 66)) (.cells #[.slice na r.name.length nc, .int .i64 r.type, .int .i64 r.ttl, .int .i64 r.addr, .slice ta r.to.length tc, .slice xa r.text.length xc, .slice ia r.nums.length ic] 63))
 have bb1 := UG b0 b1
 have HN := VO ((h.below b0).below b1).name
 have esz : (w.alloc (.cells #[.slice na r.name.length nc, .int .i64 r.type, .int .i64 r.ttl, .int .i64 r.addr, .slice ta r.to.length tc, .slice xa r.text.length xc, .slice ia r.nums.length ic, .int .i64 254, .bool true] 66)).heap.size = w.heap.size + 1 := by show (w.heap.push _).size = _; simp
 rw [esz] at V1
 unfold bareOk
 clear h b0 b1 esz
 obtain ⟨d0, d1, d2, d3, d4, d5, d6, d7, d8⟩ := cells9 (UB K0)
 clear K0
 cases hn : nameOk r.name with
 | false =>
  rw [hn] at HN
  replace HN := UC HN
  clear hn
  rw [Bool.false_and]
  go_enter Tryz.func63, Tryz.ntmps63
  go_wp2_with fail
  generalize (w.alloc (.cells #[.slice na r.name.length nc, .int .i64 r.type, .int .i64 r.ttl, .int .i64 r.addr, .slice ta r.to.length tc, .slice xa r.text.length xc, .slice ia r.nums.length ic, .int .i64 254, .bool true] 66)).alloc (.cells #[.slice na r.name.length nc, .int .i64 r.type, .int .i64 r.ttl, .int .i64 r.addr, .slice ta r.to.length tc, .slice xa r.text.length xc, .slice ia r.nums.length ic] 63) = W at *
  refine (UB HN).mono ?_
  rintro e w1 ⟨rfl, b1⟩
  clear d0 d1 d2 d3 d4 d5 d6 d7 d8
  obtain ⟨d0, d1, d2, d3, d4, d5, d6, d7, d8⟩ := cells9 (UE b1 (UB K1))
  obtain ⟨f0, f1, f2, f3, f4, f5, f6⟩ := UJ (UE b1 (UB V1))
  go_wp2_with fail
  go_ret
  exact ⟨rfl, UG bb1 b1⟩
 | true =>
  rw [hn] at HN
  replace HN := UC HN
  clear hn
  rw [Bool.true_and]
  have HA := fun w => l4asked_any r.type w
  cases ha : asked r.type with
  | false =>
   rw [ha] at HA
   replace HA := UC HA
   clear ha
   rw [Bool.false_and]
   go_enter Tryz.func63, Tryz.ntmps63
   go_wp2_with fail
   generalize (w.alloc (.cells #[.slice na r.name.length nc, .int .i64 r.type, .int .i64 r.ttl, .int .i64 r.addr, .slice ta r.to.length tc, .slice xa r.text.length xc, .slice ia r.nums.length ic, .int .i64 254, .bool true] 66)).alloc (.cells #[.slice na r.name.length nc, .int .i64 r.type, .int .i64 r.ttl, .int .i64 r.addr, .slice ta r.to.length tc, .slice xa r.text.length xc, .slice ia r.nums.length ic] 63) = W at *
   refine (UB HN).mono ?_
   rintro e w1 ⟨rfl, b1⟩
   clear d0 d1 d2 d3 d4 d5 d6 d7 d8
   obtain ⟨d0, d1, d2, d3, d4, d5, d6, d7, d8⟩ := cells9 (UE b1 (UB K1))
   obtain ⟨f0, f1, f2, f3, f4, f5, f6⟩ := UJ (UE b1 (UB V1))
   go_wp2_with fail
   refine (UB HA _).mono ?_
   rintro e w2 ⟨rfl, rfl⟩
   go_wp2_with fail
   go_ret
   exact ⟨rfl, UG bb1 b1⟩
  | true =>
   rw [ha] at HA
   replace HA := UC HA
   clear ha
   rw [Bool.true_and]
   unfold emptyOk
   by_cases ht0 : ¬ r.ttl = 0
   ·rw [decide_eq_false ht0, Bool.false_and]
    have g0 : (r.ttl == 0) = false := by rw [beq_eq_false_iff_ne]; omega
    clear ht0
    go_enter Tryz.func63, Tryz.ntmps63
    go_wp2_with fail
    generalize (w.alloc (.cells #[.slice na r.name.length nc, .int .i64 r.type, .int .i64 r.ttl, .int .i64 r.addr, .slice ta r.to.length tc, .slice xa r.text.length xc, .slice ia r.nums.length ic, .int .i64 254, .bool true] 66)).alloc (.cells #[.slice na r.name.length nc, .int .i64 r.type, .int .i64 r.ttl, .int .i64 r.addr, .slice ta r.to.length tc, .slice xa r.text.length xc, .slice ia r.nums.length ic] 63) = W at *
    refine (UB HN).mono ?_
    rintro e w1 ⟨rfl, b1⟩
    clear d0 d1 d2 d3 d4 d5 d6 d7 d8
    obtain ⟨d0, d1, d2, d3, d4, d5, d6, d7, d8⟩ := cells9 (UE b1 (UB K1))
    obtain ⟨f0, f1, f2, f3, f4, f5, f6⟩ := UJ (UE b1 (UB V1))
    go_wp2_with fail
    refine (UB HA _).mono ?_
    rintro e w2 ⟨rfl, rfl⟩
    go_wp2_with fail
    go_ret
    exact ⟨rfl, UG bb1 b1⟩
   replace ht0 : r.ttl = 0 := by omega
   by_cases ht1 : ¬ r.addr = 0
   ·rw [decide_eq_true ht0, Bool.true_and, decide_eq_false (by rintro ⟨p1, p2, p3, p4⟩; first | exact ht1 p1 | exact ht1 p2 | exact ht1 p3 | exact ht1 p4)]
    have g0 : (r.ttl == 0) = true := by rw [beq_iff_eq]; omega
    have g1 : (r.addr == 0) = false := by rw [beq_eq_false_iff_ne]; omega
    clear ht0 ht1
    go_enter Tryz.func63, Tryz.ntmps63
    go_wp2_with fail
    generalize (w.alloc (.cells #[.slice na r.name.length nc, .int .i64 r.type, .int .i64 r.ttl, .int .i64 r.addr, .slice ta r.to.length tc, .slice xa r.text.length xc, .slice ia r.nums.length ic, .int .i64 254, .bool true] 66)).alloc (.cells #[.slice na r.name.length nc, .int .i64 r.type, .int .i64 r.ttl, .int .i64 r.addr, .slice ta r.to.length tc, .slice xa r.text.length xc, .slice ia r.nums.length ic] 63) = W at *
    refine (UB HN).mono ?_
    rintro e w1 ⟨rfl, b1⟩
    clear d0 d1 d2 d3 d4 d5 d6 d7 d8
    obtain ⟨d0, d1, d2, d3, d4, d5, d6, d7, d8⟩ := cells9 (UE b1 (UB K1))
    obtain ⟨f0, f1, f2, f3, f4, f5, f6⟩ := UJ (UE b1 (UB V1))
    go_wp2_with fail
    refine (UB HA _).mono ?_
    rintro e w2 ⟨rfl, rfl⟩
    go_wp2_with fail
    go_ret
    exact ⟨rfl, UG bb1 b1⟩
   replace ht1 : r.addr = 0 := by omega
   by_cases ht2 : ¬ r.to.length = 0
   ·rw [decide_eq_true ht0, Bool.true_and, decide_eq_false (by rintro ⟨p1, p2, p3, p4⟩; first | exact ht2 p1 | exact ht2 p2 | exact ht2 p3 | exact ht2 p4)]
    have g0 : (r.ttl == 0) = true := by rw [beq_iff_eq]; omega
    have g1 : (r.addr == 0) = true := by rw [beq_iff_eq]; omega
    have g2 : ((r.to.length : Int) == 0) = false := by rw [beq_eq_false_iff_ne]; omega
    clear ht0 ht1 ht2
    go_enter Tryz.func63, Tryz.ntmps63
    go_wp2_with fail
    generalize (w.alloc (.cells #[.slice na r.name.length nc, .int .i64 r.type, .int .i64 r.ttl, .int .i64 r.addr, .slice ta r.to.length tc, .slice xa r.text.length xc, .slice ia r.nums.length ic, .int .i64 254, .bool true] 66)).alloc (.cells #[.slice na r.name.length nc, .int .i64 r.type, .int .i64 r.ttl, .int .i64 r.addr, .slice ta r.to.length tc, .slice xa r.text.length xc, .slice ia r.nums.length ic] 63) = W at *
    refine (UB HN).mono ?_
    rintro e w1 ⟨rfl, b1⟩
    clear d0 d1 d2 d3 d4 d5 d6 d7 d8
    obtain ⟨d0, d1, d2, d3, d4, d5, d6, d7, d8⟩ := cells9 (UE b1 (UB K1))
    obtain ⟨f0, f1, f2, f3, f4, f5, f6⟩ := UJ (UE b1 (UB V1))
    go_wp2_with fail
    refine (UB HA _).mono ?_
    rintro e w2 ⟨rfl, rfl⟩
    go_wp2_with fail
    go_ret
    exact ⟨rfl, UG bb1 b1⟩
   replace ht2 : r.to.length = 0 := by omega
   by_cases ht3 : ¬ r.text.length = 0
   ·rw [decide_eq_true ht0, Bool.true_and, decide_eq_false (by rintro ⟨p1, p2, p3, p4⟩; first | exact ht3 p1 | exact ht3 p2 | exact ht3 p3 | exact ht3 p4)]
    have g0 : (r.ttl == 0) = true := by rw [beq_iff_eq]; omega
    have g1 : (r.addr == 0) = true := by rw [beq_iff_eq]; omega
    have g2 : ((r.to.length : Int) == 0) = true := by rw [beq_iff_eq]; omega
    have g3 : ((r.text.length : Int) == 0) = false := by rw [beq_eq_false_iff_ne]; omega
    clear ht0 ht1 ht2 ht3
    go_enter Tryz.func63, Tryz.ntmps63
    go_wp2_with fail
    generalize (w.alloc (.cells #[.slice na r.name.length nc, .int .i64 r.type, .int .i64 r.ttl, .int .i64 r.addr, .slice ta r.to.length tc, .slice xa r.text.length xc, .slice ia r.nums.length ic, .int .i64 254, .bool true] 66)).alloc (.cells #[.slice na r.name.length nc, .int .i64 r.type, .int .i64 r.ttl, .int .i64 r.addr, .slice ta r.to.length tc, .slice xa r.text.length xc, .slice ia r.nums.length ic] 63) = W at *
    refine (UB HN).mono ?_
    rintro e w1 ⟨rfl, b1⟩
    clear d0 d1 d2 d3 d4 d5 d6 d7 d8
    obtain ⟨d0, d1, d2, d3, d4, d5, d6, d7, d8⟩ := cells9 (UE b1 (UB K1))
    obtain ⟨f0, f1, f2, f3, f4, f5, f6⟩ := UJ (UE b1 (UB V1))
    go_wp2_with fail
    refine (UB HA _).mono ?_
    rintro e w2 ⟨rfl, rfl⟩
    go_wp2_with fail
    go_ret
    exact ⟨rfl, UG bb1 b1⟩
   replace ht3 : r.text.length = 0 := by omega
   by_cases ht4 : ¬ r.nums.length = 0
   ·rw [decide_eq_true ht0, Bool.true_and, decide_eq_false (by rintro ⟨p1, p2, p3, p4⟩; first | exact ht4 p1 | exact ht4 p2 | exact ht4 p3 | exact ht4 p4)]
    have g0 : (r.ttl == 0) = true := by rw [beq_iff_eq]; omega
    have g1 : (r.addr == 0) = true := by rw [beq_iff_eq]; omega
    have g2 : ((r.to.length : Int) == 0) = true := by rw [beq_iff_eq]; omega
    have g3 : ((r.text.length : Int) == 0) = true := by rw [beq_iff_eq]; omega
    have g4 : ((r.nums.length : Int) == 0) = false := by rw [beq_eq_false_iff_ne]; omega
    clear ht0 ht1 ht2 ht3 ht4
    go_enter Tryz.func63, Tryz.ntmps63
    go_wp2_with fail
    generalize (w.alloc (.cells #[.slice na r.name.length nc, .int .i64 r.type, .int .i64 r.ttl, .int .i64 r.addr, .slice ta r.to.length tc, .slice xa r.text.length xc, .slice ia r.nums.length ic, .int .i64 254, .bool true] 66)).alloc (.cells #[.slice na r.name.length nc, .int .i64 r.type, .int .i64 r.ttl, .int .i64 r.addr, .slice ta r.to.length tc, .slice xa r.text.length xc, .slice ia r.nums.length ic] 63) = W at *
    refine (UB HN).mono ?_
    rintro e w1 ⟨rfl, b1⟩
    clear d0 d1 d2 d3 d4 d5 d6 d7 d8
    obtain ⟨d0, d1, d2, d3, d4, d5, d6, d7, d8⟩ := cells9 (UE b1 (UB K1))
    obtain ⟨f0, f1, f2, f3, f4, f5, f6⟩ := UJ (UE b1 (UB V1))
    go_wp2_with fail
    refine (UB HA _).mono ?_
    rintro e w2 ⟨rfl, rfl⟩
    go_wp2_with fail
    go_ret
    exact ⟨rfl, UG bb1 b1⟩
   replace ht4 : r.nums.length = 0 := by omega
   rw [decide_eq_true ht0, Bool.true_and, decide_eq_true ⟨ht1, ht2, ht3, ht4⟩]
   have g0 : (r.ttl == 0) = true := by rw [beq_iff_eq]; omega
   have g1 : (r.addr == 0) = true := by rw [beq_iff_eq]; omega
   have g2 : ((r.to.length : Int) == 0) = true := by rw [beq_iff_eq]; omega
   have g3 : ((r.text.length : Int) == 0) = true := by rw [beq_iff_eq]; omega
   have g4 : ((r.nums.length : Int) == 0) = true := by rw [beq_iff_eq]; omega
   clear ht0 ht1 ht2 ht3 ht4
   go_enter Tryz.func63, Tryz.ntmps63
   go_wp2_with fail
   generalize (w.alloc (.cells #[.slice na r.name.length nc, .int .i64 r.type, .int .i64 r.ttl, .int .i64 r.addr, .slice ta r.to.length tc, .slice xa r.text.length xc, .slice ia r.nums.length ic, .int .i64 254, .bool true] 66)).alloc (.cells #[.slice na r.name.length nc, .int .i64 r.type, .int .i64 r.ttl, .int .i64 r.addr, .slice ta r.to.length tc, .slice xa r.text.length xc, .slice ia r.nums.length ic] 63) = W at *
   refine (UB HN).mono ?_
   rintro e w1 ⟨rfl, b1⟩
   clear d0 d1 d2 d3 d4 d5 d6 d7 d8
   obtain ⟨d0, d1, d2, d3, d4, d5, d6, d7, d8⟩ := cells9 (UE b1 (UB K1))
   obtain ⟨f0, f1, f2, f3, f4, f5, f6⟩ := UJ (UE b1 (UB V1))
   go_wp2_with fail
   refine (UB HA _).mono ?_
   rintro e w2 ⟨rfl, rfl⟩
   go_wp2_with fail
   go_ret
   exact ⟨rfl, UG bb1 b1⟩

theorem specWantOk_bare255 {vn vt vx vi : Value} {r : Rec} {w : World} (h : HasR w vn vt vx vi r) :
  Calls Tryz.prog 63 #[.agg #[vn, .int .i64 r.type, .int .i64 r.ttl, .int .i64 r.addr, vt, vx, vi, .int .i64 255, .bool true]] w fun e w' => e = .returned (.bool (bareOk r)) ∧ Below w.heap.size w w' := by
 obtain ⟨na, nc, rfl, _⟩ := h.name.form
 obtain ⟨ta, tc, rfl, _⟩ := h.to.form
 obtain ⟨xa, xc, rfl, _⟩ := h.text.form
 obtain ⟨ia, ic, rfl, _⟩ := h.nums.form
 have b0 := UI (w := w) (.cells #[.slice na r.name.length nc, .int .i64 r.type, .int .i64 r.ttl, .int .i64 r.addr, .slice ta r.to.length tc, .slice xa r.text.length xc, .slice ia r.nums.length ic, .int .i64 255, .bool true] 66)
 have K0 := UC (heap_alloc_new w (.cells #[.slice na r.name.length nc, .int .i64 r.type, .int .i64 r.ttl, .int .i64 r.addr, .slice ta r.to.length tc, .slice xa r.text.length xc, .slice ia r.nums.length ic, .int .i64 255, .bool true] 66))
 have b1 := UI (w := w.alloc (.cells #[.slice na r.name.length nc, .int .i64 r.type, .int .i64 r.ttl, .int .i64 r.addr, .slice ta r.to.length tc, .slice xa r.text.length xc, .slice ia r.nums.length ic, .int .i64 255, .bool true] 66)) (.cells #[.slice na r.name.length nc, .int .i64 r.type, .int .i64 r.ttl, .int .i64 r.addr, .slice ta r.to.length tc, .slice xa r.text.length xc, .slice ia r.nums.length ic] 63)
 have K1 := UC (UE b1 (UB K0))
 have V1 := UC (heap_alloc_new (w.alloc (.cells #[.slice na r.name.length nc, .int .i64 r.type, .int .i64 r.ttl, .int .i64 r.addr, .slice ta r.to.length tc, .slice xa r.text.length xc, .slice ia r.nums.length ic, .int .i64 255, .bool true] 66)) (.cells #[.slice na r.name.length nc, .int .i64 r.type, .int .i64 r.ttl, .int .i64 r.addr, .slice ta r.to.length tc, .slice xa r.text.length xc, .slice ia r.nums.length ic] 63))
 have bb1 := UG b0 b1
 have HN := VO ((h.below b0).below b1).name
 have esz : (w.alloc (.cells #[.slice na r.name.length nc, .int .i64 r.type, .int .i64 r.ttl, .int .i64 r.addr, .slice ta r.to.length tc, .slice xa r.text.length xc, .slice ia r.nums.length ic, .int .i64 255, .bool true] 66)).heap.size = w.heap.size + 1 := by show (w.heap.push _).size = _; simp
 rw [esz] at V1
 unfold bareOk
 clear h b0 b1 esz
 obtain ⟨d0, d1, d2, d3, d4, d5, d6, d7, d8⟩ := cells9 (UB K0)
 clear K0
 cases hn : nameOk r.name with
 | false =>
  rw [hn] at HN
  replace HN := UC HN
  clear hn
  rw [Bool.false_and]
  go_enter Tryz.func63, Tryz.ntmps63
  go_wp2_with fail
  generalize (w.alloc (.cells #[.slice na r.name.length nc, .int .i64 r.type, .int .i64 r.ttl, .int .i64 r.addr, .slice ta r.to.length tc, .slice xa r.text.length xc, .slice ia r.nums.length ic, .int .i64 255, .bool true] 66)).alloc (.cells #[.slice na r.name.length nc, .int .i64 r.type, .int .i64 r.ttl, .int .i64 r.addr, .slice ta r.to.length tc, .slice xa r.text.length xc, .slice ia r.nums.length ic] 63) = W at *
  refine (UB HN).mono ?_
  rintro e w1 ⟨rfl, b1⟩
  clear d0 d1 d2 d3 d4 d5 d6 d7 d8
  obtain ⟨d0, d1, d2, d3, d4, d5, d6, d7, d8⟩ := cells9 (UE b1 (UB K1))
  obtain ⟨f0, f1, f2, f3, f4, f5, f6⟩ := UJ (UE b1 (UB V1))
  go_wp2_with fail
  go_ret
  exact ⟨rfl, UG bb1 b1⟩
 | true =>
  rw [hn] at HN
  replace HN := UC HN
  clear hn
  rw [Bool.true_and]
  have HA := fun w => l4asked_any r.type w
  cases ha : asked r.type with
  | false =>
   rw [ha] at HA
   replace HA := UC HA
   clear ha
   rw [Bool.false_and]
   go_enter Tryz.func63, Tryz.ntmps63
   go_wp2_with fail
   generalize (w.alloc (.cells #[.slice na r.name.length nc, .int .i64 r.type, .int .i64 r.ttl, .int .i64 r.addr, .slice ta r.to.length tc, .slice xa r.text.length xc, .slice ia r.nums.length ic, .int .i64 255, .bool true] 66)).alloc (.cells #[.slice na r.name.length nc, .int .i64 r.type, .int .i64 r.ttl, .int .i64 r.addr, .slice ta r.to.length tc, .slice xa r.text.length xc, .slice ia r.nums.length ic] 63) = W at *
   refine (UB HN).mono ?_
   rintro e w1 ⟨rfl, b1⟩
   clear d0 d1 d2 d3 d4 d5 d6 d7 d8
   obtain ⟨d0, d1, d2, d3, d4, d5, d6, d7, d8⟩ := cells9 (UE b1 (UB K1))
   obtain ⟨f0, f1, f2, f3, f4, f5, f6⟩ := UJ (UE b1 (UB V1))
   go_wp2_with fail
   refine (UB HA _).mono ?_
   rintro e w2 ⟨rfl, rfl⟩
   go_wp2_with fail
   go_ret
   exact ⟨rfl, UG bb1 b1⟩
  | true =>
   rw [ha] at HA
   replace HA := UC HA
   clear ha
   rw [Bool.true_and]
   unfold emptyOk
   by_cases ht0 : ¬ r.ttl = 0
   ·rw [decide_eq_false ht0, Bool.false_and]
    have g0 : (r.ttl == 0) = false := by rw [beq_eq_false_iff_ne]; omega
    clear ht0
    go_enter Tryz.func63, Tryz.ntmps63
    go_wp2_with fail
    generalize (w.alloc (.cells #[.slice na r.name.length nc, .int .i64 r.type, .int .i64 r.ttl, .int .i64 r.addr, .slice ta r.to.length tc, .slice xa r.text.length xc, .slice ia r.nums.length ic, .int .i64 255, .bool true] 66)).alloc (.cells #[.slice na r.name.length nc, .int .i64 r.type, .int .i64 r.ttl, .int .i64 r.addr, .slice ta r.to.length tc, .slice xa r.text.length xc, .slice ia r.nums.length ic] 63) = W at *
    refine (UB HN).mono ?_
    rintro e w1 ⟨rfl, b1⟩
    clear d0 d1 d2 d3 d4 d5 d6 d7 d8
    obtain ⟨d0, d1, d2, d3, d4, d5, d6, d7, d8⟩ := cells9 (UE b1 (UB K1))
    obtain ⟨f0, f1, f2, f3, f4, f5, f6⟩ := UJ (UE b1 (UB V1))
    go_wp2_with fail
    refine (UB HA _).mono ?_
    rintro e w2 ⟨rfl, rfl⟩
    go_wp2_with fail
    go_ret
    exact ⟨rfl, UG bb1 b1⟩
   replace ht0 : r.ttl = 0 := by omega
   by_cases ht1 : ¬ r.addr = 0
   ·rw [decide_eq_true ht0, Bool.true_and, decide_eq_false (by rintro ⟨p1, p2, p3, p4⟩; first | exact ht1 p1 | exact ht1 p2 | exact ht1 p3 | exact ht1 p4)]
    have g0 : (r.ttl == 0) = true := by rw [beq_iff_eq]; omega
    have g1 : (r.addr == 0) = false := by rw [beq_eq_false_iff_ne]; omega
    clear ht0 ht1
    go_enter Tryz.func63, Tryz.ntmps63
    go_wp2_with fail
    generalize (w.alloc (.cells #[.slice na r.name.length nc, .int .i64 r.type, .int .i64 r.ttl, .int .i64 r.addr, .slice ta r.to.length tc, .slice xa r.text.length xc, .slice ia r.nums.length ic, .int .i64 255, .bool true] 66)).alloc (.cells #[.slice na r.name.length nc, .int .i64 r.type, .int .i64 r.ttl, .int .i64 r.addr, .slice ta r.to.length tc, .slice xa r.text.length xc, .slice ia r.nums.length ic] 63) = W at *
    refine (UB HN).mono ?_
    rintro e w1 ⟨rfl, b1⟩
    clear d0 d1 d2 d3 d4 d5 d6 d7 d8
    obtain ⟨d0, d1, d2, d3, d4, d5, d6, d7, d8⟩ := cells9 (UE b1 (UB K1))
    obtain ⟨f0, f1, f2, f3, f4, f5, f6⟩ := UJ (UE b1 (UB V1))
    go_wp2_with fail
    refine (UB HA _).mono ?_
    rintro e w2 ⟨rfl, rfl⟩
    go_wp2_with fail
    go_ret
    exact ⟨rfl, UG bb1 b1⟩
   replace ht1 : r.addr = 0 := by omega
   by_cases ht2 : ¬ r.to.length = 0
   ·rw [decide_eq_true ht0, Bool.true_and, decide_eq_false (by rintro ⟨p1, p2, p3, p4⟩; first | exact ht2 p1 | exact ht2 p2 | exact ht2 p3 | exact ht2 p4)]
    have g0 : (r.ttl == 0) = true := by rw [beq_iff_eq]; omega
    have g1 : (r.addr == 0) = true := by rw [beq_iff_eq]; omega
    have g2 : ((r.to.length : Int) == 0) = false := by rw [beq_eq_false_iff_ne]; omega
    clear ht0 ht1 ht2
    go_enter Tryz.func63, Tryz.ntmps63
    go_wp2_with fail
    generalize (w.alloc (.cells #[.slice na r.name.length nc, .int .i64 r.type, .int .i64 r.ttl, .int .i64 r.addr, .slice ta r.to.length tc, .slice xa r.text.length xc, .slice ia r.nums.length ic, .int .i64 255, .bool true] 66)).alloc (.cells #[.slice na r.name.length nc, .int .i64 r.type, .int .i64 r.ttl, .int .i64 r.addr, .slice ta r.to.length tc, .slice xa r.text.length xc, .slice ia r.nums.length ic] 63) = W at *
    refine (UB HN).mono ?_
    rintro e w1 ⟨rfl, b1⟩
    clear d0 d1 d2 d3 d4 d5 d6 d7 d8
    obtain ⟨d0, d1, d2, d3, d4, d5, d6, d7, d8⟩ := cells9 (UE b1 (UB K1))
    obtain ⟨f0, f1, f2, f3, f4, f5, f6⟩ := UJ (UE b1 (UB V1))
    go_wp2_with fail
    refine (UB HA _).mono ?_
    rintro e w2 ⟨rfl, rfl⟩
    go_wp2_with fail
    go_ret
    exact ⟨rfl, UG bb1 b1⟩
   replace ht2 : r.to.length = 0 := by omega
   by_cases ht3 : ¬ r.text.length = 0
   ·rw [decide_eq_true ht0, Bool.true_and, decide_eq_false (by rintro ⟨p1, p2, p3, p4⟩; first | exact ht3 p1 | exact ht3 p2 | exact ht3 p3 | exact ht3 p4)]
    have g0 : (r.ttl == 0) = true := by rw [beq_iff_eq]; omega
    have g1 : (r.addr == 0) = true := by rw [beq_iff_eq]; omega
    have g2 : ((r.to.length : Int) == 0) = true := by rw [beq_iff_eq]; omega
    have g3 : ((r.text.length : Int) == 0) = false := by rw [beq_eq_false_iff_ne]; omega
    clear ht0 ht1 ht2 ht3
    go_enter Tryz.func63, Tryz.ntmps63
    go_wp2_with fail
    generalize (w.alloc (.cells #[.slice na r.name.length nc, .int .i64 r.type, .int .i64 r.ttl, .int .i64 r.addr, .slice ta r.to.length tc, .slice xa r.text.length xc, .slice ia r.nums.length ic, .int .i64 255, .bool true] 66)).alloc (.cells #[.slice na r.name.length nc, .int .i64 r.type, .int .i64 r.ttl, .int .i64 r.addr, .slice ta r.to.length tc, .slice xa r.text.length xc, .slice ia r.nums.length ic] 63) = W at *
    refine (UB HN).mono ?_
    rintro e w1 ⟨rfl, b1⟩
    clear d0 d1 d2 d3 d4 d5 d6 d7 d8
    obtain ⟨d0, d1, d2, d3, d4, d5, d6, d7, d8⟩ := cells9 (UE b1 (UB K1))
    obtain ⟨f0, f1, f2, f3, f4, f5, f6⟩ := UJ (UE b1 (UB V1))
    go_wp2_with fail
    refine (UB HA _).mono ?_
    rintro e w2 ⟨rfl, rfl⟩
    go_wp2_with fail
    go_ret
    exact ⟨rfl, UG bb1 b1⟩
   replace ht3 : r.text.length = 0 := by omega
   by_cases ht4 : ¬ r.nums.length = 0
   ·rw [decide_eq_true ht0, Bool.true_and, decide_eq_false (by rintro ⟨p1, p2, p3, p4⟩; first | exact ht4 p1 | exact ht4 p2 | exact ht4 p3 | exact ht4 p4)]
    have g0 : (r.ttl == 0) = true := by rw [beq_iff_eq]; omega
    have g1 : (r.addr == 0) = true := by rw [beq_iff_eq]; omega
    have g2 : ((r.to.length : Int) == 0) = true := by rw [beq_iff_eq]; omega
    have g3 : ((r.text.length : Int) == 0) = true := by rw [beq_iff_eq]; omega
    have g4 : ((r.nums.length : Int) == 0) = false := by rw [beq_eq_false_iff_ne]; omega
    clear ht0 ht1 ht2 ht3 ht4
    go_enter Tryz.func63, Tryz.ntmps63
    go_wp2_with fail
    generalize (w.alloc (.cells #[.slice na r.name.length nc, .int .i64 r.type, .int .i64 r.ttl, .int .i64 r.addr, .slice ta r.to.length tc, .slice xa r.text.length xc, .slice ia r.nums.length ic, .int .i64 255, .bool true] 66)).alloc (.cells #[.slice na r.name.length nc, .int .i64 r.type, .int .i64 r.ttl, .int .i64 r.addr, .slice ta r.to.length tc, .slice xa r.text.length xc, .slice ia r.nums.length ic] 63) = W at *
    refine (UB HN).mono ?_
    rintro e w1 ⟨rfl, b1⟩
    clear d0 d1 d2 d3 d4 d5 d6 d7 d8
    obtain ⟨d0, d1, d2, d3, d4, d5, d6, d7, d8⟩ := cells9 (UE b1 (UB K1))
    obtain ⟨f0, f1, f2, f3, f4, f5, f6⟩ := UJ (UE b1 (UB V1))
    go_wp2_with fail
    refine (UB HA _).mono ?_
    rintro e w2 ⟨rfl, rfl⟩
    go_wp2_with fail
    go_ret
    exact ⟨rfl, UG bb1 b1⟩
   replace ht4 : r.nums.length = 0 := by omega
   rw [decide_eq_true ht0, Bool.true_and, decide_eq_true ⟨ht1, ht2, ht3, ht4⟩]
   have g0 : (r.ttl == 0) = true := by rw [beq_iff_eq]; omega
   have g1 : (r.addr == 0) = true := by rw [beq_iff_eq]; omega
   have g2 : ((r.to.length : Int) == 0) = true := by rw [beq_iff_eq]; omega
   have g3 : ((r.text.length : Int) == 0) = true := by rw [beq_iff_eq]; omega
   have g4 : ((r.nums.length : Int) == 0) = true := by rw [beq_iff_eq]; omega
   clear ht0 ht1 ht2 ht3 ht4
   go_enter Tryz.func63, Tryz.ntmps63
   go_wp2_with fail
   generalize (w.alloc (.cells #[.slice na r.name.length nc, .int .i64 r.type, .int .i64 r.ttl, .int .i64 r.addr, .slice ta r.to.length tc, .slice xa r.text.length xc, .slice ia r.nums.length ic, .int .i64 255, .bool true] 66)).alloc (.cells #[.slice na r.name.length nc, .int .i64 r.type, .int .i64 r.ttl, .int .i64 r.addr, .slice ta r.to.length tc, .slice xa r.text.length xc, .slice ia r.nums.length ic] 63) = W at *
   refine (UB HN).mono ?_
   rintro e w1 ⟨rfl, b1⟩
   clear d0 d1 d2 d3 d4 d5 d6 d7 d8
   obtain ⟨d0, d1, d2, d3, d4, d5, d6, d7, d8⟩ := cells9 (UE b1 (UB K1))
   obtain ⟨f0, f1, f2, f3, f4, f5, f6⟩ := UJ (UE b1 (UB V1))
   go_wp2_with fail
   refine (UB HA _).mono ?_
   rintro e w2 ⟨rfl, rfl⟩
   go_wp2_with fail
   go_ret
   exact ⟨rfl, UG bb1 b1⟩

theorem specWantOk_has {vn vt vx vi : Value} {r : Rec} (c : Int) (b : Bool) {w : World} (h : HasR w vn vt vx vi r) :
  Calls Tryz.prog 63 #[.agg #[vn, .int .i64 r.type, .int .i64 r.ttl, .int .i64 r.addr, vt, vx, vi, .int .i64 c, .bool b]] w fun e w' => e = .returned (.bool (wantOk r c b)) ∧ Below w.heap.size w w' := by
 unfold wantOk
 cases b with
 | true =>
  rw [if_pos rfl]
  by_cases h1 : c = 254
  ·subst h1; rw [decide_eq_true (.inl rfl), Bool.true_and]; exact specWantOk_bare254 h
  by_cases h2 : c = 255
  ·subst h2; rw [decide_eq_true (.inr rfl), Bool.true_and]; exact specWantOk_bare255 h
  rw [decide_eq_false (by omega), Bool.false_and]
  by_cases h3 : c = 1
  ·subst h3; exact specWantOk_bare1 h
  ·exact specWantOk_othertrue h (by rw [beq_eq_false_iff_ne]; exact h3) (by rw [beq_eq_false_iff_ne]; exact h1) (by rw [beq_eq_false_iff_ne]; exact h2)
 | false =>
  rw [if_neg (by simp)]
  by_cases h1 : c = 1
  ·subst h1; rw [if_pos rfl]; exact specWantOk_in h
  by_cases h2 : c = 254
  ·subst h2; rw [if_neg (by omega), if_pos rfl]; exact specWantOk_none h
  rw [if_neg h1, if_neg h2]
  by_cases h3 : c = 255
  ·subst h3; exact specWantOk_anyNo h
  ·exact specWantOk_otherfalse h (by rw [beq_eq_false_iff_ne]; exact h1) (by rw [beq_eq_false_iff_ne]; exact h2) (by rw [beq_eq_false_iff_ne]; exact h3)
end Go.Proofs.YtbabmdiklefgcaaGreatDoor
