/-
  The walk of laws.FnRecordOrder.
-/
import Derived.Test.YtdghbcjlahjjdaaFnRecordOrderG25
import Derived.Test.YtdghbcjlahjjdaaFnRecordOrderG32
import Derived.Test.YtdghbcjlahjjdaaFnRecordOrderG36
import Derived.Test.YtdghbcjlahjjdaaFnRecordOrderG45
namespace Go.Proofs.Ytdghbcjlahjjdaa
open Go.RowKit
set_option linter.unusedVariables false

set_option maxHeartbeats 8000000 in
set_option maxRecDepth 100000 in
theorem lawRecordOrder (a : Option Addr) (cap : Nat) (l : List Int) (w : World) (hL : Lies w a l) (hb : ∀ k, 0 ≤ l.getD k 0 ∧ l.getD k 0 ≤ 255) (hm : l.length ≤ maxLen) :
    Calls Try.prog 3 #[.slice a l.length cap] w fun e w' => e = .returned (.bool true) ∧ Below w.heap.size w w' := by
  have HD := hide (drawRrCmp_any (cap := cap) l hL rfl hb hm)
  clear hL hb
  go_enter Try.func3, Try.ntmps3
  go_wp2_with fail
  refine (unhide HD).mono ?_
  rintro e w1 ⟨vn, vt, vx, vi, r, un, ut, ux, ui, s, rfl, h1, h2, b1⟩
  clear HD
  obtain ⟨x1, xc1, rfl, _⟩ := h1.hasR.name.form
  obtain ⟨x2, xc2, rfl, _⟩ := h1.hasR.to.form
  obtain ⟨x3, xc3, rfl, _⟩ := h1.hasR.text.form
  obtain ⟨x4, xc4, rfl, _⟩ := h1.hasR.nums.form
  obtain ⟨p1, pc1, rfl, _⟩ := h2.hasR.name.form
  obtain ⟨p2, pc2, rfl, _⟩ := h2.hasR.to.form
  obtain ⟨p3, pc3, rfl, _⟩ := h2.hasR.text.form
  obtain ⟨p4, pc4, rfl, _⟩ := h2.hasR.nums.form
  obtain ⟨hsz, KA0, KB0⟩ := box2 w1 (.cells #[.slice x1 r.name.length xc1, .int .i64 r.type, .int .i64 r.ttl, .int .i64 r.addr, .slice x2 r.to.length xc2, .slice x3 r.text.length xc3, .slice x4 r.nums.length xc4] 28) #[.slice p1 s.name.length pc1, .int .i64 s.type, .int .i64 s.ttl, .int .i64 s.addr, .slice p2 s.to.length pc2, .slice p3 s.text.length pc3, .slice p4 s.nums.length pc4] 28
  have b2 := below2 w1 (.cells #[.slice x1 r.name.length xc1, .int .i64 r.type, .int .i64 r.ttl, .int .i64 r.addr, .slice x2 r.to.length xc2, .slice x3 r.text.length xc3, .slice x4 r.nums.length xc4] 28) (.cells #[.slice p1 s.name.length pc1, .int .i64 s.type, .int .i64 s.ttl, .int .i64 s.addr, .slice p2 s.to.length pc2, .slice p3 s.text.length pc3, .slice p4 s.nums.length pc4] 28)
  have bb := below_next b1 b2
  have KA := hide KA0
  have KB := hide KB0
  have HA := hide (h1.below b2)
  have HB := hide (h2.below b2)
  have zw := b1.size
  have zb := block_lt KB0
  clear KA0 KB0 h1 h2 b1 b2 hsz
  obtain ⟨c0_KA, c1_KA, c2_KA, c3_KA, c4_KA, c5_KA, c6_KA⟩ := cells7 (unhide KA)
  obtain ⟨c0_KB, c1_KB, c2_KB, c3_KB, c4_KB, c5_KB, c6_KB⟩ := cells7 (unhide KB)
  go_wp2_with fail
  generalize (w1.alloc (.cells #[.slice x1 r.name.length xc1, .int .i64 r.type, .int .i64 r.ttl, .int .i64 r.addr, .slice x2 r.to.length xc2, .slice x3 r.text.length xc3, .slice x4 r.nums.length xc4] 28)).alloc (.cells #[.slice p1 s.name.length pc1, .int .i64 s.type, .int .i64 s.ttl, .int .i64 s.addr, .slice p2 s.to.length pc2, .slice p3 s.text.length pc3, .slice p4 s.nums.length pc4] 28) = W at *
  clear c0_KA c1_KA c2_KA c3_KA c4_KA c5_KA c6_KA c0_KB c1_KB c2_KB c3_KB c4_KB c5_KB c6_KB
  refine (implRrCmp_has (unhide HA).hasR (unhide HB).hasR).mono ?_
  rintro e w3 ⟨rfl, b3⟩
  replace bb := below_next bb b3
  replace KA := hide (block_kept b3 (unhide KA))
  replace KB := hide (block_kept b3 (unhide KB))
  replace HA := hide ((unhide HA).below b3)
  replace HB := hide ((unhide HB).below b3)
  have z3 := b3.size
  clear b3
  have HOA := fun (w : World) (h : HasR w (.slice x1 r.name.length xc1) (.slice x2 r.to.length xc2) (.slice x3 r.text.length xc3) (.slice x4 r.nums.length xc4) r) => specRrOk_has h
  have HOB := fun (w : World) (h : HasR w (.slice p1 s.name.length pc1) (.slice p2 s.to.length pc2) (.slice p3 s.text.length pc3) (.slice p4 s.nums.length pc4) s) => specRrOk_has h
  have SM := fun (w : World) (h : HasR w (.slice x1 r.name.length xc1) (.slice x2 r.to.length xc2) (.slice x3 r.text.length xc3) (.slice x4 r.nums.length xc4) r) (h2 : HasR w (.slice p1 s.name.length pc1) (.slice p2 s.to.length pc2) (.slice p3 s.text.length pc3) (.slice p4 s.nums.length pc4) s) => implRrSame_has h h2
  unfold rrSame at SM
  unfold rrCmp
  cases hA : rrOk r with
  | false =>
    rw [hA] at HOA SM
    simp only [Bool.false_and, Bool.false_eq_true, false_and, if_false] at SM ⊢
    replace HOA := hide HOA
    replace HOB := hide HOB
    replace SM := hide SM
    clear hA
    obtain ⟨c0_KA, c1_KA, c2_KA, c3_KA, c4_KA, c5_KA, c6_KA⟩ := cells7 (unhide KA)
    obtain ⟨c0_KB, c1_KB, c2_KB, c3_KB, c4_KB, c5_KB, c6_KB⟩ := cells7 (unhide KB)
    go_wp2_with fail
    clear c0_KA c1_KA c2_KA c3_KA c4_KA c5_KA c6_KA c0_KB c1_KB c2_KB c3_KB c4_KB c5_KB c6_KB
    refine (unhide HOA _ (unhide HA).hasR).mono ?_
    rintro e w4 ⟨rfl, b4⟩
    replace bb := below_next bb b4
    replace KA := hide (block_kept b4 (unhide KA))
    replace KB := hide (block_kept b4 (unhide KB))
    replace HA := hide ((unhide HA).below b4)
    replace HB := hide ((unhide HB).below b4)
    have z4 := b4.size
    clear b4
    obtain ⟨c0_KA, c1_KA, c2_KA, c3_KA, c4_KA, c5_KA, c6_KA⟩ := cells7 (unhide KA)
    obtain ⟨c0_KB, c1_KB, c2_KB, c3_KB, c4_KB, c5_KB, c6_KB⟩ := cells7 (unhide KB)
    go_wp2_with fail
    clear c0_KA c1_KA c2_KA c3_KA c4_KA c5_KA c6_KA c0_KB c1_KB c2_KB c3_KB c4_KB c5_KB c6_KB
    refine (unhide SM _ (unhide HA).hasR (unhide HB).hasR).mono ?_
    rintro e w5 ⟨rfl, b5⟩
    replace bb := below_next bb b5
    replace KA := hide (block_kept b5 (unhide KA))
    replace KB := hide (block_kept b5 (unhide KB))
    replace HA := hide ((unhide HA).below b5)
    replace HB := hide ((unhide HB).below b5)
    have z5 := b5.size
    clear b5
    obtain ⟨c0_KA, c1_KA, c2_KA, c3_KA, c4_KA, c5_KA, c6_KA⟩ := cells7 (unhide KA)
    obtain ⟨c0_KB, c1_KB, c2_KB, c3_KB, c4_KB, c5_KB, c6_KB⟩ := cells7 (unhide KB)
    go_wp2_with fail
    clear c0_KA c1_KA c2_KA c3_KA c4_KA c5_KA c6_KA c0_KB c1_KB c2_KB c3_KB c4_KB c5_KB c6_KB
    refine (names_any _).mono ?_
    rintro e w6 ⟨rfl, b6⟩
    replace bb := below_next bb b6
    replace KA := hide (block_kept b6 (unhide KA))
    replace KB := hide (block_kept b6 (unhide KB))
    replace HA := hide ((unhide HA).below b6)
    replace HB := hide ((unhide HB).below b6)
    have z6 := b6.size
    clear b6
    obtain ⟨c0_KA, c1_KA, c2_KA, c3_KA, c4_KA, c5_KA, c6_KA⟩ := cells7 (unhide KA)
    obtain ⟨c0_KB, c1_KB, c2_KB, c3_KB, c4_KB, c5_KB, c6_KB⟩ := cells7 (unhide KB)
    go_wp2_with fail
    clear c0_KA c1_KA c2_KA c3_KA c4_KA c5_KA c6_KA c0_KB c1_KB c2_KB c3_KB c4_KB c5_KB c6_KB
    go_ret
    exact ⟨rfl, bb⟩
  | true =>
    cases hB : rrOk s with
    | false =>
      rw [hA] at HOA
      rw [hB] at HOB
      rw [hA, hB] at SM
      simp only [Bool.false_and, Bool.and_false, Bool.false_eq_true, and_false, if_false] at SM ⊢
      replace HOA := hide HOA
      replace HOB := hide HOB
      replace SM := hide SM
      clear hA hB
      obtain ⟨c0_KA, c1_KA, c2_KA, c3_KA, c4_KA, c5_KA, c6_KA⟩ := cells7 (unhide KA)
      obtain ⟨c0_KB, c1_KB, c2_KB, c3_KB, c4_KB, c5_KB, c6_KB⟩ := cells7 (unhide KB)
      go_wp2_with fail
      clear c0_KA c1_KA c2_KA c3_KA c4_KA c5_KA c6_KA c0_KB c1_KB c2_KB c3_KB c4_KB c5_KB c6_KB
      refine (unhide HOA _ (unhide HA).hasR).mono ?_
      rintro e w4 ⟨rfl, b4⟩
      replace bb := below_next bb b4
      replace KA := hide (block_kept b4 (unhide KA))
      replace KB := hide (block_kept b4 (unhide KB))
      replace HA := hide ((unhide HA).below b4)
      replace HB := hide ((unhide HB).below b4)
      have z4 := b4.size
      clear b4
      obtain ⟨c0_KA, c1_KA, c2_KA, c3_KA, c4_KA, c5_KA, c6_KA⟩ := cells7 (unhide KA)
      obtain ⟨c0_KB, c1_KB, c2_KB, c3_KB, c4_KB, c5_KB, c6_KB⟩ := cells7 (unhide KB)
      go_wp2_with fail
      clear c0_KA c1_KA c2_KA c3_KA c4_KA c5_KA c6_KA c0_KB c1_KB c2_KB c3_KB c4_KB c5_KB c6_KB
      refine (unhide HOB _ (unhide HB).hasR).mono ?_
      rintro e w5 ⟨rfl, b5⟩
      replace bb := below_next bb b5
      replace KA := hide (block_kept b5 (unhide KA))
      replace KB := hide (block_kept b5 (unhide KB))
      replace HA := hide ((unhide HA).below b5)
      replace HB := hide ((unhide HB).below b5)
      have z5 := b5.size
      clear b5
      obtain ⟨c0_KA, c1_KA, c2_KA, c3_KA, c4_KA, c5_KA, c6_KA⟩ := cells7 (unhide KA)
      obtain ⟨c0_KB, c1_KB, c2_KB, c3_KB, c4_KB, c5_KB, c6_KB⟩ := cells7 (unhide KB)
      go_wp2_with fail
      clear c0_KA c1_KA c2_KA c3_KA c4_KA c5_KA c6_KA c0_KB c1_KB c2_KB c3_KB c4_KB c5_KB c6_KB
      refine (unhide SM _ (unhide HA).hasR (unhide HB).hasR).mono ?_
      rintro e w6 ⟨rfl, b6⟩
      replace bb := below_next bb b6
      replace KA := hide (block_kept b6 (unhide KA))
      replace KB := hide (block_kept b6 (unhide KB))
      replace HA := hide ((unhide HA).below b6)
      replace HB := hide ((unhide HB).below b6)
      have z6 := b6.size
      clear b6
      obtain ⟨c0_KA, c1_KA, c2_KA, c3_KA, c4_KA, c5_KA, c6_KA⟩ := cells7 (unhide KA)
      obtain ⟨c0_KB, c1_KB, c2_KB, c3_KB, c4_KB, c5_KB, c6_KB⟩ := cells7 (unhide KB)
      go_wp2_with fail
      clear c0_KA c1_KA c2_KA c3_KA c4_KA c5_KA c6_KA c0_KB c1_KB c2_KB c3_KB c4_KB c5_KB c6_KB
      refine (names_any _).mono ?_
      rintro e w7 ⟨rfl, b7⟩
      replace bb := below_next bb b7
      replace KA := hide (block_kept b7 (unhide KA))
      replace KB := hide (block_kept b7 (unhide KB))
      replace HA := hide ((unhide HA).below b7)
      replace HB := hide ((unhide HB).below b7)
      have z7 := b7.size
      clear b7
      obtain ⟨c0_KA, c1_KA, c2_KA, c3_KA, c4_KA, c5_KA, c6_KA⟩ := cells7 (unhide KA)
      obtain ⟨c0_KB, c1_KB, c2_KB, c3_KB, c4_KB, c5_KB, c6_KB⟩ := cells7 (unhide KB)
      go_wp2_with fail
      clear c0_KA c1_KA c2_KA c3_KA c4_KA c5_KA c6_KA c0_KB c1_KB c2_KB c3_KB c4_KB c5_KB c6_KB
      go_ret
      exact ⟨rfl, bb⟩
    | true =>
      have hT := rrOk_time hA 77 (by decide) (by decide)
      have hc3 := cmpR_cases r s
      have CB := fun (w : World) (h : HasR w (.slice x1 r.name.length xc1) (.slice x2 r.to.length xc2) (.slice x3 r.text.length xc3) (.slice x4 r.nums.length xc4) r) (h2 : HasR w (.slice p1 s.name.length pc1) (.slice p2 s.to.length pc2) (.slice p3 s.text.length pc3) (.slice p4 s.nums.length pc4) s) => implRrCmp_has h2 h
      have SD := fun (w : World) (h : HasR w (.slice x1 r.name.length xc1) (.slice x2 r.to.length xc2) (.slice x3 r.text.length xc3) (.slice x4 r.nums.length xc4) r) (h2 : HasR w (.slice x1 r.name.length xc1) (.slice x2 r.to.length xc2) (.slice x3 r.text.length xc3) (.slice x4 r.nums.length xc4) ⟨r.name, r.type, 77, r.addr, r.to, r.text, r.nums⟩) => implRrSame_has h h2
      have CD := fun (w : World) (h : HasR w (.slice x1 r.name.length xc1) (.slice x2 r.to.length xc2) (.slice x3 r.text.length xc3) (.slice x4 r.nums.length xc4) ⟨r.name, r.type, 77, r.addr, r.to, r.text, r.nums⟩) (h2 : HasR w (.slice p1 s.name.length pc1) (.slice p2 s.to.length pc2) (.slice p3 s.text.length pc3) (.slice p4 s.nums.length pc4) s) => implRrCmp_has h h2
      unfold rrCmp at CB CD
      unfold rrSame at SD
      rw [cmpR_swap s r] at CB
      simp only [hA, hB, and_self, if_true] at CB
      rw [cmpR_time, hT] at CD
      simp only [hB, and_self, if_true] at CD
      rw [cmpR_time2, hA, hT, cmpR_self] at SD
      simp only [Bool.true_and, beq_self_eq_true] at SD
      rw [hA, hB] at SM
      simp only [Bool.true_and] at SM
      rw [hA] at HOA
      rw [hB] at HOB
      simp only [and_self, if_true]
      generalize cmpR r s = c at *
      replace HOA := hide HOA
      replace HOB := hide HOB
      replace SM := hide SM
      replace CB := hide CB
      replace SD := hide SD
      replace CD := hide CD
      have hw1 : IntKind.i64.wrap c = c := by rcases hc3 with rfl | rfl | rfl <;> rfl
      clear hc3 hA hB hT
      obtain ⟨c0_KA, c1_KA, c2_KA, c3_KA, c4_KA, c5_KA, c6_KA⟩ := cells7 (unhide KA)
      obtain ⟨c0_KB, c1_KB, c2_KB, c3_KB, c4_KB, c5_KB, c6_KB⟩ := cells7 (unhide KB)
      go_wp2_with fail
      clear c0_KA c1_KA c2_KA c3_KA c4_KA c5_KA c6_KA c0_KB c1_KB c2_KB c3_KB c4_KB c5_KB c6_KB
      refine (unhide HOA _ (unhide HA).hasR).mono ?_
      rintro e w4 ⟨rfl, b4⟩
      replace bb := below_next bb b4
      replace KA := hide (block_kept b4 (unhide KA))
      replace KB := hide (block_kept b4 (unhide KB))
      replace HA := hide ((unhide HA).below b4)
      replace HB := hide ((unhide HB).below b4)
      have z4 := b4.size
      clear b4
      obtain ⟨c0_KA, c1_KA, c2_KA, c3_KA, c4_KA, c5_KA, c6_KA⟩ := cells7 (unhide KA)
      obtain ⟨c0_KB, c1_KB, c2_KB, c3_KB, c4_KB, c5_KB, c6_KB⟩ := cells7 (unhide KB)
      go_wp2_with fail
      clear c0_KA c1_KA c2_KA c3_KA c4_KA c5_KA c6_KA c0_KB c1_KB c2_KB c3_KB c4_KB c5_KB c6_KB
      refine (unhide HOB _ (unhide HB).hasR).mono ?_
      rintro e w5 ⟨rfl, b5⟩
      replace bb := below_next bb b5
      replace KA := hide (block_kept b5 (unhide KA))
      replace KB := hide (block_kept b5 (unhide KB))
      replace HA := hide ((unhide HA).below b5)
      replace HB := hide ((unhide HB).below b5)
      have z5 := b5.size
      clear b5
      obtain ⟨k0, k1, k2, k3, k4, k5, k6⟩ := cells7 (unhide KA)
      have KD := hide (heap_alloc_new w5 (.cells #[.slice x1 r.name.length xc1, .int .i64 r.type, .int .i64 77, .int .i64 r.addr, .slice x2 r.to.length xc2, .slice x3 r.text.length xc3, .slice x4 r.nums.length xc4] 28))
      have bd := below_alloc (w := w5) (.cells #[.slice x1 r.name.length xc1, .int .i64 r.type, .int .i64 77, .int .i64 r.addr, .slice x2 r.to.length xc2, .slice x3 r.text.length xc3, .slice x4 r.nums.length xc4] 28)
      replace KA := hide (block_kept bd (unhide KA))
      replace KB := hide (block_kept bd (unhide KB))
      replace HA := hide ((unhide HA).below bd)
      replace HB := hide ((unhide HB).below bd)
      replace bb := below_next bb bd
      have zd := bd.size
      clear bd
      obtain ⟨c0_KA, c1_KA, c2_KA, c3_KA, c4_KA, c5_KA, c6_KA⟩ := cells7 (unhide KA)
      obtain ⟨c0_KB, c1_KB, c2_KB, c3_KB, c4_KB, c5_KB, c6_KB⟩ := cells7 (unhide KB)
      obtain ⟨c0_KD, c1_KD, c2_KD, c3_KD, c4_KD, c5_KD, c6_KD⟩ := cells7 (unhide KD)
      go_wp2_with fail
      clear c0_KA c1_KA c2_KA c3_KA c4_KA c5_KA c6_KA c0_KB c1_KB c2_KB c3_KB c4_KB c5_KB c6_KB c0_KD c1_KD c2_KD c3_KD c4_KD c5_KD c6_KD
      clear k0 k1 k2 k3 k4 k5 k6
      generalize w5.alloc (.cells #[.slice x1 r.name.length xc1, .int .i64 r.type, .int .i64 77, .int .i64 r.addr, .slice x2 r.to.length xc2, .slice x3 r.text.length xc3, .slice x4 r.nums.length xc4] 28) = WD at *
      have HDD : ∀ (w : World), DrawR w (.slice x1 r.name.length xc1) (.slice x2 r.to.length xc2) (.slice x3 r.text.length xc3) (.slice x4 r.nums.length xc4) r → HasR w (.slice x1 r.name.length xc1) (.slice x2 r.to.length xc2) (.slice x3 r.text.length xc3) (.slice x4 r.nums.length xc4) ⟨r.name, r.type, 77, r.addr, r.to, r.text, r.nums⟩ := fun w h => ⟨h.name.hasL, h.to.hasL, h.text.1, h.nums.has⟩
      replace HDD := hide HDD
      refine (unhide CB _ (unhide HA).hasR (unhide HB).hasR).mono ?_
      rintro e w6 ⟨rfl, b6⟩
      replace bb := below_next bb b6
      replace KA := hide (block_kept b6 (unhide KA))
      replace KB := hide (block_kept b6 (unhide KB))
      replace KD := hide (block_kept b6 (unhide KD))
      replace HA := hide ((unhide HA).below b6)
      replace HB := hide ((unhide HB).below b6)
      have z6 := b6.size
      clear b6
      obtain ⟨c0_KA, c1_KA, c2_KA, c3_KA, c4_KA, c5_KA, c6_KA⟩ := cells7 (unhide KA)
      obtain ⟨c0_KB, c1_KB, c2_KB, c3_KB, c4_KB, c5_KB, c6_KB⟩ := cells7 (unhide KB)
      obtain ⟨c0_KD, c1_KD, c2_KD, c3_KD, c4_KD, c5_KD, c6_KD⟩ := cells7 (unhide KD)
      go_wp2_with fail
      clear c0_KA c1_KA c2_KA c3_KA c4_KA c5_KA c6_KA c0_KB c1_KB c2_KB c3_KB c4_KB c5_KB c6_KB c0_KD c1_KD c2_KD c3_KD c4_KD c5_KD c6_KD
      refine (unhide SM _ (unhide HA).hasR (unhide HB).hasR).mono ?_
      rintro e w7 ⟨rfl, b7⟩
      replace bb := below_next bb b7
      replace KA := hide (block_kept b7 (unhide KA))
      replace KB := hide (block_kept b7 (unhide KB))
      replace KD := hide (block_kept b7 (unhide KD))
      replace HA := hide ((unhide HA).below b7)
      replace HB := hide ((unhide HB).below b7)
      have z7 := b7.size
      clear b7
      obtain ⟨c0_KA, c1_KA, c2_KA, c3_KA, c4_KA, c5_KA, c6_KA⟩ := cells7 (unhide KA)
      obtain ⟨c0_KB, c1_KB, c2_KB, c3_KB, c4_KB, c5_KB, c6_KB⟩ := cells7 (unhide KB)
      obtain ⟨c0_KD, c1_KD, c2_KD, c3_KD, c4_KD, c5_KD, c6_KD⟩ := cells7 (unhide KD)
      go_wp2_with fail
      clear c0_KA c1_KA c2_KA c3_KA c4_KA c5_KA c6_KA c0_KB c1_KB c2_KB c3_KB c4_KB c5_KB c6_KB c0_KD c1_KD c2_KD c3_KD c4_KD c5_KD c6_KD
      refine (unhide SD _ (unhide HA).hasR (unhide HDD _ (unhide HA))).mono ?_
      rintro e w8 ⟨rfl, b8⟩
      replace bb := below_next bb b8
      replace KA := hide (block_kept b8 (unhide KA))
      replace KB := hide (block_kept b8 (unhide KB))
      replace KD := hide (block_kept b8 (unhide KD))
      replace HA := hide ((unhide HA).below b8)
      replace HB := hide ((unhide HB).below b8)
      have z8 := b8.size
      clear b8
      obtain ⟨c0_KA, c1_KA, c2_KA, c3_KA, c4_KA, c5_KA, c6_KA⟩ := cells7 (unhide KA)
      obtain ⟨c0_KB, c1_KB, c2_KB, c3_KB, c4_KB, c5_KB, c6_KB⟩ := cells7 (unhide KB)
      obtain ⟨c0_KD, c1_KD, c2_KD, c3_KD, c4_KD, c5_KD, c6_KD⟩ := cells7 (unhide KD)
      go_wp2_with fail
      clear c0_KA c1_KA c2_KA c3_KA c4_KA c5_KA c6_KA c0_KB c1_KB c2_KB c3_KB c4_KB c5_KB c6_KB c0_KD c1_KD c2_KD c3_KD c4_KD c5_KD c6_KD
      refine (unhide CD _ (unhide HDD _ (unhide HA)) (unhide HB).hasR).mono ?_
      rintro e w9 ⟨rfl, b9⟩
      replace bb := below_next bb b9
      replace KA := hide (block_kept b9 (unhide KA))
      replace KB := hide (block_kept b9 (unhide KB))
      replace KD := hide (block_kept b9 (unhide KD))
      replace HA := hide ((unhide HA).below b9)
      replace HB := hide ((unhide HB).below b9)
      have z9 := b9.size
      clear b9
      obtain ⟨c0_KA, c1_KA, c2_KA, c3_KA, c4_KA, c5_KA, c6_KA⟩ := cells7 (unhide KA)
      obtain ⟨c0_KB, c1_KB, c2_KB, c3_KB, c4_KB, c5_KB, c6_KB⟩ := cells7 (unhide KB)
      obtain ⟨c0_KD, c1_KD, c2_KD, c3_KD, c4_KD, c5_KD, c6_KD⟩ := cells7 (unhide KD)
      go_wp2_with fail
      clear c0_KA c1_KA c2_KA c3_KA c4_KA c5_KA c6_KA c0_KB c1_KB c2_KB c3_KB c4_KB c5_KB c6_KB c0_KD c1_KD c2_KD c3_KD c4_KD c5_KD c6_KD
      go_ret
      exact ⟨rfl, bb⟩
end Go.Proofs.Ytdghbcjlahjjdaa
