/-
  Contracts of the program's upTo. Contracts of the program's data: dataOf, and whether each kind may be.
-/
import Derived.Test.YtdghbcjlahjjdaaFnRecordOrderG02
import Derived.Test.YtdghbcjlahjjdaaFnRecordOrderG12
import Derived.Test.YtdghbcjlahjjdaaFnRecordOrderG30
import Derived.Handy
namespace Go.Proofs.Ytdghbcjlahjjdaa
open Go.RowKit
set_option linter.unusedVariables false

set_option maxHeartbeats 400000 in
set_option maxRecDepth 100000 in
theorem upTo_yes {n m : Int} (w : World) (h0 : 0 ≤ n) (h1 : n ≤ m) : Calls Try.prog 60 #[.int .i64 n, .int .i64 m] w fun e w' => e = .returned (.bool true) ∧ w = w' := by
  go_enter Try.func60, Try.ntmps60
  go_wp2
  go_ret
  exact ⟨rfl, rfl⟩

set_option maxHeartbeats 400000 in
set_option maxRecDepth 100000 in
theorem upTo_no {n m : Int} (w : World) (h : n < 0 ∨ m < n) : Calls Try.prog 60 #[.int .i64 n, .int .i64 m] w fun e w' => e = .returned (.bool false) ∧ w = w' := by
  by_cases h0 : n < 0
  · go_enter Try.func60, Try.ntmps60
    go_wp2
    go_ret
    exact ⟨rfl, rfl⟩
  · have h1 : m < n := by omega
    have h2 : decide (n ≤ m) = false := decide_eq_false (by omega)
    go_enter Try.func60, Try.ntmps60
    go_wp2
    go_ret
    exact ⟨rfl, rfl⟩
theorem upTo_any (n m : Int) (w : World) : Calls Try.prog 60 #[.int .i64 n, .int .i64 m] w fun e w' => e = .returned (.bool (decide (0 ≤ n ∧ n ≤ m))) ∧ w = w' := by
  by_cases h : 0 ≤ n ∧ n ≤ m
  · rw [decide_eq_true h]; exact upTo_yes w h.1 h.2
  · rw [decide_eq_false h]; exact upTo_no w (by omega)
end Go.Proofs.Ytdghbcjlahjjdaa

namespace Go.Proofs.Ytdghbcjlahjjdaa
open Go.RowKit
set_option linter.unusedVariables false

set_option maxHeartbeats 400000 in
set_option maxRecDepth 100000 in
theorem addrOk_any (a : Int) (w : World) : Calls Try.prog 151 #[.agg #[.int .i64 a]] w fun e w' => e = .returned (.bool (decide (0 ≤ a ∧ a ≤ 4294967295))) ∧ Below w.heap.size w w' := by
  have b0 := below_alloc (w := w) (.cells #[.int .i64 a] 91)
  have hU := hide (upTo_any a 4294967295)
  generalize decide (0 ≤ a ∧ a ≤ 4294967295) = D at *
  go_enter Try.func151, Try.ntmps151
  go_wp2_with fail
  refine (unhide hU _).mono ?_
  rintro e w1 ⟨rfl, rfl⟩
  go_wp2
  go_ret
  exact ⟨rfl, b0⟩

set_option maxHeartbeats 400000 in
set_option maxRecDepth 100000 in
theorem nameOkM_has {v : Value} {n : List (List Int)} {w : World} (h : HasL w v n) : Calls Try.prog 156 #[.agg #[v]] w fun e w' => e = .returned (.bool (nameOk n)) ∧ Below w.heap.size w w' := by
  obtain ⟨a, cap, rfl, _⟩ := h.form
  have b0 := below_alloc (w := w) (.cells #[.slice a n.length cap] 93)
  have hU := hide (implNameOk_has (h.below b0))
  clear h
  generalize nameOk n = D at *
  go_enter Try.func156, Try.ntmps156
  go_wp2_with fail
  refine (unhide hU).mono ?_
  rintro e w1 ⟨rfl, b1⟩
  go_wp2
  go_ret
  exact ⟨rfl, below_next b0 b1⟩

set_option maxHeartbeats 400000 in
set_option maxRecDepth 100000 in
theorem textOk_has {v : Value} {l : List Int} {w : World} (h : Has w v l) : Calls Try.prog 166 #[.agg #[v]] w fun e w' => e = .returned (.bool (decide (l.length ≤ 40))) ∧ Below w.heap.size w w' := by
  obtain ⟨a, cap, rfl, _⟩ := h.form
  have b0 := below_alloc (w := w) (.cells #[.slice a l.length cap] 97)
  clear h
  have e : decide (l.length ≤ 40) = decide ((l.length : Int) ≤ 40) := decide_eq_decide.2 (by omega)
  rw [e]
  go_enter Try.func166, Try.ntmps166
  go_wp2
  go_ret
  exact ⟨rfl, b0⟩

/-- The two numbers of a zone's head. -/
def numsOk (nu : List Int) : Bool := decide (nu.length = 2 ∧ 0 ≤ nu.getD 0 0 ∧ nu.getD 0 0 ≤ 4294967295 ∧ 0 ≤ nu.getD 1 0 ∧ nu.getD 1 0 ≤ 100000)

set_option maxHeartbeats 800000 in
set_option maxRecDepth 100000 in
theorem soaOk_has {v vi : Value} {n : List (List Int)} {nu : List Int} {w : World} (h : HasL w v n) (hi : HasI w vi nu) : Calls Try.prog 162 #[.agg #[v, vi]] w fun e w' => e = .returned (.bool (nameOk n && numsOk nu)) ∧ Below w.heap.size w w' := by
  obtain ⟨a, cap, rfl, _⟩ := h.form
  obtain ⟨ia, ic, rfl, _⟩ := hi.form
  have b0 := below_alloc (w := w) (.cells #[.slice a n.length cap, .slice ia nu.length ic] 95)
  have k0 := heap_alloc_new w (.cells #[.slice a n.length cap, .slice ia nu.length ic] 95)
  have hU := hide (implNameOk_has (h.below b0))
  have I0 := hide (hi.below b0)
  clear h hi
  generalize nameOk n = D at *
  cases D with
  | false =>
    rw [Bool.false_and]
    go_enter Try.func162, Try.ntmps162
    go_wp2_with fail
    refine (unhide hU).mono ?_
    rintro e w1 ⟨rfl, b1⟩
    go_wp2
    go_ret
    exact ⟨rfl, below_next b0 b1⟩
  | true =>
    rw [Bool.true_and]
    by_cases h2 : nu.length = 2
    · obtain ⟨x, y, rfl⟩ := two_of h2
      have e : numsOk [x, y] = (decide (0 ≤ x ∧ x ≤ 4294967295) && decide (0 ≤ y ∧ y ≤ 100000)) := by
        unfold numsOk
        rw [← Bool.decide_and]
        apply decide_eq_decide.2
        simp
        omega
      rw [e]
      simp only [List.length_cons, List.length_nil, Nat.zero_add, Nat.reduceAdd] at *
      have hX := hide (upTo_any x 4294967295)
      have hY := hide (upTo_any y 100000)
      generalize decide (0 ≤ x ∧ x ≤ 4294967295) = DX at *
      generalize decide (0 ≤ y ∧ y ≤ 100000) = DY at *
      clear h2 e
      cases DX with
      | false =>
        rw [Bool.false_and]
        go_enter Try.func162, Try.ntmps162
        go_wp2_with fail
        generalize w.alloc (.cells #[.slice a n.length cap, .slice ia 2 ic] 95) = W at *
        refine (unhide hU).mono ?_
        rintro e w1 ⟨rfl, b1⟩
        have k1 := block_kept b1 k0
        have c0 := block_cell k1 0
        have c1 := block_cell k1 1
        simp only [List.getElem?_toArray, List.getElem?_cons_zero, List.getElem?_cons_succ] at c0 c1
        obtain ⟨g, off, cp, hv, _, n0, n1⟩ := ((unhide I0).below b1).two
        simp only [Value.slice.injEq] at hv
        obtain ⟨rfl, _, rfl⟩ := hv
        go_wp2_with fail
        refine (unhide hX _).mono ?_
        rintro e w2 ⟨rfl, rfl⟩
        go_wp2_with fail
        go_ret
        exact ⟨rfl, below_next b0 b1⟩
      | true =>
        rw [Bool.true_and]
        go_enter Try.func162, Try.ntmps162
        go_wp2_with fail
        generalize w.alloc (.cells #[.slice a n.length cap, .slice ia 2 ic] 95) = W at *
        refine (unhide hU).mono ?_
        rintro e w1 ⟨rfl, b1⟩
        have k1 := block_kept b1 k0
        have c0 := block_cell k1 0
        have c1 := block_cell k1 1
        simp only [List.getElem?_toArray, List.getElem?_cons_zero, List.getElem?_cons_succ] at c0 c1
        obtain ⟨g, off, cp, hv, _, n0, n1⟩ := ((unhide I0).below b1).two
        simp only [Value.slice.injEq] at hv
        obtain ⟨rfl, _, rfl⟩ := hv
        go_wp2_with fail
        refine (unhide hX _).mono ?_
        rintro e w2 ⟨rfl, rfl⟩
        go_wp2_with fail
        refine (unhide hY _).mono ?_
        rintro e w2 ⟨rfl, rfl⟩
        go_wp2_with fail
        go_ret
        exact ⟨rfl, below_next b0 b1⟩
    · have e : numsOk nu = false := decide_eq_false (fun hh => h2 hh.1)
      rw [e]
      have h22 : ((nu.length : Int) == 2) = false := by rw [beq_eq_false_iff_ne]; omega
      go_enter Try.func162, Try.ntmps162
      go_wp2_with fail
      generalize w.alloc (.cells #[.slice a n.length cap, .slice ia nu.length ic] 95) = W at *
      refine (unhide hU).mono ?_
      rintro e w1 ⟨rfl, b1⟩
      have k1 := block_kept b1 k0
      have c0 := block_cell k1 0
      have c1 := block_cell k1 1
      simp only [List.getElem?_toArray, List.getElem?_cons_zero, List.getElem?_cons_succ] at c0 c1
      go_wp2_with fail
      go_ret
      exact ⟨rfl, below_next b0 b1⟩
end Go.Proofs.Ytdghbcjlahjjdaa
