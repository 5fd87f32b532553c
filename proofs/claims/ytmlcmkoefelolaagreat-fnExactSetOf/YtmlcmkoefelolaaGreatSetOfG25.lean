/-
  Contracts of the program's upTo. Contracts of the program's Put32. Contracts of the program's data: dataOf, and whether each kind may be.
-/
import Derived.Test.YtmlcmkoefelolaaGreatSetOfG04
import Derived.Test.YtmlcmkoefelolaaGreatSetOfG21
import Derived.Test.YtmlcmkoefelolaaGreatSetOfG14
import Derived.Test.YtmlcmkoefelolaaGreatSetOfG24
import Derived.Handy
namespace Go.Proofs.YtmlcmkoefelolaaGreat
open Go.RowKit
set_option linter.unusedVariables false

set_option maxHeartbeats 400000 in
set_option maxRecDepth 100000 in
theorem upTo_yes {n m : Int} (w : World) (h0 : 0 ≤ n) (h1 : n ≤ m) : Calls Tryz.prog 102 #[.int .i64 n, .int .i64 m] w fun e w' => e = .returned (.bool true) ∧ w = w' := by
 go_enter Tryz.func102, Tryz.ntmps102
 go_wp2
 go_ret
 exact ⟨rfl, rfl⟩

set_option maxHeartbeats 400000 in
set_option maxRecDepth 100000 in
theorem upTo_no {n m : Int} (w : World) (h : n < 0 ∨ m < n) : Calls Tryz.prog 102 #[.int .i64 n, .int .i64 m] w fun e w' => e = .returned (.bool false) ∧ w = w' := by
 by_cases h0 : n < 0
 ·go_enter Tryz.func102, Tryz.ntmps102
  go_wp2
  go_ret
  exact ⟨rfl, rfl⟩
 ·have h1 : m < n := by omega
  have h2 : decide (n ≤ m) = false := decide_eq_false (by omega)
  go_enter Tryz.func102, Tryz.ntmps102
  go_wp2
  go_ret
  exact ⟨rfl, rfl⟩
theorem upTo_any (n m : Int) (w : World) : Calls Tryz.prog 102 #[.int .i64 n, .int .i64 m] w fun e w' => e = .returned (.bool (decide (0 ≤ n ∧ n ≤ m))) ∧ w = w' := by
 by_cases h : 0 ≤ n ∧ n ≤ m
 ·rw [decide_eq_true h]; exact upTo_yes w h.1 h.2
 ·rw [decide_eq_false h]; exact upTo_no w (by omega)
end Go.Proofs.YtmlcmkoefelolaaGreat

namespace Go.Proofs.YtmlcmkoefelolaaGreat
open Go.RowKit
set_option linter.unusedVariables false

set_option maxHeartbeats 800000 in
set_option maxRecDepth 100000 in
theorem implPut32_yes {B : Nat} {v : Value} {l : List Int} (n : Int) {w : World} (h : Own B 5 w v l) (hl : l.length ≤ 1048576) (h0 : 0 ≤ n) (h1 : n ≤ 4294967295) :
  Calls Tryz.prog 211 #[v, .int .i64 n] w fun e w' => ∃ v', e = .returned v' ∧ Own w.heap.size 5 w' v' (l ++ [n / 16777216, n / 65536 % 256, n / 256 % 256, n % 256]) ∧ Below w.heap.size w w' := by
 go_enter Tryz.func211, Tryz.ntmps211
 go_wp2_with fail
 refine (upTo_yes _ h0 h1).mono ?_
 rintro e w0 ⟨rfl, rfl⟩
 go_wp2_with fail
 refine (copyBytes_own h (by omega)).mono ?_
 rintro e w1 ⟨v1, rfl, o1, b1⟩
 have hsz := b1.size
 go_wp2_with (at_builtin; refine append_bytes rfl _ _ 44 5 rfl Tryz.underlying44 info_u8 w.heap.size v1 _ l [n / 16777216, n / 65536 % 256, n / 256 % 256, n % 256] rfl rfl (o1.alloc _) (own_put32 w1 0 5 n (Nat.zero_le _)).reads (by simp; omega) (by simp; omega) ?_)
 intro v' w2 hown hgrow
 go_wp2
 go_ret
 exact ⟨v', rfl, hown, (b1.alloc hsz _).grown hgrow (by simp; omega) (fun k hk => (o1.lt k hk).1)⟩

set_option maxHeartbeats 400000 in
set_option maxRecDepth 100000 in
theorem implPut32_no {B : Nat} {v : Value} {l : List Int} (n : Int) {w : World} (h : Own B 5 w v l) (hl : l.length ≤ 1048576) (hn : n < 0 ∨ 4294967295 < n) :
  Calls Tryz.prog 211 #[v, .int .i64 n] w fun e w' => ∃ v', e = .returned v' ∧ Own w.heap.size 5 w' v' l ∧ Below w.heap.size w w' := by
 go_enter Tryz.func211, Tryz.ntmps211
 go_wp2_with fail
 refine (upTo_no _ hn).mono ?_
 rintro e w0 ⟨rfl, rfl⟩
 go_wp2_with fail
 refine (copyBytes_own h (by omega)).mono ?_
 rintro e w1 ⟨v1, rfl, o1, b1⟩
 go_wp2
 go_ret
 exact ⟨v1, rfl, o1, b1⟩

theorem implPut32_any {B : Nat} {v : Value} {l : List Int} (n : Int) {w : World} (h : Own B 5 w v l) (hl : l.length ≤ 1048576) :
  Calls Tryz.prog 211 #[v, .int .i64 n] w fun e w' => ∃ v', e = .returned v' ∧ Own w.heap.size 5 w' v' (put32 l n) ∧ Below w.heap.size w w' := by
 by_cases hn : 0 ≤ n ∧ n ≤ 4294967295
 ·have e : put32 l n = l ++ [n / 16777216, n / 65536 % 256, n / 256 % 256, n % 256] := by unfold put32; rw [if_pos hn]
  rw [e]; exact implPut32_yes n h hl hn.1 hn.2
 ·have e : put32 l n = l := by unfold put32; rw [if_neg hn]
  rw [e]; exact implPut32_no n h hl (by omega)
end Go.Proofs.YtmlcmkoefelolaaGreat

namespace Go.Proofs.YtmlcmkoefelolaaGreat
open Go.RowKit
set_option linter.unusedVariables false

set_option maxHeartbeats 400000 in
set_option maxRecDepth 100000 in
theorem addrOk_any (a : Int) (w : World) : Calls Tryz.prog 208 #[.agg #[.int .i64 a]] w fun e w' => e = .returned (.bool (decide (0 ≤ a ∧ a ≤ 4294967295))) ∧ Below w.heap.size w w' := by
 have b0 := below_alloc (w := w) (.cells #[.int .i64 a] 162)
 have hU := hide (upTo_any a 4294967295)
 generalize decide (0 ≤ a ∧ a ≤ 4294967295) = D at *
 go_enter Tryz.func208, Tryz.ntmps208
 go_wp2_with fail
 refine (unhide hU _).mono ?_
 rintro e w1 ⟨rfl, rfl⟩
 go_wp2
 go_ret
 exact ⟨rfl, b0⟩

set_option maxHeartbeats 400000 in
set_option maxRecDepth 100000 in
theorem nameOkM_has {v : Value} {n : List (List Int)} {w : World} (h : HasL w v n) : Calls Tryz.prog 213 #[.agg #[v]] w fun e w' => e = .returned (.bool (nameOk n)) ∧ Below w.heap.size w w' := by
 obtain ⟨a, cap, rfl, _⟩ := h.form
 have b0 := below_alloc (w := w) (.cells #[.slice a n.length cap] 164)
 have hU := hide (implNameOk_has (h.below b0))
 clear h
 generalize nameOk n = D at *
 go_enter Tryz.func213, Tryz.ntmps213
 go_wp2_with fail
 refine (unhide hU).mono ?_
 rintro e w1 ⟨rfl, b1⟩
 go_wp2
 go_ret
 exact ⟨rfl, below_next b0 b1⟩

set_option maxHeartbeats 400000 in
set_option maxRecDepth 100000 in
theorem textOk_has {v : Value} {l : List Int} {w : World} (h : Has w v l) : Calls Tryz.prog 223 #[.agg #[v]] w fun e w' => e = .returned (.bool (decide (l.length ≤ 40))) ∧ Below w.heap.size w w' := by
 obtain ⟨a, cap, rfl, _⟩ := h.form
 have b0 := below_alloc (w := w) (.cells #[.slice a l.length cap] 168)
 clear h
 have e : decide (l.length ≤ 40) = decide ((l.length : Int) ≤ 40) := decide_eq_decide.2 (by omega)
 rw [e]
 go_enter Tryz.func223, Tryz.ntmps223
 go_wp2
 go_ret
 exact ⟨rfl, b0⟩

/-- The two numbers of a zone's head. -/
def numsOk (nu : List Int) : Bool := decide (nu.length = 2 ∧ 0 ≤ nu.getD 0 0 ∧ nu.getD 0 0 ≤ 4294967295 ∧ 0 ≤ nu.getD 1 0 ∧ nu.getD 1 0 ≤ 100000)

set_option maxHeartbeats 800000 in
set_option maxRecDepth 100000 in
theorem soaOk_has {v vi : Value} {n : List (List Int)} {nu : List Int} {w : World} (h : HasL w v n) (hi : HasI w vi nu) : Calls Tryz.prog 219 #[.agg #[v, vi]] w fun e w' => e = .returned (.bool (nameOk n && numsOk nu)) ∧ Below w.heap.size w w' := by
 obtain ⟨a, cap, rfl, _⟩ := h.form
 obtain ⟨ia, ic, rfl, _⟩ := hi.form
 have b0 := below_alloc (w := w) (.cells #[.slice a n.length cap, .slice ia nu.length ic] 166)
 have k0 := heap_alloc_new w (.cells #[.slice a n.length cap, .slice ia nu.length ic] 166)
 have hU := hide (implNameOk_has (h.below b0))
 have I0 := hide (hi.below b0)
 clear h hi
 generalize nameOk n = D at *
 cases D with
 | false =>
  rw [Bool.false_and]
  go_enter Tryz.func219, Tryz.ntmps219
  go_wp2_with fail
  refine (unhide hU).mono ?_
  rintro e w1 ⟨rfl, b1⟩
  go_wp2
  go_ret
  exact ⟨rfl, below_next b0 b1⟩
 | true =>
  rw [Bool.true_and]
  by_cases h2 : nu.length = 2
  ·obtain ⟨x, y, rfl⟩ := two_of h2
   have e : numsOk [x, y] = (decide (0 ≤ x ∧ x ≤ 4294967295) && decide (0 ≤ y ∧ y ≤ 100000)) := by
    unfold numsOk
    rw [← Bool.decide_and]
    apply decide_eq_decide.2
    simp
    omega
   rw [e]
   simp only [List.length_cons, List.length_nil, Nat.zero_add, Nat.reduceAdd] at *
   have hX := hide (upTo_any x 4294967295)
   have hY := hide (upTo_any y 100000)
   generalize decide (0 ≤ x ∧ x ≤ 4294967295) = DX at *
   generalize decide (0 ≤ y ∧ y ≤ 100000) = DY at *
   clear h2 e
   cases DX with
   | false =>
    rw [Bool.false_and]
    go_enter Tryz.func219, Tryz.ntmps219
    go_wp2_with fail
    generalize w.alloc (.cells #[.slice a n.length cap, .slice ia 2 ic] 166) = W at *
    refine (unhide hU).mono ?_
    rintro e w1 ⟨rfl, b1⟩
    have k1 := block_kept b1 k0
    have c0 := block_cell k1 0
    have c1 := block_cell k1 1
    simp only [List.getElem?_toArray, List.getElem?_cons_zero, List.getElem?_cons_succ] at c0 c1
    obtain ⟨g, off, cp, hv, _, n0, n1⟩ := ((unhide I0).below b1).two
    simp only [Value.slice.injEq] at hv
    obtain ⟨rfl, _, rfl⟩ := hv
    go_wp2_with fail
    refine (unhide hX _).mono ?_
    rintro e w2 ⟨rfl, rfl⟩
    go_wp2_with fail
    go_ret
    exact ⟨rfl, below_next b0 b1⟩
   | true =>
    rw [Bool.true_and]
    go_enter Tryz.func219, Tryz.ntmps219
    go_wp2_with fail
    generalize w.alloc (.cells #[.slice a n.length cap, .slice ia 2 ic] 166) = W at *
    refine (unhide hU).mono ?_
    rintro e w1 ⟨rfl, b1⟩
    have k1 := block_kept b1 k0
    have c0 := block_cell k1 0
    have c1 := block_cell k1 1
    simp only [List.getElem?_toArray, List.getElem?_cons_zero, List.getElem?_cons_succ] at c0 c1
    obtain ⟨g, off, cp, hv, _, n0, n1⟩ := ((unhide I0).below b1).two
    simp only [Value.slice.injEq] at hv
    obtain ⟨rfl, _, rfl⟩ := hv
    go_wp2_with fail
    refine (unhide hX _).mono ?_
    rintro e w2 ⟨rfl, rfl⟩
    go_wp2_with fail
    refine (unhide hY _).mono ?_
    rintro e w2 ⟨rfl, rfl⟩
    go_wp2_with fail
    go_ret
    exact ⟨rfl, below_next b0 b1⟩
  ·have e : numsOk nu = false := decide_eq_false (fun hh => h2 hh.1)
   rw [e]
   have h22 : ((nu.length : Int) == 2) = false := by rw [beq_eq_false_iff_ne]; omega
   go_enter Tryz.func219, Tryz.ntmps219
   go_wp2_with fail
   generalize w.alloc (.cells #[.slice a n.length cap, .slice ia nu.length ic] 166) = W at *
   refine (unhide hU).mono ?_
   rintro e w1 ⟨rfl, b1⟩
   have k1 := block_kept b1 k0
   have c0 := block_cell k1 0
   have c1 := block_cell k1 1
   simp only [List.getElem?_toArray, List.getElem?_cons_zero, List.getElem?_cons_succ] at c0 c1
   go_wp2_with fail
   go_ret
   exact ⟨rfl, below_next b0 b1⟩
end Go.Proofs.YtmlcmkoefelolaaGreat
