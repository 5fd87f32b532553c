/-
  Contracts of the program's data: dataOf, and whether each kind may be. What an assertion on the program's data answers. Contracts of the program's dataOf and recordOf, kind by kind. Contracts of the program's nothingElse.
-/
import Derived.Test.YtpolekinfobecaaGreatCacheTickG08
import Derived.Test.YtpolekinfobecaaGreatCacheTickG16
import Derived.Handy
import Derived.RegionTactic
import Derived.Test.YtpolekinfobecaaGreatCacheTickG07
import Derived.Test.YtpolekinfobecaaGreatCacheTickG01
import Derived.Test.YtpolekinfobecaaGreatCacheTickG10
import Derived.WalkKit
namespace Go.Proofs.YtpolekinfobecaaGreat
open Go.RowKit
set_option linter.unusedVariables false

set_option maxHeartbeats 400000 in
set_option maxRecDepth 100000 in
theorem addrOk_any (a : Int) (w : World) : Calls Tryz.prog 140 #[.agg #[.int .i64 a]] w fun e w' => e = .returned (.bool (decide (0 ≤ a ∧ a ≤ 4294967295))) ∧ Below w.heap.size w w' := by
 have b0 := below_alloc (w := w) (.cells #[.int .i64 a] 115)
 have hU := hide (upTo_any a 4294967295)
 generalize decide (0 ≤ a ∧ a ≤ 4294967295) = D at *
 go_enter Tryz.func140, Tryz.ntmps140
 go_wp2_with fail
 refine (unhide hU _).mono ?_
 rintro e w1 ⟨rfl, rfl⟩
 go_wp2
 go_ret
 exact ⟨rfl, b0⟩

set_option maxHeartbeats 400000 in
set_option maxRecDepth 100000 in
theorem nameOkM_has {v : Value} {n : List (List Int)} {w : World} (h : HasL w v n) : Calls Tryz.prog 145 #[.agg #[v]] w fun e w' => e = .returned (.bool (nameOk n)) ∧ Below w.heap.size w w' := by
 obtain ⟨a, cap, rfl, _⟩ := h.form
 have b0 := below_alloc (w := w) (.cells #[.slice a n.length cap] 117)
 have hU := hide (implNameOk_has (h.below b0))
 clear h
 generalize nameOk n = D at *
 go_enter Tryz.func145, Tryz.ntmps145
 go_wp2_with fail
 refine (unhide hU).mono ?_
 rintro e w1 ⟨rfl, b1⟩
 go_wp2
 go_ret
 exact ⟨rfl, below_next b0 b1⟩

set_option maxHeartbeats 400000 in
set_option maxRecDepth 100000 in
theorem textOk_has {v : Value} {l : List Int} {w : World} (h : Has w v l) : Calls Tryz.prog 155 #[.agg #[v]] w fun e w' => e = .returned (.bool (decide (l.length ≤ 40))) ∧ Below w.heap.size w w' := by
 obtain ⟨a, cap, rfl, _⟩ := h.form
 have b0 := below_alloc (w := w) (.cells #[.slice a l.length cap] 121)
 clear h
 have e : decide (l.length ≤ 40) = decide ((l.length : Int) ≤ 40) := decide_eq_decide.2 (by omega)
 rw [e]
 go_enter Tryz.func155, Tryz.ntmps155
 go_wp2
 go_ret
 exact ⟨rfl, b0⟩

/-- The two numbers of a zone's head. -/
def numsOk (nu : List Int) : Bool := decide (nu.length = 2 ∧ 0 ≤ nu.getD 0 0 ∧ nu.getD 0 0 ≤ 4294967295 ∧ 0 ≤ nu.getD 1 0 ∧ nu.getD 1 0 ≤ 100000)

set_option maxHeartbeats 800000 in
set_option maxRecDepth 100000 in
theorem soaOk_has {v vi : Value} {n : List (List Int)} {nu : List Int} {w : World} (h : HasL w v n) (hi : HasI w vi nu) : Calls Tryz.prog 151 #[.agg #[v, vi]] w fun e w' => e = .returned (.bool (nameOk n && numsOk nu)) ∧ Below w.heap.size w w' := by
 obtain ⟨a, cap, rfl, _⟩ := h.form
 obtain ⟨ia, ic, rfl, _⟩ := hi.form
 have b0 := below_alloc (w := w) (.cells #[.slice a n.length cap, .slice ia nu.length ic] 119)
 have k0 := heap_alloc_new w (.cells #[.slice a n.length cap, .slice ia nu.length ic] 119)
 have hU := hide (implNameOk_has (h.below b0))
 have I0 := hide (hi.below b0)
 clear h hi
 generalize nameOk n = D at *
 cases D with
 | false =>
  rw [Bool.false_and]
  go_enter Tryz.func151, Tryz.ntmps151
  go_wp2_with fail
  refine (unhide hU).mono ?_
  rintro e w1 ⟨rfl, b1⟩
  go_wp2
  go_ret
  exact ⟨rfl, below_next b0 b1⟩
 | true =>
  rw [Bool.true_and]
  by_cases h2 : nu.length = 2
  ·obtain ⟨x, y, rfl⟩ := two_of h2
   have e : numsOk [x, y] = (decide (0 ≤ x ∧ x ≤ 4294967295) && decide (0 ≤ y ∧ y ≤ 100000)) := by
    unfold numsOk
    rw [← Bool.decide_and]
    apply decide_eq_decide.2
    simp
    omega
   rw [e]
   simp only [List.length_cons, List.length_nil, Nat.zero_add, Nat.reduceAdd] at *
   have hX := hide (upTo_any x 4294967295)
   have hY := hide (upTo_any y 100000)
   generalize decide (0 ≤ x ∧ x ≤ 4294967295) = DX at *
   generalize decide (0 ≤ y ∧ y ≤ 100000) = DY at *
   clear h2 e
   cases DX with
   | false =>
    rw [Bool.false_and]
    go_enter Tryz.func151, Tryz.ntmps151
    go_wp2_with fail
    generalize w.alloc (.cells #[.slice a n.length cap, .slice ia 2 ic] 119) = W at *
    refine (unhide hU).mono ?_
    rintro e w1 ⟨rfl, b1⟩
    have k1 := block_kept b1 k0
    have c0 := block_cell k1 0
    have c1 := block_cell k1 1
    simp only [List.getElem?_toArray, List.getElem?_cons_zero, List.getElem?_cons_succ] at c0 c1
    obtain ⟨g, off, cp, hv, _, n0, n1⟩ := ((unhide I0).below b1).two
    simp only [Value.slice.injEq] at hv
    obtain ⟨rfl, _, rfl⟩ := hv
    go_wp2_with fail
    refine (unhide hX _).mono ?_
    rintro e w2 ⟨rfl, rfl⟩
    go_wp2_with fail
    go_ret
    exact ⟨rfl, below_next b0 b1⟩
   | true =>
    rw [Bool.true_and]
    go_enter Tryz.func151, Tryz.ntmps151
    go_wp2_with fail
    generalize w.alloc (.cells #[.slice a n.length cap, .slice ia 2 ic] 119) = W at *
    refine (unhide hU).mono ?_
    rintro e w1 ⟨rfl, b1⟩
    have k1 := block_kept b1 k0
    have c0 := block_cell k1 0
    have c1 := block_cell k1 1
    simp only [List.getElem?_toArray, List.getElem?_cons_zero, List.getElem?_cons_succ] at c0 c1
    obtain ⟨g, off, cp, hv, _, n0, n1⟩ := ((unhide I0).below b1).two
    simp only [Value.slice.injEq] at hv
    obtain ⟨rfl, _, rfl⟩ := hv
    go_wp2_with fail
    refine (unhide hX _).mono ?_
    rintro e w2 ⟨rfl, rfl⟩
    go_wp2_with fail
    refine (unhide hY _).mono ?_
    rintro e w2 ⟨rfl, rfl⟩
    go_wp2_with fail
    go_ret
    exact ⟨rfl, below_next b0 b1⟩
  ·have e : numsOk nu = false := decide_eq_false (fun hh => h2 hh.1)
   rw [e]
   have h22 : ((nu.length : Int) == 2) = false := by rw [beq_eq_false_iff_ne]; omega
   go_enter Tryz.func151, Tryz.ntmps151
   go_wp2_with fail
   generalize w.alloc (.cells #[.slice a n.length cap, .slice ia nu.length ic] 119) = W at *
   refine (unhide hU).mono ?_
   rintro e w1 ⟨rfl, b1⟩
   have k1 := block_kept b1 k0
   have c0 := block_cell k1 0
   have c1 := block_cell k1 1
   simp only [List.getElem?_toArray, List.getElem?_cons_zero, List.getElem?_cons_succ] at c0 c1
   go_wp2_with fail
   go_ret
   exact ⟨rfl, below_next b0 b1⟩
end Go.Proofs.YtpolekinfobecaaGreat

namespace Go.Proofs.YtpolekinfobecaaGreat
open Go.RowKit
set_option linter.unusedVariables false

theorem ta_aa (v : Value) (w : World) : Sem.run Tryz.prog (Instr.typeAssert (.iface 115 v) 98 115 true) w = .ok (.tuple #[v, .bool true]) w := by kernel_rfl
theorem ta_an (v : Value) (w : World) : Sem.run Tryz.prog (Instr.typeAssert (.iface 115 v) 98 117 true) w = .ok (.tuple #[.agg #[.slice none 0 0], .bool false]) w := by kernel_rfl
theorem ta_as (v : Value) (w : World) : Sem.run Tryz.prog (Instr.typeAssert (.iface 115 v) 98 119 true) w = .ok (.tuple #[.agg #[.slice none 0 0, .slice none 0 0], .bool false]) w := by kernel_rfl
theorem ta_ax (v : Value) (w : World) : Sem.run Tryz.prog (Instr.typeAssert (.iface 115 v) 98 121 true) w = .ok (.tuple #[.agg #[.slice none 0 0], .bool false]) w := by kernel_rfl
theorem ta_na (v : Value) (w : World) : Sem.run Tryz.prog (Instr.typeAssert (.iface 117 v) 98 115 true) w = .ok (.tuple #[.agg #[.int .i64 0], .bool false]) w := by kernel_rfl
theorem ta_nn (v : Value) (w : World) : Sem.run Tryz.prog (Instr.typeAssert (.iface 117 v) 98 117 true) w = .ok (.tuple #[v, .bool true]) w := by kernel_rfl
theorem ta_ns (v : Value) (w : World) : Sem.run Tryz.prog (Instr.typeAssert (.iface 117 v) 98 119 true) w = .ok (.tuple #[.agg #[.slice none 0 0, .slice none 0 0], .bool false]) w := by kernel_rfl
theorem ta_nx (v : Value) (w : World) : Sem.run Tryz.prog (Instr.typeAssert (.iface 117 v) 98 121 true) w = .ok (.tuple #[.agg #[.slice none 0 0], .bool false]) w := by kernel_rfl
theorem ta_sa (v : Value) (w : World) : Sem.run Tryz.prog (Instr.typeAssert (.iface 119 v) 98 115 true) w = .ok (.tuple #[.agg #[.int .i64 0], .bool false]) w := by kernel_rfl
theorem ta_sn (v : Value) (w : World) : Sem.run Tryz.prog (Instr.typeAssert (.iface 119 v) 98 117 true) w = .ok (.tuple #[.agg #[.slice none 0 0], .bool false]) w := by kernel_rfl
theorem ta_ss (v : Value) (w : World) : Sem.run Tryz.prog (Instr.typeAssert (.iface 119 v) 98 119 true) w = .ok (.tuple #[v, .bool true]) w := by kernel_rfl
theorem ta_sx (v : Value) (w : World) : Sem.run Tryz.prog (Instr.typeAssert (.iface 119 v) 98 121 true) w = .ok (.tuple #[.agg #[.slice none 0 0], .bool false]) w := by kernel_rfl
theorem ta_xa (v : Value) (w : World) : Sem.run Tryz.prog (Instr.typeAssert (.iface 121 v) 98 115 true) w = .ok (.tuple #[.agg #[.int .i64 0], .bool false]) w := by kernel_rfl
theorem ta_xn (v : Value) (w : World) : Sem.run Tryz.prog (Instr.typeAssert (.iface 121 v) 98 117 true) w = .ok (.tuple #[.agg #[.slice none 0 0], .bool false]) w := by kernel_rfl
theorem ta_xs (v : Value) (w : World) : Sem.run Tryz.prog (Instr.typeAssert (.iface 121 v) 98 119 true) w = .ok (.tuple #[.agg #[.slice none 0 0, .slice none 0 0], .bool false]) w := by kernel_rfl
theorem ta_xx (v : Value) (w : World) : Sem.run Tryz.prog (Instr.typeAssert (.iface 121 v) 98 121 true) w = .ok (.tuple #[v, .bool true]) w := by kernel_rfl
end Go.Proofs.YtpolekinfobecaaGreat

namespace Go.Proofs.YtpolekinfobecaaGreat
open Go.RowKit
set_option linter.unusedVariables false

set_option maxHeartbeats 400000 in
set_option maxRecDepth 100000 in
theorem dataOf_A {na : Option Addr} {nc : Nat} {ta : Option Addr} {tc : Nat} {xa : Option Addr} {xc : Nat} {ia : Option Addr} {ic : Nat} {nm to : List (List Int)} {tx nu : List Int} {tt ad : Int} {w : World} : Calls Tryz.prog 114 #[.agg #[.slice na nm.length nc, .int .i64 1, .int .i64 tt, .int .i64 ad, .slice ta to.length tc, .slice xa tx.length xc, .slice ia nu.length ic]] w fun e w' => e = .returned (.iface 115 (.agg #[.int .i64 ad])) ∧ Below w.heap.size w w' := by
 have b0 := below_alloc (w := w) (.cells #[.slice na nm.length nc, .int .i64 1, .int .i64 tt, .int .i64 ad, .slice ta to.length tc, .slice xa tx.length xc, .slice ia nu.length ic] 56)
 have ta := ta_aa
 have tn := ta_an
 have ts := ta_as
 have tx := ta_ax
 go_enter Tryz.func114, Tryz.ntmps114
 go_wp2_with fail
 refine (kindOf_any 1 _).mono ?_
 rw [show kindV 1 = .iface 115 (.agg #[.int .i64 0]) from rfl]
 rintro e w1 ⟨rfl, rfl⟩
 go_wp2
 go_ret
 exact ⟨rfl, b0⟩

set_option maxHeartbeats 800000 in
set_option maxRecDepth 100000 in
theorem recordOf_A {na : Option Addr} {nc : Nat} {ta : Option Addr} {tc : Nat} {xa : Option Addr} {xc : Nat} {ia : Option Addr} {ic : Nat} {nm to : List (List Int)} {tx nu : List Int} {tt ad : Int} {w : World} : Calls Tryz.prog 116 #[.int .i64 1, .iface 115 (.agg #[.int .i64 ad])] w fun e w' => e = .returned (.agg #[.slice none 0 0, .int .i64 1, .int .i64 0, .int .i64 ad, .slice none 0 0, .slice none 0 0, .slice none 0 0]) ∧ Below w.heap.size w w' := by
 have ta := ta_aa
 have tn := ta_an
 have ts := ta_as
 have tx := ta_ax
 go_enter Tryz.func116, Tryz.ntmps116
 go_wp2
 go_returns
 exact ⟨rfl, by go_grown⟩

set_option maxHeartbeats 400000 in
set_option maxRecDepth 100000 in
theorem dataOf_N {na : Option Addr} {nc : Nat} {ta : Option Addr} {tc : Nat} {xa : Option Addr} {xc : Nat} {ia : Option Addr} {ic : Nat} {nm to : List (List Int)} {tx nu : List Int} {tt ad : Int} {w : World} {ty : Int} (hk : kindV ty = .iface 117 (.agg #[.slice none 0 0])) (hto : typeOk ty = true) : Calls Tryz.prog 114 #[.agg #[.slice na nm.length nc, .int .i64 ty, .int .i64 tt, .int .i64 ad, .slice ta to.length tc, .slice xa tx.length xc, .slice ia nu.length ic]] w fun e w' => e = .returned (.iface 117 (.agg #[.slice ta to.length tc])) ∧ Below w.heap.size w w' := by
 have b0 := below_alloc (w := w) (.cells #[.slice na nm.length nc, .int .i64 ty, .int .i64 tt, .int .i64 ad, .slice ta to.length tc, .slice xa tx.length xc, .slice ia nu.length ic] 56)
 have HK := hide hk
 clear hk
 have ta := ta_na
 have tn := ta_nn
 have ts := ta_ns
 have tx := ta_nx
 go_enter Tryz.func114, Tryz.ntmps114
 go_wp2_with fail
 refine (kindOf_any ty _).mono ?_
 rw [unhide HK]
 rintro e w1 ⟨rfl, rfl⟩
 go_wp2
 go_ret
 exact ⟨rfl, b0⟩

set_option maxHeartbeats 800000 in
set_option maxRecDepth 100000 in
theorem recordOf_N {na : Option Addr} {nc : Nat} {ta : Option Addr} {tc : Nat} {xa : Option Addr} {xc : Nat} {ia : Option Addr} {ic : Nat} {nm to : List (List Int)} {tx nu : List Int} {tt ad : Int} {w : World} {ty : Int} : Calls Tryz.prog 116 #[.int .i64 ty, .iface 117 (.agg #[.slice ta to.length tc])] w fun e w' => e = .returned (.agg #[.slice none 0 0, .int .i64 ty, .int .i64 0, .int .i64 0, .slice ta to.length tc, .slice none 0 0, .slice none 0 0]) ∧ Below w.heap.size w w' := by
 have ta := ta_na
 have tn := ta_nn
 have ts := ta_ns
 have tx := ta_nx
 go_enter Tryz.func116, Tryz.ntmps116
 go_wp2
 go_returns
 exact ⟨rfl, by go_grown⟩

set_option maxHeartbeats 400000 in
set_option maxRecDepth 100000 in
theorem dataOf_S {na : Option Addr} {nc : Nat} {ta : Option Addr} {tc : Nat} {xa : Option Addr} {xc : Nat} {ia : Option Addr} {ic : Nat} {nm to : List (List Int)} {tx nu : List Int} {tt ad : Int} {w : World} : Calls Tryz.prog 114 #[.agg #[.slice na nm.length nc, .int .i64 6, .int .i64 tt, .int .i64 ad, .slice ta to.length tc, .slice xa tx.length xc, .slice ia nu.length ic]] w fun e w' => e = .returned (.iface 119 (.agg #[.slice ta to.length tc, .slice ia nu.length ic])) ∧ Below w.heap.size w w' := by
 have b0 := below_alloc (w := w) (.cells #[.slice na nm.length nc, .int .i64 6, .int .i64 tt, .int .i64 ad, .slice ta to.length tc, .slice xa tx.length xc, .slice ia nu.length ic] 56)
 have ta := ta_sa
 have tn := ta_sn
 have ts := ta_ss
 have tx := ta_sx
 go_enter Tryz.func114, Tryz.ntmps114
 go_wp2_with fail
 refine (kindOf_any 6 _).mono ?_
 rw [show kindV 6 = .iface 119 (.agg #[.slice none 0 0, .slice none 0 0]) from rfl]
 rintro e w1 ⟨rfl, rfl⟩
 go_wp2
 go_ret
 exact ⟨rfl, b0⟩

set_option maxHeartbeats 800000 in
set_option maxRecDepth 100000 in
theorem recordOf_S {na : Option Addr} {nc : Nat} {ta : Option Addr} {tc : Nat} {xa : Option Addr} {xc : Nat} {ia : Option Addr} {ic : Nat} {nm to : List (List Int)} {tx nu : List Int} {tt ad : Int} {w : World} : Calls Tryz.prog 116 #[.int .i64 6, .iface 119 (.agg #[.slice ta to.length tc, .slice ia nu.length ic])] w fun e w' => e = .returned (.agg #[.slice none 0 0, .int .i64 6, .int .i64 0, .int .i64 0, .slice ta to.length tc, .slice none 0 0, .slice ia nu.length ic]) ∧ Below w.heap.size w w' := by
 have ta := ta_sa
 have tn := ta_sn
 have ts := ta_ss
 have tx := ta_sx
 go_enter Tryz.func116, Tryz.ntmps116
 go_wp2
 go_region
 all_goals go_wp2
 all_goals
  go_returns
  exact ⟨rfl, by go_grown⟩

set_option maxHeartbeats 400000 in
set_option maxRecDepth 100000 in
theorem dataOf_X {na : Option Addr} {nc : Nat} {ta : Option Addr} {tc : Nat} {xa : Option Addr} {xc : Nat} {ia : Option Addr} {ic : Nat} {nm to : List (List Int)} {tx nu : List Int} {tt ad : Int} {w : World} {ty : Int} (hk : kindV ty = .iface 121 (.agg #[.slice none 0 0])) (hto : typeOk ty = true) : Calls Tryz.prog 114 #[.agg #[.slice na nm.length nc, .int .i64 ty, .int .i64 tt, .int .i64 ad, .slice ta to.length tc, .slice xa tx.length xc, .slice ia nu.length ic]] w fun e w' => e = .returned (.iface 121 (.agg #[.slice xa tx.length xc])) ∧ Below w.heap.size w w' := by
 have b0 := below_alloc (w := w) (.cells #[.slice na nm.length nc, .int .i64 ty, .int .i64 tt, .int .i64 ad, .slice ta to.length tc, .slice xa tx.length xc, .slice ia nu.length ic] 56)
 have HK := hide hk
 clear hk
 have ta := ta_xa
 have tn := ta_xn
 have ts := ta_xs
 have tx := ta_xx
 go_enter Tryz.func114, Tryz.ntmps114
 go_wp2_with fail
 refine (kindOf_any ty _).mono ?_
 rw [unhide HK]
 rintro e w1 ⟨rfl, rfl⟩
 go_wp2
 go_ret
 exact ⟨rfl, b0⟩

set_option maxHeartbeats 800000 in
set_option maxRecDepth 100000 in
theorem recordOf_X {na : Option Addr} {nc : Nat} {ta : Option Addr} {tc : Nat} {xa : Option Addr} {xc : Nat} {ia : Option Addr} {ic : Nat} {nm to : List (List Int)} {tx nu : List Int} {tt ad : Int} {w : World} {ty : Int} : Calls Tryz.prog 116 #[.int .i64 ty, .iface 121 (.agg #[.slice xa tx.length xc])] w fun e w' => e = .returned (.agg #[.slice none 0 0, .int .i64 ty, .int .i64 0, .int .i64 0, .slice none 0 0, .slice xa tx.length xc, .slice none 0 0]) ∧ Below w.heap.size w w' := by
 have ta := ta_xa
 have tn := ta_xn
 have ts := ta_xs
 have tx := ta_xx
 go_enter Tryz.func116, Tryz.ntmps116
 go_wp2
 go_returns
 exact ⟨rfl, by go_grown⟩

end Go.Proofs.YtpolekinfobecaaGreat

namespace Go.Proofs.YtpolekinfobecaaGreat
open Go.RowKit
set_option linter.unusedVariables false

set_option maxHeartbeats 800000 in
set_option maxRecDepth 100000 in
theorem nothingElse_any {na na' ta ta' xa xa' ia ia' : Option Addr} {nl nl' nc nc' tl tl' tc tc' xl xl' xc xc' il il' ic ic' : Nat} {ty ty' tt tt' ad ad' : Int} {w : World} :
  Calls Tryz.prog 115 #[.agg #[.slice na nl nc, .int .i64 ty, .int .i64 tt, .int .i64 ad, .slice ta tl tc, .slice xa xl xc, .slice ia il ic], .agg #[.slice na' nl' nc', .int .i64 ty', .int .i64 tt', .int .i64 ad', .slice ta' tl' tc', .slice xa' xl' xc', .slice ia' il' ic']] w fun e w' => e = .returned (.bool (decide (ad = ad' ∧ tl = tl' ∧ xl = xl' ∧ il = il'))) ∧ Below w.heap.size w w' := by
 have b0 := below2 w (.cells #[.slice na nl nc, .int .i64 ty, .int .i64 tt, .int .i64 ad, .slice ta tl tc, .slice xa xl xc, .slice ia il ic] 56) (.cells #[.slice na' nl' nc', .int .i64 ty', .int .i64 tt', .int .i64 ad', .slice ta' tl' tc', .slice xa' xl' xc', .slice ia' il' ic'] 56)

 by_cases h0 : ad ≠ ad'
 ·rw [decide_eq_false (by intro hh; exact h0 hh.1)]
  have e0 : (ad == ad') = false := by rw [beq_eq_false_iff_ne]; omega
  go_enter Tryz.func115, Tryz.ntmps115
  go_wp2
  go_ret
  exact ⟨rfl, below2 _ _ _⟩
 replace h0 : ad = ad' := by omega
 have e0 : (ad == ad') = true := by rw [beq_iff_eq]; omega
 by_cases h1 : tl ≠ tl'
 ·rw [decide_eq_false (by intro hh; exact h1 hh.2.1)]
  have e1 : ((tl : Int) == (tl' : Int)) = false := by rw [beq_eq_false_iff_ne]; omega
  go_enter Tryz.func115, Tryz.ntmps115
  go_wp2
  go_ret
  exact ⟨rfl, below2 _ _ _⟩
 replace h1 : tl = tl' := by omega
 have e1 : ((tl : Int) == (tl' : Int)) = true := by rw [beq_iff_eq]; omega
 by_cases h2 : xl ≠ xl'
 ·rw [decide_eq_false (by intro hh; exact h2 hh.2.2.1)]
  have e2 : ((xl : Int) == (xl' : Int)) = false := by rw [beq_eq_false_iff_ne]; omega
  go_enter Tryz.func115, Tryz.ntmps115
  go_wp2
  go_ret
  exact ⟨rfl, below2 _ _ _⟩
 replace h2 : xl = xl' := by omega
 have e2 : ((xl : Int) == (xl' : Int)) = true := by rw [beq_iff_eq]; omega
 by_cases h3 : il ≠ il'
 ·rw [decide_eq_false (by intro hh; exact h3 hh.2.2.2)]
  have e3 : ((il : Int) == (il' : Int)) = false := by rw [beq_eq_false_iff_ne]; omega
  go_enter Tryz.func115, Tryz.ntmps115
  go_wp2
  go_ret
  exact ⟨rfl, below2 _ _ _⟩
 replace h3 : il = il' := by omega
 have e3 : ((il : Int) == (il' : Int)) = true := by rw [beq_iff_eq]; omega
 rw [decide_eq_true ⟨h0, h1, h2, h3⟩]
 clear h0 h1 h2 h3
 go_enter Tryz.func115, Tryz.ntmps115
 go_wp2
 go_ret
 exact ⟨rfl, below2 _ _ _⟩
end Go.Proofs.YtpolekinfobecaaGreat
