/-
  Contracts of the program's data: dataOf, and whether each kind may be. What an assertion on the program's data answers. Contracts of the program's dataOf and recordOf, kind by kind.
-/
import Derived.Test.YthmihglfffeedaaDoorRrTextG07
import Derived.Test.YthmihglfffeedaaDoorRrTextG09
import Derived.Handy
import Derived.RegionTactic
namespace Go.Proofs.YthmihglfffeedaaDoor
open Go.RowKit
set_option linter.unusedVariables false
set_option maxHeartbeats 800000
set_option maxRecDepth 100000

theorem addrOk_any (a : Int) (w : World) : Calls Tryd.prog 84 #[.agg #[.int .i64 a]] w fun e w' => e = .returned (.bool (decide (0 ≤ a ∧ a ≤ 4294967295))) ∧ Below w.heap.size w w' := by
 have b0 := UI (w := w) (.cells #[.int .i64 a] 67)
 have hU := UC (upTo_any a 4294967295)
 generalize decide (0 ≤ a ∧ a ≤ 4294967295) = D at *
 go_enter Tryd.func84, Tryd.ntmps84
 go_wp2_with fail
 refine (UB hU _).mono ?_
 rintro e w1 ⟨rfl, rfl⟩
 go_wp2
 go_ret
 exact ⟨rfl, b0⟩

theorem nameOkM_has {v : Value} {n : List (List Int)} {w : World} (h : HasL w v n) : Calls Tryd.prog 91 #[.agg #[v]] w fun e w' => e = .returned (.bool (nameOk n)) ∧ Below w.heap.size w w' := by
 obtain ⟨a, cap, rfl, _⟩ := h.form
 have b0 := UI (w := w) (.cells #[.slice a n.length cap] 69)
 have hU := UC (VP (h.below b0))
 clear h
 generalize nameOk n = D at *
 go_enter Tryd.func91, Tryd.ntmps91
 go_wp2_with fail
 refine (UB hU).mono ?_
 rintro e w1 ⟨rfl, b1⟩
 go_wp2
 go_ret
 exact ⟨rfl, UG b0 b1⟩

theorem textOk_has {v : Value} {l : List Int} {w : World} (h : Has w v l) : Calls Tryd.prog 99 #[.agg #[v]] w fun e w' => e = .returned (.bool (decide (l.length ≤ 40))) ∧ Below w.heap.size w w' := by
 obtain ⟨a, cap, rfl, _⟩ := h.form
 have b0 := UI (w := w) (.cells #[.slice a l.length cap] 73)
 clear h
 have e : decide (l.length ≤ 40) = decide ((l.length : Int) ≤ 40) := decide_eq_decide.2 (by omega)
 rw [e]
 go_enter Tryd.func99, Tryd.ntmps99
 go_wp2
 go_ret
 exact ⟨rfl, b0⟩

def numsOk (nu : List Int) : Bool := decide (nu.length = 2 ∧ 0 ≤ nu.getD 0 0 ∧ nu.getD 0 0 ≤ 4294967295 ∧ 0 ≤ nu.getD 1 0 ∧ nu.getD 1 0 ≤ 100000)

theorem soaOk_has {v vi : Value} {n : List (List Int)} {nu : List Int} {w : World} (h : HasL w v n) (hi : HasI w vi nu) : Calls Tryd.prog 95 #[.agg #[v, vi]] w fun e w' => e = .returned (.bool (nameOk n && numsOk nu)) ∧ Below w.heap.size w w' := by
 obtain ⟨a, cap, rfl, _⟩ := h.form
 obtain ⟨ia, ic, rfl, _⟩ := hi.form
 have b0 := UI (w := w) (.cells #[.slice a n.length cap, .slice ia nu.length ic] 71)
 have k0 := heap_alloc_new w (.cells #[.slice a n.length cap, .slice ia nu.length ic] 71)
 have hU := UC (VP (h.below b0))
 have I0 := UC (hi.below b0)
 clear h hi
 generalize nameOk n = D at *
 cases D with
 | false =>
  rw [Bool.false_and]
  go_enter Tryd.func95, Tryd.ntmps95
  go_wp2_with fail
  refine (UB hU).mono ?_
  rintro e w1 ⟨rfl, b1⟩
  go_wp2
  go_ret
  exact ⟨rfl, UG b0 b1⟩
 | true =>
  rw [Bool.true_and]
  by_cases h2 : nu.length = 2
  ·obtain ⟨x, y, rfl⟩ := two_of h2
   have e : numsOk [x, y] = (decide (0 ≤ x ∧ x ≤ 4294967295) && decide (0 ≤ y ∧ y ≤ 100000)) := by
    unfold numsOk
    rw [← Bool.decide_and]
    apply decide_eq_decide.2
    simp
    omega
   rw [e]
   simp only [List.length_cons, List.length_nil, Nat.zero_add, Nat.reduceAdd] at *
   have hX := UC (upTo_any x 4294967295)
   have hY := UC (upTo_any y 100000)
   generalize decide (0 ≤ x ∧ x ≤ 4294967295) = DX at *
   generalize decide (0 ≤ y ∧ y ≤ 100000) = DY at *
   clear h2 e
   cases DX with
   | false =>
    rw [Bool.false_and]
    go_enter Tryd.func95, Tryd.ntmps95
    go_wp2_with fail
    generalize w.alloc (.cells #[.slice a n.length cap, .slice ia 2 ic] 71) = W at *
    refine (UB hU).mono ?_
    rintro e w1 ⟨rfl, b1⟩
    have k1 := UE b1 k0
    have c0 := VE k1 0
    have c1 := VE k1 1
    simp only [List.getElem?_toArray, List.getElem?_cons_zero, List.getElem?_cons_succ] at c0 c1
    obtain ⟨g, off, cp, hv, _, n0, n1⟩ := ((UB I0).below b1).two
    simp only [Value.slice.injEq] at hv
    obtain ⟨rfl, _, rfl⟩ := hv
    go_wp2_with fail
    refine (UB hX _).mono ?_
    rintro e w2 ⟨rfl, rfl⟩
    go_wp2_with fail
    go_ret
    exact ⟨rfl, UG b0 b1⟩
   | true =>
    rw [Bool.true_and]
    go_enter Tryd.func95, Tryd.ntmps95
    go_wp2_with fail
    generalize w.alloc (.cells #[.slice a n.length cap, .slice ia 2 ic] 71) = W at *
    refine (UB hU).mono ?_
    rintro e w1 ⟨rfl, b1⟩
    have k1 := UE b1 k0
    have c0 := VE k1 0
    have c1 := VE k1 1
    simp only [List.getElem?_toArray, List.getElem?_cons_zero, List.getElem?_cons_succ] at c0 c1
    obtain ⟨g, off, cp, hv, _, n0, n1⟩ := ((UB I0).below b1).two
    simp only [Value.slice.injEq] at hv
    obtain ⟨rfl, _, rfl⟩ := hv
    go_wp2_with fail
    refine (UB hX _).mono ?_
    rintro e w2 ⟨rfl, rfl⟩
    go_wp2_with fail
    refine (UB hY _).mono ?_
    rintro e w2 ⟨rfl, rfl⟩
    go_wp2_with fail
    go_ret
    exact ⟨rfl, UG b0 b1⟩
  ·have e : numsOk nu = false := decide_eq_false (fun hh => h2 hh.1)
   rw [e]
   have h22 : ((nu.length : Int) == 2) = false := by rw [beq_eq_false_iff_ne]; omega
   go_enter Tryd.func95, Tryd.ntmps95
   go_wp2_with fail
   generalize w.alloc (.cells #[.slice a n.length cap, .slice ia nu.length ic] 71) = W at *
   refine (UB hU).mono ?_
   rintro e w1 ⟨rfl, b1⟩
   have k1 := UE b1 k0
   have c0 := VE k1 0
   have c1 := VE k1 1
   simp only [List.getElem?_toArray, List.getElem?_cons_zero, List.getElem?_cons_succ] at c0 c1
   go_wp2_with fail
   go_ret
   exact ⟨rfl, UG b0 b1⟩
theorem ta_aa (v : Value) (w : World) : Sem.run Tryd.prog (Instr.typeAssert (.iface 67 v) 50 67 true) w = .ok (.tuple #[v, .bool true]) w := by kernel_rfl
theorem ta_an (v : Value) (w : World) : Sem.run Tryd.prog (Instr.typeAssert (.iface 67 v) 50 69 true) w = .ok (.tuple #[.agg #[.slice none 0 0], .bool false]) w := by kernel_rfl
theorem ta_as (v : Value) (w : World) : Sem.run Tryd.prog (Instr.typeAssert (.iface 67 v) 50 71 true) w = .ok (.tuple #[.agg #[.slice none 0 0, .slice none 0 0], .bool false]) w := by kernel_rfl
theorem ta_ax (v : Value) (w : World) : Sem.run Tryd.prog (Instr.typeAssert (.iface 67 v) 50 73 true) w = .ok (.tuple #[.agg #[.slice none 0 0], .bool false]) w := by kernel_rfl
theorem ta_na (v : Value) (w : World) : Sem.run Tryd.prog (Instr.typeAssert (.iface 69 v) 50 67 true) w = .ok (.tuple #[.agg #[.int .i64 0], .bool false]) w := by kernel_rfl
theorem ta_nn (v : Value) (w : World) : Sem.run Tryd.prog (Instr.typeAssert (.iface 69 v) 50 69 true) w = .ok (.tuple #[v, .bool true]) w := by kernel_rfl
theorem ta_ns (v : Value) (w : World) : Sem.run Tryd.prog (Instr.typeAssert (.iface 69 v) 50 71 true) w = .ok (.tuple #[.agg #[.slice none 0 0, .slice none 0 0], .bool false]) w := by kernel_rfl
theorem ta_nx (v : Value) (w : World) : Sem.run Tryd.prog (Instr.typeAssert (.iface 69 v) 50 73 true) w = .ok (.tuple #[.agg #[.slice none 0 0], .bool false]) w := by kernel_rfl
theorem ta_sa (v : Value) (w : World) : Sem.run Tryd.prog (Instr.typeAssert (.iface 71 v) 50 67 true) w = .ok (.tuple #[.agg #[.int .i64 0], .bool false]) w := by kernel_rfl
theorem ta_sn (v : Value) (w : World) : Sem.run Tryd.prog (Instr.typeAssert (.iface 71 v) 50 69 true) w = .ok (.tuple #[.agg #[.slice none 0 0], .bool false]) w := by kernel_rfl
theorem ta_ss (v : Value) (w : World) : Sem.run Tryd.prog (Instr.typeAssert (.iface 71 v) 50 71 true) w = .ok (.tuple #[v, .bool true]) w := by kernel_rfl
theorem ta_sx (v : Value) (w : World) : Sem.run Tryd.prog (Instr.typeAssert (.iface 71 v) 50 73 true) w = .ok (.tuple #[.agg #[.slice none 0 0], .bool false]) w := by kernel_rfl
theorem ta_xa (v : Value) (w : World) : Sem.run Tryd.prog (Instr.typeAssert (.iface 73 v) 50 67 true) w = .ok (.tuple #[.agg #[.int .i64 0], .bool false]) w := by kernel_rfl
theorem ta_xn (v : Value) (w : World) : Sem.run Tryd.prog (Instr.typeAssert (.iface 73 v) 50 69 true) w = .ok (.tuple #[.agg #[.slice none 0 0], .bool false]) w := by kernel_rfl
theorem ta_xs (v : Value) (w : World) : Sem.run Tryd.prog (Instr.typeAssert (.iface 73 v) 50 71 true) w = .ok (.tuple #[.agg #[.slice none 0 0, .slice none 0 0], .bool false]) w := by kernel_rfl
theorem ta_xx (v : Value) (w : World) : Sem.run Tryd.prog (Instr.typeAssert (.iface 73 v) 50 73 true) w = .ok (.tuple #[v, .bool true]) w := by kernel_rfl
set_option maxHeartbeats 800000
set_option maxRecDepth 100000

theorem dataOf_A {na : Option Addr} {nc : Nat} {ta : Option Addr} {tc : Nat} {xa : Option Addr} {xc : Nat} {ia : Option Addr} {ic : Nat} {nm to : List (List Int)} {tx nu : List Int} {tt ad : Int} {w : World} : Calls Tryd.prog 25 #[.agg #[.slice na nm.length nc, .int .i64 1, .int .i64 tt, .int .i64 ad, .slice ta to.length tc, .slice xa tx.length xc, .slice ia nu.length ic]] w fun e w' => e = .returned (.iface 67 (.agg #[.int .i64 ad])) ∧ Below w.heap.size w w' := by
 have b0 := UI (w := w) (.cells #[.slice na nm.length nc, .int .i64 1, .int .i64 tt, .int .i64 ad, .slice ta to.length tc, .slice xa tx.length xc, .slice ia nu.length ic] 33)
 have ta := ta_aa
 have tn := ta_an
 have ts := ta_as
 have tx := ta_ax
 go_enter Tryd.func25, Tryd.ntmps25
 go_wp2_with fail
 refine (kindOf_any 1 _).mono ?_
 rw [show kindV 1 = .iface 67 (.agg #[.int .i64 0]) from rfl]
 rintro e w1 ⟨rfl, rfl⟩
 go_wp2
 go_ret
 exact ⟨rfl, b0⟩

theorem recordOf_A {na : Option Addr} {nc : Nat} {ta : Option Addr} {tc : Nat} {xa : Option Addr} {xc : Nat} {ia : Option Addr} {ic : Nat} {nm to : List (List Int)} {tx nu : List Int} {tt ad : Int} {w : World} : Calls Tryd.prog 46 #[.int .i64 1, .iface 67 (.agg #[.int .i64 ad])] w fun e w' => e = .returned (.agg #[.slice none 0 0, .int .i64 1, .int .i64 0, .int .i64 ad, .slice none 0 0, .slice none 0 0, .slice none 0 0]) ∧ Below w.heap.size w w' := by
 have ta := ta_aa
 have tn := ta_an
 have ts := ta_as
 have tx := ta_ax
 go_enter Tryd.func46, Tryd.ntmps46
 go_wp2
 go_returns
 exact ⟨rfl, by go_grown⟩

theorem dataOf_N {na : Option Addr} {nc : Nat} {ta : Option Addr} {tc : Nat} {xa : Option Addr} {xc : Nat} {ia : Option Addr} {ic : Nat} {nm to : List (List Int)} {tx nu : List Int} {tt ad : Int} {w : World} {ty : Int} (hk : kindV ty = .iface 69 (.agg #[.slice none 0 0])) (hto : typeOk ty = true) : Calls Tryd.prog 25 #[.agg #[.slice na nm.length nc, .int .i64 ty, .int .i64 tt, .int .i64 ad, .slice ta to.length tc, .slice xa tx.length xc, .slice ia nu.length ic]] w fun e w' => e = .returned (.iface 69 (.agg #[.slice ta to.length tc])) ∧ Below w.heap.size w w' := by
 have b0 := UI (w := w) (.cells #[.slice na nm.length nc, .int .i64 ty, .int .i64 tt, .int .i64 ad, .slice ta to.length tc, .slice xa tx.length xc, .slice ia nu.length ic] 33)
 have HK := UC hk
 clear hk
 have ta := ta_na
 have tn := ta_nn
 have ts := ta_ns
 have tx := ta_nx
 go_enter Tryd.func25, Tryd.ntmps25
 go_wp2_with fail
 refine (kindOf_any ty _).mono ?_
 rw [UB HK]
 rintro e w1 ⟨rfl, rfl⟩
 go_wp2
 go_ret
 exact ⟨rfl, b0⟩

theorem recordOf_N {na : Option Addr} {nc : Nat} {ta : Option Addr} {tc : Nat} {xa : Option Addr} {xc : Nat} {ia : Option Addr} {ic : Nat} {nm to : List (List Int)} {tx nu : List Int} {tt ad : Int} {w : World} {ty : Int} : Calls Tryd.prog 46 #[.int .i64 ty, .iface 69 (.agg #[.slice ta to.length tc])] w fun e w' => e = .returned (.agg #[.slice none 0 0, .int .i64 ty, .int .i64 0, .int .i64 0, .slice ta to.length tc, .slice none 0 0, .slice none 0 0]) ∧ Below w.heap.size w w' := by
 have ta := ta_na
 have tn := ta_nn
 have ts := ta_ns
 have tx := ta_nx
 go_enter Tryd.func46, Tryd.ntmps46
 go_wp2
 go_returns
 exact ⟨rfl, by go_grown⟩

theorem dataOf_S {na : Option Addr} {nc : Nat} {ta : Option Addr} {tc : Nat} {xa : Option Addr} {xc : Nat} {ia : Option Addr} {ic : Nat} {nm to : List (List Int)} {tx nu : List Int} {tt ad : Int} {w : World} : Calls Tryd.prog 25 #[.agg #[.slice na nm.length nc, .int .i64 6, .int .i64 tt, .int .i64 ad, .slice ta to.length tc, .slice xa tx.length xc, .slice ia nu.length ic]] w fun e w' => e = .returned (.iface 71 (.agg #[.slice ta to.length tc, .slice ia nu.length ic])) ∧ Below w.heap.size w w' := by
 have b0 := UI (w := w) (.cells #[.slice na nm.length nc, .int .i64 6, .int .i64 tt, .int .i64 ad, .slice ta to.length tc, .slice xa tx.length xc, .slice ia nu.length ic] 33)
 have ta := ta_sa
 have tn := ta_sn
 have ts := ta_ss
 have tx := ta_sx
 go_enter Tryd.func25, Tryd.ntmps25
 go_wp2_with fail
 refine (kindOf_any 6 _).mono ?_
 rw [show kindV 6 = .iface 71 (.agg #[.slice none 0 0, .slice none 0 0]) from rfl]
 rintro e w1 ⟨rfl, rfl⟩
 go_wp2
 go_ret
 exact ⟨rfl, b0⟩

theorem recordOf_S {na : Option Addr} {nc : Nat} {ta : Option Addr} {tc : Nat} {xa : Option Addr} {xc : Nat} {ia : Option Addr} {ic : Nat} {nm to : List (List Int)} {tx nu : List Int} {tt ad : Int} {w : World} : Calls Tryd.prog 46 #[.int .i64 6, .iface 71 (.agg #[.slice ta to.length tc, .slice ia nu.length ic])] w fun e w' => e = .returned (.agg #[.slice none 0 0, .int .i64 6, .int .i64 0, .int .i64 0, .slice ta to.length tc, .slice none 0 0, .slice ia nu.length ic]) ∧ Below w.heap.size w w' := by
 have ta := ta_sa
 have tn := ta_sn
 have ts := ta_ss
 have tx := ta_sx
 go_enter Tryd.func46, Tryd.ntmps46
 go_wp2
 go_region
 all_goals go_wp2
 all_goals
  go_returns
  exact ⟨rfl, by go_grown⟩

theorem dataOf_X {na : Option Addr} {nc : Nat} {ta : Option Addr} {tc : Nat} {xa : Option Addr} {xc : Nat} {ia : Option Addr} {ic : Nat} {nm to : List (List Int)} {tx nu : List Int} {tt ad : Int} {w : World} {ty : Int} (hk : kindV ty = .iface 73 (.agg #[.slice none 0 0])) (hto : typeOk ty = true) : Calls Tryd.prog 25 #[.agg #[.slice na nm.length nc, .int .i64 ty, .int .i64 tt, .int .i64 ad, .slice ta to.length tc, .slice xa tx.length xc, .slice ia nu.length ic]] w fun e w' => e = .returned (.iface 73 (.agg #[.slice xa tx.length xc])) ∧ Below w.heap.size w w' := by
 have b0 := UI (w := w) (.cells #[.slice na nm.length nc, .int .i64 ty, .int .i64 tt, .int .i64 ad, .slice ta to.length tc, .slice xa tx.length xc, .slice ia nu.length ic] 33)
 have HK := UC hk
 clear hk
 have ta := ta_xa
 have tn := ta_xn
 have ts := ta_xs
 have tx := ta_xx
 go_enter Tryd.func25, Tryd.ntmps25
 go_wp2_with fail
 refine (kindOf_any ty _).mono ?_
 rw [UB HK]
 rintro e w1 ⟨rfl, rfl⟩
 go_wp2
 go_ret
 exact ⟨rfl, b0⟩

theorem recordOf_X {na : Option Addr} {nc : Nat} {ta : Option Addr} {tc : Nat} {xa : Option Addr} {xc : Nat} {ia : Option Addr} {ic : Nat} {nm to : List (List Int)} {tx nu : List Int} {tt ad : Int} {w : World} {ty : Int} : Calls Tryd.prog 46 #[.int .i64 ty, .iface 73 (.agg #[.slice xa tx.length xc])] w fun e w' => e = .returned (.agg #[.slice none 0 0, .int .i64 ty, .int .i64 0, .int .i64 0, .slice none 0 0, .slice xa tx.length xc, .slice none 0 0]) ∧ Below w.heap.size w w' := by
 have ta := ta_xa
 have tn := ta_xn
 have ts := ta_xs
 have tx := ta_xx
 go_enter Tryd.func46, Tryd.ntmps46
 go_wp2
 go_returns
 exact ⟨rfl, by go_grown⟩

end Go.Proofs.YthmihglfffeedaaDoor
