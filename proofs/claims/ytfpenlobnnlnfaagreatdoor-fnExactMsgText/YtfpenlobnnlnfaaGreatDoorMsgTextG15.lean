/-
  Contracts of the program's data: dataOf, and whether each kind may be. What an assertion on the program's data answers. Contracts of the program's dataOf and recordOf, kind by kind. Contracts of the program's data: each kind's text. Contract of the program's typeText. A slice of bytes that is new and may be written to: what the library's contracts give. No program is named here. bytes.Join of four words with a blank between, by the library's contract.
-/
import Derived.Test.YtfpenlobnnlnfaaGreatDoorMsgTextG04
import Derived.Test.YtfpenlobnnlnfaaGreatDoorMsgTextG14
import Derived.Handy
import Derived.RegionTactic
import Derived.Test.YtfpenlobnnlnfaaGreatDoorMsgTextG11
import Derived.Lib.SlBytesConst
import Derived.Test.YtfpenlobnnlnfaaGreatDoorMsgTextG01
import Derived.Test.YtfpenlobnnlnfaaGreatDoorMsgTextG13
namespace Go.Proofs.YtfpenlobnnlnfaaGreatDoor
open Go.RowKit
set_option linter.unusedVariables false
set_option maxHeartbeats 800000
set_option maxRecDepth 100000

theorem addrOk_any (a : Int) (w : World) : Calls Tryz.prog 157 #[.agg #[.int .i64 a]] w fun e w' => e = .returned (.bool (decide (0 ≤ a ∧ a ≤ 4294967295))) ∧ Below w.heap.size w w' := by
 have b0 := UI (w := w) (.cells #[.int .i64 a] 148)
 have hU := UC (upTo_any a 4294967295)
 generalize decide (0 ≤ a ∧ a ≤ 4294967295) = D at *
 go_enter Tryz.func157, Tryz.ntmps157
 go_wp2_with fail
 refine (UB hU _).mono ?_
 rintro e w1 ⟨rfl, rfl⟩
 go_wp2
 go_ret
 exact ⟨rfl, b0⟩

theorem nameOkM_has {v : Value} {n : List (List Int)} {w : World} (h : HasL w v n) : Calls Tryz.prog 162 #[.agg #[v]] w fun e w' => e = .returned (.bool (nameOk n)) ∧ Below w.heap.size w w' := by
 obtain ⟨a, cap, rfl, _⟩ := h.form
 have b0 := UI (w := w) (.cells #[.slice a n.length cap] 150)
 have hU := UC (VP (h.below b0))
 clear h
 generalize nameOk n = D at *
 go_enter Tryz.func162, Tryz.ntmps162
 go_wp2_with fail
 refine (UB hU).mono ?_
 rintro e w1 ⟨rfl, b1⟩
 go_wp2
 go_ret
 exact ⟨rfl, UG b0 b1⟩

theorem textOk_has {v : Value} {l : List Int} {w : World} (h : Has w v l) : Calls Tryz.prog 170 #[.agg #[v]] w fun e w' => e = .returned (.bool (decide (l.length ≤ 40))) ∧ Below w.heap.size w w' := by
 obtain ⟨a, cap, rfl, _⟩ := h.form
 have b0 := UI (w := w) (.cells #[.slice a l.length cap] 154)
 clear h
 have e : decide (l.length ≤ 40) = decide ((l.length : Int) ≤ 40) := decide_eq_decide.2 (by omega)
 rw [e]
 go_enter Tryz.func170, Tryz.ntmps170
 go_wp2
 go_ret
 exact ⟨rfl, b0⟩

def numsOk (nu : List Int) : Bool := decide (nu.length = 2 ∧ 0 ≤ nu.getD 0 0 ∧ nu.getD 0 0 ≤ 4294967295 ∧ 0 ≤ nu.getD 1 0 ∧ nu.getD 1 0 ≤ 100000)

theorem soaOk_has {v vi : Value} {n : List (List Int)} {nu : List Int} {w : World} (h : HasL w v n) (hi : HasI w vi nu) : Calls Tryz.prog 166 #[.agg #[v, vi]] w fun e w' => e = .returned (.bool (nameOk n && numsOk nu)) ∧ Below w.heap.size w w' := by
 obtain ⟨a, cap, rfl, _⟩ := h.form
 obtain ⟨ia, ic, rfl, _⟩ := hi.form
 have b0 := UI (w := w) (.cells #[.slice a n.length cap, .slice ia nu.length ic] 152)
 have k0 := heap_alloc_new w (.cells #[.slice a n.length cap, .slice ia nu.length ic] 152)
 have hU := UC (VP (h.below b0))
 have I0 := UC (hi.below b0)
 clear h hi
 generalize nameOk n = D at *
 cases D with
 | false =>
  rw [Bool.false_and]
  go_enter Tryz.func166, Tryz.ntmps166
  go_wp2_with fail
  refine (UB hU).mono ?_
  rintro e w1 ⟨rfl, b1⟩
  go_wp2
  go_ret
  exact ⟨rfl, UG b0 b1⟩
 | true =>
  rw [Bool.true_and]
  by_cases h2 : nu.length = 2
  ·obtain ⟨x, y, rfl⟩ := two_of h2
   have e : numsOk [x, y] = (decide (0 ≤ x ∧ x ≤ 4294967295) && decide (0 ≤ y ∧ y ≤ 100000)) := by
    unfold numsOk
    rw [← Bool.decide_and]
    apply decide_eq_decide.2
    simp
    omega
   rw [e]
   simp only [List.length_cons, List.length_nil, Nat.zero_add, Nat.reduceAdd] at *
   have hX := UC (upTo_any x 4294967295)
   have hY := UC (upTo_any y 100000)
   generalize decide (0 ≤ x ∧ x ≤ 4294967295) = DX at *
   generalize decide (0 ≤ y ∧ y ≤ 100000) = DY at *
   clear h2 e
   cases DX with
   | false =>
    rw [Bool.false_and]
    go_enter Tryz.func166, Tryz.ntmps166
    go_wp2_with fail
    generalize w.alloc (.cells #[.slice a n.length cap, .slice ia 2 ic] 152) = W at *
    refine (UB hU).mono ?_
    rintro e w1 ⟨rfl, b1⟩
    have k1 := UE b1 k0
    have c0 := VE k1 0
    have c1 := VE k1 1
    simp only [List.getElem?_toArray, List.getElem?_cons_zero, List.getElem?_cons_succ] at c0 c1
    obtain ⟨g, off, cp, hv, _, n0, n1⟩ := ((UB I0).below b1).two
    simp only [Value.slice.injEq] at hv
    obtain ⟨rfl, _, rfl⟩ := hv
    go_wp2_with fail
    refine (UB hX _).mono ?_
    rintro e w2 ⟨rfl, rfl⟩
    go_wp2_with fail
    go_ret
    exact ⟨rfl, UG b0 b1⟩
   | true =>
    rw [Bool.true_and]
    go_enter Tryz.func166, Tryz.ntmps166
    go_wp2_with fail
    generalize w.alloc (.cells #[.slice a n.length cap, .slice ia 2 ic] 152) = W at *
    refine (UB hU).mono ?_
    rintro e w1 ⟨rfl, b1⟩
    have k1 := UE b1 k0
    have c0 := VE k1 0
    have c1 := VE k1 1
    simp only [List.getElem?_toArray, List.getElem?_cons_zero, List.getElem?_cons_succ] at c0 c1
    obtain ⟨g, off, cp, hv, _, n0, n1⟩ := ((UB I0).below b1).two
    simp only [Value.slice.injEq] at hv
    obtain ⟨rfl, _, rfl⟩ := hv
    go_wp2_with fail
    refine (UB hX _).mono ?_
    rintro e w2 ⟨rfl, rfl⟩
    go_wp2_with fail
    refine (UB hY _).mono ?_
    rintro e w2 ⟨rfl, rfl⟩
    go_wp2_with fail
    go_ret
    exact ⟨rfl, UG b0 b1⟩
  ·have e : numsOk nu = false := decide_eq_false (fun hh => h2 hh.1)
   rw [e]
   have h22 : ((nu.length : Int) == 2) = false := by rw [beq_eq_false_iff_ne]; omega
   go_enter Tryz.func166, Tryz.ntmps166
   go_wp2_with fail
   generalize w.alloc (.cells #[.slice a n.length cap, .slice ia nu.length ic] 152) = W at *
   refine (UB hU).mono ?_
   rintro e w1 ⟨rfl, b1⟩
   have k1 := UE b1 k0
   have c0 := VE k1 0
   have c1 := VE k1 1
   simp only [List.getElem?_toArray, List.getElem?_cons_zero, List.getElem?_cons_succ] at c0 c1
   go_wp2_with fail
   go_ret
   exact ⟨rfl, UG b0 b1⟩
theorem ta_aa (v : Value) (w : World) : Sem.run Tryz.prog (Instr.typeAssert (.iface 148 v) 122 148 true) w = .ok (.tuple #[v, .bool true]) w := by kernel_rfl
theorem ta_an (v : Value) (w : World) : Sem.run Tryz.prog (Instr.typeAssert (.iface 148 v) 122 150 true) w = .ok (.tuple #[.agg #[.slice none 0 0], .bool false]) w := by kernel_rfl
theorem ta_as (v : Value) (w : World) : Sem.run Tryz.prog (Instr.typeAssert (.iface 148 v) 122 152 true) w = .ok (.tuple #[.agg #[.slice none 0 0, .slice none 0 0], .bool false]) w := by kernel_rfl
theorem ta_ax (v : Value) (w : World) : Sem.run Tryz.prog (Instr.typeAssert (.iface 148 v) 122 154 true) w = .ok (.tuple #[.agg #[.slice none 0 0], .bool false]) w := by kernel_rfl
theorem ta_na (v : Value) (w : World) : Sem.run Tryz.prog (Instr.typeAssert (.iface 150 v) 122 148 true) w = .ok (.tuple #[.agg #[.int .i64 0], .bool false]) w := by kernel_rfl
theorem ta_nn (v : Value) (w : World) : Sem.run Tryz.prog (Instr.typeAssert (.iface 150 v) 122 150 true) w = .ok (.tuple #[v, .bool true]) w := by kernel_rfl
theorem ta_ns (v : Value) (w : World) : Sem.run Tryz.prog (Instr.typeAssert (.iface 150 v) 122 152 true) w = .ok (.tuple #[.agg #[.slice none 0 0, .slice none 0 0], .bool false]) w := by kernel_rfl
theorem ta_nx (v : Value) (w : World) : Sem.run Tryz.prog (Instr.typeAssert (.iface 150 v) 122 154 true) w = .ok (.tuple #[.agg #[.slice none 0 0], .bool false]) w := by kernel_rfl
theorem ta_sa (v : Value) (w : World) : Sem.run Tryz.prog (Instr.typeAssert (.iface 152 v) 122 148 true) w = .ok (.tuple #[.agg #[.int .i64 0], .bool false]) w := by kernel_rfl
theorem ta_sn (v : Value) (w : World) : Sem.run Tryz.prog (Instr.typeAssert (.iface 152 v) 122 150 true) w = .ok (.tuple #[.agg #[.slice none 0 0], .bool false]) w := by kernel_rfl
theorem ta_ss (v : Value) (w : World) : Sem.run Tryz.prog (Instr.typeAssert (.iface 152 v) 122 152 true) w = .ok (.tuple #[v, .bool true]) w := by kernel_rfl
theorem ta_sx (v : Value) (w : World) : Sem.run Tryz.prog (Instr.typeAssert (.iface 152 v) 122 154 true) w = .ok (.tuple #[.agg #[.slice none 0 0], .bool false]) w := by kernel_rfl
theorem ta_xa (v : Value) (w : World) : Sem.run Tryz.prog (Instr.typeAssert (.iface 154 v) 122 148 true) w = .ok (.tuple #[.agg #[.int .i64 0], .bool false]) w := by kernel_rfl
theorem ta_xn (v : Value) (w : World) : Sem.run Tryz.prog (Instr.typeAssert (.iface 154 v) 122 150 true) w = .ok (.tuple #[.agg #[.slice none 0 0], .bool false]) w := by kernel_rfl
theorem ta_xs (v : Value) (w : World) : Sem.run Tryz.prog (Instr.typeAssert (.iface 154 v) 122 152 true) w = .ok (.tuple #[.agg #[.slice none 0 0, .slice none 0 0], .bool false]) w := by kernel_rfl
theorem ta_xx (v : Value) (w : World) : Sem.run Tryz.prog (Instr.typeAssert (.iface 154 v) 122 154 true) w = .ok (.tuple #[v, .bool true]) w := by kernel_rfl
set_option maxHeartbeats 800000
set_option maxRecDepth 100000

theorem dataOf_A {na : Option Addr} {nc : Nat} {ta : Option Addr} {tc : Nat} {xa : Option Addr} {xc : Nat} {ia : Option Addr} {ic : Nat} {nm to : List (List Int)} {tx nu : List Int} {tt ad : Int} {w : World} : Calls Tryz.prog 84 #[.agg #[.slice na nm.length nc, .int .i64 1, .int .i64 tt, .int .i64 ad, .slice ta to.length tc, .slice xa tx.length xc, .slice ia nu.length ic]] w fun e w' => e = .returned (.iface 148 (.agg #[.int .i64 ad])) ∧ Below w.heap.size w w' := by
 have b0 := UI (w := w) (.cells #[.slice na nm.length nc, .int .i64 1, .int .i64 tt, .int .i64 ad, .slice ta to.length tc, .slice xa tx.length xc, .slice ia nu.length ic] 77)
 have ta := ta_aa
 have tn := ta_an
 have ts := ta_as
 have tx := ta_ax
 go_enter Tryz.func84, Tryz.ntmps84
 go_wp2_with fail
 refine (kindOf_any 1 _).mono ?_
 rw [show kindV 1 = .iface 148 (.agg #[.int .i64 0]) from rfl]
 rintro e w1 ⟨rfl, rfl⟩
 go_wp2
 go_ret
 exact ⟨rfl, b0⟩

theorem recordOf_A {na : Option Addr} {nc : Nat} {ta : Option Addr} {tc : Nat} {xa : Option Addr} {xc : Nat} {ia : Option Addr} {ic : Nat} {nm to : List (List Int)} {tx nu : List Int} {tt ad : Int} {w : World} : Calls Tryz.prog 114 #[.int .i64 1, .iface 148 (.agg #[.int .i64 ad])] w fun e w' => e = .returned (.agg #[.slice none 0 0, .int .i64 1, .int .i64 0, .int .i64 ad, .slice none 0 0, .slice none 0 0, .slice none 0 0]) ∧ Below w.heap.size w w' := by
 have ta := ta_aa
 have tn := ta_an
 have ts := ta_as
 have tx := ta_ax
 go_enter Tryz.func114, Tryz.ntmps114
 go_wp2
 go_returns
 exact ⟨rfl, by go_grown⟩

theorem dataOf_N {na : Option Addr} {nc : Nat} {ta : Option Addr} {tc : Nat} {xa : Option Addr} {xc : Nat} {ia : Option Addr} {ic : Nat} {nm to : List (List Int)} {tx nu : List Int} {tt ad : Int} {w : World} {ty : Int} (hk : kindV ty = .iface 150 (.agg #[.slice none 0 0])) (hto : typeOk ty = true) : Calls Tryz.prog 84 #[.agg #[.slice na nm.length nc, .int .i64 ty, .int .i64 tt, .int .i64 ad, .slice ta to.length tc, .slice xa tx.length xc, .slice ia nu.length ic]] w fun e w' => e = .returned (.iface 150 (.agg #[.slice ta to.length tc])) ∧ Below w.heap.size w w' := by
 have b0 := UI (w := w) (.cells #[.slice na nm.length nc, .int .i64 ty, .int .i64 tt, .int .i64 ad, .slice ta to.length tc, .slice xa tx.length xc, .slice ia nu.length ic] 77)
 have HK := UC hk
 clear hk
 have ta := ta_na
 have tn := ta_nn
 have ts := ta_ns
 have tx := ta_nx
 go_enter Tryz.func84, Tryz.ntmps84
 go_wp2_with fail
 refine (kindOf_any ty _).mono ?_
 rw [UB HK]
 rintro e w1 ⟨rfl, rfl⟩
 go_wp2
 go_ret
 exact ⟨rfl, b0⟩

theorem recordOf_N {na : Option Addr} {nc : Nat} {ta : Option Addr} {tc : Nat} {xa : Option Addr} {xc : Nat} {ia : Option Addr} {ic : Nat} {nm to : List (List Int)} {tx nu : List Int} {tt ad : Int} {w : World} {ty : Int} : Calls Tryz.prog 114 #[.int .i64 ty, .iface 150 (.agg #[.slice ta to.length tc])] w fun e w' => e = .returned (.agg #[.slice none 0 0, .int .i64 ty, .int .i64 0, .int .i64 0, .slice ta to.length tc, .slice none 0 0, .slice none 0 0]) ∧ Below w.heap.size w w' := by
 have ta := ta_na
 have tn := ta_nn
 have ts := ta_ns
 have tx := ta_nx
 go_enter Tryz.func114, Tryz.ntmps114
 go_wp2
 go_returns
 exact ⟨rfl, by go_grown⟩

theorem dataOf_S {na : Option Addr} {nc : Nat} {ta : Option Addr} {tc : Nat} {xa : Option Addr} {xc : Nat} {ia : Option Addr} {ic : Nat} {nm to : List (List Int)} {tx nu : List Int} {tt ad : Int} {w : World} : Calls Tryz.prog 84 #[.agg #[.slice na nm.length nc, .int .i64 6, .int .i64 tt, .int .i64 ad, .slice ta to.length tc, .slice xa tx.length xc, .slice ia nu.length ic]] w fun e w' => e = .returned (.iface 152 (.agg #[.slice ta to.length tc, .slice ia nu.length ic])) ∧ Below w.heap.size w w' := by
 have b0 := UI (w := w) (.cells #[.slice na nm.length nc, .int .i64 6, .int .i64 tt, .int .i64 ad, .slice ta to.length tc, .slice xa tx.length xc, .slice ia nu.length ic] 77)
 have ta := ta_sa
 have tn := ta_sn
 have ts := ta_ss
 have tx := ta_sx
 go_enter Tryz.func84, Tryz.ntmps84
 go_wp2_with fail
 refine (kindOf_any 6 _).mono ?_
 rw [show kindV 6 = .iface 152 (.agg #[.slice none 0 0, .slice none 0 0]) from rfl]
 rintro e w1 ⟨rfl, rfl⟩
 go_wp2
 go_ret
 exact ⟨rfl, b0⟩

theorem recordOf_S {na : Option Addr} {nc : Nat} {ta : Option Addr} {tc : Nat} {xa : Option Addr} {xc : Nat} {ia : Option Addr} {ic : Nat} {nm to : List (List Int)} {tx nu : List Int} {tt ad : Int} {w : World} : Calls Tryz.prog 114 #[.int .i64 6, .iface 152 (.agg #[.slice ta to.length tc, .slice ia nu.length ic])] w fun e w' => e = .returned (.agg #[.slice none 0 0, .int .i64 6, .int .i64 0, .int .i64 0, .slice ta to.length tc, .slice none 0 0, .slice ia nu.length ic]) ∧ Below w.heap.size w w' := by
 have ta := ta_sa
 have tn := ta_sn
 have ts := ta_ss
 have tx := ta_sx
 go_enter Tryz.func114, Tryz.ntmps114
 go_wp2
 go_region
 all_goals go_wp2
 all_goals
  go_returns
  exact ⟨rfl, by go_grown⟩

theorem dataOf_X {na : Option Addr} {nc : Nat} {ta : Option Addr} {tc : Nat} {xa : Option Addr} {xc : Nat} {ia : Option Addr} {ic : Nat} {nm to : List (List Int)} {tx nu : List Int} {tt ad : Int} {w : World} {ty : Int} (hk : kindV ty = .iface 154 (.agg #[.slice none 0 0])) (hto : typeOk ty = true) : Calls Tryz.prog 84 #[.agg #[.slice na nm.length nc, .int .i64 ty, .int .i64 tt, .int .i64 ad, .slice ta to.length tc, .slice xa tx.length xc, .slice ia nu.length ic]] w fun e w' => e = .returned (.iface 154 (.agg #[.slice xa tx.length xc])) ∧ Below w.heap.size w w' := by
 have b0 := UI (w := w) (.cells #[.slice na nm.length nc, .int .i64 ty, .int .i64 tt, .int .i64 ad, .slice ta to.length tc, .slice xa tx.length xc, .slice ia nu.length ic] 77)
 have HK := UC hk
 clear hk
 have ta := ta_xa
 have tn := ta_xn
 have ts := ta_xs
 have tx := ta_xx
 go_enter Tryz.func84, Tryz.ntmps84
 go_wp2_with fail
 refine (kindOf_any ty _).mono ?_
 rw [UB HK]
 rintro e w1 ⟨rfl, rfl⟩
 go_wp2
 go_ret
 exact ⟨rfl, b0⟩

theorem recordOf_X {na : Option Addr} {nc : Nat} {ta : Option Addr} {tc : Nat} {xa : Option Addr} {xc : Nat} {ia : Option Addr} {ic : Nat} {nm to : List (List Int)} {tx nu : List Int} {tt ad : Int} {w : World} {ty : Int} : Calls Tryz.prog 114 #[.int .i64 ty, .iface 154 (.agg #[.slice xa tx.length xc])] w fun e w' => e = .returned (.agg #[.slice none 0 0, .int .i64 ty, .int .i64 0, .int .i64 0, .slice none 0 0, .slice xa tx.length xc, .slice none 0 0]) ∧ Below w.heap.size w w' := by
 have ta := ta_xa
 have tn := ta_xn
 have ts := ta_xs
 have tx := ta_xx
 go_enter Tryz.func114, Tryz.ntmps114
 go_wp2
 go_returns
 exact ⟨rfl, by go_grown⟩

set_option maxHeartbeats 1000000
set_option maxRecDepth 100000

theorem appendInt_own2 {B : Nat} {v : Value} {l : List Int} (x : Int) {w : World} (h : Own B 5 w v l) (hl : l.length ≤ 1048576) (h0 : 0 ≤ x) (h1 : x ≤ 4294967295) (hB : B ≤ w.heap.size) (ht : Lib.TabBelow Tryz.prog B w "internal/strconv.uint64pow10" .u64 Lib.pow10Tab) :
  Calls Tryz.prog 82 #[v, .int .i64 x, .int .i64 10] w fun e w' => ∃ v', e = .returned v' ∧ Own B 5 w' v' (l ++ digs x) ∧ Below B w w' := by
 refine (Tryz.strconv_AppendInt_10 B l.length x (by omega) (by omega) v (l.map (Value.int .u8)) w h hB (by omega) ht).mono ?_
 rintro e w' ⟨v', rfl, o, b, _⟩
 refine ⟨v', rfl, ?_, b⟩
 rw [cells_digs x h0, itoa_digs x h0] at o
 unfold Own
 rw [List.length_append, List.map_append]
 exact o
theorem addrWords_has (a : Int) {w : World} (ht : Pow10 w) : Calls Tryz.prog 159 #[.agg #[.int .i64 a]] w fun e w' => ∃ v', e = .returned v' ∧ Own w.heap.size 5 w' v' (dotted a) ∧ Below w.heap.size w w' := by
 have b0 := UI (w := w) (.cells #[.int .i64 a] 148)
 have hP := UC (implDotted_any a (ht.below b0))
 clear ht
 generalize dotted a = G at *
 go_enter Tryz.func159, Tryz.ntmps159
 go_wp2_with fail
 refine (UB hP).mono ?_
 rintro e w1 ⟨v1, rfl, o1, b1⟩
 go_wp2_with fail
 go_ret
 exact ⟨v1, rfl, o1.mono b0.size, UG b0 b1⟩
theorem nameWords_has {a : Option Addr} {cap : Nat} {n : List (List Int)} {w : World} (h : HasL w (.slice a n.length cap) n) (ht : Pow10 w) : Calls Tryz.prog 164 #[.agg #[.slice a n.length cap]] w fun e w' => ∃ v', e = .returned v' ∧ Own w.heap.size 5 w' v' (nameText n) ∧ Below w.heap.size w w' := by
 have b0 := UI (w := w) (.cells #[.slice a n.length cap] 150)
 have hP := UC (implNameText_has (h.below b0))
 clear h ht
 generalize nameText n = G at *
 go_enter Tryz.func164, Tryz.ntmps164
 go_wp2_with fail
 refine (UB hP).mono ?_
 rintro e w1 ⟨v1, rfl, o1, b1⟩
 go_wp2_with fail
 go_ret
 exact ⟨v1, rfl, o1.mono b0.size, UG b0 b1⟩
theorem soaWords_has {a : Option Addr} {cap : Nat} {n : List (List Int)} {ia : Option Addr} {ic : Nat} {x y : Int} {w : World} (h : HasL w (.slice a n.length cap) n) (hi : HasI w (.slice ia 2 ic) [x, y]) (hx0 : 0 ≤ x) (hx1 : x ≤ 4294967295) (hy0 : 0 ≤ y) (hy1 : y ≤ 4294967295) (ht : Pow10 w) :
  Calls Tryz.prog 168 #[.agg #[.slice a n.length cap, .slice ia 2 ic]] w fun e w' => ∃ v', e = .returned v' ∧ Own w.heap.size 5 w' v' (nameText n ++ [32] ++ digs x ++ [32] ++ digs y) ∧ Below w.heap.size w w' := by
 have b0 := UI (w := w) (.cells #[.slice a n.length cap, .slice ia 2 ic] 152)
 have k0 := heap_alloc_new w (.cells #[.slice a n.length cap, .slice ia 2 ic] 152)
 have HP := UC (implNameText_has (h.below b0))
 have I0 := UC (hi.below b0)
 have HT := UC (ht.below b0)
 have l1 := nameText_length n
 have lx := digs_ten hx0 hx1
 have ly := digs_ten hy0 hy1
 clear h hi ht
 generalize nameText n = G1 at *
 obtain ⟨G2, hG2⟩ : ∃ G, G = G1 ++ [32] ++ digs x := ⟨_, rfl⟩
 obtain ⟨G3, hG3⟩ : ∃ G, G = G2 ++ [32] ++ digs y := ⟨_, rfl⟩
 have l2 : G2.length ≤ 120 := by rw [hG2]; simp only [List.length_append, List.length_cons, List.length_nil]; omega
 have e3 : G1 ++ [32] ++ digs x ++ [32] ++ digs y = G3 := by rw [hG3, hG2]
 rw [e3]
 have HG2 := UC hG2
 have HG3 := UC hG3
 clear hG2 hG3 e3
 go_enter Tryz.func168, Tryz.ntmps168
 go_wp2_with fail
 generalize w.alloc (.cells #[.slice a n.length cap, .slice ia 2 ic] 152) = W at *
 refine (UB HP).mono ?_
 rintro e w1 ⟨v1, rfl, o1, b1⟩
 have ht1 := UC (Lib.tabBelow_of_tabIs (UB HT))
 have bb1 := b1
 have k1 := UE b1 k0
 have c1 := VE k1 1
 simp only [List.getElem?_toArray, List.getElem?_cons_zero, List.getElem?_cons_succ] at c1
 have z1 := b1.size
 have z0 := b0.size
 have o1' := UC o1
 clear k0 b1 k1 o1
 go_wp2
 go_loopw [3, 12] (fun o i wr => ∃ k : Nat, k ≤ 2 ∧ i = .int .i64 k ∧ Own W.heap.size 5 wr o (if k = 0 then G1 else if k = 1 then G2 else G3) ∧ Below W.heap.size W wr) (fun _ i _ => 2 - (intOf i).toNat)
 case atStart => exact ⟨0, by omega, rfl, UB o1', bb1⟩
 case round =>
  obtain ⟨k, hk, rfl, ho, hb⟩ := hrel
  obtain ⟨g, off, cp, hv, hg, n0, n1⟩ := ((UB I0).below hb).two
  simp only [Value.slice.injEq] at hv
  obtain ⟨rfl, _, rfl⟩ := hv
  have zb := hb.size
  by_cases e0 : k = 0
  ·subst e0
   go_wp2_with (at_builtin; refine append_bytes rfl _ _ 28 5 rfl Tryz.underlying28 VJ W.heap.size u3 _ G1 [32] rfl rfl (ho.alloc _) (own_lit wr 0 5 [32] (Nat.zero_le _) (by simp [maxLen])).reads (by simp; omega) (by simp; omega) ?_)
   intro v2 w2 o2 g2
   have b2 : Below W.heap.size W w2 := (hb.alloc hb.size _).grown g2 (by simp; omega) (fun q hq => (ho.lt q hq).1)
   clear g2
   have z2 := b2.size
   go_wp2_with fail
   refine (appendInt_own2 x o2 (by simp; omega) hx0 hx1 z2 ((UB ht1).on b2)).mono ?_
   rintro e w3 ⟨v3, rfl, o3, b3⟩
   go_wp2_with fail
   exact ⟨⟨1, by omega, by go_num, (by rw [UB HG2]; exact o3), b2.trans b3⟩, by simp [intOf]⟩
  by_cases e1 : k = 1
  ·subst e1
   go_wp2_with (at_builtin; refine append_bytes rfl _ _ 28 5 rfl Tryz.underlying28 VJ W.heap.size u3 _ G2 [32] rfl rfl (ho.alloc _) (own_lit wr 0 5 [32] (Nat.zero_le _) (by simp [maxLen])).reads (by simp; omega) (by simp; omega) ?_)
   intro v2 w2 o2 g2
   have b2 : Below W.heap.size W w2 := (hb.alloc hb.size _).grown g2 (by simp; omega) (fun q hq => (ho.lt q hq).1)
   clear g2
   have z2 := b2.size
   go_wp2_with fail
   refine (appendInt_own2 y o2 (by simp; omega) hy0 hy1 z2 ((UB ht1).on b2)).mono ?_
   rintro e w3 ⟨v3, rfl, o3, b3⟩
   go_wp2_with fail
   exact ⟨⟨2, by omega, by go_num, (by rw [UB HG3]; exact o3), b2.trans b3⟩, by simp [intOf]⟩
  ·obtain rfl : k = 2 := by omega
   go_wp2_with fail
   go_ret
   exact ⟨_, rfl, ho.mono z0, UG b0 hb⟩
set_option maxHeartbeats 400000
set_option maxRecDepth 100000

theorem typeText_1 {w : World} :
  Calls Tryz.prog 83 #[.int .i64 1] w fun e w' => ∃ v', e = .returned v' ∧ Has w' v' [65] ∧ Below w.heap.size w w' := by
 have hcid := fun (C : Array Value) (n c : Nat) => Lib.run_convert_bytes_const (P := Tryz.prog) w 28 5 C n c Tryz.underlying28 Tryz.underlying5
 have HH := UC (has_const w 5 [65] (1, 2) (by simp [maxLen]))
 go_enter Tryz.func83, Tryz.ntmps83
 go_wp2
 go_ret
 exact ⟨_, rfl, UB HH, (Below.refl _ _).alloc (Nat.le_refl _) _⟩
theorem typeText_2 {w : World} :
  Calls Tryz.prog 83 #[.int .i64 2] w fun e w' => ∃ v', e = .returned v' ∧ Has w' v' [78, 83] ∧ Below w.heap.size w w' := by
 have hcid := fun (C : Array Value) (n c : Nat) => Lib.run_convert_bytes_const (P := Tryz.prog) w 28 5 C n c Tryz.underlying28 Tryz.underlying5
 have HH := UC (has_const w 5 [78, 83] (2, 3) (by simp [maxLen]))
 go_enter Tryz.func83, Tryz.ntmps83
 go_wp2
 go_ret
 exact ⟨_, rfl, UB HH, (Below.refl _ _).alloc (Nat.le_refl _) _⟩
theorem typeText_5 {w : World} :
  Calls Tryz.prog 83 #[.int .i64 5] w fun e w' => ∃ v', e = .returned v' ∧ Has w' v' [67, 78, 65, 77, 69] ∧ Below w.heap.size w w' := by
 have hcid := fun (C : Array Value) (n c : Nat) => Lib.run_convert_bytes_const (P := Tryz.prog) w 28 5 C n c Tryz.underlying28 Tryz.underlying5
 have HH := UC (has_const w 5 [67, 78, 65, 77, 69] (5, 6) (by simp [maxLen]))
 go_enter Tryz.func83, Tryz.ntmps83
 go_wp2
 go_ret
 exact ⟨_, rfl, UB HH, (Below.refl _ _).alloc (Nat.le_refl _) _⟩
theorem typeText_6 {w : World} :
  Calls Tryz.prog 83 #[.int .i64 6] w fun e w' => ∃ v', e = .returned v' ∧ Has w' v' [83, 79, 65] ∧ Below w.heap.size w w' := by
 have hcid := fun (C : Array Value) (n c : Nat) => Lib.run_convert_bytes_const (P := Tryz.prog) w 28 5 C n c Tryz.underlying28 Tryz.underlying5
 have HH := UC (has_const w 5 [83, 79, 65] (3, 4) (by simp [maxLen]))
 go_enter Tryz.func83, Tryz.ntmps83
 go_wp2
 go_ret
 exact ⟨_, rfl, UB HH, (Below.refl _ _).alloc (Nat.le_refl _) _⟩
theorem typeText_12 {w : World} :
  Calls Tryz.prog 83 #[.int .i64 12] w fun e w' => ∃ v', e = .returned v' ∧ Has w' v' [80, 84, 82] ∧ Below w.heap.size w w' := by
 have hcid := fun (C : Array Value) (n c : Nat) => Lib.run_convert_bytes_const (P := Tryz.prog) w 28 5 C n c Tryz.underlying28 Tryz.underlying5
 have HH := UC (has_const w 5 [80, 84, 82] (3, 4) (by simp [maxLen]))
 go_enter Tryz.func83, Tryz.ntmps83
 go_wp2
 go_ret
 exact ⟨_, rfl, UB HH, (Below.refl _ _).alloc (Nat.le_refl _) _⟩
theorem typeText_16 {w : World} :
  Calls Tryz.prog 83 #[.int .i64 16] w fun e w' => ∃ v', e = .returned v' ∧ Has w' v' [84, 88, 84] ∧ Below w.heap.size w w' := by
 have hcid := fun (C : Array Value) (n c : Nat) => Lib.run_convert_bytes_const (P := Tryz.prog) w 28 5 C n c Tryz.underlying28 Tryz.underlying5
 have HH := UC (has_const w 5 [84, 88, 84] (3, 4) (by simp [maxLen]))
 go_enter Tryz.func83, Tryz.ntmps83
 go_wp2
 go_ret
 exact ⟨_, rfl, UB HH, (Below.refl _ _).alloc (Nat.le_refl _) _⟩
theorem typeText_49 {w : World} :
  Calls Tryz.prog 83 #[.int .i64 49] w fun e w' => ∃ v', e = .returned v' ∧ Has w' v' [68, 72, 67, 73, 68] ∧ Below w.heap.size w w' := by
 have hcid := fun (C : Array Value) (n c : Nat) => Lib.run_convert_bytes_const (P := Tryz.prog) w 28 5 C n c Tryz.underlying28 Tryz.underlying5
 have HH := UC (has_const w 5 [68, 72, 67, 73, 68] (5, 6) (by simp [maxLen]))
 go_enter Tryz.func83, Tryz.ntmps83
 go_wp2
 go_ret
 exact ⟨_, rfl, UB HH, (Below.refl _ _).alloc (Nat.le_refl _) _⟩
theorem implTypeText_has {t : Int} {w : World} (h : typeOk t = true) :
  Calls Tryz.prog 83 #[.int .i64 t] w fun e w' => ∃ v', e = .returned v' ∧ Has w' v' (typeT t) ∧ Below w.heap.size w w' := by
 have ht : t = 1 ∨ t = 2 ∨ t = 5 ∨ t = 6 ∨ t = 12 ∨ t = 16 ∨ t = 49 := of_decide_eq_true h
 rcases ht with rfl | rfl | rfl | rfl | rfl | rfl | rfl
 ·exact typeText_1
 ·exact typeText_2
 ·exact typeText_5
 ·exact typeText_6
 ·exact typeText_12
 ·exact typeText_16
 ·exact typeText_49
def Fr (B E : Nat) (w : World) (v : Value) (l : List Int) : Prop :=
 (v = .slice none 0 0 ∧ l = []) ∨ ∃ g cap, v = .slice (some ⟨g, 0, none⟩) l.length cap ∧ B ≤ g ∧ g < E ∧ g < w.heap.size ∧ l.length ≤ cap ∧ cap ≤ maxLen ∧ ∀ i, i < l.length → w.cell? ⟨g, i, none⟩ = some (.int .u8 (l.getD i 0)) ∧ w.frozen? ⟨g, i, none⟩ = false
theorem Fr.has {B E : Nat} {w : World} {v : Value} {l : List Int} (h : Fr B E w v l) : Has w v l := by
 rcases h with h | ⟨g, cap, rfl, _, _, hg, hc, hm, hh⟩
 ·exact .inl h
 ·exact .inr ⟨g, 0, cap, rfl, hg, hc, hm, fun i hi => by rw [Nat.zero_add]; exact (hh i hi).1⟩
theorem Fr.outside {B E C D : Nat} {w w' : World} {v : Value} {l : List Int} (h : Fr B E w v l) (u : Outside C D w w') (hd : E ≤ C ∨ D ≤ B) : Fr B E w' v l := by
 rcases h with h | ⟨g, cap, rfl, hB, hE, hg, hc, hm, hh⟩
 ·exact .inl h
 ·have hk := u.block g hg (by omega)
  exact .inr ⟨g, cap, rfl, hB, hE, Nat.lt_of_lt_of_le hg u.size, hc, hm, fun i hi => by
   rw [World.cell?_of_block (a := ⟨g, i, none⟩) hk, World.frozen?_of_block (a := ⟨g, i, none⟩) hk]
   exact hh i hi⟩
theorem Fr.below {B E : Nat} {w w' : World} {v : Value} {l : List Int} (h : Fr B E w v l) (hb : Below w.heap.size w w') : Fr B E w' v l := by
 rcases h with h | ⟨g, cap, rfl, hB, hE, hg, hc, hm, hh⟩
 ·exact .inl h
 ·have hk := hb.block g hg
  exact .inr ⟨g, cap, rfl, hB, hE, Nat.lt_of_lt_of_le hg hb.size, hc, hm, fun i hi => by
   rw [World.cell?_of_block (a := ⟨g, i, none⟩) hk, World.frozen?_of_block (a := ⟨g, i, none⟩) hk]
   exact hh i hi⟩
theorem Fr.lies {B E : Nat} {w : World} {v : Value} {l : List Int} (h : Fr B E w v l) : ∃ a cap, v = .slice a l.length cap ∧ Lies w a l := by
 rcases h with ⟨rfl, rfl⟩ | ⟨g, cap, rfl, hB, hE, hg, hc, hm, hh⟩
 ·exact ⟨none, 0, rfl, .inl rfl⟩
 ·exact ⟨_, cap, rfl, .inr ⟨g, 0, rfl, hg, fun i hi => by rw [Nat.zero_add]; exact (hh i hi).1⟩⟩

theorem Fr.here {B E : Nat} {w : World} {v : Value} {l : List Int} (h : Fr B E w v l) : Fr B E w v l := h
theorem fr_nil (B E : Nat) (w : World) : Fr B E w (.slice none 0 0) [] := .inl ⟨rfl, rfl⟩
theorem Fr.of {B : Nat} {w : World} {v : Value} {l : List Int} (h : FrB B w v l) (h0 : 0 < l.length) : Fr B w.heap.size w v l := by
 obtain ⟨g, cap, rfl, hB, hc, hm, hh⟩ := h
 exact .inr ⟨g, cap, rfl, hB, cell_lt (hh 0 h0).1, cell_lt (hh 0 h0).1, hc, hm, hh⟩
theorem join4 {w : World} {g : Nat} {v1 v2 v3 v4 sv : Value} {a b c d : List Int} (k : w.heap[g]? = some (.cells #[v1, v2, v3, v4] 28)) (h1 : Has w v1 a) (h2 : Has w v2 b) (h3 : Has w v3 c) (h4 : Has w v4 d) (hs : Has w sv [32])
  (ha : Byt a) (hb : Byt b) (hc : Byt c) (hd : Byt d) (hl : a.length + b.length + c.length + d.length ≤ 1000) :
  Calls Tryz.prog 85 #[.slice (some ⟨g, 0, none⟩) 4 4, sv] w fun e w' => ∃ v', e = .returned v' ∧ Fr w.heap.size w'.heap.size w' v' (a ++ [32] ++ b ++ [32] ++ c ++ [32] ++ d) ∧ Below w.heap.size w w' := by
 have hP : Lib.PartsAt w ⟨g, 0, none⟩ [v1, v2, v3, v4] [u8s a, u8s b, u8s c, u8s d] := by
  refine ⟨rfl, fun i v hv => ?_, fun i v l hv hl => ?_⟩
  ·rw [Addr.add_lit, Nat.zero_add]
   have := VE k i
   rw [List.getElem?_toArray, hv] at this
   exact this
  ·match i, hv, hl with
   | 0, hv, hl => cases hv; cases hl; exact h1.holds ha
   | 1, hv, hl => cases hv; cases hl; exact h2.holds hb
   | 2, hv, hl => cases hv; cases hl; exact h3.holds hc
   | 3, hv, hl => cases hv; cases hl; exact h4.holds hd
   | i + 4, hv, hl => simp at hv
 have hS : Lib.HoldsBytes w sv [32] := hs.holds (l := [32]) (fun x hx => by have := List.mem_singleton.1 hx; omega)
 refine (Tryz.bytes_Join_many g 0 4 4 [v1, v2, v3, v4] [u8s a, u8s b, u8s c, u8s d] sv [32] w rfl (by omega) hP (by omega) hS (by omega) (by simp [Lib.lens, u8s_length]; omega)).mono ?_
 rintro e w' ⟨v', rfl, hf, hbw⟩
 rw [u8s_join] at hf
 have hby : Byt (a ++ [32] ++ b ++ [32] ++ c ++ [32] ++ d) := by
  have h32 : Byt [32] := fun x hx => by have := List.mem_singleton.1 hx; omega
  exact (((((ha.app h32).app hb).app h32).app hc).app h32).app hd
 exact ⟨v', rfl, Fr.of (FrB.of hby hf) (by simp only [List.length_append, List.length_cons, List.length_nil]; omega), hbw⟩
end Go.Proofs.YtfpenlobnnlnfaaGreatDoor
