/-
  Contracts of the program's data: dataOf, and whether each kind may be. What an assertion on the program's data answers. Contracts of the program's dataOf and recordOf, kind by kind. Contracts of the program's nothingElse. Contracts of the program's RrOk where name and time may be, for one kind of data. Contracts of the program's RrOk where name and time may be, for one kind of data.
-/
import Derived.Test.YtfneahdnpmamkaaGreatFnOwnersG34
import Derived.Handy
namespace Go.Proofs.YtfneahdnpmamkaaGreat
open Go.RowKit
set_option linter.unusedVariables false
set_option maxHeartbeats 800000
set_option maxRecDepth 100000

theorem Nn (a : Int) (w : World) : Calls Tryz.prog 145 #[.agg #[.int .i64 a]] w fun e w' => e = .returned (.bool (decide (0 ≤ a ∧ a ≤ 4294967295))) ∧ Below w.heap.size w w' := by
 have b0 := UI (w := w) (.cells #[.int .i64 a] 125)
 have hU := UC (N7 a 4294967295)
 generalize decide (0 ≤ a ∧ a ≤ 4294967295) = D at *
 go_enter Tryz.func145, Tryz.ntmps145
 go_wp2_with fail
 refine (UB hU _).mono ?_
 rintro e w1 ⟨rfl, rfl⟩
 go_wp2
 go_ret
 exact ⟨rfl, b0⟩

theorem Lw {v : Value} {n : List (List Int)} {w : World} (h : HasL w v n) : Calls Tryz.prog 150 #[.agg #[v]] w fun e w' => e = .returned (.bool (Ag n)) ∧ Below w.heap.size w w' := by
 obtain ⟨a, cap, rfl, _⟩ := h.form
 have b0 := UI (w := w) (.cells #[.slice a n.length cap] 127)
 have hU := UC (VP (h.below b0))
 clear h
 generalize Ag n = D at *
 go_enter Tryz.func150, Tryz.ntmps150
 go_wp2_with fail
 refine (UB hU).mono ?_
 rintro e w1 ⟨rfl, b1⟩
 go_wp2
 go_ret
 exact ⟨rfl, UG b0 b1⟩

theorem Nt {v : Value} {l : List Int} {w : World} (h : Has w v l) : Calls Tryz.prog 160 #[.agg #[v]] w fun e w' => e = .returned (.bool (decide (l.length ≤ 40))) ∧ Below w.heap.size w w' := by
 obtain ⟨a, cap, rfl, _⟩ := h.form
 have b0 := UI (w := w) (.cells #[.slice a l.length cap] 131)
 clear h
 have e : decide (l.length ≤ 40) = decide ((l.length : Int) ≤ 40) := decide_eq_decide.2 (by omega)
 rw [e]
 go_enter Tryz.func160, Tryz.ntmps160
 go_wp2
 go_ret
 exact ⟨rfl, b0⟩

def Gz (nu : List Int) : Bool := decide (nu.length = 2 ∧ 0 ≤ nu.getD 0 0 ∧ nu.getD 0 0 ≤ 4294967295 ∧ 0 ≤ nu.getD 1 0 ∧ nu.getD 1 0 ≤ 100000)

theorem Pl {v vi : Value} {n : List (List Int)} {nu : List Int} {w : World} (h : HasL w v n) (hi : HasI w vi nu) : Calls Tryz.prog 156 #[.agg #[v, vi]] w fun e w' => e = .returned (.bool (Ag n && Gz nu)) ∧ Below w.heap.size w w' := by
 obtain ⟨a, cap, rfl, _⟩ := h.form
 obtain ⟨ia, ic, rfl, _⟩ := hi.form
 have b0 := UI (w := w) (.cells #[.slice a n.length cap, .slice ia nu.length ic] 129)
 have k0 := heap_alloc_new w (.cells #[.slice a n.length cap, .slice ia nu.length ic] 129)
 have hU := UC (VP (h.below b0))
 have I0 := UC (hi.below b0)
 clear h hi
 generalize Ag n = D at *
 cases D with
 | false =>
  rw [Bool.false_and]
  go_enter Tryz.func156, Tryz.ntmps156
  go_wp2_with fail
  refine (UB hU).mono ?_
  rintro e w1 ⟨rfl, b1⟩
  go_wp2
  go_ret
  exact ⟨rfl, UG b0 b1⟩
 | true =>
  rw [Bool.true_and]
  by_cases h2 : nu.length = 2
  ·obtain ⟨x, y, rfl⟩ := Q1 h2
   have e : Gz [x, y] = (decide (0 ≤ x ∧ x ≤ 4294967295) && decide (0 ≤ y ∧ y ≤ 100000)) := by
    unfold Gz
    rw [← Bool.decide_and]
    apply decide_eq_decide.2
    simp
    omega
   rw [e]
   simp only [List.length_cons, List.length_nil, Nat.zero_add, Nat.reduceAdd] at *
   have hX := UC (N7 x 4294967295)
   have hY := UC (N7 y 100000)
   generalize decide (0 ≤ x ∧ x ≤ 4294967295) = DX at *
   generalize decide (0 ≤ y ∧ y ≤ 100000) = DY at *
   clear h2 e
   cases DX with
   | false =>
    rw [Bool.false_and]
    go_enter Tryz.func156, Tryz.ntmps156
    go_wp2_with fail
    generalize w.alloc (.cells #[.slice a n.length cap, .slice ia 2 ic] 129) = W at *
    refine (UB hU).mono ?_
    rintro e w1 ⟨rfl, b1⟩
    have k1 := UE b1 k0
    have c0 := VE k1 0
    have c1 := VE k1 1
    simp only [List.getElem?_toArray, List.getElem?_cons_zero, List.getElem?_cons_succ] at c0 c1
    obtain ⟨g, off, cp, hv, _, n0, n1⟩ := ((UB I0).below b1).two
    simp only [Value.slice.injEq] at hv
    obtain ⟨rfl, _, rfl⟩ := hv
    go_wp2_with fail
    refine (UB hX _).mono ?_
    rintro e w2 ⟨rfl, rfl⟩
    go_wp2_with fail
    go_ret
    exact ⟨rfl, UG b0 b1⟩
   | true =>
    rw [Bool.true_and]
    go_enter Tryz.func156, Tryz.ntmps156
    go_wp2_with fail
    generalize w.alloc (.cells #[.slice a n.length cap, .slice ia 2 ic] 129) = W at *
    refine (UB hU).mono ?_
    rintro e w1 ⟨rfl, b1⟩
    have k1 := UE b1 k0
    have c0 := VE k1 0
    have c1 := VE k1 1
    simp only [List.getElem?_toArray, List.getElem?_cons_zero, List.getElem?_cons_succ] at c0 c1
    obtain ⟨g, off, cp, hv, _, n0, n1⟩ := ((UB I0).below b1).two
    simp only [Value.slice.injEq] at hv
    obtain ⟨rfl, _, rfl⟩ := hv
    go_wp2_with fail
    refine (UB hX _).mono ?_
    rintro e w2 ⟨rfl, rfl⟩
    go_wp2_with fail
    refine (UB hY _).mono ?_
    rintro e w2 ⟨rfl, rfl⟩
    go_wp2_with fail
    go_ret
    exact ⟨rfl, UG b0 b1⟩
  ·have e : Gz nu = false := decide_eq_false (fun hh => h2 hh.1)
   rw [e]
   have h22 : ((nu.length : Int) == 2) = false := by rw [beq_eq_false_iff_ne]; omega
   go_enter Tryz.func156, Tryz.ntmps156
   go_wp2_with fail
   generalize w.alloc (.cells #[.slice a n.length cap, .slice ia nu.length ic] 129) = W at *
   refine (UB hU).mono ?_
   rintro e w1 ⟨rfl, b1⟩
   have k1 := UE b1 k0
   have c0 := VE k1 0
   have c1 := VE k1 1
   simp only [List.getElem?_toArray, List.getElem?_cons_zero, List.getElem?_cons_succ] at c0 c1
   go_wp2_with fail
   go_ret
   exact ⟨rfl, UG b0 b1⟩
theorem ta_aa (v : Value) (w : World) : Sem.run Tryz.prog (Instr.typeAssert (.iface 125 v) 116 125 true) w = .ok (.tuple #[v, .bool true]) w := by kernel_rfl
theorem ta_an (v : Value) (w : World) : Sem.run Tryz.prog (Instr.typeAssert (.iface 125 v) 116 127 true) w = .ok (.tuple #[.agg #[.slice none 0 0], .bool false]) w := by kernel_rfl
theorem ta_as (v : Value) (w : World) : Sem.run Tryz.prog (Instr.typeAssert (.iface 125 v) 116 129 true) w = .ok (.tuple #[.agg #[.slice none 0 0, .slice none 0 0], .bool false]) w := by kernel_rfl
theorem ta_ax (v : Value) (w : World) : Sem.run Tryz.prog (Instr.typeAssert (.iface 125 v) 116 131 true) w = .ok (.tuple #[.agg #[.slice none 0 0], .bool false]) w := by kernel_rfl
theorem ta_na (v : Value) (w : World) : Sem.run Tryz.prog (Instr.typeAssert (.iface 127 v) 116 125 true) w = .ok (.tuple #[.agg #[.int .i64 0], .bool false]) w := by kernel_rfl
theorem ta_nn (v : Value) (w : World) : Sem.run Tryz.prog (Instr.typeAssert (.iface 127 v) 116 127 true) w = .ok (.tuple #[v, .bool true]) w := by kernel_rfl
theorem ta_ns (v : Value) (w : World) : Sem.run Tryz.prog (Instr.typeAssert (.iface 127 v) 116 129 true) w = .ok (.tuple #[.agg #[.slice none 0 0, .slice none 0 0], .bool false]) w := by kernel_rfl
theorem ta_nx (v : Value) (w : World) : Sem.run Tryz.prog (Instr.typeAssert (.iface 127 v) 116 131 true) w = .ok (.tuple #[.agg #[.slice none 0 0], .bool false]) w := by kernel_rfl
theorem ta_sa (v : Value) (w : World) : Sem.run Tryz.prog (Instr.typeAssert (.iface 129 v) 116 125 true) w = .ok (.tuple #[.agg #[.int .i64 0], .bool false]) w := by kernel_rfl
theorem ta_sn (v : Value) (w : World) : Sem.run Tryz.prog (Instr.typeAssert (.iface 129 v) 116 127 true) w = .ok (.tuple #[.agg #[.slice none 0 0], .bool false]) w := by kernel_rfl
theorem ta_ss (v : Value) (w : World) : Sem.run Tryz.prog (Instr.typeAssert (.iface 129 v) 116 129 true) w = .ok (.tuple #[v, .bool true]) w := by kernel_rfl
theorem ta_sx (v : Value) (w : World) : Sem.run Tryz.prog (Instr.typeAssert (.iface 129 v) 116 131 true) w = .ok (.tuple #[.agg #[.slice none 0 0], .bool false]) w := by kernel_rfl
theorem ta_xa (v : Value) (w : World) : Sem.run Tryz.prog (Instr.typeAssert (.iface 131 v) 116 125 true) w = .ok (.tuple #[.agg #[.int .i64 0], .bool false]) w := by kernel_rfl
theorem ta_xn (v : Value) (w : World) : Sem.run Tryz.prog (Instr.typeAssert (.iface 131 v) 116 127 true) w = .ok (.tuple #[.agg #[.slice none 0 0], .bool false]) w := by kernel_rfl
theorem ta_xs (v : Value) (w : World) : Sem.run Tryz.prog (Instr.typeAssert (.iface 131 v) 116 129 true) w = .ok (.tuple #[.agg #[.slice none 0 0, .slice none 0 0], .bool false]) w := by kernel_rfl
theorem ta_xx (v : Value) (w : World) : Sem.run Tryz.prog (Instr.typeAssert (.iface 131 v) 116 131 true) w = .ok (.tuple #[v, .bool true]) w := by kernel_rfl
set_option maxHeartbeats 800000
set_option maxRecDepth 100000

theorem Ic {na : Option Addr} {nc : Nat} {ta : Option Addr} {tc : Nat} {xa : Option Addr} {xc : Nat} {ia : Option Addr} {ic : Nat} {nm to : List (List Int)} {tx nu : List Int} {tt ad : Int} {w : World} : Calls Tryz.prog 93 #[.agg #[.slice na nm.length nc, .int .i64 1, .int .i64 tt, .int .i64 ad, .slice ta to.length tc, .slice xa tx.length xc, .slice ia nu.length ic]] w fun e w' => e = .returned (.iface 125 (.agg #[.int .i64 ad])) ∧ Below w.heap.size w w' := by
 have b0 := UI (w := w) (.cells #[.slice na nm.length nc, .int .i64 1, .int .i64 tt, .int .i64 ad, .slice ta to.length tc, .slice xa tx.length xc, .slice ia nu.length ic] 39)
 have ta := ta_aa
 have tn := ta_an
 have ts := ta_as
 have tx := ta_ax
 go_enter Tryz.func93, Tryz.ntmps93
 go_wp2_with fail
 refine (Fs 1 _).mono ?_
 rw [show Ed 1 = .iface 125 (.agg #[.int .i64 0]) from rfl]
 rintro e w1 ⟨rfl, rfl⟩
 go_wp2
 go_ret
 exact ⟨rfl, b0⟩

theorem Mt {na : Option Addr} {nc : Nat} {ta : Option Addr} {tc : Nat} {xa : Option Addr} {xc : Nat} {ia : Option Addr} {ic : Nat} {nm to : List (List Int)} {tx nu : List Int} {tt ad : Int} {w : World} : Calls Tryz.prog 95 #[.int .i64 1, .iface 125 (.agg #[.int .i64 ad])] w fun e w' => e = .returned (.agg #[.slice none 0 0, .int .i64 1, .int .i64 0, .int .i64 ad, .slice none 0 0, .slice none 0 0, .slice none 0 0]) ∧ Below w.heap.size w w' := by
 have ta := ta_aa
 have tn := ta_an
 have ts := ta_as
 have tx := ta_ax
 go_enter Tryz.func95, Tryz.ntmps95
 go_wp2
 go_returns
 exact ⟨rfl, by go_grown⟩

theorem It {na : Option Addr} {nc : Nat} {ta : Option Addr} {tc : Nat} {xa : Option Addr} {xc : Nat} {ia : Option Addr} {ic : Nat} {nm to : List (List Int)} {tx nu : List Int} {tt ad : Int} {w : World} {ty : Int} (hk : Ed ty = .iface 127 (.agg #[.slice none 0 0])) (hto : Ax ty = true) : Calls Tryz.prog 93 #[.agg #[.slice na nm.length nc, .int .i64 ty, .int .i64 tt, .int .i64 ad, .slice ta to.length tc, .slice xa tx.length xc, .slice ia nu.length ic]] w fun e w' => e = .returned (.iface 127 (.agg #[.slice ta to.length tc])) ∧ Below w.heap.size w w' := by
 have b0 := UI (w := w) (.cells #[.slice na nm.length nc, .int .i64 ty, .int .i64 tt, .int .i64 ad, .slice ta to.length tc, .slice xa tx.length xc, .slice ia nu.length ic] 39)
 have HK := UC hk
 clear hk
 have ta := ta_na
 have tn := ta_nn
 have ts := ta_ns
 have tx := ta_nx
 go_enter Tryz.func93, Tryz.ntmps93
 go_wp2_with fail
 refine (Fs ty _).mono ?_
 rw [UB HK]
 rintro e w1 ⟨rfl, rfl⟩
 go_wp2
 go_ret
 exact ⟨rfl, b0⟩

theorem Mq {na : Option Addr} {nc : Nat} {ta : Option Addr} {tc : Nat} {xa : Option Addr} {xc : Nat} {ia : Option Addr} {ic : Nat} {nm to : List (List Int)} {tx nu : List Int} {tt ad : Int} {w : World} {ty : Int} : Calls Tryz.prog 95 #[.int .i64 ty, .iface 127 (.agg #[.slice ta to.length tc])] w fun e w' => e = .returned (.agg #[.slice none 0 0, .int .i64 ty, .int .i64 0, .int .i64 0, .slice ta to.length tc, .slice none 0 0, .slice none 0 0]) ∧ Below w.heap.size w w' := by
 have ta := ta_na
 have tn := ta_nn
 have ts := ta_ns
 have tx := ta_nx
 go_enter Tryz.func95, Tryz.ntmps95
 go_wp2
 go_returns
 exact ⟨rfl, by go_grown⟩

theorem Ip {na : Option Addr} {nc : Nat} {ta : Option Addr} {tc : Nat} {xa : Option Addr} {xc : Nat} {ia : Option Addr} {ic : Nat} {nm to : List (List Int)} {tx nu : List Int} {tt ad : Int} {w : World} : Calls Tryz.prog 93 #[.agg #[.slice na nm.length nc, .int .i64 6, .int .i64 tt, .int .i64 ad, .slice ta to.length tc, .slice xa tx.length xc, .slice ia nu.length ic]] w fun e w' => e = .returned (.iface 129 (.agg #[.slice ta to.length tc, .slice ia nu.length ic])) ∧ Below w.heap.size w w' := by
 have b0 := UI (w := w) (.cells #[.slice na nm.length nc, .int .i64 6, .int .i64 tt, .int .i64 ad, .slice ta to.length tc, .slice xa tx.length xc, .slice ia nu.length ic] 39)
 have ta := ta_sa
 have tn := ta_sn
 have ts := ta_ss
 have tx := ta_sx
 go_enter Tryz.func93, Tryz.ntmps93
 go_wp2_with fail
 refine (Fs 6 _).mono ?_
 rw [show Ed 6 = .iface 129 (.agg #[.slice none 0 0, .slice none 0 0]) from rfl]
 rintro e w1 ⟨rfl, rfl⟩
 go_wp2
 go_ret
 exact ⟨rfl, b0⟩

theorem Mn {na : Option Addr} {nc : Nat} {ta : Option Addr} {tc : Nat} {xa : Option Addr} {xc : Nat} {ia : Option Addr} {ic : Nat} {nm to : List (List Int)} {tx nu : List Int} {tt ad : Int} {w : World} : Calls Tryz.prog 95 #[.int .i64 6, .iface 129 (.agg #[.slice ta to.length tc, .slice ia nu.length ic])] w fun e w' => e = .returned (.agg #[.slice none 0 0, .int .i64 6, .int .i64 0, .int .i64 0, .slice ta to.length tc, .slice none 0 0, .slice ia nu.length ic]) ∧ Below w.heap.size w w' := by
 have ta := ta_sa
 have tn := ta_sn
 have ts := ta_ss
 have tx := ta_sx
 go_enter Tryz.func95, Tryz.ntmps95
 go_wp2
 go_region
 all_goals go_wp2
 all_goals
  go_returns
  exact ⟨rfl, by go_grown⟩

theorem Ik {na : Option Addr} {nc : Nat} {ta : Option Addr} {tc : Nat} {xa : Option Addr} {xc : Nat} {ia : Option Addr} {ic : Nat} {nm to : List (List Int)} {tx nu : List Int} {tt ad : Int} {w : World} {ty : Int} (hk : Ed ty = .iface 131 (.agg #[.slice none 0 0])) (hto : Ax ty = true) : Calls Tryz.prog 93 #[.agg #[.slice na nm.length nc, .int .i64 ty, .int .i64 tt, .int .i64 ad, .slice ta to.length tc, .slice xa tx.length xc, .slice ia nu.length ic]] w fun e w' => e = .returned (.iface 131 (.agg #[.slice xa tx.length xc])) ∧ Below w.heap.size w w' := by
 have b0 := UI (w := w) (.cells #[.slice na nm.length nc, .int .i64 ty, .int .i64 tt, .int .i64 ad, .slice ta to.length tc, .slice xa tx.length xc, .slice ia nu.length ic] 39)
 have HK := UC hk
 clear hk
 have ta := ta_xa
 have tn := ta_xn
 have ts := ta_xs
 have tx := ta_xx
 go_enter Tryz.func93, Tryz.ntmps93
 go_wp2_with fail
 refine (Fs ty _).mono ?_
 rw [UB HK]
 rintro e w1 ⟨rfl, rfl⟩
 go_wp2
 go_ret
 exact ⟨rfl, b0⟩

theorem Mj {na : Option Addr} {nc : Nat} {ta : Option Addr} {tc : Nat} {xa : Option Addr} {xc : Nat} {ia : Option Addr} {ic : Nat} {nm to : List (List Int)} {tx nu : List Int} {tt ad : Int} {w : World} {ty : Int} : Calls Tryz.prog 95 #[.int .i64 ty, .iface 131 (.agg #[.slice xa tx.length xc])] w fun e w' => e = .returned (.agg #[.slice none 0 0, .int .i64 ty, .int .i64 0, .int .i64 0, .slice none 0 0, .slice xa tx.length xc, .slice none 0 0]) ∧ Below w.heap.size w w' := by
 have ta := ta_xa
 have tn := ta_xn
 have ts := ta_xs
 have tx := ta_xx
 go_enter Tryz.func95, Tryz.ntmps95
 go_wp2
 go_returns
 exact ⟨rfl, by go_grown⟩

set_option maxHeartbeats 800000 in
set_option maxRecDepth 100000 in
theorem Bw {na na' ta ta' xa xa' ia ia' : Option Addr} {nl nl' nc nc' tl tl' tc tc' xl xl' xc xc' il il' ic ic' : Nat} {ty ty' tt tt' ad ad' : Int} {w : World} :
  Calls Tryz.prog 94 #[.agg #[.slice na nl nc, .int .i64 ty, .int .i64 tt, .int .i64 ad, .slice ta tl tc, .slice xa xl xc, .slice ia il ic], .agg #[.slice na' nl' nc', .int .i64 ty', .int .i64 tt', .int .i64 ad', .slice ta' tl' tc', .slice xa' xl' xc', .slice ia' il' ic']] w fun e w' => e = .returned (.bool (decide (ad = ad' ∧ tl = tl' ∧ xl = xl' ∧ il = il'))) ∧ Below w.heap.size w w' := by
 have b0 := Bl w (.cells #[.slice na nl nc, .int .i64 ty, .int .i64 tt, .int .i64 ad, .slice ta tl tc, .slice xa xl xc, .slice ia il ic] 39) (.cells #[.slice na' nl' nc', .int .i64 ty', .int .i64 tt', .int .i64 ad', .slice ta' tl' tc', .slice xa' xl' xc', .slice ia' il' ic'] 39)

 by_cases h0 : ad ≠ ad'
 ·rw [decide_eq_false (by intro hh; exact h0 hh.1)]
  have e0 : (ad == ad') = false := by rw [beq_eq_false_iff_ne]; omega
  go_enter Tryz.func94, Tryz.ntmps94
  go_wp2
  go_ret
  exact ⟨rfl, Bl _ _ _⟩
 replace h0 : ad = ad' := by omega
 have e0 : (ad == ad') = true := by rw [beq_iff_eq]; omega
 by_cases h1 : tl ≠ tl'
 ·rw [decide_eq_false (by intro hh; exact h1 hh.2.1)]
  have e1 : ((tl : Int) == (tl' : Int)) = false := by rw [beq_eq_false_iff_ne]; omega
  go_enter Tryz.func94, Tryz.ntmps94
  go_wp2
  go_ret
  exact ⟨rfl, Bl _ _ _⟩
 replace h1 : tl = tl' := by omega
 have e1 : ((tl : Int) == (tl' : Int)) = true := by rw [beq_iff_eq]; omega
 by_cases h2 : xl ≠ xl'
 ·rw [decide_eq_false (by intro hh; exact h2 hh.2.2.1)]
  have e2 : ((xl : Int) == (xl' : Int)) = false := by rw [beq_eq_false_iff_ne]; omega
  go_enter Tryz.func94, Tryz.ntmps94
  go_wp2
  go_ret
  exact ⟨rfl, Bl _ _ _⟩
 replace h2 : xl = xl' := by omega
 have e2 : ((xl : Int) == (xl' : Int)) = true := by rw [beq_iff_eq]; omega
 by_cases h3 : il ≠ il'
 ·rw [decide_eq_false (by intro hh; exact h3 hh.2.2.2)]
  have e3 : ((il : Int) == (il' : Int)) = false := by rw [beq_eq_false_iff_ne]; omega
  go_enter Tryz.func94, Tryz.ntmps94
  go_wp2
  go_ret
  exact ⟨rfl, Bl _ _ _⟩
 replace h3 : il = il' := by omega
 have e3 : ((il : Int) == (il' : Int)) = true := by rw [beq_iff_eq]; omega
 rw [decide_eq_true ⟨h0, h1, h2, h3⟩]
 clear h0 h1 h2 h3
 go_enter Tryz.func94, Tryz.ntmps94
 go_wp2
 go_ret
 exact ⟨rfl, Bl _ _ _⟩
set_option maxHeartbeats 1000000
set_option maxRecDepth 100000


theorem L9 {na : Option Addr} {nc : Nat} {ta : Option Addr} {tc : Nat} {xa : Option Addr} {xc : Nat} {ia : Option Addr} {ic : Nat} {nm to : List (List Int)} {tx nu : List Int} {tt ad : Int} {w : World} (h : HasR w (.slice na nm.length nc) (.slice ta to.length tc) (.slice xa tx.length xc) (.slice ia nu.length ic) ⟨nm, 1, tt, ad, to, tx, nu⟩) (hN : Ag nm = true) (ht0 : 0 ≤ tt) (ht1 : tt ≤ 100000) (hD : decide (0 ≤ ad ∧ ad ≤ 4294967295) = true) :
  Calls Tryz.prog 67 #[.agg #[.slice na nm.length nc, .int .i64 1, .int .i64 tt, .int .i64 ad, .slice ta to.length tc, .slice xa tx.length xc, .slice ia nu.length ic]] w fun e w' => e = .returned (.bool (decide (ad = ad ∧ to.length = 0 ∧ tx.length = 0 ∧ nu.length = 0))) ∧ Below w.heap.size w w' := by
 have b0 := UI (w := w) (.cells #[.slice na nm.length nc, .int .i64 1, .int .i64 tt, .int .i64 ad, .slice ta to.length tc, .slice xa tx.length xc, .slice ia nu.length ic] 39)
 have K0 := UC (heap_alloc_new w (.cells #[.slice na nm.length nc, .int .i64 1, .int .i64 tt, .int .i64 ad, .slice ta to.length tc, .slice xa tx.length xc, .slice ia nu.length ic] 39))
 have H0 := UC (h.below b0)
 have HN := UC hN
 clear h hN
 have NE := UC (fun (w : World) => Bw (w := w) (na := na) (nl := nm.length) (nc := nc) (ty := 1) (tt := tt) (ad := ad) (ta := ta) (tl := to.length) (tc := tc) (xa := xa) (xl := tx.length) (xc := xc) (ia := ia) (il := nu.length) (ic := ic) (na' := none) (nl' := 0) (nc' := 0) (ty' := 1) (tt' := 0) (ad' := ad) (ta' := none) (tl' := 0) (tc' := 0) (xa' := none) (xl' := 0) (xc' := 0) (ia' := none) (il' := 0) (ic' := 0))
 generalize decide (ad = ad ∧ to.length = 0 ∧ tx.length = 0 ∧ nu.length = 0) = E at *
 have OKC := UC (fun (w : World) (HH : HasR w (.slice na nm.length nc) (.slice ta to.length tc) (.slice xa tx.length xc) (.slice ia nu.length ic) ⟨nm, 1, tt, ad, to, tx, nu⟩) => Nn ad w)
 have OKD := UC (fun (w : World) (HH : HasR w (.slice na nm.length nc) (.slice ta to.length tc) (.slice xa tx.length xc) (.slice ia nu.length ic) ⟨nm, 1, tt, ad, to, tx, nu⟩) => (show Calls Tryz.prog 145 #[.agg #[.int .i64 ad]] w fun e w' => e = .returned (.bool true) ∧ Below w.heap.size w w' by rw [← hD]; exact UB OKC w HH))
 clear OKC hD
 go_enter Tryz.func67, Tryz.ntmps67
 go_wp2_with fail
 generalize w.alloc (.cells #[.slice na nm.length nc, .int .i64 1, .int .i64 tt, .int .i64 ad, .slice ta to.length tc, .slice xa tx.length xc, .slice ia nu.length ic] 39) = W at *
 refine (VP (show HasL W (.slice na nm.length nc) nm from (UB H0).name)).mono ?_
 rw [UB HN]
 rintro e w1 ⟨rfl, b1⟩
 have bb1 := UG b0 b1
 have K1 := UC (UE b1 (UB K0))
 have H1 := UC ((UB H0).below b1)
 clear b0 b1 K0 H0
 obtain ⟨d0, d1, d2, d3, d4, d5, d6⟩ := UJ (UB K1)
 go_wp2_with fail
 refine (Bf 1 _).mono ?_
 rw [show Ax 1 = true from rfl]
 rintro e w2 ⟨rfl, rfl⟩
 go_wp2_with fail
 refine (Cz _ ht0 ht1).mono ?_
 rintro e w2 ⟨rfl, rfl⟩
 go_wp2_with fail
 refine (Ic).mono ?_
 rintro e w2 ⟨rfl, b2⟩
 clear d0 d1 d2 d3 d4 d5 d6
 have b2 := UG b2 (UX (w := w2))
 have bb2 := UG bb1 b2
 have K2 := UC (UE b2 (UB K1))
 have H2 := UC ((UB H1).below b2)
 clear bb1 b2 K1 H1
 go_wp2_with fail
 go_region_with (first
  | (go_at_call 145; refine (UB OKD _ (UB H2)).mono ?_; rintro e w3 ⟨rfl, b3⟩; obtain ⟨d0, d1, d2, d3, d4, d5, d6⟩ := UJ (UE b3 (UB K2)))
  | (go_at_call 95; refine (Mt (na := na) (nc := nc) (ta := ta) (tc := tc) (xa := xa) (xc := xc) (ia := ia) (ic := ic) (nm := nm) (to := to) (tx := tx) (nu := nu) (tt := tt) (ad := ad)).mono ?_; rintro e w4 ⟨rfl, b4⟩; have q4 := UG b3 b4; obtain ⟨d0, d1, d2, d3, d4, d5, d6⟩ := UJ (UE q4 (UB K2)))
  | (go_at_call 94; refine (UB NE _).mono ?_; rintro e w5 ⟨rfl, b5⟩; have q5 := UG q4 b5))
 all_goals
  go_wp2_with fail
  go_ret
  first | exact ⟨rfl, UG bb2 q5⟩ | exact ⟨rfl, UG bb2 b3⟩


theorem Lb {na : Option Addr} {nc : Nat} {ta : Option Addr} {tc : Nat} {xa : Option Addr} {xc : Nat} {ia : Option Addr} {ic : Nat} {nm to : List (List Int)} {tx nu : List Int} {tt ad : Int} {w : World} (h : HasR w (.slice na nm.length nc) (.slice ta to.length tc) (.slice xa tx.length xc) (.slice ia nu.length ic) ⟨nm, 1, tt, ad, to, tx, nu⟩) (hN : Ag nm = true) (ht0 : 0 ≤ tt) (ht1 : tt ≤ 100000) (hD : decide (0 ≤ ad ∧ ad ≤ 4294967295) = false) :
  Calls Tryz.prog 67 #[.agg #[.slice na nm.length nc, .int .i64 1, .int .i64 tt, .int .i64 ad, .slice ta to.length tc, .slice xa tx.length xc, .slice ia nu.length ic]] w fun e w' => e = .returned (.bool false) ∧ Below w.heap.size w w' := by
 have b0 := UI (w := w) (.cells #[.slice na nm.length nc, .int .i64 1, .int .i64 tt, .int .i64 ad, .slice ta to.length tc, .slice xa tx.length xc, .slice ia nu.length ic] 39)
 have K0 := UC (heap_alloc_new w (.cells #[.slice na nm.length nc, .int .i64 1, .int .i64 tt, .int .i64 ad, .slice ta to.length tc, .slice xa tx.length xc, .slice ia nu.length ic] 39))
 have H0 := UC (h.below b0)
 have HN := UC hN
 clear h hN
 have NE := UC (fun (w : World) => Bw (w := w) (na := na) (nl := nm.length) (nc := nc) (ty := 1) (tt := tt) (ad := ad) (ta := ta) (tl := to.length) (tc := tc) (xa := xa) (xl := tx.length) (xc := xc) (ia := ia) (il := nu.length) (ic := ic) (na' := none) (nl' := 0) (nc' := 0) (ty' := 1) (tt' := 0) (ad' := ad) (ta' := none) (tl' := 0) (tc' := 0) (xa' := none) (xl' := 0) (xc' := 0) (ia' := none) (il' := 0) (ic' := 0))
 skip
 have OKC := UC (fun (w : World) (HH : HasR w (.slice na nm.length nc) (.slice ta to.length tc) (.slice xa tx.length xc) (.slice ia nu.length ic) ⟨nm, 1, tt, ad, to, tx, nu⟩) => Nn ad w)
 have OKD := UC (fun (w : World) (HH : HasR w (.slice na nm.length nc) (.slice ta to.length tc) (.slice xa tx.length xc) (.slice ia nu.length ic) ⟨nm, 1, tt, ad, to, tx, nu⟩) => (show Calls Tryz.prog 145 #[.agg #[.int .i64 ad]] w fun e w' => e = .returned (.bool false) ∧ Below w.heap.size w w' by rw [← hD]; exact UB OKC w HH))
 clear OKC hD
 go_enter Tryz.func67, Tryz.ntmps67
 go_wp2_with fail
 generalize w.alloc (.cells #[.slice na nm.length nc, .int .i64 1, .int .i64 tt, .int .i64 ad, .slice ta to.length tc, .slice xa tx.length xc, .slice ia nu.length ic] 39) = W at *
 refine (VP (show HasL W (.slice na nm.length nc) nm from (UB H0).name)).mono ?_
 rw [UB HN]
 rintro e w1 ⟨rfl, b1⟩
 have bb1 := UG b0 b1
 have K1 := UC (UE b1 (UB K0))
 have H1 := UC ((UB H0).below b1)
 clear b0 b1 K0 H0
 obtain ⟨d0, d1, d2, d3, d4, d5, d6⟩ := UJ (UB K1)
 go_wp2_with fail
 refine (Bf 1 _).mono ?_
 rw [show Ax 1 = true from rfl]
 rintro e w2 ⟨rfl, rfl⟩
 go_wp2_with fail
 refine (Cz _ ht0 ht1).mono ?_
 rintro e w2 ⟨rfl, rfl⟩
 go_wp2_with fail
 refine (Ic).mono ?_
 rintro e w2 ⟨rfl, b2⟩
 clear d0 d1 d2 d3 d4 d5 d6
 have b2 := UG b2 (UX (w := w2))
 have bb2 := UG bb1 b2
 have K2 := UC (UE b2 (UB K1))
 have H2 := UC ((UB H1).below b2)
 clear bb1 b2 K1 H1
 go_wp2_with fail
 first | (go_region_with (first
  | (go_at_call 145; refine (UB OKD _ (UB H2)).mono ?_; rintro e w3 ⟨rfl, b3⟩; obtain ⟨d0, d1, d2, d3, d4, d5, d6⟩ := UJ (UE b3 (UB K2)))
  | (go_at_call 95; refine (Mt (na := na) (nc := nc) (ta := ta) (tc := tc) (xa := xa) (xc := xc) (ia := ia) (ic := ic) (nm := nm) (to := to) (tx := tx) (nu := nu) (tt := tt) (ad := ad)).mono ?_; rintro e w4 ⟨rfl, b4⟩; have q4 := UG b3 b4; obtain ⟨d0, d1, d2, d3, d4, d5, d6⟩ := UJ (UE q4 (UB K2)))
  | (go_at_call 94; refine (UB NE _).mono ?_; rintro e w5 ⟨rfl, b5⟩; have q5 := UG q4 b5))) | fail
 all_goals
  go_wp2_with fail
  go_ret
  first | exact ⟨rfl, UG bb2 q5⟩ | exact ⟨rfl, UG bb2 b3⟩
set_option maxHeartbeats 1000000
set_option maxRecDepth 100000


theorem E1 {na : Option Addr} {nc : Nat} {ta : Option Addr} {tc : Nat} {xa : Option Addr} {xc : Nat} {ia : Option Addr} {ic : Nat} {nm to : List (List Int)} {tx nu : List Int} {tt ad : Int} {w : World} {ty : Int} (hk : Ed ty = .iface 127 (.agg #[.slice none 0 0])) (hto : Ax ty = true) (h : HasR w (.slice na nm.length nc) (.slice ta to.length tc) (.slice xa tx.length xc) (.slice ia nu.length ic) ⟨nm, ty, tt, ad, to, tx, nu⟩) (hN : Ag nm = true) (ht0 : 0 ≤ tt) (ht1 : tt ≤ 100000) (hD : Ag to = true) :
  Calls Tryz.prog 67 #[.agg #[.slice na nm.length nc, .int .i64 ty, .int .i64 tt, .int .i64 ad, .slice ta to.length tc, .slice xa tx.length xc, .slice ia nu.length ic]] w fun e w' => e = .returned (.bool (decide (ad = 0 ∧ to.length = to.length ∧ tx.length = 0 ∧ nu.length = 0))) ∧ Below w.heap.size w w' := by
 have b0 := UI (w := w) (.cells #[.slice na nm.length nc, .int .i64 ty, .int .i64 tt, .int .i64 ad, .slice ta to.length tc, .slice xa tx.length xc, .slice ia nu.length ic] 39)
 have K0 := UC (heap_alloc_new w (.cells #[.slice na nm.length nc, .int .i64 ty, .int .i64 tt, .int .i64 ad, .slice ta to.length tc, .slice xa tx.length xc, .slice ia nu.length ic] 39))
 have H0 := UC (h.below b0)
 have HN := UC hN
 clear h hN
 have HKK := UC hk
 have HTO := UC hto
 clear hk hto
 have NE := UC (fun (w : World) => Bw (w := w) (na := na) (nl := nm.length) (nc := nc) (ty := ty) (tt := tt) (ad := ad) (ta := ta) (tl := to.length) (tc := tc) (xa := xa) (xl := tx.length) (xc := xc) (ia := ia) (il := nu.length) (ic := ic) (na' := none) (nl' := 0) (nc' := 0) (ty' := ty) (tt' := 0) (ad' := 0) (ta' := ta) (tl' := to.length) (tc' := tc) (xa' := none) (xl' := 0) (xc' := 0) (ia' := none) (il' := 0) (ic' := 0))
 generalize decide (ad = 0 ∧ to.length = to.length ∧ tx.length = 0 ∧ nu.length = 0) = E at *
 have OKC := UC (fun (w : World) (HH : HasR w (.slice na nm.length nc) (.slice ta to.length tc) (.slice xa tx.length xc) (.slice ia nu.length ic) ⟨nm, ty, tt, ad, to, tx, nu⟩) => Lw (show HasL w (.slice ta to.length tc) to from HH.to))
 have OKD := UC (fun (w : World) (HH : HasR w (.slice na nm.length nc) (.slice ta to.length tc) (.slice xa tx.length xc) (.slice ia nu.length ic) ⟨nm, ty, tt, ad, to, tx, nu⟩) => (show Calls Tryz.prog 150 #[.agg #[.slice ta to.length tc]] w fun e w' => e = .returned (.bool true) ∧ Below w.heap.size w w' by rw [← hD]; exact UB OKC w HH))
 clear OKC hD
 go_enter Tryz.func67, Tryz.ntmps67
 go_wp2_with fail
 generalize w.alloc (.cells #[.slice na nm.length nc, .int .i64 ty, .int .i64 tt, .int .i64 ad, .slice ta to.length tc, .slice xa tx.length xc, .slice ia nu.length ic] 39) = W at *
 refine (VP (show HasL W (.slice na nm.length nc) nm from (UB H0).name)).mono ?_
 rw [UB HN]
 rintro e w1 ⟨rfl, b1⟩
 have bb1 := UG b0 b1
 have K1 := UC (UE b1 (UB K0))
 have H1 := UC ((UB H0).below b1)
 clear b0 b1 K0 H0
 obtain ⟨d0, d1, d2, d3, d4, d5, d6⟩ := UJ (UB K1)
 go_wp2_with fail
 refine (Bf ty _).mono ?_
 rw [UB HTO]
 rintro e w2 ⟨rfl, rfl⟩
 go_wp2_with fail
 refine (Cz _ ht0 ht1).mono ?_
 rintro e w2 ⟨rfl, rfl⟩
 go_wp2_with fail
 refine (It (UB HKK) (UB HTO)).mono ?_
 rintro e w2 ⟨rfl, b2⟩
 clear d0 d1 d2 d3 d4 d5 d6
 have b2 := UG b2 (UX (w := w2))
 have bb2 := UG bb1 b2
 have K2 := UC (UE b2 (UB K1))
 have H2 := UC ((UB H1).below b2)
 clear bb1 b2 K1 H1
 go_wp2_with fail
 go_region_with (first
  | (go_at_call 150; refine (UB OKD _ (UB H2)).mono ?_; rintro e w3 ⟨rfl, b3⟩; obtain ⟨d0, d1, d2, d3, d4, d5, d6⟩ := UJ (UE b3 (UB K2)))
  | (go_at_call 95; refine (Mq (na := na) (nc := nc) (ta := ta) (tc := tc) (xa := xa) (xc := xc) (ia := ia) (ic := ic) (nm := nm) (to := to) (tx := tx) (nu := nu) (tt := tt) (ad := ad)).mono ?_; rintro e w4 ⟨rfl, b4⟩; have q4 := UG b3 b4; obtain ⟨d0, d1, d2, d3, d4, d5, d6⟩ := UJ (UE q4 (UB K2)))
  | (go_at_call 94; refine (UB NE _).mono ?_; rintro e w5 ⟨rfl, b5⟩; have q5 := UG q4 b5))
 all_goals
  go_wp2_with fail
  go_ret
  first | exact ⟨rfl, UG bb2 q5⟩ | exact ⟨rfl, UG bb2 b3⟩


theorem Ep {na : Option Addr} {nc : Nat} {ta : Option Addr} {tc : Nat} {xa : Option Addr} {xc : Nat} {ia : Option Addr} {ic : Nat} {nm to : List (List Int)} {tx nu : List Int} {tt ad : Int} {w : World} {ty : Int} (hk : Ed ty = .iface 127 (.agg #[.slice none 0 0])) (hto : Ax ty = true) (h : HasR w (.slice na nm.length nc) (.slice ta to.length tc) (.slice xa tx.length xc) (.slice ia nu.length ic) ⟨nm, ty, tt, ad, to, tx, nu⟩) (hN : Ag nm = true) (ht0 : 0 ≤ tt) (ht1 : tt ≤ 100000) (hD : Ag to = false) :
  Calls Tryz.prog 67 #[.agg #[.slice na nm.length nc, .int .i64 ty, .int .i64 tt, .int .i64 ad, .slice ta to.length tc, .slice xa tx.length xc, .slice ia nu.length ic]] w fun e w' => e = .returned (.bool false) ∧ Below w.heap.size w w' := by
 have b0 := UI (w := w) (.cells #[.slice na nm.length nc, .int .i64 ty, .int .i64 tt, .int .i64 ad, .slice ta to.length tc, .slice xa tx.length xc, .slice ia nu.length ic] 39)
 have K0 := UC (heap_alloc_new w (.cells #[.slice na nm.length nc, .int .i64 ty, .int .i64 tt, .int .i64 ad, .slice ta to.length tc, .slice xa tx.length xc, .slice ia nu.length ic] 39))
 have H0 := UC (h.below b0)
 have HN := UC hN
 clear h hN
 have HKK := UC hk
 have HTO := UC hto
 clear hk hto
 have NE := UC (fun (w : World) => Bw (w := w) (na := na) (nl := nm.length) (nc := nc) (ty := ty) (tt := tt) (ad := ad) (ta := ta) (tl := to.length) (tc := tc) (xa := xa) (xl := tx.length) (xc := xc) (ia := ia) (il := nu.length) (ic := ic) (na' := none) (nl' := 0) (nc' := 0) (ty' := ty) (tt' := 0) (ad' := 0) (ta' := ta) (tl' := to.length) (tc' := tc) (xa' := none) (xl' := 0) (xc' := 0) (ia' := none) (il' := 0) (ic' := 0))
 skip
 have OKC := UC (fun (w : World) (HH : HasR w (.slice na nm.length nc) (.slice ta to.length tc) (.slice xa tx.length xc) (.slice ia nu.length ic) ⟨nm, ty, tt, ad, to, tx, nu⟩) => Lw (show HasL w (.slice ta to.length tc) to from HH.to))
 have OKD := UC (fun (w : World) (HH : HasR w (.slice na nm.length nc) (.slice ta to.length tc) (.slice xa tx.length xc) (.slice ia nu.length ic) ⟨nm, ty, tt, ad, to, tx, nu⟩) => (show Calls Tryz.prog 150 #[.agg #[.slice ta to.length tc]] w fun e w' => e = .returned (.bool false) ∧ Below w.heap.size w w' by rw [← hD]; exact UB OKC w HH))
 clear OKC hD
 go_enter Tryz.func67, Tryz.ntmps67
 go_wp2_with fail
 generalize w.alloc (.cells #[.slice na nm.length nc, .int .i64 ty, .int .i64 tt, .int .i64 ad, .slice ta to.length tc, .slice xa tx.length xc, .slice ia nu.length ic] 39) = W at *
 refine (VP (show HasL W (.slice na nm.length nc) nm from (UB H0).name)).mono ?_
 rw [UB HN]
 rintro e w1 ⟨rfl, b1⟩
 have bb1 := UG b0 b1
 have K1 := UC (UE b1 (UB K0))
 have H1 := UC ((UB H0).below b1)
 clear b0 b1 K0 H0
 obtain ⟨d0, d1, d2, d3, d4, d5, d6⟩ := UJ (UB K1)
 go_wp2_with fail
 refine (Bf ty _).mono ?_
 rw [UB HTO]
 rintro e w2 ⟨rfl, rfl⟩
 go_wp2_with fail
 refine (Cz _ ht0 ht1).mono ?_
 rintro e w2 ⟨rfl, rfl⟩
 go_wp2_with fail
 refine (It (UB HKK) (UB HTO)).mono ?_
 rintro e w2 ⟨rfl, b2⟩
 clear d0 d1 d2 d3 d4 d5 d6
 have b2 := UG b2 (UX (w := w2))
 have bb2 := UG bb1 b2
 have K2 := UC (UE b2 (UB K1))
 have H2 := UC ((UB H1).below b2)
 clear bb1 b2 K1 H1
 go_wp2_with fail
 first | (go_region_with (first
  | (go_at_call 150; refine (UB OKD _ (UB H2)).mono ?_; rintro e w3 ⟨rfl, b3⟩; obtain ⟨d0, d1, d2, d3, d4, d5, d6⟩ := UJ (UE b3 (UB K2)))
  | (go_at_call 95; refine (Mq (na := na) (nc := nc) (ta := ta) (tc := tc) (xa := xa) (xc := xc) (ia := ia) (ic := ic) (nm := nm) (to := to) (tx := tx) (nu := nu) (tt := tt) (ad := ad)).mono ?_; rintro e w4 ⟨rfl, b4⟩; have q4 := UG b3 b4; obtain ⟨d0, d1, d2, d3, d4, d5, d6⟩ := UJ (UE q4 (UB K2)))
  | (go_at_call 94; refine (UB NE _).mono ?_; rintro e w5 ⟨rfl, b5⟩; have q5 := UG q4 b5))) | fail
 all_goals
  go_wp2_with fail
  go_ret
  first | exact ⟨rfl, UG bb2 q5⟩ | exact ⟨rfl, UG bb2 b3⟩
end Go.Proofs.YtfneahdnpmamkaaGreat
