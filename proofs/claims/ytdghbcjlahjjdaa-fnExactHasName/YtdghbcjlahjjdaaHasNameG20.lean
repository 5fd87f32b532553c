/-
  What an assertion on the program's data answers. Contracts of the program's dataOf and recordOf, kind by kind.
-/
import Derived.Test.YtdghbcjlahjjdaaHasNameG19
import Derived.RegionTactic
namespace Go.Proofs.Ytdghbcjlahjjdaa
open Go.RowKit
set_option linter.unusedVariables false

theorem ta_aa (v : Value) (w : World) : Sem.run Try.prog (Instr.typeAssert (.iface 91 v) 60 91 true) w = .ok (.tuple #[v, .bool true]) w := by kernel_rfl
theorem ta_an (v : Value) (w : World) : Sem.run Try.prog (Instr.typeAssert (.iface 91 v) 60 93 true) w = .ok (.tuple #[.agg #[.slice none 0 0], .bool false]) w := by kernel_rfl
theorem ta_as (v : Value) (w : World) : Sem.run Try.prog (Instr.typeAssert (.iface 91 v) 60 95 true) w = .ok (.tuple #[.agg #[.slice none 0 0, .slice none 0 0], .bool false]) w := by kernel_rfl
theorem ta_ax (v : Value) (w : World) : Sem.run Try.prog (Instr.typeAssert (.iface 91 v) 60 97 true) w = .ok (.tuple #[.agg #[.slice none 0 0], .bool false]) w := by kernel_rfl
theorem ta_na (v : Value) (w : World) : Sem.run Try.prog (Instr.typeAssert (.iface 93 v) 60 91 true) w = .ok (.tuple #[.agg #[.int .i64 0], .bool false]) w := by kernel_rfl
theorem ta_nn (v : Value) (w : World) : Sem.run Try.prog (Instr.typeAssert (.iface 93 v) 60 93 true) w = .ok (.tuple #[v, .bool true]) w := by kernel_rfl
theorem ta_ns (v : Value) (w : World) : Sem.run Try.prog (Instr.typeAssert (.iface 93 v) 60 95 true) w = .ok (.tuple #[.agg #[.slice none 0 0, .slice none 0 0], .bool false]) w := by kernel_rfl
theorem ta_nx (v : Value) (w : World) : Sem.run Try.prog (Instr.typeAssert (.iface 93 v) 60 97 true) w = .ok (.tuple #[.agg #[.slice none 0 0], .bool false]) w := by kernel_rfl
theorem ta_sa (v : Value) (w : World) : Sem.run Try.prog (Instr.typeAssert (.iface 95 v) 60 91 true) w = .ok (.tuple #[.agg #[.int .i64 0], .bool false]) w := by kernel_rfl
theorem ta_sn (v : Value) (w : World) : Sem.run Try.prog (Instr.typeAssert (.iface 95 v) 60 93 true) w = .ok (.tuple #[.agg #[.slice none 0 0], .bool false]) w := by kernel_rfl
theorem ta_ss (v : Value) (w : World) : Sem.run Try.prog (Instr.typeAssert (.iface 95 v) 60 95 true) w = .ok (.tuple #[v, .bool true]) w := by kernel_rfl
theorem ta_sx (v : Value) (w : World) : Sem.run Try.prog (Instr.typeAssert (.iface 95 v) 60 97 true) w = .ok (.tuple #[.agg #[.slice none 0 0], .bool false]) w := by kernel_rfl
theorem ta_xa (v : Value) (w : World) : Sem.run Try.prog (Instr.typeAssert (.iface 97 v) 60 91 true) w = .ok (.tuple #[.agg #[.int .i64 0], .bool false]) w := by kernel_rfl
theorem ta_xn (v : Value) (w : World) : Sem.run Try.prog (Instr.typeAssert (.iface 97 v) 60 93 true) w = .ok (.tuple #[.agg #[.slice none 0 0], .bool false]) w := by kernel_rfl
theorem ta_xs (v : Value) (w : World) : Sem.run Try.prog (Instr.typeAssert (.iface 97 v) 60 95 true) w = .ok (.tuple #[.agg #[.slice none 0 0, .slice none 0 0], .bool false]) w := by kernel_rfl
theorem ta_xx (v : Value) (w : World) : Sem.run Try.prog (Instr.typeAssert (.iface 97 v) 60 97 true) w = .ok (.tuple #[v, .bool true]) w := by kernel_rfl
end Go.Proofs.Ytdghbcjlahjjdaa

namespace Go.Proofs.Ytdghbcjlahjjdaa
open Go.RowKit
set_option linter.unusedVariables false

set_option maxHeartbeats 400000 in
set_option maxRecDepth 100000 in
theorem dataOf_A {na : Option Addr} {nc : Nat} {ta : Option Addr} {tc : Nat} {xa : Option Addr} {xc : Nat} {ia : Option Addr} {ic : Nat} {nm to : List (List Int)} {tx nu : List Int} {tt ad : Int} {w : World} : Calls Try.prog 29 #[.agg #[.slice na nm.length nc, .int .i64 1, .int .i64 tt, .int .i64 ad, .slice ta to.length tc, .slice xa tx.length xc, .slice ia nu.length ic]] w fun e w' => e = .returned (.iface 91 (.agg #[.int .i64 ad])) ∧ Below w.heap.size w w' := by
  have b0 := below_alloc (w := w) (.cells #[.slice na nm.length nc, .int .i64 1, .int .i64 tt, .int .i64 ad, .slice ta to.length tc, .slice xa tx.length xc, .slice ia nu.length ic] 28)
  have ta := ta_aa
  have tn := ta_an
  have ts := ta_as
  have tx := ta_ax
  go_enter Try.func29, Try.ntmps29
  go_wp2_with fail
  refine (kindOf_any 1 _).mono ?_
  rw [show kindV 1 = .iface 91 (.agg #[.int .i64 0]) from rfl]
  rintro e w1 ⟨rfl, rfl⟩
  go_wp2
  go_ret
  exact ⟨rfl, b0⟩

set_option maxHeartbeats 800000 in
set_option maxRecDepth 100000 in
theorem recordOf_A {na : Option Addr} {nc : Nat} {ta : Option Addr} {tc : Nat} {xa : Option Addr} {xc : Nat} {ia : Option Addr} {ic : Nat} {nm to : List (List Int)} {tx nu : List Int} {tt ad : Int} {w : World} : Calls Try.prog 62 #[.int .i64 1, .iface 91 (.agg #[.int .i64 ad])] w fun e w' => e = .returned (.agg #[.slice none 0 0, .int .i64 1, .int .i64 0, .int .i64 ad, .slice none 0 0, .slice none 0 0, .slice none 0 0]) ∧ Below w.heap.size w w' := by
  have ta := ta_aa
  have tn := ta_an
  have ts := ta_as
  have tx := ta_ax
  go_enter Try.func62, Try.ntmps62
  go_wp2
  go_returns
  exact ⟨rfl, by go_grown⟩

set_option maxHeartbeats 400000 in
set_option maxRecDepth 100000 in
theorem dataOf_N {na : Option Addr} {nc : Nat} {ta : Option Addr} {tc : Nat} {xa : Option Addr} {xc : Nat} {ia : Option Addr} {ic : Nat} {nm to : List (List Int)} {tx nu : List Int} {tt ad : Int} {w : World} {ty : Int} (hk : kindV ty = .iface 93 (.agg #[.slice none 0 0])) (hto : typeOk ty = true) : Calls Try.prog 29 #[.agg #[.slice na nm.length nc, .int .i64 ty, .int .i64 tt, .int .i64 ad, .slice ta to.length tc, .slice xa tx.length xc, .slice ia nu.length ic]] w fun e w' => e = .returned (.iface 93 (.agg #[.slice ta to.length tc])) ∧ Below w.heap.size w w' := by
  have b0 := below_alloc (w := w) (.cells #[.slice na nm.length nc, .int .i64 ty, .int .i64 tt, .int .i64 ad, .slice ta to.length tc, .slice xa tx.length xc, .slice ia nu.length ic] 28)
  have HK := hide hk
  clear hk
  have ta := ta_na
  have tn := ta_nn
  have ts := ta_ns
  have tx := ta_nx
  go_enter Try.func29, Try.ntmps29
  go_wp2_with fail
  refine (kindOf_any ty _).mono ?_
  rw [unhide HK]
  rintro e w1 ⟨rfl, rfl⟩
  go_wp2
  go_ret
  exact ⟨rfl, b0⟩

set_option maxHeartbeats 800000 in
set_option maxRecDepth 100000 in
theorem recordOf_N {na : Option Addr} {nc : Nat} {ta : Option Addr} {tc : Nat} {xa : Option Addr} {xc : Nat} {ia : Option Addr} {ic : Nat} {nm to : List (List Int)} {tx nu : List Int} {tt ad : Int} {w : World} {ty : Int} : Calls Try.prog 62 #[.int .i64 ty, .iface 93 (.agg #[.slice ta to.length tc])] w fun e w' => e = .returned (.agg #[.slice none 0 0, .int .i64 ty, .int .i64 0, .int .i64 0, .slice ta to.length tc, .slice none 0 0, .slice none 0 0]) ∧ Below w.heap.size w w' := by
  have ta := ta_na
  have tn := ta_nn
  have ts := ta_ns
  have tx := ta_nx
  go_enter Try.func62, Try.ntmps62
  go_wp2
  go_returns
  exact ⟨rfl, by go_grown⟩

set_option maxHeartbeats 400000 in
set_option maxRecDepth 100000 in
theorem dataOf_S {na : Option Addr} {nc : Nat} {ta : Option Addr} {tc : Nat} {xa : Option Addr} {xc : Nat} {ia : Option Addr} {ic : Nat} {nm to : List (List Int)} {tx nu : List Int} {tt ad : Int} {w : World} : Calls Try.prog 29 #[.agg #[.slice na nm.length nc, .int .i64 6, .int .i64 tt, .int .i64 ad, .slice ta to.length tc, .slice xa tx.length xc, .slice ia nu.length ic]] w fun e w' => e = .returned (.iface 95 (.agg #[.slice ta to.length tc, .slice ia nu.length ic])) ∧ Below w.heap.size w w' := by
  have b0 := below_alloc (w := w) (.cells #[.slice na nm.length nc, .int .i64 6, .int .i64 tt, .int .i64 ad, .slice ta to.length tc, .slice xa tx.length xc, .slice ia nu.length ic] 28)
  have ta := ta_sa
  have tn := ta_sn
  have ts := ta_ss
  have tx := ta_sx
  go_enter Try.func29, Try.ntmps29
  go_wp2_with fail
  refine (kindOf_any 6 _).mono ?_
  rw [show kindV 6 = .iface 95 (.agg #[.slice none 0 0, .slice none 0 0]) from rfl]
  rintro e w1 ⟨rfl, rfl⟩
  go_wp2
  go_ret
  exact ⟨rfl, b0⟩

set_option maxHeartbeats 800000 in
set_option maxRecDepth 100000 in
theorem recordOf_S {na : Option Addr} {nc : Nat} {ta : Option Addr} {tc : Nat} {xa : Option Addr} {xc : Nat} {ia : Option Addr} {ic : Nat} {nm to : List (List Int)} {tx nu : List Int} {tt ad : Int} {w : World} : Calls Try.prog 62 #[.int .i64 6, .iface 95 (.agg #[.slice ta to.length tc, .slice ia nu.length ic])] w fun e w' => e = .returned (.agg #[.slice none 0 0, .int .i64 6, .int .i64 0, .int .i64 0, .slice ta to.length tc, .slice none 0 0, .slice ia nu.length ic]) ∧ Below w.heap.size w w' := by
  have ta := ta_sa
  have tn := ta_sn
  have ts := ta_ss
  have tx := ta_sx
  go_enter Try.func62, Try.ntmps62
  go_wp2
  go_region
  all_goals go_wp2
  all_goals
    go_returns
    exact ⟨rfl, by go_grown⟩

set_option maxHeartbeats 400000 in
set_option maxRecDepth 100000 in
theorem dataOf_X {na : Option Addr} {nc : Nat} {ta : Option Addr} {tc : Nat} {xa : Option Addr} {xc : Nat} {ia : Option Addr} {ic : Nat} {nm to : List (List Int)} {tx nu : List Int} {tt ad : Int} {w : World} {ty : Int} (hk : kindV ty = .iface 97 (.agg #[.slice none 0 0])) (hto : typeOk ty = true) : Calls Try.prog 29 #[.agg #[.slice na nm.length nc, .int .i64 ty, .int .i64 tt, .int .i64 ad, .slice ta to.length tc, .slice xa tx.length xc, .slice ia nu.length ic]] w fun e w' => e = .returned (.iface 97 (.agg #[.slice xa tx.length xc])) ∧ Below w.heap.size w w' := by
  have b0 := below_alloc (w := w) (.cells #[.slice na nm.length nc, .int .i64 ty, .int .i64 tt, .int .i64 ad, .slice ta to.length tc, .slice xa tx.length xc, .slice ia nu.length ic] 28)
  have HK := hide hk
  clear hk
  have ta := ta_xa
  have tn := ta_xn
  have ts := ta_xs
  have tx := ta_xx
  go_enter Try.func29, Try.ntmps29
  go_wp2_with fail
  refine (kindOf_any ty _).mono ?_
  rw [unhide HK]
  rintro e w1 ⟨rfl, rfl⟩
  go_wp2
  go_ret
  exact ⟨rfl, b0⟩

set_option maxHeartbeats 800000 in
set_option maxRecDepth 100000 in
theorem recordOf_X {na : Option Addr} {nc : Nat} {ta : Option Addr} {tc : Nat} {xa : Option Addr} {xc : Nat} {ia : Option Addr} {ic : Nat} {nm to : List (List Int)} {tx nu : List Int} {tt ad : Int} {w : World} {ty : Int} : Calls Try.prog 62 #[.int .i64 ty, .iface 97 (.agg #[.slice xa tx.length xc])] w fun e w' => e = .returned (.agg #[.slice none 0 0, .int .i64 ty, .int .i64 0, .int .i64 0, .slice none 0 0, .slice xa tx.length xc, .slice none 0 0]) ∧ Below w.heap.size w w' := by
  have ta := ta_xa
  have tn := ta_xn
  have ts := ta_xs
  have tx := ta_xx
  go_enter Try.func62, Try.ntmps62
  go_wp2
  go_returns
  exact ⟨rfl, by go_grown⟩

end Go.Proofs.Ytdghbcjlahjjdaa
