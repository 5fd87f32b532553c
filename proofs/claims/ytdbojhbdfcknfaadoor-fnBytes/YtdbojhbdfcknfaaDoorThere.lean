/-
  Contracts of the program's own helper allThere: are n bytes there from a place on?
-/
import Derived.Test.YtdbojhbdfcknfaaDoorBase
namespace Go.Proofs.YtdbojhbdfcknfaaDoor
open Go.RowKit
set_option linter.unusedVariables false

set_option maxHeartbeats 400000 in
set_option maxRecDepth 100000 in
theorem allThere_yes (a : Option Addr) (len cap : Nat) (at' n : Int) (w : World) (hl : len ≤ 2097152) (h0 : 0 ≤ at') (hn : 0 ≤ n) (h : n ≤ len - at') :
    Calls Tryd.prog 45 #[.slice a len cap, .int .i64 at', .int .i64 n] w fun e w' => e = .returned (.bool true) ∧ w = w' := by
  go_enter Tryd.func45, Tryd.ntmps45
  go_wp2
  go_ret
  exact ⟨rfl, rfl⟩

set_option maxHeartbeats 400000 in
set_option maxRecDepth 100000 in
theorem allThere_no (a : Option Addr) (len cap : Nat) (at' n : Int) (w : World) (hl : len ≤ 2097152) (hat : at' ≤ 9223372036854775807) (h : at' < 0 ∨ n < 0 ∨ len - at' < n) :
    Calls Tryd.prog 45 #[.slice a len cap, .int .i64 at', .int .i64 n] w fun e w' => e = .returned (.bool false) ∧ w = w' := by
  by_cases h0 : at' < 0
  · go_enter Tryd.func45, Tryd.ntmps45
    go_wp2
    go_ret
    exact ⟨rfl, rfl⟩
  · by_cases h1 : n < 0
    · go_enter Tryd.func45, Tryd.ntmps45
      go_wp2
      go_ret
      exact ⟨rfl, rfl⟩
    · have h2 : decide (n ≤ (len : Int) - at') = false := by simp; omega
      go_enter Tryd.func45, Tryd.ntmps45
      go_wp2
      go_ret
      exact ⟨rfl, rfl⟩
end Go.Proofs.YtdbojhbdfcknfaaDoor
