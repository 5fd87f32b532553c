/-
  Contracts of the specification's Dotted.
-/
import Derived.Test.YtdbojhbdfcknfaaDoorSDigits
namespace Go.Proofs.YtdbojhbdfcknfaaDoor
open Go.RowKit
set_option linter.unusedVariables false

set_option maxHeartbeats 400000 in
set_option maxRecDepth 100000 in
theorem specDotted_no (n : Int) (w : World) (hn : n < 0 ∨ 4294967295 < n) :
    Calls Tryd.prog 26 #[.int .i64 n] w fun e w' => e = .returned (.slice none 0 0) ∧ w = w' := by
  by_cases h0 : n < 0
  · go_enter Tryd.func26, Tryd.ntmps26
    go_wp2
    go_ret
    exact ⟨rfl, rfl⟩
  · have h1 : 4294967296 ≤ n := by omega
    go_enter Tryd.func26, Tryd.ntmps26
    go_wp2
    go_ret
    exact ⟨rfl, rfl⟩

set_option maxHeartbeats 400000 in
set_option maxRecDepth 100000 in
theorem specDotted_yes (n : Int) (w : World) (h0 : 0 ≤ n) (h1 : n ≤ 4294967295) :
    Calls Tryd.prog 26 #[.int .i64 n] w fun e w' => ∃ v, e = .returned v ∧ Own w.heap.size 5 w' v (sdot n 4) ∧ Below w.heap.size w w' := by
  go_enter Tryd.func26, Tryd.ntmps26
  go_wp2_with fail
  refine (l1dotted_any n _ h0 h1).mono ?_
  rintro e w1 ⟨v1, rfl, o1, b1⟩
  go_wp2
  go_ret
  exact ⟨v1, rfl, o1, b1⟩

theorem specDotted_any (n : Int) (w : World) :
    Calls Tryd.prog 26 #[.int .i64 n] w fun e w' => ∃ v, e = .returned v ∧ Own w.heap.size 5 w' v (dotted n) ∧ Below w.heap.size w w' := by
  by_cases h : 0 ≤ n ∧ n ≤ 4294967295
  · have e : dotted n = sdot n 4 := by unfold dotted; rw [if_pos h, sdot_idot]
    rw [e]; exact specDotted_yes n w h.1 h.2
  · have e : dotted n = [] := by unfold dotted; rw [if_neg h]
    rw [e]
    exact (specDotted_no n w (by omega)).mono fun e w' ⟨he, hw⟩ => ⟨_, he, by subst hw; exact World.ownsRow_nil _ _ _ _, hw ▸ Below.refl _ _⟩
end Go.Proofs.YtdbojhbdfcknfaaDoor
