/-
  The walk of laws.FnExactLabelOk.
-/
import Derived.Test.YtalkaaiipeifkaaBytesEq
import Derived.Test.YtalkaaiipeifkaaILabelOk
import Derived.Test.YtalkaaiipeifkaaSLabelOk
namespace Go.Proofs.Ytalkaaiipeifkaa
open Go.RowKit
set_option linter.unusedVariables false

set_option maxHeartbeats 400000 in
set_option maxRecDepth 100000 in
theorem lawLabelOk_big (a : Option Addr) (len cap : Nat) (w : World) (hl : 1048576 < len) (hm : len ≤ maxLen) :
    Calls Try.prog 6 #[.slice a len cap] w fun e w' => e = .returned (.bool true) ∧ Below w.heap.size w w' := by
  unfold maxLen at hm
  go_enter Try.func6, Try.ntmps6
  go_wp2
  go_ret
  exact ⟨rfl, Below.refl _ _⟩

set_option maxHeartbeats 400000 in
set_option maxRecDepth 100000 in
theorem lawLabelOk (a : Option Addr) (cap : Nat) (l : List Int) (w : World) (h : Lies w a l) (hl : l.length ≤ 1048576) :
    Calls Try.prog 6 #[.slice a l.length cap] w fun e w' => e = .returned (.bool true) ∧ Below w.heap.size w w' := by
  generalize hg : labelOk l = g
  have HG := hide hg
  clear hg
  generalize hn : l.length = n at *
  have HN := hide hn
  clear hn
  go_enter Try.func6, Try.ntmps6
  go_wp2_with fail
  refine (toByteS_in h (unhide HN) hl).mono ?_
  rintro e w1 ⟨v1, rfl, o1, b1⟩
  go_wp2_with fail
  refine (specLabelOk_has o1.has).mono ?_
  rintro e w2 ⟨rfl, rfl⟩
  rw [unhide HG]
  go_wp2_with fail
  refine (toByteS_in (h.below b1) (unhide HN) hl).mono ?_
  rintro e w3 ⟨v3, rfl, o3, b3⟩
  have b3 := below_next b1 b3
  go_wp2_with fail
  refine (implLabelOk_has o3.has).mono ?_
  rintro e w4 ⟨rfl, rfl⟩
  rw [unhide HG]
  cases g
  · go_wp2_with fail
    refine (toByteS_in (h.below b3) (unhide HN) hl).mono ?_
    rintro e w5 ⟨v5, rfl, o5, b5⟩
    have o6 := o3.below b5
    have b5 := below_next b3 b5
    go_wp2_with fail
    refine (eqByteS_own o6 o5 (by rw [unhide HN]; omega)).mono ?_
    rintro e w6 ⟨rfl, b6⟩
    have b6 := below_next b5 b6
    go_wp2_with fail
    go_ret
    exact ⟨rfl, b6⟩
  · go_wp2_with fail
    refine (toByteS_in (h.below b3) (unhide HN) hl).mono ?_
    rintro e w5 ⟨v5, rfl, o5, b5⟩
    have o6 := o3.below b5
    have b5 := below_next b3 b5
    go_wp2_with fail
    refine (eqByteS_own o6 o5 (by rw [unhide HN]; omega)).mono ?_
    rintro e w6 ⟨rfl, b6⟩
    have b6 := below_next b5 b6
    go_wp2_with fail
    go_ret
    exact ⟨rfl, b6⟩
end Go.Proofs.Ytalkaaiipeifkaa
