/-
  The walk of laws.FnExactDotted.
-/
import Derived.Test.YtdbojhbdfcknfaaDoorBytes
import Derived.Test.YtdbojhbdfcknfaaDoorSDotted
import Derived.Test.YtdbojhbdfcknfaaDoorIDotted
namespace Go.Proofs.YtdbojhbdfcknfaaDoor
open Go.RowKit
set_option linter.unusedVariables false

set_option maxHeartbeats 1000000 in
set_option maxRecDepth 100000 in
theorem lawDotted (n : Int) (w : World) (ht : Pow10 w) :
    Calls Tryd.prog 5 #[.int .i64 n] w fun e w' => e = .returned (.bool true) ∧ Below w.heap.size w w' := by
  have hL := dotted_length n
  generalize hg : dotted n = L at *
  have HG := hide hg
  clear hg
  have hL2 : L.length ≤ 2097152 := by omega
  have HT := hide ht
  clear ht
  go_enter Tryd.func5, Tryd.ntmps5
  go_wp2_with fail
  refine (specDotted_any n _).mono ?_
  rw [unhide HG]
  rintro e w1 ⟨v1, rfl, o1, b1⟩
  go_wp2_with fail
  refine (implDotted_any n ((unhide HT).below b1)).mono ?_
  rw [unhide HG]
  rintro e w2 ⟨v2, rfl, o2, c2⟩
  have b2 := below_next b1 c2
  have p2 := o1.below c2
  go_wp2_with fail
  refine (eqByteS_own o2 p2 hL2).mono ?_
  rintro e w3 ⟨rfl, c3⟩
  have b3 := below_next b2 c3
  have p3 := p2.below c3
  have g3 := o2.below c3
  go_wp2_with fail
  refine (markByteS_any 1 g3 hL2 (by omega) (by omega)).mono ?_
  rintro e w4 ⟨rfl, g4, k4⟩
  have b4 := below_mark b3 g3 b1.size k4
  have p4 := p3.kept k4 (own_apart o1 o2 (Nat.le_refl _))
  go_wp2_with fail
  refine (heldByteS_any 1 g4 hL2 (by omega) (by omega)).mono ?_
  rintro e w5 ⟨rfl, rfl⟩
  go_wp2_with fail
  refine (implDotted_any n ((unhide HT).below b4)).mono ?_
  rw [unhide HG]
  rintro e w6 ⟨v6, rfl, o6, c6⟩
  have b6 := below_next b4 c6
  have p6 := p4.below c6
  have g6 := g4.below c6
  go_wp2_with fail
  refine (eqByteS_own o6 p6 hL2).mono ?_
  rintro e w7 ⟨rfl, c7⟩
  have b7 := below_next b6 c7
  have g7 := g6.below c7
  go_wp2_with fail
  refine (heldByteS_any 1 g7 hL2 (by omega) (by omega)).mono ?_
  rintro e w8 ⟨rfl, rfl⟩
  go_wp2_with fail
  go_ret
  exact ⟨rfl, b7⟩
end Go.Proofs.YtdbojhbdfcknfaaDoor
