/-
  The walk of laws.FnExactDottedRead.
-/
import Derived.Test.YtgngepppkhajbabDoorBytes
import Derived.Test.YtgngepppkhajbabDoorIDottedRead
import Derived.Test.YtgngepppkhajbabDoorSDottedRead
namespace Go.Proofs.YtgngepppkhajbabDoor
open Go.RowKit
set_option linter.unusedVariables false

set_option maxHeartbeats 400000 in
theorem lawDottedRead_big (a : Option Addr) (len cap : Nat) (w : World) (hl : 1048576 < len) (hm : len ≤ maxLen) :
    Calls Tryd.prog 4 #[.slice a len cap] w fun e w' => e = .returned (.bool true) ∧ Below w.heap.size w w' := by
  unfold maxLen at hm
  go_enter Tryd.func4, Tryd.ntmps4
  go_wp2
  go_ret
  exact ⟨rfl, Below.refl _ _⟩

set_option maxHeartbeats 400000 in
theorem lawDottedRead (a : Option Addr) (cap : Nat) (l : List Int) (w : World) (h : Lies w a l) (hl : l.length ≤ 1048576) (hm : MaxL w) (hb : ∀ k, 0 ≤ l.getD k 0 ∧ l.getD k 0 ≤ 255) :
    Calls Tryd.prog 4 #[.slice a l.length cap] w fun e w' => e = .returned (.bool true) ∧ Below w.heap.size w w' := by
  have HM := hide hm
  clear hm
  generalize hg : sread l = g
  have HG := hide hg
  clear hg
  have hB := hide hb
  clear hb
  generalize hn : l.length = n at *
  have HN := hide hn
  clear hn
  go_enter Tryd.func4, Tryd.ntmps4
  go_wp2_with fail
  refine (toByteS_in h (unhide HN) hl).mono ?_
  rintro e w1 ⟨v1, rfl, o1, b1⟩
  go_wp2_with fail
  refine (specDottedRead_any o1 (by rw [unhide HN]; exact hl) (unhide hB)).mono ?_
  rintro e w2 ⟨rfl, b2⟩
  rw [unhide HG]
  have b2 := below_next b1 b2
  go_wp2_with fail
  refine (toByteS_in (h.below b2) (unhide HN) hl).mono ?_
  rintro e w3 ⟨v3, rfl, o3, b3⟩
  have b3 := below_next b2 b3
  go_wp2_with fail
  refine (implDottedRead_any o3 (by rw [unhide HN]; exact hl) (unhide hB) ((unhide HM).below b3)).mono ?_
  rw [iread_sread, unhide HG]
  rintro e w4 ⟨rfl, b4⟩
  have o4 := o3.below b4
  have b4 := below_next b3 b4
  go_wp2_with fail
  refine (toByteS_in (h.below b4) (unhide HN) hl).mono ?_
  rintro e w5 ⟨v5, rfl, o5, b5⟩
  have o6 := o4.below b5
  have b5 := below_next b4 b5
  go_wp2_with fail
  refine (eqByteS_own o6 o5 (by rw [unhide HN]; omega)).mono ?_
  rintro e w6 ⟨rfl, b6⟩
  have b6 := below_next b5 b6
  go_wp2_with fail
  go_ret
  exact ⟨rfl, b6⟩
end Go.Proofs.YtgngepppkhajbabDoor
