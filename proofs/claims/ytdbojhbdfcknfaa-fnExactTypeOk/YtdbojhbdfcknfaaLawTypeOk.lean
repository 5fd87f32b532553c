/-
  The walk of laws.FnExactTypeOk.
-/
import Derived.Test.YtdbojhbdfcknfaaKind
import Derived.Below
namespace Go.Proofs.Ytdbojhbdfcknfaa
open Go.RowKit
set_option linter.unusedVariables false

set_option maxHeartbeats 800000 in
set_option maxRecDepth 100000 in
theorem lawTypeOk (t : Int) (w : World) : Calls Try.prog 14 #[.int .i64 t] w fun e w' => e = .returned (.bool true) ∧ Below w.heap.size w w' := by
  generalize hg : typeOk t = G
  have HG := hide hg
  clear hg
  go_enter Try.func14, Try.ntmps14
  go_wp2_with fail
  refine (specTypeOk_any t _).mono ?_
  rw [unhide HG]
  rintro e w1 ⟨rfl, rfl⟩
  go_wp2_with fail
  refine (implTypeOk_any t _).mono ?_
  rw [unhide HG]
  rintro e w1 ⟨rfl, rfl⟩
  go_wp2
  go_ret
  exact ⟨rfl, Below.refl _ _⟩
end Go.Proofs.Ytdbojhbdfcknfaa
