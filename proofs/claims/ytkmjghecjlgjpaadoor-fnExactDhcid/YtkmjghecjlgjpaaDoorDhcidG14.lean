/-
  Contracts of the helpers of the laws for records (szRr, eqRr). Contracts of the helpers of the laws for records (toRr).
-/
import Derived.Test.YtkmjghecjlgjpaaDoorDhcidG10
import Derived.Test.YtkmjghecjlgjpaaDoorDhcidG13
import Derived.Test.YtkmjghecjlgjpaaDoorDhcidG02
namespace Go.Proofs.YtkmjghecjlgjpaaDoor
open Go.RowKit
set_option linter.unusedVariables false

theorem HasI.draws {w : World} {v : Value} {l : List Int} (h : HasI w v l) (n : Nat) : HasI (w.drewN n) v l := h.below (below_draws n)
end Go.Proofs.YtkmjghecjlgjpaaDoor

namespace Go.Proofs.YtkmjghecjlgjpaaDoor
open Go.RowKit
set_option linter.unusedVariables false

end Go.Proofs.YtkmjghecjlgjpaaDoor
