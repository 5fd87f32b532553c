/-
  Contracts of the helpers of the laws for slices of numbers (toIntS, eqIntS, markIntS, heldIntS). Contracts of the name helpers of the laws (szName, toName, eqName): what each answers and what it leaves in memory.
-/
import Derived.Test.YtkmjghecjlgjpaaDoorSha256G06
import Derived.Test.YtkmjghecjlgjpaaDoorSha256G00
import Derived.Test.YtkmjghecjlgjpaaDoorSha256G01
import Derived.Test.YtkmjghecjlgjpaaDoorSha256G02
namespace Go.Proofs.YtkmjghecjlgjpaaDoor
open Go.RowKit
set_option linter.unusedVariables false

end Go.Proofs.YtkmjghecjlgjpaaDoor

namespace Go.Proofs.YtkmjghecjlgjpaaDoor
open Go.RowKit
set_option linter.unusedVariables false

end Go.Proofs.YtkmjghecjlgjpaaDoor
