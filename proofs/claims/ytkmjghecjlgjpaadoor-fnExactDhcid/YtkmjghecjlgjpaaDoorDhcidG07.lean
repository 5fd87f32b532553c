/-
  Plain facts: a text of bytes gone through rune by rune, and great letters turned into small ones. No program is named here. What NameGet reads, in plain words: one step after another, each a label or a pointer.
-/
import Derived.Test.YtkmjghecjlgjpaaDoorDhcidG00
import Derived.Lib.OthersKept
namespace Go.Proofs.YtkmjghecjlgjpaaDoor
open Go.RowKit

/-- One byte, a great letter as a small one. -/
def low (x : Int) : Int := if 65 ≤ x ∧ x ≤ 90 then x + 32 else x
end Go.Proofs.YtkmjghecjlgjpaaDoor

namespace Go.Proofs.YtkmjghecjlgjpaaDoor
set_option linter.unusedVariables false

/-- Every number of the list is a byte. -/
def Bytes8 (l : List Int) : Prop := ∀ k, 0 ≤ l.getD k 0 ∧ l.getD k 0 ≤ 255

end Go.Proofs.YtkmjghecjlgjpaaDoor
