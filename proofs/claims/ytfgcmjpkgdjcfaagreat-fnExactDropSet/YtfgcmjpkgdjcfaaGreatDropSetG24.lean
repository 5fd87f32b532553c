/-
  What NameGet reads, in plain words: one step after another, each a label or a pointer. What NameRead reads, in plain words. Plain facts: a name's text, label by label. No program is named here. Plain facts: a name comes back from its text, great letters being as small ones. No program is named here.
-/
import Derived.Test.YtfgcmjpkgdjcfaaGreatDropSetG00
import Derived.Test.YtfgcmjpkgdjcfaaGreatDropSetG23
namespace Go.Proofs.YtfgcmjpkgdjcfaaGreat
set_option linter.unusedVariables false

end Go.Proofs.YtfgcmjpkgdjcfaaGreat

namespace Go.Proofs.YtfgcmjpkgdjcfaaGreat
set_option linter.unusedVariables false

/-- The labels that are still to come, cur being what has been read of one; e: was there anything at all. -/
def rest (e : Bool) : List Int → List Int → List (List Int)
 | [], cur => if cur.length = 0 ∧ e = true then [] else [lowered cur cur.length]
 | x :: xs, cur => if x = 46 then lowered cur cur.length :: rest e xs [] else rest e xs (cur ++ [x])

end Go.Proofs.YtfgcmjpkgdjcfaaGreat

namespace Go.Proofs.YtfgcmjpkgdjcfaaGreat
open Go.RowKit

end Go.Proofs.YtfgcmjpkgdjcfaaGreat

namespace Go.Proofs.YtfgcmjpkgdjcfaaGreat
open Go.RowKit

end Go.Proofs.YtfgcmjpkgdjcfaaGreat
