/-
  Plain facts: an own row of bytes, wherever.
-/
import Derived.Test.YtnloenkjfjlmeaaCarry
import Derived.Test.YtnloenkjfjlmeaaBase
namespace Go.Proofs.Ytnloenkjfjlmeaa
open Go.RowKit
set_option linter.unusedVariables false

/-- A slice with a row of its own, wherever. -/
def Row8 (w : World) (v : Value) (l : List Int) : Prop := ∃ B, Own B 5 w v l
theorem Row8.below {w w' : World} {v : Value} {l : List Int} (h : Row8 w v l) (hb : Below w.heap.size w w') : Row8 w' v l := h.elim fun B h => ⟨B, h.below hb⟩
theorem Row8.has {w : World} {v : Value} {l : List Int} (h : Row8 w v l) : Has w v l := h.elim fun B h => h.has
theorem Own.row8 {B : Nat} {w : World} {v : Value} {l : List Int} (h : Own B 5 w v l) : Row8 w v l := ⟨B, h⟩
theorem OwnB.row8 {C E : Nat} {w : World} {v : Value} {l : List Int} (h : OwnB C E 5 w v l) : Row8 w v l := ⟨C, h.1⟩
end Go.Proofs.Ytnloenkjfjlmeaa
