/-
  Plain facts: the decimal digits of a byte, and an address as four numbers with dots between. No program is named here. Contracts of the specification's l1digits (of a byte) and l1dotted.
-/
import Derived.Test.YtkmjghecjlgjpaaDoorDhcidG00
import Derived.Lib.ItoaNum
import Derived.Lib.UnsafeStr
import Derived.Test.YtkmjghecjlgjpaaDoorDhcidG01
namespace Go.Proofs.YtkmjghecjlgjpaaDoor
open Go.RowKit

def parts (n : Int) : List Int := [n / 16777216, n / 65536 % 256, n / 256 % 256, n % 256]
def part (n : Int) (j : Nat) : Int := (parts n).getD j 0

end Go.Proofs.YtkmjghecjlgjpaaDoor

namespace Go.Proofs.YtkmjghecjlgjpaaDoor
open Go.RowKit
set_option linter.unusedVariables false

theorem own_byte1 (w : World) (B : Nat) (e : TypeId) (x : Int) (hB : B ≤ w.heap.size) : Own B e (w.alloc (.cells #[.int .u8 x] e)) (.slice (some ⟨w.heap.size, 0, none⟩) 1 1) [x] := own_lit w B e [x] hB (by simp [maxLen])

end Go.Proofs.YtkmjghecjlgjpaaDoor
