/-
  Plain facts: what DataPut answers. No program is named here.
-/
import Derived.Test.YtdbojhbdfcknfaaDataB
namespace Go.Proofs.Ytdbojhbdfcknfaa
open Go.RowKit

/-- What DataPut answers. -/
def dataPut (r : Rec) : List Int × Bool := if rrOk r = true then (dataB r, true) else ([], false)
theorem dataPut_yes {r : Rec} (h : rrOk r = true) : dataPut r = (dataB r, true) := by unfold dataPut; rw [if_pos h]
theorem dataPut_no {r : Rec} (h : rrOk r = false) : dataPut r = ([], false) := by unfold dataPut; rw [if_neg (by simp [h])]
theorem dataPut_length (r : Rec) : (dataPut r).1.length ≤ 105 := by
  cases h : rrOk r with
  | true => rw [dataPut_yes h]; exact dataB_length h
  | false => rw [dataPut_no h]; simp
end Go.Proofs.Ytdbojhbdfcknfaa
