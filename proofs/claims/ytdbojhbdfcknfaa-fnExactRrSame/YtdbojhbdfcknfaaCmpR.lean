/-
  Plain facts: the order of records. No program is named here.
-/
import Derived.Test.YtdbojhbdfcknfaaDataB
import Derived.Test.YtdbojhbdfcknfaaCmp
namespace Go.Proofs.Ytdbojhbdfcknfaa
open Go.RowKit

/-- By name, type, data. -/
def cmpR (a b : Rec) : Int := if cmpN a.name b.name ≠ 0 then cmpN a.name b.name else if byLength a.type b.type ≠ 0 then byLength a.type b.type else cmpB (dataB a) (dataB b)
def rrCmp (a b : Rec) : Int := if rrOk a = true ∧ rrOk b = true then cmpR a b else 0
def rrSame (a b : Rec) : Bool := rrOk a && (rrOk b && (cmpR a b == 0))
theorem byLength_zero {x y : Int} (h : byLength x y = 0) : x = y := by
  unfold byLength at h
  split at h
  · omega
  · split at h
    · omega
    · omega
end Go.Proofs.Ytdbojhbdfcknfaa
