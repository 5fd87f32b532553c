/-
  Plain facts: a slice of two numbers, laid.
-/
import Derived.Test.YthmihglfffeedaaGreatDoorFnRecordsG04
namespace Go.Proofs.YthmihglfffeedaaGreatDoor
open Go.RowKit

theorem own_litI2 (w : World) (B : Nat) (e : TypeId) (x y : Int) (hB : B ≤ w.heap.size) :
  OwnI B e (w.alloc (.cells #[.int .i64 x, .int .i64 y] e)) (.slice (some ⟨w.heap.size, 0, none⟩) 2 2) [x, y] := by
 have h := World.ownsRow_lit (base := B) (e := e) (size := 1) w #[.int .i64 x, .int .i64 y] 2 hB (by unfold maxLen; omega) (by simp)
 simpa [OwnI] using h

end Go.Proofs.YthmihglfffeedaaGreatDoor
