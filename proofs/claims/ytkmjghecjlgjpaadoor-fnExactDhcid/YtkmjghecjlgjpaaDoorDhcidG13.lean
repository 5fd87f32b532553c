/-
  Contracts of the helpers of the laws for slices of numbers (toIntS, eqIntS, markIntS, heldIntS). Plain facts: lists of texts of the call's own: one more behind, two joined, a part. No program is named here.
-/
import Derived.Test.YtkmjghecjlgjpaaDoorDhcidG10
import Derived.Test.YtkmjghecjlgjpaaDoorDhcidG01
import Derived.Test.YtkmjghecjlgjpaaDoorDhcidG05
import Derived.Laws.ResultCell
import Derived.Laws.Rows
namespace Go.Proofs.YtkmjghecjlgjpaaDoor
open Go.RowKit
set_option linter.unusedVariables false

end Go.Proofs.YtkmjghecjlgjpaaDoor

namespace Go.Proofs.YtkmjghecjlgjpaaDoor
open Go.RowKit

/-- Two new blocks, as a function's box and its result lie. -/
theorem box2 (w : World) (o : Obj) (c2 : Array Value) (t2 : TypeId) :
  ((w.alloc o).alloc (.cells c2 t2)).heap.size = w.heap.size + 2 ∧ ((w.alloc o).alloc (.cells c2 t2)).heap[w.heap.size]? = some o ∧ ((w.alloc o).alloc (.cells c2 t2)).heap[w.heap.size + 1]? = some (.cells c2 t2) := by
 have e1 : (w.alloc o).heap.size = w.heap.size + 1 := by show (w.heap.push o).size = _; simp
 have e2 : ((w.alloc o).alloc (.cells c2 t2)).heap.size = w.heap.size + 1 + 1 := by rw [← e1]; show ((w.alloc o).heap.push _).size = _; simp
 refine ⟨e2, block_kept (below_alloc _) (heap_alloc_new w o), ?_⟩
 rw [← e1]; exact heap_alloc_new _ _
theorem below2 (w : World) (o o' : Obj) : Below w.heap.size w ((w.alloc o).alloc o') := (below_alloc _).alloc (below_alloc _).size _

end Go.Proofs.YtkmjghecjlgjpaaDoor
