/-
  What is known of the type byte in this program. Contracts of the program's copyBytes: new memory with the same bytes.
-/
import Derived.Test.YtkmjghecjlgjpaaDoorProg
import Derived.Test.YtkmjghecjlgjpaaDoorFnReverseG00
namespace Go.Proofs.YtkmjghecjlgjpaaDoor
open Go.RowKit

theorem info_u8 : (Tryd.prog.info? 5).map (fun i => (i.zero, i.size, i.bytes)) = some (some (.int .u8 0), 1, 1) := by kernel_rfl
end Go.Proofs.YtkmjghecjlgjpaaDoor

namespace Go.Proofs.YtkmjghecjlgjpaaDoor
open Go.RowKit
set_option linter.unusedVariables false

set_option maxHeartbeats 400000 in
set_option maxRecDepth 100000 in
theorem copyBytes_reads {v : Value} {l : List Int} {w : World} (h : Reads w v l) (hl : l.length ≤ 2097152) :
    Calls Tryd.prog 76 #[v] w fun e w' => ∃ v', e = .returned v' ∧ Own w.heap.size 5 w' v' l ∧ Below w.heap.size w w' := by
  go_enter Tryd.func76, Tryd.ntmps76
  go_wp2_with (at_builtin; refine append_bytes rfl _ _ 22 5 rfl Tryd.underlying22 info_u8 w.heap.size (.slice none 0 0) v [] l rfl rfl (World.ownsRow_nil _ _ _ _) h ?c1 (Nat.le_refl _) ?_)
  case c1 => simp; omega
  intro v' w1 hown hgrow
  go_wp2
  go_ret
  exact ⟨v', rfl, hown, below_of_grown hgrow⟩

theorem copyBytes_own {B : Nat} {v : Value} {l : List Int} {w : World} (h : Own B 5 w v l) (hl : l.length ≤ 2097152) :
    Calls Tryd.prog 76 #[v] w fun e w' => ∃ v', e = .returned v' ∧ Own w.heap.size 5 w' v' l ∧ Below w.heap.size w w' := copyBytes_reads h.reads hl
end Go.Proofs.YtkmjghecjlgjpaaDoor
