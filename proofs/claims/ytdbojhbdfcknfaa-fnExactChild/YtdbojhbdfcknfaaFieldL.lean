/-
  The one field of a Name that is a value.
-/
import Derived.Test.YtdbojhbdfcknfaaBase
namespace Go.Proofs.Ytdbojhbdfcknfaa
open Go.RowKit

theorem field_L (a : Option Addr) (n c : Nat) (w : World) : Sem.run Try.prog (Instr.field 25 (Value.agg #[.slice a n c]) 0) w = .ok (.slice a n c) w := by kernel_rfl
end Go.Proofs.Ytdbojhbdfcknfaa
