/-
  What an assertion on the program's data answers.
-/
import Derived.Test.YtnnhdmjdkbkclaaIData
namespace Go.Proofs.Ytnnhdmjdkbkclaa
open Go.RowKit
set_option linter.unusedVariables false

theorem ta_aa (v : Value) (w : World) : Sem.run Try.prog (Instr.typeAssert (.iface 67 v) 56 67 true) w = .ok (.tuple #[v, .bool true]) w := by kernel_rfl
theorem ta_an (v : Value) (w : World) : Sem.run Try.prog (Instr.typeAssert (.iface 67 v) 56 69 true) w = .ok (.tuple #[.agg #[.slice none 0 0], .bool false]) w := by kernel_rfl
theorem ta_as (v : Value) (w : World) : Sem.run Try.prog (Instr.typeAssert (.iface 67 v) 56 71 true) w = .ok (.tuple #[.agg #[.slice none 0 0, .slice none 0 0], .bool false]) w := by kernel_rfl
theorem ta_ax (v : Value) (w : World) : Sem.run Try.prog (Instr.typeAssert (.iface 67 v) 56 73 true) w = .ok (.tuple #[.agg #[.slice none 0 0], .bool false]) w := by kernel_rfl
theorem ta_na (v : Value) (w : World) : Sem.run Try.prog (Instr.typeAssert (.iface 69 v) 56 67 true) w = .ok (.tuple #[.agg #[.int .i64 0], .bool false]) w := by kernel_rfl
theorem ta_nn (v : Value) (w : World) : Sem.run Try.prog (Instr.typeAssert (.iface 69 v) 56 69 true) w = .ok (.tuple #[v, .bool true]) w := by kernel_rfl
theorem ta_ns (v : Value) (w : World) : Sem.run Try.prog (Instr.typeAssert (.iface 69 v) 56 71 true) w = .ok (.tuple #[.agg #[.slice none 0 0, .slice none 0 0], .bool false]) w := by kernel_rfl
theorem ta_nx (v : Value) (w : World) : Sem.run Try.prog (Instr.typeAssert (.iface 69 v) 56 73 true) w = .ok (.tuple #[.agg #[.slice none 0 0], .bool false]) w := by kernel_rfl
theorem ta_sa (v : Value) (w : World) : Sem.run Try.prog (Instr.typeAssert (.iface 71 v) 56 67 true) w = .ok (.tuple #[.agg #[.int .i64 0], .bool false]) w := by kernel_rfl
theorem ta_sn (v : Value) (w : World) : Sem.run Try.prog (Instr.typeAssert (.iface 71 v) 56 69 true) w = .ok (.tuple #[.agg #[.slice none 0 0], .bool false]) w := by kernel_rfl
theorem ta_ss (v : Value) (w : World) : Sem.run Try.prog (Instr.typeAssert (.iface 71 v) 56 71 true) w = .ok (.tuple #[v, .bool true]) w := by kernel_rfl
theorem ta_sx (v : Value) (w : World) : Sem.run Try.prog (Instr.typeAssert (.iface 71 v) 56 73 true) w = .ok (.tuple #[.agg #[.slice none 0 0], .bool false]) w := by kernel_rfl
theorem ta_xa (v : Value) (w : World) : Sem.run Try.prog (Instr.typeAssert (.iface 73 v) 56 67 true) w = .ok (.tuple #[.agg #[.int .i64 0], .bool false]) w := by kernel_rfl
theorem ta_xn (v : Value) (w : World) : Sem.run Try.prog (Instr.typeAssert (.iface 73 v) 56 69 true) w = .ok (.tuple #[.agg #[.slice none 0 0], .bool false]) w := by kernel_rfl
theorem ta_xs (v : Value) (w : World) : Sem.run Try.prog (Instr.typeAssert (.iface 73 v) 56 71 true) w = .ok (.tuple #[.agg #[.slice none 0 0, .slice none 0 0], .bool false]) w := by kernel_rfl
theorem ta_xx (v : Value) (w : World) : Sem.run Try.prog (Instr.typeAssert (.iface 73 v) 56 73 true) w = .ok (.tuple #[v, .bool true]) w := by kernel_rfl
end Go.Proofs.Ytnnhdmjdkbkclaa
