/-
  What is known of the type byte in this program.
-/
import Derived.Test.YtnloenkjfjlmeaaProg
import Derived.Test.YtnloenkjfjlmeaaPlain
namespace Go.Proofs.Ytnloenkjfjlmeaa
open Go.RowKit

theorem info_u8 : (Try.prog.info? 5).map (fun i => (i.zero, i.size, i.bytes)) = some (some (.int .u8 0), 1, 1) := by kernel_rfl
end Go.Proofs.Ytnloenkjfjlmeaa
