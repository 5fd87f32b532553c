/-
  Contracts of the program's own helper allThere: are n bytes there from a place on? Contracts of the program's Get32.
-/
import Derived.Test.YtkmjghecjlgjpaaDoorDhcidG01
namespace Go.Proofs.YtkmjghecjlgjpaaDoor
open Go.RowKit
set_option linter.unusedVariables false

set_option maxHeartbeats 400000 in
set_option maxRecDepth 100000 in
theorem allThere_yes (a : Option Addr) (len cap : Nat) (at' n : Int) (w : World) (hl : len ≤ 2097152) (h0 : 0 ≤ at') (hn : 0 ≤ n) (h : n ≤ len - at') :
  Calls Tryd.prog 124 #[.slice a len cap, .int .i64 at', .int .i64 n] w fun e w' => e = .returned (.bool true) ∧ w = w' := by
 go_enter Tryd.func124, Tryd.ntmps124
 go_wp2
 go_ret
 exact ⟨rfl, rfl⟩

end Go.Proofs.YtkmjghecjlgjpaaDoor

namespace Go.Proofs.YtkmjghecjlgjpaaDoor
open Go.RowKit
set_option linter.unusedVariables false

set_option maxHeartbeats 800000 in
set_option maxRecDepth 100000 in
theorem implGet32_yes (a : Option Addr) (cap : Nat) (l : List Int) (i : Nat) (w : World) (hl : l.length ≤ 2097152) (h : Lies w a l) (hi : i + 4 ≤ l.length) (hb : ∀ k, 0 ≤ l.getD k 0 ∧ l.getD k 0 ≤ 255) :
  Calls Tryd.prog 115 #[.slice a l.length cap, .int .i64 i] w fun e w' => e = .returned (.tuple #[.int .i64 (l.getD i 0 * 16777216 + l.getD (i + 1) 0 * 65536 + l.getD (i + 2) 0 * 256 + l.getD (i + 3) 0), .int .i64 (i + 4)]) ∧ ∃ n, w' = w.drewN n := by
 obtain ⟨b, off, rfl, c0, c1, c2, c3⟩ := four_there h hi
 have h0 := hb i
 have h1 := hb (i + 1)
 have h2 := hb (i + 2)
 have h3 := hb (i + 3)
 generalize l.getD i 0 = x0 at *
 generalize l.getD (i + 1) 0 = x1 at *
 generalize l.getD (i + 2) 0 = x2 at *
 generalize l.getD (i + 3) 0 = x3 at *
 clear hb
 generalize hn : l.length = n at *
 have HN := hide hn
 clear hn
 go_enter Tryd.func115, Tryd.ntmps115
 go_wp2_with (go_at_call 124; refine (allThere_yes _ _ _ _ _ _ hl (by omega) (by omega) (by omega)).mono ?_; rintro e w' ⟨rfl, rfl⟩)
 go_quiet (fail)
 go_wp2
 go_quiet (fail)
 go_wp2
 go_ret2
 refine ⟨ret2_int ?_ rfl, _, rfl⟩
 rw [or_24 x0 x1 (by omega) (by omega) (by omega) (by omega), or_8 x2 x3 (by omega) (by omega) (by omega) (by omega), show x0 * 16777216 + x1 * 65536 = (x0 * 256 + x1) * 65536 from by omega,
  or_16 _ _ (by omega) (by omega) (by omega) (by omega)]
 omega

end Go.Proofs.YtkmjghecjlgjpaaDoor
