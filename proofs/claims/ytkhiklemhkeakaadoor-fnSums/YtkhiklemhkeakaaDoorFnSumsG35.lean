/-
  Plain facts: how great a drawn name may be. No program is named here. Contract of the specification's l1PickInt: what is picked has the property that all have.
-/
import Derived.Test.YtkhiklemhkeakaaDoorFnSumsG00
import Derived.Test.YtkhiklemhkeakaaDoorFnSumsG32
namespace Go.Proofs.YtkhiklemhkeakaaDoor

/-- How long a drawn name may be. -/
def BentOk (n : List (List Int)) : Prop := n.length ≤ 7 ∧ ∀ i, i < n.length → (n.getD i []).length ≤ 16
end Go.Proofs.YtkhiklemhkeakaaDoor

namespace Go.Proofs.YtkhiklemhkeakaaDoor
open Go.RowKit
set_option linter.unusedVariables false

set_option maxHeartbeats 1000000 in
set_option maxRecDepth 100000 in
theorem l1PickIn_any {g : Nat} {a : Option Addr} {len cap : Nat} {w : World} (gl n : Nat) (p : Int → Prop) (hc : Cur w g a len cap) (hL : Code w g a len) (hm : len ≤ maxLen) (hn0 : 1 ≤ n) (hn1 : n ≤ 1048576) (hlt : gl < w.heap.size) (hgl : g < gl)
    (hcell : ∀ j, j < n → ∃ z, w.cell? ⟨gl, j, none⟩ = some (.int .i64 z) ∧ p z) :
    Calls Tryd.prog 18 #[.pointer (some ⟨g, 0, none⟩), .slice (some ⟨gl, 0, none⟩) n n] w fun e w' => ∃ z, e = .returned (.int .i64 z) ∧ p z ∧ Cur w' g a len cap ∧ w.grownBy w' (some g) := by
  have HM := hide hm
  clear hm
  have HC := hide hcell
  clear hcell
  go_enter Tryd.func18, Tryd.ntmps18
  go_wp2_with fail
  refine (l1Below_any n hc hL (unhide HM) (by omega) (by omega)).mono ?_
  rintro e w1 ⟨x, rfl, hx0, hx1, hc1, g1⟩
  obtain ⟨j, rfl⟩ := Int.eq_ofNat_of_zero_le hx0
  obtain ⟨z, hz, hp⟩ := (unhide HC) j (by omega)
  have hz1 : w1.cell? ⟨gl, j, none⟩ = some (.int .i64 z) := by
    rw [World.cell?_of_block (w := w) (g1.block gl hlt (by simp; omega))]; exact hz
  have HP := hide hp
  clear hz hp
  go_wp2
  go_ret
  exact ⟨z, rfl, unhide HP, hc1, g1⟩
end Go.Proofs.YtkhiklemhkeakaaDoor
