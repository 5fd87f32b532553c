/-
  Contract of the specification's l1PickInt. Contract of the specification's l1num: a drawn number.
-/
import Derived.Test.YtkmjghecjlgjpaaDoorFnReverseG12
namespace Go.Proofs.YtkmjghecjlgjpaaDoor
open Go.RowKit
set_option linter.unusedVariables false

set_option maxHeartbeats 400000 in
set_option maxRecDepth 100000 in
theorem l1PickInt_any {g : Nat} {a : Option Addr} {len cap : Nat} {w : World} (gl n : Nat) (hc : Cur w g a len cap) (hL : Code w g a len) (hm : len ≤ maxLen) (hn0 : 1 ≤ n) (hn1 : n ≤ 1048576) (hlt : gl < w.heap.size) (hgl : g < gl)
    (hcell : ∀ j, j < n → ∃ z, w.cell? ⟨gl, j, none⟩ = some (.int .i64 z)) :
    Calls Tryd.prog 74 #[.pointer (some ⟨g, 0, none⟩), .slice (some ⟨gl, 0, none⟩) n n] w fun e w' => ∃ z, e = .returned (.int .i64 z) ∧ Cur w' g a len cap ∧ w.grownBy w' (some g) := by
  have HM := hide hm
  clear hm
  have HC := hide hcell
  clear hcell
  go_enter Tryd.func74, Tryd.ntmps74
  go_wp2_with fail
  refine (l1Below_any n hc hL (unhide HM) (by omega) (by omega)).mono ?_
  rintro e w1 ⟨x, rfl, hx0, hx1, hc1, g1⟩
  obtain ⟨j, rfl⟩ := Int.eq_ofNat_of_zero_le hx0
  obtain ⟨z, hz⟩ := (unhide HC) j (by omega)
  have hz1 : w1.cell? ⟨gl, j, none⟩ = some (.int .i64 z) := by
    rw [World.cell?_of_block (w := w) (g1.block gl hlt (by simp; omega))]; exact hz
  clear hz
  go_wp2
  go_ret
  exact ⟨z, rfl, hc1, g1⟩

theorem below_cursor {w w1 w2 : World} {row : Option Nat} (hb : Below w.heap.size w w1) (hg : w1.grownBy w2 row) (hr : ∀ j, row = some j → w.heap.size ≤ j) : Below w.heap.size w w2 := hb.grown hg hb.size hr
end Go.Proofs.YtkmjghecjlgjpaaDoor

namespace Go.Proofs.YtkmjghecjlgjpaaDoor
open Go.RowKit
set_option linter.unusedVariables false

set_option maxHeartbeats 400000 in
set_option maxRecDepth 100000 in
theorem l1num_any {g : Nat} {a : Option Addr} {len cap : Nat} {w : World} (hc : Cur w g a len cap) (hL : Code w g a len) (hm : len ≤ maxLen) :
    Calls Tryd.prog 35 #[.pointer (some ⟨g, 0, none⟩)] w fun e w' => ∃ z, e = .returned (.int .i64 z) ∧ Cur w' g a len cap ∧ w.grownBy w' (some g) := by
  have HM := hide hm
  clear hm
  have hgw := hc.lt
  go_enter Tryd.func35, Tryd.ntmps35
  go_wp2_with fail
  refine (l1Below_any 1073741824 hc hL (unhide HM) (by omega) (by omega)).mono ?_
  rintro e w1 ⟨x, rfl, hx0, hx1, hc1, g1⟩
  have hL1 := hL.grown g1
  have hz1 := g1.size
  go_wp2_with fail
  refine (l1PickInt_any (w := w1.alloc _) w1.heap.size 11 (hc1.later (grown_alloc w1 _ none) (by simp)) (hL1.later (grown_alloc w1 _ none) (by simp)) (unhide HM) (by omega) (by omega) (by simp) (by omega) (fun j hj => ?_)).mono ?_
  · match j, hj with
    | 0, _ => exact ⟨_, by simp; rfl⟩
    | 1, _ => exact ⟨_, by simp; rfl⟩
    | 2, _ => exact ⟨_, by simp; rfl⟩
    | 3, _ => exact ⟨_, by simp; rfl⟩
    | 4, _ => exact ⟨_, by simp; rfl⟩
    | 5, _ => exact ⟨_, by simp; rfl⟩
    | 6, _ => exact ⟨_, by simp; rfl⟩
    | 7, _ => exact ⟨_, by simp; rfl⟩
    | 8, _ => exact ⟨_, by simp; rfl⟩
    | 9, _ => exact ⟨_, by simp; rfl⟩
    | 10, _ => exact ⟨_, by simp; rfl⟩
  rintro e w2 ⟨z, rfl, hc2, g2⟩
  go_wp2
  go_ret
  exact ⟨z, rfl, hc2, grown_trans (grown_trans g1 (grown_alloc w1 _ _)) g2⟩
end Go.Proofs.YtkmjghecjlgjpaaDoor
