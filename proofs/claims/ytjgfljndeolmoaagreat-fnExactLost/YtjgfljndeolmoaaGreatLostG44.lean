/-
  Contracts of the helpers of the laws for names (markName). Contracts of the helpers of the laws for names (heldName). Plain facts: how far the marks of a row of records go.
-/
import Derived.Test.YtjgfljndeolmoaaGreatLostG42
import Derived.Test.YtjgfljndeolmoaaGreatLostG08
namespace Go.Proofs.YtjgfljndeolmoaaGreat
open Go.RowKit
set_option linter.unusedVariables false

set_option maxHeartbeats 400000 in
set_option maxRecDepth 100000 in
theorem markName_any {B E : Nat} {v : Value} {n : List (List Int)} (k0 : Int) {w : World} (h : OwnN B E 27 5 w v n) (hl : n.length ≤ 1048576) (hl2 : ∀ i, i < n.length → (n.getD i []).length ≤ 1048576) (hk0 : 0 ≤ k0) (hk1 : k0 ≤ 8000000000000000000) :
  Calls Tryz.prog 55 #[.agg #[v], .int .i64 k0] w fun e w' => e = .returned (.int .i64 (pos n k0 n.length)) ∧ OwnN B E 27 5 w' v (markL n k0) ∧ Outside B E w w' := by
 have hc := hide (markByteSS_any k0 (h.below (below_alloc (.cells #[v] 57))) hl hl2 hk0 hk1)
 obtain ⟨a, cap, rfl, _⟩ := h.ownL.hasL.form
 have HL2 := hide hl2
 clear h hl2
 generalize pos n k0 n.length = P at *
 go_enter Tryz.func55, Tryz.ntmps55
 go_wp2_with fail
 refine (unhide hc).mono ?_
 rintro e w1 ⟨rfl, o1, x1⟩
 go_wp2_with fail
 go_ret
 exact ⟨rfl, o1, (Below.outside (below_alloc _)).trans x1⟩
end Go.Proofs.YtjgfljndeolmoaaGreat

namespace Go.Proofs.YtjgfljndeolmoaaGreat
open Go.RowKit
set_option linter.unusedVariables false

set_option maxHeartbeats 400000 in
set_option maxRecDepth 100000 in
theorem heldName_has {v : Value} {n : List (List Int)} (k0 : Int) {w : World} (h : HasL w v (markL n k0)) (hl : n.length ≤ 1048576) (hl2 : ∀ i, i < n.length → (n.getD i []).length ≤ 1048576) (hk0 : 0 ≤ k0) (hk1 : k0 ≤ 8000000000000000000) :
  Calls Tryz.prog 69 #[.agg #[v], .int .i64 k0] w fun e w' => e = .returned (.int .i64 (pos n k0 n.length)) ∧ Below w.heap.size w w' := by
 have hb := below_alloc (w := w) (.cells #[v] 57)
 have hc := hide (heldByteSS_has k0 (h.below hb) hl hl2 hk0 hk1)
 have hp := (pos_le n k0 1048576 hl2 n.length (Nat.le_refl _)).1
 obtain ⟨a, cap, rfl, _⟩ := h.form
 have HL2 := hide hl2
 clear h hl2
 generalize pos n k0 n.length = P at *
 have hneg : ¬ P < 0 := by omega
 go_enter Tryz.func69, Tryz.ntmps69
 go_wp2_with fail
 refine (unhide hc).mono ?_
 rintro e w1 ⟨rfl, rfl⟩
 go_wp2_with fail
 go_ret
 exact ⟨rfl, hb⟩
end Go.Proofs.YtjgfljndeolmoaaGreat

namespace Go.Proofs.YtjgfljndeolmoaaGreat
open Go.RowKit

theorem posRs_bound' {rs : List Rec} (hs : ∀ i, i < rs.length → SizeR 1048576 (rs.getD i recZ)) (hl : rs.length ≤ 1048576) (k : Int) : k ≤ posRs rs k rs.length ∧ posRs rs k rs.length ≤ k + 2305845208240095232 := by
 have h := posRs_bound hs k rs.length (Nat.le_refl _)
 have : rs.length * 2199025352707 ≤ 1048576 * 2199025352707 := Nat.mul_le_mul_right _ hl
 omega
end Go.Proofs.YtjgfljndeolmoaaGreat
