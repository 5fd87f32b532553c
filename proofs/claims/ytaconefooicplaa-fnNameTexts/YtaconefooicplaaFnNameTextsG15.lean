/-
  Contract of the specification's DrawNameCmp: two drawn names. Contract of the specification's DrawNameText: a drawn name.
-/
import Derived.Test.YtaconefooicplaaFnNameTextsG14
namespace Go.Proofs.Ytaconefooicplaa
open Go.RowKit
set_option linter.unusedVariables false

/-- How long a drawn name may be. -/
def BentOk (n : List (List Int)) : Prop := n.length ≤ 7 ∧ ∀ i, i < n.length → (n.getD i []).length ≤ 16

set_option maxHeartbeats 1000000 in
set_option maxRecDepth 100000 in
theorem drawNameCmp_any {a : Option Addr} {len cap : Nat} {w : World} (l : List Int) (hL : Lies w a l) (hn : l.length = len) (hb : ∀ k, 0 ≤ l.getD k 0 ∧ l.getD k 0 ≤ 255) (hm : len ≤ maxLen) :
    Calls Try.prog 17 #[.slice a len cap] w fun e w' => ∃ v1 n1 v2 n2, e = .returned (.tuple #[.agg #[v1], .agg #[v2]]) ∧ BentOk n1 ∧ BentOk n2 ∧ HasL w' v1 n1 ∧ HasL w' v2 n2 ∧ Below w.heap.size w w' := by
  obtain ⟨hsz, k0, r0⟩ := box2 w (.cells #[.slice none 0 0] 25) #[.slice none 0 0] 25
  have b0 := below2 w (.cells #[.slice none 0 0] 25) (.cells #[.slice none 0 0] 25)
  have HNEW := hide (l1New_any (cap := cap) l (hL.below b0) hn hb hm)
  have K0 := hide k0
  have R0 := hide r0
  have zz := block_lt r0
  clear hL hn hb k0 r0 hsz
  go_enter Try.func17, Try.ntmps17
  go_wp2_with fail
  generalize (w.alloc (.cells #[.slice none 0 0] 25)).alloc (.cells #[.slice none 0 0] 25) = W at *
  refine (unhide HNEW).mono ?_
  rintro e w1 ⟨rfl, c1, L1, b1⟩
  have K1 := hide (block_kept b1 (unhide K0))
  have R1 := hide (block_kept b1 (unhide R0))
  have bb1 := below_next b0 b1
  have z1 := c1.lt
  have HD := hide (l2bent_any c1 L1 hm)
  have C1 := hide c1
  have HL1 := hide L1

  clear HNEW K0 R0 b0 c1 L1
  go_wp2_with fail
  refine (unhide HD).mono ?_
  rintro e w2 ⟨v1, n1, rfl, m1, m2, o2, c2, g2⟩
  have K2 := hide (block_grown g2 (unhide K1) (by simp; omega))
  have R2 := hide (block_grown g2 (unhide R1) (by simp; omega))
  have bb2 := below_cursor bb1 g2 (fun j e => by simp at e; omega)
  have HD2 := hide (l2bent_any c2 ((unhide HL1).grown g2) hm)
  have BN1 := hide (⟨m1, m2⟩ : BentOk n1)
  have O2 := hide o2
  have C2 := hide c2
  have z2 := g2.size
  obtain ⟨x1, y1, rfl⟩ := o2.form
  clear HD g2 bb1 K1 R1 C1 c2 m1 m2 o2
  go_wp2_with fail
  refine (unhide HD2).mono ?_
  rintro e w3 ⟨v2, n2, rfl, m1, m2, o3, c3, g3⟩
  have k3 := block_grown g3 (unhide K2) (by simp; omega)
  have r3 := block_grown g3 (unhide R2) (by simp; omega)
  have bb3 := below_cursor bb2 g3 (fun j e => by simp at e; omega)
  have BN2 := hide (⟨m1, m2⟩ : BentOk n2)
  have p3 := (unhide O2).cur (unhide C2) g3
  have z3 := g3.size
  obtain ⟨x2, y2, rfl⟩ := o3.form
  have ck := block_one k3
  have fk := block_frozen k3 0
  have r4 := block_other r3 (b' := w.heap.size) (by omega) 0 (.slice x1 n1.length y1)
  have cr := block_one r4
  have fr := block_frozen r4 0
  have k4 := block_set k3 (.slice x1 n1.length y1)
  have p4 := (OwnT.set (j := 0) p3 k3 (by decide) (by decide) (.slice x1 n1.length y1))
  have o4 := (OwnT.set (j := 0) o3 k3 (by decide) (by decide) (.slice x1 n1.length y1))
  have KF := hide (block_other k4 (b' := w.heap.size + 1) (by omega) 0 (.slice x2 n2.length y2))
  have RF := hide (block_set r4 (.slice x2 n2.length y2))
  have PF := hide (OwnT.set (j := 0) p4 r4 (by decide) (by decide) (.slice x2 n2.length y2)).hasL
  have OF := hide (OwnT.set (j := 0) o4 r4 (by decide) (by decide) (.slice x2 n2.length y2)).hasL
  clear HD2 g3 bb2 K2 R2 C2 c3 m1 m2 o3 k3 r3 r4 k4 p3 p4 o4 O2
  go_wp2_with fail
  refine bodyPost_ret (results_cells2_row rfl _ _ w.heap.size (w.heap.size + 1) 25 25 #[.slice x1 n1.length y1] #[.slice x2 n2.length y2] (0, 0) (0, 0) _ _ rfl (unhide KF) rfl (unhide RF) Try.underlying25 rfl (by kernel_rfl) Try.underlying25 rfl (by kernel_rfl)) rfl ?_
  exact ⟨_, n1, _, n2, rfl, unhide BN1, unhide BN2, unhide PF, unhide OF, (bb3.setCell (Nat.le_refl _) _).setCell (by show w.heap.size ≤ w.heap.size + 1; omega) _⟩
end Go.Proofs.Ytaconefooicplaa

namespace Go.Proofs.Ytaconefooicplaa
open Go.RowKit
set_option linter.unusedVariables false

set_option maxHeartbeats 1000000 in
set_option maxRecDepth 100000 in
theorem drawNameText_any {a : Option Addr} {len cap : Nat} {w : World} (l : List Int) (hL : Lies w a l) (hn : l.length = len) (hb : ∀ k, 0 ≤ l.getD k 0 ∧ l.getD k 0 ≤ 255) (hm : len ≤ maxLen) :
    Calls Try.prog 9 #[.slice a len cap] w fun e w' => ∃ v1 n1, e = .returned (.agg #[v1]) ∧ BentOk n1 ∧ HasL w' v1 n1 ∧ Below w.heap.size w w' := by
  have b0 := below_alloc (w := w) (.cells #[.slice none 0 0] 25)
  have HNEW := hide (l1New_any (cap := cap) l (hL.below b0) hn hb hm)
  have K0 := hide (heap_alloc_new w (.cells #[.slice none 0 0] 25))
  have zz := block_lt (unhide K0)
  clear hL hn hb
  go_enter Try.func9, Try.ntmps9
  go_wp2_with fail
  generalize w.alloc (.cells #[.slice none 0 0] 25) = W at *
  refine (unhide HNEW).mono ?_
  rintro e w1 ⟨rfl, c1, L1, b1⟩
  have K1 := hide (block_kept b1 (unhide K0))
  have bb1 := below_next b0 b1
  have z1 := c1.lt
  have HD := hide (l2bent_any c1 L1 hm)
  clear HNEW K0 b0 c1 L1
  go_wp2_with fail
  refine (unhide HD).mono ?_
  rintro e w2 ⟨v1, n1, rfl, m1, m2, o2, c2, g2⟩
  have k2 := block_grown g2 (unhide K1) (by simp; omega)
  have bb2 := below_cursor bb1 g2 (fun j e => by simp at e; omega)
  have BN1 := hide (⟨m1, m2⟩ : BentOk n1)
  obtain ⟨x1, y1, rfl⟩ := o2.form
  have ck := block_one k2
  have fk := block_frozen k2 0
  have KF := hide (block_set k2 (.slice x1 n1.length y1))
  have OF := hide (OwnT.set (j := 0) o2 k2 (by decide) (by decide) (.slice x1 n1.length y1)).hasL
  clear HD g2 bb1 K1 c2 m1 m2 o2 k2
  go_wp2_with fail
  refine bodyPost_ret (results_cell_row rfl _ _ w.heap.size 25 #[.slice x1 n1.length y1] (0, 0) _ rfl (unhide KF) Try.underlying25 rfl (by kernel_rfl)) rfl ?_
  exact ⟨_, n1, rfl, unhide BN1, unhide OF, bb2.setCell (Nat.le_refl _) _⟩
end Go.Proofs.Ytaconefooicplaa
