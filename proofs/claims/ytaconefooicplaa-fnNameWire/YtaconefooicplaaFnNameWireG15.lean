/-
  Contract of the specification's DrawNameCmp: two drawn names. Contract of the specification's DrawNamePut: a few bytes and a drawn name; and of l1PickInt, what is picked.
-/
import Derived.Test.YtaconefooicplaaFnNameWireG14
namespace Go.Proofs.Ytaconefooicplaa
open Go.RowKit
set_option linter.unusedVariables false

/-- How long a drawn name may be. -/
def BentOk (n : List (List Int)) : Prop := n.length ≤ 7 ∧ ∀ i, i < n.length → (n.getD i []).length ≤ 16

set_option maxHeartbeats 1000000 in
set_option maxRecDepth 100000 in
theorem drawNameCmp_any {a : Option Addr} {len cap : Nat} {w : World} (l : List Int) (hL : Lies w a l) (hn : l.length = len) (hb : ∀ k, 0 ≤ l.getD k 0 ∧ l.getD k 0 ≤ 255) (hm : len ≤ maxLen) :
    Calls Try.prog 17 #[.slice a len cap] w fun e w' => ∃ v1 n1 v2 n2, e = .returned (.tuple #[.agg #[v1], .agg #[v2]]) ∧ BentOk n1 ∧ BentOk n2 ∧ HasL w' v1 n1 ∧ HasL w' v2 n2 ∧ Below w.heap.size w w' := by
  obtain ⟨hsz, k0, r0⟩ := box2 w (.cells #[.slice none 0 0] 25) #[.slice none 0 0] 25
  have b0 := below2 w (.cells #[.slice none 0 0] 25) (.cells #[.slice none 0 0] 25)
  have HNEW := hide (l1New_any (cap := cap) l (hL.below b0) hn hb hm)
  have K0 := hide k0
  have R0 := hide r0
  have zz := block_lt r0
  clear hL hn hb k0 r0 hsz
  go_enter Try.func17, Try.ntmps17
  go_wp2_with fail
  generalize (w.alloc (.cells #[.slice none 0 0] 25)).alloc (.cells #[.slice none 0 0] 25) = W at *
  refine (unhide HNEW).mono ?_
  rintro e w1 ⟨rfl, c1, L1, b1⟩
  have K1 := hide (block_kept b1 (unhide K0))
  have R1 := hide (block_kept b1 (unhide R0))
  have bb1 := below_next b0 b1
  have z1 := c1.lt
  have HD := hide (l2bent_any c1 L1 hm)
  have C1 := hide c1
  have HL1 := hide L1

  clear HNEW K0 R0 b0 c1 L1
  go_wp2_with fail
  refine (unhide HD).mono ?_
  rintro e w2 ⟨v1, n1, rfl, m1, m2, o2, c2, g2⟩
  have K2 := hide (block_grown g2 (unhide K1) (by simp; omega))
  have R2 := hide (block_grown g2 (unhide R1) (by simp; omega))
  have bb2 := below_cursor bb1 g2 (fun j e => by simp at e; omega)
  have HD2 := hide (l2bent_any c2 ((unhide HL1).grown g2) hm)
  have BN1 := hide (⟨m1, m2⟩ : BentOk n1)
  have O2 := hide o2
  have C2 := hide c2
  have z2 := g2.size
  obtain ⟨x1, y1, rfl⟩ := o2.form
  clear HD g2 bb1 K1 R1 C1 c2 m1 m2 o2
  go_wp2_with fail
  refine (unhide HD2).mono ?_
  rintro e w3 ⟨v2, n2, rfl, m1, m2, o3, c3, g3⟩
  have k3 := block_grown g3 (unhide K2) (by simp; omega)
  have r3 := block_grown g3 (unhide R2) (by simp; omega)
  have bb3 := below_cursor bb2 g3 (fun j e => by simp at e; omega)
  have BN2 := hide (⟨m1, m2⟩ : BentOk n2)
  have p3 := (unhide O2).cur (unhide C2) g3
  have z3 := g3.size
  obtain ⟨x2, y2, rfl⟩ := o3.form
  have ck := block_one k3
  have fk := block_frozen k3 0
  have r4 := block_other r3 (b' := w.heap.size) (by omega) 0 (.slice x1 n1.length y1)
  have cr := block_one r4
  have fr := block_frozen r4 0
  have k4 := block_set k3 (.slice x1 n1.length y1)
  have p4 := (OwnT.set (j := 0) p3 k3 (by decide) (by decide) (.slice x1 n1.length y1))
  have o4 := (OwnT.set (j := 0) o3 k3 (by decide) (by decide) (.slice x1 n1.length y1))
  have KF := hide (block_other k4 (b' := w.heap.size + 1) (by omega) 0 (.slice x2 n2.length y2))
  have RF := hide (block_set r4 (.slice x2 n2.length y2))
  have PF := hide (OwnT.set (j := 0) p4 r4 (by decide) (by decide) (.slice x2 n2.length y2)).hasL
  have OF := hide (OwnT.set (j := 0) o4 r4 (by decide) (by decide) (.slice x2 n2.length y2)).hasL
  clear HD2 g3 bb2 K2 R2 C2 c3 m1 m2 o3 k3 r3 r4 k4 p3 p4 o4 O2
  go_wp2_with fail
  refine bodyPost_ret (results_cells2_row rfl _ _ w.heap.size (w.heap.size + 1) 25 25 #[.slice x1 n1.length y1] #[.slice x2 n2.length y2] (0, 0) (0, 0) _ _ rfl (unhide KF) rfl (unhide RF) Try.underlying25 rfl (by kernel_rfl) Try.underlying25 rfl (by kernel_rfl)) rfl ?_
  exact ⟨_, n1, _, n2, rfl, unhide BN1, unhide BN2, unhide PF, unhide OF, (bb3.setCell (Nat.le_refl _) _).setCell (by show w.heap.size ≤ w.heap.size + 1; omega) _⟩
end Go.Proofs.Ytaconefooicplaa

namespace Go.Proofs.Ytaconefooicplaa
open Go.RowKit
set_option linter.unusedVariables false

theorem results_tmp_cell {fn : Func} {p u : Tmp} {ty : TypeId} (h : fn.results = #[.tmp u, .cell p ty]) (tmps : Array Value) (P : Program) (w : World) :
    (results fn tmps).run P w = ((asAddr (tmps.getD p undef)).run P w).andThen fun a w₁ => ((loadVar ty a).run P w₁).andThen fun v w₂ => .ok (.tuple #[tmps.getD u undef, v]) w₂ := by
  simp only [results, h]
  simp [Sem.run_bind]
theorem results_tmp_cell_row {P : Program} {fn : Func} {p u : Tmp} {ty : TypeId} (h : fn.results = #[.tmp u, .cell p ty]) (tmps : Array Value) (w : World) (g : Nat) (t : TypeId) (cs : Array Value) (fr : Nat × Nat) (d : TypeDesc)
    (hp : tmps.getD p undef = .pointer (some ⟨g, 0, none⟩)) (hg : w.heap[g]? = some (.cells cs t fr))
    (hu : P.underlying ty = some d) (hd : (match d with | .struct _ | .array _ _ => true | _ => false) = true) (hi : (P.info? ty).map (·.size) = some cs.size) :
    (results fn tmps).run P w = .ok (.tuple #[tmps.getD u undef, .agg cs]) w := by
  rw [results_tmp_cell h, hp]
  simp [asAddr, run_loadVar_row w g t ty cs fr d hg hu hd hi]

set_option maxHeartbeats 1000000 in
set_option maxRecDepth 100000 in
theorem drawNamePut_any {a : Option Addr} {len cap : Nat} {w : World} (l : List Int) (hL : Lies w a l) (hn : l.length = len) (hb : ∀ k, 0 ≤ l.getD k 0 ∧ l.getD k 0 ≤ 255) (hm : len ≤ maxLen) :
    Calls Try.prog 23 #[.slice a len cap] w fun e w' => ∃ vb m v1 n1, e = .returned (.tuple #[vb, .agg #[v1]]) ∧ Has w' vb m ∧ m.length ≤ 3 ∧ (∀ x ∈ m, 0 ≤ x ∧ x ≤ 255) ∧ BentOk n1 ∧ HasL w' v1 n1 ∧ Below w.heap.size w w' := by
  have b0 := below_alloc (w := w) (.cells #[.slice none 0 0] 25)
  have HNEW := hide (l1New_any (cap := cap) l (hL.below b0) hn hb hm)
  have K0 := hide (heap_alloc_new w (.cells #[.slice none 0 0] 25))
  have zz := block_lt (unhide K0)
  clear hL hn hb
  go_enter Try.func23, Try.ntmps23
  go_wp2_with fail
  generalize w.alloc (.cells #[.slice none 0 0] 25) = W at *
  refine (unhide HNEW).mono ?_
  rintro e w1 ⟨rfl, c1, L1, b1⟩
  have K1 := hide (block_kept b1 (unhide K0))
  have bb1 := below_next b0 b1
  have z1 := c1.lt
  have HS := hide (l1some_any 3 c1 L1 hm (by omega) (by omega))
  have HL1 := hide L1
  clear HNEW K0 b0 c1 L1
  go_wp2_with fail
  refine (unhide HS).mono ?_
  rintro e w2 ⟨vb, m, rfl, ob, hml, hmb, c2, g2⟩
  have K2 := hide (block_grown g2 (unhide K1) (by simp; omega))
  have bb2 := below_cursor bb1 g2 (fun j e => by simp at e; omega)
  have z2 := g2.size
  have L2 := (unhide HL1).grown g2
  have HD := hide (l2bent_any c2 L2 hm)
  have OB := hide ob
  have HMB := hide hmb
  have hne : vb.ownBlock = none ∨ vb.ownBlock ≠ some W.heap.size := by
    cases hv : vb.ownBlock with
    | none => exact .inl rfl
    | some k => right; intro e; have := (ob.lt k hv).1; simp at e; omega
  obtain ⟨ba, bc, rfl, _⟩ := ob.lies
  clear HS HL1 L2 c2 g2 K1 bb1 ob hmb
  go_wp2_with fail
  refine (unhide HD).mono ?_
  rintro e w3 ⟨v1, n1, rfl, m1, m2, o3, c3, g3⟩
  have k3 := block_grown g3 (unhide K2) (by simp; omega)
  have bb3 := below_cursor bb2 g3 (fun j e => by simp at e; omega)
  have BN1 := hide (⟨m1, m2⟩ : BentOk n1)
  have ob3 := (unhide OB).kept g3 hne
  obtain ⟨x1, y1, rfl⟩ := o3.form
  have ck := block_one k3
  have fk := block_frozen k3 0
  have KF := hide (block_set k3 (.slice x1 n1.length y1))
  have OF := hide (OwnT.set (j := 0) o3 k3 (by decide) (by decide) (.slice x1 n1.length y1)).hasL
  have gs := grown_setCell w3 ⟨w.heap.size, 0, none⟩ (.slice x1 n1.length y1)
  have obF := hide (ob3.kept gs (by
    cases hv : (Value.slice ba m.length bc).ownBlock with
    | none => exact .inl rfl
    | some k => right; intro e; have := (ob3.lt k hv).1; simp at e; omega)).has
  clear HD g3 bb2 K2 c3 m1 m2 o3 k3 gs ob3 OB
  go_wp2_with fail
  refine bodyPost_ret (results_tmp_cell_row rfl _ _ w.heap.size 25 #[.slice x1 n1.length y1] (0, 0) _ rfl (unhide KF) Try.underlying25 rfl (by kernel_rfl)) rfl ?_
  exact ⟨_, m, _, n1, rfl, unhide obF, by omega, unhide HMB, unhide BN1, unhide OF, bb3.setCell (Nat.le_refl _) _⟩

set_option maxHeartbeats 1000000 in
set_option maxRecDepth 100000 in
theorem l1PickIn_any {g : Nat} {a : Option Addr} {len cap : Nat} {w : World} (gl n : Nat) (p : Int → Prop) (hc : Cur w g a len cap) (hL : Code w g a len) (hm : len ≤ maxLen) (hn0 : 1 ≤ n) (hn1 : n ≤ 1048576) (hlt : gl < w.heap.size) (hgl : g < gl)
    (hcell : ∀ j, j < n → ∃ z, w.cell? ⟨gl, j, none⟩ = some (.int .i64 z) ∧ p z) :
    Calls Try.prog 61 #[.pointer (some ⟨g, 0, none⟩), .slice (some ⟨gl, 0, none⟩) n n] w fun e w' => ∃ z, e = .returned (.int .i64 z) ∧ p z ∧ Cur w' g a len cap ∧ w.grownBy w' (some g) := by
  have HM := hide hm
  clear hm
  have HC := hide hcell
  clear hcell
  go_enter Try.func61, Try.ntmps61
  go_wp2_with fail
  refine (l1Below_any n hc hL (unhide HM) (by omega) (by omega)).mono ?_
  rintro e w1 ⟨x, rfl, hx0, hx1, hc1, g1⟩
  obtain ⟨j, rfl⟩ := Int.eq_ofNat_of_zero_le hx0
  obtain ⟨z, hz, hp⟩ := (unhide HC) j (by omega)
  have hz1 : w1.cell? ⟨gl, j, none⟩ = some (.int .i64 z) := by
    rw [World.cell?_of_block (w := w) (g1.block gl hlt (by simp; omega))]; exact hz
  have HP := hide hp
  clear hz hp
  go_wp2
  go_ret
  exact ⟨z, rfl, unhide HP, hc1, g1⟩
end Go.Proofs.Ytaconefooicplaa
