/-
  Plain facts: an answer of a slice and a struct. Contract of the specification's DrawDhcid: a client and a drawn name.
-/
import Derived.Test.YtkhiklemhkeakaaDoorFnSumsG34
import Derived.Test.YtkhiklemhkeakaaDoorFnSumsG35
import Derived.Test.YtkhiklemhkeakaaDoorFnSumsG27
import Derived.Test.YtkhiklemhkeakaaDoorFnSumsG02
import Derived.Deep.OwnRows
namespace Go.Proofs.YtkhiklemhkeakaaDoor
open Go.RowKit
set_option linter.unusedVariables false

theorem results_tmp_cell {fn : Func} {p u : Tmp} {ty : TypeId} (h : fn.results = #[.tmp u, .cell p ty]) (tmps : Array Value) (P : Program) (w : World) :
    (results fn tmps).run P w = ((asAddr (tmps.getD p undef)).run P w).andThen fun a w₁ => ((loadVar ty a).run P w₁).andThen fun v w₂ => .ok (.tuple #[tmps.getD u undef, v]) w₂ := by
  simp only [results, h]
  simp [Sem.run_bind]
theorem results_tmp_cell_row {P : Program} {fn : Func} {p u : Tmp} {ty : TypeId} (h : fn.results = #[.tmp u, .cell p ty]) (tmps : Array Value) (w : World) (g : Nat) (t : TypeId) (cs : Array Value) (fr : Nat × Nat) (d : TypeDesc)
    (hp : tmps.getD p undef = .pointer (some ⟨g, 0, none⟩)) (hg : w.heap[g]? = some (.cells cs t fr))
    (hu : P.underlying ty = some d) (hd : (match d with | .struct _ | .array _ _ => true | _ => false) = true) (hi : (P.info? ty).map (·.size) = some cs.size) :
    (results fn tmps).run P w = .ok (.tuple #[tmps.getD u undef, .agg cs]) w := by
  rw [results_tmp_cell h, hp]
  simp [asAddr, run_loadVar_row w g t ty cs fr d hg hu hd hi]
end Go.Proofs.YtkhiklemhkeakaaDoor

namespace Go.Proofs.YtkhiklemhkeakaaDoor
open Go.RowKit
set_option linter.unusedVariables false
set_option linter.unusedSimpArgs false

theorem zeros_made (w : World) (n : Nat) (e : TypeId) (hn : n ≤ maxLen) : Has (w.alloc (.cells (madeCells #[.int .u8 0] n) e)) (.slice (some ⟨w.heap.size, 0, none⟩) n n) (List.replicate n 0) := by
  have hb := heap_alloc_new w (.cells (madeCells #[.int .u8 0] n) e)
  refine .inr ⟨w.heap.size, 0, n, by simp, block_lt hb, by simp, hn, fun i hi => ?_⟩
  have hi2 : i < n := by simpa using hi
  rw [block_cell hb, Nat.zero_add]
  simp [madeCells, hi2, Nat.mod_one]

set_option maxHeartbeats 1000000 in
set_option maxRecDepth 100000 in
theorem drawDhcid_any {a : Option Addr} {len cap : Nat} {w : World} (l : List Int) (hL : Lies w a l) (hn : l.length = len) (hb : ∀ k, 0 ≤ l.getD k 0 ∧ l.getD k 0 ≤ 255) (hm : len ≤ maxLen) :
    Calls Tryd.prog 7 #[.slice a len cap] w fun e w' => ∃ vb m v1 n1, e = .returned (.tuple #[vb, .agg #[v1]]) ∧ Has w' vb m ∧ m.length ≤ 17 ∧ Bytes8 m ∧ BentOk n1 ∧ HasL w' v1 n1 ∧ Below w.heap.size w w' := by
  have b0 := below_alloc (w := w) (.cells #[.slice none 0 0] 27)
  have HNEW := hide (l1New_any (cap := cap) l (hL.below b0) hn hb hm)
  have K0 := hide (heap_alloc_new w (.cells #[.slice none 0 0] 27))
  have zz := block_lt (unhide K0)
  clear hL hn hb
  go_enter Tryd.func7, Tryd.ntmps7
  go_wp2_with fail
  generalize w.alloc (.cells #[.slice none 0 0] 27) = W at *
  refine (unhide HNEW).mono ?_
  rintro e w1 ⟨rfl, c1, L1, b1⟩
  have K1 := hide (block_kept b1 (unhide K0))
  have bb1 := below_next b0 b1
  have z1 := c1.lt
  have HS := hide (l1Once_any 8 c1 L1 hm (by omega) (by omega))
  have HL1 := hide L1
  clear HNEW K0 b0 c1 L1
  go_wp2_with fail
  refine (unhide HS).mono ?_
  rintro e w2 ⟨x, rfl, c2, g2⟩
  have K2 := hide (block_grown g2 (unhide K1) (by simp; omega))
  have bb2 := below_cursor bb1 g2 (fun j e => by simp at e; omega)
  have z2 := g2.size
  have L2 := (unhide HL1).grown g2
  clear HS HL1 K1 bb1 g2
  cases x with
  | false =>
    have HC := hide (l7drawClient_any c2 L2 hm)
    have HL2 := hide L2
    clear c2 L2
    go_wp2_with fail
    refine (unhide HC).mono ?_
    rintro e w3 ⟨b, c, m, rfl, hb0, hb1, hH, hml, hm8, c3, g3⟩
    have K3 := hide (block_grown g3 (unhide K2) (by simp; omega))
    have bb3 := below_cursor bb2 g3 (fun j e => by simp at e; omega)
    have z3 := g3.size
    have L3 := (unhide HL2).grown g3
    have HD := hide (l2bent_any c3 L3 hm)
    have HH := hide hH
    have HM8 := hide hm8
    have HML := hide hml
    clear HC HL2 L3 c3 g3 K2 bb2 hH hm8 hml
    go_wp2_with fail
    refine (unhide HD).mono ?_
    rintro e w4 ⟨v1, n1, rfl, m1, m2, o4, c4, g4⟩
    have K4 := hide (block_grown g4 (unhide K3) (by simp; omega))
    have bb4 := below_cursor bb3 g4 (fun j e => by simp at e; omega)
    have z4 := g4.size
    have BN1 := hide (⟨m1, m2⟩ : BentOk n1)
    have H4 := hide (has_same (unhide HH) (g4.block b hb1 (by simp; omega)) g4.size)
    obtain ⟨x1, y1, rfl⟩ := o4.form
    have ck := block_one (unhide K4)
    have fk := block_frozen (unhide K4) 0
    have KF := hide (block_set (unhide K4) (.slice x1 n1.length y1))
    have OF := hide (OwnT.set (j := 0) o4 (unhide K4) (by decide) (by decide) (.slice x1 n1.length y1)).hasL
    have gs := grown_setCell w4 ⟨w.heap.size, 0, none⟩ (.slice x1 n1.length y1)
    have HF := hide (has_same (unhide H4) (gs.block b (by omega) (by simp; omega)) gs.size)
    clear HD g4 bb3 K3 c4 m1 m2 o4 gs H4 HH
    go_wp2_with fail
    refine bodyPost_ret (results_tmp_cell_row rfl _ _ w.heap.size 27 #[.slice x1 n1.length y1] (0, 0) _ rfl (unhide KF) Tryd.underlying27 rfl (by kernel_rfl)) rfl ?_
    exact ⟨_, m, _, n1, rfl, unhide HF, by have := unhide HML; omega, unhide HM8, unhide BN1, unhide OF, bb4.setCell (Nat.le_refl _) _⟩
  | true =>
    have HL2 := hide L2
    have C2 := hide c2
    clear c2 L2
    go_wp2_with fail
    refine startF 8 (S := fun _ => True) (by kernel_rfl) rfl trivial (fun hHeld => ?_)
    simp only [List.replicate]
    replace C2 := hide ((unhide C2).later (show w2.grownBy w2.drew none from grown_draws w2 1 none) (by simp))
    replace HL2 := hide ((unhide HL2).later (show w2.grownBy w2.drew none from grown_draws w2 1 none) (by simp))
    replace K2 := hide (block_kept (below_drew (w := w2)) (unhide K2))
    replace bb2 := below_next bb2 (below_drew (w := w2))
    have zd : w2.heap.size ≤ w2.drew.heap.size := Nat.le_refl _
    generalize w2.drew = wd at *
    refine tkI 0 ?_ rfl (by kernel_rfl) (by kernel_rfl) (fun _ _ _ h => h) ?_ hHeld ?_; rotate_left; (· (intro w hSw; (try dsimp only at hSw); go_simp <;> with_reducible rfl)); simp only [Act.put, List.setIfInBounds_toArray, List.set_cons_zero, List.set_cons_succ]
    refine tkI 4 ?_ rfl (by kernel_rfl) (by kernel_rfl) (fun _ _ _ h => h) ?_ hHeld ?_; rotate_left; (· (intro w hSw; (try dsimp only at hSw); go_simp <;> with_reducible rfl)); simp only [Act.put, List.setIfInBounds_toArray, List.set_cons_zero, List.set_cons_succ]
    have ga := grown_alloc wd (.cells #[.int .i64 0, .int .i64 16, .int .i64 17] 3) none
    have zga := ga.size
    have KA := heap_alloc_new wd (.cells #[.int .i64 0, .int .i64 16, .int .i64 17] 3)
    have CA := hide ((unhide C2).later ga (by simp))
    have LA := hide ((unhide HL2).later ga (by simp))
    have K3 := hide (block_kept (below_alloc (w := wd) (.cells #[.int .i64 0, .int .i64 16, .int .i64 17] 3)) (unhide K2))
    have bb3 := below_next bb2 (below_alloc (w := wd) (.cells #[.int .i64 0, .int .i64 16, .int .i64 17] 3))
    have HP := hide (l1PickIn_any wd.heap.size 3 (fun z => z = 0 ∨ z = 16 ∨ z = 17) (unhide CA) (unhide LA) hm (by omega) (by omega) (block_lt KA) (by omega) (fun j hj => by
      have hc := block_cell KA j
      match j, hj with
      | 0, _ => exact ⟨0, hc, .inl rfl⟩
      | 1, _ => exact ⟨16, hc, .inr (.inl rfl)⟩
      | 2, _ => exact ⟨17, hc, .inr (.inr rfl)⟩))
    refine runI 1 rfl (by kernel_rfl) (by kernel_rfl) (fun K hK => ?_)
    have HK := hide hK
    clear hK hHeld KA ga C2 HL2 K2 bb2 CA
    go_simp
    refine (unhide HK).out _ _ trivial (fun hHeld => ?_)
    clear HK K
    simp only [Act.put, List.setIfInBounds_toArray, List.set_cons_zero, List.set_cons_succ]
    generalize wd.alloc (.cells #[.int .i64 0, .int .i64 16, .int .i64 17] 3) = wa at *
    refine runI 2 rfl (by kernel_rfl) (by kernel_rfl) (fun K hK => ?_)
    have HK := hide hK
    clear hK hHeld
    go_simp
    refine (unhide HP).mono ?_
    rintro e w3 ⟨z, rfl, hz, c3, g3⟩
    obtain ⟨q, rfl⟩ : ∃ q : Nat, z = (q : Int) := ⟨z.toNat, by omega⟩
    have hq : q ≤ 17 := by omega
    have ZA := (unhide K3)
    replace K3 := hide (block_grown g3 (unhide K3) (by simp; omega))
    replace bb3 := below_cursor bb3 g3 (fun j e => by simp at e; omega)
    have z3 := g3.size
    have L3 := hide ((unhide LA).grown g3)
    have C3 := hide c3
    have za := bb3.size
    clear HP LA g3 c3 hz ZA
    go_simp
    refine (unhide HK).out _ _ trivial (fun hHeld => ?_)
    clear HK K
    simp only [Act.put, List.setIfInBounds_toArray, List.set_cons_zero, List.set_cons_succ]
    refine wpAnyH_ready (rs := [3, 5]) (by kernel_rfl) (by simp) (AllReadyH.cons (ops_drop rfl) (fun K hK => ?_) (AllReadyH.cons (ops_drop rfl) (fun K hK => ?_) AllReadyH.nil))
    · have HK := hide hK
      clear hK hHeld
      have MK : (Instr.makeSlice 22 (.int .i64 (q : Int)) (.int .i64 (q : Int))).run Tryd.prog w3 = .ok (.slice (some ⟨w3.heap.size, 0, none⟩) q q) (w3.alloc (.cells (madeCells #[.int .u8 0] q) 5)) := run_make_row' (P := Tryd.prog) 22 5 (.int .u8 0) 1 Tryd.underlying22 info_u8 rfl .i64 .i64 q (by omega) (by omega) w3
      have ga := grown_alloc w3 (.cells (madeCells #[.int .u8 0] q) 5) none
      have ba := below_alloc (w := w3) (.cells (madeCells #[.int .u8 0] q) 5)
      have HZ := hide (zeros_made w3 q 5 (by unfold maxLen; omega))
      replace C3 := hide ((unhide C3).later ga (by simp))
      replace L3 := hide ((unhide L3).later ga (by simp))
      replace K3 := hide (block_kept ba (unhide K3))
      replace bb3 := below_next bb3 ba
      have zl := block_lt (heap_alloc_new w3 (.cells (madeCells #[.int .u8 0] q) 5))
      go_simp
      refine (unhide HK).out _ _ trivial (fun hHeld => ?_)
      clear HK K MK ga ba
      simp only [Act.put, List.setIfInBounds_toArray, List.set_cons_zero, List.set_cons_succ]
      generalize w3.alloc (.cells (madeCells #[.int .u8 0] q) 5) = w5 at *
      refine runI 5 rfl (by kernel_rfl) (by kernel_rfl) (fun K hK => ?_)
      have HK := hide hK
      clear hK hHeld
      go_simp
      refine (l2bent_any (unhide C3) (unhide L3) hm).mono ?_
      rintro e w6 ⟨v1, n1, rfl, m1, m2, o4, c4, g4⟩
      replace K3 := hide (block_grown g4 (unhide K3) (by simp; omega))
      replace bb3 := below_cursor bb3 g4 (fun j e => by simp at e; omega)
      have z4 := g4.size
      have BN1 := hide (⟨m1, m2⟩ : BentOk n1)
      replace HZ := hide (has_same (unhide HZ) (g4.block w3.heap.size zl (by simp; omega)) g4.size)
      obtain ⟨x1, y1, rfl⟩ := o4.form
      have O4 := hide o4
      clear m1 m2 o4 c4 g4 C3 L3
      go_simp
      refine (unhide HK).out _ _ trivial (fun hHeld => ?_)
      clear HK K
      simp only [Act.put, List.setIfInBounds_toArray, List.set_cons_zero, List.set_cons_succ]
      refine tkI 6 ?_ rfl (by kernel_rfl) (by kernel_rfl) (fun _ _ _ h => h) ?_ hHeld ?_; rotate_left; (· (intro w hSw; (try dsimp only at hSw); go_simp <;> with_reducible rfl)); simp only [Act.put, List.setIfInBounds_toArray, List.set_cons_zero, List.set_cons_succ]
      have ck := block_one (unhide K3)
      have fk := block_frozen (unhide K3) 0
      have KF := hide (block_set (unhide K3) (.slice x1 n1.length y1))
      have OF := hide (OwnT.set (j := 0) (unhide O4) (unhide K3) (by decide) (by decide) (.slice x1 n1.length y1)).hasL
      have gs := grown_setCell w6 ⟨w.heap.size, 0, none⟩ (.slice x1 n1.length y1)
      have HFF := hide (has_same (unhide HZ) (gs.block w3.heap.size (by omega) (by simp; omega)) gs.size)
      refine runI 7 rfl (by kernel_rfl) (by kernel_rfl) (fun K hK => ?_)
      have HK := hide hK
      clear hK hHeld
      go_simp
      refine (unhide HK).out _ _ trivial (fun hHeld => ?_)
      clear HK K
      simp only [Act.put, List.setIfInBounds_toArray, List.set_cons_zero, List.set_cons_succ]
      refine wpAnyH_done (by kernel_rfl) ?_ _
      clear hHeld ck fk gs K3 HZ
      have bbF := hide (bb3.setCell (Nat.le_refl w.heap.size) (p := ⟨w.heap.size, 0, none⟩) (.slice x1 n1.length y1))
      generalize w6.setCell ⟨w.heap.size, 0, none⟩ (.slice x1 n1.length y1) = w7 at *
      go_wp2_with fail
      refine bodyPost_ret (results_tmp_cell_row rfl _ _ w.heap.size 27 #[.slice x1 n1.length y1] (0, 0) _ rfl (unhide KF) Tryd.underlying27 rfl (by kernel_rfl)) rfl ?_
      exact ⟨_, List.replicate q 0, _, n1, rfl, unhide HFF, by simp; omega, fun k => by rw [List.getD_eq_getElem?_getD, List.getElem?_replicate]; split <;> simp, unhide BN1, unhide OF, unhide bbF⟩
    · have HK := hide hK
      clear hK hHeld
      go_simp
      refine (l2bent_any (unhide C3) (unhide L3) hm).mono ?_
      rintro e w5 ⟨v1, n1, rfl, m1, m2, o4, c4, g4⟩
      replace K3 := hide (block_grown g4 (unhide K3) (by simp; omega))
      replace bb3 := below_cursor bb3 g4 (fun j e => by simp at e; omega)
      have z4 := g4.size
      have BN1 := hide (⟨m1, m2⟩ : BentOk n1)
      obtain ⟨x1, y1, rfl⟩ := o4.form
      have O4 := hide o4
      clear m1 m2 o4 c4 g4 C3 L3
      go_simp
      refine (unhide HK).out _ _ trivial (fun hHeld => ?_)
      clear HK K
      simp only [Act.put, List.setIfInBounds_toArray, List.set_cons_zero, List.set_cons_succ]
      have MK : (Instr.makeSlice 22 (.int .i64 (q : Int)) (.int .i64 (q : Int))).run Tryd.prog w5 = .ok (.slice (some ⟨w5.heap.size, 0, none⟩) q q) (w5.alloc (.cells (madeCells #[.int .u8 0] q) 5)) := run_make_row' (P := Tryd.prog) 22 5 (.int .u8 0) 1 Tryd.underlying22 info_u8 rfl .i64 .i64 q (by omega) (by omega) w5
      have ba := below_alloc (w := w5) (.cells (madeCells #[.int .u8 0] q) 5)
      have HZ := hide (zeros_made w5 q 5 (by unfold maxLen; omega))
      replace K3 := hide (block_kept ba (unhide K3))
      replace bb3 := below_next bb3 ba
      replace O4 := hide ((unhide O4).below ba)
      have zl := block_lt (heap_alloc_new w5 (.cells (madeCells #[.int .u8 0] q) 5))
      refine runI 3 rfl (by kernel_rfl) (by kernel_rfl) (fun K hK => ?_)
      have HK := hide hK
      clear hK hHeld
      go_simp
      refine (unhide HK).out _ _ trivial (fun hHeld => ?_)
      clear HK K MK ba
      simp only [Act.put, List.setIfInBounds_toArray, List.set_cons_zero, List.set_cons_succ]
      generalize w5.alloc (.cells (madeCells #[.int .u8 0] q) 5) = w6 at *
      refine tkI 6 ?_ rfl (by kernel_rfl) (by kernel_rfl) (fun _ _ _ h => h) ?_ hHeld ?_; rotate_left; (· (intro w hSw; (try dsimp only at hSw); go_simp <;> with_reducible rfl)); simp only [Act.put, List.setIfInBounds_toArray, List.set_cons_zero, List.set_cons_succ]
      have ck := block_one (unhide K3)
      have fk := block_frozen (unhide K3) 0
      have KF := hide (block_set (unhide K3) (.slice x1 n1.length y1))
      have OF := hide (OwnT.set (j := 0) (unhide O4) (unhide K3) (by decide) (by decide) (.slice x1 n1.length y1)).hasL
      have gs := grown_setCell w6 ⟨w.heap.size, 0, none⟩ (.slice x1 n1.length y1)
      have HFF := hide (has_same (unhide HZ) (gs.block w5.heap.size (by omega) (by simp; omega)) gs.size)
      refine runI 7 rfl (by kernel_rfl) (by kernel_rfl) (fun K hK => ?_)
      have HK := hide hK
      clear hK hHeld
      go_simp
      refine (unhide HK).out _ _ trivial (fun hHeld => ?_)
      clear HK K
      simp only [Act.put, List.setIfInBounds_toArray, List.set_cons_zero, List.set_cons_succ]
      refine wpAnyH_done (by kernel_rfl) ?_ _
      clear hHeld ck fk gs K3 HZ
      have bbF := hide (bb3.setCell (Nat.le_refl w.heap.size) (p := ⟨w.heap.size, 0, none⟩) (.slice x1 n1.length y1))
      generalize w6.setCell ⟨w.heap.size, 0, none⟩ (.slice x1 n1.length y1) = w7 at *
      go_wp2_with fail
      refine bodyPost_ret (results_tmp_cell_row rfl _ _ w.heap.size 27 #[.slice x1 n1.length y1] (0, 0) _ rfl (unhide KF) Tryd.underlying27 rfl (by kernel_rfl)) rfl ?_
      exact ⟨_, List.replicate q 0, _, n1, rfl, unhide HFF, by simp; omega, fun k => by rw [List.getD_eq_getElem?_getD, List.getElem?_replicate]; split <;> simp, unhide BN1, unhide OF, unhide bbF⟩
end Go.Proofs.YtkhiklemhkeakaaDoor
