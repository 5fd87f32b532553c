/-
  Contracts of the specification's l3get: an address. Contracts of the specification's Get16.
-/
import Derived.Test.YtnloenkjfjlmeaaRrGetG28
import Derived.Test.YtnloenkjfjlmeaaRrGetG04
namespace Go.Proofs.Ytnloenkjfjlmeaa
open Go.RowKit
set_option linter.unusedVariables false

set_option maxHeartbeats 2000000 in
set_option maxRecDepth 100000 in
theorem l3get_A {B : Nat} {v : Value} {l : List Int} (p n : Int) {w : World} (h : Own B 5 w v l) (hl : l.length ≤ 512) (hp : p ≤ 9223372036854775807) (hn0 : -70000 ≤ n) (hn1 : n ≤ 70000) (hb : Bytes8 l) :
    Calls Try.prog 85 #[.int .i64 1, v, .int .i64 p, .int .i64 n] w (GivesG w (kindGet 1 l p).1 (good 1 l p n)) := by
  have he := get32_end l p
  have hkg : kindGet 1 l p = (⟨[], 1, 0, (get32 l p).1, [], [], []⟩, (get32 l p).2) := by unfold kindGet; rw [if_pos rfl]
  unfold good
  rw [hkg]
  obtain ⟨hsz, k0, r0⟩ := box2 w (.cells #[.slice none 0 0, .int .i64 0, .int .i64 0, .int .i64 0, .slice none 0 0, .slice none 0 0, .slice none 0 0] 50) #[.slice none 0 0, .int .i64 1, .int .i64 0, .int .i64 0, .slice none 0 0, .slice none 0 0, .slice none 0 0] 50
  have b0 := below2 w (.cells #[.slice none 0 0, .int .i64 0, .int .i64 0, .int .i64 0, .slice none 0 0, .slice none 0 0, .slice none 0 0] 50) (.cells #[.slice none 0 0, .int .i64 1, .int .i64 0, .int .i64 0, .slice none 0 0, .slice none 0 0, .slice none 0 0] 50)
  have HG := hide (specGet32_any p (h.below b0) (by omega) hb)
  obtain ⟨a, cap, rfl, _⟩ := h.lies
  dsimp only
  clear h hkg hb
  generalize (get32 l p).1 = g1 at *
  generalize (get32 l p).2 = g2 at *
  have K0 := hide k0
  have V0 := hide r0
  clear k0 r0
  generalize hRes : (decide (0 ≤ g2 ∧ g2 = p + n) && rrOk ⟨[], 1, 0, g1, [], [], []⟩) = Res
  have HRES := hide hRes
  clear hRes
  generalize hLN : l.length = L at *
  clear hLN
  go_enter Try.func85, Try.ntmps85
  go_wp2_with fail
  generalize (w.alloc (.cells #[.slice none 0 0, .int .i64 0, .int .i64 0, .int .i64 0, .slice none 0 0, .slice none 0 0, .slice none 0 0] 50)).alloc (.cells #[.slice none 0 0, .int .i64 1, .int .i64 0, .int .i64 0, .slice none 0 0, .slice none 0 0, .slice none 0 0] 50) = W at *
  refine (unhide HG).mono ?_
  rintro e w1 ⟨rfl, b1⟩
  have K1 := hide (block_kept b1 (unhide K0))
  have V1 := hide (block_kept b1 (unhide V0))
  have bb1 := below_next b0 b1
  have z1 := b1.size
  clear HG K0 V0 b0 b1
  obtain ⟨f0, f1, f2, f3, f4, f5, f6⟩ := cells7 (unhide V1)
  obtain ⟨q0, q1, q2, q3, q4, q5, q6⟩ := frozen7 (unhide V1)
  go_wp2_with fail
  clear f0 f1 f2 f3 f4 f5 f6 q0 q1 q2 q3 q4 q5 q6
  have u2 := outside_set w1 (w.heap.size + 1) 3 (.int .i64 g1)
  have V2 : (w1.setCell ⟨w.heap.size + 1, 3, none⟩ (.int .i64 g1)).heap[w.heap.size + 1]? = some (.cells #[.slice none 0 0, .int .i64 1, .int .i64 0, .int .i64 g1, .slice none 0 0, .slice none 0 0, .slice none 0 0] 50) := block_setAt (unhide V1) 3 _
  have K2 := hide (u2.kept (unhide K1) (by omega))
  have bb2 := u2.below bb1 (by omega)
  have z2 := u2.size
  replace V2 := hide V2
  generalize w1.setCell ⟨w.heap.size + 1, 3, none⟩ (.int .i64 g1) = w2 at *
  clear K1 V1 bb1 u2
  have HR := hide (show OwnR (w.heap.size + 2) w2.heap.size 22 5 3 w2 (.slice none 0 0) (.slice none 0 0) (.slice none 0 0) (.slice none 0 0) ⟨[], 1, 0, g1, [], [], []⟩ from ⟨w.heap.size + 2, w.heap.size + 2, w.heap.size + 2, Nat.le_refl _, Nat.le_refl _, Nat.le_refl _, by omega, ownN_nil _ _ _ _ _, ownN_nil _ _ _ _ _, ownB_nil _ _ _ _, ownBI_nil _ _ _ _⟩)
  -- the last region
  have bd := below_drew (w := w2)
  have K3 := hide (block_kept bd (unhide K2))
  have V3 := hide (block_kept bd (unhide V2))
  have HR3 := hide ((unhide HR).below bd)
  have bb3 := below_next bb2 bd
  have z3 := bd.size
  clear V2 HR bb2 bd
  by_cases hneg : g2 < 0
  · have hRes := unhide HRES
    rw [decide_eq_false (by omega), Bool.false_and] at hRes
    subst hRes
    obtain rfl : g2 = -1 := by omega
    clear he hneg
    refine wp_region_noPanic ?_
    refine wp_region_held_drew (S := (fun w' => w'.cell? ⟨w.heap.size + 1, 0, none⟩ = some (.slice none 0 0) ∧ w'.cell? ⟨w.heap.size + 1, 1, none⟩ = some (.int .i64 1) ∧ w'.cell? ⟨w.heap.size + 1, 2, none⟩ = some (.int .i64 0) ∧ w'.cell? ⟨w.heap.size + 1, 3, none⟩ = some (.int .i64 g1) ∧ w'.cell? ⟨w.heap.size + 1, 4, none⟩ = some (.slice none 0 0) ∧ w'.cell? ⟨w.heap.size + 1, 5, none⟩ = some (.slice none 0 0) ∧ w'.cell? ⟨w.heap.size + 1, 6, none⟩ = some (.slice none 0 0))) (by kernel_rfl) (cells7 (unhide V3)) (fun hHeld => ?_)
    refine wpAnyH_take (i := 0) (oi := { dst := some 91, op := Op.load 50 (Operand.tmp 10), type := 50, pos := "l03_record.go:144", after := #[], guard := none }) (v := .agg #[.slice none 0 0, .int .i64 1, .int .i64 0, .int .i64 g1, .slice none 0 0, .slice none 0 0, .slice none 0 0]) rfl (by kernel_rfl) (by kernel_rfl) (by kernel_rfl) (fun _ _ _ h => h) (Or.inl ⟨by rfl, fun w hSw => by (try dsimp only at hSw); go_simp⟩) hHeld ?_
    simp only [Act.put, List.setIfInBounds_toArray, List.set_cons_zero, List.set_cons_succ]
    refine wpAnyH_take (i := 1) (oi := { dst := some 92, op := Op.move (Operand.tmp 11), type := 3, pos := "l03_record.go:144", after := #[], guard := none }) (v := .int .i64 (-1)) rfl (by kernel_rfl) (by kernel_rfl) (by kernel_rfl) (fun _ _ _ h => h) (Or.inl ⟨by rfl, fun w hSw => by (try dsimp only at hSw); go_simp⟩) hHeld ?_
    simp only [Act.put, List.setIfInBounds_toArray, List.set_cons_zero, List.set_cons_succ]
    refine wpAnyH_take (i := 2) (oi := { dst := some 93, op := Op.binOp BinOp.geq 3 (Operand.tmp 92) (Operand.const (Value.int IntKind.i64 0)) 3, type := 4, pos := "l03_record.go:144", after := #[{ on := 1, ground := Ground.data }], guard := none }) (v := .bool false) rfl (by kernel_rfl) (by kernel_rfl) (by kernel_rfl) (fun _ _ _ h => h) (Or.inl ⟨by rfl, fun w hSw => by (try dsimp only at hSw); go_simp⟩) hHeld ?_
    simp only [Act.put, List.setIfInBounds_toArray, List.set_cons_zero, List.set_cons_succ]
    refine wpAnyH_take (i := 3) (oi := { dst := some 94, op := Op.move (Operand.tmp 93), type := 4, pos := "l03_record.go:144", after := #[{ on := 2, ground := Ground.data }], guard := none }) (v := .bool false) rfl (by kernel_rfl) (by kernel_rfl) (by kernel_rfl) (fun _ _ _ h => h) (Or.inl ⟨by rfl, fun w hSw => by (try dsimp only at hSw); go_simp⟩) hHeld ?_
    simp only [Act.put, List.setIfInBounds_toArray, List.set_cons_zero, List.set_cons_succ]
    refine wpAnyH_take (i := 4) (oi := { dst := some 95, op := Op.move (Operand.tmp 11), type := 3, pos := "l03_record.go:144", after := #[{ on := 3, ground := Ground.guard }], guard := some (3, true) }) (v := undef) rfl (by kernel_rfl) (by kernel_rfl) (by kernel_rfl) (fun _ _ _ h => h) (Or.inr ⟨by rfl, rfl⟩) hHeld ?_
    simp only [Act.put, List.setIfInBounds_toArray, List.set_cons_zero, List.set_cons_succ]
    refine wpAnyH_take (i := 5) (oi := { dst := some 96, op := Op.move (Operand.tmp 2), type := 3, pos := "l03_record.go:144", after := #[{ on := 3, ground := Ground.guard }], guard := some (3, true) }) (v := undef) rfl (by kernel_rfl) (by kernel_rfl) (by kernel_rfl) (fun _ _ _ h => h) (Or.inr ⟨by rfl, rfl⟩) hHeld ?_
    simp only [Act.put, List.setIfInBounds_toArray, List.set_cons_zero, List.set_cons_succ]
    refine wpAnyH_take (i := 6) (oi := { dst := some 97, op := Op.move (Operand.tmp 3), type := 3, pos := "l03_record.go:144", after := #[{ on := 3, ground := Ground.guard }], guard := some (3, true) }) (v := undef) rfl (by kernel_rfl) (by kernel_rfl) (by kernel_rfl) (fun _ _ _ h => h) (Or.inr ⟨by rfl, rfl⟩) hHeld ?_
    simp only [Act.put, List.setIfInBounds_toArray, List.set_cons_zero, List.set_cons_succ]
    refine wpAnyH_take (i := 7) (oi := { dst := some 98, op := Op.binOp BinOp.add 3 (Operand.tmp 96) (Operand.tmp 97) 3, type := 3, pos := "l03_record.go:144", after := #[{ on := 5, ground := Ground.data }, { on := 6, ground := Ground.data }, { on := 3, ground := Ground.guard }], guard := some (3, true) }) (v := undef) rfl (by kernel_rfl) (by kernel_rfl) (by kernel_rfl) (fun _ _ _ h => h) (Or.inr ⟨by rfl, rfl⟩) hHeld ?_
    simp only [Act.put, List.setIfInBounds_toArray, List.set_cons_zero, List.set_cons_succ]
    refine wpAnyH_take (i := 8) (oi := { dst := some 99, op := Op.binOp BinOp.eql 3 (Operand.tmp 95) (Operand.tmp 98) 3, type := 4, pos := "l03_record.go:144", after := #[{ on := 4, ground := Ground.data }, { on := 7, ground := Ground.data }, { on := 3, ground := Ground.guard }], guard := some (3, true) }) (v := undef) rfl (by kernel_rfl) (by kernel_rfl) (by kernel_rfl) (fun _ _ _ h => h) (Or.inr ⟨by rfl, rfl⟩) hHeld ?_
    simp only [Act.put, List.setIfInBounds_toArray, List.set_cons_zero, List.set_cons_succ]
    refine wpAnyH_take (i := 9) (oi := { dst := some 100, op := Op.pick (Operand.tmp 94) (Operand.tmp 99) (Operand.const (Value.bool false)), type := 4, pos := "l03_record.go:144", after := #[{ on := 3, ground := Ground.data }, { on := 8, ground := Ground.data }], guard := none }) (v := .bool false) rfl (by kernel_rfl) (by kernel_rfl) (by kernel_rfl) (fun _ _ _ h => h) (Or.inl ⟨by rfl, fun w hSw => by (try dsimp only at hSw); go_simp⟩) hHeld ?_
    simp only [Act.put, List.setIfInBounds_toArray, List.set_cons_zero, List.set_cons_succ]
    refine wpAnyH_take (i := 10) (oi := { dst := some 101, op := Op.move (Operand.tmp 100), type := 4, pos := "l03_record.go:144", after := #[{ on := 9, ground := Ground.data }, { on := 3, ground := Ground.chain }], guard := none }) (v := .bool false) rfl (by kernel_rfl) (by kernel_rfl) (by kernel_rfl) (fun _ _ _ h => h) (Or.inl ⟨by rfl, fun w hSw => by (try dsimp only at hSw); go_simp⟩) hHeld ?_
    simp only [Act.put, List.setIfInBounds_toArray, List.set_cons_zero, List.set_cons_succ]
    refine wpAnyH_take (i := 11) (oi := { dst := some 102, op := Op.load 50 (Operand.tmp 10), type := 50, pos := "l03_record.go:144", after := #[{ on := 10, ground := Ground.guard }], guard := some (10, true) }) (v := undef) rfl (by kernel_rfl) (by kernel_rfl) (by kernel_rfl) (fun _ _ _ h => h) (Or.inr ⟨by rfl, rfl⟩) hHeld ?_
    simp only [Act.put, List.setIfInBounds_toArray, List.set_cons_zero, List.set_cons_succ]
    refine wpAnyH_take (i := 12) (oi := { dst := some 103, op := Op.call { callee := Callee.value (Operand.func 31), args := #[Operand.tmp 102], argTypes := #[50] }, type := 4, pos := "l03_record.go:144", after := #[{ on := 11, ground := Ground.data }, { on := 10, ground := Ground.chain }, { on := 10, ground := Ground.guard }], guard := some (10, true) }) (v := undef) rfl (by kernel_rfl) (by kernel_rfl) (by kernel_rfl) (fun _ _ _ h => h) (Or.inr ⟨by rfl, rfl⟩) hHeld ?_
    simp only [Act.put, List.setIfInBounds_toArray, List.set_cons_zero, List.set_cons_succ]
    refine wpAnyH_take (i := 13) (oi := { dst := some 104, op := Op.pick (Operand.tmp 101) (Operand.tmp 103) (Operand.const (Value.bool false)), type := 4, pos := "l03_record.go:144", after := #[{ on := 10, ground := Ground.data }, { on := 12, ground := Ground.data }, { on := 14, ground := Ground.gcOnly Departure.lateStores }], guard := none }) (v := .bool false) rfl (by kernel_rfl) (by kernel_rfl) (by kernel_rfl) (fun _ _ _ h => h) (Or.inl ⟨by rfl, fun w hSw => by (try dsimp only at hSw); go_simp⟩) hHeld ?_
    simp only [Act.put, List.setIfInBounds_toArray, List.set_cons_zero, List.set_cons_succ]
    obtain ⟨R9, u9⟩ := set7 (c0 := .slice none 0 0) (c1 := .int .i64 1) (c2 := .int .i64 0) (c3 := .int .i64 g1) (c4 := .slice none 0 0) (c5 := .slice none 0 0) (c6 := .slice none 0 0) (unhide K3)
    refine wpAnyH_ready (rs := [14]) (by kernel_rfl) (by simp) (AllReadyH.cons (o := { dst := none, op := Op.store 50 (Operand.tmp 8) (Operand.tmp 91), type := 0, pos := "l03_record.go:144", after := #[{ on := 0, ground := Ground.data }, { on := 12, ground := Ground.chain }, { on := 0, ground := Ground.phase }, { on := 1, ground := Ground.textOnly Departure.lateStores }, { on := 2, ground := Ground.textOnly Departure.lateStores }, { on := 3, ground := Ground.textOnly Departure.lateStores }, { on := 4, ground := Ground.textOnly Departure.lateStores }, { on := 5, ground := Ground.textOnly Departure.lateStores }, { on := 6, ground := Ground.textOnly Departure.lateStores }, { on := 7, ground := Ground.textOnly Departure.lateStores }, { on := 8, ground := Ground.textOnly Departure.lateStores }, { on := 9, ground := Ground.textOnly Departure.lateStores }, { on := 10, ground := Ground.textOnly Departure.lateStores }, { on := 11, ground := Ground.textOnly Departure.lateStores }, { on := 12, ground := Ground.textOnly Departure.lateStoresUnsure }, { on := 13, ground := Ground.textOnly Departure.lateStores }], guard := none }) rfl (fun K hK => ?_) AllReadyH.nil)
    rw [if_pos (by rfl)]
    refine wp_store7 50 (.tmp 8) (.tmp 91) rfl w.heap.size (.slice none 0 0) (.int .i64 1) (.int .i64 0) (.int .i64 g1) (.slice none 0 0) (.slice none 0 0) (.slice none 0 0) rfl rfl (unhide K3) (by kernel_rfl) (by simp [Value.oneCell']) ?_
    refine hK.out _ _ (cells7 (u9.kept (unhide V3) (by omega))) (fun hHeld => ?_)
    clear hK K
    generalize (((((((w2.drew.setCell ⟨w.heap.size, 0, none⟩ (.slice none 0 0)).setCell ⟨w.heap.size, 1, none⟩ (.int .i64 1)).setCell ⟨w.heap.size, 2, none⟩ (.int .i64 0)).setCell ⟨w.heap.size, 3, none⟩ (.int .i64 g1)).setCell ⟨w.heap.size, 4, none⟩ (.slice none 0 0)).setCell ⟨w.heap.size, 5, none⟩ (.slice none 0 0)).setCell ⟨w.heap.size, 6, none⟩ (.slice none 0 0)) = w9 at *
    simp only [Act.put]
    refine wpAnyH_take (i := 15) (oi := { dst := some 9, op := Op.assign (Operand.tmp 104), type := 4, pos := "l03_record.go:144", after := #[{ on := 13, ground := Ground.data }, { on := 14, ground := Ground.chain }, { on := 0, ground := Ground.phase }, { on := 1, ground := Ground.phase }, { on := 2, ground := Ground.phase }, { on := 3, ground := Ground.phase }, { on := 4, ground := Ground.phase }, { on := 5, ground := Ground.phase }, { on := 6, ground := Ground.phase }, { on := 7, ground := Ground.phase }, { on := 8, ground := Ground.phase }, { on := 9, ground := Ground.phase }, { on := 10, ground := Ground.phase }, { on := 11, ground := Ground.phase }, { on := 12, ground := Ground.phase }, { on := 13, ground := Ground.phase }, { on := 14, ground := Ground.phase }], guard := none }) (v := .bool false) rfl (by kernel_rfl) (by kernel_rfl) (by kernel_rfl) (fun _ _ _ h => h) (Or.inl ⟨by rfl, fun w hSw => by (try dsimp only at hSw); go_simp⟩) hHeld ?_
    simp only [Act.put, List.setIfInBounds_toArray, List.set_cons_zero, List.set_cons_succ]
    refine wpAnyH_done (by kernel_rfl) (NoPanic.normal ?_) _
    go_wp2_with fail
    refine bodyPost_ret (results_cell_tmp_row rfl _ _ w.heap.size 50 #[.slice none 0 0, .int .i64 1, .int .i64 0, .int .i64 g1, .slice none 0 0, .slice none 0 0, .slice none 0 0] (0, 0) _ rfl R9 Try.underlying50 rfl (by kernel_rfl)) rfl ?_
    have z9 := u9.size
    exact ⟨⟨[], 1, 0, g1, [], [], []⟩, ⟨_, _, _, _, rfl, ((unhide HR3).outside u9 (by omega)).wide (by omega) (by omega), u9.below bb3 (by omega)⟩, fun q => by cases q⟩
  have hge : 0 ≤ g2 := by omega
  have hp0 : 0 ≤ p := by omega
  by_cases hne : g2 ≠ p + n
  · have hRes := unhide HRES
    rw [decide_eq_false (by omega), Bool.false_and] at hRes
    subst hRes
    obtain ⟨sm, hsm⟩ : ∃ s, s = p + n := ⟨_, rfl⟩
    have hne' : (g2 == sm) = false := by rw [beq_eq_false_iff_ne, hsm]; exact hne
    have hw : IntKind.i64.wrap (p + n) = sm := by rw [IntWalk.i64_in _ (by omega), hsm]
    clear hsm hne he hneg
    refine wp_region_noPanic ?_
    refine wp_region_held_drew (S := (fun w' => w'.cell? ⟨w.heap.size + 1, 0, none⟩ = some (.slice none 0 0) ∧ w'.cell? ⟨w.heap.size + 1, 1, none⟩ = some (.int .i64 1) ∧ w'.cell? ⟨w.heap.size + 1, 2, none⟩ = some (.int .i64 0) ∧ w'.cell? ⟨w.heap.size + 1, 3, none⟩ = some (.int .i64 g1) ∧ w'.cell? ⟨w.heap.size + 1, 4, none⟩ = some (.slice none 0 0) ∧ w'.cell? ⟨w.heap.size + 1, 5, none⟩ = some (.slice none 0 0) ∧ w'.cell? ⟨w.heap.size + 1, 6, none⟩ = some (.slice none 0 0))) (by kernel_rfl) (cells7 (unhide V3)) (fun hHeld => ?_)
    refine wpAnyH_take (i := 0) (oi := { dst := some 91, op := Op.load 50 (Operand.tmp 10), type := 50, pos := "l03_record.go:144", after := #[], guard := none }) (v := .agg #[.slice none 0 0, .int .i64 1, .int .i64 0, .int .i64 g1, .slice none 0 0, .slice none 0 0, .slice none 0 0]) rfl (by kernel_rfl) (by kernel_rfl) (by kernel_rfl) (fun _ _ _ h => h) (Or.inl ⟨by rfl, fun w hSw => by (try dsimp only at hSw); go_simp⟩) hHeld ?_
    simp only [Act.put, List.setIfInBounds_toArray, List.set_cons_zero, List.set_cons_succ]
    refine wpAnyH_take (i := 1) (oi := { dst := some 92, op := Op.move (Operand.tmp 11), type := 3, pos := "l03_record.go:144", after := #[], guard := none }) (v := .int .i64 g2) rfl (by kernel_rfl) (by kernel_rfl) (by kernel_rfl) (fun _ _ _ h => h) (Or.inl ⟨by rfl, fun w hSw => by (try dsimp only at hSw); go_simp⟩) hHeld ?_
    simp only [Act.put, List.setIfInBounds_toArray, List.set_cons_zero, List.set_cons_succ]
    refine wpAnyH_take (i := 2) (oi := { dst := some 93, op := Op.binOp BinOp.geq 3 (Operand.tmp 92) (Operand.const (Value.int IntKind.i64 0)) 3, type := 4, pos := "l03_record.go:144", after := #[{ on := 1, ground := Ground.data }], guard := none }) (v := .bool true) rfl (by kernel_rfl) (by kernel_rfl) (by kernel_rfl) (fun _ _ _ h => h) (Or.inl ⟨by rfl, fun w hSw => by (try dsimp only at hSw); go_simp⟩) hHeld ?_
    simp only [Act.put, List.setIfInBounds_toArray, List.set_cons_zero, List.set_cons_succ]
    refine wpAnyH_take (i := 3) (oi := { dst := some 94, op := Op.move (Operand.tmp 93), type := 4, pos := "l03_record.go:144", after := #[{ on := 2, ground := Ground.data }], guard := none }) (v := .bool true) rfl (by kernel_rfl) (by kernel_rfl) (by kernel_rfl) (fun _ _ _ h => h) (Or.inl ⟨by rfl, fun w hSw => by (try dsimp only at hSw); go_simp⟩) hHeld ?_
    simp only [Act.put, List.setIfInBounds_toArray, List.set_cons_zero, List.set_cons_succ]
    refine wpAnyH_take (i := 4) (oi := { dst := some 95, op := Op.move (Operand.tmp 11), type := 3, pos := "l03_record.go:144", after := #[{ on := 3, ground := Ground.guard }], guard := some (3, true) }) (v := .int .i64 g2) rfl (by kernel_rfl) (by kernel_rfl) (by kernel_rfl) (fun _ _ _ h => h) (Or.inl ⟨by rfl, fun w hSw => by (try dsimp only at hSw); go_simp⟩) hHeld ?_
    simp only [Act.put, List.setIfInBounds_toArray, List.set_cons_zero, List.set_cons_succ]
    refine wpAnyH_take (i := 5) (oi := { dst := some 96, op := Op.move (Operand.tmp 2), type := 3, pos := "l03_record.go:144", after := #[{ on := 3, ground := Ground.guard }], guard := some (3, true) }) (v := .int .i64 p) rfl (by kernel_rfl) (by kernel_rfl) (by kernel_rfl) (fun _ _ _ h => h) (Or.inl ⟨by rfl, fun w hSw => by (try dsimp only at hSw); go_simp⟩) hHeld ?_
    simp only [Act.put, List.setIfInBounds_toArray, List.set_cons_zero, List.set_cons_succ]
    refine wpAnyH_take (i := 6) (oi := { dst := some 97, op := Op.move (Operand.tmp 3), type := 3, pos := "l03_record.go:144", after := #[{ on := 3, ground := Ground.guard }], guard := some (3, true) }) (v := .int .i64 n) rfl (by kernel_rfl) (by kernel_rfl) (by kernel_rfl) (fun _ _ _ h => h) (Or.inl ⟨by rfl, fun w hSw => by (try dsimp only at hSw); go_simp⟩) hHeld ?_
    simp only [Act.put, List.setIfInBounds_toArray, List.set_cons_zero, List.set_cons_succ]
    refine wpAnyH_take (i := 7) (oi := { dst := some 98, op := Op.binOp BinOp.add 3 (Operand.tmp 96) (Operand.tmp 97) 3, type := 3, pos := "l03_record.go:144", after := #[{ on := 5, ground := Ground.data }, { on := 6, ground := Ground.data }, { on := 3, ground := Ground.guard }], guard := some (3, true) }) (v := .int .i64 sm) rfl (by kernel_rfl) (by kernel_rfl) (by kernel_rfl) (fun _ _ _ h => h) (Or.inl ⟨by rfl, fun w hSw => by (try dsimp only at hSw); go_simp⟩) hHeld ?_
    simp only [Act.put, List.setIfInBounds_toArray, List.set_cons_zero, List.set_cons_succ]
    refine wpAnyH_take (i := 8) (oi := { dst := some 99, op := Op.binOp BinOp.eql 3 (Operand.tmp 95) (Operand.tmp 98) 3, type := 4, pos := "l03_record.go:144", after := #[{ on := 4, ground := Ground.data }, { on := 7, ground := Ground.data }, { on := 3, ground := Ground.guard }], guard := some (3, true) }) (v := .bool false) rfl (by kernel_rfl) (by kernel_rfl) (by kernel_rfl) (fun _ _ _ h => h) (Or.inl ⟨by rfl, fun w hSw => by (try dsimp only at hSw); go_simp⟩) hHeld ?_
    simp only [Act.put, List.setIfInBounds_toArray, List.set_cons_zero, List.set_cons_succ]
    refine wpAnyH_take (i := 9) (oi := { dst := some 100, op := Op.pick (Operand.tmp 94) (Operand.tmp 99) (Operand.const (Value.bool false)), type := 4, pos := "l03_record.go:144", after := #[{ on := 3, ground := Ground.data }, { on := 8, ground := Ground.data }], guard := none }) (v := .bool false) rfl (by kernel_rfl) (by kernel_rfl) (by kernel_rfl) (fun _ _ _ h => h) (Or.inl ⟨by rfl, fun w hSw => by (try dsimp only at hSw); go_simp⟩) hHeld ?_
    simp only [Act.put, List.setIfInBounds_toArray, List.set_cons_zero, List.set_cons_succ]
    refine wpAnyH_take (i := 10) (oi := { dst := some 101, op := Op.move (Operand.tmp 100), type := 4, pos := "l03_record.go:144", after := #[{ on := 9, ground := Ground.data }, { on := 3, ground := Ground.chain }], guard := none }) (v := .bool false) rfl (by kernel_rfl) (by kernel_rfl) (by kernel_rfl) (fun _ _ _ h => h) (Or.inl ⟨by rfl, fun w hSw => by (try dsimp only at hSw); go_simp⟩) hHeld ?_
    simp only [Act.put, List.setIfInBounds_toArray, List.set_cons_zero, List.set_cons_succ]
    refine wpAnyH_take (i := 11) (oi := { dst := some 102, op := Op.load 50 (Operand.tmp 10), type := 50, pos := "l03_record.go:144", after := #[{ on := 10, ground := Ground.guard }], guard := some (10, true) }) (v := undef) rfl (by kernel_rfl) (by kernel_rfl) (by kernel_rfl) (fun _ _ _ h => h) (Or.inr ⟨by rfl, rfl⟩) hHeld ?_
    simp only [Act.put, List.setIfInBounds_toArray, List.set_cons_zero, List.set_cons_succ]
    refine wpAnyH_take (i := 12) (oi := { dst := some 103, op := Op.call { callee := Callee.value (Operand.func 31), args := #[Operand.tmp 102], argTypes := #[50] }, type := 4, pos := "l03_record.go:144", after := #[{ on := 11, ground := Ground.data }, { on := 10, ground := Ground.chain }, { on := 10, ground := Ground.guard }], guard := some (10, true) }) (v := undef) rfl (by kernel_rfl) (by kernel_rfl) (by kernel_rfl) (fun _ _ _ h => h) (Or.inr ⟨by rfl, rfl⟩) hHeld ?_
    simp only [Act.put, List.setIfInBounds_toArray, List.set_cons_zero, List.set_cons_succ]
    refine wpAnyH_take (i := 13) (oi := { dst := some 104, op := Op.pick (Operand.tmp 101) (Operand.tmp 103) (Operand.const (Value.bool false)), type := 4, pos := "l03_record.go:144", after := #[{ on := 10, ground := Ground.data }, { on := 12, ground := Ground.data }, { on := 14, ground := Ground.gcOnly Departure.lateStores }], guard := none }) (v := .bool false) rfl (by kernel_rfl) (by kernel_rfl) (by kernel_rfl) (fun _ _ _ h => h) (Or.inl ⟨by rfl, fun w hSw => by (try dsimp only at hSw); go_simp⟩) hHeld ?_
    simp only [Act.put, List.setIfInBounds_toArray, List.set_cons_zero, List.set_cons_succ]
    obtain ⟨R9, u9⟩ := set7 (c0 := .slice none 0 0) (c1 := .int .i64 1) (c2 := .int .i64 0) (c3 := .int .i64 g1) (c4 := .slice none 0 0) (c5 := .slice none 0 0) (c6 := .slice none 0 0) (unhide K3)
    refine wpAnyH_ready (rs := [14]) (by kernel_rfl) (by simp) (AllReadyH.cons (o := { dst := none, op := Op.store 50 (Operand.tmp 8) (Operand.tmp 91), type := 0, pos := "l03_record.go:144", after := #[{ on := 0, ground := Ground.data }, { on := 12, ground := Ground.chain }, { on := 0, ground := Ground.phase }, { on := 1, ground := Ground.textOnly Departure.lateStores }, { on := 2, ground := Ground.textOnly Departure.lateStores }, { on := 3, ground := Ground.textOnly Departure.lateStores }, { on := 4, ground := Ground.textOnly Departure.lateStores }, { on := 5, ground := Ground.textOnly Departure.lateStores }, { on := 6, ground := Ground.textOnly Departure.lateStores }, { on := 7, ground := Ground.textOnly Departure.lateStores }, { on := 8, ground := Ground.textOnly Departure.lateStores }, { on := 9, ground := Ground.textOnly Departure.lateStores }, { on := 10, ground := Ground.textOnly Departure.lateStores }, { on := 11, ground := Ground.textOnly Departure.lateStores }, { on := 12, ground := Ground.textOnly Departure.lateStoresUnsure }, { on := 13, ground := Ground.textOnly Departure.lateStores }], guard := none }) rfl (fun K hK => ?_) AllReadyH.nil)
    rw [if_pos (by rfl)]
    refine wp_store7 50 (.tmp 8) (.tmp 91) rfl w.heap.size (.slice none 0 0) (.int .i64 1) (.int .i64 0) (.int .i64 g1) (.slice none 0 0) (.slice none 0 0) (.slice none 0 0) rfl rfl (unhide K3) (by kernel_rfl) (by simp [Value.oneCell']) ?_
    refine hK.out _ _ (cells7 (u9.kept (unhide V3) (by omega))) (fun hHeld => ?_)
    clear hK K
    generalize (((((((w2.drew.setCell ⟨w.heap.size, 0, none⟩ (.slice none 0 0)).setCell ⟨w.heap.size, 1, none⟩ (.int .i64 1)).setCell ⟨w.heap.size, 2, none⟩ (.int .i64 0)).setCell ⟨w.heap.size, 3, none⟩ (.int .i64 g1)).setCell ⟨w.heap.size, 4, none⟩ (.slice none 0 0)).setCell ⟨w.heap.size, 5, none⟩ (.slice none 0 0)).setCell ⟨w.heap.size, 6, none⟩ (.slice none 0 0)) = w9 at *
    simp only [Act.put]
    refine wpAnyH_take (i := 15) (oi := { dst := some 9, op := Op.assign (Operand.tmp 104), type := 4, pos := "l03_record.go:144", after := #[{ on := 13, ground := Ground.data }, { on := 14, ground := Ground.chain }, { on := 0, ground := Ground.phase }, { on := 1, ground := Ground.phase }, { on := 2, ground := Ground.phase }, { on := 3, ground := Ground.phase }, { on := 4, ground := Ground.phase }, { on := 5, ground := Ground.phase }, { on := 6, ground := Ground.phase }, { on := 7, ground := Ground.phase }, { on := 8, ground := Ground.phase }, { on := 9, ground := Ground.phase }, { on := 10, ground := Ground.phase }, { on := 11, ground := Ground.phase }, { on := 12, ground := Ground.phase }, { on := 13, ground := Ground.phase }, { on := 14, ground := Ground.phase }], guard := none }) (v := .bool false) rfl (by kernel_rfl) (by kernel_rfl) (by kernel_rfl) (fun _ _ _ h => h) (Or.inl ⟨by rfl, fun w hSw => by (try dsimp only at hSw); go_simp⟩) hHeld ?_
    simp only [Act.put, List.setIfInBounds_toArray, List.set_cons_zero, List.set_cons_succ]
    refine wpAnyH_done (by kernel_rfl) (NoPanic.normal ?_) _
    go_wp2_with fail
    refine bodyPost_ret (results_cell_tmp_row rfl _ _ w.heap.size 50 #[.slice none 0 0, .int .i64 1, .int .i64 0, .int .i64 g1, .slice none 0 0, .slice none 0 0, .slice none 0 0] (0, 0) _ rfl R9 Try.underlying50 rfl (by kernel_rfl)) rfl ?_
    have z9 := u9.size
    exact ⟨⟨[], 1, 0, g1, [], [], []⟩, ⟨_, _, _, _, rfl, ((unhide HR3).outside u9 (by omega)).wide (by omega) (by omega), u9.below bb3 (by omega)⟩, fun q => by cases q⟩
  · have hRes := unhide HRES
    rw [decide_eq_true ⟨hge, by omega⟩, Bool.true_and] at hRes
    subst hRes
    have hw : IntKind.i64.wrap (p + n) = g2 := by rw [IntWalk.i64_in _ (by omega)]; omega
    have HO := specRrOk_has (unhide HR3).hasR
    dsimp only at HO
    replace HO := hide HO
    clear HRES he hneg hne
    first | (go_region_held3 (fun w' => w'.cell? ⟨w.heap.size + 1, 0, none⟩ = some (.slice none 0 0) ∧ w'.cell? ⟨w.heap.size + 1, 1, none⟩ = some (.int .i64 1) ∧ w'.cell? ⟨w.heap.size + 1, 2, none⟩ = some (.int .i64 0) ∧ w'.cell? ⟨w.heap.size + 1, 3, none⟩ = some (.int .i64 g1) ∧ w'.cell? ⟨w.heap.size + 1, 4, none⟩ = some (.slice none 0 0) ∧ w'.cell? ⟨w.heap.size + 1, 5, none⟩ = some (.slice none 0 0) ∧ w'.cell? ⟨w.heap.size + 1, 6, none⟩ = some (.slice none 0 0))
        (first | with_reducible exact cells7 (unhide V3) | with_reducible exact cells7 (unhide V6) | exact cells7 ((set7 (c0 := .slice none 0 0) (c1 := .int .i64 1) (c2 := .int .i64 0) (c3 := .int .i64 g1) (c4 := .slice none 0 0) (c5 := .slice none 0 0) (c6 := .slice none 0 0) (unhide K6)).2.kept (unhide V6) (by omega)))
        (first
        | (go_at_call 31; refine (unhide HO).mono ?_; rintro e w6 ⟨rfl, b6⟩; have z6 := b6.size; have K6 := hide (block_kept b6 (unhide K3)); have V6 := hide (block_kept b6 (unhide V3)); obtain ⟨f0, f1, f2, f3, f4, f5, f6⟩ := cells7 (unhide K6); obtain ⟨q0, q1, q2, q3, q4, q5, q6⟩ := frozen7 (unhide K6)))) | fail
    all_goals
      (try go_wp2_with fail)
      obtain ⟨R9, u9⟩ := set7 (c0 := .slice none 0 0) (c1 := .int .i64 1) (c2 := .int .i64 0) (c3 := .int .i64 g1) (c4 := .slice none 0 0) (c5 := .slice none 0 0) (c6 := .slice none 0 0) (unhide K6)
      refine bodyPost_ret (results_cell_tmp_row rfl _ _ w.heap.size 50 #[.slice none 0 0, .int .i64 1, .int .i64 0, .int .i64 g1, .slice none 0 0, .slice none 0 0, .slice none 0 0] (0, 0) _ rfl R9 Try.underlying50 rfl (by kernel_rfl)) rfl ?_
      have z9 := u9.size
      exact ⟨⟨[], 1, 0, g1, [], [], []⟩, ⟨_, _, _, _, rfl, (((unhide HR3).below b6).outside u9 (by omega)).wide (by omega) (by omega), u9.below (below_next bb3 b6) (by omega)⟩, fun q => rfl⟩
end Go.Proofs.Ytnloenkjfjlmeaa

namespace Go.Proofs.Ytnloenkjfjlmeaa
open Go.RowKit
set_option linter.unusedVariables false

set_option maxHeartbeats 400000 in
set_option maxRecDepth 100000 in
theorem specGet16_no (a : Option Addr) (len cap : Nat) (at' : Int) (w : World) (hl : len ≤ 2097152) (h : at' < 0 ∨ (len : Int) - 2 < at') :
    Calls Try.prog 127 #[.slice a len cap, .int .i64 at'] w fun e w' => e = .returned (.tuple #[.int .i64 0, .int .i64 (-1)]) ∧ w = w' := by
  by_cases h0 : at' < 0
  · go_enter Try.func127, Try.ntmps127
    go_wp2
    go_ret2
    exact ⟨rfl, rfl⟩
  · have h1 : (len : Int) - 2 < at' := by omega
    go_enter Try.func127, Try.ntmps127
    go_wp2
    go_ret2
    exact ⟨rfl, rfl⟩

set_option maxHeartbeats 400000 in
set_option maxRecDepth 100000 in
theorem specGet16_yes (a : Option Addr) (cap : Nat) (l : List Int) (i : Nat) (w : World) (hl : l.length ≤ 2097152) (h : Lies w a l) (hi : i + 2 ≤ l.length) (hb : ∀ k, 0 ≤ l.getD k 0 ∧ l.getD k 0 ≤ 255) :
    Calls Try.prog 127 #[.slice a l.length cap, .int .i64 i] w fun e w' => e = .returned (.tuple #[.int .i64 (l.getD i 0 * 256 + l.getD (i + 1) 0), .int .i64 (i + 2)]) ∧ ∃ n, w' = w.drewN n := by
  obtain ⟨b, off, rfl, hlt, hc⟩ := h.here (k := i) (by omega)
  obtain ⟨b', off', e, hlt', hc'⟩ := h.here (k := i + 1) (by omega)
  simp at e
  obtain ⟨rfl, rfl⟩ := e
  have hx := hb i
  have hy := hb (i + 1)
  generalize l.getD i 0 = x at *
  generalize l.getD (i + 1) 0 = y at *
  clear hb
  generalize hn : l.length = n at *
  have HN := hide hn
  clear hn
  go_enter Try.func127, Try.ntmps127
  go_wp2
  go_quiet (fail)
  go_wp2
  go_ret2
  exact ⟨rfl, _, rfl⟩

theorem specGet16_any {B : Nat} {v : Value} {l : List Int} (p : Int) {w : World} (h : Own B 5 w v l) (hl : l.length ≤ 2097152) (hb : ∀ k, 0 ≤ l.getD k 0 ∧ l.getD k 0 ≤ 255) :
    Calls Try.prog 127 #[v, .int .i64 p] w fun e w' => e = .returned (.tuple #[.int .i64 (get16 l p).1, .int .i64 (get16 l p).2]) ∧ Below w.heap.size w w' := by
  obtain ⟨a, cap, rfl, hL⟩ := h.lies
  by_cases hp : 0 ≤ p ∧ p + 2 ≤ l.length
  · obtain ⟨i, rfl⟩ := Int.eq_ofNat_of_zero_le hp.1
    have e : get16 l i = (l.getD i 0 * 256 + l.getD (i + 1) 0, (i : Int) + 2) := by unfold get16; rw [if_pos hp]; rfl
    rw [e]
    refine (specGet16_yes a cap l i w hl hL (by omega) hb).mono ?_
    rintro e w' ⟨rfl, n, rfl⟩
    exact ⟨rfl, below_draws n⟩
  · have e : get16 l p = (0, -1) := by unfold get16; rw [if_neg hp]
    rw [e]
    exact (specGet16_no a l.length cap p w hl (by omega)).mono fun e w' ⟨he, hw⟩ => ⟨he, hw ▸ Below.refl _ _⟩
end Go.Proofs.Ytnloenkjfjlmeaa
