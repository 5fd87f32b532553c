/-
  Contracts of the specification's l3get: an SOA. Contracts of the specification's l3get: a text.
-/
import Derived.Test.YtnloenkjfjlmeaaRrGetG28
import Derived.Test.YtnloenkjfjlmeaaRrGetG31
import Derived.Test.YtnloenkjfjlmeaaRrGetG26
import Derived.Test.YtnloenkjfjlmeaaRrGetG20
import Derived.Test.YtnloenkjfjlmeaaRrGetG30
namespace Go.Proofs.Ytnloenkjfjlmeaa
open Go.RowKit
set_option linter.unusedVariables false

set_option maxHeartbeats 2000000 in
set_option maxRecDepth 100000 in
theorem l3get_S {B : Nat} {v : Value} {l : List Int} (p n : Int) {w : World} (h : Own B 5 w v l) (hl : l.length ≤ 512) (hp : p ≤ 9223372036854775807) (hn0 : -70000 ≤ n) (hn1 : n ≤ 70000) (hb : Bytes8 l) :
    Calls Try.prog 85 #[.int .i64 6, v, .int .i64 p, .int .i64 n] w (GivesG w (kindGet 6 l p).1 (good 6 l p n)) := by
  have he := nameGet_end l p
  have hkg : kindGet 6 l p = (⟨[], 6, 0, 0, (nameGet l p).1, [], [(get32 l (nameGet l p).2).1, (get32 l (get32 l (nameGet l p).2).2).1]⟩, (get32 l (get32 l (nameGet l p).2).2).2) := by unfold kindGet; rw [if_neg (by omega), if_pos rfl]
  unfold good
  rw [hkg]
  obtain ⟨hsz, k0, r0⟩ := box2 w (.cells #[.slice none 0 0, .int .i64 0, .int .i64 0, .int .i64 0, .slice none 0 0, .slice none 0 0, .slice none 0 0] 50) #[.slice none 0 0, .int .i64 6, .int .i64 0, .int .i64 0, .slice none 0 0, .slice none 0 0, .slice none 0 0] 50
  have b0 := below2 w (.cells #[.slice none 0 0, .int .i64 0, .int .i64 0, .int .i64 0, .slice none 0 0, .slice none 0 0, .slice none 0 0] 50) (.cells #[.slice none 0 0, .int .i64 6, .int .i64 0, .int .i64 0, .slice none 0 0, .slice none 0 0, .slice none 0 0] 50)
  have HG := l2get_own p (h.below b0) hl hp hb
  have hgn : getName l 20 [] p 0 (-1) = nameGet l p := by unfold nameGet; rw [if_neg (by omega)]
  rw [hgn] at HG
  replace HG := hide HG
  have HN := hide (l3named_any 6 ((w.alloc (.cells #[.slice none 0 0, .int .i64 0, .int .i64 0, .int .i64 0, .slice none 0 0, .slice none 0 0, .slice none 0 0] 50)).alloc (.cells #[.slice none 0 0, .int .i64 6, .int .i64 0, .int .i64 0, .slice none 0 0, .slice none 0 0, .slice none 0 0] 50)) rfl)
  obtain ⟨a, cap, rfl, _⟩ := h.lies
  have HA := hide h
  have P32 := hide (fun (w : World) (q : Int) (h : Own B 5 w (.slice a l.length cap) l) => specGet32_any q h (by omega) hb)
  dsimp only
  clear h hkg hb hgn
  generalize (nameGet l p).1 = g1 at *
  generalize (nameGet l p).2 = g2 at *
  have ex := get32_end l g2
  have ey := get32_end l (get32 l g2).2
  have P1 := hide (fun (w : World) (h : Own B 5 w (.slice a l.length cap) l) => unhide P32 w g2 h)
  have P2 := hide (fun (w : World) (h : Own B 5 w (.slice a l.length cap) l) => unhide P32 w (g2 + 4) h)
  have e4 : 0 ≤ (get32 l g2).2 → get32 l (g2 + 4) = get32 l (get32 l g2).2 := by
    intro hh
    rw [show (get32 l g2).2 = g2 + 4 by omega]
  have E4 := hide e4
  clear e4 P32
  have K0 := hide k0
  have V0 := hide r0
  clear k0 r0
  generalize hRes : (decide (0 ≤ (get32 l (get32 l g2).2).2 ∧ (get32 l (get32 l g2).2).2 = p + n) && rrOk ⟨[], 6, 0, 0, g1, [], [(get32 l g2).1, (get32 l (get32 l g2).2).1]⟩) = Res
  have HRES := hide hRes
  clear hRes
  go_enter Try.func85, Try.ntmps85
  go_wp2_with fail
  generalize (w.alloc (.cells #[.slice none 0 0, .int .i64 0, .int .i64 0, .int .i64 0, .slice none 0 0, .slice none 0 0, .slice none 0 0] 50)).alloc (.cells #[.slice none 0 0, .int .i64 6, .int .i64 0, .int .i64 0, .slice none 0 0, .slice none 0 0, .slice none 0 0] 50) = W at *
  refine (unhide HN).mono ?_
  rintro e w0 ⟨rfl, rfl⟩
  go_wp2_with fail
  refine (unhide HG).mono ?_
  rintro e w1 ⟨v1, rfl, o1, b1⟩
  obtain ⟨oa, oc, rfl, _⟩ := o1.hasL.form
  have K1 := hide (block_kept b1 (unhide K0))
  have V1 := hide (block_kept b1 (unhide V0))
  have O1 := hide o1.here
  have bb1 := below_next b0 b1
  have z1 := b1.size
  clear HG HN K0 V0 b0 b1 o1
  have u2 := outside_set w1 (w.heap.size + 1) 4 (.slice oa g1.length oc)
  have V2 : (w1.setCell ⟨w.heap.size + 1, 4, none⟩ (.slice oa g1.length oc)).heap[w.heap.size + 1]? = some (.cells #[.slice none 0 0, .int .i64 6, .int .i64 0, .int .i64 0, .slice oa g1.length oc, .slice none 0 0, .slice none 0 0] 50) := block_setAt (unhide V1) 4 _
  have K2 := hide (u2.kept (unhide K1) (by omega))
  have bb2 := u2.below bb1 (by omega)
  have z2 := u2.size
  replace V2 := hide V2
  have O2 := hide ((unhide O1).outside u2 (by omega))
  have H2 := hide ((unhide HA).below bb2)
  obtain ⟨f0, f1, f2, f3, f4, f5, f6⟩ := cells7 (unhide V1)
  obtain ⟨q0, q1, q2, q3, q4, q5, q6⟩ := frozen7 (unhide V1)
  by_cases hneg : g2 < 0
  · have hRes := unhide HRES
    have hRf : false = Res := by rw [← hRes, decide_eq_false (by omega), Bool.false_and]
    clear HRES hRes E4 ex ey P1 P2
    subst hRf
    obtain rfl : g2 = -1 := by omega
    have h0 : ¬ (0 : Int) ≤ -1 := by omega
    go_wp2_with fail
    clear f0 f1 f2 f3 f4 f5 f6 q0 q1 q2 q3 q4 q5 q6
    generalize w1.setCell ⟨w.heap.size + 1, 4, none⟩ (.slice oa g1.length oc) = w2 at *
    clear K1 V1 bb1 u2 O1
    have HR := hide (show OwnR (w.heap.size + 2) w2.heap.size 22 5 3 w2 (.slice none 0 0) (.slice oa g1.length oc) (.slice none 0 0) (.slice none 0 0) ⟨[], 6, 0, 0, g1, [], []⟩ from ⟨w.heap.size + 2, w2.heap.size, w2.heap.size, Nat.le_refl _, by omega, Nat.le_refl _, Nat.le_refl _, ownN_nil _ _ _ _ _, (unhide O2).wide (by omega) (by omega), ownB_nil _ _ _ _, ownBI_nil _ _ _ _⟩)
    have bd := below_drew (w := w2)
    have K3 := hide (block_kept bd (unhide K2))
    have V3 := hide (block_kept bd (unhide V2))
    have HR3 := hide ((unhide HR).below bd)
    have bb3 := below_next bb2 bd
    have z3 := bd.size
    clear V2 HR bb2 bd
    refine wp_region_noPanic ?_
    refine wp_region_held_drew (S := (fun w' => w'.cell? ⟨w.heap.size + 1, 0, none⟩ = some (.slice none 0 0) ∧ w'.cell? ⟨w.heap.size + 1, 1, none⟩ = some (.int .i64 6) ∧ w'.cell? ⟨w.heap.size + 1, 2, none⟩ = some (.int .i64 0) ∧ w'.cell? ⟨w.heap.size + 1, 3, none⟩ = some (.int .i64 0) ∧ w'.cell? ⟨w.heap.size + 1, 4, none⟩ = some (.slice oa g1.length oc) ∧ w'.cell? ⟨w.heap.size + 1, 5, none⟩ = some (.slice none 0 0) ∧ w'.cell? ⟨w.heap.size + 1, 6, none⟩ = some (.slice none 0 0))) (by kernel_rfl) (cells7 (unhide V3)) (fun hHeld => ?_)
    refine wpAnyH_take (i := 0) (oi := { dst := some 91, op := Op.load 50 (Operand.tmp 10), type := 50, pos := "l03_record.go:144", after := #[], guard := none }) (v := .agg #[.slice none 0 0, .int .i64 6, .int .i64 0, .int .i64 0, .slice oa g1.length oc, .slice none 0 0, .slice none 0 0]) rfl (by kernel_rfl) (by kernel_rfl) (by kernel_rfl) (fun _ _ _ h => h) (Or.inl ⟨by rfl, fun w hSw => by (try dsimp only at hSw); go_simp⟩) hHeld ?_
    simp only [Act.put, List.setIfInBounds_toArray, List.set_cons_zero, List.set_cons_succ]
    refine wpAnyH_take (i := 1) (oi := { dst := some 92, op := Op.move (Operand.tmp 11), type := 3, pos := "l03_record.go:144", after := #[], guard := none }) (v := .int .i64 (-1)) rfl (by kernel_rfl) (by kernel_rfl) (by kernel_rfl) (fun _ _ _ h => h) (Or.inl ⟨by rfl, fun w hSw => by (try dsimp only at hSw); go_simp⟩) hHeld ?_
    simp only [Act.put, List.setIfInBounds_toArray, List.set_cons_zero, List.set_cons_succ]
    refine wpAnyH_take (i := 2) (oi := { dst := some 93, op := Op.binOp BinOp.geq 3 (Operand.tmp 92) (Operand.const (Value.int IntKind.i64 0)) 3, type := 4, pos := "l03_record.go:144", after := #[{ on := 1, ground := Ground.data }], guard := none }) (v := .bool false) rfl (by kernel_rfl) (by kernel_rfl) (by kernel_rfl) (fun _ _ _ h => h) (Or.inl ⟨by rfl, fun w hSw => by (try dsimp only at hSw); go_simp⟩) hHeld ?_
    simp only [Act.put, List.setIfInBounds_toArray, List.set_cons_zero, List.set_cons_succ]
    refine wpAnyH_take (i := 3) (oi := { dst := some 94, op := Op.move (Operand.tmp 93), type := 4, pos := "l03_record.go:144", after := #[{ on := 2, ground := Ground.data }], guard := none }) (v := .bool false) rfl (by kernel_rfl) (by kernel_rfl) (by kernel_rfl) (fun _ _ _ h => h) (Or.inl ⟨by rfl, fun w hSw => by (try dsimp only at hSw); go_simp⟩) hHeld ?_
    simp only [Act.put, List.setIfInBounds_toArray, List.set_cons_zero, List.set_cons_succ]
    refine wpAnyH_take (i := 4) (oi := { dst := some 95, op := Op.move (Operand.tmp 11), type := 3, pos := "l03_record.go:144", after := #[{ on := 3, ground := Ground.guard }], guard := some (3, true) }) (v := undef) rfl (by kernel_rfl) (by kernel_rfl) (by kernel_rfl) (fun _ _ _ h => h) (Or.inr ⟨by rfl, rfl⟩) hHeld ?_
    simp only [Act.put, List.setIfInBounds_toArray, List.set_cons_zero, List.set_cons_succ]
    refine wpAnyH_take (i := 5) (oi := { dst := some 96, op := Op.move (Operand.tmp 2), type := 3, pos := "l03_record.go:144", after := #[{ on := 3, ground := Ground.guard }], guard := some (3, true) }) (v := undef) rfl (by kernel_rfl) (by kernel_rfl) (by kernel_rfl) (fun _ _ _ h => h) (Or.inr ⟨by rfl, rfl⟩) hHeld ?_
    simp only [Act.put, List.setIfInBounds_toArray, List.set_cons_zero, List.set_cons_succ]
    refine wpAnyH_take (i := 6) (oi := { dst := some 97, op := Op.move (Operand.tmp 3), type := 3, pos := "l03_record.go:144", after := #[{ on := 3, ground := Ground.guard }], guard := some (3, true) }) (v := undef) rfl (by kernel_rfl) (by kernel_rfl) (by kernel_rfl) (fun _ _ _ h => h) (Or.inr ⟨by rfl, rfl⟩) hHeld ?_
    simp only [Act.put, List.setIfInBounds_toArray, List.set_cons_zero, List.set_cons_succ]
    refine wpAnyH_take (i := 7) (oi := { dst := some 98, op := Op.binOp BinOp.add 3 (Operand.tmp 96) (Operand.tmp 97) 3, type := 3, pos := "l03_record.go:144", after := #[{ on := 5, ground := Ground.data }, { on := 6, ground := Ground.data }, { on := 3, ground := Ground.guard }], guard := some (3, true) }) (v := undef) rfl (by kernel_rfl) (by kernel_rfl) (by kernel_rfl) (fun _ _ _ h => h) (Or.inr ⟨by rfl, rfl⟩) hHeld ?_
    simp only [Act.put, List.setIfInBounds_toArray, List.set_cons_zero, List.set_cons_succ]
    refine wpAnyH_take (i := 8) (oi := { dst := some 99, op := Op.binOp BinOp.eql 3 (Operand.tmp 95) (Operand.tmp 98) 3, type := 4, pos := "l03_record.go:144", after := #[{ on := 4, ground := Ground.data }, { on := 7, ground := Ground.data }, { on := 3, ground := Ground.guard }], guard := some (3, true) }) (v := undef) rfl (by kernel_rfl) (by kernel_rfl) (by kernel_rfl) (fun _ _ _ h => h) (Or.inr ⟨by rfl, rfl⟩) hHeld ?_
    simp only [Act.put, List.setIfInBounds_toArray, List.set_cons_zero, List.set_cons_succ]
    refine wpAnyH_take (i := 9) (oi := { dst := some 100, op := Op.pick (Operand.tmp 94) (Operand.tmp 99) (Operand.const (Value.bool false)), type := 4, pos := "l03_record.go:144", after := #[{ on := 3, ground := Ground.data }, { on := 8, ground := Ground.data }], guard := none }) (v := .bool false) rfl (by kernel_rfl) (by kernel_rfl) (by kernel_rfl) (fun _ _ _ h => h) (Or.inl ⟨by rfl, fun w hSw => by (try dsimp only at hSw); go_simp⟩) hHeld ?_
    simp only [Act.put, List.setIfInBounds_toArray, List.set_cons_zero, List.set_cons_succ]
    refine wpAnyH_take (i := 10) (oi := { dst := some 101, op := Op.move (Operand.tmp 100), type := 4, pos := "l03_record.go:144", after := #[{ on := 9, ground := Ground.data }, { on := 3, ground := Ground.chain }], guard := none }) (v := .bool false) rfl (by kernel_rfl) (by kernel_rfl) (by kernel_rfl) (fun _ _ _ h => h) (Or.inl ⟨by rfl, fun w hSw => by (try dsimp only at hSw); go_simp⟩) hHeld ?_
    simp only [Act.put, List.setIfInBounds_toArray, List.set_cons_zero, List.set_cons_succ]
    refine wpAnyH_take (i := 11) (oi := { dst := some 102, op := Op.load 50 (Operand.tmp 10), type := 50, pos := "l03_record.go:144", after := #[{ on := 10, ground := Ground.guard }], guard := some (10, true) }) (v := undef) rfl (by kernel_rfl) (by kernel_rfl) (by kernel_rfl) (fun _ _ _ h => h) (Or.inr ⟨by rfl, rfl⟩) hHeld ?_
    simp only [Act.put, List.setIfInBounds_toArray, List.set_cons_zero, List.set_cons_succ]
    refine wpAnyH_take (i := 12) (oi := { dst := some 103, op := Op.call { callee := Callee.value (Operand.func 31), args := #[Operand.tmp 102], argTypes := #[50] }, type := 4, pos := "l03_record.go:144", after := #[{ on := 11, ground := Ground.data }, { on := 10, ground := Ground.chain }, { on := 10, ground := Ground.guard }], guard := some (10, true) }) (v := undef) rfl (by kernel_rfl) (by kernel_rfl) (by kernel_rfl) (fun _ _ _ h => h) (Or.inr ⟨by rfl, rfl⟩) hHeld ?_
    simp only [Act.put, List.setIfInBounds_toArray, List.set_cons_zero, List.set_cons_succ]
    refine wpAnyH_take (i := 13) (oi := { dst := some 104, op := Op.pick (Operand.tmp 101) (Operand.tmp 103) (Operand.const (Value.bool false)), type := 4, pos := "l03_record.go:144", after := #[{ on := 10, ground := Ground.data }, { on := 12, ground := Ground.data }, { on := 14, ground := Ground.gcOnly Departure.lateStores }], guard := none }) (v := .bool false) rfl (by kernel_rfl) (by kernel_rfl) (by kernel_rfl) (fun _ _ _ h => h) (Or.inl ⟨by rfl, fun w hSw => by (try dsimp only at hSw); go_simp⟩) hHeld ?_
    simp only [Act.put, List.setIfInBounds_toArray, List.set_cons_zero, List.set_cons_succ]
    obtain ⟨R9, u9⟩ := set7 (c0 := .slice none 0 0) (c1 := .int .i64 6) (c2 := .int .i64 0) (c3 := .int .i64 0) (c4 := .slice oa g1.length oc) (c5 := .slice none 0 0) (c6 := .slice none 0 0) (unhide K3)
    refine wpAnyH_ready (rs := [14]) (by kernel_rfl) (by simp) (AllReadyH.cons (o := { dst := none, op := Op.store 50 (Operand.tmp 8) (Operand.tmp 91), type := 0, pos := "l03_record.go:144", after := #[{ on := 0, ground := Ground.data }, { on := 12, ground := Ground.chain }, { on := 0, ground := Ground.phase }, { on := 1, ground := Ground.textOnly Departure.lateStores }, { on := 2, ground := Ground.textOnly Departure.lateStores }, { on := 3, ground := Ground.textOnly Departure.lateStores }, { on := 4, ground := Ground.textOnly Departure.lateStores }, { on := 5, ground := Ground.textOnly Departure.lateStores }, { on := 6, ground := Ground.textOnly Departure.lateStores }, { on := 7, ground := Ground.textOnly Departure.lateStores }, { on := 8, ground := Ground.textOnly Departure.lateStores }, { on := 9, ground := Ground.textOnly Departure.lateStores }, { on := 10, ground := Ground.textOnly Departure.lateStores }, { on := 11, ground := Ground.textOnly Departure.lateStores }, { on := 12, ground := Ground.textOnly Departure.lateStoresUnsure }, { on := 13, ground := Ground.textOnly Departure.lateStores }], guard := none }) rfl (fun K hK => ?_) AllReadyH.nil)
    rw [if_pos (by rfl)]
    refine wp_store7 50 (.tmp 8) (.tmp 91) rfl w.heap.size (.slice none 0 0) (.int .i64 6) (.int .i64 0) (.int .i64 0) (.slice oa g1.length oc) (.slice none 0 0) (.slice none 0 0) rfl rfl (unhide K3) (by kernel_rfl) (by simp [Value.oneCell']) ?_
    refine hK.out _ _ (cells7 (u9.kept (unhide V3) (by omega))) (fun hHeld => ?_)
    clear hK K
    generalize (((((((w2.drew.setCell ⟨w.heap.size, 0, none⟩ (.slice none 0 0)).setCell ⟨w.heap.size, 1, none⟩ (.int .i64 6)).setCell ⟨w.heap.size, 2, none⟩ (.int .i64 0)).setCell ⟨w.heap.size, 3, none⟩ (.int .i64 0)).setCell ⟨w.heap.size, 4, none⟩ (.slice oa g1.length oc)).setCell ⟨w.heap.size, 5, none⟩ (.slice none 0 0)).setCell ⟨w.heap.size, 6, none⟩ (.slice none 0 0)) = w9 at *
    simp only [Act.put]
    refine wpAnyH_take (i := 15) (oi := { dst := some 9, op := Op.assign (Operand.tmp 104), type := 4, pos := "l03_record.go:144", after := #[{ on := 13, ground := Ground.data }, { on := 14, ground := Ground.chain }, { on := 0, ground := Ground.phase }, { on := 1, ground := Ground.phase }, { on := 2, ground := Ground.phase }, { on := 3, ground := Ground.phase }, { on := 4, ground := Ground.phase }, { on := 5, ground := Ground.phase }, { on := 6, ground := Ground.phase }, { on := 7, ground := Ground.phase }, { on := 8, ground := Ground.phase }, { on := 9, ground := Ground.phase }, { on := 10, ground := Ground.phase }, { on := 11, ground := Ground.phase }, { on := 12, ground := Ground.phase }, { on := 13, ground := Ground.phase }, { on := 14, ground := Ground.phase }], guard := none }) (v := .bool false) rfl (by kernel_rfl) (by kernel_rfl) (by kernel_rfl) (fun _ _ _ h => h) (Or.inl ⟨by rfl, fun w hSw => by (try dsimp only at hSw); go_simp⟩) hHeld ?_
    simp only [Act.put, List.setIfInBounds_toArray, List.set_cons_zero, List.set_cons_succ]
    refine wpAnyH_done (by kernel_rfl) (NoPanic.normal ?_) _
    go_wp2_with fail
    refine bodyPost_ret (results_cell_tmp_row rfl _ _ w.heap.size 50 #[.slice none 0 0, .int .i64 6, .int .i64 0, .int .i64 0, .slice oa g1.length oc, .slice none 0 0, .slice none 0 0] (0, 0) _ rfl R9 Try.underlying50 rfl (by kernel_rfl)) rfl ?_
    have z9 := u9.size
    exact ⟨⟨[], 6, 0, 0, g1, [], []⟩, ⟨_, _, _, _, rfl, ((unhide HR3).outside u9 (by omega)).wide (by omega) (by omega), u9.below bb3 (by omega)⟩, fun q => by cases q⟩
  have hge : 0 ≤ g2 := by omega
  go_wp2_with fail
  clear f0 f1 f2 f3 f4 f5 f6 q0 q1 q2 q3 q4 q5 q6
  generalize w1.setCell ⟨w.heap.size + 1, 4, none⟩ (.slice oa g1.length oc) = w2 at *
  clear K1 V1 bb1 u2 O1 HA
  refine (unhide P1 _ (unhide H2)).mono ?_
  rintro e w3 ⟨rfl, b3⟩
  have K3a := hide (block_kept b3 (unhide K2))
  have V3a := hide (block_kept b3 (unhide V2))
  have O3a := hide ((unhide O2).below b3)
  have H3a := hide ((unhide H2).below b3)
  have bb3a := below_next bb2 b3
  have z3a := b3.size
  clear K2 V2 O2 H2 bb2 b3
  have hg4 : g2 + 4 ≤ 9223372036854775807 ∧ -9223372036854775808 ≤ g2 + 4 := by omega
  by_cases hx : (get32 l g2).2 < 0
  · have hRes := unhide HRES
    have hRf : false = Res := by rw [← hRes, decide_eq_false (by omega), Bool.false_and]
    clear HRES hRes E4 ex ey
    subst hRf
    generalize (get32 l g2).1 = x1 at *
    generalize (get32 l g2).2 = x2 at *
    go_wp2_with fail
    refine (unhide P2 _ (unhide H3a)).mono ?_
    rintro e w4 ⟨rfl, b4⟩
    have K4 := hide (block_kept b4 (unhide K3a))
    have bb4 := below_next bb3a b4
    have z4 := b4.size
    clear K3a V3a O3a H3a bb3a b4
    obtain ⟨f0, f1, f2, f3, f4, f5, f6⟩ := cells7 (unhide K4)
    obtain ⟨q0, q1, q2, q3, q4, q5, q6⟩ := frozen7 (unhide K4)
    go_wp2_with fail
    obtain ⟨R9, u9⟩ := set7 (c0 := .slice none 0 0) (c1 := .int .i64 0) (c2 := .int .i64 0) (c3 := .int .i64 0) (c4 := .slice none 0 0) (c5 := .slice none 0 0) (c6 := .slice none 0 0) (unhide K4)
    refine bodyPost_ret (results_cell_tmp_row rfl _ _ w.heap.size 50 #[.slice none 0 0, .int .i64 0, .int .i64 0, .int .i64 0, .slice none 0 0, .slice none 0 0, .slice none 0 0] (0, 0) _ rfl R9 Try.underlying50 rfl (by kernel_rfl)) rfl ?_
    have z9 := u9.size
    exact ⟨emptyR 0, ⟨_, _, _, _, rfl, ownR_nil (by omega) _ _ _ _ 0, u9.below bb4 (by omega)⟩, fun q => by cases q⟩
  have hx' : 0 ≤ (get32 l g2).2 := by omega
  have P2' := hide (fun (w : World) (h : Own B 5 w (.slice a l.length cap) l) => (by have q := unhide P2 w h; rw [unhide E4 hx'] at q; exact q : Calls Try.prog 117 #[.slice a l.length cap, .int .i64 (g2 + 4)] w fun e w' => e = .returned (.tuple #[.int .i64 (get32 l (get32 l g2).2).1, .int .i64 (get32 l (get32 l g2).2).2]) ∧ Below w.heap.size w w'))
  clear P2 E4
  generalize (get32 l (get32 l g2).2).1 = y1 at *
  generalize (get32 l (get32 l g2).2).2 = y2 at *
  generalize (get32 l g2).1 = x1 at *
  generalize (get32 l g2).2 = x2 at *
  go_wp2_with fail
  refine (unhide P2' _ (unhide H3a)).mono ?_
  rintro e w4 ⟨rfl, b4⟩
  have K4a := hide (block_kept b4 (unhide K3a))
  have V4a := hide (block_kept b4 (unhide V3a))
  have O4a := hide ((unhide O3a).below b4)
  have bb4a := below_next bb3a b4
  have z4a := b4.size
  clear K3a V3a O3a H3a bb3a b4
  by_cases hy : y2 < 0
  · have hRes := unhide HRES
    have hRf : false = Res := by rw [← hRes, decide_eq_false (by omega), Bool.false_and]
    clear HRES hRes ex ey
    subst hRf
    obtain ⟨f0, f1, f2, f3, f4, f5, f6⟩ := cells7 (unhide K4a)
    obtain ⟨q0, q1, q2, q3, q4, q5, q6⟩ := frozen7 (unhide K4a)
    go_wp2_with fail
    obtain ⟨R9, u9⟩ := set7 (c0 := .slice none 0 0) (c1 := .int .i64 0) (c2 := .int .i64 0) (c3 := .int .i64 0) (c4 := .slice none 0 0) (c5 := .slice none 0 0) (c6 := .slice none 0 0) (unhide K4a)
    refine bodyPost_ret (results_cell_tmp_row rfl _ _ w.heap.size 50 #[.slice none 0 0, .int .i64 0, .int .i64 0, .int .i64 0, .slice none 0 0, .slice none 0 0, .slice none 0 0] (0, 0) _ rfl R9 Try.underlying50 rfl (by kernel_rfl)) rfl ?_
    have z9 := u9.size
    exact ⟨emptyR 0, ⟨_, _, _, _, rfl, ownR_nil (by omega) _ _ _ _ 0, u9.below bb4a (by omega)⟩, fun q => by cases q⟩
  have hy' : ¬ y2 < 0 := by omega
  have hx'' : ¬ x2 < 0 := by omega
  have b5 := below_alloc (w := w4) (.cells #[.int .i64 x1, .int .i64 y1] 3)
  have K5 := hide (block_kept b5 (unhide K4a))
  have V5 := hide (block_kept b5 (unhide V4a))
  have O5 := hide ((unhide O4a).below b5)
  have I5 := hide (own_litI2 w4 w4.heap.size 3 x1 y1 (Nat.le_refl _)).here
  have bb5 := below_next bb4a b5
  have z5 := b5.size
  obtain ⟨f0, f1, f2, f3, f4, f5, f6⟩ := cells7 (unhide V5)
  obtain ⟨q0, q1, q2, q3, q4, q5, q6⟩ := frozen7 (unhide V5)
  clear K4a V4a O4a bb4a b5
  go_wp2_with fail
  clear f0 f1 f2 f3 f4 f5 f6 q0 q1 q2 q3 q4 q5 q6
  generalize w4.alloc (.cells #[.int .i64 x1, .int .i64 y1] 3) = w5 at *
  have u2 := outside_set w5 (w.heap.size + 1) 6 (.slice (some ⟨w4.heap.size, 0, none⟩) 2 2)
  have V2 : (w5.setCell ⟨w.heap.size + 1, 6, none⟩ (.slice (some ⟨w4.heap.size, 0, none⟩) 2 2)).heap[w.heap.size + 1]? = some (.cells #[.slice none 0 0, .int .i64 6, .int .i64 0, .int .i64 0, .slice oa g1.length oc, .slice none 0 0, .slice (some ⟨w4.heap.size, 0, none⟩) 2 2] 50) := block_setAt (unhide V5) 6 _
  have K2 := hide (u2.kept (unhide K5) (by omega))
  have bb2 := u2.below bb5 (by omega)
  have z2 := u2.size
  replace V2 := hide V2
  have O2 := hide ((unhide O5).outside u2 (by omega))
  have I2 := hide ((unhide I5).outside u2 (by omega))
  generalize w5.setCell ⟨w.heap.size + 1, 6, none⟩ (.slice (some ⟨w4.heap.size, 0, none⟩) 2 2) = w2 at *
  clear K5 V5 bb5 u2 O5 I5
  have HR := hide (show OwnR (w.heap.size + 2) w2.heap.size 22 5 3 w2 (.slice none 0 0) (.slice oa g1.length oc) (.slice none 0 0) (.slice (some ⟨w4.heap.size, 0, none⟩) 2 2) ⟨[], 6, 0, 0, g1, [], [x1, y1]⟩ from ⟨w.heap.size + 2, w4.heap.size, w4.heap.size, Nat.le_refl _, by omega, Nat.le_refl _, by omega, ownN_nil _ _ _ _ _, (unhide O2).wide (by omega) (by omega), ownB_nil _ _ _ _, (unhide I2).wide (by omega) (by omega)⟩)
  clear O2 I2 hx hx' hx'' hge hneg
  -- the last region
  have bd := below_drew (w := w2)
  have K3 := hide (block_kept bd (unhide K2))
  have V3 := hide (block_kept bd (unhide V2))
  have HR3 := hide ((unhide HR).below bd)
  have bb3 := below_next bb2 bd
  have z3 := bd.size
  clear V2 HR bb2 bd
  have hge : 0 ≤ y2 := by omega
  have hp0 : 0 ≤ p := by omega
  by_cases hne : y2 ≠ p + n
  · have hRes := unhide HRES
    rw [decide_eq_false (by omega), Bool.false_and] at hRes
    subst hRes
    obtain ⟨sm, hsm⟩ : ∃ s, s = p + n := ⟨_, rfl⟩
    have hne' : (y2 == sm) = false := by rw [beq_eq_false_iff_ne, hsm]; exact hne
    have hw : IntKind.i64.wrap (p + n) = sm := by rw [IntWalk.i64_in _ (by omega), hsm]
    clear hsm hne
    refine wp_region_noPanic ?_
    refine wp_region_held_drew (S := (fun w' => w'.cell? ⟨w.heap.size + 1, 0, none⟩ = some (.slice none 0 0) ∧ w'.cell? ⟨w.heap.size + 1, 1, none⟩ = some (.int .i64 6) ∧ w'.cell? ⟨w.heap.size + 1, 2, none⟩ = some (.int .i64 0) ∧ w'.cell? ⟨w.heap.size + 1, 3, none⟩ = some (.int .i64 0) ∧ w'.cell? ⟨w.heap.size + 1, 4, none⟩ = some (.slice oa g1.length oc) ∧ w'.cell? ⟨w.heap.size + 1, 5, none⟩ = some (.slice none 0 0) ∧ w'.cell? ⟨w.heap.size + 1, 6, none⟩ = some (.slice (some ⟨w4.heap.size, 0, none⟩) 2 2))) (by kernel_rfl) (cells7 (unhide V3)) (fun hHeld => ?_)
    refine wpAnyH_take (i := 0) (oi := { dst := some 91, op := Op.load 50 (Operand.tmp 10), type := 50, pos := "l03_record.go:144", after := #[], guard := none }) (v := .agg #[.slice none 0 0, .int .i64 6, .int .i64 0, .int .i64 0, .slice oa g1.length oc, .slice none 0 0, .slice (some ⟨w4.heap.size, 0, none⟩) 2 2]) rfl (by kernel_rfl) (by kernel_rfl) (by kernel_rfl) (fun _ _ _ h => h) (Or.inl ⟨by rfl, fun w hSw => by (try dsimp only at hSw); go_simp⟩) hHeld ?_
    simp only [Act.put, List.setIfInBounds_toArray, List.set_cons_zero, List.set_cons_succ]
    refine wpAnyH_take (i := 1) (oi := { dst := some 92, op := Op.move (Operand.tmp 11), type := 3, pos := "l03_record.go:144", after := #[], guard := none }) (v := .int .i64 y2) rfl (by kernel_rfl) (by kernel_rfl) (by kernel_rfl) (fun _ _ _ h => h) (Or.inl ⟨by rfl, fun w hSw => by (try dsimp only at hSw); go_simp⟩) hHeld ?_
    simp only [Act.put, List.setIfInBounds_toArray, List.set_cons_zero, List.set_cons_succ]
    refine wpAnyH_take (i := 2) (oi := { dst := some 93, op := Op.binOp BinOp.geq 3 (Operand.tmp 92) (Operand.const (Value.int IntKind.i64 0)) 3, type := 4, pos := "l03_record.go:144", after := #[{ on := 1, ground := Ground.data }], guard := none }) (v := .bool true) rfl (by kernel_rfl) (by kernel_rfl) (by kernel_rfl) (fun _ _ _ h => h) (Or.inl ⟨by rfl, fun w hSw => by (try dsimp only at hSw); go_simp⟩) hHeld ?_
    simp only [Act.put, List.setIfInBounds_toArray, List.set_cons_zero, List.set_cons_succ]
    refine wpAnyH_take (i := 3) (oi := { dst := some 94, op := Op.move (Operand.tmp 93), type := 4, pos := "l03_record.go:144", after := #[{ on := 2, ground := Ground.data }], guard := none }) (v := .bool true) rfl (by kernel_rfl) (by kernel_rfl) (by kernel_rfl) (fun _ _ _ h => h) (Or.inl ⟨by rfl, fun w hSw => by (try dsimp only at hSw); go_simp⟩) hHeld ?_
    simp only [Act.put, List.setIfInBounds_toArray, List.set_cons_zero, List.set_cons_succ]
    refine wpAnyH_take (i := 4) (oi := { dst := some 95, op := Op.move (Operand.tmp 11), type := 3, pos := "l03_record.go:144", after := #[{ on := 3, ground := Ground.guard }], guard := some (3, true) }) (v := .int .i64 y2) rfl (by kernel_rfl) (by kernel_rfl) (by kernel_rfl) (fun _ _ _ h => h) (Or.inl ⟨by rfl, fun w hSw => by (try dsimp only at hSw); go_simp⟩) hHeld ?_
    simp only [Act.put, List.setIfInBounds_toArray, List.set_cons_zero, List.set_cons_succ]
    refine wpAnyH_take (i := 5) (oi := { dst := some 96, op := Op.move (Operand.tmp 2), type := 3, pos := "l03_record.go:144", after := #[{ on := 3, ground := Ground.guard }], guard := some (3, true) }) (v := .int .i64 p) rfl (by kernel_rfl) (by kernel_rfl) (by kernel_rfl) (fun _ _ _ h => h) (Or.inl ⟨by rfl, fun w hSw => by (try dsimp only at hSw); go_simp⟩) hHeld ?_
    simp only [Act.put, List.setIfInBounds_toArray, List.set_cons_zero, List.set_cons_succ]
    refine wpAnyH_take (i := 6) (oi := { dst := some 97, op := Op.move (Operand.tmp 3), type := 3, pos := "l03_record.go:144", after := #[{ on := 3, ground := Ground.guard }], guard := some (3, true) }) (v := .int .i64 n) rfl (by kernel_rfl) (by kernel_rfl) (by kernel_rfl) (fun _ _ _ h => h) (Or.inl ⟨by rfl, fun w hSw => by (try dsimp only at hSw); go_simp⟩) hHeld ?_
    simp only [Act.put, List.setIfInBounds_toArray, List.set_cons_zero, List.set_cons_succ]
    refine wpAnyH_take (i := 7) (oi := { dst := some 98, op := Op.binOp BinOp.add 3 (Operand.tmp 96) (Operand.tmp 97) 3, type := 3, pos := "l03_record.go:144", after := #[{ on := 5, ground := Ground.data }, { on := 6, ground := Ground.data }, { on := 3, ground := Ground.guard }], guard := some (3, true) }) (v := .int .i64 sm) rfl (by kernel_rfl) (by kernel_rfl) (by kernel_rfl) (fun _ _ _ h => h) (Or.inl ⟨by rfl, fun w hSw => by (try dsimp only at hSw); go_simp⟩) hHeld ?_
    simp only [Act.put, List.setIfInBounds_toArray, List.set_cons_zero, List.set_cons_succ]
    refine wpAnyH_take (i := 8) (oi := { dst := some 99, op := Op.binOp BinOp.eql 3 (Operand.tmp 95) (Operand.tmp 98) 3, type := 4, pos := "l03_record.go:144", after := #[{ on := 4, ground := Ground.data }, { on := 7, ground := Ground.data }, { on := 3, ground := Ground.guard }], guard := some (3, true) }) (v := .bool false) rfl (by kernel_rfl) (by kernel_rfl) (by kernel_rfl) (fun _ _ _ h => h) (Or.inl ⟨by rfl, fun w hSw => by (try dsimp only at hSw); go_simp⟩) hHeld ?_
    simp only [Act.put, List.setIfInBounds_toArray, List.set_cons_zero, List.set_cons_succ]
    refine wpAnyH_take (i := 9) (oi := { dst := some 100, op := Op.pick (Operand.tmp 94) (Operand.tmp 99) (Operand.const (Value.bool false)), type := 4, pos := "l03_record.go:144", after := #[{ on := 3, ground := Ground.data }, { on := 8, ground := Ground.data }], guard := none }) (v := .bool false) rfl (by kernel_rfl) (by kernel_rfl) (by kernel_rfl) (fun _ _ _ h => h) (Or.inl ⟨by rfl, fun w hSw => by (try dsimp only at hSw); go_simp⟩) hHeld ?_
    simp only [Act.put, List.setIfInBounds_toArray, List.set_cons_zero, List.set_cons_succ]
    refine wpAnyH_take (i := 10) (oi := { dst := some 101, op := Op.move (Operand.tmp 100), type := 4, pos := "l03_record.go:144", after := #[{ on := 9, ground := Ground.data }, { on := 3, ground := Ground.chain }], guard := none }) (v := .bool false) rfl (by kernel_rfl) (by kernel_rfl) (by kernel_rfl) (fun _ _ _ h => h) (Or.inl ⟨by rfl, fun w hSw => by (try dsimp only at hSw); go_simp⟩) hHeld ?_
    simp only [Act.put, List.setIfInBounds_toArray, List.set_cons_zero, List.set_cons_succ]
    refine wpAnyH_take (i := 11) (oi := { dst := some 102, op := Op.load 50 (Operand.tmp 10), type := 50, pos := "l03_record.go:144", after := #[{ on := 10, ground := Ground.guard }], guard := some (10, true) }) (v := undef) rfl (by kernel_rfl) (by kernel_rfl) (by kernel_rfl) (fun _ _ _ h => h) (Or.inr ⟨by rfl, rfl⟩) hHeld ?_
    simp only [Act.put, List.setIfInBounds_toArray, List.set_cons_zero, List.set_cons_succ]
    refine wpAnyH_take (i := 12) (oi := { dst := some 103, op := Op.call { callee := Callee.value (Operand.func 31), args := #[Operand.tmp 102], argTypes := #[50] }, type := 4, pos := "l03_record.go:144", after := #[{ on := 11, ground := Ground.data }, { on := 10, ground := Ground.chain }, { on := 10, ground := Ground.guard }], guard := some (10, true) }) (v := undef) rfl (by kernel_rfl) (by kernel_rfl) (by kernel_rfl) (fun _ _ _ h => h) (Or.inr ⟨by rfl, rfl⟩) hHeld ?_
    simp only [Act.put, List.setIfInBounds_toArray, List.set_cons_zero, List.set_cons_succ]
    refine wpAnyH_take (i := 13) (oi := { dst := some 104, op := Op.pick (Operand.tmp 101) (Operand.tmp 103) (Operand.const (Value.bool false)), type := 4, pos := "l03_record.go:144", after := #[{ on := 10, ground := Ground.data }, { on := 12, ground := Ground.data }, { on := 14, ground := Ground.gcOnly Departure.lateStores }], guard := none }) (v := .bool false) rfl (by kernel_rfl) (by kernel_rfl) (by kernel_rfl) (fun _ _ _ h => h) (Or.inl ⟨by rfl, fun w hSw => by (try dsimp only at hSw); go_simp⟩) hHeld ?_
    simp only [Act.put, List.setIfInBounds_toArray, List.set_cons_zero, List.set_cons_succ]
    obtain ⟨R9, u9⟩ := set7 (c0 := .slice none 0 0) (c1 := .int .i64 6) (c2 := .int .i64 0) (c3 := .int .i64 0) (c4 := .slice oa g1.length oc) (c5 := .slice none 0 0) (c6 := .slice (some ⟨w4.heap.size, 0, none⟩) 2 2) (unhide K3)
    refine wpAnyH_ready (rs := [14]) (by kernel_rfl) (by simp) (AllReadyH.cons (o := { dst := none, op := Op.store 50 (Operand.tmp 8) (Operand.tmp 91), type := 0, pos := "l03_record.go:144", after := #[{ on := 0, ground := Ground.data }, { on := 12, ground := Ground.chain }, { on := 0, ground := Ground.phase }, { on := 1, ground := Ground.textOnly Departure.lateStores }, { on := 2, ground := Ground.textOnly Departure.lateStores }, { on := 3, ground := Ground.textOnly Departure.lateStores }, { on := 4, ground := Ground.textOnly Departure.lateStores }, { on := 5, ground := Ground.textOnly Departure.lateStores }, { on := 6, ground := Ground.textOnly Departure.lateStores }, { on := 7, ground := Ground.textOnly Departure.lateStores }, { on := 8, ground := Ground.textOnly Departure.lateStores }, { on := 9, ground := Ground.textOnly Departure.lateStores }, { on := 10, ground := Ground.textOnly Departure.lateStores }, { on := 11, ground := Ground.textOnly Departure.lateStores }, { on := 12, ground := Ground.textOnly Departure.lateStoresUnsure }, { on := 13, ground := Ground.textOnly Departure.lateStores }], guard := none }) rfl (fun K hK => ?_) AllReadyH.nil)
    rw [if_pos (by rfl)]
    refine wp_store7 50 (.tmp 8) (.tmp 91) rfl w.heap.size (.slice none 0 0) (.int .i64 6) (.int .i64 0) (.int .i64 0) (.slice oa g1.length oc) (.slice none 0 0) (.slice (some ⟨w4.heap.size, 0, none⟩) 2 2) rfl rfl (unhide K3) (by kernel_rfl) (by simp [Value.oneCell']) ?_
    refine hK.out _ _ (cells7 (u9.kept (unhide V3) (by omega))) (fun hHeld => ?_)
    clear hK K
    generalize (((((((w2.drew.setCell ⟨w.heap.size, 0, none⟩ (.slice none 0 0)).setCell ⟨w.heap.size, 1, none⟩ (.int .i64 6)).setCell ⟨w.heap.size, 2, none⟩ (.int .i64 0)).setCell ⟨w.heap.size, 3, none⟩ (.int .i64 0)).setCell ⟨w.heap.size, 4, none⟩ (.slice oa g1.length oc)).setCell ⟨w.heap.size, 5, none⟩ (.slice none 0 0)).setCell ⟨w.heap.size, 6, none⟩ (.slice (some ⟨w4.heap.size, 0, none⟩) 2 2)) = w9 at *
    simp only [Act.put]
    refine wpAnyH_take (i := 15) (oi := { dst := some 9, op := Op.assign (Operand.tmp 104), type := 4, pos := "l03_record.go:144", after := #[{ on := 13, ground := Ground.data }, { on := 14, ground := Ground.chain }, { on := 0, ground := Ground.phase }, { on := 1, ground := Ground.phase }, { on := 2, ground := Ground.phase }, { on := 3, ground := Ground.phase }, { on := 4, ground := Ground.phase }, { on := 5, ground := Ground.phase }, { on := 6, ground := Ground.phase }, { on := 7, ground := Ground.phase }, { on := 8, ground := Ground.phase }, { on := 9, ground := Ground.phase }, { on := 10, ground := Ground.phase }, { on := 11, ground := Ground.phase }, { on := 12, ground := Ground.phase }, { on := 13, ground := Ground.phase }, { on := 14, ground := Ground.phase }], guard := none }) (v := .bool false) rfl (by kernel_rfl) (by kernel_rfl) (by kernel_rfl) (fun _ _ _ h => h) (Or.inl ⟨by rfl, fun w hSw => by (try dsimp only at hSw); go_simp⟩) hHeld ?_
    simp only [Act.put, List.setIfInBounds_toArray, List.set_cons_zero, List.set_cons_succ]
    refine wpAnyH_done (by kernel_rfl) (NoPanic.normal ?_) _
    go_wp2_with fail
    refine bodyPost_ret (results_cell_tmp_row rfl _ _ w.heap.size 50 #[.slice none 0 0, .int .i64 6, .int .i64 0, .int .i64 0, .slice oa g1.length oc, .slice none 0 0, .slice (some ⟨w4.heap.size, 0, none⟩) 2 2] (0, 0) _ rfl R9 Try.underlying50 rfl (by kernel_rfl)) rfl ?_
    have z9 := u9.size
    exact ⟨⟨[], 6, 0, 0, g1, [], [x1, y1]⟩, ⟨_, _, _, _, rfl, ((unhide HR3).outside u9 (by omega)).wide (by omega) (by omega), u9.below bb3 (by omega)⟩, fun q => by cases q⟩
  · have hRes := unhide HRES
    rw [decide_eq_true ⟨hge, by omega⟩, Bool.true_and] at hRes
    subst hRes
    have hw : IntKind.i64.wrap (p + n) = y2 := by rw [IntWalk.i64_in _ (by omega)]; omega
    have HO := specRrOk_has (unhide HR3).hasR
    dsimp only at HO
    replace HO := hide HO
    clear HRES hne
    first | (go_region_held3 (fun w' => w'.cell? ⟨w.heap.size + 1, 0, none⟩ = some (.slice none 0 0) ∧ w'.cell? ⟨w.heap.size + 1, 1, none⟩ = some (.int .i64 6) ∧ w'.cell? ⟨w.heap.size + 1, 2, none⟩ = some (.int .i64 0) ∧ w'.cell? ⟨w.heap.size + 1, 3, none⟩ = some (.int .i64 0) ∧ w'.cell? ⟨w.heap.size + 1, 4, none⟩ = some (.slice oa g1.length oc) ∧ w'.cell? ⟨w.heap.size + 1, 5, none⟩ = some (.slice none 0 0) ∧ w'.cell? ⟨w.heap.size + 1, 6, none⟩ = some (.slice (some ⟨w4.heap.size, 0, none⟩) 2 2))
        (first | with_reducible exact cells7 (unhide V3) | with_reducible exact cells7 (unhide V6) | exact cells7 ((set7 (c0 := .slice none 0 0) (c1 := .int .i64 6) (c2 := .int .i64 0) (c3 := .int .i64 0) (c4 := .slice oa g1.length oc) (c5 := .slice none 0 0) (c6 := .slice (some ⟨w4.heap.size, 0, none⟩) 2 2) (unhide K6)).2.kept (unhide V6) (by omega)))
        (first
        | (go_at_call 31; refine (unhide HO).mono ?_; rintro e w6 ⟨rfl, b6⟩; have z6 := b6.size; have K6 := hide (block_kept b6 (unhide K3)); have V6 := hide (block_kept b6 (unhide V3)); obtain ⟨f0, f1, f2, f3, f4, f5, f6⟩ := cells7 (unhide K6); obtain ⟨q0, q1, q2, q3, q4, q5, q6⟩ := frozen7 (unhide K6)))) | fail
    all_goals
      (try go_wp2_with fail)
      obtain ⟨R9, u9⟩ := set7 (c0 := .slice none 0 0) (c1 := .int .i64 6) (c2 := .int .i64 0) (c3 := .int .i64 0) (c4 := .slice oa g1.length oc) (c5 := .slice none 0 0) (c6 := .slice (some ⟨w4.heap.size, 0, none⟩) 2 2) (unhide K6)
      refine bodyPost_ret (results_cell_tmp_row rfl _ _ w.heap.size 50 #[.slice none 0 0, .int .i64 6, .int .i64 0, .int .i64 0, .slice oa g1.length oc, .slice none 0 0, .slice (some ⟨w4.heap.size, 0, none⟩) 2 2] (0, 0) _ rfl R9 Try.underlying50 rfl (by kernel_rfl)) rfl ?_
      have z9 := u9.size
      exact ⟨⟨[], 6, 0, 0, g1, [], [x1, y1]⟩, ⟨_, _, _, _, rfl, (((unhide HR3).below b6).outside u9 (by omega)).wide (by omega) (by omega), u9.below (below_next bb3 b6) (by omega)⟩, fun q => rfl⟩
end Go.Proofs.Ytnloenkjfjlmeaa

namespace Go.Proofs.Ytnloenkjfjlmeaa
open Go.RowKit
set_option linter.unusedVariables false

set_option maxHeartbeats 2000000 in
set_option maxRecDepth 100000 in
theorem l3get_X {B : Nat} {v : Value} {l : List Int} {t : Int} (p n : Int) {w : World} (ht : t = 16 ∨ t = 49) (h : Own B 5 w v l) (hl : l.length ≤ 512) (hp : p ≤ 9223372036854775807) (hn0 : -70000 ≤ n) (hn1 : n ≤ 70000) (hb : Bytes8 l) :
    Calls Try.prog 85 #[.int .i64 t, v, .int .i64 p, .int .i64 n] w (GivesG w (kindGet t l p).1 (good t l p n)) := by
  have he := countedOf_end l p
  have hnm : named t = false := by rcases ht with rfl | rfl <;> rfl
  have hty : typeOk t = true := by rcases ht with rfl | rfl <;> rfl
  have t1 : (t == 1) = false := by rw [beq_eq_false_iff_ne]; omega
  have hkg : kindGet t l p = (⟨[], t, 0, 0, [], (countedOf l p).1, []⟩, (countedOf l p).2) := by unfold kindGet; rw [if_neg (by omega), if_neg (by omega), if_neg (by rw [hnm]; simp)]
  unfold good
  rw [hkg]
  obtain ⟨hsz, k0, r0⟩ := box2 w (.cells #[.slice none 0 0, .int .i64 0, .int .i64 0, .int .i64 0, .slice none 0 0, .slice none 0 0, .slice none 0 0] 50) #[.slice none 0 0, .int .i64 t, .int .i64 0, .int .i64 0, .slice none 0 0, .slice none 0 0, .slice none 0 0] 50
  have b0 := below2 w (.cells #[.slice none 0 0, .int .i64 0, .int .i64 0, .int .i64 0, .slice none 0 0, .slice none 0 0, .slice none 0 0] 50) (.cells #[.slice none 0 0, .int .i64 t, .int .i64 0, .int .i64 0, .slice none 0 0, .slice none 0 0, .slice none 0 0] 50)
  have HN := l3named_any t ((w.alloc (.cells #[.slice none 0 0, .int .i64 0, .int .i64 0, .int .i64 0, .slice none 0 0, .slice none 0 0, .slice none 0 0] 50)).alloc (.cells #[.slice none 0 0, .int .i64 t, .int .i64 0, .int .i64 0, .slice none 0 0, .slice none 0 0, .slice none 0 0] 50)) hty
  rw [hnm] at HN
  replace HN := hide HN
  have K0 := hide k0
  have V0 := hide r0
  dsimp only
  clear hkg hnm hty ht k0 r0
  by_cases hc : 0 ≤ p ∧ p + 1 ≤ l.length
  · obtain ⟨i, rfl⟩ := Int.eq_ofNat_of_zero_le hc.1
    have e1 : takeOf l i 1 = ([l.getD i 0], (i : Int) + 1) := by
      have := takeOf_yes (l := l) (i := i) (m := 1) (by omega)
      rw [show ((1 : Nat) : Int) = 1 from rfl] at this
      rw [this]
      congr 1
      have hi : i < l.length := by omega
      rw [List.drop_eq_getElem_cons hi, List.take_succ_cons, List.take_zero, List.getD_eq_getElem?_getD, List.getElem?_eq_getElem hi]
      rfl
    have hq : countedOf l i = takeOf l ((i : Int) + 1) (l.getD i 0) := countedOf_at (by omega)
    rw [hq] at he ⊢
    have hx := hb i
    have ht1 := specTake_any (i : Int) 1 (h.below b0) (by omega) hp
    rw [e1] at ht1
    generalize l.getD i 0 = x at *
    have T1 := hide ht1
    have H := hide (h.below b0)
    obtain ⟨a, cap, rfl, _⟩ := h.lies
    have T2 := hide (fun (w : World) (h : Own B 5 w (.slice a l.length cap) l) => specTake_any ((i : Int) + 1) x h (by omega) (by omega))
    clear ht1 hq e1 h hb
    generalize (takeOf l ((i : Int) + 1) x).1 = g1 at *
    generalize (takeOf l ((i : Int) + 1) x).2 = g2 at *
    generalize hRes : (decide (0 ≤ g2 ∧ g2 = (i : Int) + n) && rrOk ⟨[], t, 0, 0, [], g1, []⟩) = Res
    have HRES := hide hRes
    clear hRes
    obtain ⟨hc1, hc2⟩ := hc
    generalize hLN : l.length = L at *
    clear hLN
    generalize hpi : (i : Int) = p at *
    have hi1 : ¬ p + 1 < 0 := by omega
    clear hpi
    go_enter Try.func85, Try.ntmps85
    go_wp2_with fail
    generalize (w.alloc (.cells #[.slice none 0 0, .int .i64 0, .int .i64 0, .int .i64 0, .slice none 0 0, .slice none 0 0, .slice none 0 0] 50)).alloc (.cells #[.slice none 0 0, .int .i64 t, .int .i64 0, .int .i64 0, .slice none 0 0, .slice none 0 0, .slice none 0 0] 50) = W at *
    refine (unhide HN).mono ?_
    rintro e w0 ⟨rfl, rfl⟩
    go_wp2_with fail
    refine (unhide T1).mono ?_
    rintro e w1 ⟨v1, rfl, o1, b1⟩
    have K1 := hide (block_kept b1 (unhide K0))
    have V1 := hide (block_kept b1 (unhide V0))
    have H1 := hide ((unhide H).below b1)
    have bb1 := below_next b0 b1
    have z1 := b1.size
    rcases o1.form with ⟨_, hee⟩ | ⟨g, cap1, rfl, hg0, hg, hcap, _, hcx, _⟩
    · simp at hee
    have c0 : w1.cell? ⟨g, 0, none⟩ = some (.int .u8 x) := hcx 0 (by simp)
    clear hcx o1 T1 HN K0 V0 H b0 b1
    go_wp2_with fail
    refine (unhide T2 _ (unhide H1)).mono ?_
    rintro e w2a ⟨v2, rfl, o2, b2⟩
    obtain ⟨oa, oc, rfl, _⟩ := o2.lies
    have K2a := hide (block_kept b2 (unhide K1))
    have V2a := hide (block_kept b2 (unhide V1))
    have O2a := hide o2.here
    have bb2a := below_next bb1 b2
    have z2a := b2.size
    clear K1 V1 H1 bb1 b2 o2 T2 c0
    obtain ⟨f0, f1, f2, f3, f4, f5, f6⟩ := cells7 (unhide V2a)
    obtain ⟨q0, q1, q2, q3, q4, q5, q6⟩ := frozen7 (unhide V2a)
    go_wp2_with fail
    clear f0 f1 f2 f3 f4 f5 f6 q0 q1 q2 q3 q4 q5 q6
    have u2 := outside_set w2a (w.heap.size + 1) 5 (.slice oa g1.length oc)
    have V2 : (w2a.setCell ⟨w.heap.size + 1, 5, none⟩ (.slice oa g1.length oc)).heap[w.heap.size + 1]? = some (.cells #[.slice none 0 0, .int .i64 t, .int .i64 0, .int .i64 0, .slice none 0 0, .slice oa g1.length oc, .slice none 0 0] 50) := block_setAt (unhide V2a) 5 _
    have K2 := hide (u2.kept (unhide K2a) (by omega))
    have bb2 := u2.below bb2a (by omega)
    have z2 := u2.size
    replace V2 := hide V2
    have O2 := hide ((unhide O2a).outside u2 (by omega))
    generalize w2a.setCell ⟨w.heap.size + 1, 5, none⟩ (.slice oa g1.length oc) = w2 at *
    clear K2a V2a bb2a u2 O2a
    have HR := hide (show OwnR (w.heap.size + 2) w2.heap.size 22 5 3 w2 (.slice none 0 0) (.slice none 0 0) (.slice oa g1.length oc) (.slice none 0 0) ⟨[], t, 0, 0, [], g1, []⟩ from ⟨w.heap.size + 2, w.heap.size + 2, w2.heap.size, Nat.le_refl _, Nat.le_refl _, by omega, Nat.le_refl _, ownN_nil _ _ _ _ _, ownN_nil _ _ _ _ _, (unhide O2).wide (by omega) (by omega), ownBI_nil _ _ _ _⟩)
    clear O2
    -- the last region
    have bd := below_drew (w := w2)
    have K3 := hide (block_kept bd (unhide K2))
    have V3 := hide (block_kept bd (unhide V2))
    have HR3 := hide ((unhide HR).below bd)
    have bb3 := below_next bb2 bd
    have z3 := bd.size
    clear V2 HR bb2 bd
    by_cases hneg : g2 < 0
    · have hRes := unhide HRES
      rw [decide_eq_false (by omega), Bool.false_and] at hRes
      subst hRes
      obtain rfl : g2 = -1 := by omega
      clear he hneg
      refine wp_region_noPanic ?_
      refine wp_region_held_drew (S := (fun w' => w'.cell? ⟨w.heap.size + 1, 0, none⟩ = some (.slice none 0 0) ∧ w'.cell? ⟨w.heap.size + 1, 1, none⟩ = some (.int .i64 t) ∧ w'.cell? ⟨w.heap.size + 1, 2, none⟩ = some (.int .i64 0) ∧ w'.cell? ⟨w.heap.size + 1, 3, none⟩ = some (.int .i64 0) ∧ w'.cell? ⟨w.heap.size + 1, 4, none⟩ = some (.slice none 0 0) ∧ w'.cell? ⟨w.heap.size + 1, 5, none⟩ = some (.slice oa g1.length oc) ∧ w'.cell? ⟨w.heap.size + 1, 6, none⟩ = some (.slice none 0 0))) (by kernel_rfl) (cells7 (unhide V3)) (fun hHeld => ?_)
      refine wpAnyH_take (i := 0) (oi := { dst := some 91, op := Op.load 50 (Operand.tmp 10), type := 50, pos := "l03_record.go:144", after := #[], guard := none }) (v := .agg #[.slice none 0 0, .int .i64 t, .int .i64 0, .int .i64 0, .slice none 0 0, .slice oa g1.length oc, .slice none 0 0]) rfl (by kernel_rfl) (by kernel_rfl) (by kernel_rfl) (fun _ _ _ h => h) (Or.inl ⟨by rfl, fun w hSw => by (try dsimp only at hSw); go_simp⟩) hHeld ?_
      simp only [Act.put, List.setIfInBounds_toArray, List.set_cons_zero, List.set_cons_succ]
      refine wpAnyH_take (i := 1) (oi := { dst := some 92, op := Op.move (Operand.tmp 11), type := 3, pos := "l03_record.go:144", after := #[], guard := none }) (v := .int .i64 (-1)) rfl (by kernel_rfl) (by kernel_rfl) (by kernel_rfl) (fun _ _ _ h => h) (Or.inl ⟨by rfl, fun w hSw => by (try dsimp only at hSw); go_simp⟩) hHeld ?_
      simp only [Act.put, List.setIfInBounds_toArray, List.set_cons_zero, List.set_cons_succ]
      refine wpAnyH_take (i := 2) (oi := { dst := some 93, op := Op.binOp BinOp.geq 3 (Operand.tmp 92) (Operand.const (Value.int IntKind.i64 0)) 3, type := 4, pos := "l03_record.go:144", after := #[{ on := 1, ground := Ground.data }], guard := none }) (v := .bool false) rfl (by kernel_rfl) (by kernel_rfl) (by kernel_rfl) (fun _ _ _ h => h) (Or.inl ⟨by rfl, fun w hSw => by (try dsimp only at hSw); go_simp⟩) hHeld ?_
      simp only [Act.put, List.setIfInBounds_toArray, List.set_cons_zero, List.set_cons_succ]
      refine wpAnyH_take (i := 3) (oi := { dst := some 94, op := Op.move (Operand.tmp 93), type := 4, pos := "l03_record.go:144", after := #[{ on := 2, ground := Ground.data }], guard := none }) (v := .bool false) rfl (by kernel_rfl) (by kernel_rfl) (by kernel_rfl) (fun _ _ _ h => h) (Or.inl ⟨by rfl, fun w hSw => by (try dsimp only at hSw); go_simp⟩) hHeld ?_
      simp only [Act.put, List.setIfInBounds_toArray, List.set_cons_zero, List.set_cons_succ]
      refine wpAnyH_take (i := 4) (oi := { dst := some 95, op := Op.move (Operand.tmp 11), type := 3, pos := "l03_record.go:144", after := #[{ on := 3, ground := Ground.guard }], guard := some (3, true) }) (v := undef) rfl (by kernel_rfl) (by kernel_rfl) (by kernel_rfl) (fun _ _ _ h => h) (Or.inr ⟨by rfl, rfl⟩) hHeld ?_
      simp only [Act.put, List.setIfInBounds_toArray, List.set_cons_zero, List.set_cons_succ]
      refine wpAnyH_take (i := 5) (oi := { dst := some 96, op := Op.move (Operand.tmp 2), type := 3, pos := "l03_record.go:144", after := #[{ on := 3, ground := Ground.guard }], guard := some (3, true) }) (v := undef) rfl (by kernel_rfl) (by kernel_rfl) (by kernel_rfl) (fun _ _ _ h => h) (Or.inr ⟨by rfl, rfl⟩) hHeld ?_
      simp only [Act.put, List.setIfInBounds_toArray, List.set_cons_zero, List.set_cons_succ]
      refine wpAnyH_take (i := 6) (oi := { dst := some 97, op := Op.move (Operand.tmp 3), type := 3, pos := "l03_record.go:144", after := #[{ on := 3, ground := Ground.guard }], guard := some (3, true) }) (v := undef) rfl (by kernel_rfl) (by kernel_rfl) (by kernel_rfl) (fun _ _ _ h => h) (Or.inr ⟨by rfl, rfl⟩) hHeld ?_
      simp only [Act.put, List.setIfInBounds_toArray, List.set_cons_zero, List.set_cons_succ]
      refine wpAnyH_take (i := 7) (oi := { dst := some 98, op := Op.binOp BinOp.add 3 (Operand.tmp 96) (Operand.tmp 97) 3, type := 3, pos := "l03_record.go:144", after := #[{ on := 5, ground := Ground.data }, { on := 6, ground := Ground.data }, { on := 3, ground := Ground.guard }], guard := some (3, true) }) (v := undef) rfl (by kernel_rfl) (by kernel_rfl) (by kernel_rfl) (fun _ _ _ h => h) (Or.inr ⟨by rfl, rfl⟩) hHeld ?_
      simp only [Act.put, List.setIfInBounds_toArray, List.set_cons_zero, List.set_cons_succ]
      refine wpAnyH_take (i := 8) (oi := { dst := some 99, op := Op.binOp BinOp.eql 3 (Operand.tmp 95) (Operand.tmp 98) 3, type := 4, pos := "l03_record.go:144", after := #[{ on := 4, ground := Ground.data }, { on := 7, ground := Ground.data }, { on := 3, ground := Ground.guard }], guard := some (3, true) }) (v := undef) rfl (by kernel_rfl) (by kernel_rfl) (by kernel_rfl) (fun _ _ _ h => h) (Or.inr ⟨by rfl, rfl⟩) hHeld ?_
      simp only [Act.put, List.setIfInBounds_toArray, List.set_cons_zero, List.set_cons_succ]
      refine wpAnyH_take (i := 9) (oi := { dst := some 100, op := Op.pick (Operand.tmp 94) (Operand.tmp 99) (Operand.const (Value.bool false)), type := 4, pos := "l03_record.go:144", after := #[{ on := 3, ground := Ground.data }, { on := 8, ground := Ground.data }], guard := none }) (v := .bool false) rfl (by kernel_rfl) (by kernel_rfl) (by kernel_rfl) (fun _ _ _ h => h) (Or.inl ⟨by rfl, fun w hSw => by (try dsimp only at hSw); go_simp⟩) hHeld ?_
      simp only [Act.put, List.setIfInBounds_toArray, List.set_cons_zero, List.set_cons_succ]
      refine wpAnyH_take (i := 10) (oi := { dst := some 101, op := Op.move (Operand.tmp 100), type := 4, pos := "l03_record.go:144", after := #[{ on := 9, ground := Ground.data }, { on := 3, ground := Ground.chain }], guard := none }) (v := .bool false) rfl (by kernel_rfl) (by kernel_rfl) (by kernel_rfl) (fun _ _ _ h => h) (Or.inl ⟨by rfl, fun w hSw => by (try dsimp only at hSw); go_simp⟩) hHeld ?_
      simp only [Act.put, List.setIfInBounds_toArray, List.set_cons_zero, List.set_cons_succ]
      refine wpAnyH_take (i := 11) (oi := { dst := some 102, op := Op.load 50 (Operand.tmp 10), type := 50, pos := "l03_record.go:144", after := #[{ on := 10, ground := Ground.guard }], guard := some (10, true) }) (v := undef) rfl (by kernel_rfl) (by kernel_rfl) (by kernel_rfl) (fun _ _ _ h => h) (Or.inr ⟨by rfl, rfl⟩) hHeld ?_
      simp only [Act.put, List.setIfInBounds_toArray, List.set_cons_zero, List.set_cons_succ]
      refine wpAnyH_take (i := 12) (oi := { dst := some 103, op := Op.call { callee := Callee.value (Operand.func 31), args := #[Operand.tmp 102], argTypes := #[50] }, type := 4, pos := "l03_record.go:144", after := #[{ on := 11, ground := Ground.data }, { on := 10, ground := Ground.chain }, { on := 10, ground := Ground.guard }], guard := some (10, true) }) (v := undef) rfl (by kernel_rfl) (by kernel_rfl) (by kernel_rfl) (fun _ _ _ h => h) (Or.inr ⟨by rfl, rfl⟩) hHeld ?_
      simp only [Act.put, List.setIfInBounds_toArray, List.set_cons_zero, List.set_cons_succ]
      refine wpAnyH_take (i := 13) (oi := { dst := some 104, op := Op.pick (Operand.tmp 101) (Operand.tmp 103) (Operand.const (Value.bool false)), type := 4, pos := "l03_record.go:144", after := #[{ on := 10, ground := Ground.data }, { on := 12, ground := Ground.data }, { on := 14, ground := Ground.gcOnly Departure.lateStores }], guard := none }) (v := .bool false) rfl (by kernel_rfl) (by kernel_rfl) (by kernel_rfl) (fun _ _ _ h => h) (Or.inl ⟨by rfl, fun w hSw => by (try dsimp only at hSw); go_simp⟩) hHeld ?_
      simp only [Act.put, List.setIfInBounds_toArray, List.set_cons_zero, List.set_cons_succ]
      obtain ⟨R9, u9⟩ := set7 (c0 := .slice none 0 0) (c1 := .int .i64 t) (c2 := .int .i64 0) (c3 := .int .i64 0) (c4 := .slice none 0 0) (c5 := .slice oa g1.length oc) (c6 := .slice none 0 0) (unhide K3)
      refine wpAnyH_ready (rs := [14]) (by kernel_rfl) (by simp) (AllReadyH.cons (o := { dst := none, op := Op.store 50 (Operand.tmp 8) (Operand.tmp 91), type := 0, pos := "l03_record.go:144", after := #[{ on := 0, ground := Ground.data }, { on := 12, ground := Ground.chain }, { on := 0, ground := Ground.phase }, { on := 1, ground := Ground.textOnly Departure.lateStores }, { on := 2, ground := Ground.textOnly Departure.lateStores }, { on := 3, ground := Ground.textOnly Departure.lateStores }, { on := 4, ground := Ground.textOnly Departure.lateStores }, { on := 5, ground := Ground.textOnly Departure.lateStores }, { on := 6, ground := Ground.textOnly Departure.lateStores }, { on := 7, ground := Ground.textOnly Departure.lateStores }, { on := 8, ground := Ground.textOnly Departure.lateStores }, { on := 9, ground := Ground.textOnly Departure.lateStores }, { on := 10, ground := Ground.textOnly Departure.lateStores }, { on := 11, ground := Ground.textOnly Departure.lateStores }, { on := 12, ground := Ground.textOnly Departure.lateStoresUnsure }, { on := 13, ground := Ground.textOnly Departure.lateStores }], guard := none }) rfl (fun K hK => ?_) AllReadyH.nil)
      rw [if_pos (by rfl)]
      refine wp_store7 50 (.tmp 8) (.tmp 91) rfl w.heap.size (.slice none 0 0) (.int .i64 t) (.int .i64 0) (.int .i64 0) (.slice none 0 0) (.slice oa g1.length oc) (.slice none 0 0) rfl rfl (unhide K3) (by kernel_rfl) (by simp [Value.oneCell']) ?_
      refine hK.out _ _ (cells7 (u9.kept (unhide V3) (by omega))) (fun hHeld => ?_)
      clear hK K
      generalize (((((((w2.drew.setCell ⟨w.heap.size, 0, none⟩ (.slice none 0 0)).setCell ⟨w.heap.size, 1, none⟩ (.int .i64 t)).setCell ⟨w.heap.size, 2, none⟩ (.int .i64 0)).setCell ⟨w.heap.size, 3, none⟩ (.int .i64 0)).setCell ⟨w.heap.size, 4, none⟩ (.slice none 0 0)).setCell ⟨w.heap.size, 5, none⟩ (.slice oa g1.length oc)).setCell ⟨w.heap.size, 6, none⟩ (.slice none 0 0)) = w9 at *
      simp only [Act.put]
      refine wpAnyH_take (i := 15) (oi := { dst := some 9, op := Op.assign (Operand.tmp 104), type := 4, pos := "l03_record.go:144", after := #[{ on := 13, ground := Ground.data }, { on := 14, ground := Ground.chain }, { on := 0, ground := Ground.phase }, { on := 1, ground := Ground.phase }, { on := 2, ground := Ground.phase }, { on := 3, ground := Ground.phase }, { on := 4, ground := Ground.phase }, { on := 5, ground := Ground.phase }, { on := 6, ground := Ground.phase }, { on := 7, ground := Ground.phase }, { on := 8, ground := Ground.phase }, { on := 9, ground := Ground.phase }, { on := 10, ground := Ground.phase }, { on := 11, ground := Ground.phase }, { on := 12, ground := Ground.phase }, { on := 13, ground := Ground.phase }, { on := 14, ground := Ground.phase }], guard := none }) (v := .bool false) rfl (by kernel_rfl) (by kernel_rfl) (by kernel_rfl) (fun _ _ _ h => h) (Or.inl ⟨by rfl, fun w hSw => by (try dsimp only at hSw); go_simp⟩) hHeld ?_
      simp only [Act.put, List.setIfInBounds_toArray, List.set_cons_zero, List.set_cons_succ]
      refine wpAnyH_done (by kernel_rfl) (NoPanic.normal ?_) _
      go_wp2_with fail
      refine bodyPost_ret (results_cell_tmp_row rfl _ _ w.heap.size 50 #[.slice none 0 0, .int .i64 t, .int .i64 0, .int .i64 0, .slice none 0 0, .slice oa g1.length oc, .slice none 0 0] (0, 0) _ rfl R9 Try.underlying50 rfl (by kernel_rfl)) rfl ?_
      have z9 := u9.size
      exact ⟨⟨[], t, 0, 0, [], g1, []⟩, ⟨_, _, _, _, rfl, ((unhide HR3).outside u9 (by omega)).wide (by omega) (by omega), u9.below bb3 (by omega)⟩, fun q => by cases q⟩
    have hge : 0 ≤ g2 := by omega
    have hp0 : 0 ≤ p := by omega
    by_cases hne : g2 ≠ p + n
    · have hRes := unhide HRES
      rw [decide_eq_false (by omega), Bool.false_and] at hRes
      subst hRes
      obtain ⟨sm, hsm⟩ : ∃ s, s = p + n := ⟨_, rfl⟩
      have hne' : (g2 == sm) = false := by rw [beq_eq_false_iff_ne, hsm]; exact hne
      have hw : IntKind.i64.wrap (p + n) = sm := by rw [IntWalk.i64_in _ (by omega), hsm]
      clear hsm hne he hneg
      refine wp_region_noPanic ?_
      refine wp_region_held_drew (S := (fun w' => w'.cell? ⟨w.heap.size + 1, 0, none⟩ = some (.slice none 0 0) ∧ w'.cell? ⟨w.heap.size + 1, 1, none⟩ = some (.int .i64 t) ∧ w'.cell? ⟨w.heap.size + 1, 2, none⟩ = some (.int .i64 0) ∧ w'.cell? ⟨w.heap.size + 1, 3, none⟩ = some (.int .i64 0) ∧ w'.cell? ⟨w.heap.size + 1, 4, none⟩ = some (.slice none 0 0) ∧ w'.cell? ⟨w.heap.size + 1, 5, none⟩ = some (.slice oa g1.length oc) ∧ w'.cell? ⟨w.heap.size + 1, 6, none⟩ = some (.slice none 0 0))) (by kernel_rfl) (cells7 (unhide V3)) (fun hHeld => ?_)
      refine wpAnyH_take (i := 0) (oi := { dst := some 91, op := Op.load 50 (Operand.tmp 10), type := 50, pos := "l03_record.go:144", after := #[], guard := none }) (v := .agg #[.slice none 0 0, .int .i64 t, .int .i64 0, .int .i64 0, .slice none 0 0, .slice oa g1.length oc, .slice none 0 0]) rfl (by kernel_rfl) (by kernel_rfl) (by kernel_rfl) (fun _ _ _ h => h) (Or.inl ⟨by rfl, fun w hSw => by (try dsimp only at hSw); go_simp⟩) hHeld ?_
      simp only [Act.put, List.setIfInBounds_toArray, List.set_cons_zero, List.set_cons_succ]
      refine wpAnyH_take (i := 1) (oi := { dst := some 92, op := Op.move (Operand.tmp 11), type := 3, pos := "l03_record.go:144", after := #[], guard := none }) (v := .int .i64 g2) rfl (by kernel_rfl) (by kernel_rfl) (by kernel_rfl) (fun _ _ _ h => h) (Or.inl ⟨by rfl, fun w hSw => by (try dsimp only at hSw); go_simp⟩) hHeld ?_
      simp only [Act.put, List.setIfInBounds_toArray, List.set_cons_zero, List.set_cons_succ]
      refine wpAnyH_take (i := 2) (oi := { dst := some 93, op := Op.binOp BinOp.geq 3 (Operand.tmp 92) (Operand.const (Value.int IntKind.i64 0)) 3, type := 4, pos := "l03_record.go:144", after := #[{ on := 1, ground := Ground.data }], guard := none }) (v := .bool true) rfl (by kernel_rfl) (by kernel_rfl) (by kernel_rfl) (fun _ _ _ h => h) (Or.inl ⟨by rfl, fun w hSw => by (try dsimp only at hSw); go_simp⟩) hHeld ?_
      simp only [Act.put, List.setIfInBounds_toArray, List.set_cons_zero, List.set_cons_succ]
      refine wpAnyH_take (i := 3) (oi := { dst := some 94, op := Op.move (Operand.tmp 93), type := 4, pos := "l03_record.go:144", after := #[{ on := 2, ground := Ground.data }], guard := none }) (v := .bool true) rfl (by kernel_rfl) (by kernel_rfl) (by kernel_rfl) (fun _ _ _ h => h) (Or.inl ⟨by rfl, fun w hSw => by (try dsimp only at hSw); go_simp⟩) hHeld ?_
      simp only [Act.put, List.setIfInBounds_toArray, List.set_cons_zero, List.set_cons_succ]
      refine wpAnyH_take (i := 4) (oi := { dst := some 95, op := Op.move (Operand.tmp 11), type := 3, pos := "l03_record.go:144", after := #[{ on := 3, ground := Ground.guard }], guard := some (3, true) }) (v := .int .i64 g2) rfl (by kernel_rfl) (by kernel_rfl) (by kernel_rfl) (fun _ _ _ h => h) (Or.inl ⟨by rfl, fun w hSw => by (try dsimp only at hSw); go_simp⟩) hHeld ?_
      simp only [Act.put, List.setIfInBounds_toArray, List.set_cons_zero, List.set_cons_succ]
      refine wpAnyH_take (i := 5) (oi := { dst := some 96, op := Op.move (Operand.tmp 2), type := 3, pos := "l03_record.go:144", after := #[{ on := 3, ground := Ground.guard }], guard := some (3, true) }) (v := .int .i64 p) rfl (by kernel_rfl) (by kernel_rfl) (by kernel_rfl) (fun _ _ _ h => h) (Or.inl ⟨by rfl, fun w hSw => by (try dsimp only at hSw); go_simp⟩) hHeld ?_
      simp only [Act.put, List.setIfInBounds_toArray, List.set_cons_zero, List.set_cons_succ]
      refine wpAnyH_take (i := 6) (oi := { dst := some 97, op := Op.move (Operand.tmp 3), type := 3, pos := "l03_record.go:144", after := #[{ on := 3, ground := Ground.guard }], guard := some (3, true) }) (v := .int .i64 n) rfl (by kernel_rfl) (by kernel_rfl) (by kernel_rfl) (fun _ _ _ h => h) (Or.inl ⟨by rfl, fun w hSw => by (try dsimp only at hSw); go_simp⟩) hHeld ?_
      simp only [Act.put, List.setIfInBounds_toArray, List.set_cons_zero, List.set_cons_succ]
      refine wpAnyH_take (i := 7) (oi := { dst := some 98, op := Op.binOp BinOp.add 3 (Operand.tmp 96) (Operand.tmp 97) 3, type := 3, pos := "l03_record.go:144", after := #[{ on := 5, ground := Ground.data }, { on := 6, ground := Ground.data }, { on := 3, ground := Ground.guard }], guard := some (3, true) }) (v := .int .i64 sm) rfl (by kernel_rfl) (by kernel_rfl) (by kernel_rfl) (fun _ _ _ h => h) (Or.inl ⟨by rfl, fun w hSw => by (try dsimp only at hSw); go_simp⟩) hHeld ?_
      simp only [Act.put, List.setIfInBounds_toArray, List.set_cons_zero, List.set_cons_succ]
      refine wpAnyH_take (i := 8) (oi := { dst := some 99, op := Op.binOp BinOp.eql 3 (Operand.tmp 95) (Operand.tmp 98) 3, type := 4, pos := "l03_record.go:144", after := #[{ on := 4, ground := Ground.data }, { on := 7, ground := Ground.data }, { on := 3, ground := Ground.guard }], guard := some (3, true) }) (v := .bool false) rfl (by kernel_rfl) (by kernel_rfl) (by kernel_rfl) (fun _ _ _ h => h) (Or.inl ⟨by rfl, fun w hSw => by (try dsimp only at hSw); go_simp⟩) hHeld ?_
      simp only [Act.put, List.setIfInBounds_toArray, List.set_cons_zero, List.set_cons_succ]
      refine wpAnyH_take (i := 9) (oi := { dst := some 100, op := Op.pick (Operand.tmp 94) (Operand.tmp 99) (Operand.const (Value.bool false)), type := 4, pos := "l03_record.go:144", after := #[{ on := 3, ground := Ground.data }, { on := 8, ground := Ground.data }], guard := none }) (v := .bool false) rfl (by kernel_rfl) (by kernel_rfl) (by kernel_rfl) (fun _ _ _ h => h) (Or.inl ⟨by rfl, fun w hSw => by (try dsimp only at hSw); go_simp⟩) hHeld ?_
      simp only [Act.put, List.setIfInBounds_toArray, List.set_cons_zero, List.set_cons_succ]
      refine wpAnyH_take (i := 10) (oi := { dst := some 101, op := Op.move (Operand.tmp 100), type := 4, pos := "l03_record.go:144", after := #[{ on := 9, ground := Ground.data }, { on := 3, ground := Ground.chain }], guard := none }) (v := .bool false) rfl (by kernel_rfl) (by kernel_rfl) (by kernel_rfl) (fun _ _ _ h => h) (Or.inl ⟨by rfl, fun w hSw => by (try dsimp only at hSw); go_simp⟩) hHeld ?_
      simp only [Act.put, List.setIfInBounds_toArray, List.set_cons_zero, List.set_cons_succ]
      refine wpAnyH_take (i := 11) (oi := { dst := some 102, op := Op.load 50 (Operand.tmp 10), type := 50, pos := "l03_record.go:144", after := #[{ on := 10, ground := Ground.guard }], guard := some (10, true) }) (v := undef) rfl (by kernel_rfl) (by kernel_rfl) (by kernel_rfl) (fun _ _ _ h => h) (Or.inr ⟨by rfl, rfl⟩) hHeld ?_
      simp only [Act.put, List.setIfInBounds_toArray, List.set_cons_zero, List.set_cons_succ]
      refine wpAnyH_take (i := 12) (oi := { dst := some 103, op := Op.call { callee := Callee.value (Operand.func 31), args := #[Operand.tmp 102], argTypes := #[50] }, type := 4, pos := "l03_record.go:144", after := #[{ on := 11, ground := Ground.data }, { on := 10, ground := Ground.chain }, { on := 10, ground := Ground.guard }], guard := some (10, true) }) (v := undef) rfl (by kernel_rfl) (by kernel_rfl) (by kernel_rfl) (fun _ _ _ h => h) (Or.inr ⟨by rfl, rfl⟩) hHeld ?_
      simp only [Act.put, List.setIfInBounds_toArray, List.set_cons_zero, List.set_cons_succ]
      refine wpAnyH_take (i := 13) (oi := { dst := some 104, op := Op.pick (Operand.tmp 101) (Operand.tmp 103) (Operand.const (Value.bool false)), type := 4, pos := "l03_record.go:144", after := #[{ on := 10, ground := Ground.data }, { on := 12, ground := Ground.data }, { on := 14, ground := Ground.gcOnly Departure.lateStores }], guard := none }) (v := .bool false) rfl (by kernel_rfl) (by kernel_rfl) (by kernel_rfl) (fun _ _ _ h => h) (Or.inl ⟨by rfl, fun w hSw => by (try dsimp only at hSw); go_simp⟩) hHeld ?_
      simp only [Act.put, List.setIfInBounds_toArray, List.set_cons_zero, List.set_cons_succ]
      obtain ⟨R9, u9⟩ := set7 (c0 := .slice none 0 0) (c1 := .int .i64 t) (c2 := .int .i64 0) (c3 := .int .i64 0) (c4 := .slice none 0 0) (c5 := .slice oa g1.length oc) (c6 := .slice none 0 0) (unhide K3)
      refine wpAnyH_ready (rs := [14]) (by kernel_rfl) (by simp) (AllReadyH.cons (o := { dst := none, op := Op.store 50 (Operand.tmp 8) (Operand.tmp 91), type := 0, pos := "l03_record.go:144", after := #[{ on := 0, ground := Ground.data }, { on := 12, ground := Ground.chain }, { on := 0, ground := Ground.phase }, { on := 1, ground := Ground.textOnly Departure.lateStores }, { on := 2, ground := Ground.textOnly Departure.lateStores }, { on := 3, ground := Ground.textOnly Departure.lateStores }, { on := 4, ground := Ground.textOnly Departure.lateStores }, { on := 5, ground := Ground.textOnly Departure.lateStores }, { on := 6, ground := Ground.textOnly Departure.lateStores }, { on := 7, ground := Ground.textOnly Departure.lateStores }, { on := 8, ground := Ground.textOnly Departure.lateStores }, { on := 9, ground := Ground.textOnly Departure.lateStores }, { on := 10, ground := Ground.textOnly Departure.lateStores }, { on := 11, ground := Ground.textOnly Departure.lateStores }, { on := 12, ground := Ground.textOnly Departure.lateStoresUnsure }, { on := 13, ground := Ground.textOnly Departure.lateStores }], guard := none }) rfl (fun K hK => ?_) AllReadyH.nil)
      rw [if_pos (by rfl)]
      refine wp_store7 50 (.tmp 8) (.tmp 91) rfl w.heap.size (.slice none 0 0) (.int .i64 t) (.int .i64 0) (.int .i64 0) (.slice none 0 0) (.slice oa g1.length oc) (.slice none 0 0) rfl rfl (unhide K3) (by kernel_rfl) (by simp [Value.oneCell']) ?_
      refine hK.out _ _ (cells7 (u9.kept (unhide V3) (by omega))) (fun hHeld => ?_)
      clear hK K
      generalize (((((((w2.drew.setCell ⟨w.heap.size, 0, none⟩ (.slice none 0 0)).setCell ⟨w.heap.size, 1, none⟩ (.int .i64 t)).setCell ⟨w.heap.size, 2, none⟩ (.int .i64 0)).setCell ⟨w.heap.size, 3, none⟩ (.int .i64 0)).setCell ⟨w.heap.size, 4, none⟩ (.slice none 0 0)).setCell ⟨w.heap.size, 5, none⟩ (.slice oa g1.length oc)).setCell ⟨w.heap.size, 6, none⟩ (.slice none 0 0)) = w9 at *
      simp only [Act.put]
      refine wpAnyH_take (i := 15) (oi := { dst := some 9, op := Op.assign (Operand.tmp 104), type := 4, pos := "l03_record.go:144", after := #[{ on := 13, ground := Ground.data }, { on := 14, ground := Ground.chain }, { on := 0, ground := Ground.phase }, { on := 1, ground := Ground.phase }, { on := 2, ground := Ground.phase }, { on := 3, ground := Ground.phase }, { on := 4, ground := Ground.phase }, { on := 5, ground := Ground.phase }, { on := 6, ground := Ground.phase }, { on := 7, ground := Ground.phase }, { on := 8, ground := Ground.phase }, { on := 9, ground := Ground.phase }, { on := 10, ground := Ground.phase }, { on := 11, ground := Ground.phase }, { on := 12, ground := Ground.phase }, { on := 13, ground := Ground.phase }, { on := 14, ground := Ground.phase }], guard := none }) (v := .bool false) rfl (by kernel_rfl) (by kernel_rfl) (by kernel_rfl) (fun _ _ _ h => h) (Or.inl ⟨by rfl, fun w hSw => by (try dsimp only at hSw); go_simp⟩) hHeld ?_
      simp only [Act.put, List.setIfInBounds_toArray, List.set_cons_zero, List.set_cons_succ]
      refine wpAnyH_done (by kernel_rfl) (NoPanic.normal ?_) _
      go_wp2_with fail
      refine bodyPost_ret (results_cell_tmp_row rfl _ _ w.heap.size 50 #[.slice none 0 0, .int .i64 t, .int .i64 0, .int .i64 0, .slice none 0 0, .slice oa g1.length oc, .slice none 0 0] (0, 0) _ rfl R9 Try.underlying50 rfl (by kernel_rfl)) rfl ?_
      have z9 := u9.size
      exact ⟨⟨[], t, 0, 0, [], g1, []⟩, ⟨_, _, _, _, rfl, ((unhide HR3).outside u9 (by omega)).wide (by omega) (by omega), u9.below bb3 (by omega)⟩, fun q => by cases q⟩
    · have hRes := unhide HRES
      rw [decide_eq_true ⟨hge, by omega⟩, Bool.true_and] at hRes
      subst hRes
      have hw : IntKind.i64.wrap (p + n) = g2 := by rw [IntWalk.i64_in _ (by omega)]; omega
      have HO := specRrOk_has (unhide HR3).hasR
      dsimp only at HO
      replace HO := hide HO
      clear HRES he hneg hne
      first | (go_region_held3 (fun w' => w'.cell? ⟨w.heap.size + 1, 0, none⟩ = some (.slice none 0 0) ∧ w'.cell? ⟨w.heap.size + 1, 1, none⟩ = some (.int .i64 t) ∧ w'.cell? ⟨w.heap.size + 1, 2, none⟩ = some (.int .i64 0) ∧ w'.cell? ⟨w.heap.size + 1, 3, none⟩ = some (.int .i64 0) ∧ w'.cell? ⟨w.heap.size + 1, 4, none⟩ = some (.slice none 0 0) ∧ w'.cell? ⟨w.heap.size + 1, 5, none⟩ = some (.slice oa g1.length oc) ∧ w'.cell? ⟨w.heap.size + 1, 6, none⟩ = some (.slice none 0 0))
          (first | with_reducible exact cells7 (unhide V3) | with_reducible exact cells7 (unhide V6) | exact cells7 ((set7 (c0 := .slice none 0 0) (c1 := .int .i64 t) (c2 := .int .i64 0) (c3 := .int .i64 0) (c4 := .slice none 0 0) (c5 := .slice oa g1.length oc) (c6 := .slice none 0 0) (unhide K6)).2.kept (unhide V6) (by omega)))
          (first
          | (go_at_call 31; refine (unhide HO).mono ?_; rintro e w6 ⟨rfl, b6⟩; have z6 := b6.size; have K6 := hide (block_kept b6 (unhide K3)); have V6 := hide (block_kept b6 (unhide V3)); obtain ⟨f0, f1, f2, f3, f4, f5, f6⟩ := cells7 (unhide K6); obtain ⟨q0, q1, q2, q3, q4, q5, q6⟩ := frozen7 (unhide K6)))) | fail
      all_goals
        (try go_wp2_with fail)
        obtain ⟨R9, u9⟩ := set7 (c0 := .slice none 0 0) (c1 := .int .i64 t) (c2 := .int .i64 0) (c3 := .int .i64 0) (c4 := .slice none 0 0) (c5 := .slice oa g1.length oc) (c6 := .slice none 0 0) (unhide K6)
        refine bodyPost_ret (results_cell_tmp_row rfl _ _ w.heap.size 50 #[.slice none 0 0, .int .i64 t, .int .i64 0, .int .i64 0, .slice none 0 0, .slice oa g1.length oc, .slice none 0 0] (0, 0) _ rfl R9 Try.underlying50 rfl (by kernel_rfl)) rfl ?_
        have z9 := u9.size
        exact ⟨⟨[], t, 0, 0, [], g1, []⟩, ⟨_, _, _, _, rfl, (((unhide HR3).below b6).outside u9 (by omega)).wide (by omega) (by omega), u9.below (below_next bb3 b6) (by omega)⟩, fun q => rfl⟩
  · have e1 : takeOf l p 1 = ([], -1) := takeOf_no (by omega)
    have hq : countedOf l p = ([], -1) := countedOf_out (by omega)
    rw [hq]
    have hRes : (decide (0 ≤ (-1 : Int) ∧ (-1 : Int) = p + n) && rrOk ⟨[], t, 0, 0, [], [], []⟩) = false := by rw [decide_eq_false (by omega), Bool.false_and]
    dsimp only
    rw [hRes]
    have ht1 := specTake_any p 1 (h.below b0) (by omega) hp
    rw [e1] at ht1
    have T1 := hide ht1
    obtain ⟨a, cap, rfl, _⟩ := h.lies
    clear ht1 hq e1 h hb hRes he
    generalize hLN : l.length = L at *
    clear hLN
    go_enter Try.func85, Try.ntmps85
    go_wp2_with fail
    generalize (w.alloc (.cells #[.slice none 0 0, .int .i64 0, .int .i64 0, .int .i64 0, .slice none 0 0, .slice none 0 0, .slice none 0 0] 50)).alloc (.cells #[.slice none 0 0, .int .i64 t, .int .i64 0, .int .i64 0, .slice none 0 0, .slice none 0 0, .slice none 0 0] 50) = W at *
    refine (unhide HN).mono ?_
    rintro e w0 ⟨rfl, rfl⟩
    go_wp2_with fail
    refine (unhide T1).mono ?_
    rintro e w1 ⟨v1, rfl, o1, b1⟩
    have K1 := hide (block_kept b1 (unhide K0))
    have bb1 := below_next b0 b1
    have z1 := b1.size
    obtain ⟨ea, ec, rfl, _⟩ := o1.lies
    clear HN K0 V0 b0 b1 o1
    obtain ⟨f0, f1, f2, f3, f4, f5, f6⟩ := cells7 (unhide K1)
    obtain ⟨q0, q1, q2, q3, q4, q5, q6⟩ := frozen7 (unhide K1)
    go_wp2_with fail
    obtain ⟨R9, u9⟩ := set7 (c0 := .slice none 0 0) (c1 := .int .i64 0) (c2 := .int .i64 0) (c3 := .int .i64 0) (c4 := .slice none 0 0) (c5 := .slice none 0 0) (c6 := .slice none 0 0) (unhide K1)
    refine bodyPost_ret (results_cell_tmp_row rfl _ _ w.heap.size 50 #[.slice none 0 0, .int .i64 0, .int .i64 0, .int .i64 0, .slice none 0 0, .slice none 0 0, .slice none 0 0] (0, 0) _ rfl R9 Try.underlying50 rfl (by kernel_rfl)) rfl ?_
    have z9 := u9.size
    exact ⟨emptyR 0, ⟨_, _, _, _, rfl, ownR_nil (by omega) _ _ _ _ 0, u9.below bb1 (by omega)⟩, fun q => by cases q⟩
end Go.Proofs.Ytnloenkjfjlmeaa
