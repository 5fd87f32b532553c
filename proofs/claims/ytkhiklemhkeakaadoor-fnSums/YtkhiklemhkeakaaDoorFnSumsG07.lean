/-
  Contracts of the specification's l7round and l7first. Contract of the specification's l7turn.
-/
import Derived.Test.YtkhiklemhkeakaaDoorFnSumsG02
import Derived.Test.YtkhiklemhkeakaaDoorFnSumsG06
import Derived.Test.YtkhiklemhkeakaaDoorFnSumsG01
import Derived.Test.YtkhiklemhkeakaaDoorFnSumsG00
namespace Go.Proofs.YtkhiklemhkeakaaDoor
open Go.RowKit
set_option linter.unusedVariables false

theorem cellsU_one (ws : List (BitVec 32)) : (cellsU ws).all (·.oneCell') = true := by
  refine all_oneCell_toArray (fun v hv => ?_)
  obtain ⟨x, _, rfl⟩ := List.mem_map.1 hv
  rfl
theorem cellsU_size (ws : List (BitVec 32)) : (cellsU ws).size = ws.length := by simp [cellsU]
theorem size110 : (Tryd.prog.info? 54).map (·.size) = some 64 := by kernel_rfl
theorem len64 : (cellsU kW).size = (cellsU (List.replicate 64 0)).size := by rw [cellsU_size, cellsU_size, kW_length, List.length_replicate]
theorem sz64 : (Tryd.prog.info? 54).map (·.size) = some (cellsU kW).size := by rw [cellsU_size]; exact size110
theorem size79 : (Tryd.prog.info? 34).map (·.size) = some 8 := by kernel_rfl

/-- Eight cells, one by one. -/
theorem arr8 {w : World} {b : Nat} {s : S8} {t : TypeId} (h : w.heap[b]? = some (.cells (cellsU (l8 s)) t)) :
    w.cell? ⟨b, 0, none⟩ = some (.int .u32 (wv s.a)) ∧ w.cell? ⟨b, 1, none⟩ = some (.int .u32 (wv s.b)) ∧ w.cell? ⟨b, 2, none⟩ = some (.int .u32 (wv s.c)) ∧ w.cell? ⟨b, 3, none⟩ = some (.int .u32 (wv s.d)) ∧ w.cell? ⟨b, 4, none⟩ = some (.int .u32 (wv s.e)) ∧ w.cell? ⟨b, 5, none⟩ = some (.int .u32 (wv s.f)) ∧ w.cell? ⟨b, 6, none⟩ = some (.int .u32 (wv s.g)) ∧ w.cell? ⟨b, 7, none⟩ = some (.int .u32 (wv s.h)) :=
  ⟨block_cell h 0, block_cell h 1, block_cell h 2, block_cell h 3, block_cell h 4, block_cell h 5, block_cell h 6, block_cell h 7⟩
theorem frozen8 {w : World} {b : Nat} {c : Array Value} {t : TypeId} (h : w.heap[b]? = some (.cells c t)) :
    w.frozen? ⟨b, 0, none⟩ = false ∧ w.frozen? ⟨b, 1, none⟩ = false ∧ w.frozen? ⟨b, 2, none⟩ = false ∧ w.frozen? ⟨b, 3, none⟩ = false ∧ w.frozen? ⟨b, 4, none⟩ = false ∧ w.frozen? ⟨b, 5, none⟩ = false ∧ w.frozen? ⟨b, 6, none⟩ = false ∧ w.frozen? ⟨b, 7, none⟩ = false :=
  ⟨block_frozen h 0, block_frozen h 1, block_frozen h 2, block_frozen h 3, block_frozen h 4, block_frozen h 5, block_frozen h 6, block_frozen h 7⟩
theorem sz8 (s : S8) : (Tryd.prog.info? 34).map (·.size) = some (cellsU (l8 s)).size := by rw [cellsU_size]; exact size79
theorem len8 (s s' : S8) : (cellsU (l8 s)).size = (cellsU (l8 s')).size := by rw [cellsU_size, cellsU_size]; rfl

set_option maxHeartbeats 600000 in
set_option maxRecDepth 100000 in
theorem l7first_is (w : World) : Calls Tryd.prog 33 #[] w fun e w' => e = .returned (.agg (cellsU (l8 iv8))) ∧ Below w.heap.size w w' := by
  go_enter Tryd.func33, Tryd.ntmps33
  go_wp2_with fail
  have k1 := heap_alloc_new w (.cells (cellsU (l8 iv8)) 34)
  refine bodyPost_ret (results_cell_row rfl _ _ w.heap.size 34 (cellsU (l8 iv8)) (0, 0) _ rfl k1 Tryd.underlying34 rfl (by kernel_rfl)) rfl ?_
  exact ⟨rfl, below_alloc _⟩

set_option maxHeartbeats 600000 in
set_option maxRecDepth 100000 in
theorem l7round_is {i : Nat} (hi : i < 64) (w : World) :
    Calls Tryd.prog 44 #[.int .i64 (i : Int)] w fun e w' => e = .returned (.int .u32 (wv (kW.getD i 0))) ∧ Below w.heap.size w w' := by
  have b0 := below_alloc (w := w) (.cells (cellsU (List.replicate 64 0)) 54)
  have k0 := heap_alloc_new w (.cells (cellsU (List.replicate 64 0)) 54)
  have ht := block_there k0 (n := (cellsU kW).size) len64
  have k1 := block_whole k0 (cs := cellsU kW) len64.symm
  have u1 := outside_sets w.heap.size (cellsU kW).toList 0 (w.alloc (.cells (cellsU (List.replicate 64 0)) 54))
  have b1 := u1.below b0 (Nat.le_refl _)
  have hc := arr_cell k1 (i := i) (by rw [kW_length]; exact hi)
  have HT := hide ht
  clear b0 k0 k1 u1 ht
  go_enter Tryd.func44, Tryd.ntmps44
  go_wp2_with (first
    | (refine list_build (v := .agg (cellsU kW)) (w' := w) rfl rfl (by kernel_rfl) ?_)
    | (refine list_alloc (v := .pointer (some ⟨w.heap.size, 0, none⟩)) (w' := w.alloc (.cells (cellsU (List.replicate 64 0)) 54)) rfl rfl (by kernel_rfl) ?_)
    | (refine wpList_store_mid rfl 54 (.tmp 3) (.tmp 4) rfl w.heap.size 0 (cellsU kW) rfl rfl (unhide HT) sz64 (cellsU_one _) ?_; generalize (w.alloc (.cells (cellsU (List.replicate 64 0)) 54)).setCells w.heap.size 0 (cellsU kW).toList = W at *))
  go_ret
  exact ⟨rfl, b1⟩
end Go.Proofs.YtkhiklemhkeakaaDoor

namespace Go.Proofs.YtkhiklemhkeakaaDoor
open Go.RowKit
set_option linter.unusedVariables false

set_option maxHeartbeats 600000 in
set_option maxRecDepth 100000 in
theorem l7turn_is (x : BitVec 32) (n : Nat) (hn : n < 32) (w : World) :
    Calls Tryd.prog 43 #[.int .u32 (wv x), .int .i64 (n : Int)] w fun e w' => e = .returned (.int .u32 (wv (turnR x n))) ∧ ∃ m, w' = w.drewN m := by
  have hw : IntKind.i64.wrap (32 - (n : Int)) = ((32 - n : Nat) : Int) := by have := wrap_small (32 - n) (by omega); rw [show (32 : Int) - n = ((32 - n : Nat) : Int) by omega]; exact this
  have h1 := wd_div x n
  have h2 := wd_shl x (32 - n)
  have h3 := wd_or (x >>> n) (x <<< (32 - n))
  have hm : min (32 - n) 32 = 32 - n := by omega
  have hm' : min n 32 = n := by omega
  go_enter Tryd.func43, Tryd.ntmps43
  go_wp2_with fail
  refine startF 9 (S := fun _ => True) (by kernel_rfl) rfl trivial (fun hHeld => ?_)
  simp only [List.replicate]
  repeat (first | (refine tkF ?_ rfl (by kernel_rfl) (by rfl) (fun _ _ _ h => h) ?_ hHeld ?_; rotate_left; · (intro w hSw; go_simp <;> with_reducible rfl)) | refine skF rfl (by kernel_rfl) (by rfl) (fun _ _ _ h => h) hHeld ?_); simp only [Act.put, setF, List.setIfInBounds_toArray, List.set_cons_zero, List.set_cons_succ]
  refine wpAnyH_done (by kernel_rfl) ?_ _
  go_wp2
  go_ret
  exact ⟨rfl, 1, rfl⟩
end Go.Proofs.YtkhiklemhkeakaaDoor
