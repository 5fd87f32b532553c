/-
  Contract of the program's round. Contracts of the program's own helper allThere: are n bytes there from a place on?
-/
import Derived.Test.YtkhiklemhkeakaaDoorFnSumsG03
import Derived.Test.YtkhiklemhkeakaaDoorFnSumsG09
import Derived.Test.YtkhiklemhkeakaaDoorFnSumsG01
namespace Go.Proofs.YtkhiklemhkeakaaDoor
open Go.RowKit
set_option linter.unusedVariables false
set_option linter.unusedSimpArgs false

theorem round_eq (s : S8) (k x : BitVec 32) : roundS s k x = ⟨s.h + (turnR s.e 6 ^^^ turnR s.e 11 ^^^ turnR s.e 25) + ((s.e &&& s.f) ^^^ (s.g &&& ~~~s.e)) + (x + k) + ((turnR s.a 2 ^^^ turnR s.a 13 ^^^ turnR s.a 22) + (s.a &&& s.b ^^^ s.a &&& s.c ^^^ s.b &&& s.c)), s.a, s.b, s.c, s.d + (s.h + (turnR s.e 6 ^^^ turnR s.e 11 ^^^ turnR s.e 25) + ((s.e &&& s.f) ^^^ (s.g &&& ~~~s.e)) + (x + k)), s.e, s.f, s.g⟩ := by
  have e1 : ~~~s.e &&& s.g = s.g &&& ~~~s.e := BitVec.and_comm _ _
  have e2 : ∀ a : BitVec 32, a + k + x = a + (x + k) := fun a => by rw [BitVec.add_comm x k, BitVec.add_assoc]
  simp only [roundS, bigS0, bigS1, e1, e2]
  rw [BitVec.add_assoc]
set_option maxHeartbeats 2000000 in
set_option maxRecDepth 100000 in
theorem round_is {b : Nat} {s : S8} {y : BitVec 32} {w : World} (hk : ∃ t, w.heap[b]? = some (.cells (cellsU (l8 s)) t)) :
    Calls Tryd.prog 32 #[.pointer (some ⟨b, 0, none⟩), .int .u32 (wv y)] w fun e w' => (∃ v, e = .returned v) ∧ (∃ s', Hid (∀ k x : BitVec 32, x + k = y → roundS s k x = s') ∧ ∀ t, w.heap[b]? = some (.cells (cellsU (l8 s)) t) → w'.heap[b]? = some (.cells (cellsU (l8 s')) t)) ∧ Outside b (b + 1) w w' := by
  obtain ⟨t, hk⟩ := hk
  have b1 := below_drew (w := w)
  have K1 := hide (block_kept b1 hk)
  have BB := hide b1
  have HK0 := hide hk
  clear hk b1
  go_enter Tryd.func32, Tryd.ntmps32
  go_wp2_with fail
  refine startF 20 (S := fun w' => w'.cell? ⟨b, 0, none⟩ = some (.int .u32 (wv s.a)) ∧ w'.cell? ⟨b, 1, none⟩ = some (.int .u32 (wv s.b)) ∧ w'.cell? ⟨b, 2, none⟩ = some (.int .u32 (wv s.c)) ∧ w'.cell? ⟨b, 3, none⟩ = some (.int .u32 (wv s.d)) ∧ w'.cell? ⟨b, 4, none⟩ = some (.int .u32 (wv s.e)) ∧ w'.cell? ⟨b, 5, none⟩ = some (.int .u32 (wv s.f)) ∧ w'.cell? ⟨b, 6, none⟩ = some (.int .u32 (wv s.g)) ∧ w'.cell? ⟨b, 7, none⟩ = some (.int .u32 (wv s.h))) (by kernel_rfl) rfl (arr8 (unhide K1)) (fun hHeld => ?_)
  simp only [List.replicate]
  repeat ((first | (refine tkF ?_ rfl (by kernel_rfl) (by rfl) (fun _ _ _ h => h) ?_ hHeld ?_; rotate_left; · (intro w hSw; (try dsimp only at hSw); go_simp <;> with_reducible rfl)) | refine skF rfl (by kernel_rfl) (by rfl) (fun _ _ _ h => h) hHeld ?_); simp only [Act.put, setF, List.setIfInBounds_toArray, List.set_cons_zero, List.set_cons_succ])
  refine wpAnyH_done (by kernel_rfl) ?_ _
  clear hHeld
  go_wp2_with fail
  replace K1 := hide (block_kept (below_drew (w := w.drew)) (unhide K1))
  replace BB := hide (below_next (unhide BB) (below_drew (w := w.drew)))
  refine startF 20 (S := fun w' => w'.cell? ⟨b, 0, none⟩ = some (.int .u32 (wv s.a)) ∧ w'.cell? ⟨b, 1, none⟩ = some (.int .u32 (wv s.b)) ∧ w'.cell? ⟨b, 2, none⟩ = some (.int .u32 (wv s.c)) ∧ w'.cell? ⟨b, 3, none⟩ = some (.int .u32 (wv s.d)) ∧ w'.cell? ⟨b, 4, none⟩ = some (.int .u32 (wv s.e)) ∧ w'.cell? ⟨b, 5, none⟩ = some (.int .u32 (wv s.f)) ∧ w'.cell? ⟨b, 6, none⟩ = some (.int .u32 (wv s.g)) ∧ w'.cell? ⟨b, 7, none⟩ = some (.int .u32 (wv s.h))) (by kernel_rfl) rfl (arr8 (unhide K1)) (fun hHeld => ?_)
  simp only [List.replicate]
  repeat ((first | (refine tkF ?_ rfl (by kernel_rfl) (by rfl) (fun _ _ _ h => h) ?_ hHeld ?_; rotate_left; · (intro w hSw; (try dsimp only at hSw); go_simp <;> with_reducible rfl)) | refine skF rfl (by kernel_rfl) (by rfl) (fun _ _ _ h => h) hHeld ?_); simp only [Act.put, setF, List.setIfInBounds_toArray, List.set_cons_zero, List.set_cons_succ])
  refine wpAnyH_done (by kernel_rfl) ?_ _
  clear hHeld
  generalize w.drew.drew = w0 at *
  have x1 := wd_and s.e s.f
  have x2 := wd_andNot s.g s.e
  have x3 := wd_xor (s.e &&& s.f) (s.g &&& ~~~s.e)
  have x4 := wd_and s.a s.b
  have x5 := wd_and s.a s.c
  have x6 := wd_xor (s.a &&& s.b) (s.a &&& s.c)
  have x7 := wd_and s.b s.c
  have x8 := wd_xor (s.a &&& s.b ^^^ s.a &&& s.c) (s.b &&& s.c)
  go_wp2_with fail
  clear x1 x2 x3 x4 x5 x6 x7 x8
  refine (right_is s.e 6 (by omega) (by omega) _).mono ?_
  rintro e w1 ⟨rfl, b2⟩
  replace K1 := hide (block_kept b2 (unhide K1))
  replace BB := hide (below_next (unhide BB) b2)
  clear b2
  go_wp2_with fail
  refine (right_is s.e 11 (by omega) (by omega) _).mono ?_
  rintro e w2 ⟨rfl, b2⟩
  replace K1 := hide (block_kept b2 (unhide K1))
  replace BB := hide (below_next (unhide BB) b2)
  clear b2
  have x1 := wd_xor (turnR s.e 6) (turnR s.e 11)
  go_wp2_with fail
  refine (right_is s.e 25 (by omega) (by omega) _).mono ?_
  rintro e w3 ⟨rfl, b2⟩
  replace K1 := hide (block_kept b2 (unhide K1))
  replace BB := hide (below_next (unhide BB) b2)
  clear b2
  have x2 := wd_xor (turnR s.e 6 ^^^ turnR s.e 11) (turnR s.e 25)
  have x3 := wd_add s.h (turnR s.e 6 ^^^ turnR s.e 11 ^^^ turnR s.e 25)
  have x4 := wd_add (s.h + (turnR s.e 6 ^^^ turnR s.e 11 ^^^ turnR s.e 25)) ((s.e &&& s.f) ^^^ (s.g &&& ~~~s.e))
  have x5 := wd_add (s.h + (turnR s.e 6 ^^^ turnR s.e 11 ^^^ turnR s.e 25) + ((s.e &&& s.f) ^^^ (s.g &&& ~~~s.e))) y
  go_wp2_with fail
  clear x1 x2 x3 x4 x5
  refine (right_is s.a 2 (by omega) (by omega) _).mono ?_
  rintro e w4 ⟨rfl, b2⟩
  replace K1 := hide (block_kept b2 (unhide K1))
  replace BB := hide (below_next (unhide BB) b2)
  clear b2
  go_wp2_with fail
  refine (right_is s.a 13 (by omega) (by omega) _).mono ?_
  rintro e w5 ⟨rfl, b2⟩
  replace K1 := hide (block_kept b2 (unhide K1))
  replace BB := hide (below_next (unhide BB) b2)
  clear b2
  have x1 := wd_xor (turnR s.a 2) (turnR s.a 13)
  go_wp2_with fail
  refine (right_is s.a 22 (by omega) (by omega) _).mono ?_
  rintro e w6 ⟨rfl, b2⟩
  replace K1 := hide (block_kept b2 (unhide K1))
  replace BB := hide (below_next (unhide BB) b2)
  clear b2
  have x2 := wd_xor (turnR s.a 2 ^^^ turnR s.a 13) (turnR s.a 22)
  have x3 := wd_add (turnR s.a 2 ^^^ turnR s.a 13 ^^^ turnR s.a 22) (s.a &&& s.b ^^^ s.a &&& s.c ^^^ s.b &&& s.c)
  have x4 := wd_add (s.h + (turnR s.e 6 ^^^ turnR s.e 11 ^^^ turnR s.e 25) + ((s.e &&& s.f) ^^^ (s.g &&& ~~~s.e)) + y) ((turnR s.a 2 ^^^ turnR s.a 13 ^^^ turnR s.a 22) + (s.a &&& s.b ^^^ s.a &&& s.c ^^^ s.b &&& s.c))
  have x5 := wd_add s.d (s.h + (turnR s.e 6 ^^^ turnR s.e 11 ^^^ turnR s.e 25) + ((s.e &&& s.f) ^^^ (s.g &&& ~~~s.e)) + y)
  have HTH := hide (block_there (unhide K1) (n := (cellsU (l8 ⟨s.h + (turnR s.e 6 ^^^ turnR s.e 11 ^^^ turnR s.e 25) + ((s.e &&& s.f) ^^^ (s.g &&& ~~~s.e)) + y + ((turnR s.a 2 ^^^ turnR s.a 13 ^^^ turnR s.a 22) + (s.a &&& s.b ^^^ s.a &&& s.c ^^^ s.b &&& s.c)), s.a, s.b, s.c, s.d + (s.h + (turnR s.e 6 ^^^ turnR s.e 11 ^^^ turnR s.e 25) + ((s.e &&& s.f) ^^^ (s.g &&& ~~~s.e)) + y), s.e, s.f, s.g⟩)).size) (by rw [cellsU_size, cellsU_size]; rfl))
  have KW := hide (block_whole (unhide K1) (cs := cellsU (l8 ⟨s.h + (turnR s.e 6 ^^^ turnR s.e 11 ^^^ turnR s.e 25) + ((s.e &&& s.f) ^^^ (s.g &&& ~~~s.e)) + y + ((turnR s.a 2 ^^^ turnR s.a 13 ^^^ turnR s.a 22) + (s.a &&& s.b ^^^ s.a &&& s.c ^^^ s.b &&& s.c)), s.a, s.b, s.c, s.d + (s.h + (turnR s.e 6 ^^^ turnR s.e 11 ^^^ turnR s.e 25) + ((s.e &&& s.f) ^^^ (s.g &&& ~~~s.e)) + y), s.e, s.f, s.g⟩)) (by rw [cellsU_size, cellsU_size]; rfl))
  have UO := hide (outside_sets b (cellsU (l8 ⟨s.h + (turnR s.e 6 ^^^ turnR s.e 11 ^^^ turnR s.e 25) + ((s.e &&& s.f) ^^^ (s.g &&& ~~~s.e)) + y + ((turnR s.a 2 ^^^ turnR s.a 13 ^^^ turnR s.a 22) + (s.a &&& s.b ^^^ s.a &&& s.c ^^^ s.b &&& s.c)), s.a, s.b, s.c, s.d + (s.h + (turnR s.e 6 ^^^ turnR s.e 11 ^^^ turnR s.e 25) + ((s.e &&& s.f) ^^^ (s.g &&& ~~~s.e)) + y), s.e, s.f, s.g⟩)).toList 0 w6)
  have hone := cellsU_one (l8 ⟨s.h + (turnR s.e 6 ^^^ turnR s.e 11 ^^^ turnR s.e 25) + ((s.e &&& s.f) ^^^ (s.g &&& ~~~s.e)) + y + ((turnR s.a 2 ^^^ turnR s.a 13 ^^^ turnR s.a 22) + (s.a &&& s.b ^^^ s.a &&& s.c ^^^ s.b &&& s.c)), s.a, s.b, s.c, s.d + (s.h + (turnR s.e 6 ^^^ turnR s.e 11 ^^^ turnR s.e 25) + ((s.e &&& s.f) ^^^ (s.g &&& ~~~s.e)) + y), s.e, s.f, s.g⟩)
  have HONE := hide hone
  clear hone
  go_wp2_with (first | (refine list_build (v := .agg (cellsU (l8 ⟨s.h + (turnR s.e 6 ^^^ turnR s.e 11 ^^^ turnR s.e 25) + ((s.e &&& s.f) ^^^ (s.g &&& ~~~s.e)) + y + ((turnR s.a 2 ^^^ turnR s.a 13 ^^^ turnR s.a 22) + (s.a &&& s.b ^^^ s.a &&& s.c ^^^ s.b &&& s.c)), s.a, s.b, s.c, s.d + (s.h + (turnR s.e 6 ^^^ turnR s.e 11 ^^^ turnR s.e 25) + ((s.e &&& s.f) ^^^ (s.g &&& ~~~s.e)) + y), s.e, s.f, s.g⟩))) (w' := w6) rfl rfl (by kernel_rfl) ?_) | (refine wpList_store_mid rfl 35 (.tmp 104) (.tmp 103) rfl b 0 (cellsU (l8 ⟨s.h + (turnR s.e 6 ^^^ turnR s.e 11 ^^^ turnR s.e 25) + ((s.e &&& s.f) ^^^ (s.g &&& ~~~s.e)) + y + ((turnR s.a 2 ^^^ turnR s.a 13 ^^^ turnR s.a 22) + (s.a &&& s.b ^^^ s.a &&& s.c ^^^ s.b &&& s.c)), s.a, s.b, s.c, s.d + (s.h + (turnR s.e 6 ^^^ turnR s.e 11 ^^^ turnR s.e 25) + ((s.e &&& s.f) ^^^ (s.g &&& ~~~s.e)) + y), s.e, s.f, s.g⟩)) rfl rfl (unhide HTH) (by kernel_rfl) (unhide HONE) ?_; generalize w6.setCells b 0 (cellsU (l8 ⟨s.h + (turnR s.e 6 ^^^ turnR s.e 11 ^^^ turnR s.e 25) + ((s.e &&& s.f) ^^^ (s.g &&& ~~~s.e)) + y + ((turnR s.a 2 ^^^ turnR s.a 13 ^^^ turnR s.a 22) + (s.a &&& s.b ^^^ s.a &&& s.c ^^^ s.b &&& s.c)), s.a, s.b, s.c, s.d + (s.h + (turnR s.e 6 ^^^ turnR s.e 11 ^^^ turnR s.e 25) + ((s.e &&& s.f) ^^^ (s.g &&& ~~~s.e)) + y), s.e, s.f, s.g⟩)).toList = w7 at *))
  go_end0
  refine ⟨⟨_, rfl⟩, ⟨⟨s.h + (turnR s.e 6 ^^^ turnR s.e 11 ^^^ turnR s.e 25) + ((s.e &&& s.f) ^^^ (s.g &&& ~~~s.e)) + y + ((turnR s.a 2 ^^^ turnR s.a 13 ^^^ turnR s.a 22) + (s.a &&& s.b ^^^ s.a &&& s.c ^^^ s.b &&& s.c)), s.a, s.b, s.c, s.d + (s.h + (turnR s.e 6 ^^^ turnR s.e 11 ^^^ turnR s.e 25) + ((s.e &&& s.f) ^^^ (s.g &&& ~~~s.e)) + y), s.e, s.f, s.g⟩, hide (fun k x hy => ?_), fun t2 h2 => ?_⟩, ?_⟩
  · subst hy
    exact round_eq s k x
  · have h1 := unhide HK0
    rw [h2] at h1
    simp only [Option.some.injEq, Obj.cells.injEq, true_and] at h1
    rw [h1.1]
    exact unhide KW
  · have bb := unhide BB
    exact Outside.trans ⟨bb.os, bb.tape, bb.output, bb.size, fun k hk _ => bb.block k hk⟩ (unhide UO)
end Go.Proofs.YtkhiklemhkeakaaDoor

namespace Go.Proofs.YtkhiklemhkeakaaDoor
open Go.RowKit
set_option linter.unusedVariables false

set_option maxHeartbeats 400000 in
set_option maxRecDepth 100000 in
theorem allThere_yes (a : Option Addr) (len cap : Nat) (at' n : Int) (w : World) (hl : len ≤ 2097152) (h0 : 0 ≤ at') (hn : 0 ≤ n) (h : n ≤ len - at') :
    Calls Tryd.prog 47 #[.slice a len cap, .int .i64 at', .int .i64 n] w fun e w' => e = .returned (.bool true) ∧ w = w' := by
  go_enter Tryd.func47, Tryd.ntmps47
  go_wp2
  go_ret
  exact ⟨rfl, rfl⟩

set_option maxHeartbeats 400000 in
set_option maxRecDepth 100000 in
theorem allThere_no (a : Option Addr) (len cap : Nat) (at' n : Int) (w : World) (hl : len ≤ 2097152) (hat : at' ≤ 9223372036854775807) (h : at' < 0 ∨ n < 0 ∨ len - at' < n) :
    Calls Tryd.prog 47 #[.slice a len cap, .int .i64 at', .int .i64 n] w fun e w' => e = .returned (.bool false) ∧ w = w' := by
  by_cases h0 : at' < 0
  · go_enter Tryd.func47, Tryd.ntmps47
    go_wp2
    go_ret
    exact ⟨rfl, rfl⟩
  · by_cases h1 : n < 0
    · go_enter Tryd.func47, Tryd.ntmps47
      go_wp2
      go_ret
      exact ⟨rfl, rfl⟩
    · have h2 : decide (n ≤ (len : Int) - at') = false := by simp; omega
      go_enter Tryd.func47, Tryd.ntmps47
      go_wp2
      go_ret
      exact ⟨rfl, rfl⟩
end Go.Proofs.YtkhiklemhkeakaaDoor
