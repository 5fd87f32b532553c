/-
  The blocks that the specification's l7block works on. Contract of the program's round.
-/
import Derived.Test.YtkmjghecjlgjpaaDoorDhcidG12
import Derived.Test.YtkmjghecjlgjpaaDoorDhcidG07
import Derived.Test.YtkmjghecjlgjpaaDoorDhcidG14
import Derived.Test.YtkmjghecjlgjpaaDoorDhcidG09
namespace Go.Proofs.YtkmjghecjlgjpaaDoor
open Go.RowKit
set_option linter.unusedVariables false

theorem l7turn_b (x : BitVec 32) (n : Nat) (hn : n < 32) (w : World) :
  Calls Tryd.prog 113 #[.int .u32 (wv x), .int .i64 (n : Int)] w fun e w' => e = .returned (.int .u32 (wv (turnR x n))) ∧ Below w.heap.size w w' :=
 (l7turn_is x n hn w).mono (fun e w' ⟨he, m, hw⟩ => ⟨he, hw ▸ below_draws m⟩)
/-- The blocks that l7block works on. -/
structure In7 (n : Nat) (w wr : World) (cs cw : List (BitVec 32)) : Prop where
 fh : wr.heap[n]? = some (.cells (cellsU cs) 79)
 fr : wr.heap[n + 1]? = some (.cells (cellsU (List.replicate 8 0)) 79)
 fw : wr.heap[n + 1 + 1]? = some (.cells (cellsU cw) 110)
 fb : Below w.heap.size w wr
theorem In7.next {n : Nat} {w wr wr' : World} {cs cw : List (BitVec 32)} (h : In7 n w wr cs cw) (b : Below wr.heap.size wr wr') : In7 n w wr' cs cw := ⟨block_kept b h.fh, block_kept b h.fr, block_kept b h.fw, below_next h.fb b⟩
theorem In7.setW {n : Nat} {w wr : World} {cs cw : List (BitVec 32)} (h : In7 n w wr cs cw) (hn : w.heap.size = n) (k : Nat) (x : BitVec 32) : In7 n w (wr.setCell ⟨n + 1 + 1, k, none⟩ (.int .u32 (wv x))) cs (cw.set k x) :=
 have u := outside_set wr (n + 1 + 1) k (.int .u32 (wv x))
 ⟨u.kept h.fh (by omega), u.kept h.fr (by omega), arr_set h.fw k x, u.below h.fb (by omega)⟩
theorem In7.setH {n : Nat} {w wr : World} {cs cw : List (BitVec 32)} (h : In7 n w wr cs cw) (hn : w.heap.size = n) (k : Nat) (x : BitVec 32) : In7 n w (wr.setCell ⟨n, k, none⟩ (.int .u32 (wv x))) (cs.set k x) cw :=
 have u := outside_set wr n k (.int .u32 (wv x))
 ⟨arr_set h.fh k x, u.kept h.fr (by omega), u.kept h.fw (by omega), u.below h.fb (by omega)⟩
theorem In7.out {n : Nat} {w wr wr' : World} {cs cw : List (BitVec 32)} {q : Nat} (h : In7 n w wr cs cw) (hn : w.heap.size = n) (hq : n + 1 + 1 < q) (u : Outside q (q + 1) wr wr') : In7 n w wr' cs cw :=
 ⟨u.kept h.fh (by omega), u.kept h.fr (by omega), u.kept h.fw (by omega), u.below h.fb (by omega)⟩
theorem list_loadU {P : Program} {ops : Array Oper} {rest : List Oper} {o : Oper} {a : Act} {w : World} {Q : Exit → Act → World → Prop} (hgd : o.guard = none) (ty : TypeId) (x : Operand) (ho : o.op = .load ty x)
  (b : Nat) (hx : a.eval x = .pointer (some ⟨b, 0, none⟩)) (ws : List (BitVec 32)) {t : TypeId} (hk : w.heap[b]? = some (.cells (cellsU ws) t)) {d : TypeDesc} (hu : P.underlying ty = some d) (hd : d.isRow = true) (hi : (P.info? ty).map (·.size) = some ws.length)
  (h : wpList P ops Q rest (a.put o.dst (.agg (cellsU ws))) w) : wpList P ops Q (o :: rest) a w := by
 refine wpList_load_mid hgd ty x ho b 0 hx (cellsU ws).toList d (fun j v hv => ?_) hu hd (by rw [hi]; simp [cellsU]) h
 rw [Nat.zero_add, block_cell hk]
 simpa using hv
theorem wp_loadU {P : Program} {o : Oper} {a : Act} {w : World} {K : Act → World → Prop} {Q : Exit → Act → World → Prop} (ty : TypeId) (x : Operand) (ho : o.op = .load ty x)
  (b : Nat) (hx : a.eval x = .pointer (some ⟨b, 0, none⟩)) (ws : List (BitVec 32)) {t : TypeId} (hk : w.heap[b]? = some (.cells (cellsU ws) t)) {d : TypeDesc} (hu : P.underlying ty = some d) (hd : d.isRow = true) (hi : (P.info? ty).map (·.size) = some ws.length)
  (h : K (a.put o.dst (.agg (cellsU ws))) w) : o.wp P a w K Q := by
 refine wp_load_mid ty x ho b 0 hx (cellsU ws).toList d (fun j v hv => ?_) hu hd (by rw [hi]; simp [cellsU]) h
 rw [Nat.zero_add, block_cell hk]
 simpa using hv
theorem arr_or {w : World} {b : Nat} {ws : List (BitVec 32)} {t : TypeId} {k : Nat} {x : BitVec 32} (hb : w.heap[b]? = some (.cells (cellsU ws) t) ∨ w.heap[b]? = some (.cells (cellsU (ws.set k x)) t)) {p : Nat} (hp : p < ws.length) (hn : p ≠ k) : w.cell? ⟨b, p, none⟩ = some (.int .u32 (wv (ws.getD p 0))) := by
 rcases hb with hb | hb
 ·exact arr_cell hb hp
 ·have := arr_cell hb (i := p) (by simpa using hp)
  rwa [List.getD_eq_getElem?_getD, List.getElem?_set_ne (Ne.symm hn), ← List.getD_eq_getElem?_getD] at this
theorem fillW_next (bs : List Int) {k : Nat} (hk : 16 ≤ k) : fillW bs (k + 1) = (fillW bs k).set k ((fillW bs k).getD (k - 16) 0 + smallS0 ((fillW bs k).getD (k - 15) 0) + (fillW bs k).getD (k - 7) 0 + smallS1 ((fillW bs k).getD (k - 2) 0)) := by
 show (fillW bs k).set k (nextW bs (fillW bs k) k) = _
 unfold nextW
 rw [if_neg (by omega)]
theorem fillW_first (bs : List Int) {k : Nat} (hk : k < 16) {y0 y1 y2 y3 : Nat} (h8 : Bytes8 bs) (z0 : bs.getD (4 * k) 0 = (y0 : Int)) (z1 : bs.getD (4 * k + 1) 0 = (y1 : Int)) (z2 : bs.getD (4 * k + 2) 0 = (y2 : Int)) (z3 : bs.getD (4 * k + 3) 0 = (y3 : Int)) :
  (fillW bs k).set k (BitVec.ofNat 32 y0 <<< 24 ||| BitVec.ofNat 32 y1 <<< 16 ||| BitVec.ofNat 32 y2 <<< 8 ||| BitVec.ofNat 32 y3) = fillW bs (k + 1) := by
 have a0 := (h8 (4 * k)).2
 have a1 := (h8 (4 * k + 1)).2
 have a2 := (h8 (4 * k + 2)).2
 have a3 := (h8 (4 * k + 3)).2
 rw [z0] at a0
 rw [z1] at a1
 rw [z2] at a2
 rw [z3] at a3
 rw [word_or y0 y1 y2 y3 (by omega) (by omega) (by omega) (by omega)]
 show _ = (fillW bs k).set k (nextW bs (fillW bs k) k)
 unfold nextW word4
 rw [if_pos hk, z0, z1, z2, z3]
 rw [show (y0 : Int) * 16777216 + (y1 : Int) * 65536 + (y2 : Int) * 256 + (y3 : Int) = ((y0 * 16777216 + y1 * 65536 + y2 * 256 + y3 : Nat) : Int) by omega, BitVec.ofInt_natCast]

end Go.Proofs.YtkmjghecjlgjpaaDoor

namespace Go.Proofs.YtkmjghecjlgjpaaDoor
open Go.RowKit
set_option linter.unusedVariables false
set_option linter.unusedSimpArgs false

theorem round_eq (s : S8) (k x : BitVec 32) : roundS s k x = ⟨s.h + (turnR s.e 6 ^^^ turnR s.e 11 ^^^ turnR s.e 25) + ((s.e &&& s.f) ^^^ (s.g &&& ~~~s.e)) + (x + k) + ((turnR s.a 2 ^^^ turnR s.a 13 ^^^ turnR s.a 22) + (s.a &&& s.b ^^^ s.a &&& s.c ^^^ s.b &&& s.c)), s.a, s.b, s.c, s.d + (s.h + (turnR s.e 6 ^^^ turnR s.e 11 ^^^ turnR s.e 25) + ((s.e &&& s.f) ^^^ (s.g &&& ~~~s.e)) + (x + k)), s.e, s.f, s.g⟩ := by
 have e1 : ~~~s.e &&& s.g = s.g &&& ~~~s.e := BitVec.and_comm _ _
 have e2 : ∀ a : BitVec 32, a + k + x = a + (x + k) := fun a => by rw [BitVec.add_comm x k, BitVec.add_assoc]
 simp only [roundS, bigS0, bigS1, e1, e2]
 rw [BitVec.add_assoc]
set_option maxHeartbeats 2000000 in
set_option maxRecDepth 100000 in
theorem round_is {b : Nat} {s : S8} {y : BitVec 32} {w : World} (hk : ∃ t, w.heap[b]? = some (.cells (cellsU (l8 s)) t)) :
  Calls Tryd.prog 101 #[.pointer (some ⟨b, 0, none⟩), .int .u32 (wv y)] w fun e w' => (∃ v, e = .returned v) ∧ (∃ s', Hid (∀ k x : BitVec 32, x + k = y → roundS s k x = s') ∧ ∀ t, w.heap[b]? = some (.cells (cellsU (l8 s)) t) → w'.heap[b]? = some (.cells (cellsU (l8 s')) t)) ∧ Outside b (b + 1) w w' := by
 obtain ⟨t, hk⟩ := hk
 have b1 := below_drew (w := w)
 have K1 := hide (block_kept b1 hk)
 have BB := hide b1
 have HK0 := hide hk
 clear hk b1
 go_enter Tryd.func101, Tryd.ntmps101
 go_wp2_with fail
 refine startF 20 (S := fun w' => w'.cell? ⟨b, 0, none⟩ = some (.int .u32 (wv s.a)) ∧ w'.cell? ⟨b, 1, none⟩ = some (.int .u32 (wv s.b)) ∧ w'.cell? ⟨b, 2, none⟩ = some (.int .u32 (wv s.c)) ∧ w'.cell? ⟨b, 3, none⟩ = some (.int .u32 (wv s.d)) ∧ w'.cell? ⟨b, 4, none⟩ = some (.int .u32 (wv s.e)) ∧ w'.cell? ⟨b, 5, none⟩ = some (.int .u32 (wv s.f)) ∧ w'.cell? ⟨b, 6, none⟩ = some (.int .u32 (wv s.g)) ∧ w'.cell? ⟨b, 7, none⟩ = some (.int .u32 (wv s.h))) (by kernel_rfl) rfl (arr8 (unhide K1)) (fun hHeld => ?_)
 simp only [List.replicate]
 repeat ((first | (refine tkF ?_ rfl (by kernel_rfl) (by rfl) (fun _ _ _ h => h) ?_ hHeld ?_; rotate_left; · (intro w hSw; (try dsimp only at hSw); go_simp <;> with_reducible rfl)) | refine skF rfl (by kernel_rfl) (by rfl) (fun _ _ _ h => h) hHeld ?_); simp only [Act.put, setF, List.setIfInBounds_toArray, List.set_cons_zero, List.set_cons_succ])
 refine wpAnyH_done (by kernel_rfl) ?_ _
 clear hHeld
 go_wp2_with fail
 replace K1 := hide (block_kept (below_drew (w := w.drew)) (unhide K1))
 replace BB := hide (below_next (unhide BB) (below_drew (w := w.drew)))
 refine startF 20 (S := fun w' => w'.cell? ⟨b, 0, none⟩ = some (.int .u32 (wv s.a)) ∧ w'.cell? ⟨b, 1, none⟩ = some (.int .u32 (wv s.b)) ∧ w'.cell? ⟨b, 2, none⟩ = some (.int .u32 (wv s.c)) ∧ w'.cell? ⟨b, 3, none⟩ = some (.int .u32 (wv s.d)) ∧ w'.cell? ⟨b, 4, none⟩ = some (.int .u32 (wv s.e)) ∧ w'.cell? ⟨b, 5, none⟩ = some (.int .u32 (wv s.f)) ∧ w'.cell? ⟨b, 6, none⟩ = some (.int .u32 (wv s.g)) ∧ w'.cell? ⟨b, 7, none⟩ = some (.int .u32 (wv s.h))) (by kernel_rfl) rfl (arr8 (unhide K1)) (fun hHeld => ?_)
 simp only [List.replicate]
 repeat ((first | (refine tkF ?_ rfl (by kernel_rfl) (by rfl) (fun _ _ _ h => h) ?_ hHeld ?_; rotate_left; · (intro w hSw; (try dsimp only at hSw); go_simp <;> with_reducible rfl)) | refine skF rfl (by kernel_rfl) (by rfl) (fun _ _ _ h => h) hHeld ?_); simp only [Act.put, setF, List.setIfInBounds_toArray, List.set_cons_zero, List.set_cons_succ])
 refine wpAnyH_done (by kernel_rfl) ?_ _
 clear hHeld
 generalize w.drew.drew = w0 at *
 have x1 := wd_and s.e s.f
 have x2 := wd_andNot s.g s.e
 have x3 := wd_xor (s.e &&& s.f) (s.g &&& ~~~s.e)
 have x4 := wd_and s.a s.b
 have x5 := wd_and s.a s.c
 have x6 := wd_xor (s.a &&& s.b) (s.a &&& s.c)
 have x7 := wd_and s.b s.c
 have x8 := wd_xor (s.a &&& s.b ^^^ s.a &&& s.c) (s.b &&& s.c)
 go_wp2_with fail
 clear x1 x2 x3 x4 x5 x6 x7 x8
 refine (right_is s.e 6 (by omega) (by omega) _).mono ?_
 rintro e w1 ⟨rfl, b2⟩
 replace K1 := hide (block_kept b2 (unhide K1))
 replace BB := hide (below_next (unhide BB) b2)
 clear b2
 go_wp2_with fail
 refine (right_is s.e 11 (by omega) (by omega) _).mono ?_
 rintro e w2 ⟨rfl, b2⟩
 replace K1 := hide (block_kept b2 (unhide K1))
 replace BB := hide (below_next (unhide BB) b2)
 clear b2
 have x1 := wd_xor (turnR s.e 6) (turnR s.e 11)
 go_wp2_with fail
 refine (right_is s.e 25 (by omega) (by omega) _).mono ?_
 rintro e w3 ⟨rfl, b2⟩
 replace K1 := hide (block_kept b2 (unhide K1))
 replace BB := hide (below_next (unhide BB) b2)
 clear b2
 have x2 := wd_xor (turnR s.e 6 ^^^ turnR s.e 11) (turnR s.e 25)
 have x3 := wd_add s.h (turnR s.e 6 ^^^ turnR s.e 11 ^^^ turnR s.e 25)
 have x4 := wd_add (s.h + (turnR s.e 6 ^^^ turnR s.e 11 ^^^ turnR s.e 25)) ((s.e &&& s.f) ^^^ (s.g &&& ~~~s.e))
 have x5 := wd_add (s.h + (turnR s.e 6 ^^^ turnR s.e 11 ^^^ turnR s.e 25) + ((s.e &&& s.f) ^^^ (s.g &&& ~~~s.e))) y
 go_wp2_with fail
 clear x1 x2 x3 x4 x5
 refine (right_is s.a 2 (by omega) (by omega) _).mono ?_
 rintro e w4 ⟨rfl, b2⟩
 replace K1 := hide (block_kept b2 (unhide K1))
 replace BB := hide (below_next (unhide BB) b2)
 clear b2
 go_wp2_with fail
 refine (right_is s.a 13 (by omega) (by omega) _).mono ?_
 rintro e w5 ⟨rfl, b2⟩
 replace K1 := hide (block_kept b2 (unhide K1))
 replace BB := hide (below_next (unhide BB) b2)
 clear b2
 have x1 := wd_xor (turnR s.a 2) (turnR s.a 13)
 go_wp2_with fail
 refine (right_is s.a 22 (by omega) (by omega) _).mono ?_
 rintro e w6 ⟨rfl, b2⟩
 replace K1 := hide (block_kept b2 (unhide K1))
 replace BB := hide (below_next (unhide BB) b2)
 clear b2
 have x2 := wd_xor (turnR s.a 2 ^^^ turnR s.a 13) (turnR s.a 22)
 have x3 := wd_add (turnR s.a 2 ^^^ turnR s.a 13 ^^^ turnR s.a 22) (s.a &&& s.b ^^^ s.a &&& s.c ^^^ s.b &&& s.c)
 have x4 := wd_add (s.h + (turnR s.e 6 ^^^ turnR s.e 11 ^^^ turnR s.e 25) + ((s.e &&& s.f) ^^^ (s.g &&& ~~~s.e)) + y) ((turnR s.a 2 ^^^ turnR s.a 13 ^^^ turnR s.a 22) + (s.a &&& s.b ^^^ s.a &&& s.c ^^^ s.b &&& s.c))
 have x5 := wd_add s.d (s.h + (turnR s.e 6 ^^^ turnR s.e 11 ^^^ turnR s.e 25) + ((s.e &&& s.f) ^^^ (s.g &&& ~~~s.e)) + y)
 have HTH := hide (block_there (unhide K1) (n := (cellsU (l8 ⟨s.h + (turnR s.e 6 ^^^ turnR s.e 11 ^^^ turnR s.e 25) + ((s.e &&& s.f) ^^^ (s.g &&& ~~~s.e)) + y + ((turnR s.a 2 ^^^ turnR s.a 13 ^^^ turnR s.a 22) + (s.a &&& s.b ^^^ s.a &&& s.c ^^^ s.b &&& s.c)), s.a, s.b, s.c, s.d + (s.h + (turnR s.e 6 ^^^ turnR s.e 11 ^^^ turnR s.e 25) + ((s.e &&& s.f) ^^^ (s.g &&& ~~~s.e)) + y), s.e, s.f, s.g⟩)).size) (by rw [cellsU_size, cellsU_size]; rfl))
 have KW := hide (block_whole (unhide K1) (cs := cellsU (l8 ⟨s.h + (turnR s.e 6 ^^^ turnR s.e 11 ^^^ turnR s.e 25) + ((s.e &&& s.f) ^^^ (s.g &&& ~~~s.e)) + y + ((turnR s.a 2 ^^^ turnR s.a 13 ^^^ turnR s.a 22) + (s.a &&& s.b ^^^ s.a &&& s.c ^^^ s.b &&& s.c)), s.a, s.b, s.c, s.d + (s.h + (turnR s.e 6 ^^^ turnR s.e 11 ^^^ turnR s.e 25) + ((s.e &&& s.f) ^^^ (s.g &&& ~~~s.e)) + y), s.e, s.f, s.g⟩)) (by rw [cellsU_size, cellsU_size]; rfl))
 have UO := hide (outside_sets b (cellsU (l8 ⟨s.h + (turnR s.e 6 ^^^ turnR s.e 11 ^^^ turnR s.e 25) + ((s.e &&& s.f) ^^^ (s.g &&& ~~~s.e)) + y + ((turnR s.a 2 ^^^ turnR s.a 13 ^^^ turnR s.a 22) + (s.a &&& s.b ^^^ s.a &&& s.c ^^^ s.b &&& s.c)), s.a, s.b, s.c, s.d + (s.h + (turnR s.e 6 ^^^ turnR s.e 11 ^^^ turnR s.e 25) + ((s.e &&& s.f) ^^^ (s.g &&& ~~~s.e)) + y), s.e, s.f, s.g⟩)).toList 0 w6)
 have hone := cellsU_one (l8 ⟨s.h + (turnR s.e 6 ^^^ turnR s.e 11 ^^^ turnR s.e 25) + ((s.e &&& s.f) ^^^ (s.g &&& ~~~s.e)) + y + ((turnR s.a 2 ^^^ turnR s.a 13 ^^^ turnR s.a 22) + (s.a &&& s.b ^^^ s.a &&& s.c ^^^ s.b &&& s.c)), s.a, s.b, s.c, s.d + (s.h + (turnR s.e 6 ^^^ turnR s.e 11 ^^^ turnR s.e 25) + ((s.e &&& s.f) ^^^ (s.g &&& ~~~s.e)) + y), s.e, s.f, s.g⟩)
 have HONE := hide hone
 clear hone
 go_wp2_with (first | (refine list_build (v := .agg (cellsU (l8 ⟨s.h + (turnR s.e 6 ^^^ turnR s.e 11 ^^^ turnR s.e 25) + ((s.e &&& s.f) ^^^ (s.g &&& ~~~s.e)) + y + ((turnR s.a 2 ^^^ turnR s.a 13 ^^^ turnR s.a 22) + (s.a &&& s.b ^^^ s.a &&& s.c ^^^ s.b &&& s.c)), s.a, s.b, s.c, s.d + (s.h + (turnR s.e 6 ^^^ turnR s.e 11 ^^^ turnR s.e 25) + ((s.e &&& s.f) ^^^ (s.g &&& ~~~s.e)) + y), s.e, s.f, s.g⟩))) (w' := w6) rfl rfl (by kernel_rfl) ?_) | (refine wpList_store_mid rfl 80 (.tmp 104) (.tmp 103) rfl b 0 (cellsU (l8 ⟨s.h + (turnR s.e 6 ^^^ turnR s.e 11 ^^^ turnR s.e 25) + ((s.e &&& s.f) ^^^ (s.g &&& ~~~s.e)) + y + ((turnR s.a 2 ^^^ turnR s.a 13 ^^^ turnR s.a 22) + (s.a &&& s.b ^^^ s.a &&& s.c ^^^ s.b &&& s.c)), s.a, s.b, s.c, s.d + (s.h + (turnR s.e 6 ^^^ turnR s.e 11 ^^^ turnR s.e 25) + ((s.e &&& s.f) ^^^ (s.g &&& ~~~s.e)) + y), s.e, s.f, s.g⟩)) rfl rfl (unhide HTH) (by kernel_rfl) (unhide HONE) ?_; generalize w6.setCells b 0 (cellsU (l8 ⟨s.h + (turnR s.e 6 ^^^ turnR s.e 11 ^^^ turnR s.e 25) + ((s.e &&& s.f) ^^^ (s.g &&& ~~~s.e)) + y + ((turnR s.a 2 ^^^ turnR s.a 13 ^^^ turnR s.a 22) + (s.a &&& s.b ^^^ s.a &&& s.c ^^^ s.b &&& s.c)), s.a, s.b, s.c, s.d + (s.h + (turnR s.e 6 ^^^ turnR s.e 11 ^^^ turnR s.e 25) + ((s.e &&& s.f) ^^^ (s.g &&& ~~~s.e)) + y), s.e, s.f, s.g⟩)).toList = w7 at *))
 go_end0
 refine ⟨⟨_, rfl⟩, ⟨⟨s.h + (turnR s.e 6 ^^^ turnR s.e 11 ^^^ turnR s.e 25) + ((s.e &&& s.f) ^^^ (s.g &&& ~~~s.e)) + y + ((turnR s.a 2 ^^^ turnR s.a 13 ^^^ turnR s.a 22) + (s.a &&& s.b ^^^ s.a &&& s.c ^^^ s.b &&& s.c)), s.a, s.b, s.c, s.d + (s.h + (turnR s.e 6 ^^^ turnR s.e 11 ^^^ turnR s.e 25) + ((s.e &&& s.f) ^^^ (s.g &&& ~~~s.e)) + y), s.e, s.f, s.g⟩, hide (fun k x hy => ?_), fun t2 h2 => ?_⟩, ?_⟩
 ·subst hy
  exact round_eq s k x
 ·have h1 := unhide HK0
  rw [h2] at h1
  simp only [Option.some.injEq, Obj.cells.injEq, true_and] at h1
  rw [h1.1]
  exact unhide KW
 ·have bb := unhide BB
  exact Outside.trans ⟨bb.os, bb.tape, bb.output, bb.size, fun k hk _ => bb.block k hk⟩ (unhide UO)
end Go.Proofs.YtkmjghecjlgjpaaDoor
