/-
  Contracts of the helpers of the laws for records (toRr). The blocks that the specification's l7block works on.
-/
import Derived.Test.YtkmjghecjlgjpaaDoorSha256G11
import Derived.Test.YtkmjghecjlgjpaaDoorSha256G08
import Derived.Test.YtkmjghecjlgjpaaDoorSha256G09
namespace Go.Proofs.YtkmjghecjlgjpaaDoor
open Go.RowKit
set_option linter.unusedVariables false

end Go.Proofs.YtkmjghecjlgjpaaDoor

namespace Go.Proofs.YtkmjghecjlgjpaaDoor
open Go.RowKit
set_option linter.unusedVariables false

theorem l7turn_b (x : BitVec 32) (n : Nat) (hn : n < 32) (w : World) :
  Calls Tryd.prog 113 #[.int .u32 (wv x), .int .i64 (n : Int)] w fun e w' => e = .returned (.int .u32 (wv (turnR x n))) ∧ Below w.heap.size w w' :=
 (l7turn_is x n hn w).mono (fun e w' ⟨he, m, hw⟩ => ⟨he, hw ▸ below_draws m⟩)
/-- The blocks that l7block works on. -/
structure In7 (n : Nat) (w wr : World) (cs cw : List (BitVec 32)) : Prop where
 fh : wr.heap[n]? = some (.cells (cellsU cs) 79)
 fr : wr.heap[n + 1]? = some (.cells (cellsU (List.replicate 8 0)) 79)
 fw : wr.heap[n + 1 + 1]? = some (.cells (cellsU cw) 110)
 fb : Below w.heap.size w wr
theorem In7.next {n : Nat} {w wr wr' : World} {cs cw : List (BitVec 32)} (h : In7 n w wr cs cw) (b : Below wr.heap.size wr wr') : In7 n w wr' cs cw := ⟨block_kept b h.fh, block_kept b h.fr, block_kept b h.fw, below_next h.fb b⟩
theorem In7.setW {n : Nat} {w wr : World} {cs cw : List (BitVec 32)} (h : In7 n w wr cs cw) (hn : w.heap.size = n) (k : Nat) (x : BitVec 32) : In7 n w (wr.setCell ⟨n + 1 + 1, k, none⟩ (.int .u32 (wv x))) cs (cw.set k x) :=
 have u := outside_set wr (n + 1 + 1) k (.int .u32 (wv x))
 ⟨u.kept h.fh (by omega), u.kept h.fr (by omega), arr_set h.fw k x, u.below h.fb (by omega)⟩
theorem In7.setH {n : Nat} {w wr : World} {cs cw : List (BitVec 32)} (h : In7 n w wr cs cw) (hn : w.heap.size = n) (k : Nat) (x : BitVec 32) : In7 n w (wr.setCell ⟨n, k, none⟩ (.int .u32 (wv x))) (cs.set k x) cw :=
 have u := outside_set wr n k (.int .u32 (wv x))
 ⟨arr_set h.fh k x, u.kept h.fr (by omega), u.kept h.fw (by omega), u.below h.fb (by omega)⟩
theorem In7.out {n : Nat} {w wr wr' : World} {cs cw : List (BitVec 32)} {q : Nat} (h : In7 n w wr cs cw) (hn : w.heap.size = n) (hq : n + 1 + 1 < q) (u : Outside q (q + 1) wr wr') : In7 n w wr' cs cw :=
 ⟨u.kept h.fh (by omega), u.kept h.fr (by omega), u.kept h.fw (by omega), u.below h.fb (by omega)⟩
theorem list_loadU {P : Program} {ops : Array Oper} {rest : List Oper} {o : Oper} {a : Act} {w : World} {Q : Exit → Act → World → Prop} (hgd : o.guard = none) (ty : TypeId) (x : Operand) (ho : o.op = .load ty x)
  (b : Nat) (hx : a.eval x = .pointer (some ⟨b, 0, none⟩)) (ws : List (BitVec 32)) {t : TypeId} (hk : w.heap[b]? = some (.cells (cellsU ws) t)) {d : TypeDesc} (hu : P.underlying ty = some d) (hd : d.isRow = true) (hi : (P.info? ty).map (·.size) = some ws.length)
  (h : wpList P ops Q rest (a.put o.dst (.agg (cellsU ws))) w) : wpList P ops Q (o :: rest) a w := by
 refine wpList_load_mid hgd ty x ho b 0 hx (cellsU ws).toList d (fun j v hv => ?_) hu hd (by rw [hi]; simp [cellsU]) h
 rw [Nat.zero_add, block_cell hk]
 simpa using hv
theorem wp_loadU {P : Program} {o : Oper} {a : Act} {w : World} {K : Act → World → Prop} {Q : Exit → Act → World → Prop} (ty : TypeId) (x : Operand) (ho : o.op = .load ty x)
  (b : Nat) (hx : a.eval x = .pointer (some ⟨b, 0, none⟩)) (ws : List (BitVec 32)) {t : TypeId} (hk : w.heap[b]? = some (.cells (cellsU ws) t)) {d : TypeDesc} (hu : P.underlying ty = some d) (hd : d.isRow = true) (hi : (P.info? ty).map (·.size) = some ws.length)
  (h : K (a.put o.dst (.agg (cellsU ws))) w) : o.wp P a w K Q := by
 refine wp_load_mid ty x ho b 0 hx (cellsU ws).toList d (fun j v hv => ?_) hu hd (by rw [hi]; simp [cellsU]) h
 rw [Nat.zero_add, block_cell hk]
 simpa using hv
theorem arr_or {w : World} {b : Nat} {ws : List (BitVec 32)} {t : TypeId} {k : Nat} {x : BitVec 32} (hb : w.heap[b]? = some (.cells (cellsU ws) t) ∨ w.heap[b]? = some (.cells (cellsU (ws.set k x)) t)) {p : Nat} (hp : p < ws.length) (hn : p ≠ k) : w.cell? ⟨b, p, none⟩ = some (.int .u32 (wv (ws.getD p 0))) := by
 rcases hb with hb | hb
 ·exact arr_cell hb hp
 ·have := arr_cell hb (i := p) (by simpa using hp)
  rwa [List.getD_eq_getElem?_getD, List.getElem?_set_ne (Ne.symm hn), ← List.getD_eq_getElem?_getD] at this
theorem fillW_next (bs : List Int) {k : Nat} (hk : 16 ≤ k) : fillW bs (k + 1) = (fillW bs k).set k ((fillW bs k).getD (k - 16) 0 + smallS0 ((fillW bs k).getD (k - 15) 0) + (fillW bs k).getD (k - 7) 0 + smallS1 ((fillW bs k).getD (k - 2) 0)) := by
 show (fillW bs k).set k (nextW bs (fillW bs k) k) = _
 unfold nextW
 rw [if_neg (by omega)]
theorem fillW_first (bs : List Int) {k : Nat} (hk : k < 16) {y0 y1 y2 y3 : Nat} (h8 : Bytes8 bs) (z0 : bs.getD (4 * k) 0 = (y0 : Int)) (z1 : bs.getD (4 * k + 1) 0 = (y1 : Int)) (z2 : bs.getD (4 * k + 2) 0 = (y2 : Int)) (z3 : bs.getD (4 * k + 3) 0 = (y3 : Int)) :
  (fillW bs k).set k (BitVec.ofNat 32 y0 <<< 24 ||| BitVec.ofNat 32 y1 <<< 16 ||| BitVec.ofNat 32 y2 <<< 8 ||| BitVec.ofNat 32 y3) = fillW bs (k + 1) := by
 have a0 := (h8 (4 * k)).2
 have a1 := (h8 (4 * k + 1)).2
 have a2 := (h8 (4 * k + 2)).2
 have a3 := (h8 (4 * k + 3)).2
 rw [z0] at a0
 rw [z1] at a1
 rw [z2] at a2
 rw [z3] at a3
 rw [word_or y0 y1 y2 y3 (by omega) (by omega) (by omega) (by omega)]
 show _ = (fillW bs k).set k (nextW bs (fillW bs k) k)
 unfold nextW word4
 rw [if_pos hk, z0, z1, z2, z3]
 rw [show (y0 : Int) * 16777216 + (y1 : Int) * 65536 + (y2 : Int) * 256 + (y3 : Int) = ((y0 * 16777216 + y1 * 65536 + y2 * 256 + y3 : Nat) : Int) by omega, BitVec.ofInt_natCast]

end Go.Proofs.YtkmjghecjlgjpaaDoor
