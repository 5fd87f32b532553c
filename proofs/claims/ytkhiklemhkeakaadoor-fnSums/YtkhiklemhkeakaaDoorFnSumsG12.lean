/-
  Plain facts: an element of an array of words that is a value. No program is named here. Plain facts: a table of words that lies in a block, whoever owns it. No program is named here.
-/
import Derived.Test.YtkhiklemhkeakaaDoorFnSumsG01
import Derived.ChangeKeysEq
import Derived.Test.YtkhiklemhkeakaaDoorFnSumsG09
namespace Go.Proofs.YtkhiklemhkeakaaDoor
open Go.RowKit
set_option linter.unusedVariables false
set_option linter.unusedSimpArgs false

theorem run_indexU {P : Program} (w : World) {t e : TypeId} {len : Nat} {cs : Array Value} {v : Value} {n : Nat} (hu : P.underlying t = some (.array len e)) (he : P.underlying e = some (.int .u32)) (hs : (P.info? e).map (·.size) = some 1) (hn : n < len) (hv : cs[n]? = some v) : (Instr.index t (.agg cs) (.int .i64 (n : Int))).run P w = .ok v w := by
  obtain ⟨i, hi, h1⟩ : ∃ i, P.info? e = some i ∧ i.size = 1 := by simpa [Option.map_eq_some_iff] using hs
  have hA : (isAgg e).run P w = .ok false w := by simp [isAgg, run_underlying he]
  have hS : (sizeOf e).run P w = .ok 1 w := by rw [run_sizeOf w hi]; simp [Program.cellsOf, hi, h1]
  simp [Instr.index, asIntOf, run_underlying hu, hn, hS, hA, hv, part, go_sem]
end Go.Proofs.YtkhiklemhkeakaaDoor

namespace Go.Proofs.YtkhiklemhkeakaaDoor
open Go.RowKit
set_option linter.unusedVariables false

/-- The block's cells are these words. -/
def TabW (w : World) (g : Nat) (ws : List (BitVec 32)) : Prop := g < w.heap.size ∧ ∀ i, i < ws.length → w.cell? ⟨g, i, none⟩ = some (.int .u32 (wv (ws.getD i 0)))
theorem TabW.same {w w' : World} {g : Nat} {ws : List (BitVec 32)} (h : TabW w g ws) (hk : w'.heap[g]? = w.heap[g]?) (hs : w.heap.size ≤ w'.heap.size) : TabW w' g ws := by
  refine ⟨Nat.lt_of_lt_of_le h.1 hs, fun i hi => ?_⟩
  have := h.2 i hi
  unfold World.cell? at this ⊢
  rw [hk]
  exact this
theorem TabW.below {w w' : World} {g : Nat} {ws : List (BitVec 32)} (h : TabW w g ws) (hb : Below w.heap.size w w') : TabW w' g ws := h.same (hb.block g h.1) hb.size
theorem TabW.out {w w' : World} {B E g : Nat} {ws : List (BitVec 32)} (h : TabW w g ws) (u : Outside B E w w') (hn : g < B ∨ E ≤ g) : TabW w' g ws := h.same (u.block g h.1 hn) u.size
theorem list_loadT {P : Program} {ops : Array Oper} {rest : List Oper} {o : Oper} {a : Act} {w : World} {Q : Exit → Act → World → Prop} (hgd : o.guard = none) (ty : TypeId) (x : Operand) (ho : o.op = .load ty x)
    (b : Nat) (hx : a.eval x = .pointer (some ⟨b, 0, none⟩)) (ws : List (BitVec 32)) (hk : TabW w b ws) {d : TypeDesc} (hu : P.underlying ty = some d) (hd : d.isRow = true) (hi : (P.info? ty).map (·.size) = some ws.length)
    (h : wpList P ops Q rest (a.put o.dst (.agg (cellsU ws))) w) : wpList P ops Q (o :: rest) a w := by
  refine wpList_load_mid hgd ty x ho b 0 hx (cellsU ws).toList d (fun j v hv => ?_) hu hd (by rw [hi]; simp [cellsU]) h
  have hj : j < ws.length := by
    have := (List.getElem?_eq_some_iff.1 hv).1
    simpa [cellsU] using this
  rw [Nat.zero_add, hk.2 j hj, ← hv]
  rw [Array.getElem?_toList, cellsU_get ws hj]
end Go.Proofs.YtkhiklemhkeakaaDoor
