/-
  Plain facts: what holds cells holds them still. No program is named here. Plain facts: what lay below a mark lies there still, where a walk writes into a stretch behind it. No program is named here.
-/
import Derived.Test.YtkhiklemhkeakaaDoorFnSumsG01
import Derived.RangeFuncNested
import Derived.Test.YtkhiklemhkeakaaDoorFnSumsG03
namespace Go.Proofs.YtkhiklemhkeakaaDoor
open Go.RowKit
set_option linter.unusedVariables false

/-- What holds cells holds them. -/
def KeptC (W W' : World) : Prop := ∀ (g : Nat) (c : Array Value) (t : TypeId), W.heap[g]? = some (.cells c t) → W'.heap[g]? = some (.cells c t)
theorem keptC_of {W W' : World} {row : Option Nat} (hg : W.grownBy W' row) (hr : ∀ r, row = some r → ∃ o : Obj, W.heap[r]? = some o ∧ o.isCells = false) : KeptC W W' := by
  intro g c t h
  have hlt : g < W.heap.size := (Array.getElem?_eq_some_iff.1 h).1
  refine (hg.block g hlt ?_).trans h
  intro e
  obtain ⟨o, h1, h2⟩ := hr g e.symm
  rw [h] at h1
  cases h1
  cases h2
theorem row_keptC {W W' : World} {B n s : Nat} {e : TypeId} {v : Value} {xs : List Value} (h : W.ownsRow B e s v n xs) (hk : KeptC W W') : W'.ownsRow B e s v n xs := by
  obtain ⟨h1, h2⟩ := h
  rcases h2 with h2 | ⟨g, cap, c, h3, h4, h5, h6⟩
  · exact ⟨h1, .inl h2⟩
  · exact ⟨h1, .inr ⟨g, cap, c, h3, h4, hk _ _ _ h5, h6⟩⟩
end Go.Proofs.YtkhiklemhkeakaaDoor

namespace Go.Proofs.YtkhiklemhkeakaaDoor
open Go.RowKit

theorem Outside.belowAt {n B E : Nat} {a w w' : World} (h : Outside B E w w') (hb : Below n a w) (hn : n ≤ a.heap.size) (hB : n ≤ B) : Below n a w' :=
  ⟨h.os.trans hb.os, h.tape.trans hb.tape, h.output.trans hb.output, Nat.le_trans hb.size h.size, fun k hk => (h.block k (by have := hb.size; omega) (.inl (by omega))).trans (hb.block k hk)⟩
end Go.Proofs.YtkhiklemhkeakaaDoor
