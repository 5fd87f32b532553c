/-
  Plain facts: what lay below a mark lies there still, where a walk writes into a stretch behind it. No program is named here.
-/
import Derived.Test.YtjgfljndeolmoaaGreatLostG02
namespace Go.Proofs.YtjgfljndeolmoaaGreat
open Go.RowKit

theorem Outside.belowAt {n B E : Nat} {a w w' : World} (h : Outside B E w w') (hb : Below n a w) (hn : n ≤ a.heap.size) (hB : n ≤ B) : Below n a w' :=
 ⟨h.os.trans hb.os, h.tape.trans hb.tape, h.output.trans hb.output, Nat.le_trans hb.size h.size, fun k hk => (h.block k (by have := hb.size; omega) (.inl (by omega))).trans (hb.block k hk)⟩
end Go.Proofs.YtjgfljndeolmoaaGreat
