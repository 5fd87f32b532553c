/-
  Plain facts: one number more behind an own row of numbers; a text of zeros.
-/
import Derived.Test.YtbabmdiklefgcaaGreatDoorFnRepliesG00
import Derived.Test.YtbabmdiklefgcaaGreatDoorFnRepliesG03
namespace Go.Proofs.YtbabmdiklefgcaaGreatDoor
open Go.RowKit
set_option linter.unusedVariables false

theorem zeros_has (w : World) (n : Nat) (e : TypeId) (hn : n ≤ maxLen) : Has (w.alloc (.cells (madeCells #[.int .u8 0] n) e)) (.slice (some ⟨w.heap.size, 0, none⟩) n n) (List.replicate n 0) ∧ Typed e (w.alloc (.cells (madeCells #[.int .u8 0] n) e)) (.slice (some ⟨w.heap.size, 0, none⟩) n n) := by
 have hb := heap_alloc_new w (.cells (madeCells #[.int .u8 0] n) e)
 refine ⟨.inr ⟨w.heap.size, 0, n, by simp, VC hb, by simp, hn, fun i hi => ?_⟩, fun g off len cap h => ?_⟩
 ·have hi2 : i < n := by simpa using hi
  rw [VE hb, Nat.zero_add]
  simp [madeCells, hi2, Nat.mod_one]
 ·cases h
  exact ⟨_, _, hb⟩

theorem OwnI.up {B : Nat} {e : TypeId} {w : World} {v : Value} {l : List Int} (h : OwnI 0 e w v l) (hb : ∀ j, v.ownBlock = some j → B ≤ j) : OwnI B e w v l := by
 refine ⟨h.1, ?_⟩
 rcases h.2 with h0 | ⟨g, cap, cur, rfl, hB, h'⟩
 ·exact .inl h0
 ·exact .inr ⟨g, cap, cur, rfl, hb g rfl, h'⟩
theorem OwnI.low {B : Nat} {e : TypeId} {w : World} {v : Value} {l : List Int} (h : OwnI B e w v l) : ∀ j, v.ownBlock = some j → B ≤ j := fun j e => (h.lt j e).1
theorem DrawR.numsOn {w w' : World} {vn vt vx vi : Value} {r : Rec} {q : Nat} {t : TypeId} {c : Array Value} (h : DrawR w vn vt vx vi r) (hk : w.heap[q]? = some (.cells c t)) (h1 : t ≠ 22) (h2 : t ≠ 5) (hg : w.grownBy w' vi.ownBlock) :
  OwnT 0 22 5 w' vn r.name ∧ OwnT 0 22 5 w' vt r.to ∧ Has w' vx r.text ∧ Typed 5 w' vx := by
 rcases h.nums.2 with ⟨h0, _⟩ | ⟨g, cap, cur, h0, hB, hc', _⟩
 ·rw [h0] at hg
  have hg2 : w.grownBy w' (some q) := ⟨hg.os, hg.tape, hg.output, hg.size, fun i hi _ => hg.block i hi (by simp [Value.ownBlock])⟩
  exact ⟨h.name.off hk h1 h2 hg2, h.to.off hk h1 h2 hg2, h.text.1.off h.text.2 hk h2 hg2⟩
 ·rw [h0] at hg
  have hg2 : w.grownBy w' (some g) := hg
  exact ⟨h.name.off hc' (by decide) (by decide) hg2, h.to.off hc' (by decide) (by decide) hg2, h.text.1.off h.text.2 hc' (by decide) hg2⟩
theorem Cur.numsOn {w w' : World} {v : Value} {l : List Int} {B g len cap : Nat} {a : Option Addr} (hc : Cur w g a len cap) (h : OwnI B 3 w v l) (hg : w.grownBy w' v.ownBlock) : Cur w' g a len cap := by
 obtain ⟨i, x, h1, h2⟩ := hc
 exact ⟨i, x, block_grown hg h1 (row_apart h h1 (by decide)), h2⟩
section
variable {P : Program} {w : World}
theorem step_append_int {ops : Array Oper} {o : Oper} {a : Act} {K : Act → World → Prop} {Q : Exit → Act → World → Prop} {E : Prop} (hgd : o.guard = none) (s x : Operand) (t e : TypeId)
  (ho : o.op = .call { callee := .builtin .append, args := #[s, x], argTypes := #[t, t] }) (ht : P.underlying t = some (.slice e))
  (hinfo : (P.info? e).map (fun i => (i.zero, i.size, i.bytes)) = some (some (.int .i64 0), 1, 8))
  (base : Nat) (v : Value) (l : List Int) (W : World) (z : Int) (hs : a.eval s = v) (hx : a.eval x = .slice (some ⟨W.heap.size, 0, none⟩) 1 1) (hw : w = W.alloc (.cells #[.int .i64 z] e)) (hown : OwnI base e W v l)
  (hlen : l.length + 1 ≤ 1099511627776) (hbase : base ≤ W.heap.size)
  (h : ∀ v' w', OwnI base e w' v' (l ++ [z]) → w.grownBy w' v.ownBlock → K (a.put o.dst v') w') : if Region.wanted o (yielded ops a.tmps) = true then Oper.wp P o a w K Q else E := by
 have hwt : Region.wanted o (yielded ops a.tmps) = true := by simp [Region.wanted, hgd]
 rw [if_pos hwt]
 obtain ⟨i0, hi, hzz⟩ := Option.map_eq_some_iff.1 hinfo
 simp only [Prod.mk.injEq] at hzz
 obtain ⟨hz0, hz1, hz2⟩ := hzz
 have hown2 : w.ownsRow base e 1 v l.length (l.map (Value.int .i64)) := by rw [hw]; exact OwnI.alloc hown _
 rcases one_more W e (.int .i64 z) with ⟨h0, _⟩ | ⟨ad, cap, hv, hc⟩
 ·cases h0
 ·rw [← hw] at hc
  obtain ⟨v', w', h1, h2, h3, _⟩ := run_append_own (P := P) w base t o.type e i0 (.int .i64 0) 1 8 ht hi hz0 hz1 hz2 rfl (by decide) v l.length (l.map (Value.int .i64)) hown2 ad 1 cap [.int .i64 z] (by simp) hc (by intro y hy; simp at hy; subst hy; rfl) (by unfold maxLen; omega) (by omega) (by rw [hw]; exact Nat.le_trans hbase (UI _).size)
  have hx2 : a.eval x = .slice (some ad) 1 cap := by rw [hx]; exact hv
  unfold Oper.wp execOp
  simp only [ho, resolve, invoke, builtin, Sem.run_bind, Sem.run_pure, Result.andThen_ok, List.map_toArray, List.map_cons, List.map_nil, hs, hx2, h1]
  exact h v' w' (by simpa [OwnI] using h2) h3
end
end Go.Proofs.YtbabmdiklefgcaaGreatDoor
