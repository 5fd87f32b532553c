/-
  Plain facts: what lay below a mark lies there still, where a walk writes into a stretch behind it. No program is named here. Plain facts: rows of bytes that come of constant texts (frozen behind their end), and names that have such labels. No program is named here.
-/
import Derived.Test.YtkmjghecjlgjpaaDoorFnReverseG05
import Derived.Test.YtkmjghecjlgjpaaDoorFnReverseG07
namespace Go.Proofs.YtkmjghecjlgjpaaDoor
open Go.RowKit

theorem Outside.belowAt {n B E : Nat} {a w w' : World} (h : Outside B E w w') (hb : Below n a w) (hn : n ≤ a.heap.size) (hB : n ≤ B) : Below n a w' :=
  ⟨h.os.trans hb.os, h.tape.trans hb.tape, h.output.trans hb.output, Nat.le_trans hb.size h.size, fun k hk => (h.block k (by have := hb.size; omega) (.inl (by omega))).trans (hb.block k hk)⟩
end Go.Proofs.YtkmjghecjlgjpaaDoor

namespace Go.Proofs.YtkmjghecjlgjpaaDoor
open Go.RowKit
set_option linter.unusedVariables false

/-- A row of bytes that came of a constant text. -/
def OwnC (B : Nat) (e : TypeId) (w : World) (v : Value) (l : List Int) : Prop :=
  ∃ g, v = .slice (some ⟨g, 0, none⟩) l.length l.length ∧ B ≤ g ∧ w.heap[g]? = some (.cells (l.map (Value.int .u8)).toArray e (l.length, l.length + 1)) ∧ l.length ≤ maxLen
def OwnF (B : Nat) (e : TypeId) (w : World) (v : Value) (l : List Int) : Prop := Own B e w v l ∨ OwnC B e w v l
theorem fz_lt {w : World} {g : Nat} {o : Obj} (h : w.heap[g]? = some o) : g < w.heap.size := (Array.getElem?_eq_some_iff.1 h).1
theorem OwnC.has {B : Nat} {e : TypeId} {w : World} {v : Value} {l : List Int} (h : OwnC B e w v l) : Has w v l := by
  obtain ⟨g, rfl, h1, h2, h3⟩ := h
  refine .inr ⟨g, 0, l.length, rfl, fz_lt h2, Nat.le_refl _, h3, fun i hi => ?_⟩
  unfold World.cell?
  simp only [h2, Nat.zero_add]
  simp [hi]
theorem OwnF.has {B : Nat} {w : World} {e : TypeId} {v : Value} {l : List Int} (h : OwnF B e w v l) : Has w v l := by
  rcases h with h | h
  · exact h.has
  · exact h.has
theorem OwnF.lt {B : Nat} {w : World} {e : TypeId} {v : Value} {l : List Int} (h : OwnF B e w v l) (q : Nat) (hq : v.ownBlock = some q) : B ≤ q ∧ q < w.heap.size := by
  rcases h with h | ⟨g, rfl, h1, h2, h3⟩
  · exact h.lt q hq
  · simp [Value.ownBlock] at hq
    subst hq
    exact ⟨h1, fz_lt h2⟩
theorem OwnF.kept {B : Nat} {w w' : World} {e : TypeId} {v : Value} {l : List Int} {row : Option Nat} (h : OwnF B e w v l) (hg : w.grownBy w' row) (hn : v.ownBlock = none ∨ v.ownBlock ≠ row) : OwnF B e w' v l := by
  rcases h with h | ⟨g, rfl, h1, h2, h3⟩
  · exact .inl (h.kept hg hn)
  · refine .inr ⟨g, rfl, h1, (hg.block g (fz_lt h2) (fun e => ?_)).trans h2, h3⟩
    rcases hn with hn | hn
    · simp [Value.ownBlock] at hn
    · exact hn e
theorem OwnF.below {B : Nat} {w w' : World} {e : TypeId} {v : Value} {l : List Int} (h : OwnF B e w v l) (hb : Below w.heap.size w w') : OwnF B e w' v l := by
  rcases h with h | ⟨g, rfl, h1, h2, h3⟩
  · exact .inl (h.below hb)
  · exact .inr ⟨g, rfl, h1, (hb.block g (fz_lt h2)).trans h2, h3⟩
theorem OwnF.mono {B B' : Nat} {w : World} {e : TypeId} {v : Value} {l : List Int} (h : OwnF B e w v l) (hB : B' ≤ B) : OwnF B' e w v l := by
  rcases h with h | ⟨g, rfl, h1, h2, h3⟩
  · exact .inl (h.mono hB)
  · exact .inr ⟨g, rfl, by omega, h2, h3⟩
theorem OwnF.lies {B : Nat} {w : World} {e : TypeId} {v : Value} {l : List Int} (h : OwnF B e w v l) : ∃ a cap, v = .slice a l.length cap ∧ Lies w a l := by
  obtain ⟨a, cap, h1, h2⟩ := h.has.form
  exact ⟨a, cap, h1, h2⟩
/-- Whose block it is. -/
theorem OwnF.typed {B : Nat} {w : World} {e : TypeId} {v : Value} {l : List Int} (h : OwnF B e w v l) {q : Nat} (hq : v.ownBlock = some q) : ∃ c fz, w.heap[q]? = some (.cells c e fz) := by
  rcases h with h | ⟨g, rfl, h1, h2, h3⟩
  · rcases h.2 with ⟨h1, _⟩ | ⟨g', c', cur, h1, _, h2, _⟩
    · rw [h1] at hq; simp [Value.ownBlock] at hq
    · rw [h1] at hq
      simp [Value.ownBlock] at hq
      subst hq
      exact ⟨_, _, h2⟩
  · simp [Value.ownBlock] at hq
    subst hq
    exact ⟨_, _, h2⟩
def OwnNF (B E : Nat) (el eb : TypeId) (w : World) (v : Value) (n : List (List Int)) : Prop :=
  ∃ vs : List Value, w.ownsRow B el 1 v n.length vs ∧ (∀ i, i < n.length → ∃ u, vs[i]? = some u ∧ OwnF B eb w u (n.getD i [])) ∧
    (∀ (i j : Nat) (u u' : Value), i < j → vs[i]? = some u → vs[j]? = some u' → u.ownBlock = none ∨ u.ownBlock ≠ u'.ownBlock) ∧
    (∀ q, v.ownBlock = some q → q < E) ∧ ∀ (i : Nat) (u : Value) (q : Nat), vs[i]? = some u → u.ownBlock = some q → q < E
theorem OwnNF.hasL {B E : Nat} {el eb : TypeId} {w : World} {v : Value} {n : List (List Int)} (h : OwnNF B E el eb w v n) : HasL w v n := by
  obtain ⟨vs, ho, hu, _⟩ := h
  have ho' := ho
  rcases ho.2 with ⟨rfl, hn⟩ | ⟨g, cap, cur, rfl, hb, hg, hn, hm, hs, ht⟩
  · exact .inl ⟨rfl, List.eq_nil_of_length_eq_zero hn⟩
  · refine .inr ⟨g, 0, cap, rfl, (ho'.lt g rfl).2, hn, hm, fun i hi => ?_⟩
    obtain ⟨u, h1, h2⟩ := hu i hi
    refine ⟨u, ?_, h2.has⟩
    rw [Nat.zero_add, World.ownsRow.cellAt ho' i (by omega), h1]
theorem OwnNF.below {B E : Nat} {el eb : TypeId} {w w' : World} {v : Value} {n : List (List Int)} (h : OwnNF B E el eb w v n) (hb : Below w.heap.size w w') : OwnNF B E el eb w' v n := by
  obtain ⟨vs, ho, hu, hd, hv, he⟩ := h
  refine ⟨vs, World.ownsRow.kept ho (grown_of_below hb) (by cases hv : v.ownBlock with
    | none => exact .inl rfl
    | some k => exact .inr (by simp)), fun i hi => ?_, hd, hv, he⟩
  obtain ⟨u, h1, h2⟩ := hu i hi
  exact ⟨u, h1, h2.below hb⟩
end Go.Proofs.YtkmjghecjlgjpaaDoor
