/-
  Plain facts: an own row of texts that are only looked at, whoever owns them (constant texts among them). Plain facts: what is owned in a stretch of blocks stays as it is where a walk writes into another stretch. No program is named here.
-/
import Derived.Test.YtdghbcjlahjjdaaFnRecordOrderG04
import Derived.Test.YtdghbcjlahjjdaaFnRecordOrderG02
namespace Go.Proofs.Ytdghbcjlahjjdaa
open Go.RowKit
set_option linter.unusedVariables false

/-- The block of a text holds cells of the type eb, marked or not. -/
def Typed (eb : TypeId) (w : World) (x : Value) : Prop := ∀ g off len cap, x = .slice (some ⟨g, off, none⟩) len cap → ∃ c fr, w.heap[g]? = some (.cells c eb fr)
/-- The row is owned, from block B on; each of its texts has its bytes. -/
def OwnT (B : Nat) (el eb : TypeId) (w : World) (v : Value) (n : List (List Int)) : Prop :=
  ∃ vs : List Value, w.ownsRow B el 1 v n.length vs ∧ ∀ i, i < n.length → ∃ x, vs[i]? = some x ∧ Has w x (n.getD i []) ∧ Typed eb w x
theorem Typed.nil (eb : TypeId) (w : World) : Typed eb w (.slice none 0 0) := fun g off len cap e => by cases e
theorem Typed.below {eb : TypeId} {w w' : World} {x : Value} (h : Typed eb w x) (hb : Below w.heap.size w w') : Typed eb w' x := fun g off len cap e => by
  obtain ⟨c, fr, h1⟩ := h g off len cap e
  exact ⟨c, fr, (hb.block g (block_lt h1)).trans h1⟩
theorem Own.typed {B : Nat} {eb : TypeId} {w : World} {x : Value} {l : List Int} (h : Own B eb w x l) : Typed eb w x := fun g off len cap e => by
  rcases h.2 with ⟨h1, _⟩ | ⟨g', cap', cur, h1, _, h2, _⟩
  · rw [h1] at e; cases e
  · rw [h1] at e; cases e
    exact ⟨_, _, h2⟩
theorem OwnL.ownT {B : Nat} {el eb : TypeId} {w : World} {v : Value} {n : List (List Int)} (h : OwnL B el eb w v n) : OwnT B el eb w v n := by
  obtain ⟨vs, h1, h2, _⟩ := h
  refine ⟨vs, h1, fun i hi => ?_⟩
  obtain ⟨x, h3, h4⟩ := h2 i hi
  exact ⟨x, h3, h4.has, h4.typed⟩
theorem OwnT.mono {B B' : Nat} {el eb : TypeId} {w : World} {v : Value} {n : List (List Int)} (h : OwnT B el eb w v n) (hB : B' ≤ B) : OwnT B' el eb w v n := by
  obtain ⟨vs, h1, h2⟩ := h
  exact ⟨vs, ownsRow_mono h1 hB, h2⟩
theorem OwnT.below {B : Nat} {el eb : TypeId} {w w' : World} {v : Value} {n : List (List Int)} (h : OwnT B el eb w v n) (hb : Below w.heap.size w w') : OwnT B el eb w' v n := by
  obtain ⟨vs, h1, h2⟩ := h
  refine ⟨vs, ownsRow_kept' h1 hb, fun i hi => ?_⟩
  obtain ⟨x, h3, h4, h5⟩ := h2 i hi
  exact ⟨x, h3, h4.below hb, h5.below hb⟩
theorem row_apartF {B b n : Nat} {e t : TypeId} {w : World} {v : Value} {xs : List Value} {c : Array Value} {fr : Nat × Nat} (h : w.ownsRow B e 1 v n xs) (hb : w.heap[b]? = some (.cells c t fr)) (hne : t ≠ e) : v.ownBlock ≠ some b := by
  intro hq
  rcases h.2 with ⟨rfl, _⟩ | ⟨g, cap, cur, rfl, _, hg, _⟩
  · simp [Value.ownBlock] at hq
  · simp [Value.ownBlock] at hq
    subst hq
    rw [hg] at hb
    simp at hb
    exact hne hb.2.1.symm
/-- What a text has stays, where a row of slices is written. -/
theorem Has.off_row {B n : Nat} {el eb : TypeId} {w w' : World} {v x : Value} {xs : List Value} {l : List Int} (hr : w.ownsRow B el 1 v n xs) (hne : eb ≠ el) (h : Has w x l) (ht : Typed eb w x) (hg : w.grownBy w' v.ownBlock) : Has w' x l ∧ Typed eb w' x := by
  have key : ∀ g off len cap, x = .slice (some ⟨g, off, none⟩) len cap → w'.heap[g]? = w.heap[g]? := fun g off len cap e => by
    obtain ⟨c, fr, h1⟩ := ht g off len cap e
    have := row_apartF hr h1 hne
    exact hg.block g (block_lt h1) (fun q => this q.symm)
  refine ⟨?_, fun g off len cap e => ?_⟩
  · rcases h with h | ⟨g, off, cap, e, h1, h2, h3, h4⟩
    · exact .inl h
    · refine .inr ⟨g, off, cap, e, Nat.lt_of_lt_of_le h1 hg.size, h2, h3, fun i hi => ?_⟩
      have hc := h4 i hi
      unfold World.cell? at hc ⊢
      rw [key g off _ cap e]
      exact hc
  · obtain ⟨c, fr, h1⟩ := ht g off len cap e
    exact ⟨c, fr, (key g off len cap e).trans h1⟩
/-- One text more. W: the world in which the append's second argument has been laid. -/
theorem OwnT.snoc {B m : Nat} {el eb : TypeId} {W w' : World} {v v' u : Value} {n : List (List Int)} {l : List Int} {vs : List Value} (hvs : W.ownsRow B el 1 v n.length vs) (hva : ∀ i, i < n.length → ∃ x, vs[i]? = some x ∧ Has W x (n.getD i []) ∧ Typed eb W x)
    (hu : Has W u l) (htu : Typed eb W u) (hne : eb ≠ el) (ho : w'.ownsRow B el 1 v' m (vs ++ [u])) (hm : m = n.length + 1) (hg : W.grownBy w' v.ownBlock) : OwnT B el eb w' v' (n ++ [l]) := by
  have hl : vs.length = n.length := by have := hvs.1; simpa using this
  subst hm
  refine ⟨vs ++ [u], by simpa using ho, fun i hi => ?_⟩
  simp at hi
  by_cases h : i < n.length
  · obtain ⟨x, h1, h2, h3⟩ := hva i h
    have := Has.off_row hvs hne h2 h3 hg
    refine ⟨x, by rw [List.getElem?_append_left (by omega)]; exact h1, ?_, this.2⟩
    rw [List.getD_eq_getElem?_getD, List.getElem?_append_left h, ← List.getD_eq_getElem?_getD]
    exact this.1
  · obtain rfl : i = n.length := by omega
    have := Has.off_row hvs hne hu htu hg
    refine ⟨u, by rw [← hl]; simp, ?_, this.2⟩
    rw [List.getD_eq_getElem?_getD]
    simp
    exact this.1
/-- Where another block's cell is written, all stays. -/
theorem Has.off_cell {eb t : TypeId} {w : World} {x : Value} {l : List Int} {q j : Nat} {c : Array Value} (h : Has w x l) (ht : Typed eb w x) (hk : w.heap[q]? = some (.cells c t)) (hne : t ≠ eb) (u : Value) : Has (w.setCell ⟨q, j, none⟩ u) x l ∧ Typed eb (w.setCell ⟨q, j, none⟩ u) x := by
  have hg := grown_setCell w ⟨q, j, none⟩ u
  have key : ∀ g off len cap, x = .slice (some ⟨g, off, none⟩) len cap → (w.setCell ⟨q, j, none⟩ u).heap[g]? = w.heap[g]? := fun g off len cap e => by
    obtain ⟨c', fr, h1⟩ := ht g off len cap e
    refine hg.block g (block_lt h1) ?_
    intro e'
    have e2 : g = q := by simpa using e'
    subst e2
    rw [hk] at h1
    simp at h1
    exact hne h1.2.1
  refine ⟨?_, fun g off len cap e => ?_⟩
  · rcases h with h | ⟨g, off, cap, e, h1, h2, h3, h4⟩
    · exact .inl h
    · refine .inr ⟨g, off, cap, e, Nat.lt_of_lt_of_le h1 hg.size, h2, h3, fun i hi => ?_⟩
      have hc := h4 i hi
      unfold World.cell? at hc ⊢
      rw [key g off _ cap e]
      exact hc
  · obtain ⟨c', fr, h1⟩ := ht g off len cap e
    exact ⟨c', fr, (key g off len cap e).trans h1⟩
theorem OwnT.set {B q j : Nat} {el eb t : TypeId} {w : World} {v : Value} {n : List (List Int)} {c : Array Value} (h : OwnT B el eb w v n) (hk : w.heap[q]? = some (.cells c t)) (h1 : t ≠ el) (h2 : t ≠ eb) (u : Value) : OwnT B el eb (w.setCell ⟨q, j, none⟩ u) v n := by
  obtain ⟨vs, h3, h4⟩ := h
  have hap := row_apart h3 hk h1
  refine ⟨vs, World.ownsRow.kept h3 (grown_setCell w ⟨q, j, none⟩ u) (by cases hq : v.ownBlock with | none => exact .inl rfl | some r => exact .inr (by intro e; simp at e; rw [hq, e] at hap; exact hap rfl)), fun i hi => ?_⟩
  obtain ⟨x, h5, h6, h7⟩ := h4 i hi
  have := Has.off_cell (j := j) h6 h7 hk h2 u
  exact ⟨x, h5, this.1, this.2⟩
end Go.Proofs.Ytdghbcjlahjjdaa

namespace Go.Proofs.Ytdghbcjlahjjdaa
open Go.RowKit

/-- As Own, its block ahead of E. -/
def OwnB (C E : Nat) (e : TypeId) (w : World) (v : Value) (l : List Int) : Prop := Own C e w v l ∧ ∀ q, v.ownBlock = some q → q < E

theorem Own.here {C : Nat} {e : TypeId} {w : World} {v : Value} {l : List Int} (h : Own C e w v l) : OwnB C w.heap.size e w v l := ⟨h, fun q hq => (h.lt q hq).2⟩
theorem OwnB.has {C E : Nat} {e : TypeId} {w : World} {v : Value} {l : List Int} (h : OwnB C E e w v l) : Has w v l := h.1.has
theorem OwnB.below {C E : Nat} {e : TypeId} {w w' : World} {v : Value} {l : List Int} (h : OwnB C E e w v l) (hb : Below w.heap.size w w') : OwnB C E e w' v l := ⟨h.1.below hb, h.2⟩
theorem OwnB.outside {C E B D : Nat} {e : TypeId} {w w' : World} {v : Value} {l : List Int} (h : OwnB C E e w v l) (u : Outside B D w w') (hd : E ≤ B ∨ D ≤ C) : OwnB C E e w' v l := by
  refine ⟨⟨h.1.1, ?_⟩, h.2⟩
  rcases h.1.2 with hn | ⟨g, cap, cur, hv, hb, hg, rest⟩
  · exact .inl hn
  · refine .inr ⟨g, cap, cur, hv, hb, ?_, rest⟩
    have h1 := h.1.lt g (by rw [hv]; rfl)
    have h2 := h.2 g (by rw [hv]; rfl)
    rw [u.block g h1.2 (by omega)]
    exact hg
theorem OwnB.marks {C E : Nat} {e : TypeId} {w w' : World} {v : Value} {l l' : List Int} (h : OwnB C E e w v l) (h' : Own C e w' v l') (g : w.grownBy w' v.ownBlock) : OwnB C E e w' v l' ∧ Outside C E w w' :=
  ⟨⟨h', h.2⟩, outside_grown g (fun q hq => ⟨(h.1.lt q hq).1, h.2 q hq⟩)⟩

theorem ownsRow_outside {C B D n : Nat} {e : TypeId} {w w' : World} {v : Value} {xs : List Value} (h : w.ownsRow C e 1 v n xs) (u : Outside B D w w') (hq : ∀ q, v.ownBlock = some q → q < B ∨ D ≤ q) : w'.ownsRow C e 1 v n xs := by
  have h' := h
  refine ⟨h.1, ?_⟩
  rcases h.2 with hn | ⟨g, cap, cur, hv, hb, hg, rest⟩
  · exact .inl hn
  · refine .inr ⟨g, cap, cur, hv, hb, ?_, rest⟩
    have h1 := h'.lt g (by rw [hv]; rfl)
    have h2 := hq g (by rw [hv]; rfl)
    rw [u.block g h1.2 h2]
    exact hg

theorem OwnN.outside {C E B D : Nat} {el eb : TypeId} {w w' : World} {v : Value} {n : List (List Int)} (h : OwnN C E el eb w v n) (u : Outside B D w w') (hd : E ≤ B ∨ D ≤ C) : OwnN C E el eb w' v n := by
  obtain ⟨vs, ho, hu, hdis, hv, he⟩ := h
  refine ⟨vs, ownsRow_outside ho u (fun q hq => ?_), fun i hi => ?_, hdis, hv, he⟩
  · have := (World.ownsRow.lt ho q hq).1
    have := hv q hq
    omega
  · obtain ⟨x, h1, h2⟩ := hu i hi
    refine ⟨x, h1, ownsRow_outside h2 u (fun q hq => ?_)⟩
    have := (h2.lt q hq).1
    have := he i x q h1 hq
    omega
theorem OwnN.hasL {C E : Nat} {el eb : TypeId} {w : World} {v : Value} {n : List (List Int)} (h : OwnN C E el eb w v n) : HasL w v n := h.ownL.hasL
end Go.Proofs.Ytdghbcjlahjjdaa
