/-
  Plain facts: an own row of texts that are only looked at, whoever owns them (constant texts among them). Plain facts: what is owned in a stretch of blocks stays as it is where a walk writes into another stretch. No program is named here. Plain facts: a row of slices put behind another one; a name with one label more ahead. No program is named here. Plain facts for l2bent: one label more in the box of a name that is drawn. Plain facts: what a drawn name has, and how it fares while more is drawn. Plain facts: an append of a text's bytes; what may be read of a slice of bytes while a row grows. Plain facts on slices of numbers (int): one that reads as a list, one that owns its row. As for bytes. No program is named here.
-/
import Derived.Test.YtbabmdiklefgcaaGreatDoorFnRepliesG01
import Derived.Test.YtbabmdiklefgcaaGreatDoorFnRepliesG00
import Derived.Lib.AppendStr
import Derived.Lib.UnsafeStr
import Derived.Deep.RegionLaw
namespace Go.Proofs.YtbabmdiklefgcaaGreatDoor
open Go.RowKit
set_option linter.unusedVariables false

def Typed (eb : TypeId) (w : World) (x : Value) : Prop := ∀ g off len cap, x = .slice (some ⟨g, off, none⟩) len cap → ∃ c fr, w.heap[g]? = some (.cells c eb fr)
def OwnT (B : Nat) (el eb : TypeId) (w : World) (v : Value) (n : List (List Int)) : Prop :=
 ∃ vs : List Value, w.ownsRow B el 1 v n.length vs ∧ ∀ i, i < n.length → ∃ x, vs[i]? = some x ∧ Has w x (n.getD i []) ∧ Typed eb w x
theorem Typed.nil (eb : TypeId) (w : World) : Typed eb w (.slice none 0 0) := fun g off len cap e => by cases e
theorem Typed.below {eb : TypeId} {w w' : World} {x : Value} (h : Typed eb w x) (hb : Below w.heap.size w w') : Typed eb w' x := fun g off len cap e => by
 obtain ⟨c, fr, h1⟩ := h g off len cap e
 exact ⟨c, fr, (hb.block g (VC h1)).trans h1⟩
theorem Own.typed {B : Nat} {eb : TypeId} {w : World} {x : Value} {l : List Int} (h : Own B eb w x l) : Typed eb w x := fun g off len cap e => by
 rcases h.2 with ⟨h1, _⟩ | ⟨g', cap', cur, h1, _, h2, _⟩
 ·rw [h1] at e; cases e
 ·rw [h1] at e; cases e
  exact ⟨_, _, h2⟩
theorem OwnL.ownT {B : Nat} {el eb : TypeId} {w : World} {v : Value} {n : List (List Int)} (h : OwnL B el eb w v n) : OwnT B el eb w v n := by
 obtain ⟨vs, h1, h2, _⟩ := h
 refine ⟨vs, h1, fun i hi => ?_⟩
 obtain ⟨x, h3, h4⟩ := h2 i hi
 exact ⟨x, h3, h4.has, h4.typed⟩
theorem OwnT.mono {B B' : Nat} {el eb : TypeId} {w : World} {v : Value} {n : List (List Int)} (h : OwnT B el eb w v n) (hB : B' ≤ B) : OwnT B' el eb w v n := by
 obtain ⟨vs, h1, h2⟩ := h
 exact ⟨vs, ownsRow_mono h1 hB, h2⟩
theorem OwnT.below {B : Nat} {el eb : TypeId} {w w' : World} {v : Value} {n : List (List Int)} (h : OwnT B el eb w v n) (hb : Below w.heap.size w w') : OwnT B el eb w' v n := by
 obtain ⟨vs, h1, h2⟩ := h
 refine ⟨vs, ownsRow_kept' h1 hb, fun i hi => ?_⟩
 obtain ⟨x, h3, h4, h5⟩ := h2 i hi
 exact ⟨x, h3, h4.below hb, h5.below hb⟩
theorem row_apartF {B b n : Nat} {e t : TypeId} {w : World} {v : Value} {xs : List Value} {c : Array Value} {fr : Nat × Nat} (h : w.ownsRow B e 1 v n xs) (hb : w.heap[b]? = some (.cells c t fr)) (hne : t ≠ e) : v.ownBlock ≠ some b := by
 intro hq
 rcases h.2 with ⟨rfl, _⟩ | ⟨g, cap, cur, rfl, _, hg, _⟩
 ·simp [Value.ownBlock] at hq
 ·simp [Value.ownBlock] at hq
  subst hq
  rw [hg] at hb
  simp at hb
  exact hne hb.2.1.symm
theorem Has.off_row {B n : Nat} {el eb : TypeId} {w w' : World} {v x : Value} {xs : List Value} {l : List Int} (hr : w.ownsRow B el 1 v n xs) (hne : eb ≠ el) (h : Has w x l) (ht : Typed eb w x) (hg : w.grownBy w' v.ownBlock) : Has w' x l ∧ Typed eb w' x := by
 have key : ∀ g off len cap, x = .slice (some ⟨g, off, none⟩) len cap → w'.heap[g]? = w.heap[g]? := fun g off len cap e => by
  obtain ⟨c, fr, h1⟩ := ht g off len cap e
  have := row_apartF hr h1 hne
  exact hg.block g (VC h1) (fun q => this q.symm)
 refine ⟨?_, fun g off len cap e => ?_⟩
 ·rcases h with h | ⟨g, off, cap, e, h1, h2, h3, h4⟩
  ·exact .inl h
  ·refine .inr ⟨g, off, cap, e, Nat.lt_of_lt_of_le h1 hg.size, h2, h3, fun i hi => ?_⟩
   have hc := h4 i hi
   unfold World.cell? at hc ⊢
   rw [key g off _ cap e]
   exact hc
 ·obtain ⟨c, fr, h1⟩ := ht g off len cap e
  exact ⟨c, fr, (key g off len cap e).trans h1⟩
theorem OwnT.snoc {B m : Nat} {el eb : TypeId} {W w' : World} {v v' u : Value} {n : List (List Int)} {l : List Int} {vs : List Value} (hvs : W.ownsRow B el 1 v n.length vs) (hva : ∀ i, i < n.length → ∃ x, vs[i]? = some x ∧ Has W x (n.getD i []) ∧ Typed eb W x)
  (hu : Has W u l) (htu : Typed eb W u) (hne : eb ≠ el) (ho : w'.ownsRow B el 1 v' m (vs ++ [u])) (hm : m = n.length + 1) (hg : W.grownBy w' v.ownBlock) : OwnT B el eb w' v' (n ++ [l]) := by
 have hl : vs.length = n.length := by have := hvs.1; simpa using this
 subst hm
 refine ⟨vs ++ [u], by simpa using ho, fun i hi => ?_⟩
 simp at hi
 by_cases h : i < n.length
 ·obtain ⟨x, h1, h2, h3⟩ := hva i h
  have := Has.off_row hvs hne h2 h3 hg
  refine ⟨x, by rw [List.getElem?_append_left (by omega)]; exact h1, ?_, this.2⟩
  rw [List.getD_eq_getElem?_getD, List.getElem?_append_left h, ← List.getD_eq_getElem?_getD]
  exact this.1
 ·obtain rfl : i = n.length := by omega
  have := Has.off_row hvs hne hu htu hg
  refine ⟨u, by rw [← hl]; simp, ?_, this.2⟩
  rw [List.getD_eq_getElem?_getD]
  simp
  exact this.1
theorem Has.off_cell {eb t : TypeId} {w : World} {x : Value} {l : List Int} {q j : Nat} {c : Array Value} (h : Has w x l) (ht : Typed eb w x) (hk : w.heap[q]? = some (.cells c t)) (hne : t ≠ eb) (u : Value) : Has (w.setCell ⟨q, j, none⟩ u) x l ∧ Typed eb (w.setCell ⟨q, j, none⟩ u) x := by
 have hg := grown_setCell w ⟨q, j, none⟩ u
 have key : ∀ g off len cap, x = .slice (some ⟨g, off, none⟩) len cap → (w.setCell ⟨q, j, none⟩ u).heap[g]? = w.heap[g]? := fun g off len cap e => by
  obtain ⟨c', fr, h1⟩ := ht g off len cap e
  refine hg.block g (VC h1) ?_
  intro e'
  have e2 : g = q := by simpa using e'
  subst e2
  rw [hk] at h1
  simp at h1
  exact hne h1.2.1
 refine ⟨?_, fun g off len cap e => ?_⟩
 ·rcases h with h | ⟨g, off, cap, e, h1, h2, h3, h4⟩
  ·exact .inl h
  ·refine .inr ⟨g, off, cap, e, Nat.lt_of_lt_of_le h1 hg.size, h2, h3, fun i hi => ?_⟩
   have hc := h4 i hi
   unfold World.cell? at hc ⊢
   rw [key g off _ cap e]
   exact hc
 ·obtain ⟨c', fr, h1⟩ := ht g off len cap e
  exact ⟨c', fr, (key g off len cap e).trans h1⟩
theorem OwnT.set {B q j : Nat} {el eb t : TypeId} {w : World} {v : Value} {n : List (List Int)} {c : Array Value} (h : OwnT B el eb w v n) (hk : w.heap[q]? = some (.cells c t)) (h1 : t ≠ el) (h2 : t ≠ eb) (u : Value) : OwnT B el eb (w.setCell ⟨q, j, none⟩ u) v n := by
 obtain ⟨vs, h3, h4⟩ := h
 have hap := row_apart h3 hk h1
 refine ⟨vs, World.ownsRow.kept h3 (grown_setCell w ⟨q, j, none⟩ u) (by cases hq : v.ownBlock with | none => exact .inl rfl | some r => exact .inr (by intro e; simp at e; rw [hq, e] at hap; exact hap rfl)), fun i hi => ?_⟩
 obtain ⟨x, h5, h6, h7⟩ := h4 i hi
 have := Has.off_cell (j := j) h6 h7 hk h2 u
 exact ⟨x, h5, this.1, this.2⟩
end Go.Proofs.YtbabmdiklefgcaaGreatDoor

namespace Go.Proofs.YtbabmdiklefgcaaGreatDoor
open Go.RowKit

def OwnB (C E : Nat) (e : TypeId) (w : World) (v : Value) (l : List Int) : Prop := Own C e w v l ∧ ∀ q, v.ownBlock = some q → q < E

theorem Own.here {C : Nat} {e : TypeId} {w : World} {v : Value} {l : List Int} (h : Own C e w v l) : OwnB C w.heap.size e w v l := ⟨h, fun q hq => (h.lt q hq).2⟩
theorem OwnB.has {C E : Nat} {e : TypeId} {w : World} {v : Value} {l : List Int} (h : OwnB C E e w v l) : Has w v l := h.1.has
theorem OwnB.below {C E : Nat} {e : TypeId} {w w' : World} {v : Value} {l : List Int} (h : OwnB C E e w v l) (hb : Below w.heap.size w w') : OwnB C E e w' v l := ⟨h.1.below hb, h.2⟩
theorem OwnB.outside {C E B D : Nat} {e : TypeId} {w w' : World} {v : Value} {l : List Int} (h : OwnB C E e w v l) (u : Outside B D w w') (hd : E ≤ B ∨ D ≤ C) : OwnB C E e w' v l := by
 refine ⟨⟨h.1.1, ?_⟩, h.2⟩
 rcases h.1.2 with hn | ⟨g, cap, cur, hv, hb, hg, rest⟩
 ·exact .inl hn
 ·refine .inr ⟨g, cap, cur, hv, hb, ?_, rest⟩
  have h1 := h.1.lt g (by rw [hv]; rfl)
  have h2 := h.2 g (by rw [hv]; rfl)
  rw [u.block g h1.2 (by omega)]
  exact hg
theorem ownsRow_outside {C B D n : Nat} {e : TypeId} {w w' : World} {v : Value} {xs : List Value} (h : w.ownsRow C e 1 v n xs) (u : Outside B D w w') (hq : ∀ q, v.ownBlock = some q → q < B ∨ D ≤ q) : w'.ownsRow C e 1 v n xs := by
 have h' := h
 refine ⟨h.1, ?_⟩
 rcases h.2 with hn | ⟨g, cap, cur, hv, hb, hg, rest⟩
 ·exact .inl hn
 ·refine .inr ⟨g, cap, cur, hv, hb, ?_, rest⟩
  have h1 := h'.lt g (by rw [hv]; rfl)
  have h2 := hq g (by rw [hv]; rfl)
  rw [u.block g h1.2 h2]
  exact hg

theorem OwnN.outside {C E B D : Nat} {el eb : TypeId} {w w' : World} {v : Value} {n : List (List Int)} (h : OwnN C E el eb w v n) (u : Outside B D w w') (hd : E ≤ B ∨ D ≤ C) : OwnN C E el eb w' v n := by
 obtain ⟨vs, ho, hu, hdis, hv, he⟩ := h
 refine ⟨vs, ownsRow_outside ho u (fun q hq => ?_), fun i hi => ?_, hdis, hv, he⟩
 ·have := (World.ownsRow.lt ho q hq).1
  have := hv q hq
  omega
 ·obtain ⟨x, h1, h2⟩ := hu i hi
  refine ⟨x, h1, ownsRow_outside h2 u (fun q hq => ?_)⟩
  have := (h2.lt q hq).1
  have := he i x q h1 hq
  omega
theorem OwnN.hasL {C E : Nat} {el eb : TypeId} {w : World} {v : Value} {n : List (List Int)} (h : OwnN C E el eb w v n) : HasL w v n := h.ownL.hasL
end Go.Proofs.YtbabmdiklefgcaaGreatDoor

namespace Go.Proofs.YtbabmdiklefgcaaGreatDoor
open Go.RowKit

section
variable {P : Program} {w : World}
theorem append_row {ops : Array Oper} {rest : List Oper} {o : Oper} {a : Act} {Q : Exit → Act → World → Prop} (hgd : o.guard = none) (s x : Operand) (t e : TypeId)
  (ho : o.op = .call { callee := .builtin .append, args := #[s, x], argTypes := #[t, t] }) (ht : P.underlying t = some (.slice e))
  (hinfo : (P.info? e).map (fun i => (i.zero, i.size, i.bytes)) = some (some (.slice none 0 0), 1, 24))
  (base : Nat) (v vx : Value) (xs us : List Value) (hs : a.eval s = v) (hx : a.eval x = vx) (hown : w.ownsRow base e 1 v xs.length xs)
  (hr : (vx = .slice none 0 0 ∧ us = []) ∨ ∃ ad cap, vx = .slice (some ad) us.length cap ∧ ∀ j y, us[j]? = some y → w.cell? (ad.add j) = some y) (hu : ∀ y ∈ us, y.oneCell' = true)
  (hlen : xs.length + us.length ≤ 1099511627776) (hbase : base ≤ w.heap.size)
  (h : ∀ v' w', w'.ownsRow base e 1 v' (xs.length + us.length) (xs ++ us) → w.grownBy w' v.ownBlock → wpList P ops Q rest (a.put o.dst v') w') : wpList P ops Q (o :: rest) a w := by
 obtain ⟨i0, hi, hz0, hz1, hz2⟩ := info_parts hinfo
 rcases hr with ⟨rfl, rfl⟩ | ⟨ad, cap, rfl, hc⟩
 ·refine wpList_append_own_none hgd s x t ho base e i0 1 ht hi v xs.length xs hs hown hx ?_
  exact h v w (by simpa using hown) ⟨rfl, rfl, rfl, Nat.le_refl _, fun _ _ _ => rfl⟩
 ·refine wpList_append_own w hgd s x t ho base e i0 (.slice none 0 0) 1 24 ht hi hz0 hz1 hz2 rfl (by decide) v xs.length xs hs hown ad us.length cap us hx (by simp) hc hu (by unfold maxLen; omega) (by omega) hbase ?_
  intro v' w' ho' hg _
  exact h v' w' ho' hg
end

end Go.Proofs.YtbabmdiklefgcaaGreatDoor

namespace Go.Proofs.YtbabmdiklefgcaaGreatDoor
open Go.RowKit
set_option linter.unusedVariables false

theorem snoc_bound {n : List (List Int)} {l : List Int} {k : Nat} (h : ∀ i, i < n.length → (n.getD i []).length ≤ k) (hl : l.length ≤ k) : ∀ i, i < (n ++ [l]).length → ((n ++ [l]).getD i []).length ≤ k := by
 intro i hi
 simp at hi
 by_cases h1 : i < n.length
 ·rw [List.getD_eq_getElem?_getD, List.getElem?_append_left h1, ← List.getD_eq_getElem?_getD]
  exact h i h1
 ·obtain rfl : i = n.length := by omega
  rw [List.getD_eq_getElem?_getD]
  simpa using hl
theorem typed_const (w : World) (eb : TypeId) (C : Array Value) (fr : Nat × Nat) (n c : Nat) : Typed eb (w.alloc (.cells C eb fr)) (.slice (some ⟨w.heap.size, 0, none⟩) n c) := fun g off len cap e => by
 cases e
 exact ⟨C, fr, heap_alloc_new w (.cells C eb fr)⟩
theorem OwnT.form {B : Nat} {el eb : TypeId} {w : World} {v : Value} {n : List (List Int)} (h : OwnT B el eb w v n) : ∃ oa oc, v = .slice oa n.length oc := by
 obtain ⟨vs, h1, _⟩ := h
 rcases h1.2 with ⟨rfl, h0⟩ | ⟨g, cap, _, rfl, _⟩
 ·exact ⟨none, 0, by rw [h0]⟩
 ·exact ⟨_, cap, rfl⟩
def BentL (w W w1 : World) (g : Nat) (a : Option Addr) (len cap : Nat) (k : Nat) (wr : World) : Prop :=
 ∃ (n : List (List Int)) (v : Value), n.length + k = 7 ∧ (∀ i, i < n.length → (n.getD i []).length ≤ 16) ∧ wr.heap[w1.heap.size]? = some (.cells #[v] 37) ∧ wr.heap[w.heap.size]? = some (.cells #[.slice none 0 0] 37)
  ∧ OwnT W.heap.size 22 5 wr v n ∧ Cur wr g a len cap ∧ w.grownBy wr (some g)
theorem bent_step {B q r g m len cap : Nat} {a : Option Addr} {w0 w W w' : World} {v v' u z : Value} {n : List (List Int)} {l : List Int} {vs : List Value}
  (hvs : w.ownsRow B 22 1 v n.length vs) (hva : ∀ i, i < n.length → ∃ x, vs[i]? = some x ∧ Has w x (n.getD i []) ∧ Typed 5 w x) (hb : Below w.heap.size w W)
  (hu : Has W u l) (htu : Typed 5 W u) (ho : w'.ownsRow B 22 1 v' m (vs ++ [u])) (hm : m = n.length + 1) (hg : W.grownBy w' v.ownBlock)
  (hq : w.heap[q]? = some (.cells #[v] 37)) (hr : w.heap[r]? = some (.cells #[z] 37)) (hqr : q ≠ r) (hc : Cur w g a len cap) (hgB : g < B) (hgq : g < q) (h0 : w0.grownBy w (some g)) (hB : w0.heap.size ≤ B) (hq0 : w0.heap.size ≤ q) :
  w'.heap[q]? = some (.cells #[v] 37) ∧ OwnT B 22 5 (w'.setCell ⟨q, 0, none⟩ v') v' (n ++ [l]) ∧ (w'.setCell ⟨q, 0, none⟩ v').heap[q]? = some (.cells #[v'] 37) ∧ (w'.setCell ⟨q, 0, none⟩ v').heap[r]? = some (.cells #[z] 37)
   ∧ Cur (w'.setCell ⟨q, 0, none⟩ v') g a len cap ∧ w0.grownBy (w'.setCell ⟨q, 0, none⟩ v') (some g) := by
 have hW := ownsRow_kept' hvs hb
 have hap := row_apart hW (UE hb hq) (by decide)
 have har := row_apart hW (UE hb hr) (by decide)
 have k1 := block_grown hg (UE hb hq) hap
 have k2 := block_grown hg (UE hb hr) har
 have o1 : OwnT B 22 5 w' v' (n ++ [l]) := OwnT.snoc hW (fun i hi => by obtain ⟨x, h1, h2, h3⟩ := hva i hi; exact ⟨x, h1, h2.below hb, h3.below hb⟩) hu htu (by decide) ho hm hg
 have gs := grown_setCell w' ⟨q, 0, none⟩ v'
 have hlt := World.ownsRow.lt hW
 have gb : w.grownBy W none := ⟨hb.os, hb.tape, hb.output, hb.size, fun i hi _ => hb.block i hi⟩
 refine ⟨k1, o1.set k1 (by decide) (by decide) _, block_set k1 v', block_grown gs k2 (by simpa using hqr), ?_, ?_⟩
 ·exact ((hc.later gb (fun j e => by cases e)).later hg (fun j e => by have := (hlt j e).1; omega)).later gs (fun j e => by cases e; exact hgq)
 ·exact grown_own (grown_own (grown_own h0 gb (fun j e => by cases e)) hg (fun j e => by have := (hlt j e).1; omega)) gs (fun j e => by cases e; exact hq0)
theorem OwnT.hasL {B : Nat} {el eb : TypeId} {w : World} {v : Value} {n : List (List Int)} (h : OwnT B el eb w v n) : HasL w v n := by
 obtain ⟨vs, h1, h2⟩ := h
 rcases h1.2 with ⟨rfl, hn⟩ | ⟨g, cap, cur, rfl, hb, hg, hn, hm, hs, ht⟩
 ·exact .inl ⟨rfl, List.eq_nil_of_length_eq_zero hn⟩
 ·refine .inr ⟨g, 0, cap, rfl, (World.ownsRow.lt h1 g rfl).2, hn, hm, fun i hi => ?_⟩
  obtain ⟨x, h3, h4, _⟩ := h2 i hi
  refine ⟨x, ?_, h4⟩
  rw [Nat.zero_add, World.ownsRow.cellAt h1 i (by omega), h3]
theorem OwnT.off {B q : Nat} {el eb t : TypeId} {w w' : World} {v : Value} {n : List (List Int)} {c : Array Value} (h : OwnT B el eb w v n) (hk : w.heap[q]? = some (.cells c t)) (h1 : t ≠ el) (h2 : t ≠ eb) (hg : w.grownBy w' (some q)) : OwnT B el eb w' v n := by
 obtain ⟨vs, h3, h4⟩ := h
 have hap := row_apart h3 hk h1
 refine ⟨vs, World.ownsRow.kept h3 hg (.inr hap), fun i hi => ?_⟩
 obtain ⟨x, h5, h6, h7⟩ := h4 i hi
 have key : ∀ g off len cap, x = .slice (some ⟨g, off, none⟩) len cap → w'.heap[g]? = w.heap[g]? := fun g off len cap e => by
  obtain ⟨c', fr, e1⟩ := h7 g off len cap e
  refine hg.block g (VC e1) ?_
  intro e'
  have e2 : g = q := by simpa using e'
  subst e2
  rw [hk] at e1
  simp at e1
  exact h2 e1.2.1
 refine ⟨x, h5, ?_, fun g off len cap e => ?_⟩
 ·rcases h6 with h | ⟨g, off, cap, e, e1, e2, e3, e4⟩
  ·exact .inl h
  ·refine .inr ⟨g, off, cap, e, Nat.lt_of_lt_of_le e1 hg.size, e2, e3, fun i hi => ?_⟩
   have hc := e4 i hi
   unfold World.cell? at hc ⊢
   rw [key g off _ cap e]
   exact hc
 ·obtain ⟨c', fr, e1⟩ := h7 g off len cap e
  exact ⟨c', fr, (key g off len cap e).trans e1⟩
theorem OwnT.cur {B g len cap : Nat} {a : Option Addr} {w w' : World} {v : Value} {n : List (List Int)} (h : OwnT B 22 5 w v n) (hc : Cur w g a len cap) (hg : w.grownBy w' (some g)) : OwnT B 22 5 w' v n := by
 obtain ⟨i, x, h1, _⟩ := hc
 exact h.off h1 (by decide) (by decide) hg
section
variable {P : Program} {w : World}

end

theorem Has.part {w : World} {g off len cap : Nat} {l : List Int} (h : Has w (.slice (some ⟨g, off, none⟩) len cap) l) {i m : Nat} (hi : i + m ≤ l.length) (o c : Nat) (ho : o = off + i ∨ m = 0) : Reads w (.slice (some ⟨g, o, none⟩) m c) ((l.drop i).take m) := by
 have hlen : ((l.drop i).take m).length = m := by simp; omega
 refine .inr ⟨⟨g, o, none⟩, c, by rw [hlen], fun j hj => ?_⟩
 rw [hlen] at hj
 obtain rfl : o = off + i := by omega
 rcases h with ⟨hv, _⟩ | ⟨g', off', cap', hv, _, _, _, hc⟩
 ·cases hv
 ·simp only [Value.slice.injEq, Option.some.injEq, Addr.mk.injEq] at hv
  obtain ⟨⟨rfl, rfl, _⟩, _, _⟩ := hv
  rw [Addr.add_lit, Nat.add_assoc, hc (i + j) (by omega)]
  congr 2
  simp only [List.getD_eq_getElem?_getD]
  rw [List.getElem?_take_of_lt hj, List.getElem?_drop]
theorem Has.head {w : World} {g off len cap : Nat} {l : List Int} (h : Has w (.slice (some ⟨g, off, none⟩) len cap) l) {i : Nat} (hi : i ≤ l.length) : Has w (.slice (some ⟨g, off, none⟩) i cap) (l.take i) := by
 have e : (l.take i).length = i := by simp; omega
 rcases h with ⟨hv, _⟩ | ⟨g', off', cap', hv, h1, h2, h3, hc⟩
 ·cases hv
 ·simp only [Value.slice.injEq, Option.some.injEq, Addr.mk.injEq] at hv
  obtain ⟨⟨rfl, rfl, _⟩, _, rfl⟩ := hv
  refine .inr ⟨g, off, cap, by rw [e], h1, by rw [e]; omega, h3, fun k hk => ?_⟩
  rw [e] at hk
  rw [hc k (by omega)]
  congr 2
  simp only [List.getD_eq_getElem?_getD]
  rw [List.getElem?_take_of_lt hk]
theorem Has.off {q : Nat} {eb t : TypeId} {w w' : World} {x : Value} {l : List Int} {c : Array Value} (h : Has w x l) (ht : Typed eb w x) (hk : w.heap[q]? = some (.cells c t)) (hne : t ≠ eb) (hg : w.grownBy w' (some q)) : Has w' x l ∧ Typed eb w' x := by
 have key : ∀ g off len cap, x = .slice (some ⟨g, off, none⟩) len cap → w'.heap[g]? = w.heap[g]? := fun g off len cap e => by
  obtain ⟨c', fr, h1⟩ := ht g off len cap e
  refine hg.block g (VC h1) ?_
  intro e'
  have e2 : g = q := by simpa using e'
  subst e2
  rw [hk] at h1
  simp at h1
  exact hne h1.2.1
 refine ⟨?_, fun g off len cap e => ?_⟩
 ·rcases h with h | ⟨g, off, cap, e, h1, h2, h3, h4⟩
  ·exact .inl h
  ·refine .inr ⟨g, off, cap, e, Nat.lt_of_lt_of_le h1 hg.size, h2, h3, fun i hi => ?_⟩
   have hc := h4 i hi
   unfold World.cell? at hc ⊢
   rw [key g off _ cap e]
   exact hc
 ·obtain ⟨c', fr, h1⟩ := ht g off len cap e
  exact ⟨c', fr, (key g off len cap e).trans h1⟩
theorem Has.cur {g len cap : Nat} {a : Option Addr} {w w' : World} {x : Value} {l : List Int} (h : Has w x l) (ht : Typed 5 w x) (hc : Cur w g a len cap) (hg : w.grownBy w' (some g)) : Has w' x l ∧ Typed 5 w' x := by
 obtain ⟨i, y, h1, _⟩ := hc
 exact h.off ht h1 (by decide) hg
end Go.Proofs.YtbabmdiklefgcaaGreatDoor

namespace Go.Proofs.YtbabmdiklefgcaaGreatDoor
open Go.RowKit

def LiesI (w : World) (a : Option Addr) (l : List Int) : Prop :=
 l = [] ∨ ∃ b off, a = some ⟨b, off, none⟩ ∧ b < w.heap.size ∧ ∀ i, i < l.length → w.cell? ⟨b, off + i, none⟩ = some (.int .i64 (l.getD i 0))

def OwnI (B : Nat) (e : TypeId) (w : World) (v : Value) (l : List Int) : Prop := w.ownsRow B e 1 v l.length (l.map (Value.int .i64))

theorem LiesI.below {w w' : World} {a : Option Addr} {l : List Int} (h : LiesI w a l) (hb : Below w.heap.size w w') : LiesI w' a l := by
 rcases h with rfl | ⟨b, off, rfl, hlt, hc⟩
 ·exact .inl rfl
 ·exact .inr ⟨b, off, rfl, Nat.lt_of_lt_of_le hlt hb.size, fun i hi => (hb.cell (p := ⟨b, off + i, none⟩) hlt).trans (hc i hi)⟩

theorem LiesI.cell {w w' : World} {a : Option Addr} {l : List Int} (h : LiesI w a l) (hb : Below w.heap.size w w') {k : Nat} (hk : k < l.length) :
  ∃ b off, a = some ⟨b, off, none⟩ ∧ b < w.heap.size ∧ w'.cell? ⟨b, off + k, none⟩ = some (.int .i64 (l.getD k 0)) := by
 rcases h with rfl | ⟨b, off, rfl, hlt, hc⟩
 ·simp at hk
 ·exact ⟨b, off, rfl, hlt, (hb.cell (p := ⟨b, off + k, none⟩) hlt).trans (hc k hk)⟩

theorem LiesI.here {w : World} {a : Option Addr} {l : List Int} (h : LiesI w a l) {k : Nat} (hk : k < l.length) :
  ∃ b off, a = some ⟨b, off, none⟩ ∧ b < w.heap.size ∧ w.cell? ⟨b, off + k, none⟩ = some (.int .i64 (l.getD k 0)) := h.cell (Below.refl _ _) hk

theorem map_atI (l : List Int) (j : Nat) (hj : j < l.length) : (l.map (Value.int .i64))[j]? = some (.int .i64 (l.getD j 0)) := by
 simp [hj]

section
variable {B : Nat} {e : TypeId} {w w' : World} {v : Value} {l : List Int}

theorem OwnI.form (h : OwnI B e w v l) : (v = .slice none 0 0 ∧ l = []) ∨
  ∃ g cap, v = .slice (some ⟨g, 0, none⟩) l.length cap ∧ B ≤ g ∧ g < w.heap.size ∧ l.length ≤ cap ∧ cap ≤ maxLen ∧
   (∀ i, i < l.length → w.cell? ⟨g, i, none⟩ = some (.int .i64 (l.getD i 0))) ∧ ∀ i, w.frozen? ⟨g, i, none⟩ = false := by
 have h' := h
 rcases h.2 with ⟨rfl, hn⟩ | ⟨g, cap, cur, rfl, hb, hg, hn, hm, hs, ht⟩
 ·exact .inl ⟨rfl, List.eq_nil_of_length_eq_zero hn⟩
 ·refine .inr ⟨g, cap, rfl, hb, (h'.lt g rfl).2, hn, hm, fun i hi => ?_, fun i => World.ownsRow.frozenAt h' i⟩
  rw [World.ownsRow.cellAt h' i (by omega), map_atI l i hi]

theorem OwnI.lies (h : OwnI B e w v l) : ∃ a cap, v = .slice a l.length cap ∧ LiesI w a l := by
 rcases h.form with ⟨rfl, rfl⟩ | ⟨g, cap, rfl, _, hlt, _, _, hc, _⟩
 ·exact ⟨none, 0, rfl, .inl rfl⟩
 ·exact ⟨_, cap, rfl, .inr ⟨g, 0, rfl, hlt, fun i hi => by simpa using hc i hi⟩⟩

theorem OwnI.mono {B' : Nat} (h : OwnI B e w v l) (hB : B' ≤ B) : OwnI B' e w v l := by
 refine ⟨h.1, ?_⟩
 rcases h.2 with hn | ⟨g, cap, cur, hv, hb, rest⟩
 ·exact .inl hn
 ·exact .inr ⟨g, cap, cur, hv, Nat.le_trans hB hb, rest⟩

theorem OwnI.lt (h : OwnI B e w v l) : ∀ k, v.ownBlock = some k → B ≤ k ∧ k < w.heap.size := World.ownsRow.lt h

theorem OwnI.kept {row : Option Nat} (h : OwnI B e w v l) (hg : w.grownBy w' row) (hne : v.ownBlock = none ∨ v.ownBlock ≠ row) : OwnI B e w' v l := World.ownsRow.kept h hg hne

theorem OwnI.below (h : OwnI B e w v l) (hb : Below w.heap.size w w') : OwnI B e w' v l := by
 refine h.kept (grown_of_below hb) ?_
 cases hv : v.ownBlock with
 | none => exact .inl rfl
 | some k => exact .inr (by simp)

end

theorem OwnI.alloc {B : Nat} {e : TypeId} {w : World} {v : Value} {l : List Int} (h : OwnI B e w v l) (o : Obj) : OwnI B e (w.alloc o) v l := World.ownsRow.alloc h o

def HasI (w : World) (v : Value) (l : List Int) : Prop :=
 (v = .slice none 0 0 ∧ l = []) ∨ ∃ g off cap, v = .slice (some ⟨g, off, none⟩) l.length cap ∧ g < w.heap.size ∧ l.length ≤ cap ∧ cap ≤ maxLen ∧ ∀ i, i < l.length → w.cell? ⟨g, off + i, none⟩ = some (.int .i64 (l.getD i 0))

theorem OwnI.has {B : Nat} {e : TypeId} {w : World} {v : Value} {l : List Int} (h : OwnI B e w v l) : HasI w v l := by
 rcases h.form with h | ⟨g, cap, hv, _, hlt, hl, hm, hc, _⟩
 ·exact .inl h
 ·exact .inr ⟨g, 0, cap, hv, hlt, hl, hm, fun i hi => by rw [Nat.zero_add]; exact hc i hi⟩

theorem HasI.below {w w' : World} {v : Value} {l : List Int} (h : HasI w v l) (hb : Below w.heap.size w w') : HasI w' v l := by
 rcases h with h | ⟨g, off, cap, hv, hlt, hl, hm, hc⟩
 ·exact .inl h
 ·exact .inr ⟨g, off, cap, hv, Nat.lt_of_lt_of_le hlt hb.size, hl, hm, fun i hi => (hb.cell (p := ⟨g, off + i, none⟩) hlt).trans (hc i hi)⟩

theorem HasI.form {w : World} {v : Value} {l : List Int} (h : HasI w v l) : ∃ a cap, v = .slice a l.length cap ∧ LiesI w a l := by
 rcases h with ⟨rfl, rfl⟩ | ⟨g, off, cap, rfl, hlt, _, _, hc⟩
 ·exact ⟨none, 0, rfl, .inl rfl⟩
 ·exact ⟨_, cap, rfl, .inr ⟨g, off, rfl, hlt, hc⟩⟩

def OwnBI (C E : Nat) (e : TypeId) (w : World) (v : Value) (l : List Int) : Prop := OwnI C e w v l ∧ ∀ q, v.ownBlock = some q → q < E
theorem OwnI.here {C : Nat} {e : TypeId} {w : World} {v : Value} {l : List Int} (h : OwnI C e w v l) : OwnBI C w.heap.size e w v l := ⟨h, fun q hq => (h.lt q hq).2⟩
theorem OwnBI.has {C E : Nat} {e : TypeId} {w : World} {v : Value} {l : List Int} (h : OwnBI C E e w v l) : HasI w v l := h.1.has
theorem OwnBI.below {C E : Nat} {e : TypeId} {w w' : World} {v : Value} {l : List Int} (h : OwnBI C E e w v l) (hb : Below w.heap.size w w') : OwnBI C E e w' v l := ⟨h.1.below hb, h.2⟩
theorem OwnBI.outside {C E B D : Nat} {e : TypeId} {w w' : World} {v : Value} {l : List Int} (h : OwnBI C E e w v l) (u : Outside B D w w') (hd : E ≤ B ∨ D ≤ C) : OwnBI C E e w' v l :=
 ⟨ownsRow_outside h.1 u (fun q hq => by have h1 := (h.1.lt q hq).1; have h2 := h.2 q hq; omega), h.2⟩
end Go.Proofs.YtbabmdiklefgcaaGreatDoor
