/-
  Plain facts: one struct more behind a row that owns its structs. No program is named here. Plain facts: what a store into two cells of another block leaves.
-/
import Derived.Test.YtjgfljndeolmoaaFnInsidesG23
import Derived.Test.YtjgfljndeolmoaaFnInsidesG01
import Derived.Test.YtjgfljndeolmoaaFnInsidesG03
namespace Go.Proofs.Ytjgfljndeolmoaa
open Go.RowKit
set_option linter.unusedVariables false

theorem OwnsG.grown {α : Type} {c : Nat} {O : Nat → Nat → World → List Value → α → Prop} (hO : OwnsG c O) {B e : Nat} {w w' : World} {vs : List Value} {x : α} {row : Option Nat} (h : O B e w vs x) (hg : w.grownBy w' row) (hr : ∀ q, row = some q → q < B ∨ e ≤ q) : O B e w' vs x := by
 cases hrow : row with
 | none =>
  subst hrow
  exact hO.below h (below_of_grown hg)
 | some q =>
  subst hrow
  have u : Outside q (q + 1) w w' := outside_grown hg (fun k hk => by injection hk with hk; omega)
  have := hr q rfl
  exact hO.outside h u (by omega)
section
variable {α : Type} {c : Nat} {O : Nat → Nat → World → List Value → α → Prop} {d : α} {B E C D : Nat} {e : TypeId} {W w' : World} {v v' : Value} {xs : List α} {x : α} {us : List Value}
theorem RowX.snoc (hO : OwnsG c O) (h : RowX c O d B E e W v xs) (hE : E ≤ C) (hCD : C ≤ D) (hD : D ≤ W.heap.size) (hr : O C D W us x) (hB : B ≤ C) (hg : W.grownBy w' v.ownBlock) (hw : v'.ownBlock = v.ownBlock ∨ v'.ownBlock = some W.heap.size)
  (ho : ∀ cs, W.ownsRow B e c v xs.length cs → w'.ownsRow B e c v' (xs.length + 1) (cs ++ us)) : RowX c O d B w'.heap.size e w' v' (xs ++ [x]) := by
 obtain ⟨cs, f, g, h0, hq, hx⟩ := h
 have ho' := ho cs h0
 have hlen : cs.length = xs.length * c := h0.1
 have hz := hg.size
 have hvq : ∀ q, v.ownBlock = some q → q < C ∨ D ≤ q := fun q e => by have := hq q e; omega
 refine ⟨cs ++ us, fun i => if i < xs.length then f i else C, fun i => if i < xs.length then g i else D, by rw [List.length_append]; exact ho', fun q e => (World.ownsRow.lt ho' q e).2, fun i hi => ?_⟩
 rw [List.length_append] at hi
 simp only [List.length_cons, List.length_nil] at hi
 by_cases hlt : i < xs.length
 ·obtain ⟨h1, h2, h3, h4, vs, q1, q2⟩ := hx i hlt
  simp only [hlt, if_true]
  have e1 : (xs ++ [x]).getD i d = xs.getD i d := by rw [List.getD_eq_getElem?_getD, List.getElem?_append_left hlt, ← List.getD_eq_getElem?_getD]
  rw [e1]
  refine ⟨h1, by omega, fun k hk => ?_, fun q e => ?_, vs, fun j u hj => ?_, hO.grown q2 hg h4⟩
  ·rw [if_pos (by omega)]
   exact h3 k hk
  ·rcases hw with hw | hw
   ·rw [hw] at e
    exact h4 q e
   ·rw [hw] at e
    injection e with e
    omega
  ·have hjc : j < c := by rw [← hO.cells q2]; exact (List.getElem?_eq_some_iff.1 hj).1
   rw [List.getElem?_append_left (by rw [hlen]; exact idx_lt hlt hjc)]
   exact q1 j u hj
 ·obtain rfl : i = xs.length := by omega
  simp only [Nat.lt_irrefl, if_false]
  have e1 : (xs ++ [x]).getD xs.length d = x := by rw [List.getD_eq_getElem?_getD]; simp
  rw [e1]
  refine ⟨hB, by omega, fun k hk => ?_, fun q e => ?_, us, fun j u hj => ?_, hO.grown hr hg hvq⟩
  ·rw [if_pos hk]
   have := (hx k hk).2.1
   omega
  ·rcases hw with hw | hw
   ·rw [hw] at e
    exact hvq q e
   ·rw [hw] at e
    injection e with e
    omega
  ·rw [List.getElem?_append_right (by omega), hlen, Nat.add_sub_cancel_left]
   exact hj
/-- A row of one struct, just made. -/
theorem RowX.one (hO : OwnsG c O) {g : Nat} {cs : Array Value} {w : World} (hg : w.heap[g]? = some (.cells cs e)) (hc : cs.toList = us) (hul : us.length = c) (hr : O C D w us x) (hBg : B ≤ g) (hBC : B ≤ C) (hCD : C ≤ D) (hDE : D ≤ E) (hgE : g < E) (hgo : g < C ∨ D ≤ g) : RowX c O d B E e w (.slice (some ⟨g, 0, none⟩) 1 1) [x] := by
 have hs : cs.size = c := by rw [← Array.length_toList, hc, hul]
 refine ⟨us, fun _ => C, fun _ => D, ⟨by simp [hul], .inr ⟨g, 1, cs, rfl, hBg, hg, Nat.le_refl _, by unfold maxLen; omega, by omega, ?_⟩⟩, fun q e => ?_, fun i hi => ?_⟩
 ·rw [hc]
  exact List.take_of_length_le (by simp only [List.length_cons, List.length_nil]; omega)
 ·injection e with e
  have e' : g = q := e
  omega
 ·simp only [List.length_cons, List.length_nil] at hi
  obtain rfl : i = 0 := by omega
  refine ⟨hBC, hDE, fun k hk => absurd hk (Nat.not_lt_zero _), fun q e => ?_, us, fun j u hj => by rwa [Nat.zero_mul, Nat.zero_add], hr⟩
  injection e with e
  have e' : g = q := e
  subst e'
  exact hgo
end
section
variable {P : Program} {w : World}
end
end Go.Proofs.Ytjgfljndeolmoaa

namespace Go.Proofs.Ytjgfljndeolmoaa
open Go.RowKit

theorem keepTwo {w : World} {g Z : Nat} {ob : Obj} {u v : Value} (h : w.heap[g]? = some ob) (hne : g ≠ Z) : ((w.setCell ⟨Z, 0, none⟩ u).setCell ⟨Z, 1, none⟩ v).heap[g]? = some ob :=
 block_other (block_other h (Ne.symm hne) 0 u) (Ne.symm hne) 1 v
end Go.Proofs.Ytjgfljndeolmoaa
