/-
  Plain facts: lists of texts of the call's own: one more behind, two joined, a part. No program is named here. Plain facts: an own row of texts that are only looked at, whoever owns them (constant texts among them). Plain facts: what is owned in a stretch of blocks stays as it is where a walk writes into another stretch. No program is named here. Plain facts: a row of slices put behind another one; a name with one label more ahead. No program is named here. Plain facts for l2bent: one label more in the box of a name that is drawn. Plain facts: what a drawn name has, and how it fares while more is drawn.
-/
import Derived.Test.YthmihglfffeedaaGreatDoorFnRecordsG02
import Derived.Laws.ResultCell
import Derived.Laws.Rows
import Derived.Test.YthmihglfffeedaaGreatDoorFnRecordsG01
namespace Go.Proofs.YthmihglfffeedaaGreatDoor
open Go.RowKit

theorem OwnL.snoc {B : Nat} {el eb : TypeId} {w w' : World} {v v' u : Value} {n : List (List Int)} {l : List Int} {vs : List Value} (ho : w.ownsRow B el 1 v n.length vs)
  (hu : ∀ i, i < n.length → ∃ x, vs[i]? = some x ∧ Own B eb w x (n.getD i [])) (hd : ∀ (i j : Nat) (x x' : Value), i < j → vs[i]? = some x → vs[j]? = some x' → x.ownBlock = none ∨ x.ownBlock ≠ x'.ownBlock)
  (hul : Own B eb w u l) (hnew : ∀ (i : Nat) (x : Value), vs[i]? = some x → x.ownBlock = none ∨ x.ownBlock ≠ u.ownBlock)
  (ho' : w'.ownsRow B el 1 v' (n.length + 1) (vs ++ [u])) (hg : w.grownBy w' v.ownBlock) (hne : el ≠ eb) : OwnL B el eb w' v' (n ++ [l]) := by
 have hl : vs.length = n.length := by have := ho.1; simpa using this
 have apart : ∀ x m, Own B eb w x m → x.ownBlock = none ∨ x.ownBlock ≠ v.ownBlock := by
  intro x m hx
  rcases hx.2 with ⟨rfl, _⟩ | ⟨g, cap, cur, rfl, _, hgx, _⟩
  ·exact .inl rfl
  ·right
   intro e
   rcases ho.2 with ⟨rfl, _⟩ | ⟨g', cap', cur', rfl, _, hgv, _⟩
   ·simp [Value.ownBlock] at e
   ·simp [Value.ownBlock] at e
    subst e
    rw [hgx] at hgv
    simp at hgv
    exact hne hgv.2.symm
 refine ⟨vs ++ [u], by simpa using ho', fun i hi => ?_, fun i j x x' hij hx hx' => ?_⟩
 ·simp at hi
  by_cases e : i < n.length
  ·obtain ⟨x, h1, h2⟩ := hu i e
   refine ⟨x, by rw [List.getElem?_append_left (by omega)]; exact h1, ?_⟩
   have e2 : (n ++ [l]).getD i [] = n.getD i [] := by simp [List.getD, List.getElem?_append_left e]
   rw [e2]
   exact h2.kept hg (apart x _ h2)
  ·obtain rfl : i = n.length := by omega
   refine ⟨u, by rw [List.getElem?_append_right (by omega)]; simp [hl], ?_⟩
   have e2 : (n ++ [l]).getD n.length [] = l := by simp [List.getD]
   rw [e2]
   exact hul.kept hg (apart u _ hul)
 ·have hj : j < (vs ++ [u]).length := (List.getElem?_eq_some_iff.1 hx').1
  simp at hj
  rw [List.getElem?_append_left (by omega)] at hx
  by_cases e : j < vs.length
  ·rw [List.getElem?_append_left e] at hx'
   exact hd i j x x' hij hx hx'
  ·obtain rfl : j = vs.length := by omega
   rw [List.getElem?_append_right (by omega)] at hx'
   simp at hx'
   subst hx'
   exact hnew i x hx


theorem ownsRow_kept' {B n : Nat} {e : TypeId} {w w' : World} {v : Value} {xs : List Value} (h : w.ownsRow B e 1 v n xs) (hb : Below w.heap.size w w') : w'.ownsRow B e 1 v n xs := World.ownsRow.kept h (grown_of_below hb) (by cases hq : v.ownBlock with | none => exact .inl rfl | some q => exact .inr (by simp))

theorem row_apart {B b n : Nat} {e t : TypeId} {w : World} {v : Value} {xs : List Value} {c : Array Value} (h : w.ownsRow B e 1 v n xs) (hb : w.heap[b]? = some (.cells c t)) (hne : t ≠ e) : v.ownBlock ≠ some b := by
 intro hq
 rcases h.2 with ⟨rfl, _⟩ | ⟨g, cap, cur, rfl, _, hg, _⟩
 ·simp [Value.ownBlock] at hq
 ·simp [Value.ownBlock] at hq
  subst hq
  rw [hg] at hb
  simp at hb
  exact hne hb.2.symm

theorem snoc_step {B q m : Nat} {el eb t : TypeId} {w W w' : World} {v v' u : Value} {n : List (List Int)} {l : List Int} {vs : List Value} {c : Array Value} (g : W.grownBy w' v.ownBlock) (ho' : w'.ownsRow B el 1 v' m (vs ++ [u])) (hm : m = vs.length + 1)
  (hvs : w.ownsRow B el 1 v n.length vs) (hva : ∀ i, i < n.length → ∃ x, vs[i]? = some x ∧ Own B eb w x (n.getD i [])) (hvd : ∀ (i j : Nat) (x x' : Value), i < j → vs[i]? = some x → vs[j]? = some x' → x.ownBlock = none ∨ x.ownBlock ≠ x'.ownBlock)
  (hb : Below w.heap.size w W) (hu : Own w.heap.size eb W u l) (hB : B ≤ w.heap.size) (hne : el ≠ eb) (hk : W.heap[q]? = some (.cells c t)) (hnt : t ≠ el) :
  OwnL B el eb w' v' (n ++ [l]) ∧ w'.heap[q]? = some (.cells c t) ∧ Below B w w' := by
 have hl : vs.length = n.length := by have := hvs.1; simpa using this
 have hW := ownsRow_kept' hvs hb
 refine ⟨?_, block_grown g hk (row_apart hW hk hnt), ?_⟩
 ·refine OwnL.snoc (w := W) hW (fun i hi => ?_) hvd (hu.mono hB) (fun i x hx => ?_) (by rw [hm, hl] at ho'; exact ho') g hne
  ·obtain ⟨x, h1, h2⟩ := hva i hi
   exact ⟨x, h1, h2.below hb⟩
  ·have hi : i < n.length := by rw [← hl]; exact (List.getElem?_eq_some_iff.1 hx).1
   obtain ⟨x', h1, h2⟩ := hva i hi
   rw [hx] at h1
   obtain rfl : x = x' := by simpa using h1
   exact own_apart h2 hu (Nat.le_refl _)
 ·exact (hb.mono hB).trans ((Below.refl B W).grown g (Nat.le_trans hB hb.size) (fun k hk => (World.ownsRow.lt hW k hk).1))

theorem lit_grown {w w' : World} {o : Obj} {n c : Nat} (g : (w.alloc o).grownBy w' (Value.slice (some ⟨w.heap.size, 0, none⟩) n c).ownBlock) : Below w.heap.size w w' :=
 (UI o).grown g (UI o).size (fun k hk => by simp [Value.ownBlock] at hk; omega)

theorem box2 (w : World) (o : Obj) (c2 : Array Value) (t2 : TypeId) :
  ((w.alloc o).alloc (.cells c2 t2)).heap.size = w.heap.size + 2 ∧ ((w.alloc o).alloc (.cells c2 t2)).heap[w.heap.size]? = some o ∧ ((w.alloc o).alloc (.cells c2 t2)).heap[w.heap.size + 1]? = some (.cells c2 t2) := by
 have e1 : (w.alloc o).heap.size = w.heap.size + 1 := by show (w.heap.push o).size = _; simp
 have e2 : ((w.alloc o).alloc (.cells c2 t2)).heap.size = w.heap.size + 1 + 1 := by rw [← e1]; show ((w.alloc o).heap.push _).size = _; simp
 refine ⟨e2, UE (UI _) (heap_alloc_new w o), ?_⟩
 rw [← e1]; exact heap_alloc_new _ _
theorem below2 (w : World) (o o' : Obj) : Below w.heap.size w ((w.alloc o).alloc o') := (UI _).alloc (UI _).size _

theorem results_cell_tmp_row {P : Program} {fn : Func} {p u : Tmp} {ty : TypeId} (h : fn.results = #[.cell p ty, .tmp u]) (tmps : Array Value) (w : World) (g : Nat) (t : TypeId) (cs : Array Value) (fr : Nat × Nat) (d : TypeDesc)
  (hp : tmps.getD p undef = .pointer (some ⟨g, 0, none⟩)) (hg : w.heap[g]? = some (.cells cs t fr))
  (hu : P.underlying ty = some d) (hd : (match d with | .struct _ | .array _ _ => true | _ => false) = true) (hi : (P.info? ty).map (·.size) = some cs.size) :
  (results fn tmps).run P w = .ok (.tuple #[.agg cs, tmps.getD u undef]) w := by
 rw [results_cell_tmp h, hp]
 simp [asAddr, run_loadVar_row w g t ty cs fr d hg hu hd hi]

end Go.Proofs.YthmihglfffeedaaGreatDoor

namespace Go.Proofs.YthmihglfffeedaaGreatDoor
open Go.RowKit
set_option linter.unusedVariables false

def Typed (eb : TypeId) (w : World) (x : Value) : Prop := ∀ g off len cap, x = .slice (some ⟨g, off, none⟩) len cap → ∃ c fr, w.heap[g]? = some (.cells c eb fr)
def OwnT (B : Nat) (el eb : TypeId) (w : World) (v : Value) (n : List (List Int)) : Prop :=
 ∃ vs : List Value, w.ownsRow B el 1 v n.length vs ∧ ∀ i, i < n.length → ∃ x, vs[i]? = some x ∧ Has w x (n.getD i []) ∧ Typed eb w x
theorem Typed.nil (eb : TypeId) (w : World) : Typed eb w (.slice none 0 0) := fun g off len cap e => by cases e
theorem Typed.below {eb : TypeId} {w w' : World} {x : Value} (h : Typed eb w x) (hb : Below w.heap.size w w') : Typed eb w' x := fun g off len cap e => by
 obtain ⟨c, fr, h1⟩ := h g off len cap e
 exact ⟨c, fr, (hb.block g (VC h1)).trans h1⟩
theorem Own.typed {B : Nat} {eb : TypeId} {w : World} {x : Value} {l : List Int} (h : Own B eb w x l) : Typed eb w x := fun g off len cap e => by
 rcases h.2 with ⟨h1, _⟩ | ⟨g', cap', cur, h1, _, h2, _⟩
 ·rw [h1] at e; cases e
 ·rw [h1] at e; cases e
  exact ⟨_, _, h2⟩
theorem OwnL.ownT {B : Nat} {el eb : TypeId} {w : World} {v : Value} {n : List (List Int)} (h : OwnL B el eb w v n) : OwnT B el eb w v n := by
 obtain ⟨vs, h1, h2, _⟩ := h
 refine ⟨vs, h1, fun i hi => ?_⟩
 obtain ⟨x, h3, h4⟩ := h2 i hi
 exact ⟨x, h3, h4.has, h4.typed⟩
theorem OwnT.mono {B B' : Nat} {el eb : TypeId} {w : World} {v : Value} {n : List (List Int)} (h : OwnT B el eb w v n) (hB : B' ≤ B) : OwnT B' el eb w v n := by
 obtain ⟨vs, h1, h2⟩ := h
 exact ⟨vs, ownsRow_mono h1 hB, h2⟩
theorem OwnT.below {B : Nat} {el eb : TypeId} {w w' : World} {v : Value} {n : List (List Int)} (h : OwnT B el eb w v n) (hb : Below w.heap.size w w') : OwnT B el eb w' v n := by
 obtain ⟨vs, h1, h2⟩ := h
 refine ⟨vs, ownsRow_kept' h1 hb, fun i hi => ?_⟩
 obtain ⟨x, h3, h4, h5⟩ := h2 i hi
 exact ⟨x, h3, h4.below hb, h5.below hb⟩
theorem row_apartF {B b n : Nat} {e t : TypeId} {w : World} {v : Value} {xs : List Value} {c : Array Value} {fr : Nat × Nat} (h : w.ownsRow B e 1 v n xs) (hb : w.heap[b]? = some (.cells c t fr)) (hne : t ≠ e) : v.ownBlock ≠ some b := by
 intro hq
 rcases h.2 with ⟨rfl, _⟩ | ⟨g, cap, cur, rfl, _, hg, _⟩
 ·simp [Value.ownBlock] at hq
 ·simp [Value.ownBlock] at hq
  subst hq
  rw [hg] at hb
  simp at hb
  exact hne hb.2.1.symm
theorem Has.off_row {B n : Nat} {el eb : TypeId} {w w' : World} {v x : Value} {xs : List Value} {l : List Int} (hr : w.ownsRow B el 1 v n xs) (hne : eb ≠ el) (h : Has w x l) (ht : Typed eb w x) (hg : w.grownBy w' v.ownBlock) : Has w' x l ∧ Typed eb w' x := by
 have key : ∀ g off len cap, x = .slice (some ⟨g, off, none⟩) len cap → w'.heap[g]? = w.heap[g]? := fun g off len cap e => by
  obtain ⟨c, fr, h1⟩ := ht g off len cap e
  have := row_apartF hr h1 hne
  exact hg.block g (VC h1) (fun q => this q.symm)
 refine ⟨?_, fun g off len cap e => ?_⟩
 ·rcases h with h | ⟨g, off, cap, e, h1, h2, h3, h4⟩
  ·exact .inl h
  ·refine .inr ⟨g, off, cap, e, Nat.lt_of_lt_of_le h1 hg.size, h2, h3, fun i hi => ?_⟩
   have hc := h4 i hi
   unfold World.cell? at hc ⊢
   rw [key g off _ cap e]
   exact hc
 ·obtain ⟨c, fr, h1⟩ := ht g off len cap e
  exact ⟨c, fr, (key g off len cap e).trans h1⟩
theorem OwnT.snoc {B m : Nat} {el eb : TypeId} {W w' : World} {v v' u : Value} {n : List (List Int)} {l : List Int} {vs : List Value} (hvs : W.ownsRow B el 1 v n.length vs) (hva : ∀ i, i < n.length → ∃ x, vs[i]? = some x ∧ Has W x (n.getD i []) ∧ Typed eb W x)
  (hu : Has W u l) (htu : Typed eb W u) (hne : eb ≠ el) (ho : w'.ownsRow B el 1 v' m (vs ++ [u])) (hm : m = n.length + 1) (hg : W.grownBy w' v.ownBlock) : OwnT B el eb w' v' (n ++ [l]) := by
 have hl : vs.length = n.length := by have := hvs.1; simpa using this
 subst hm
 refine ⟨vs ++ [u], by simpa using ho, fun i hi => ?_⟩
 simp at hi
 by_cases h : i < n.length
 ·obtain ⟨x, h1, h2, h3⟩ := hva i h
  have := Has.off_row hvs hne h2 h3 hg
  refine ⟨x, by rw [List.getElem?_append_left (by omega)]; exact h1, ?_, this.2⟩
  rw [List.getD_eq_getElem?_getD, List.getElem?_append_left h, ← List.getD_eq_getElem?_getD]
  exact this.1
 ·obtain rfl : i = n.length := by omega
  have := Has.off_row hvs hne hu htu hg
  refine ⟨u, by rw [← hl]; simp, ?_, this.2⟩
  rw [List.getD_eq_getElem?_getD]
  simp
  exact this.1
theorem Has.off_cell {eb t : TypeId} {w : World} {x : Value} {l : List Int} {q j : Nat} {c : Array Value} (h : Has w x l) (ht : Typed eb w x) (hk : w.heap[q]? = some (.cells c t)) (hne : t ≠ eb) (u : Value) : Has (w.setCell ⟨q, j, none⟩ u) x l ∧ Typed eb (w.setCell ⟨q, j, none⟩ u) x := by
 have hg := grown_setCell w ⟨q, j, none⟩ u
 have key : ∀ g off len cap, x = .slice (some ⟨g, off, none⟩) len cap → (w.setCell ⟨q, j, none⟩ u).heap[g]? = w.heap[g]? := fun g off len cap e => by
  obtain ⟨c', fr, h1⟩ := ht g off len cap e
  refine hg.block g (VC h1) ?_
  intro e'
  have e2 : g = q := by simpa using e'
  subst e2
  rw [hk] at h1
  simp at h1
  exact hne h1.2.1
 refine ⟨?_, fun g off len cap e => ?_⟩
 ·rcases h with h | ⟨g, off, cap, e, h1, h2, h3, h4⟩
  ·exact .inl h
  ·refine .inr ⟨g, off, cap, e, Nat.lt_of_lt_of_le h1 hg.size, h2, h3, fun i hi => ?_⟩
   have hc := h4 i hi
   unfold World.cell? at hc ⊢
   rw [key g off _ cap e]
   exact hc
 ·obtain ⟨c', fr, h1⟩ := ht g off len cap e
  exact ⟨c', fr, (key g off len cap e).trans h1⟩
theorem OwnT.set {B q j : Nat} {el eb t : TypeId} {w : World} {v : Value} {n : List (List Int)} {c : Array Value} (h : OwnT B el eb w v n) (hk : w.heap[q]? = some (.cells c t)) (h1 : t ≠ el) (h2 : t ≠ eb) (u : Value) : OwnT B el eb (w.setCell ⟨q, j, none⟩ u) v n := by
 obtain ⟨vs, h3, h4⟩ := h
 have hap := row_apart h3 hk h1
 refine ⟨vs, World.ownsRow.kept h3 (grown_setCell w ⟨q, j, none⟩ u) (by cases hq : v.ownBlock with | none => exact .inl rfl | some r => exact .inr (by intro e; simp at e; rw [hq, e] at hap; exact hap rfl)), fun i hi => ?_⟩
 obtain ⟨x, h5, h6, h7⟩ := h4 i hi
 have := Has.off_cell (j := j) h6 h7 hk h2 u
 exact ⟨x, h5, this.1, this.2⟩
end Go.Proofs.YthmihglfffeedaaGreatDoor

namespace Go.Proofs.YthmihglfffeedaaGreatDoor
open Go.RowKit

def OwnB (C E : Nat) (e : TypeId) (w : World) (v : Value) (l : List Int) : Prop := Own C e w v l ∧ ∀ q, v.ownBlock = some q → q < E

theorem Own.here {C : Nat} {e : TypeId} {w : World} {v : Value} {l : List Int} (h : Own C e w v l) : OwnB C w.heap.size e w v l := ⟨h, fun q hq => (h.lt q hq).2⟩
theorem OwnB.has {C E : Nat} {e : TypeId} {w : World} {v : Value} {l : List Int} (h : OwnB C E e w v l) : Has w v l := h.1.has
theorem OwnB.below {C E : Nat} {e : TypeId} {w w' : World} {v : Value} {l : List Int} (h : OwnB C E e w v l) (hb : Below w.heap.size w w') : OwnB C E e w' v l := ⟨h.1.below hb, h.2⟩
theorem OwnB.outside {C E B D : Nat} {e : TypeId} {w w' : World} {v : Value} {l : List Int} (h : OwnB C E e w v l) (u : Outside B D w w') (hd : E ≤ B ∨ D ≤ C) : OwnB C E e w' v l := by
 refine ⟨⟨h.1.1, ?_⟩, h.2⟩
 rcases h.1.2 with hn | ⟨g, cap, cur, hv, hb, hg, rest⟩
 ·exact .inl hn
 ·refine .inr ⟨g, cap, cur, hv, hb, ?_, rest⟩
  have h1 := h.1.lt g (by rw [hv]; rfl)
  have h2 := h.2 g (by rw [hv]; rfl)
  rw [u.block g h1.2 (by omega)]
  exact hg
theorem ownsRow_outside {C B D n : Nat} {e : TypeId} {w w' : World} {v : Value} {xs : List Value} (h : w.ownsRow C e 1 v n xs) (u : Outside B D w w') (hq : ∀ q, v.ownBlock = some q → q < B ∨ D ≤ q) : w'.ownsRow C e 1 v n xs := by
 have h' := h
 refine ⟨h.1, ?_⟩
 rcases h.2 with hn | ⟨g, cap, cur, hv, hb, hg, rest⟩
 ·exact .inl hn
 ·refine .inr ⟨g, cap, cur, hv, hb, ?_, rest⟩
  have h1 := h'.lt g (by rw [hv]; rfl)
  have h2 := hq g (by rw [hv]; rfl)
  rw [u.block g h1.2 h2]
  exact hg

theorem OwnN.outside {C E B D : Nat} {el eb : TypeId} {w w' : World} {v : Value} {n : List (List Int)} (h : OwnN C E el eb w v n) (u : Outside B D w w') (hd : E ≤ B ∨ D ≤ C) : OwnN C E el eb w' v n := by
 obtain ⟨vs, ho, hu, hdis, hv, he⟩ := h
 refine ⟨vs, ownsRow_outside ho u (fun q hq => ?_), fun i hi => ?_, hdis, hv, he⟩
 ·have := (World.ownsRow.lt ho q hq).1
  have := hv q hq
  omega
 ·obtain ⟨x, h1, h2⟩ := hu i hi
  refine ⟨x, h1, ownsRow_outside h2 u (fun q hq => ?_)⟩
  have := (h2.lt q hq).1
  have := he i x q h1 hq
  omega
theorem OwnN.hasL {C E : Nat} {el eb : TypeId} {w : World} {v : Value} {n : List (List Int)} (h : OwnN C E el eb w v n) : HasL w v n := h.ownL.hasL
end Go.Proofs.YthmihglfffeedaaGreatDoor

namespace Go.Proofs.YthmihglfffeedaaGreatDoor
open Go.RowKit

section
variable {P : Program} {w : World}
theorem append_row {ops : Array Oper} {rest : List Oper} {o : Oper} {a : Act} {Q : Exit → Act → World → Prop} (hgd : o.guard = none) (s x : Operand) (t e : TypeId)
  (ho : o.op = .call { callee := .builtin .append, args := #[s, x], argTypes := #[t, t] }) (ht : P.underlying t = some (.slice e))
  (hinfo : (P.info? e).map (fun i => (i.zero, i.size, i.bytes)) = some (some (.slice none 0 0), 1, 24))
  (base : Nat) (v vx : Value) (xs us : List Value) (hs : a.eval s = v) (hx : a.eval x = vx) (hown : w.ownsRow base e 1 v xs.length xs)
  (hr : (vx = .slice none 0 0 ∧ us = []) ∨ ∃ ad cap, vx = .slice (some ad) us.length cap ∧ ∀ j y, us[j]? = some y → w.cell? (ad.add j) = some y) (hu : ∀ y ∈ us, y.oneCell' = true)
  (hlen : xs.length + us.length ≤ 1099511627776) (hbase : base ≤ w.heap.size)
  (h : ∀ v' w', w'.ownsRow base e 1 v' (xs.length + us.length) (xs ++ us) → w.grownBy w' v.ownBlock → wpList P ops Q rest (a.put o.dst v') w') : wpList P ops Q (o :: rest) a w := by
 obtain ⟨i0, hi, hz0, hz1, hz2⟩ := info_parts hinfo
 rcases hr with ⟨rfl, rfl⟩ | ⟨ad, cap, rfl, hc⟩
 ·refine wpList_append_own_none hgd s x t ho base e i0 1 ht hi v xs.length xs hs hown hx ?_
  exact h v w (by simpa using hown) ⟨rfl, rfl, rfl, Nat.le_refl _, fun _ _ _ => rfl⟩
 ·refine wpList_append_own w hgd s x t ho base e i0 (.slice none 0 0) 1 24 ht hi hz0 hz1 hz2 rfl (by decide) v xs.length xs hs hown ad us.length cap us hx (by simp) hc hu (by unfold maxLen; omega) (by omega) hbase ?_
  intro v' w' ho' hg _
  exact h v' w' ho' hg
end

end Go.Proofs.YthmihglfffeedaaGreatDoor

namespace Go.Proofs.YthmihglfffeedaaGreatDoor
open Go.RowKit
set_option linter.unusedVariables false

theorem snoc_bound {n : List (List Int)} {l : List Int} {k : Nat} (h : ∀ i, i < n.length → (n.getD i []).length ≤ k) (hl : l.length ≤ k) : ∀ i, i < (n ++ [l]).length → ((n ++ [l]).getD i []).length ≤ k := by
 intro i hi
 simp at hi
 by_cases h1 : i < n.length
 ·rw [List.getD_eq_getElem?_getD, List.getElem?_append_left h1, ← List.getD_eq_getElem?_getD]
  exact h i h1
 ·obtain rfl : i = n.length := by omega
  rw [List.getD_eq_getElem?_getD]
  simpa using hl
theorem typed_const (w : World) (eb : TypeId) (C : Array Value) (fr : Nat × Nat) (n c : Nat) : Typed eb (w.alloc (.cells C eb fr)) (.slice (some ⟨w.heap.size, 0, none⟩) n c) := fun g off len cap e => by
 cases e
 exact ⟨C, fr, heap_alloc_new w (.cells C eb fr)⟩
theorem OwnT.form {B : Nat} {el eb : TypeId} {w : World} {v : Value} {n : List (List Int)} (h : OwnT B el eb w v n) : ∃ oa oc, v = .slice oa n.length oc := by
 obtain ⟨vs, h1, _⟩ := h
 rcases h1.2 with ⟨rfl, h0⟩ | ⟨g, cap, _, rfl, _⟩
 ·exact ⟨none, 0, by rw [h0]⟩
 ·exact ⟨_, cap, rfl⟩
def BentL (w W w1 : World) (g : Nat) (a : Option Addr) (len cap : Nat) (k : Nat) (wr : World) : Prop :=
 ∃ (n : List (List Int)) (v : Value), n.length + k = 7 ∧ (∀ i, i < n.length → (n.getD i []).length ≤ 16) ∧ wr.heap[w1.heap.size]? = some (.cells #[v] 25) ∧ wr.heap[w.heap.size]? = some (.cells #[.slice none 0 0] 25)
  ∧ OwnT W.heap.size 22 5 wr v n ∧ Cur wr g a len cap ∧ w.grownBy wr (some g)
theorem bent_step {B q r g m len cap : Nat} {a : Option Addr} {w0 w W w' : World} {v v' u z : Value} {n : List (List Int)} {l : List Int} {vs : List Value}
  (hvs : w.ownsRow B 22 1 v n.length vs) (hva : ∀ i, i < n.length → ∃ x, vs[i]? = some x ∧ Has w x (n.getD i []) ∧ Typed 5 w x) (hb : Below w.heap.size w W)
  (hu : Has W u l) (htu : Typed 5 W u) (ho : w'.ownsRow B 22 1 v' m (vs ++ [u])) (hm : m = n.length + 1) (hg : W.grownBy w' v.ownBlock)
  (hq : w.heap[q]? = some (.cells #[v] 25)) (hr : w.heap[r]? = some (.cells #[z] 25)) (hqr : q ≠ r) (hc : Cur w g a len cap) (hgB : g < B) (hgq : g < q) (h0 : w0.grownBy w (some g)) (hB : w0.heap.size ≤ B) (hq0 : w0.heap.size ≤ q) :
  w'.heap[q]? = some (.cells #[v] 25) ∧ OwnT B 22 5 (w'.setCell ⟨q, 0, none⟩ v') v' (n ++ [l]) ∧ (w'.setCell ⟨q, 0, none⟩ v').heap[q]? = some (.cells #[v'] 25) ∧ (w'.setCell ⟨q, 0, none⟩ v').heap[r]? = some (.cells #[z] 25)
   ∧ Cur (w'.setCell ⟨q, 0, none⟩ v') g a len cap ∧ w0.grownBy (w'.setCell ⟨q, 0, none⟩ v') (some g) := by
 have hW := ownsRow_kept' hvs hb
 have hap := row_apart hW (UE hb hq) (by decide)
 have har := row_apart hW (UE hb hr) (by decide)
 have k1 := block_grown hg (UE hb hq) hap
 have k2 := block_grown hg (UE hb hr) har
 have o1 : OwnT B 22 5 w' v' (n ++ [l]) := OwnT.snoc hW (fun i hi => by obtain ⟨x, h1, h2, h3⟩ := hva i hi; exact ⟨x, h1, h2.below hb, h3.below hb⟩) hu htu (by decide) ho hm hg
 have gs := grown_setCell w' ⟨q, 0, none⟩ v'
 have hlt := World.ownsRow.lt hW
 have gb : w.grownBy W none := ⟨hb.os, hb.tape, hb.output, hb.size, fun i hi _ => hb.block i hi⟩
 refine ⟨k1, o1.set k1 (by decide) (by decide) _, block_set k1 v', block_grown gs k2 (by simpa using hqr), ?_, ?_⟩
 ·exact ((hc.later gb (fun j e => by cases e)).later hg (fun j e => by have := (hlt j e).1; omega)).later gs (fun j e => by cases e; exact hgq)
 ·exact grown_own (grown_own (grown_own h0 gb (fun j e => by cases e)) hg (fun j e => by have := (hlt j e).1; omega)) gs (fun j e => by cases e; exact hq0)
theorem OwnT.hasL {B : Nat} {el eb : TypeId} {w : World} {v : Value} {n : List (List Int)} (h : OwnT B el eb w v n) : HasL w v n := by
 obtain ⟨vs, h1, h2⟩ := h
 rcases h1.2 with ⟨rfl, hn⟩ | ⟨g, cap, cur, rfl, hb, hg, hn, hm, hs, ht⟩
 ·exact .inl ⟨rfl, List.eq_nil_of_length_eq_zero hn⟩
 ·refine .inr ⟨g, 0, cap, rfl, (World.ownsRow.lt h1 g rfl).2, hn, hm, fun i hi => ?_⟩
  obtain ⟨x, h3, h4, _⟩ := h2 i hi
  refine ⟨x, ?_, h4⟩
  rw [Nat.zero_add, World.ownsRow.cellAt h1 i (by omega), h3]
theorem OwnT.off {B q : Nat} {el eb t : TypeId} {w w' : World} {v : Value} {n : List (List Int)} {c : Array Value} (h : OwnT B el eb w v n) (hk : w.heap[q]? = some (.cells c t)) (h1 : t ≠ el) (h2 : t ≠ eb) (hg : w.grownBy w' (some q)) : OwnT B el eb w' v n := by
 obtain ⟨vs, h3, h4⟩ := h
 have hap := row_apart h3 hk h1
 refine ⟨vs, World.ownsRow.kept h3 hg (.inr hap), fun i hi => ?_⟩
 obtain ⟨x, h5, h6, h7⟩ := h4 i hi
 have key : ∀ g off len cap, x = .slice (some ⟨g, off, none⟩) len cap → w'.heap[g]? = w.heap[g]? := fun g off len cap e => by
  obtain ⟨c', fr, e1⟩ := h7 g off len cap e
  refine hg.block g (VC e1) ?_
  intro e'
  have e2 : g = q := by simpa using e'
  subst e2
  rw [hk] at e1
  simp at e1
  exact h2 e1.2.1
 refine ⟨x, h5, ?_, fun g off len cap e => ?_⟩
 ·rcases h6 with h | ⟨g, off, cap, e, e1, e2, e3, e4⟩
  ·exact .inl h
  ·refine .inr ⟨g, off, cap, e, Nat.lt_of_lt_of_le e1 hg.size, e2, e3, fun i hi => ?_⟩
   have hc := e4 i hi
   unfold World.cell? at hc ⊢
   rw [key g off _ cap e]
   exact hc
 ·obtain ⟨c', fr, e1⟩ := h7 g off len cap e
  exact ⟨c', fr, (key g off len cap e).trans e1⟩
theorem OwnT.cur {B g len cap : Nat} {a : Option Addr} {w w' : World} {v : Value} {n : List (List Int)} (h : OwnT B 22 5 w v n) (hc : Cur w g a len cap) (hg : w.grownBy w' (some g)) : OwnT B 22 5 w' v n := by
 obtain ⟨i, x, h1, _⟩ := hc
 exact h.off h1 (by decide) (by decide) hg
end Go.Proofs.YthmihglfffeedaaGreatDoor
