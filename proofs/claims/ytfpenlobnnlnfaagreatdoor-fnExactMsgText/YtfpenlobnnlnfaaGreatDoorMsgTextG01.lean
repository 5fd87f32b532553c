/-
  Plain facts: a list of texts whose blocks lie in a stretch, and worlds that are the same outside of it. No program is named here. Plain facts: a name's bytes, label by label; slices of bytes that lie ahead of a block. No program is named here. Plain facts: what is owned in a stretch of blocks stays as it is where a walk writes into another stretch. No program is named here. Plain facts on slices of numbers (int): one that reads as a list, one that owns its row. As for bytes. No program is named here.
-/
import Derived.Test.YtfpenlobnnlnfaaGreatDoorMsgTextG00
namespace Go.Proofs.YtfpenlobnnlnfaaGreatDoor
open Go.RowKit

structure Outside (B E : Nat) (w w' : World) : Prop where
 os : w'.os = w.os
 tape : w'.tape = w.tape
 output : w'.output = w.output
 size : w.heap.size ≤ w'.heap.size
 block : ∀ k, k < w.heap.size → (k < B ∨ E ≤ k) → w'.heap[k]? = w.heap[k]?

theorem Outside.refl (B E : Nat) (w : World) : Outside B E w w := ⟨rfl, rfl, rfl, Nat.le_refl _, fun _ _ _ => rfl⟩
theorem Outside.trans {B E : Nat} {a b c : World} (h : Outside B E a b) (k : Outside B E b c) : Outside B E a c :=
 ⟨k.os.trans h.os, k.tape.trans h.tape, k.output.trans h.output, Nat.le_trans h.size k.size, fun i hi hn => (k.block i (Nat.lt_of_lt_of_le hi h.size) hn).trans (h.block i hi hn)⟩
theorem Below.outside {B E : Nat} {w w' : World} (h : Below w.heap.size w w') : Outside B E w w' := ⟨h.os, h.tape, h.output, h.size, fun k hk _ => h.block k hk⟩
theorem outside_grown {B E : Nat} {w w' : World} {row : Option Nat} (h : w.grownBy w' row) (hr : ∀ k, row = some k → B ≤ k ∧ k < E) : Outside B E w w' :=
 ⟨h.os, h.tape, h.output, h.size, fun k hk hn => h.block k hk (fun e => by have := hr k e.symm; omega)⟩
theorem Outside.below {B E : Nat} {a w w' : World} (h : Outside B E w w') (hb : Below a.heap.size a w) (hB : a.heap.size ≤ B) : Below a.heap.size a w' :=
 ⟨h.os.trans hb.os, h.tape.trans hb.tape, h.output.trans hb.output, Nat.le_trans hb.size h.size, fun k hk => (h.block k (Nat.lt_of_lt_of_le hk hb.size) (.inl (by omega))).trans (hb.block k hk)⟩
theorem Outside.kept {B E b : Nat} {w w' : World} {o : Obj} (h : Outside B E w w') (hk : w.heap[b]? = some o) (hn : b < B ∨ E ≤ b) : w'.heap[b]? = some o := (h.block b (VC hk) hn).trans hk

def HasAt (A : Nat) (w : World) (v : Value) (l : List Int) : Prop :=
 (v = .slice none 0 0 ∧ l = []) ∨ ∃ g off cap, v = .slice (some ⟨g, off, none⟩) l.length cap ∧ g < w.heap.size ∧ g < A ∧ l.length ≤ cap ∧ cap ≤ maxLen ∧ ∀ i, i < l.length → w.cell? ⟨g, off + i, none⟩ = some (.int .u8 (l.getD i 0))

theorem Has.at {w : World} {v : Value} {l : List Int} (h : Has w v l) : HasAt w.heap.size w v l := by
 rcases h with h | ⟨g, off, cap, hv, hlt, hl, hm, hc⟩
 ·exact .inl h
 ·exact .inr ⟨g, off, cap, hv, hlt, hlt, hl, hm, hc⟩
theorem HasAt.has {A : Nat} {w : World} {v : Value} {l : List Int} (h : HasAt A w v l) : Has w v l := by
 rcases h with h | ⟨g, off, cap, hv, hlt, _, hl, hm, hc⟩
 ·exact .inl h
 ·exact .inr ⟨g, off, cap, hv, hlt, hl, hm, hc⟩
theorem HasAt.outside {A B E : Nat} {w w' : World} {v : Value} {l : List Int} (h : HasAt A w v l) (ho : Outside B E w w') (hA : A ≤ B) : HasAt A w' v l := by
 rcases h with h | ⟨g, off, cap, hv, hlt, hA', hl, hm, hc⟩
 ·exact .inl h
 ·refine .inr ⟨g, off, cap, hv, Nat.lt_of_lt_of_le hlt ho.size, hA', hl, hm, fun i hi => ?_⟩
  rw [World.cell?_of_block (ho.block g hlt (.inl (by omega)))]
  exact hc i hi
theorem HasAt.below {A : Nat} {w w' : World} {v : Value} {l : List Int} (h : HasAt A w v l) (hb : Below w.heap.size w w') : HasAt A w' v l := by
 rcases h with h | ⟨g, off, cap, hv, hlt, hA', hl, hm, hc⟩
 ·exact .inl h
 ·exact .inr ⟨g, off, cap, hv, Nat.lt_of_lt_of_le hlt hb.size, hA', hl, hm, fun i hi => (hb.cell (p := ⟨g, off + i, none⟩) hlt).trans (hc i hi)⟩

theorem Own.outside {B C E : Nat} {e : TypeId} {w w' : World} {v : Value} {l : List Int} (h : Own C e w v l) (ho : Outside B E w w') (hE : E ≤ C) : Own C e w' v l := by
 refine ⟨h.1, ?_⟩
 have h' := h
 rcases h.2 with hn | ⟨g, cap, cur, hv, hb, hg, rest⟩
 ·exact .inl hn
 ·refine .inr ⟨g, cap, cur, hv, hb, ?_, rest⟩
  rw [ho.block g (h'.lt g (by rw [hv]; rfl)).2 (.inr (by omega))]
  exact hg

def OwnN (B E : Nat) (el eb : TypeId) (w : World) (v : Value) (n : List (List Int)) : Prop :=
 ∃ vs : List Value, w.ownsRow B el 1 v n.length vs ∧ (∀ i, i < n.length → ∃ u, vs[i]? = some u ∧ Own B eb w u (n.getD i [])) ∧
  (∀ (i j : Nat) (u u' : Value), i < j → vs[i]? = some u → vs[j]? = some u' → u.ownBlock = none ∨ u.ownBlock ≠ u'.ownBlock) ∧
  (∀ q, v.ownBlock = some q → q < E) ∧ ∀ (i : Nat) (u : Value) (q : Nat), vs[i]? = some u → u.ownBlock = some q → q < E

theorem OwnL.here {B : Nat} {el eb : TypeId} {w : World} {v : Value} {n : List (List Int)} (h : OwnL B el eb w v n) : OwnN B w.heap.size el eb w v n := by
 obtain ⟨vs, ho, hu, hd⟩ := h
 refine ⟨vs, ho, hu, hd, fun q hq => (World.ownsRow.lt ho q hq).2, fun i u q hi hq => ?_⟩
 have hl : vs.length = n.length := by have := ho.1; simpa using this
 have hi' : i < n.length := by rw [← hl]; exact (List.getElem?_eq_some_iff.1 hi).1
 obtain ⟨u', h1, h2⟩ := hu i hi'
 rw [hi] at h1
 obtain rfl : u = u' := by simpa using h1
 exact (h2.lt q hq).2
theorem OwnN.ownL {B E : Nat} {el eb : TypeId} {w : World} {v : Value} {n : List (List Int)} (h : OwnN B E el eb w v n) : OwnL B el eb w v n := by
 obtain ⟨vs, ho, hu, hd, _⟩ := h
 exact ⟨vs, ho, hu, hd⟩
theorem OwnN.below {B E : Nat} {el eb : TypeId} {w w' : World} {v : Value} {n : List (List Int)} (h : OwnN B E el eb w v n) (hb : Below w.heap.size w w') : OwnN B E el eb w' v n := by
 obtain ⟨vs, ho, hu, hd, hv, he⟩ := h
 obtain ⟨_, _, _, _⟩ := OwnL.below ⟨vs, ho, hu, hd⟩ hb
 refine ⟨vs, World.ownsRow.kept ho (grown_of_below hb) ?_, fun i hi => ?_, hd, hv, he⟩
 ·cases hv : v.ownBlock with
  | none => exact .inl rfl
  | some k => exact .inr (by simp)
 ·obtain ⟨u, h1, h2⟩ := hu i hi
  exact ⟨u, h1, h2.below hb⟩

def pos (n : List (List Int)) (k : Int) (j : Nat) : Int := k + (((n.take j).map List.length).sum : Nat)
theorem pos_zero (n : List (List Int)) (k : Int) : pos n k 0 = k := by simp [pos]
theorem pos_succ (n : List (List Int)) (k : Int) (j : Nat) (h : j < n.length) : pos n k (j + 1) = pos n k j + ((n.getD j []).length : Nat) := by
 unfold pos
 rw [List.take_succ_eq_append_getElem h, List.map_append, List.sum_append, show n.getD j [] = n[j] by simp [h]]
 simp only [List.map_cons, List.map_nil, List.sum_cons, List.sum_nil]
 omega
theorem pos_le (n : List (List Int)) (k : Int) (M : Nat) (h : ∀ i, i < n.length → (n.getD i []).length ≤ M) (j : Nat) (hj : j ≤ n.length) : k ≤ pos n k j ∧ pos n k j ≤ k + (j * M : Nat) := by
 induction j with
 | zero => rw [pos_zero]; simp
 | succ j ih =>
  rw [pos_succ n k j (by omega)]
  have := ih (by omega)
  have := h j (by omega)
  rw [Nat.succ_mul]
  omega

def markL (n : List (List Int)) (k : Int) : List (List Int) := (List.range n.length).map fun j => marks (pos n k j) (n.getD j []).length
theorem markL_length (n : List (List Int)) (k : Int) : (markL n k).length = n.length := by simp [markL]
theorem markL_getD (n : List (List Int)) (k : Int) (j : Nat) (h : j < n.length) : (markL n k).getD j [] = marks (pos n k j) (n.getD j []).length := by simp [markL, h]
end Go.Proofs.YtfpenlobnnlnfaaGreatDoor

namespace Go.Proofs.YtfpenlobnnlnfaaGreatDoor
open Go.RowKit

def wires (n : List (List Int)) (k : Nat) : List Int := ((n.take k).map (fun l => (l.length : Int) :: l)).flatten

theorem wires_zero (n : List (List Int)) : wires n 0 = [] := by simp [wires]
theorem wires_succ (n : List (List Int)) (k : Nat) (h : k < n.length) : wires n (k + 1) = wires n k ++ (((n.getD k []).length : Int) :: n.getD k []) := by
 unfold wires
 rw [List.take_succ_eq_append_getElem h, List.map_append, List.flatten_append, show n.getD k [] = n[k] by simp [h]]
 simp only [List.map_cons, List.map_nil, List.flatten_cons, List.flatten_nil, List.append_nil]

theorem wires_length (n : List (List Int)) (h : nameOk n = true) (k : Nat) : (wires n k).length ≤ 16 * k := by
 induction k with
 | zero => simp [wires]
 | succ k ih =>
  by_cases hk : k < n.length
  ·rw [wires_succ n k hk]
   have := (labelOk_length ((nameOk_parts h).2 k hk)).2
   simp only [List.length_append, List.length_cons]
   omega
  ·have e : wires n (k + 1) = wires n k := by unfold wires; rw [List.take_of_length_le (by omega), List.take_of_length_le (by omega)]
   rw [e]; omega

def wire (n : List (List Int)) : List Int := wires n n.length ++ [0]

theorem wire_length (n : List (List Int)) (h : nameOk n = true) : (wire n).length ≤ 97 := by
 unfold wire
 have := wires_length n h n.length
 have := (nameOk_parts h).1
 simp only [List.length_append, List.length_cons, List.length_nil]
 omega

def namePut (l : List Int) (n : List (List Int)) : List Int := if nameOk n = true then l ++ wire n else []
theorem namePut_yes {l : List Int} {n : List (List Int)} (h : nameOk n = true) : namePut l n = l ++ wire n := by simp [namePut, h]
theorem namePut_no {l : List Int} {n : List (List Int)} (h : nameOk n = false) : namePut l n = [] := by simp [namePut, h]
theorem HasAt.low {A B : Nat} {w w' : World} {v : Value} {l : List Int} (h : HasAt A w v l) (hb : Below B w w') (hA : A ≤ B) : HasAt A w' v l := by
 rcases h with h | ⟨g, off, cap, hv, hlt, hA', hl, hm, hc⟩
 ·exact .inl h
 ·exact .inr ⟨g, off, cap, hv, Nat.lt_of_lt_of_le hlt hb.size, hA', hl, hm, fun i hi => (hb.cell (p := ⟨g, off + i, none⟩) (by show g < B; omega)).trans (hc i hi)⟩
theorem HasAt.mono {A A' : Nat} {w : World} {v : Value} {l : List Int} (h : HasAt A w v l) (hA : A ≤ A') : HasAt A' w v l := by
 rcases h with h | ⟨g, off, cap, hv, hlt, hA', hl, hm, hc⟩
 ·exact .inl h
 ·exact .inr ⟨g, off, cap, hv, hlt, by omega, hl, hm, hc⟩
theorem HasAt.form {A : Nat} {w : World} {v : Value} {l : List Int} (h : HasAt A w v l) : ∃ a cap, v = .slice a l.length cap ∧ Lies w a l := h.has.form

def HasLAt (A : Nat) (w : World) (v : Value) (n : List (List Int)) : Prop :=
 (v = .slice none 0 0 ∧ n = []) ∨ ∃ g off cap, v = .slice (some ⟨g, off, none⟩) n.length cap ∧ g < w.heap.size ∧ g < A ∧ n.length ≤ cap ∧ cap ≤ maxLen ∧
  ∀ i, i < n.length → ∃ u, w.cell? ⟨g, off + i, none⟩ = some u ∧ HasAt A w u (n.getD i [])

theorem HasL.at {w : World} {v : Value} {n : List (List Int)} (h : HasL w v n) : HasLAt w.heap.size w v n := by
 rcases h with h | ⟨g, off, cap, hv, hlt, hl, hm, hc⟩
 ·exact .inl h
 ·refine .inr ⟨g, off, cap, hv, hlt, hlt, hl, hm, fun i hi => ?_⟩
  obtain ⟨u, h1, h2⟩ := hc i hi
  exact ⟨u, h1, h2.at⟩
theorem HasLAt.hasL {A : Nat} {w : World} {v : Value} {n : List (List Int)} (h : HasLAt A w v n) : HasL w v n := by
 rcases h with h | ⟨g, off, cap, hv, hlt, _, hl, hm, hc⟩
 ·exact .inl h
 ·refine .inr ⟨g, off, cap, hv, hlt, hl, hm, fun i hi => ?_⟩
  obtain ⟨u, h1, h2⟩ := hc i hi
  exact ⟨u, h1, h2.has⟩
theorem HasLAt.low {A B : Nat} {w w' : World} {v : Value} {n : List (List Int)} (h : HasLAt A w v n) (hb : Below B w w') (hA : A ≤ B) : HasLAt A w' v n := by
 rcases h with h | ⟨g, off, cap, hv, hlt, hA', hl, hm, hc⟩
 ·exact .inl h
 ·refine .inr ⟨g, off, cap, hv, Nat.lt_of_lt_of_le hlt hb.size, hA', hl, hm, fun i hi => ?_⟩
  obtain ⟨u, h1, h2⟩ := hc i hi
  exact ⟨u, (hb.cell (p := ⟨g, off + i, none⟩) (by show g < B; omega)).trans h1, h2.low hb hA⟩
theorem HasLAt.below {A : Nat} {w w' : World} {v : Value} {n : List (List Int)} (h : HasLAt A w v n) (hb : Below w.heap.size w w') : HasLAt A w' v n := by
 rcases h with h | ⟨g, off, cap, hv, hlt, hA', hl, hm, hc⟩
 ·exact .inl h
 ·refine .inr ⟨g, off, cap, hv, Nat.lt_of_lt_of_le hlt hb.size, hA', hl, hm, fun i hi => ?_⟩
  obtain ⟨u, h1, h2⟩ := hc i hi
  exact ⟨u, (hb.cell (p := ⟨g, off + i, none⟩) hlt).trans h1, h2.below hb⟩
theorem HasLAt.outside {A B E : Nat} {w w' : World} {v : Value} {n : List (List Int)} (h : HasLAt A w v n) (ho : Outside B E w w') (hA : A ≤ B) : HasLAt A w' v n := by
 rcases h with h | ⟨g, off, cap, hv, hlt, hA', hl, hm, hc⟩
 ·exact .inl h
 ·refine .inr ⟨g, off, cap, hv, Nat.lt_of_lt_of_le hlt ho.size, hA', hl, hm, fun i hi => ?_⟩
  obtain ⟨u, h1, h2⟩ := hc i hi
  refine ⟨u, ?_, h2.outside ho hA⟩
  rw [World.cell?_of_block (ho.block g hlt (.inl (by omega)))]
  exact h1
theorem HasLAt.here {A : Nat} {w : World} {a : Option Addr} {len cap : Nat} {n : List (List Int)} (h : HasLAt A w (.slice a len cap) n) {k : Nat} (hk : k < n.length) :
  ∃ b off u, a = some ⟨b, off, none⟩ ∧ b < A ∧ w.cell? ⟨b, off + k, none⟩ = some u ∧ HasAt A w u (n.getD k []) := by
 rcases h with ⟨_, rfl⟩ | ⟨g, off, cap, hv, _, hlt, _, _, hc⟩
 ·simp at hk
 ·simp only [Value.slice.injEq] at hv
  obtain ⟨u, h1, h2⟩ := hc k hk
  exact ⟨g, off, u, hv.1, hlt, h1, h2⟩

theorem Own.apart {B b : Nat} {e t : TypeId} {w : World} {v : Value} {l : List Int} {c : Array Value} (h : Own B e w v l) (hb : w.heap[b]? = some (.cells c t)) (hne : t ≠ e) : v.ownBlock ≠ some b := by
 intro hq
 rcases h.2 with ⟨rfl, _⟩ | ⟨g, cap, cur, rfl, _, hg, _⟩
 ·simp [Value.ownBlock] at hq
 ·simp [Value.ownBlock] at hq
  subst hq
  rw [hg] at hb
  simp at hb
  exact hne hb.2.symm
theorem block_grown {b : Nat} {w w' : World} {row : Option Nat} {o : Obj} (hg : w.grownBy w' row) (hb : w.heap[b]? = some o) (hne : row ≠ some b) : w'.heap[b]? = some o := (hg.block b (VC hb) (fun e => hne e.symm)).trans hb
theorem grown_below {B : Nat} {e : TypeId} {w w' : World} {v : Value} {l : List Int} (ho : Own B e w v l) (hB : B ≤ w.heap.size) (g : w.grownBy w' v.ownBlock) : Below B w w' := (Below.refl B w).grown g hB (fun q hq => (ho.lt q hq).1)
theorem put_step {B q : Nat} {e t : TypeId} {w1 W w' : World} {v u x : Value} {l lab : List Int} {c : Array Value} {p : Addr} (g : W.grownBy w' v.ownBlock) (ho : Own B e W v l) (hz : B ≤ W.heap.size) (hk : W.heap[q]? = some (.cells c t)) (hne : t ≠ e)
  (hb : Below B w1 W) (hu : HasAt B W u lab) (hc : W.cell? p = some x) (hp : p.block < B) :
  w'.heap[q]? = some (.cells c t) ∧ Below B w1 w' ∧ B ≤ w'.heap.size ∧ HasAt B w' u lab ∧ w'.cell? p = some x := by
 have y := grown_below ho hz g
 exact ⟨block_grown g hk (ho.apart hk hne), hb.trans y, Nat.le_trans hz y.size, hu.low y (Nat.le_refl _), (y.cell hp).trans hc⟩
theorem wrap_u8 (n : Nat) (h : n ≤ 255) : IntKind.u8.wrap (n : Int) = n := by
 simp [IntKind.wrap, IntKind.bits, IntKind.signed]
 omega
end Go.Proofs.YtfpenlobnnlnfaaGreatDoor

namespace Go.Proofs.YtfpenlobnnlnfaaGreatDoor
open Go.RowKit

def OwnB (C E : Nat) (e : TypeId) (w : World) (v : Value) (l : List Int) : Prop := Own C e w v l ∧ ∀ q, v.ownBlock = some q → q < E

theorem Own.here {C : Nat} {e : TypeId} {w : World} {v : Value} {l : List Int} (h : Own C e w v l) : OwnB C w.heap.size e w v l := ⟨h, fun q hq => (h.lt q hq).2⟩
theorem OwnB.has {C E : Nat} {e : TypeId} {w : World} {v : Value} {l : List Int} (h : OwnB C E e w v l) : Has w v l := h.1.has
theorem OwnB.below {C E : Nat} {e : TypeId} {w w' : World} {v : Value} {l : List Int} (h : OwnB C E e w v l) (hb : Below w.heap.size w w') : OwnB C E e w' v l := ⟨h.1.below hb, h.2⟩
theorem OwnB.outside {C E B D : Nat} {e : TypeId} {w w' : World} {v : Value} {l : List Int} (h : OwnB C E e w v l) (u : Outside B D w w') (hd : E ≤ B ∨ D ≤ C) : OwnB C E e w' v l := by
 refine ⟨⟨h.1.1, ?_⟩, h.2⟩
 rcases h.1.2 with hn | ⟨g, cap, cur, hv, hb, hg, rest⟩
 ·exact .inl hn
 ·refine .inr ⟨g, cap, cur, hv, hb, ?_, rest⟩
  have h1 := h.1.lt g (by rw [hv]; rfl)
  have h2 := h.2 g (by rw [hv]; rfl)
  rw [u.block g h1.2 (by omega)]
  exact hg
theorem OwnB.marks {C E : Nat} {e : TypeId} {w w' : World} {v : Value} {l l' : List Int} (h : OwnB C E e w v l) (h' : Own C e w' v l') (g : w.grownBy w' v.ownBlock) : OwnB C E e w' v l' ∧ Outside C E w w' :=
 ⟨⟨h', h.2⟩, outside_grown g (fun q hq => ⟨(h.1.lt q hq).1, h.2 q hq⟩)⟩

theorem ownsRow_outside {C B D n : Nat} {e : TypeId} {w w' : World} {v : Value} {xs : List Value} (h : w.ownsRow C e 1 v n xs) (u : Outside B D w w') (hq : ∀ q, v.ownBlock = some q → q < B ∨ D ≤ q) : w'.ownsRow C e 1 v n xs := by
 have h' := h
 refine ⟨h.1, ?_⟩
 rcases h.2 with hn | ⟨g, cap, cur, hv, hb, hg, rest⟩
 ·exact .inl hn
 ·refine .inr ⟨g, cap, cur, hv, hb, ?_, rest⟩
  have h1 := h'.lt g (by rw [hv]; rfl)
  have h2 := hq g (by rw [hv]; rfl)
  rw [u.block g h1.2 h2]
  exact hg

theorem OwnN.outside {C E B D : Nat} {el eb : TypeId} {w w' : World} {v : Value} {n : List (List Int)} (h : OwnN C E el eb w v n) (u : Outside B D w w') (hd : E ≤ B ∨ D ≤ C) : OwnN C E el eb w' v n := by
 obtain ⟨vs, ho, hu, hdis, hv, he⟩ := h
 refine ⟨vs, ownsRow_outside ho u (fun q hq => ?_), fun i hi => ?_, hdis, hv, he⟩
 ·have := (World.ownsRow.lt ho q hq).1
  have := hv q hq
  omega
 ·obtain ⟨x, h1, h2⟩ := hu i hi
  refine ⟨x, h1, ownsRow_outside h2 u (fun q hq => ?_)⟩
  have := (h2.lt q hq).1
  have := he i x q h1 hq
  omega
theorem OwnN.hasL {C E : Nat} {el eb : TypeId} {w : World} {v : Value} {n : List (List Int)} (h : OwnN C E el eb w v n) : HasL w v n := h.ownL.hasL
end Go.Proofs.YtfpenlobnnlnfaaGreatDoor

namespace Go.Proofs.YtfpenlobnnlnfaaGreatDoor
open Go.RowKit

def LiesI (w : World) (a : Option Addr) (l : List Int) : Prop :=
 l = [] ∨ ∃ b off, a = some ⟨b, off, none⟩ ∧ b < w.heap.size ∧ ∀ i, i < l.length → w.cell? ⟨b, off + i, none⟩ = some (.int .i64 (l.getD i 0))

def OwnI (B : Nat) (e : TypeId) (w : World) (v : Value) (l : List Int) : Prop := w.ownsRow B e 1 v l.length (l.map (Value.int .i64))

theorem LiesI.below {w w' : World} {a : Option Addr} {l : List Int} (h : LiesI w a l) (hb : Below w.heap.size w w') : LiesI w' a l := by
 rcases h with rfl | ⟨b, off, rfl, hlt, hc⟩
 ·exact .inl rfl
 ·exact .inr ⟨b, off, rfl, Nat.lt_of_lt_of_le hlt hb.size, fun i hi => (hb.cell (p := ⟨b, off + i, none⟩) hlt).trans (hc i hi)⟩

theorem LiesI.cell {w w' : World} {a : Option Addr} {l : List Int} (h : LiesI w a l) (hb : Below w.heap.size w w') {k : Nat} (hk : k < l.length) :
  ∃ b off, a = some ⟨b, off, none⟩ ∧ b < w.heap.size ∧ w'.cell? ⟨b, off + k, none⟩ = some (.int .i64 (l.getD k 0)) := by
 rcases h with rfl | ⟨b, off, rfl, hlt, hc⟩
 ·simp at hk
 ·exact ⟨b, off, rfl, hlt, (hb.cell (p := ⟨b, off + k, none⟩) hlt).trans (hc k hk)⟩

theorem LiesI.here {w : World} {a : Option Addr} {l : List Int} (h : LiesI w a l) {k : Nat} (hk : k < l.length) :
  ∃ b off, a = some ⟨b, off, none⟩ ∧ b < w.heap.size ∧ w.cell? ⟨b, off + k, none⟩ = some (.int .i64 (l.getD k 0)) := h.cell (Below.refl _ _) hk

theorem map_atI (l : List Int) (j : Nat) (hj : j < l.length) : (l.map (Value.int .i64))[j]? = some (.int .i64 (l.getD j 0)) := by
 simp [hj]

section
variable {B : Nat} {e : TypeId} {w w' : World} {v : Value} {l : List Int}

theorem OwnI.form (h : OwnI B e w v l) : (v = .slice none 0 0 ∧ l = []) ∨
  ∃ g cap, v = .slice (some ⟨g, 0, none⟩) l.length cap ∧ B ≤ g ∧ g < w.heap.size ∧ l.length ≤ cap ∧ cap ≤ maxLen ∧
   (∀ i, i < l.length → w.cell? ⟨g, i, none⟩ = some (.int .i64 (l.getD i 0))) ∧ ∀ i, w.frozen? ⟨g, i, none⟩ = false := by
 have h' := h
 rcases h.2 with ⟨rfl, hn⟩ | ⟨g, cap, cur, rfl, hb, hg, hn, hm, hs, ht⟩
 ·exact .inl ⟨rfl, List.eq_nil_of_length_eq_zero hn⟩
 ·refine .inr ⟨g, cap, rfl, hb, (h'.lt g rfl).2, hn, hm, fun i hi => ?_, fun i => World.ownsRow.frozenAt h' i⟩
  rw [World.ownsRow.cellAt h' i (by omega), map_atI l i hi]

theorem OwnI.lies (h : OwnI B e w v l) : ∃ a cap, v = .slice a l.length cap ∧ LiesI w a l := by
 rcases h.form with ⟨rfl, rfl⟩ | ⟨g, cap, rfl, _, hlt, _, _, hc, _⟩
 ·exact ⟨none, 0, rfl, .inl rfl⟩
 ·exact ⟨_, cap, rfl, .inr ⟨g, 0, rfl, hlt, fun i hi => by simpa using hc i hi⟩⟩

theorem OwnI.mono {B' : Nat} (h : OwnI B e w v l) (hB : B' ≤ B) : OwnI B' e w v l := by
 refine ⟨h.1, ?_⟩
 rcases h.2 with hn | ⟨g, cap, cur, hv, hb, rest⟩
 ·exact .inl hn
 ·exact .inr ⟨g, cap, cur, hv, Nat.le_trans hB hb, rest⟩

theorem OwnI.lt (h : OwnI B e w v l) : ∀ k, v.ownBlock = some k → B ≤ k ∧ k < w.heap.size := World.ownsRow.lt h

theorem OwnI.kept {row : Option Nat} (h : OwnI B e w v l) (hg : w.grownBy w' row) (hne : v.ownBlock = none ∨ v.ownBlock ≠ row) : OwnI B e w' v l := World.ownsRow.kept h hg hne

theorem OwnI.below (h : OwnI B e w v l) (hb : Below w.heap.size w w') : OwnI B e w' v l := by
 refine h.kept (grown_of_below hb) ?_
 cases hv : v.ownBlock with
 | none => exact .inl rfl
 | some k => exact .inr (by simp)

theorem OwnI.ofRow {g : Nat} (h : w.rowIs g e l.length (fun i => .int .i64 (l.getD i 0))) (hB : B ≤ g) (hm : l.length ≤ maxLen) : OwnI B e w (.slice (some ⟨g, 0, none⟩) l.length l.length) l := by
 obtain ⟨c, hb, hn, hc⟩ := h
 refine ⟨by simp, .inr ⟨g, l.length, c, rfl, hB, hb, Nat.le_refl _, hm, by omega, ?_⟩⟩
 apply List.ext_getElem?
 intro j
 by_cases hj : j < l.length
 ·rw [map_atI l j hj, List.getElem?_take, if_pos (by omega), Array.getElem?_toList, hc j hj]
 ·rw [List.getElem?_take, if_neg (by omega), List.getElem?_eq_none (by simpa using hj)]

end

def marksI (k : Int) (n : Nat) : List Int := (List.range n).map fun (j : Nat) => (k + j)

def markedI (l : List Int) (k : Int) (m : Nat) : List Int := (List.range l.length).map fun (j : Nat) => if j < m then (k + j) else l.getD j 0

theorem marks_lengthI (k : Int) (n : Nat) : (marksI k n).length = n := by simp [marksI]

theorem marked_lengthI (l : List Int) (k : Int) (m : Nat) : (markedI l k m).length = l.length := by simp [markedI]

theorem marked_zeroI (l : List Int) (k : Int) : markedI l k 0 = l := by
 apply List.ext_getElem?
 intro j
 by_cases hj : j < l.length <;> simp [markedI, hj]

theorem marked_allI (l : List Int) (k : Int) : markedI l k l.length = marksI k l.length := by
 unfold markedI marksI
 apply List.map_congr_left
 intro j hj
 simp at hj
 simp [hj]

theorem marked_succI (l : List Int) (k : Int) (m : Nat) : (markedI l k m).set m (k + m) = markedI l k (m + 1) := by
 apply List.ext_getElem?
 intro j
 rw [List.getElem?_set]
 by_cases hj : j < l.length
 ·by_cases e : m = j
  ·subst e; simp [markedI, hj]
  ·have : j < m + 1 ↔ j < m := by omega
   simp [markedI, hj, e, this]
 ·simp [markedI, hj]
  omega

theorem OwnI.alloc {B : Nat} {e : TypeId} {w : World} {v : Value} {l : List Int} (h : OwnI B e w v l) (o : Obj) : OwnI B e (w.alloc o) v l := World.ownsRow.alloc h o

def HasI (w : World) (v : Value) (l : List Int) : Prop :=
 (v = .slice none 0 0 ∧ l = []) ∨ ∃ g off cap, v = .slice (some ⟨g, off, none⟩) l.length cap ∧ g < w.heap.size ∧ l.length ≤ cap ∧ cap ≤ maxLen ∧ ∀ i, i < l.length → w.cell? ⟨g, off + i, none⟩ = some (.int .i64 (l.getD i 0))

theorem OwnI.has {B : Nat} {e : TypeId} {w : World} {v : Value} {l : List Int} (h : OwnI B e w v l) : HasI w v l := by
 rcases h.form with h | ⟨g, cap, hv, _, hlt, hl, hm, hc, _⟩
 ·exact .inl h
 ·exact .inr ⟨g, 0, cap, hv, hlt, hl, hm, fun i hi => by rw [Nat.zero_add]; exact hc i hi⟩

theorem HasI.below {w w' : World} {v : Value} {l : List Int} (h : HasI w v l) (hb : Below w.heap.size w w') : HasI w' v l := by
 rcases h with h | ⟨g, off, cap, hv, hlt, hl, hm, hc⟩
 ·exact .inl h
 ·exact .inr ⟨g, off, cap, hv, Nat.lt_of_lt_of_le hlt hb.size, hl, hm, fun i hi => (hb.cell (p := ⟨g, off + i, none⟩) hlt).trans (hc i hi)⟩

theorem HasI.form {w : World} {v : Value} {l : List Int} (h : HasI w v l) : ∃ a cap, v = .slice a l.length cap ∧ LiesI w a l := by
 rcases h with ⟨rfl, rfl⟩ | ⟨g, off, cap, rfl, hlt, _, _, hc⟩
 ·exact ⟨none, 0, rfl, .inl rfl⟩
 ·exact ⟨_, cap, rfl, .inr ⟨g, off, rfl, hlt, hc⟩⟩

theorem isRow_liesI {w : World} {a : Option Addr} {len cap : Nat} {zs : List Int} (h : IsRow .i64 w a len cap zs) : ∃ l : List Int, l.length = len ∧ len ≤ maxLen ∧ LiesI w a l := by
 rcases h with ⟨rfl, rfl, rfl, rfl⟩ | ⟨x, rfl, hl, hm, hz, hcell, hwf⟩
 ·exact ⟨[], rfl, Nat.zero_le _, .inl rfl⟩
 ·refine ⟨zs.take len, by simp; omega, by omega, ?_⟩
  by_cases h0 : len = 0
  ·subst h0; exact .inl (by simp)
  ·right
   obtain ⟨b, off, spot⟩ := x
   have hc := hcell 0 (by omega)
   have hspot : spot = none := by simpa [Addr.add] using World.cell?_spot hc
   subst hspot
   refine ⟨b, off, rfl, cell_lt hc, fun i hi => ?_⟩
   simp at hi
   have hci := hcell i (by omega)
   rw [Addr.add_lit] at hci
   rw [hci, List.getD_eq_getElem?_getD, List.getD_eq_getElem?_getD, List.getElem?_take, if_pos (by omega)]
def OwnBI (C E : Nat) (e : TypeId) (w : World) (v : Value) (l : List Int) : Prop := OwnI C e w v l ∧ ∀ q, v.ownBlock = some q → q < E
theorem OwnI.here {C : Nat} {e : TypeId} {w : World} {v : Value} {l : List Int} (h : OwnI C e w v l) : OwnBI C w.heap.size e w v l := ⟨h, fun q hq => (h.lt q hq).2⟩
theorem OwnBI.has {C E : Nat} {e : TypeId} {w : World} {v : Value} {l : List Int} (h : OwnBI C E e w v l) : HasI w v l := h.1.has
theorem OwnBI.below {C E : Nat} {e : TypeId} {w w' : World} {v : Value} {l : List Int} (h : OwnBI C E e w v l) (hb : Below w.heap.size w w') : OwnBI C E e w' v l := ⟨h.1.below hb, h.2⟩
theorem OwnBI.outside {C E B D : Nat} {e : TypeId} {w w' : World} {v : Value} {l : List Int} (h : OwnBI C E e w v l) (u : Outside B D w w') (hd : E ≤ B ∨ D ≤ C) : OwnBI C E e w' v l :=
 ⟨ownsRow_outside h.1 u (fun q hq => by have h1 := (h.1.lt q hq).1; have h2 := h.2 q hq; omega), h.2⟩
theorem OwnBI.marks {C E : Nat} {e : TypeId} {w w' : World} {v : Value} {l l' : List Int} (h : OwnBI C E e w v l) (h' : OwnI C e w' v l') (g : w.grownBy w' v.ownBlock) : OwnBI C E e w' v l' ∧ Outside C E w w' :=
 ⟨⟨h', h.2⟩, outside_grown g (fun q hq => ⟨(h.1.lt q hq).1, h.2 q hq⟩)⟩
end Go.Proofs.YtfpenlobnnlnfaaGreatDoor
