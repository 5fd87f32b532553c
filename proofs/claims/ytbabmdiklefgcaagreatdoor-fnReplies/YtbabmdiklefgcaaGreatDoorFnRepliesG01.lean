/-
  Plain facts: labels and names as lists of numbers, and how they lie in memory. No program is named here. Plain facts: a list of texts whose blocks lie in a stretch, and worlds that are the same outside of it. No program is named here. Plain facts: a name's bytes, label by label; slices of bytes that lie ahead of a block. No program is named here. Plain facts: lists of texts of the call's own: one more behind, two joined, a part. No program is named here.
-/
import Derived.Test.YtbabmdiklefgcaaGreatDoorFnRepliesG00
import Derived.Laws.ResultCell
import Derived.Laws.Rows
namespace Go.Proofs.YtbabmdiklefgcaaGreatDoor
open Go.RowKit

def signOk (c : Int) : Bool := decide ((97 ≤ c ∧ c ≤ 122) ∨ (48 ≤ c ∧ c ≤ 57) ∨ c = 45)

def labelOk (l : List Int) : Bool := decide (1 ≤ l.length ∧ l.length ≤ 15 ∧ ∀ j, j < l.length → signOk (l.getD j 0) = true)

theorem labelOk_yes {l : List Int} (h0 : 1 ≤ l.length) (h1 : l.length ≤ 15) (h : ∀ j, j < l.length → signOk (l.getD j 0) = true) : labelOk l = true := decide_eq_true ⟨h0, h1, h⟩
theorem labelOk_short {l : List Int} (h : ¬ (1 ≤ l.length ∧ l.length ≤ 15)) : labelOk l = false := decide_eq_false fun h' => h ⟨h'.1, h'.2.1⟩
theorem labelOk_sign {l : List Int} {j : Nat} (hj : j < l.length) (h : signOk (l.getD j 0) = false) : labelOk l = false := decide_eq_false fun h' => by
 have := h'.2.2 j hj
 rw [h] at this
 cases this
theorem labelOk_length {l : List Int} (h : labelOk l = true) : 1 ≤ l.length ∧ l.length ≤ 15 := by
 have := of_decide_eq_true h
 exact ⟨this.1, this.2.1⟩

def nameOk (n : List (List Int)) : Bool := decide (n.length ≤ 6 ∧ ∀ j, j < n.length → labelOk (n.getD j []) = true)

theorem nameOk_yes {n : List (List Int)} (h1 : n.length ≤ 6) (h : ∀ j, j < n.length → labelOk (n.getD j []) = true) : nameOk n = true := decide_eq_true ⟨h1, h⟩
theorem nameOk_long {n : List (List Int)} (h : 6 < n.length) : nameOk n = false := decide_eq_false fun h' => by omega
theorem nameOk_label {n : List (List Int)} {j : Nat} (hj : j < n.length) (h : labelOk (n.getD j []) = false) : nameOk n = false := decide_eq_false fun h' => by
 have := h'.2 j hj
 rw [h] at this
 cases this
theorem nameOk_parts {n : List (List Int)} (h : nameOk n = true) : n.length ≤ 6 ∧ ∀ j, j < n.length → labelOk (n.getD j []) = true := of_decide_eq_true h

def LiesL (w : World) (a : Option Addr) (n : List (List Int)) : Prop :=
 n = [] ∨ ∃ b off, a = some ⟨b, off, none⟩ ∧ b < w.heap.size ∧ ∀ i, i < n.length → ∃ ia ic, w.cell? ⟨b, off + i, none⟩ = some (.slice ia (n.getD i []).length ic) ∧ Lies w ia (n.getD i [])

theorem LiesL.below {w w' : World} {a : Option Addr} {n : List (List Int)} (h : LiesL w a n) (hb : Below w.heap.size w w') : LiesL w' a n := by
 rcases h with rfl | ⟨b, off, rfl, hlt, hc⟩
 ·exact .inl rfl
 ·refine .inr ⟨b, off, rfl, Nat.lt_of_lt_of_le hlt hb.size, fun i hi => ?_⟩
  obtain ⟨ia, ic, h1, h2⟩ := hc i hi
  exact ⟨ia, ic, (hb.cell (p := ⟨b, off + i, none⟩) hlt).trans h1, h2.below hb⟩

theorem LiesL.here {w : World} {a : Option Addr} {n : List (List Int)} (h : LiesL w a n) {k : Nat} (hk : k < n.length) :
  ∃ b off ia ic, a = some ⟨b, off, none⟩ ∧ b < w.heap.size ∧ w.cell? ⟨b, off + k, none⟩ = some (.slice ia (n.getD k []).length ic) ∧ Lies w ia (n.getD k []) := by
 rcases h with rfl | ⟨b, off, rfl, hlt, hc⟩
 ·simp at hk
 ·obtain ⟨ia, ic, h1, h2⟩ := hc k hk
  exact ⟨b, off, ia, ic, rfl, hlt, h1, h2⟩

def HasL (w : World) (v : Value) (n : List (List Int)) : Prop :=
 (v = .slice none 0 0 ∧ n = []) ∨ ∃ g off cap, v = .slice (some ⟨g, off, none⟩) n.length cap ∧ g < w.heap.size ∧ n.length ≤ cap ∧ cap ≤ maxLen ∧
  ∀ i, i < n.length → ∃ u, w.cell? ⟨g, off + i, none⟩ = some u ∧ Has w u (n.getD i [])

theorem HasL.below {w w' : World} {v : Value} {n : List (List Int)} (h : HasL w v n) (hb : Below w.heap.size w w') : HasL w' v n := by
 rcases h with h | ⟨g, off, cap, hv, hlt, hl, hm, hc⟩
 ·exact .inl h
 ·refine .inr ⟨g, off, cap, hv, Nat.lt_of_lt_of_le hlt hb.size, hl, hm, fun i hi => ?_⟩
  obtain ⟨u, h1, h2⟩ := hc i hi
  exact ⟨u, (hb.cell (p := ⟨g, off + i, none⟩) hlt).trans h1, h2.below hb⟩

theorem HasL.here {w : World} {a : Option Addr} {len cap : Nat} {n : List (List Int)} (h : HasL w (.slice a len cap) n) {k : Nat} (hk : k < n.length) :
  ∃ b off u, a = some ⟨b, off, none⟩ ∧ b < w.heap.size ∧ w.cell? ⟨b, off + k, none⟩ = some u ∧ Has w u (n.getD k []) := by
 rcases h with ⟨_, rfl⟩ | ⟨g, off, cap, hv, hlt, _, _, hc⟩
 ·simp at hk
 ·simp only [Value.slice.injEq] at hv
  obtain ⟨u, h1, h2⟩ := hc k hk
  exact ⟨g, off, u, hv.1, hlt, h1, h2⟩

theorem HasL.form {w : World} {v : Value} {n : List (List Int)} (h : HasL w v n) : ∃ a cap, v = .slice a n.length cap ∧ n.length ≤ cap ∧ cap ≤ maxLen := by
 rcases h with ⟨rfl, rfl⟩ | ⟨g, off, cap, rfl, _, hl, hm, _⟩
 ·exact ⟨none, 0, rfl, Nat.le_refl _, Nat.zero_le _⟩
 ·exact ⟨_, cap, rfl, hl, hm⟩

theorem Has.bound {w : World} {v : Value} {l : List Int} (h : Has w v l) : l.length ≤ maxLen := by
 rcases h with ⟨_, rfl⟩ | ⟨_, _, _, _, _, hl, hm, _⟩
 ·exact Nat.zero_le _
 ·omega

def OwnL (B : Nat) (el eb : TypeId) (w : World) (v : Value) (n : List (List Int)) : Prop :=
 ∃ vs : List Value, w.ownsRow B el 1 v n.length vs ∧ (∀ i, i < n.length → ∃ u, vs[i]? = some u ∧ Own B eb w u (n.getD i [])) ∧
  ∀ (i j : Nat) (u u' : Value), i < j → vs[i]? = some u → vs[j]? = some u' → u.ownBlock = none ∨ u.ownBlock ≠ u'.ownBlock

theorem OwnL.hasL {B : Nat} {el eb : TypeId} {w : World} {v : Value} {n : List (List Int)} (h : OwnL B el eb w v n) : HasL w v n := by
 obtain ⟨vs, ho, hu, _⟩ := h
 have ho' := ho
 rcases ho.2 with ⟨rfl, hn⟩ | ⟨g, cap, cur, rfl, hb, hg, hn, hm, hs, ht⟩
 ·exact .inl ⟨rfl, List.eq_nil_of_length_eq_zero hn⟩
 ·refine .inr ⟨g, 0, cap, rfl, (ho'.lt g rfl).2, hn, hm, fun i hi => ?_⟩
  obtain ⟨u, h1, h2⟩ := hu i hi
  refine ⟨u, ?_, h2.has⟩
  rw [Nat.zero_add, World.ownsRow.cellAt ho' i (by omega), h1]

theorem OwnL.below {B : Nat} {el eb : TypeId} {w w' : World} {v : Value} {n : List (List Int)} (h : OwnL B el eb w v n) (hb : Below w.heap.size w w') : OwnL B el eb w' v n := by
 obtain ⟨vs, ho, hu, hd⟩ := h
 refine ⟨vs, World.ownsRow.kept ho (grown_of_below hb) ?_, fun i hi => ?_, hd⟩
 ·cases hv : v.ownBlock with
  | none => exact .inl rfl
  | some k => exact .inr (by simp)
 ·obtain ⟨u, h1, h2⟩ := hu i hi
  exact ⟨u, h1, h2.below hb⟩

theorem UI {w : World} (o : Obj) : Below w.heap.size w (w.alloc o) := (Below.refl _ _).alloc (Nat.le_refl _) o

theorem grown_setCell (w : World) (a : Addr) (v : Value) : w.grownBy (w.setCell a v) (some a.block) := by
 refine ⟨rfl, rfl, rfl, by simp [World.setCell], fun k hk hne => ?_⟩
 have : a.block ≠ k := fun e => hne (by rw [e])
 simp [World.setCell, Array.getElem?_modify, this]

theorem OwnL.kept {B q : Nat} {el eb : TypeId} {w w' : World} {v : Value} {n : List (List Int)} (h : OwnL B el eb w v n) (hg : w.grownBy w' (some q)) (hq : q < B) : OwnL B el eb w' v n := by
 obtain ⟨vs, ho, hu, hd⟩ := h
 refine ⟨vs, World.ownsRow.kept ho hg ?_, fun i hi => ?_, hd⟩
 ·cases hv : v.ownBlock with
  | none => exact .inl rfl
  | some k =>
   right
   intro e
   have := (World.ownsRow.lt ho k hv).1
   simp at e
   omega
 ·obtain ⟨u, h1, h2⟩ := hu i hi
  refine ⟨u, h1, h2.kept hg ?_⟩
  cases hv : u.ownBlock with
  | none => exact .inl rfl
  | some k =>
   right
   intro e
   have := (h2.lt k hv).1
   simp at e
   omega

theorem ownsRow_mono {B B' : Nat} {e : TypeId} {w : World} {v : Value} {n : Nat} {xs : List Value} (h : w.ownsRow B e 1 v n xs) (hB : B' ≤ B) : w.ownsRow B' e 1 v n xs := by
 refine ⟨h.1, ?_⟩
 rcases h.2 with hn | ⟨g, cap, cur, hv, hb, rest⟩
 ·exact .inl hn
 ·exact .inr ⟨g, cap, cur, hv, Nat.le_trans hB hb, rest⟩

theorem OwnL.mono {B B' : Nat} {el eb : TypeId} {w : World} {v : Value} {n : List (List Int)} (h : OwnL B el eb w v n) (hB : B' ≤ B) : OwnL B' el eb w v n := by
 obtain ⟨vs, ho, hu, hd⟩ := h
 refine ⟨vs, ownsRow_mono ho hB, fun i hi => ?_, hd⟩
 obtain ⟨u, h1, h2⟩ := hu i hi
 exact ⟨u, h1, h2.mono hB⟩

theorem box3 (w : World) (o : Obj) (c2 c3 : Array Value) (t2 t3 : TypeId) :
  (((w.alloc o).alloc (.cells c2 t2)).alloc (.cells c3 t3)).heap.size = w.heap.size + 3 ∧
  (((w.alloc o).alloc (.cells c2 t2)).alloc (.cells c3 t3)).heap[w.heap.size + 1]? = some (.cells c2 t2) ∧
  (((w.alloc o).alloc (.cells c2 t2)).alloc (.cells c3 t3)).heap[w.heap.size + 1 + 1]? = some (.cells c3 t3) := by
 have e1 : (w.alloc o).heap.size = w.heap.size + 1 := by show (w.heap.push o).size = _; simp
 have e2 : ((w.alloc o).alloc (.cells c2 t2)).heap.size = w.heap.size + 1 + 1 := by rw [← e1]; show ((w.alloc o).heap.push _).size = _; simp
 have e3 : (((w.alloc o).alloc (.cells c2 t2)).alloc (.cells c3 t3)).heap.size = w.heap.size + 1 + 1 + 1 := by rw [← e2]; show (((w.alloc o).alloc (.cells c2 t2)).heap.push _).size = _; simp
 refine ⟨e3, ?_, ?_⟩
 ·exact ((UI _).block _ (by rw [e2]; omega)).trans (by rw [← e1]; exact heap_alloc_new _ _)
 ·rw [← e2]; exact heap_alloc_new _ _

theorem VE {w : World} {b : Nat} {c : Array Value} {t : TypeId} (h : w.heap[b]? = some (.cells c t)) (i : Nat) : w.cell? ⟨b, i, none⟩ = c[i]? := by simp [World.cell?, h]
theorem VG {w : World} {b : Nat} {c : Array Value} {t : TypeId} (h : w.heap[b]? = some (.cells c t)) (i : Nat) : w.frozen? ⟨b, i, none⟩ = false := by simp [World.frozen?, h]
theorem block_set {w : World} {b : Nat} {x : Value} {t : TypeId} (h : w.heap[b]? = some (.cells #[x] t)) (v : Value) : (w.setCell ⟨b, 0, none⟩ v).heap[b]? = some (.cells #[v] t) := by
 simp [World.setCell, Array.getElem?_modify, h]
theorem block_other {w : World} {b b' : Nat} {o : Option Obj} (h : w.heap[b]? = o) (hne : b' ≠ b) (i : Nat) (v : Value) : (w.setCell ⟨b', i, none⟩ v).heap[b]? = o := by
 simp [World.setCell, Array.getElem?_modify, hne, h]

theorem UX {w : World} : Below w.heap.size w w.drew := ⟨rfl, rfl, rfl, Nat.le_refl _, fun _ _ => rfl⟩

theorem US {w : World} {b : Nat} {v : Value} {t : TypeId} (h : w.heap[b]? = some (.cells #[v] t)) : w.cell? ⟨b, 0, none⟩ = some v := by rw [VE h]; rfl
theorem VC {w : World} {b : Nat} {o : Obj} (h : w.heap[b]? = some o) : b < w.heap.size := (Array.getElem?_eq_some_iff.1 h).1
theorem UE {w w' : World} {b : Nat} {o : Obj} (hb : Below w.heap.size w w') (h : w.heap[b]? = some o) : w'.heap[b]? = some o := (hb.block b (VC h)).trans h
end Go.Proofs.YtbabmdiklefgcaaGreatDoor

namespace Go.Proofs.YtbabmdiklefgcaaGreatDoor
open Go.RowKit

structure Outside (B E : Nat) (w w' : World) : Prop where
 os : w'.os = w.os
 tape : w'.tape = w.tape
 output : w'.output = w.output
 size : w.heap.size ≤ w'.heap.size
 block : ∀ k, k < w.heap.size → (k < B ∨ E ≤ k) → w'.heap[k]? = w.heap[k]?

theorem Outside.refl (B E : Nat) (w : World) : Outside B E w w := ⟨rfl, rfl, rfl, Nat.le_refl _, fun _ _ _ => rfl⟩
theorem Outside.trans {B E : Nat} {a b c : World} (h : Outside B E a b) (k : Outside B E b c) : Outside B E a c :=
 ⟨k.os.trans h.os, k.tape.trans h.tape, k.output.trans h.output, Nat.le_trans h.size k.size, fun i hi hn => (k.block i (Nat.lt_of_lt_of_le hi h.size) hn).trans (h.block i hi hn)⟩
theorem Below.outside {B E : Nat} {w w' : World} (h : Below w.heap.size w w') : Outside B E w w' := ⟨h.os, h.tape, h.output, h.size, fun k hk _ => h.block k hk⟩
theorem outside_grown {B E : Nat} {w w' : World} {row : Option Nat} (h : w.grownBy w' row) (hr : ∀ k, row = some k → B ≤ k ∧ k < E) : Outside B E w w' :=
 ⟨h.os, h.tape, h.output, h.size, fun k hk hn => h.block k hk (fun e => by have := hr k e.symm; omega)⟩
theorem Outside.below {B E : Nat} {a w w' : World} (h : Outside B E w w') (hb : Below a.heap.size a w) (hB : a.heap.size ≤ B) : Below a.heap.size a w' :=
 ⟨h.os.trans hb.os, h.tape.trans hb.tape, h.output.trans hb.output, Nat.le_trans hb.size h.size, fun k hk => (h.block k (Nat.lt_of_lt_of_le hk hb.size) (.inl (by omega))).trans (hb.block k hk)⟩
theorem Outside.kept {B E b : Nat} {w w' : World} {o : Obj} (h : Outside B E w w') (hk : w.heap[b]? = some o) (hn : b < B ∨ E ≤ b) : w'.heap[b]? = some o := (h.block b (VC hk) hn).trans hk

def HasAt (A : Nat) (w : World) (v : Value) (l : List Int) : Prop :=
 (v = .slice none 0 0 ∧ l = []) ∨ ∃ g off cap, v = .slice (some ⟨g, off, none⟩) l.length cap ∧ g < w.heap.size ∧ g < A ∧ l.length ≤ cap ∧ cap ≤ maxLen ∧ ∀ i, i < l.length → w.cell? ⟨g, off + i, none⟩ = some (.int .u8 (l.getD i 0))

theorem Has.at {w : World} {v : Value} {l : List Int} (h : Has w v l) : HasAt w.heap.size w v l := by
 rcases h with h | ⟨g, off, cap, hv, hlt, hl, hm, hc⟩
 ·exact .inl h
 ·exact .inr ⟨g, off, cap, hv, hlt, hlt, hl, hm, hc⟩
theorem HasAt.has {A : Nat} {w : World} {v : Value} {l : List Int} (h : HasAt A w v l) : Has w v l := by
 rcases h with h | ⟨g, off, cap, hv, hlt, _, hl, hm, hc⟩
 ·exact .inl h
 ·exact .inr ⟨g, off, cap, hv, hlt, hl, hm, hc⟩
theorem HasAt.outside {A B E : Nat} {w w' : World} {v : Value} {l : List Int} (h : HasAt A w v l) (ho : Outside B E w w') (hA : A ≤ B) : HasAt A w' v l := by
 rcases h with h | ⟨g, off, cap, hv, hlt, hA', hl, hm, hc⟩
 ·exact .inl h
 ·refine .inr ⟨g, off, cap, hv, Nat.lt_of_lt_of_le hlt ho.size, hA', hl, hm, fun i hi => ?_⟩
  rw [World.cell?_of_block (ho.block g hlt (.inl (by omega)))]
  exact hc i hi
theorem HasAt.below {A : Nat} {w w' : World} {v : Value} {l : List Int} (h : HasAt A w v l) (hb : Below w.heap.size w w') : HasAt A w' v l := by
 rcases h with h | ⟨g, off, cap, hv, hlt, hA', hl, hm, hc⟩
 ·exact .inl h
 ·exact .inr ⟨g, off, cap, hv, Nat.lt_of_lt_of_le hlt hb.size, hA', hl, hm, fun i hi => (hb.cell (p := ⟨g, off + i, none⟩) hlt).trans (hc i hi)⟩

theorem Own.outside {B C E : Nat} {e : TypeId} {w w' : World} {v : Value} {l : List Int} (h : Own C e w v l) (ho : Outside B E w w') (hE : E ≤ C) : Own C e w' v l := by
 refine ⟨h.1, ?_⟩
 have h' := h
 rcases h.2 with hn | ⟨g, cap, cur, hv, hb, hg, rest⟩
 ·exact .inl hn
 ·refine .inr ⟨g, cap, cur, hv, hb, ?_, rest⟩
  rw [ho.block g (h'.lt g (by rw [hv]; rfl)).2 (.inr (by omega))]
  exact hg

def OwnN (B E : Nat) (el eb : TypeId) (w : World) (v : Value) (n : List (List Int)) : Prop :=
 ∃ vs : List Value, w.ownsRow B el 1 v n.length vs ∧ (∀ i, i < n.length → ∃ u, vs[i]? = some u ∧ Own B eb w u (n.getD i [])) ∧
  (∀ (i j : Nat) (u u' : Value), i < j → vs[i]? = some u → vs[j]? = some u' → u.ownBlock = none ∨ u.ownBlock ≠ u'.ownBlock) ∧
  (∀ q, v.ownBlock = some q → q < E) ∧ ∀ (i : Nat) (u : Value) (q : Nat), vs[i]? = some u → u.ownBlock = some q → q < E

theorem OwnL.here {B : Nat} {el eb : TypeId} {w : World} {v : Value} {n : List (List Int)} (h : OwnL B el eb w v n) : OwnN B w.heap.size el eb w v n := by
 obtain ⟨vs, ho, hu, hd⟩ := h
 refine ⟨vs, ho, hu, hd, fun q hq => (World.ownsRow.lt ho q hq).2, fun i u q hi hq => ?_⟩
 have hl : vs.length = n.length := by have := ho.1; simpa using this
 have hi' : i < n.length := by rw [← hl]; exact (List.getElem?_eq_some_iff.1 hi).1
 obtain ⟨u', h1, h2⟩ := hu i hi'
 rw [hi] at h1
 obtain rfl : u = u' := by simpa using h1
 exact (h2.lt q hq).2
theorem OwnN.ownL {B E : Nat} {el eb : TypeId} {w : World} {v : Value} {n : List (List Int)} (h : OwnN B E el eb w v n) : OwnL B el eb w v n := by
 obtain ⟨vs, ho, hu, hd, _⟩ := h
 exact ⟨vs, ho, hu, hd⟩
theorem OwnN.below {B E : Nat} {el eb : TypeId} {w w' : World} {v : Value} {n : List (List Int)} (h : OwnN B E el eb w v n) (hb : Below w.heap.size w w') : OwnN B E el eb w' v n := by
 obtain ⟨vs, ho, hu, hd, hv, he⟩ := h
 obtain ⟨_, _, _, _⟩ := OwnL.below ⟨vs, ho, hu, hd⟩ hb
 refine ⟨vs, World.ownsRow.kept ho (grown_of_below hb) ?_, fun i hi => ?_, hd, hv, he⟩
 ·cases hv : v.ownBlock with
  | none => exact .inl rfl
  | some k => exact .inr (by simp)
 ·obtain ⟨u, h1, h2⟩ := hu i hi
  exact ⟨u, h1, h2.below hb⟩

def pos (n : List (List Int)) (k : Int) (j : Nat) : Int := k + (((n.take j).map List.length).sum : Nat)
end Go.Proofs.YtbabmdiklefgcaaGreatDoor

namespace Go.Proofs.YtbabmdiklefgcaaGreatDoor
open Go.RowKit

def wires (n : List (List Int)) (k : Nat) : List Int := ((n.take k).map (fun l => (l.length : Int) :: l)).flatten

theorem wires_zero (n : List (List Int)) : wires n 0 = [] := by simp [wires]
theorem wires_succ (n : List (List Int)) (k : Nat) (h : k < n.length) : wires n (k + 1) = wires n k ++ (((n.getD k []).length : Int) :: n.getD k []) := by
 unfold wires
 rw [List.take_succ_eq_append_getElem h, List.map_append, List.flatten_append, show n.getD k [] = n[k] by simp [h]]
 simp only [List.map_cons, List.map_nil, List.flatten_cons, List.flatten_nil, List.append_nil]

theorem wires_length (n : List (List Int)) (h : nameOk n = true) (k : Nat) : (wires n k).length ≤ 16 * k := by
 induction k with
 | zero => simp [wires]
 | succ k ih =>
  by_cases hk : k < n.length
  ·rw [wires_succ n k hk]
   have := (labelOk_length ((nameOk_parts h).2 k hk)).2
   simp only [List.length_append, List.length_cons]
   omega
  ·have e : wires n (k + 1) = wires n k := by unfold wires; rw [List.take_of_length_le (by omega), List.take_of_length_le (by omega)]
   rw [e]; omega

def wire (n : List (List Int)) : List Int := wires n n.length ++ [0]

theorem wire_length (n : List (List Int)) (h : nameOk n = true) : (wire n).length ≤ 97 := by
 unfold wire
 have := wires_length n h n.length
 have := (nameOk_parts h).1
 simp only [List.length_append, List.length_cons, List.length_nil]
 omega

def namePut (l : List Int) (n : List (List Int)) : List Int := if nameOk n = true then l ++ wire n else []
theorem namePut_yes {l : List Int} {n : List (List Int)} (h : nameOk n = true) : namePut l n = l ++ wire n := by simp [namePut, h]
theorem namePut_no {l : List Int} {n : List (List Int)} (h : nameOk n = false) : namePut l n = [] := by simp [namePut, h]
theorem HasAt.low {A B : Nat} {w w' : World} {v : Value} {l : List Int} (h : HasAt A w v l) (hb : Below B w w') (hA : A ≤ B) : HasAt A w' v l := by
 rcases h with h | ⟨g, off, cap, hv, hlt, hA', hl, hm, hc⟩
 ·exact .inl h
 ·exact .inr ⟨g, off, cap, hv, Nat.lt_of_lt_of_le hlt hb.size, hA', hl, hm, fun i hi => (hb.cell (p := ⟨g, off + i, none⟩) (by show g < B; omega)).trans (hc i hi)⟩
theorem HasAt.mono {A A' : Nat} {w : World} {v : Value} {l : List Int} (h : HasAt A w v l) (hA : A ≤ A') : HasAt A' w v l := by
 rcases h with h | ⟨g, off, cap, hv, hlt, hA', hl, hm, hc⟩
 ·exact .inl h
 ·exact .inr ⟨g, off, cap, hv, hlt, by omega, hl, hm, hc⟩
theorem HasAt.form {A : Nat} {w : World} {v : Value} {l : List Int} (h : HasAt A w v l) : ∃ a cap, v = .slice a l.length cap ∧ Lies w a l := h.has.form

def HasLAt (A : Nat) (w : World) (v : Value) (n : List (List Int)) : Prop :=
 (v = .slice none 0 0 ∧ n = []) ∨ ∃ g off cap, v = .slice (some ⟨g, off, none⟩) n.length cap ∧ g < w.heap.size ∧ g < A ∧ n.length ≤ cap ∧ cap ≤ maxLen ∧
  ∀ i, i < n.length → ∃ u, w.cell? ⟨g, off + i, none⟩ = some u ∧ HasAt A w u (n.getD i [])

theorem HasL.at {w : World} {v : Value} {n : List (List Int)} (h : HasL w v n) : HasLAt w.heap.size w v n := by
 rcases h with h | ⟨g, off, cap, hv, hlt, hl, hm, hc⟩
 ·exact .inl h
 ·refine .inr ⟨g, off, cap, hv, hlt, hlt, hl, hm, fun i hi => ?_⟩
  obtain ⟨u, h1, h2⟩ := hc i hi
  exact ⟨u, h1, h2.at⟩
theorem HasLAt.hasL {A : Nat} {w : World} {v : Value} {n : List (List Int)} (h : HasLAt A w v n) : HasL w v n := by
 rcases h with h | ⟨g, off, cap, hv, hlt, _, hl, hm, hc⟩
 ·exact .inl h
 ·refine .inr ⟨g, off, cap, hv, hlt, hl, hm, fun i hi => ?_⟩
  obtain ⟨u, h1, h2⟩ := hc i hi
  exact ⟨u, h1, h2.has⟩
theorem HasLAt.low {A B : Nat} {w w' : World} {v : Value} {n : List (List Int)} (h : HasLAt A w v n) (hb : Below B w w') (hA : A ≤ B) : HasLAt A w' v n := by
 rcases h with h | ⟨g, off, cap, hv, hlt, hA', hl, hm, hc⟩
 ·exact .inl h
 ·refine .inr ⟨g, off, cap, hv, Nat.lt_of_lt_of_le hlt hb.size, hA', hl, hm, fun i hi => ?_⟩
  obtain ⟨u, h1, h2⟩ := hc i hi
  exact ⟨u, (hb.cell (p := ⟨g, off + i, none⟩) (by show g < B; omega)).trans h1, h2.low hb hA⟩
theorem HasLAt.below {A : Nat} {w w' : World} {v : Value} {n : List (List Int)} (h : HasLAt A w v n) (hb : Below w.heap.size w w') : HasLAt A w' v n := by
 rcases h with h | ⟨g, off, cap, hv, hlt, hA', hl, hm, hc⟩
 ·exact .inl h
 ·refine .inr ⟨g, off, cap, hv, Nat.lt_of_lt_of_le hlt hb.size, hA', hl, hm, fun i hi => ?_⟩
  obtain ⟨u, h1, h2⟩ := hc i hi
  exact ⟨u, (hb.cell (p := ⟨g, off + i, none⟩) hlt).trans h1, h2.below hb⟩
theorem HasLAt.outside {A B E : Nat} {w w' : World} {v : Value} {n : List (List Int)} (h : HasLAt A w v n) (ho : Outside B E w w') (hA : A ≤ B) : HasLAt A w' v n := by
 rcases h with h | ⟨g, off, cap, hv, hlt, hA', hl, hm, hc⟩
 ·exact .inl h
 ·refine .inr ⟨g, off, cap, hv, Nat.lt_of_lt_of_le hlt ho.size, hA', hl, hm, fun i hi => ?_⟩
  obtain ⟨u, h1, h2⟩ := hc i hi
  refine ⟨u, ?_, h2.outside ho hA⟩
  rw [World.cell?_of_block (ho.block g hlt (.inl (by omega)))]
  exact h1
theorem HasLAt.here {A : Nat} {w : World} {a : Option Addr} {len cap : Nat} {n : List (List Int)} (h : HasLAt A w (.slice a len cap) n) {k : Nat} (hk : k < n.length) :
  ∃ b off u, a = some ⟨b, off, none⟩ ∧ b < A ∧ w.cell? ⟨b, off + k, none⟩ = some u ∧ HasAt A w u (n.getD k []) := by
 rcases h with ⟨_, rfl⟩ | ⟨g, off, cap, hv, _, hlt, _, _, hc⟩
 ·simp at hk
 ·simp only [Value.slice.injEq] at hv
  obtain ⟨u, h1, h2⟩ := hc k hk
  exact ⟨g, off, u, hv.1, hlt, h1, h2⟩

theorem Own.apart {B b : Nat} {e t : TypeId} {w : World} {v : Value} {l : List Int} {c : Array Value} (h : Own B e w v l) (hb : w.heap[b]? = some (.cells c t)) (hne : t ≠ e) : v.ownBlock ≠ some b := by
 intro hq
 rcases h.2 with ⟨rfl, _⟩ | ⟨g, cap, cur, rfl, _, hg, _⟩
 ·simp [Value.ownBlock] at hq
 ·simp [Value.ownBlock] at hq
  subst hq
  rw [hg] at hb
  simp at hb
  exact hne hb.2.symm
theorem block_grown {b : Nat} {w w' : World} {row : Option Nat} {o : Obj} (hg : w.grownBy w' row) (hb : w.heap[b]? = some o) (hne : row ≠ some b) : w'.heap[b]? = some o := (hg.block b (VC hb) (fun e => hne e.symm)).trans hb
theorem grown_below {B : Nat} {e : TypeId} {w w' : World} {v : Value} {l : List Int} (ho : Own B e w v l) (hB : B ≤ w.heap.size) (g : w.grownBy w' v.ownBlock) : Below B w w' := (Below.refl B w).grown g hB (fun q hq => (ho.lt q hq).1)
theorem put_step {B q : Nat} {e t : TypeId} {w1 W w' : World} {v u x : Value} {l lab : List Int} {c : Array Value} {p : Addr} (g : W.grownBy w' v.ownBlock) (ho : Own B e W v l) (hz : B ≤ W.heap.size) (hk : W.heap[q]? = some (.cells c t)) (hne : t ≠ e)
  (hb : Below B w1 W) (hu : HasAt B W u lab) (hc : W.cell? p = some x) (hp : p.block < B) :
  w'.heap[q]? = some (.cells c t) ∧ Below B w1 w' ∧ B ≤ w'.heap.size ∧ HasAt B w' u lab ∧ w'.cell? p = some x := by
 have y := grown_below ho hz g
 exact ⟨block_grown g hk (ho.apart hk hne), hb.trans y, Nat.le_trans hz y.size, hu.low y (Nat.le_refl _), (y.cell hp).trans hc⟩
theorem wrap_u8 (n : Nat) (h : n ≤ 255) : IntKind.u8.wrap (n : Int) = n := by
 simp [IntKind.wrap, IntKind.bits, IntKind.signed]
 omega
end Go.Proofs.YtbabmdiklefgcaaGreatDoor

namespace Go.Proofs.YtbabmdiklefgcaaGreatDoor
open Go.RowKit

theorem OwnL.snoc {B : Nat} {el eb : TypeId} {w w' : World} {v v' u : Value} {n : List (List Int)} {l : List Int} {vs : List Value} (ho : w.ownsRow B el 1 v n.length vs)
  (hu : ∀ i, i < n.length → ∃ x, vs[i]? = some x ∧ Own B eb w x (n.getD i [])) (hd : ∀ (i j : Nat) (x x' : Value), i < j → vs[i]? = some x → vs[j]? = some x' → x.ownBlock = none ∨ x.ownBlock ≠ x'.ownBlock)
  (hul : Own B eb w u l) (hnew : ∀ (i : Nat) (x : Value), vs[i]? = some x → x.ownBlock = none ∨ x.ownBlock ≠ u.ownBlock)
  (ho' : w'.ownsRow B el 1 v' (n.length + 1) (vs ++ [u])) (hg : w.grownBy w' v.ownBlock) (hne : el ≠ eb) : OwnL B el eb w' v' (n ++ [l]) := by
 have hl : vs.length = n.length := by have := ho.1; simpa using this
 have apart : ∀ x m, Own B eb w x m → x.ownBlock = none ∨ x.ownBlock ≠ v.ownBlock := by
  intro x m hx
  rcases hx.2 with ⟨rfl, _⟩ | ⟨g, cap, cur, rfl, _, hgx, _⟩
  ·exact .inl rfl
  ·right
   intro e
   rcases ho.2 with ⟨rfl, _⟩ | ⟨g', cap', cur', rfl, _, hgv, _⟩
   ·simp [Value.ownBlock] at e
   ·simp [Value.ownBlock] at e
    subst e
    rw [hgx] at hgv
    simp at hgv
    exact hne hgv.2.symm
 refine ⟨vs ++ [u], by simpa using ho', fun i hi => ?_, fun i j x x' hij hx hx' => ?_⟩
 ·simp at hi
  by_cases e : i < n.length
  ·obtain ⟨x, h1, h2⟩ := hu i e
   refine ⟨x, by rw [List.getElem?_append_left (by omega)]; exact h1, ?_⟩
   have e2 : (n ++ [l]).getD i [] = n.getD i [] := by simp [List.getD, List.getElem?_append_left e]
   rw [e2]
   exact h2.kept hg (apart x _ h2)
  ·obtain rfl : i = n.length := by omega
   refine ⟨u, by rw [List.getElem?_append_right (by omega)]; simp [hl], ?_⟩
   have e2 : (n ++ [l]).getD n.length [] = l := by simp [List.getD]
   rw [e2]
   exact hul.kept hg (apart u _ hul)
 ·have hj : j < (vs ++ [u]).length := (List.getElem?_eq_some_iff.1 hx').1
  simp at hj
  rw [List.getElem?_append_left (by omega)] at hx
  by_cases e : j < vs.length
  ·rw [List.getElem?_append_left e] at hx'
   exact hd i j x x' hij hx hx'
  ·obtain rfl : j = vs.length := by omega
   rw [List.getElem?_append_right (by omega)] at hx'
   simp at hx'
   subst hx'
   exact hnew i x hx


theorem ownsRow_kept' {B n : Nat} {e : TypeId} {w w' : World} {v : Value} {xs : List Value} (h : w.ownsRow B e 1 v n xs) (hb : Below w.heap.size w w') : w'.ownsRow B e 1 v n xs := World.ownsRow.kept h (grown_of_below hb) (by cases hq : v.ownBlock with | none => exact .inl rfl | some q => exact .inr (by simp))

theorem row_apart {B b n : Nat} {e t : TypeId} {w : World} {v : Value} {xs : List Value} {c : Array Value} (h : w.ownsRow B e 1 v n xs) (hb : w.heap[b]? = some (.cells c t)) (hne : t ≠ e) : v.ownBlock ≠ some b := by
 intro hq
 rcases h.2 with ⟨rfl, _⟩ | ⟨g, cap, cur, rfl, _, hg, _⟩
 ·simp [Value.ownBlock] at hq
 ·simp [Value.ownBlock] at hq
  subst hq
  rw [hg] at hb
  simp at hb
  exact hne hb.2.symm

theorem snoc_step {B q m : Nat} {el eb t : TypeId} {w W w' : World} {v v' u : Value} {n : List (List Int)} {l : List Int} {vs : List Value} {c : Array Value} (g : W.grownBy w' v.ownBlock) (ho' : w'.ownsRow B el 1 v' m (vs ++ [u])) (hm : m = vs.length + 1)
  (hvs : w.ownsRow B el 1 v n.length vs) (hva : ∀ i, i < n.length → ∃ x, vs[i]? = some x ∧ Own B eb w x (n.getD i [])) (hvd : ∀ (i j : Nat) (x x' : Value), i < j → vs[i]? = some x → vs[j]? = some x' → x.ownBlock = none ∨ x.ownBlock ≠ x'.ownBlock)
  (hb : Below w.heap.size w W) (hu : Own w.heap.size eb W u l) (hB : B ≤ w.heap.size) (hne : el ≠ eb) (hk : W.heap[q]? = some (.cells c t)) (hnt : t ≠ el) :
  OwnL B el eb w' v' (n ++ [l]) ∧ w'.heap[q]? = some (.cells c t) ∧ Below B w w' := by
 have hl : vs.length = n.length := by have := hvs.1; simpa using this
 have hW := ownsRow_kept' hvs hb
 refine ⟨?_, block_grown g hk (row_apart hW hk hnt), ?_⟩
 ·refine OwnL.snoc (w := W) hW (fun i hi => ?_) hvd (hu.mono hB) (fun i x hx => ?_) (by rw [hm, hl] at ho'; exact ho') g hne
  ·obtain ⟨x, h1, h2⟩ := hva i hi
   exact ⟨x, h1, h2.below hb⟩
  ·have hi : i < n.length := by rw [← hl]; exact (List.getElem?_eq_some_iff.1 hx).1
   obtain ⟨x', h1, h2⟩ := hva i hi
   rw [hx] at h1
   obtain rfl : x = x' := by simpa using h1
   exact own_apart h2 hu (Nat.le_refl _)
 ·exact (hb.mono hB).trans ((Below.refl B W).grown g (Nat.le_trans hB hb.size) (fun k hk => (World.ownsRow.lt hW k hk).1))

theorem lit_grown {w w' : World} {o : Obj} {n c : Nat} (g : (w.alloc o).grownBy w' (Value.slice (some ⟨w.heap.size, 0, none⟩) n c).ownBlock) : Below w.heap.size w w' :=
 (UI o).grown g (UI o).size (fun k hk => by simp [Value.ownBlock] at hk; omega)

theorem box2 (w : World) (o : Obj) (c2 : Array Value) (t2 : TypeId) :
  ((w.alloc o).alloc (.cells c2 t2)).heap.size = w.heap.size + 2 ∧ ((w.alloc o).alloc (.cells c2 t2)).heap[w.heap.size]? = some o ∧ ((w.alloc o).alloc (.cells c2 t2)).heap[w.heap.size + 1]? = some (.cells c2 t2) := by
 have e1 : (w.alloc o).heap.size = w.heap.size + 1 := by show (w.heap.push o).size = _; simp
 have e2 : ((w.alloc o).alloc (.cells c2 t2)).heap.size = w.heap.size + 1 + 1 := by rw [← e1]; show ((w.alloc o).heap.push _).size = _; simp
 refine ⟨e2, UE (UI _) (heap_alloc_new w o), ?_⟩
 rw [← e1]; exact heap_alloc_new _ _
theorem below2 (w : World) (o o' : Obj) : Below w.heap.size w ((w.alloc o).alloc o') := (UI _).alloc (UI _).size _

theorem results_cell_tmp_row {P : Program} {fn : Func} {p u : Tmp} {ty : TypeId} (h : fn.results = #[.cell p ty, .tmp u]) (tmps : Array Value) (w : World) (g : Nat) (t : TypeId) (cs : Array Value) (fr : Nat × Nat) (d : TypeDesc)
  (hp : tmps.getD p undef = .pointer (some ⟨g, 0, none⟩)) (hg : w.heap[g]? = some (.cells cs t fr))
  (hu : P.underlying ty = some d) (hd : (match d with | .struct _ | .array _ _ => true | _ => false) = true) (hi : (P.info? ty).map (·.size) = some cs.size) :
  (results fn tmps).run P w = .ok (.tuple #[.agg cs, tmps.getD u undef]) w := by
 rw [results_cell_tmp h, hp]
 simp [asAddr, run_loadVar_row w g t ty cs fr d hg hu hd hi]

end Go.Proofs.YtbabmdiklefgcaaGreatDoor
