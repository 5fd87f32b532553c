/-
  Plain facts: what is owned in a stretch of blocks stays as it is where a walk writes into another stretch. No program is named here. Plain facts on slices of numbers (int): one that reads as a list, one that owns its row. As for bytes. No program is named here. Plain facts: a record as lists and numbers, and how it lies in memory. No program is named here. What is known of a record that came in as an argument: a struct of two names, three numbers, a text and a list of numbers, wherever they lie.
-/
import Derived.Test.YtaehfeobfkaicaaGreatCacheGetG01
import Derived.Test.YtaehfeobfkaicaaGreatProg
namespace Go.Proofs.YtaehfeobfkaicaaGreat
open Go.RowKit

def OwnB (C E : Nat) (e : TypeId) (w : World) (v : Value) (l : List Int) : Prop := Own C e w v l ∧ ∀ q, v.ownBlock = some q → q < E

theorem Own.here {C : Nat} {e : TypeId} {w : World} {v : Value} {l : List Int} (h : Own C e w v l) : OwnB C w.heap.size e w v l := ⟨h, fun q hq => (h.lt q hq).2⟩
theorem OwnB.has {C E : Nat} {e : TypeId} {w : World} {v : Value} {l : List Int} (h : OwnB C E e w v l) : Has w v l := h.1.has
theorem OwnB.below {C E : Nat} {e : TypeId} {w w' : World} {v : Value} {l : List Int} (h : OwnB C E e w v l) (hb : Below w.heap.size w w') : OwnB C E e w' v l := ⟨h.1.below hb, h.2⟩
theorem OwnB.outside {C E B D : Nat} {e : TypeId} {w w' : World} {v : Value} {l : List Int} (h : OwnB C E e w v l) (u : Outside B D w w') (hd : E ≤ B ∨ D ≤ C) : OwnB C E e w' v l := by
 refine ⟨⟨h.1.1, ?_⟩, h.2⟩
 rcases h.1.2 with hn | ⟨g, cap, cur, hv, hb, hg, rest⟩
 ·exact .inl hn
 ·refine .inr ⟨g, cap, cur, hv, hb, ?_, rest⟩
  have h1 := h.1.lt g (by rw [hv]; rfl)
  have h2 := h.2 g (by rw [hv]; rfl)
  rw [u.block g h1.2 (by omega)]
  exact hg
theorem OwnB.marks {C E : Nat} {e : TypeId} {w w' : World} {v : Value} {l l' : List Int} (h : OwnB C E e w v l) (h' : Own C e w' v l') (g : w.grownBy w' v.ownBlock) : OwnB C E e w' v l' ∧ Outside C E w w' :=
 ⟨⟨h', h.2⟩, outside_grown g (fun q hq => ⟨(h.1.lt q hq).1, h.2 q hq⟩)⟩

theorem ownsRow_outside {C B D n : Nat} {e : TypeId} {w w' : World} {v : Value} {xs : List Value} (h : w.ownsRow C e 1 v n xs) (u : Outside B D w w') (hq : ∀ q, v.ownBlock = some q → q < B ∨ D ≤ q) : w'.ownsRow C e 1 v n xs := by
 have h' := h
 refine ⟨h.1, ?_⟩
 rcases h.2 with hn | ⟨g, cap, cur, hv, hb, hg, rest⟩
 ·exact .inl hn
 ·refine .inr ⟨g, cap, cur, hv, hb, ?_, rest⟩
  have h1 := h'.lt g (by rw [hv]; rfl)
  have h2 := hq g (by rw [hv]; rfl)
  rw [u.block g h1.2 h2]
  exact hg

theorem OwnN.outside {C E B D : Nat} {el eb : TypeId} {w w' : World} {v : Value} {n : List (List Int)} (h : OwnN C E el eb w v n) (u : Outside B D w w') (hd : E ≤ B ∨ D ≤ C) : OwnN C E el eb w' v n := by
 obtain ⟨vs, ho, hu, hdis, hv, he⟩ := h
 refine ⟨vs, ownsRow_outside ho u (fun q hq => ?_), fun i hi => ?_, hdis, hv, he⟩
 ·have := (World.ownsRow.lt ho q hq).1
  have := hv q hq
  omega
 ·obtain ⟨x, h1, h2⟩ := hu i hi
  refine ⟨x, h1, ownsRow_outside h2 u (fun q hq => ?_)⟩
  have := (h2.lt q hq).1
  have := he i x q h1 hq
  omega
theorem OwnN.hasL {C E : Nat} {el eb : TypeId} {w : World} {v : Value} {n : List (List Int)} (h : OwnN C E el eb w v n) : HasL w v n := h.ownL.hasL
end Go.Proofs.YtaehfeobfkaicaaGreat

namespace Go.Proofs.YtaehfeobfkaicaaGreat
open Go.RowKit

def LiesI (w : World) (a : Option Addr) (l : List Int) : Prop :=
 l = [] ∨ ∃ b off, a = some ⟨b, off, none⟩ ∧ b < w.heap.size ∧ ∀ i, i < l.length → w.cell? ⟨b, off + i, none⟩ = some (.int .i64 (l.getD i 0))

def OwnI (B : Nat) (e : TypeId) (w : World) (v : Value) (l : List Int) : Prop := w.ownsRow B e 1 v l.length (l.map (Value.int .i64))

theorem LiesI.below {w w' : World} {a : Option Addr} {l : List Int} (h : LiesI w a l) (hb : Below w.heap.size w w') : LiesI w' a l := by
 rcases h with rfl | ⟨b, off, rfl, hlt, hc⟩
 ·exact .inl rfl
 ·exact .inr ⟨b, off, rfl, Nat.lt_of_lt_of_le hlt hb.size, fun i hi => (hb.cell (p := ⟨b, off + i, none⟩) hlt).trans (hc i hi)⟩

theorem LiesI.cell {w w' : World} {a : Option Addr} {l : List Int} (h : LiesI w a l) (hb : Below w.heap.size w w') {k : Nat} (hk : k < l.length) :
  ∃ b off, a = some ⟨b, off, none⟩ ∧ b < w.heap.size ∧ w'.cell? ⟨b, off + k, none⟩ = some (.int .i64 (l.getD k 0)) := by
 rcases h with rfl | ⟨b, off, rfl, hlt, hc⟩
 ·simp at hk
 ·exact ⟨b, off, rfl, hlt, (hb.cell (p := ⟨b, off + k, none⟩) hlt).trans (hc k hk)⟩

theorem LiesI.here {w : World} {a : Option Addr} {l : List Int} (h : LiesI w a l) {k : Nat} (hk : k < l.length) :
  ∃ b off, a = some ⟨b, off, none⟩ ∧ b < w.heap.size ∧ w.cell? ⟨b, off + k, none⟩ = some (.int .i64 (l.getD k 0)) := h.cell (Below.refl _ _) hk

theorem map_atI (l : List Int) (j : Nat) (hj : j < l.length) : (l.map (Value.int .i64))[j]? = some (.int .i64 (l.getD j 0)) := by
 simp [hj]

section
variable {B : Nat} {e : TypeId} {w w' : World} {v : Value} {l : List Int}

theorem OwnI.form (h : OwnI B e w v l) : (v = .slice none 0 0 ∧ l = []) ∨
  ∃ g cap, v = .slice (some ⟨g, 0, none⟩) l.length cap ∧ B ≤ g ∧ g < w.heap.size ∧ l.length ≤ cap ∧ cap ≤ maxLen ∧
   (∀ i, i < l.length → w.cell? ⟨g, i, none⟩ = some (.int .i64 (l.getD i 0))) ∧ ∀ i, w.frozen? ⟨g, i, none⟩ = false := by
 have h' := h
 rcases h.2 with ⟨rfl, hn⟩ | ⟨g, cap, cur, rfl, hb, hg, hn, hm, hs, ht⟩
 ·exact .inl ⟨rfl, List.eq_nil_of_length_eq_zero hn⟩
 ·refine .inr ⟨g, cap, rfl, hb, (h'.lt g rfl).2, hn, hm, fun i hi => ?_, fun i => World.ownsRow.frozenAt h' i⟩
  rw [World.ownsRow.cellAt h' i (by omega), map_atI l i hi]

theorem OwnI.lies (h : OwnI B e w v l) : ∃ a cap, v = .slice a l.length cap ∧ LiesI w a l := by
 rcases h.form with ⟨rfl, rfl⟩ | ⟨g, cap, rfl, _, hlt, _, _, hc, _⟩
 ·exact ⟨none, 0, rfl, .inl rfl⟩
 ·exact ⟨_, cap, rfl, .inr ⟨g, 0, rfl, hlt, fun i hi => by simpa using hc i hi⟩⟩

theorem OwnI.mono {B' : Nat} (h : OwnI B e w v l) (hB : B' ≤ B) : OwnI B' e w v l := by
 refine ⟨h.1, ?_⟩
 rcases h.2 with hn | ⟨g, cap, cur, hv, hb, rest⟩
 ·exact .inl hn
 ·exact .inr ⟨g, cap, cur, hv, Nat.le_trans hB hb, rest⟩

theorem OwnI.lt (h : OwnI B e w v l) : ∀ k, v.ownBlock = some k → B ≤ k ∧ k < w.heap.size := World.ownsRow.lt h

theorem OwnI.kept {row : Option Nat} (h : OwnI B e w v l) (hg : w.grownBy w' row) (hne : v.ownBlock = none ∨ v.ownBlock ≠ row) : OwnI B e w' v l := World.ownsRow.kept h hg hne

theorem OwnI.below (h : OwnI B e w v l) (hb : Below w.heap.size w w') : OwnI B e w' v l := by
 refine h.kept (grown_of_below hb) ?_
 cases hv : v.ownBlock with
 | none => exact .inl rfl
 | some k => exact .inr (by simp)

theorem OwnI.ofRow {g : Nat} (h : w.rowIs g e l.length (fun i => .int .i64 (l.getD i 0))) (hB : B ≤ g) (hm : l.length ≤ maxLen) : OwnI B e w (.slice (some ⟨g, 0, none⟩) l.length l.length) l := by
 obtain ⟨c, hb, hn, hc⟩ := h
 refine ⟨by simp, .inr ⟨g, l.length, c, rfl, hB, hb, Nat.le_refl _, hm, by omega, ?_⟩⟩
 apply List.ext_getElem?
 intro j
 by_cases hj : j < l.length
 ·rw [map_atI l j hj, List.getElem?_take, if_pos (by omega), Array.getElem?_toList, hc j hj]
 ·rw [List.getElem?_take, if_neg (by omega), List.getElem?_eq_none (by simpa using hj)]

end

def marksI (k : Int) (n : Nat) : List Int := (List.range n).map fun (j : Nat) => (k + j)

def markedI (l : List Int) (k : Int) (m : Nat) : List Int := (List.range l.length).map fun (j : Nat) => if j < m then (k + j) else l.getD j 0

theorem marks_lengthI (k : Int) (n : Nat) : (marksI k n).length = n := by simp [marksI]

theorem marked_lengthI (l : List Int) (k : Int) (m : Nat) : (markedI l k m).length = l.length := by simp [markedI]

theorem marks_getDI (k : Int) (n i : Nat) (h : i < n) : (marksI k n).getD i 0 = (k + i) := by simp [marksI, h]

theorem marked_zeroI (l : List Int) (k : Int) : markedI l k 0 = l := by
 apply List.ext_getElem?
 intro j
 by_cases hj : j < l.length <;> simp [markedI, hj]

theorem marked_allI (l : List Int) (k : Int) : markedI l k l.length = marksI k l.length := by
 unfold markedI marksI
 apply List.map_congr_left
 intro j hj
 simp at hj
 simp [hj]

theorem marked_succI (l : List Int) (k : Int) (m : Nat) : (markedI l k m).set m (k + m) = markedI l k (m + 1) := by
 apply List.ext_getElem?
 intro j
 rw [List.getElem?_set]
 by_cases hj : j < l.length
 ·by_cases e : m = j
  ·subst e; simp [markedI, hj]
  ·have : j < m + 1 ↔ j < m := by omega
   simp [markedI, hj, e, this]
 ·simp [markedI, hj]
  omega

theorem OwnI.alloc {B : Nat} {e : TypeId} {w : World} {v : Value} {l : List Int} (h : OwnI B e w v l) (o : Obj) : OwnI B e (w.alloc o) v l := World.ownsRow.alloc h o

def HasI (w : World) (v : Value) (l : List Int) : Prop :=
 (v = .slice none 0 0 ∧ l = []) ∨ ∃ g off cap, v = .slice (some ⟨g, off, none⟩) l.length cap ∧ g < w.heap.size ∧ l.length ≤ cap ∧ cap ≤ maxLen ∧ ∀ i, i < l.length → w.cell? ⟨g, off + i, none⟩ = some (.int .i64 (l.getD i 0))

theorem OwnI.has {B : Nat} {e : TypeId} {w : World} {v : Value} {l : List Int} (h : OwnI B e w v l) : HasI w v l := by
 rcases h.form with h | ⟨g, cap, hv, _, hlt, hl, hm, hc, _⟩
 ·exact .inl h
 ·exact .inr ⟨g, 0, cap, hv, hlt, hl, hm, fun i hi => by rw [Nat.zero_add]; exact hc i hi⟩

theorem HasI.below {w w' : World} {v : Value} {l : List Int} (h : HasI w v l) (hb : Below w.heap.size w w') : HasI w' v l := by
 rcases h with h | ⟨g, off, cap, hv, hlt, hl, hm, hc⟩
 ·exact .inl h
 ·exact .inr ⟨g, off, cap, hv, Nat.lt_of_lt_of_le hlt hb.size, hl, hm, fun i hi => (hb.cell (p := ⟨g, off + i, none⟩) hlt).trans (hc i hi)⟩

theorem HasI.form {w : World} {v : Value} {l : List Int} (h : HasI w v l) : ∃ a cap, v = .slice a l.length cap ∧ LiesI w a l := by
 rcases h with ⟨rfl, rfl⟩ | ⟨g, off, cap, rfl, hlt, _, _, hc⟩
 ·exact ⟨none, 0, rfl, .inl rfl⟩
 ·exact ⟨_, cap, rfl, .inr ⟨g, off, rfl, hlt, hc⟩⟩

theorem isRow_liesI {w : World} {a : Option Addr} {len cap : Nat} {zs : List Int} (h : IsRow .i64 w a len cap zs) : ∃ l : List Int, l.length = len ∧ len ≤ maxLen ∧ LiesI w a l := by
 rcases h with ⟨rfl, rfl, rfl, rfl⟩ | ⟨x, rfl, hl, hm, hz, hcell, hwf⟩
 ·exact ⟨[], rfl, Nat.zero_le _, .inl rfl⟩
 ·refine ⟨zs.take len, by simp; omega, by omega, ?_⟩
  by_cases h0 : len = 0
  ·subst h0; exact .inl (by simp)
  ·right
   obtain ⟨b, off, spot⟩ := x
   have hc := hcell 0 (by omega)
   have hspot : spot = none := by simpa [Addr.add] using World.cell?_spot hc
   subst hspot
   refine ⟨b, off, rfl, cell_lt hc, fun i hi => ?_⟩
   simp at hi
   have hci := hcell i (by omega)
   rw [Addr.add_lit] at hci
   rw [hci, List.getD_eq_getElem?_getD, List.getD_eq_getElem?_getD, List.getElem?_take, if_pos (by omega)]
def OwnBI (C E : Nat) (e : TypeId) (w : World) (v : Value) (l : List Int) : Prop := OwnI C e w v l ∧ ∀ q, v.ownBlock = some q → q < E
theorem OwnI.here {C : Nat} {e : TypeId} {w : World} {v : Value} {l : List Int} (h : OwnI C e w v l) : OwnBI C w.heap.size e w v l := ⟨h, fun q hq => (h.lt q hq).2⟩
theorem OwnBI.has {C E : Nat} {e : TypeId} {w : World} {v : Value} {l : List Int} (h : OwnBI C E e w v l) : HasI w v l := h.1.has
theorem OwnBI.below {C E : Nat} {e : TypeId} {w w' : World} {v : Value} {l : List Int} (h : OwnBI C E e w v l) (hb : Below w.heap.size w w') : OwnBI C E e w' v l := ⟨h.1.below hb, h.2⟩
theorem OwnBI.outside {C E B D : Nat} {e : TypeId} {w w' : World} {v : Value} {l : List Int} (h : OwnBI C E e w v l) (u : Outside B D w w') (hd : E ≤ B ∨ D ≤ C) : OwnBI C E e w' v l :=
 ⟨ownsRow_outside h.1 u (fun q hq => by have h1 := (h.1.lt q hq).1; have h2 := h.2 q hq; omega), h.2⟩
theorem OwnBI.marks {C E : Nat} {e : TypeId} {w w' : World} {v : Value} {l l' : List Int} (h : OwnBI C E e w v l) (h' : OwnI C e w' v l') (g : w.grownBy w' v.ownBlock) : OwnBI C E e w' v l' ∧ Outside C E w w' :=
 ⟨⟨h', h.2⟩, outside_grown g (fun q hq => ⟨(h.1.lt q hq).1, h.2 q hq⟩)⟩
end Go.Proofs.YtaehfeobfkaicaaGreat

namespace Go.Proofs.YtaehfeobfkaicaaGreat
open Go.RowKit

structure Rec where
 name : List (List Int)
 type : Int
 ttl : Int
 addr : Int
 to : List (List Int)
 text : List Int
 nums : List Int

structure InR (w : World) (an ato ax ai : Option Addr) (r : Rec) : Prop where
 name : LiesL w an r.name
 to : LiesL w ato r.to
 text : Lies w ax r.text
 nums : LiesI w ai r.nums
theorem InR.below {w w' : World} {an ato ax ai : Option Addr} {r : Rec} (h : InR w an ato ax ai r) (hb : Below w.heap.size w w') : InR w' an ato ax ai r := ⟨h.name.below hb, h.to.below hb, h.text.below hb, h.nums.below hb⟩

structure SizeR (m : Nat) (r : Rec) : Prop where
 name : r.name.length ≤ m
 names : ∀ i, i < r.name.length → (r.name.getD i []).length ≤ m
 to : r.to.length ≤ m
 tos : ∀ i, i < r.to.length → (r.to.getD i []).length ≤ m
 text : r.text.length ≤ m
 nums : r.nums.length ≤ m
theorem SizeR.mono {m m' : Nat} {r : Rec} (h : SizeR m r) (hm : m ≤ m') : SizeR m' r :=
 ⟨Nat.le_trans h.name hm, fun i hi => Nat.le_trans (h.names i hi) hm, Nat.le_trans h.to hm, fun i hi => Nat.le_trans (h.tos i hi) hm, Nat.le_trans h.text hm, Nat.le_trans h.nums hm⟩

structure HasR (w : World) (vn vt vx vi : Value) (r : Rec) : Prop where
 name : HasL w vn r.name
 to : HasL w vt r.to
 text : Has w vx r.text
 nums : HasI w vi r.nums
theorem HasR.below {w w' : World} {vn vt vx vi : Value} {r : Rec} (h : HasR w vn vt vx vi r) (hb : Below w.heap.size w w') : HasR w' vn vt vx vi r := ⟨h.name.below hb, h.to.below hb, h.text.below hb, h.nums.below hb⟩

def OwnR (B E : Nat) (el eb ei : TypeId) (w : World) (vn vt vx vi : Value) (r : Rec) : Prop :=
 ∃ s1 s2 s3, B ≤ s1 ∧ s1 ≤ s2 ∧ s2 ≤ s3 ∧ s3 ≤ E ∧ OwnN B s1 el eb w vn r.name ∧ OwnN s1 s2 el eb w vt r.to ∧ OwnB s2 s3 eb w vx r.text ∧ OwnBI s3 E ei w vi r.nums
theorem OwnR.hasR {B E : Nat} {el eb ei : TypeId} {w : World} {vn vt vx vi : Value} {r : Rec} (h : OwnR B E el eb ei w vn vt vx vi r) : HasR w vn vt vx vi r := by
 obtain ⟨s1, s2, s3, _, _, _, _, h1, h2, h3, h4⟩ := h
 exact ⟨h1.hasL, h2.hasL, h3.has, h4.has⟩
theorem OwnR.below {B E : Nat} {el eb ei : TypeId} {w w' : World} {vn vt vx vi : Value} {r : Rec} (h : OwnR B E el eb ei w vn vt vx vi r) (hb : Below w.heap.size w w') : OwnR B E el eb ei w' vn vt vx vi r := by
 obtain ⟨s1, s2, s3, a1, a2, a3, a4, h1, h2, h3, h4⟩ := h
 exact ⟨s1, s2, s3, a1, a2, a3, a4, h1.below hb, h2.below hb, h3.below hb, h4.below hb⟩
theorem OwnR.outside {B E C D : Nat} {el eb ei : TypeId} {w w' : World} {vn vt vx vi : Value} {r : Rec} (h : OwnR B E el eb ei w vn vt vx vi r) (u : Outside C D w w') (hd : E ≤ C ∨ D ≤ B) : OwnR B E el eb ei w' vn vt vx vi r := by
 obtain ⟨s1, s2, s3, a1, a2, a3, a4, h1, h2, h3, h4⟩ := h
 exact ⟨s1, s2, s3, a1, a2, a3, a4, h1.outside u (by omega), h2.outside u (by omega), h3.outside u (by omega), h4.outside u (by omega)⟩

theorem UJ {w : World} {b : Nat} {c0 c1 c2 c3 c4 c5 c6 : Value} {t : TypeId} (h : w.heap[b]? = some (.cells #[c0, c1, c2, c3, c4, c5, c6] t)) :
  w.cell? ⟨b, 0, none⟩ = some c0 ∧ w.cell? ⟨b, 1, none⟩ = some c1 ∧ w.cell? ⟨b, 2, none⟩ = some c2 ∧ w.cell? ⟨b, 3, none⟩ = some c3 ∧ w.cell? ⟨b, 4, none⟩ = some c4 ∧ w.cell? ⟨b, 5, none⟩ = some c5 ∧ w.cell? ⟨b, 6, none⟩ = some c6 :=
 ⟨VE h 0, VE h 1, VE h 2, VE h 3, VE h 4, VE h 5, VE h 6⟩
theorem VI {w : World} {b : Nat} {c : Array Value} {t : TypeId} (h : w.heap[b]? = some (.cells c t)) :
  w.frozen? ⟨b, 0, none⟩ = false ∧ w.frozen? ⟨b, 1, none⟩ = false ∧ w.frozen? ⟨b, 2, none⟩ = false ∧ w.frozen? ⟨b, 3, none⟩ = false ∧ w.frozen? ⟨b, 4, none⟩ = false ∧ w.frozen? ⟨b, 5, none⟩ = false ∧ w.frozen? ⟨b, 6, none⟩ = false :=
 ⟨VG h 0, VG h 1, VG h 2, VG h 3, VG h 4, VG h 5, VG h 6⟩
theorem UV {w : World} {b : Nat} {c : Array Value} {t : TypeId} (h : w.heap[b]? = some (.cells c t)) (i : Nat) (v : Value) : (w.setCell ⟨b, i, none⟩ v).heap[b]? = some (.cells (c.setIfInBounds i v) t) := by
 simp [World.setCell, Array.getElem?_modify, h]

theorem UT (w : World) (b i : Nat) (v : Value) : Outside b (b + 1) w (w.setCell ⟨b, i, none⟩ v) := outside_grown (grown_setCell w ⟨b, i, none⟩ v) (fun k hk => by simp at hk; omega)
theorem Outside.wide {B E B' E' : Nat} {w w' : World} (h : Outside B E w w') (hB : B' ≤ B) (hE : E ≤ E') : Outside B' E' w w' := ⟨h.os, h.tape, h.output, h.size, fun k hk hn => h.block k hk (by omega)⟩
theorem OwnN.wide {C E C' E' : Nat} {el eb : TypeId} {w : World} {v : Value} {n : List (List Int)} (h : OwnN C E el eb w v n) (hC : C' ≤ C) (hE : E ≤ E') : OwnN C' E' el eb w v n := by
 obtain ⟨vs, ho, hu, hd, hv, he⟩ := h
 refine ⟨vs, ownsRow_mono ho hC, fun i hi => ?_, hd, fun q hq => Nat.lt_of_lt_of_le (hv q hq) hE, fun i u q h1 h2 => Nat.lt_of_lt_of_le (he i u q h1 h2) hE⟩
 obtain ⟨x, h1, h2⟩ := hu i hi
 exact ⟨x, h1, h2.mono hC⟩
theorem OwnB.wide {C E C' E' : Nat} {e : TypeId} {w : World} {v : Value} {l : List Int} (h : OwnB C E e w v l) (hC : C' ≤ C) (hE : E ≤ E') : OwnB C' E' e w v l := ⟨h.1.mono hC, fun q hq => Nat.lt_of_lt_of_le (h.2 q hq) hE⟩
theorem OwnBI.wide {C E C' E' : Nat} {e : TypeId} {w : World} {v : Value} {l : List Int} (h : OwnBI C E e w v l) (hC : C' ≤ C) (hE : E ≤ E') : OwnBI C' E' e w v l := ⟨h.1.mono hC, fun q hq => Nat.lt_of_lt_of_le (h.2 q hq) hE⟩
theorem set7h {w0 : World} {b : Nat} {c0 c1 c2 c3 c4 c5 c6 a0 a1 a2 a3 a4 a5 a6 : Value} {t : TypeId} (h0 : w0.heap[b]? = some (.cells #[a0, a1, a2, a3, a4, a5, a6] t)) :
  (((((((w0.setCell ⟨b, 0, none⟩ c0).setCell ⟨b, 1, none⟩ c1).setCell ⟨b, 2, none⟩ c2).setCell ⟨b, 3, none⟩ c3).setCell ⟨b, 4, none⟩ c4).setCell ⟨b, 5, none⟩ c5).setCell ⟨b, 6, none⟩ c6).heap[b]? = some (.cells #[c0, c1, c2, c3, c4, c5, c6] t) := by
 have h1 : (w0.setCell ⟨b, 0, none⟩ c0).heap[b]? = some (.cells #[c0, a1, a2, a3, a4, a5, a6] t) := UV h0 0 c0
 generalize w0.setCell ⟨b, 0, none⟩ c0 = w1 at h1 ⊢
 have h2 : (w1.setCell ⟨b, 1, none⟩ c1).heap[b]? = some (.cells #[c0, c1, a2, a3, a4, a5, a6] t) := UV h1 1 c1
 generalize w1.setCell ⟨b, 1, none⟩ c1 = w2 at h2 ⊢
 have h3 : (w2.setCell ⟨b, 2, none⟩ c2).heap[b]? = some (.cells #[c0, c1, c2, a3, a4, a5, a6] t) := UV h2 2 c2
 generalize w2.setCell ⟨b, 2, none⟩ c2 = w3 at h3 ⊢
 have h4 : (w3.setCell ⟨b, 3, none⟩ c3).heap[b]? = some (.cells #[c0, c1, c2, c3, a4, a5, a6] t) := UV h3 3 c3
 generalize w3.setCell ⟨b, 3, none⟩ c3 = w4 at h4 ⊢
 have h5 : (w4.setCell ⟨b, 4, none⟩ c4).heap[b]? = some (.cells #[c0, c1, c2, c3, c4, a5, a6] t) := UV h4 4 c4
 generalize w4.setCell ⟨b, 4, none⟩ c4 = w5 at h5 ⊢
 have h6 : (w5.setCell ⟨b, 5, none⟩ c5).heap[b]? = some (.cells #[c0, c1, c2, c3, c4, c5, a6] t) := UV h5 5 c5
 generalize w5.setCell ⟨b, 5, none⟩ c5 = w6 at h6 ⊢
 have h7 : (w6.setCell ⟨b, 6, none⟩ c6).heap[b]? = some (.cells #[c0, c1, c2, c3, c4, c5, c6] t) := UV h6 6 c6
 exact h7
theorem set7 {w0 : World} {b : Nat} {c0 c1 c2 c3 c4 c5 c6 a0 a1 a2 a3 a4 a5 a6 : Value} {t : TypeId} (h0 : w0.heap[b]? = some (.cells #[a0, a1, a2, a3, a4, a5, a6] t)) :
  (((((((w0.setCell ⟨b, 0, none⟩ c0).setCell ⟨b, 1, none⟩ c1).setCell ⟨b, 2, none⟩ c2).setCell ⟨b, 3, none⟩ c3).setCell ⟨b, 4, none⟩ c4).setCell ⟨b, 5, none⟩ c5).setCell ⟨b, 6, none⟩ c6).heap[b]? = some (.cells #[c0, c1, c2, c3, c4, c5, c6] t) ∧ Outside b (b + 1) w0 (((((((w0.setCell ⟨b, 0, none⟩ c0).setCell ⟨b, 1, none⟩ c1).setCell ⟨b, 2, none⟩ c2).setCell ⟨b, 3, none⟩ c3).setCell ⟨b, 4, none⟩ c4).setCell ⟨b, 5, none⟩ c5).setCell ⟨b, 6, none⟩ c6) :=
 ⟨set7h h0, ((((((UT _ _ _ _).trans (UT _ _ _ _)).trans (UT _ _ _ _)).trans (UT _ _ _ _)).trans (UT _ _ _ _)).trans (UT _ _ _ _)).trans (UT _ _ _ _)⟩
end Go.Proofs.YtaehfeobfkaicaaGreat

namespace Go.Proofs.YtaehfeobfkaicaaGreat
open Go.RowKit Go.ChangeShapes Go.WideShapes Go.ChangeAt

theorem nums_lies {H : Type} {enc : TypeId × Value → H} {P : Program} {w : World} {sp : Nat → Bool} {held : Bool} {t e : TypeId} {fuel : Nat} {v : Value} {x : DataW H × List MemPlace}
  (ht : P.underlying t = some (.slice e)) (he : P.underlying e = some (.int .i64)) (hc : P.cellsOf e = 1) (hsp : ∀ b, sp b = true) (h : DataW.trod enc P w 0 sp held fuel t [v] = some x) :
  ∃ (a : Option Addr) (cap : Nat) (l : List Int), v = .slice a l.length cap ∧ l.length ≤ maxLen ∧ LiesI w a l := by
 have key : ∃ a len cap zs, v = .slice a len cap ∧ IsRow .i64 w a len cap zs := by
  rcases open_ints ht he hc h with ⟨hcs, _⟩ | ⟨x, l, c, zs, hcs, _, hl, hm, hz, _, hcell, hwz⟩
  ·simp at hcs
   exact ⟨none, 0, 0, [], hcs, .inl ⟨rfl, rfl, rfl, rfl⟩⟩
  ·simp at hcs
   exact ⟨some x, l, c, zs, hcs, .inr ⟨_, rfl, hl, hm, by simpa [hsp] using hz, hcell, hwz⟩⟩
 obtain ⟨a, len, cap, zs, rfl, hr⟩ := key
 obtain ⟨l, rfl, hm, hL⟩ := isRow_liesI hr
 exact ⟨a, cap, l, rfl, hm, hL⟩

theorem cellsRr : Tryz.prog.cellsOf 59 = 7 := by kernel_rfl
theorem cellsName : Tryz.prog.cellsOf 43 = 1 := by kernel_rfl
theorem cellsInt : Tryz.prog.cellsOf 3 = 1 := by kernel_rfl
theorem cellsText : Tryz.prog.cellsOf 56 = 1 := by kernel_rfl
theorem cellsTexts : Tryz.prog.cellsOf 41 = 1 := by kernel_rfl
theorem cellsNums : Tryz.prog.cellsOf 57 = 1 := by kernel_rfl
theorem cellsByte : Tryz.prog.cellsOf 5 = 1 := by kernel_rfl

theorem open_nameCell {H : Type} {enc : TypeId × Value → H} {w : World} {sp : Nat → Bool} {held : Bool} {n : Nat} {c : Value} {y : DataW H × List MemPlace} (hsp : ∀ b, sp b = true) (h : DataW.trod enc Tryz.prog w 0 sp held n 43 [c] = some y) :
  ∃ (a : Option Addr) (cap : Nat) (m : List (List Int)), c = .slice a m.length cap ∧ m.length ≤ maxLen ∧ LiesL w a m ∧ ∀ i, i < m.length → (m.getD i []).length ≤ maxLen := by
 obtain ⟨y0, k, _, _, hy⟩ := trod_struct1 Tryz.underlying43 h
 dsimp only at hy
 rw [cellsTexts] at hy
 simp only [List.drop_zero, List.take_succ_cons, List.take_zero] at hy
 obtain ⟨a, cap, m, rfl, hm, hL, hb⟩ := open_texts Tryz.underlying41 Tryz.underlying56 Tryz.underlying5 cellsText cellsByte hsp hy
 exact ⟨a, cap, m, rfl, hm, hL, fun i hi => (hb i hi).1⟩

end Go.Proofs.YtaehfeobfkaicaaGreat
