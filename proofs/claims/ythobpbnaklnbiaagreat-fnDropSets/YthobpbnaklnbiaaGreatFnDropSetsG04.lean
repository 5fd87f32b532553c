/-
  Plain facts on slices of numbers (int): one that reads as a list, one that owns its row. As for bytes. No program is named here. Plain facts: a record as lists and numbers, and how it lies in memory. No program is named here. Plain facts: how long a drawn name is. No program is named here. Plain facts: a record that is being drawn: its lists, and how they fare while other blocks are written. Plain facts: a row of records in memory, seven cells each. No program is named here. Plain facts: a row of structs in memory, c cells each, whatever they are. No program is named here.
-/
import Derived.Test.YthobpbnaklnbiaaGreatFnDropSetsG03
import Derived.Deep.MidRow
namespace Go.Proofs.YthobpbnaklnbiaaGreat
open Go.RowKit

def Jk (w : World) (a : Option Addr) (l : List Int) : Prop :=
 l = [] ∨ ∃ b off, a = some ⟨b, off, none⟩ ∧ b < w.heap.size ∧ ∀ i, i < l.length → w.cell? ⟨b, off + i, none⟩ = some (.int .i64 (l.getD i 0))

def OwnI (B : Nat) (e : TypeId) (w : World) (v : Value) (l : List Int) : Prop := w.ownsRow B e 1 v l.length (l.map (Value.int .i64))

theorem Jk.below {w w' : World} {a : Option Addr} {l : List Int} (h : Jk w a l) (hb : Below w.heap.size w w') : Jk w' a l := by
 rcases h with rfl | ⟨b, off, rfl, hlt, hc⟩
 ·exact .inl rfl
 ·exact .inr ⟨b, off, rfl, Nat.lt_of_lt_of_le hlt hb.size, fun i hi => (hb.cell (p := ⟨b, off + i, none⟩) hlt).trans (hc i hi)⟩

theorem Jk.cell {w w' : World} {a : Option Addr} {l : List Int} (h : Jk w a l) (hb : Below w.heap.size w w') {k : Nat} (hk : k < l.length) :
  ∃ b off, a = some ⟨b, off, none⟩ ∧ b < w.heap.size ∧ w'.cell? ⟨b, off + k, none⟩ = some (.int .i64 (l.getD k 0)) := by
 rcases h with rfl | ⟨b, off, rfl, hlt, hc⟩
 ·simp at hk
 ·exact ⟨b, off, rfl, hlt, (hb.cell (p := ⟨b, off + k, none⟩) hlt).trans (hc k hk)⟩

theorem Jk.here {w : World} {a : Option Addr} {l : List Int} (h : Jk w a l) {k : Nat} (hk : k < l.length) :
  ∃ b off, a = some ⟨b, off, none⟩ ∧ b < w.heap.size ∧ w.cell? ⟨b, off + k, none⟩ = some (.int .i64 (l.getD k 0)) := h.cell (Below.refl _ _) hk

theorem Vw (l : List Int) (j : Nat) (hj : j < l.length) : (l.map (Value.int .i64))[j]? = some (.int .i64 (l.getD j 0)) := by
 simp [hj]

section
variable {B : Nat} {e : TypeId} {w w' : World} {v : Value} {l : List Int}

theorem OwnI.form (h : OwnI B e w v l) : (v = .slice none 0 0 ∧ l = []) ∨
  ∃ g cap, v = .slice (some ⟨g, 0, none⟩) l.length cap ∧ B ≤ g ∧ g < w.heap.size ∧ l.length ≤ cap ∧ cap ≤ maxLen ∧
   (∀ i, i < l.length → w.cell? ⟨g, i, none⟩ = some (.int .i64 (l.getD i 0))) ∧ ∀ i, w.frozen? ⟨g, i, none⟩ = false := by
 have h' := h
 rcases h.2 with ⟨rfl, hn⟩ | ⟨g, cap, cur, rfl, hb, hg, hn, hm, hs, ht⟩
 ·exact .inl ⟨rfl, List.eq_nil_of_length_eq_zero hn⟩
 ·refine .inr ⟨g, cap, rfl, hb, (h'.lt g rfl).2, hn, hm, fun i hi => ?_, fun i => World.ownsRow.frozenAt h' i⟩
  rw [World.ownsRow.cellAt h' i (by omega), Vw l i hi]

theorem OwnI.lies (h : OwnI B e w v l) : ∃ a cap, v = .slice a l.length cap ∧ Jk w a l := by
 rcases h.form with ⟨rfl, rfl⟩ | ⟨g, cap, rfl, _, hlt, _, _, hc, _⟩
 ·exact ⟨none, 0, rfl, .inl rfl⟩
 ·exact ⟨_, cap, rfl, .inr ⟨g, 0, rfl, hlt, fun i hi => by simpa using hc i hi⟩⟩

theorem OwnI.mono {B' : Nat} (h : OwnI B e w v l) (hB : B' ≤ B) : OwnI B' e w v l := by
 refine ⟨h.1, ?_⟩
 rcases h.2 with hn | ⟨g, cap, cur, hv, hb, rest⟩
 ·exact .inl hn
 ·exact .inr ⟨g, cap, cur, hv, Nat.le_trans hB hb, rest⟩

theorem OwnI.lt (h : OwnI B e w v l) : ∀ k, v.ownBlock = some k → B ≤ k ∧ k < w.heap.size := World.ownsRow.lt h

theorem OwnI.kept {row : Option Nat} (h : OwnI B e w v l) (hg : w.grownBy w' row) (hne : v.ownBlock = none ∨ v.ownBlock ≠ row) : OwnI B e w' v l := World.ownsRow.kept h hg hne

theorem OwnI.below (h : OwnI B e w v l) (hb : Below w.heap.size w w') : OwnI B e w' v l := by
 refine h.kept (Ac hb) ?_
 cases hv : v.ownBlock with
 | none => exact .inl rfl
 | some k => exact .inr (by simp)

end

theorem OwnI.alloc {B : Nat} {e : TypeId} {w : World} {v : Value} {l : List Int} (h : OwnI B e w v l) (o : Obj) : OwnI B e (w.alloc o) v l := World.ownsRow.alloc h o

def HasI (w : World) (v : Value) (l : List Int) : Prop :=
 (v = .slice none 0 0 ∧ l = []) ∨ ∃ g off cap, v = .slice (some ⟨g, off, none⟩) l.length cap ∧ g < w.heap.size ∧ l.length ≤ cap ∧ cap ≤ maxLen ∧ ∀ i, i < l.length → w.cell? ⟨g, off + i, none⟩ = some (.int .i64 (l.getD i 0))

theorem OwnI.has {B : Nat} {e : TypeId} {w : World} {v : Value} {l : List Int} (h : OwnI B e w v l) : HasI w v l := by
 rcases h.form with h | ⟨g, cap, hv, _, hlt, hl, hm, hc, _⟩
 ·exact .inl h
 ·exact .inr ⟨g, 0, cap, hv, hlt, hl, hm, fun i hi => by rw [Nat.zero_add]; exact hc i hi⟩

theorem HasI.below {w w' : World} {v : Value} {l : List Int} (h : HasI w v l) (hb : Below w.heap.size w w') : HasI w' v l := by
 rcases h with h | ⟨g, off, cap, hv, hlt, hl, hm, hc⟩
 ·exact .inl h
 ·exact .inr ⟨g, off, cap, hv, Nat.lt_of_lt_of_le hlt hb.size, hl, hm, fun i hi => (hb.cell (p := ⟨g, off + i, none⟩) hlt).trans (hc i hi)⟩

theorem HasI.form {w : World} {v : Value} {l : List Int} (h : HasI w v l) : ∃ a cap, v = .slice a l.length cap ∧ Jk w a l := by
 rcases h with ⟨rfl, rfl⟩ | ⟨g, off, cap, rfl, hlt, _, _, hc⟩
 ·exact ⟨none, 0, rfl, .inl rfl⟩
 ·exact ⟨_, cap, rfl, .inr ⟨g, off, rfl, hlt, hc⟩⟩

def E8 (C E : Nat) (e : TypeId) (w : World) (v : Value) (l : List Int) : Prop := OwnI C e w v l ∧ ∀ q, v.ownBlock = some q → q < E
theorem OwnI.here {C : Nat} {e : TypeId} {w : World} {v : Value} {l : List Int} (h : OwnI C e w v l) : E8 C w.heap.size e w v l := ⟨h, fun q hq => (h.lt q hq).2⟩
theorem E8.has {C E : Nat} {e : TypeId} {w : World} {v : Value} {l : List Int} (h : E8 C E e w v l) : HasI w v l := h.1.has
theorem E8.below {C E : Nat} {e : TypeId} {w w' : World} {v : Value} {l : List Int} (h : E8 C E e w v l) (hb : Below w.heap.size w w') : E8 C E e w' v l := ⟨h.1.below hb, h.2⟩
theorem E8.outside {C E B D : Nat} {e : TypeId} {w w' : World} {v : Value} {l : List Int} (h : E8 C E e w v l) (u : Aq B D w w') (hd : E ≤ B ∨ D ≤ C) : E8 C E e w' v l :=
 ⟨E1 h.1 u (fun q hq => by have h1 := (h.1.lt q hq).1; have h2 := h.2 q hq; omega), h.2⟩
end Go.Proofs.YthobpbnaklnbiaaGreat

namespace Go.Proofs.YthobpbnaklnbiaaGreat
open Go.RowKit

structure Rec where
 name : List (List Int)
 type : Int
 ttl : Int
 addr : Int
 to : List (List Int)
 text : List Int
 nums : List Int

structure InR (w : World) (an ato ax ai : Option Addr) (r : Rec) : Prop where
 name : Kk w an r.name
 to : Kk w ato r.to
 text : Lies w ax r.text
 nums : Jk w ai r.nums
theorem InR.below {w w' : World} {an ato ax ai : Option Addr} {r : Rec} (h : InR w an ato ax ai r) (hb : Below w.heap.size w w') : InR w' an ato ax ai r := ⟨h.name.below hb, h.to.below hb, h.text.below hb, h.nums.below hb⟩

structure Ks (m : Nat) (r : Rec) : Prop where
 name : r.name.length ≤ m
 names : ∀ i, i < r.name.length → (r.name.getD i []).length ≤ m
 to : r.to.length ≤ m
 tos : ∀ i, i < r.to.length → (r.to.getD i []).length ≤ m
 text : r.text.length ≤ m
 nums : r.nums.length ≤ m
theorem Ks.mono {m m' : Nat} {r : Rec} (h : Ks m r) (hm : m ≤ m') : Ks m' r :=
 ⟨Nat.le_trans h.name hm, fun i hi => Nat.le_trans (h.names i hi) hm, Nat.le_trans h.to hm, fun i hi => Nat.le_trans (h.tos i hi) hm, Nat.le_trans h.text hm, Nat.le_trans h.nums hm⟩

structure HasR (w : World) (vn vt vx vi : Value) (r : Rec) : Prop where
 name : HasL w vn r.name
 to : HasL w vt r.to
 text : Has w vx r.text
 nums : HasI w vi r.nums
theorem HasR.below {w w' : World} {vn vt vx vi : Value} {r : Rec} (h : HasR w vn vt vx vi r) (hb : Below w.heap.size w w') : HasR w' vn vt vx vi r := ⟨h.name.below hb, h.to.below hb, h.text.below hb, h.nums.below hb⟩

def OwnR (B E : Nat) (el eb ei : TypeId) (w : World) (vn vt vx vi : Value) (r : Rec) : Prop :=
 ∃ s1 s2 s3, B ≤ s1 ∧ s1 ≤ s2 ∧ s2 ≤ s3 ∧ s3 ≤ E ∧ OwnN B s1 el eb w vn r.name ∧ OwnN s1 s2 el eb w vt r.to ∧ OwnB s2 s3 eb w vx r.text ∧ E8 s3 E ei w vi r.nums
theorem OwnR.hasR {B E : Nat} {el eb ei : TypeId} {w : World} {vn vt vx vi : Value} {r : Rec} (h : OwnR B E el eb ei w vn vt vx vi r) : HasR w vn vt vx vi r := by
 obtain ⟨s1, s2, s3, _, _, _, _, h1, h2, h3, h4⟩ := h
 exact ⟨h1.hasL, h2.hasL, h3.has, h4.has⟩
theorem OwnR.below {B E : Nat} {el eb ei : TypeId} {w w' : World} {vn vt vx vi : Value} {r : Rec} (h : OwnR B E el eb ei w vn vt vx vi r) (hb : Below w.heap.size w w') : OwnR B E el eb ei w' vn vt vx vi r := by
 obtain ⟨s1, s2, s3, a1, a2, a3, a4, h1, h2, h3, h4⟩ := h
 exact ⟨s1, s2, s3, a1, a2, a3, a4, h1.below hb, h2.below hb, h3.below hb, h4.below hb⟩
theorem OwnR.outside {B E C D : Nat} {el eb ei : TypeId} {w w' : World} {vn vt vx vi : Value} {r : Rec} (h : OwnR B E el eb ei w vn vt vx vi r) (u : Aq C D w w') (hd : E ≤ C ∨ D ≤ B) : OwnR B E el eb ei w' vn vt vx vi r := by
 obtain ⟨s1, s2, s3, a1, a2, a3, a4, h1, h2, h3, h4⟩ := h
 exact ⟨s1, s2, s3, a1, a2, a3, a4, h1.outside u (by omega), h2.outside u (by omega), h3.outside u (by omega), h4.outside u (by omega)⟩

theorem UJ {w : World} {b : Nat} {c0 c1 c2 c3 c4 c5 c6 : Value} {t : TypeId} (h : w.heap[b]? = some (.cells #[c0, c1, c2, c3, c4, c5, c6] t)) :
  w.cell? ⟨b, 0, none⟩ = some c0 ∧ w.cell? ⟨b, 1, none⟩ = some c1 ∧ w.cell? ⟨b, 2, none⟩ = some c2 ∧ w.cell? ⟨b, 3, none⟩ = some c3 ∧ w.cell? ⟨b, 4, none⟩ = some c4 ∧ w.cell? ⟨b, 5, none⟩ = some c5 ∧ w.cell? ⟨b, 6, none⟩ = some c6 :=
 ⟨VE h 0, VE h 1, VE h 2, VE h 3, VE h 4, VE h 5, VE h 6⟩
theorem VI {w : World} {b : Nat} {c : Array Value} {t : TypeId} (h : w.heap[b]? = some (.cells c t)) :
  w.frozen? ⟨b, 0, none⟩ = false ∧ w.frozen? ⟨b, 1, none⟩ = false ∧ w.frozen? ⟨b, 2, none⟩ = false ∧ w.frozen? ⟨b, 3, none⟩ = false ∧ w.frozen? ⟨b, 4, none⟩ = false ∧ w.frozen? ⟨b, 5, none⟩ = false ∧ w.frozen? ⟨b, 6, none⟩ = false :=
 ⟨VG h 0, VG h 1, VG h 2, VG h 3, VG h 4, VG h 5, VG h 6⟩
theorem UV {w : World} {b : Nat} {c : Array Value} {t : TypeId} (h : w.heap[b]? = some (.cells c t)) (i : Nat) (v : Value) : (w.setCell ⟨b, i, none⟩ v).heap[b]? = some (.cells (c.setIfInBounds i v) t) := by
 simp [World.setCell, Array.getElem?_modify, h]

theorem UT (w : World) (b i : Nat) (v : Value) : Aq b (b + 1) w (w.setCell ⟨b, i, none⟩ v) := Cm (Aa w ⟨b, i, none⟩ v) (fun k hk => by simp at hk; omega)
theorem Aq.wide {B E B' E' : Nat} {w w' : World} (h : Aq B E w w') (hB : B' ≤ B) (hE : E ≤ E') : Aq B' E' w w' := ⟨h.os, h.tape, h.output, h.size, fun k hk hn => h.block k hk (by omega)⟩
theorem OwnN.wide {C E C' E' : Nat} {el eb : TypeId} {w : World} {v : Value} {n : List (List Int)} (h : OwnN C E el eb w v n) (hC : C' ≤ C) (hE : E ≤ E') : OwnN C' E' el eb w v n := by
 obtain ⟨vs, ho, hu, hd, hv, he⟩ := h
 refine ⟨vs, Fe ho hC, fun i hi => ?_, hd, fun q hq => Nat.lt_of_lt_of_le (hv q hq) hE, fun i u q h1 h2 => Nat.lt_of_lt_of_le (he i u q h1 h2) hE⟩
 obtain ⟨x, h1, h2⟩ := hu i hi
 exact ⟨x, h1, h2.mono hC⟩
theorem OwnB.wide {C E C' E' : Nat} {e : TypeId} {w : World} {v : Value} {l : List Int} (h : OwnB C E e w v l) (hC : C' ≤ C) (hE : E ≤ E') : OwnB C' E' e w v l := ⟨h.1.mono hC, fun q hq => Nat.lt_of_lt_of_le (h.2 q hq) hE⟩
theorem E8.wide {C E C' E' : Nat} {e : TypeId} {w : World} {v : Value} {l : List Int} (h : E8 C E e w v l) (hC : C' ≤ C) (hE : E ≤ E') : E8 C' E' e w v l := ⟨h.1.mono hC, fun q hq => Nat.lt_of_lt_of_le (h.2 q hq) hE⟩
theorem V4 {w0 : World} {b : Nat} {c0 c1 c2 c3 c4 c5 c6 a0 a1 a2 a3 a4 a5 a6 : Value} {t : TypeId} (h0 : w0.heap[b]? = some (.cells #[a0, a1, a2, a3, a4, a5, a6] t)) :
  (((((((w0.setCell ⟨b, 0, none⟩ c0).setCell ⟨b, 1, none⟩ c1).setCell ⟨b, 2, none⟩ c2).setCell ⟨b, 3, none⟩ c3).setCell ⟨b, 4, none⟩ c4).setCell ⟨b, 5, none⟩ c5).setCell ⟨b, 6, none⟩ c6).heap[b]? = some (.cells #[c0, c1, c2, c3, c4, c5, c6] t) := by
 have h1 : (w0.setCell ⟨b, 0, none⟩ c0).heap[b]? = some (.cells #[c0, a1, a2, a3, a4, a5, a6] t) := UV h0 0 c0
 generalize w0.setCell ⟨b, 0, none⟩ c0 = w1 at h1 ⊢
 have h2 : (w1.setCell ⟨b, 1, none⟩ c1).heap[b]? = some (.cells #[c0, c1, a2, a3, a4, a5, a6] t) := UV h1 1 c1
 generalize w1.setCell ⟨b, 1, none⟩ c1 = w2 at h2 ⊢
 have h3 : (w2.setCell ⟨b, 2, none⟩ c2).heap[b]? = some (.cells #[c0, c1, c2, a3, a4, a5, a6] t) := UV h2 2 c2
 generalize w2.setCell ⟨b, 2, none⟩ c2 = w3 at h3 ⊢
 have h4 : (w3.setCell ⟨b, 3, none⟩ c3).heap[b]? = some (.cells #[c0, c1, c2, c3, a4, a5, a6] t) := UV h3 3 c3
 generalize w3.setCell ⟨b, 3, none⟩ c3 = w4 at h4 ⊢
 have h5 : (w4.setCell ⟨b, 4, none⟩ c4).heap[b]? = some (.cells #[c0, c1, c2, c3, c4, a5, a6] t) := UV h4 4 c4
 generalize w4.setCell ⟨b, 4, none⟩ c4 = w5 at h5 ⊢
 have h6 : (w5.setCell ⟨b, 5, none⟩ c5).heap[b]? = some (.cells #[c0, c1, c2, c3, c4, c5, a6] t) := UV h5 5 c5
 generalize w5.setCell ⟨b, 5, none⟩ c5 = w6 at h6 ⊢
 have h7 : (w6.setCell ⟨b, 6, none⟩ c6).heap[b]? = some (.cells #[c0, c1, c2, c3, c4, c5, c6] t) := UV h6 6 c6
 exact h7
theorem set7 {w0 : World} {b : Nat} {c0 c1 c2 c3 c4 c5 c6 a0 a1 a2 a3 a4 a5 a6 : Value} {t : TypeId} (h0 : w0.heap[b]? = some (.cells #[a0, a1, a2, a3, a4, a5, a6] t)) :
  (((((((w0.setCell ⟨b, 0, none⟩ c0).setCell ⟨b, 1, none⟩ c1).setCell ⟨b, 2, none⟩ c2).setCell ⟨b, 3, none⟩ c3).setCell ⟨b, 4, none⟩ c4).setCell ⟨b, 5, none⟩ c5).setCell ⟨b, 6, none⟩ c6).heap[b]? = some (.cells #[c0, c1, c2, c3, c4, c5, c6] t) ∧ Aq b (b + 1) w0 (((((((w0.setCell ⟨b, 0, none⟩ c0).setCell ⟨b, 1, none⟩ c1).setCell ⟨b, 2, none⟩ c2).setCell ⟨b, 3, none⟩ c3).setCell ⟨b, 4, none⟩ c4).setCell ⟨b, 5, none⟩ c5).setCell ⟨b, 6, none⟩ c6) :=
 ⟨V4 h0, ((((((UT _ _ _ _).trans (UT _ _ _ _)).trans (UT _ _ _ _)).trans (UT _ _ _ _)).trans (UT _ _ _ _)).trans (UT _ _ _ _)).trans (UT _ _ _ _)⟩
end Go.Proofs.YthobpbnaklnbiaaGreat

namespace Go.Proofs.YthobpbnaklnbiaaGreat
open Go.RowKit

def En (n : List (List Int)) : Prop := n.length ≤ 7 ∧ ∀ k, k < n.length → (n.getD k []).length ≤ 16
theorem He : En [] := ⟨by simp, fun k hk => absurd hk (by simp)⟩
end Go.Proofs.YthobpbnaklnbiaaGreat

namespace Go.Proofs.YthobpbnaklnbiaaGreat
open Go.RowKit
set_option linter.unusedVariables false

structure B6 (w : World) (vn vt vx vi : Value) (r : Rec) : Prop where
 name : OwnT 0 22 5 w vn r.name
 to : OwnT 0 22 5 w vt r.to
 text : Has w vx r.text ∧ Cj 5 w vx
 nums : OwnI 0 3 w vi r.nums
theorem B6.hasR {w : World} {vn vt vx vi : Value} {r : Rec} (h : B6 w vn vt vx vi r) : HasR w vn vt vx vi r := ⟨h.name.hasL, h.to.hasL, h.text.1, h.nums.has⟩
theorem B6.below {w w' : World} {vn vt vx vi : Value} {r : Rec} (h : B6 w vn vt vx vi r) (hb : Below w.heap.size w w') : B6 w' vn vt vx vi r := ⟨h.name.below hb, h.to.below hb, ⟨h.text.1.below hb, h.text.2.below hb⟩, h.nums.below hb⟩
theorem B6.off {w w' : World} {vn vt vx vi : Value} {r : Rec} {q : Nat} {t : TypeId} {c : Array Value} (h : B6 w vn vt vx vi r) (hk : w.heap[q]? = some (.cells c t)) (h1 : t ≠ 22) (h2 : t ≠ 5) (h3 : t ≠ 3) (hg : w.grownBy w' (some q)) : B6 w' vn vt vx vi r :=
 ⟨h.name.off hk h1 h2 hg, h.to.off hk h1 h2 hg, h.text.1.off h.text.2 hk h2 hg, h.nums.kept hg (.inr (Cr h.nums hk h3))⟩
theorem B6.cur {w w' : World} {vn vt vx vi : Value} {r : Rec} {g len cap : Nat} {a : Option Addr} (h : B6 w vn vt vx vi r) (hc : Cur w g a len cap) (hg : w.grownBy w' (some g)) : B6 w' vn vt vx vi r := by
 obtain ⟨i, x, h1, _⟩ := hc
 exact h.off h1 (by decide) (by decide) (by decide) hg
theorem Sb (w : World) : OwnT 0 22 5 w (.slice none 0 0) [] := ⟨[], World.ownsRow_nil _ _ _ _, fun i hi => absurd hi (by simp)⟩
theorem Ys (w : World) : OwnI 0 3 w (.slice none 0 0) [] := World.ownsRow_nil _ _ _ _
theorem Ze (w : World) : Has w (.slice none 0 0) [] ∧ Cj 5 w (.slice none 0 0) := ⟨.inl ⟨rfl, rfl⟩, Cj.nil _ _⟩
theorem A5 (w : World) (b : Nat) {c0 c1 c2 c3 c4 c5 c6 : Value} : w.grownBy (((((((w.setCell ⟨b, 0, none⟩ c0).setCell ⟨b, 1, none⟩ c1).setCell ⟨b, 2, none⟩ c2).setCell ⟨b, 3, none⟩ c3).setCell ⟨b, 4, none⟩ c4).setCell ⟨b, 5, none⟩ c5).setCell ⟨b, 6, none⟩ c6) (some b) :=
 Ae (Ae (Ae (Ae (Ae (Ae (Aa w ⟨b, 0, none⟩ c0) (Aa _ ⟨b, 1, none⟩ c1)) (Aa _ ⟨b, 2, none⟩ c2)) (Aa _ ⟨b, 3, none⟩ c3)) (Aa _ ⟨b, 4, none⟩ c4)) (Aa _ ⟨b, 5, none⟩ c5)) (Aa _ ⟨b, 6, none⟩ c6)
def DrawnS (k : Nat) (r : Rec) : Prop := r.nums.length ≤ k ∧ En r.name ∧ En r.to ∧ r.text.length ≤ 41
end Go.Proofs.YthobpbnaklnbiaaGreat

namespace Go.Proofs.YthobpbnaklnbiaaGreat
open Go.RowKit

def recZ : Rec := ⟨[], 0, 0, 0, [], [], []⟩
def Ah (vn vt vx vi : Value) (r : Rec) : List Value := [vn, .int .i64 r.type, .int .i64 r.ttl, .int .i64 r.addr, vt, vx, vi]

theorem UW {w w' : World} {b o : Nat} {cs : List Value} (h : w.rangeAt b o cs) (hlt : b < w.heap.size) (hb : Below w.heap.size w w') : w'.rangeAt b o cs := fun j v hv => (hb.cell (p := ⟨b, o + j, none⟩) hlt).trans (h j v hv)
theorem VH {w : World} {b o : Nat} {c0 c1 c2 c3 c4 c5 c6 : Value} (h : w.rangeAt b o [c0, c1, c2, c3, c4, c5, c6]) :
  w.cell? ⟨b, o, none⟩ = some c0 ∧ w.cell? ⟨b, o + 1, none⟩ = some c1 ∧ w.cell? ⟨b, o + 2, none⟩ = some c2 ∧ w.cell? ⟨b, o + 3, none⟩ = some c3 ∧ w.cell? ⟨b, o + 4, none⟩ = some c4 ∧ w.cell? ⟨b, o + 5, none⟩ = some c5 ∧ w.cell? ⟨b, o + 6, none⟩ = some c6 :=
 ⟨h 0 c0 rfl, h 1 c1 rfl, h 2 c2 rfl, h 3 c3 rfl, h 4 c4 rfl, h 5 c5 rfl, h 6 c6 rfl⟩

def G6 (w : World) (a : Option Addr) (rs : List Rec) : Prop :=
 rs = [] ∨ ∃ b off, a = some ⟨b, off, none⟩ ∧ b < w.heap.size ∧ ∀ i, i < rs.length → ∃ an cn ato ct ax cx ai ci,
  w.rangeAt b (off + i * 7) (Ah (.slice an (rs.getD i recZ).name.length cn) (.slice ato (rs.getD i recZ).to.length ct) (.slice ax (rs.getD i recZ).text.length cx) (.slice ai (rs.getD i recZ).nums.length ci) (rs.getD i recZ)) ∧ InR w an ato ax ai (rs.getD i recZ)
theorem G6.below {w w' : World} {a : Option Addr} {rs : List Rec} (h : G6 w a rs) (hb : Below w.heap.size w w') : G6 w' a rs := by
 rcases h with h | ⟨b, off, ha, hlt, hc⟩
 ·exact .inl h
 ·refine .inr ⟨b, off, ha, Nat.lt_of_lt_of_le hlt hb.size, fun i hi => ?_⟩
  obtain ⟨an, cn, ato, ct, ax, cx, ai, ci, h1, h2⟩ := hc i hi
  exact ⟨an, cn, ato, ct, ax, cx, ai, ci, UW h1 hlt hb, h2.below hb⟩
theorem G6.here {w : World} {a : Option Addr} {rs : List Rec} (h : G6 w a rs) {k : Nat} (hk : k < rs.length) :
  ∃ b off an cn ato ct ax cx ai ci, a = some ⟨b, off, none⟩ ∧ b < w.heap.size ∧ w.rangeAt b (off + k * 7) (Ah (.slice an (rs.getD k recZ).name.length cn) (.slice ato (rs.getD k recZ).to.length ct) (.slice ax (rs.getD k recZ).text.length cx) (.slice ai (rs.getD k recZ).nums.length ci) (rs.getD k recZ)) ∧ InR w an ato ax ai (rs.getD k recZ) := by
 rcases h with rfl | ⟨b, off, ha, hlt, hc⟩
 ·simp at hk
 ·obtain ⟨an, cn, ato, ct, ax, cx, ai, ci, h1, h2⟩ := hc k hk
  exact ⟨b, off, an, cn, ato, ct, ax, cx, ai, ci, ha, hlt, h1, h2⟩

def Cq (w : World) (v : Value) (rs : List Rec) : Prop :=
 (v = .slice none 0 0 ∧ rs = []) ∨ ∃ g off cap, v = .slice (some ⟨g, off, none⟩) rs.length cap ∧ g < w.heap.size ∧ rs.length ≤ cap ∧ cap ≤ maxLen ∧ ∀ i, i < rs.length → ∃ vn vt vx vi,
  w.rangeAt g (off + i * 7) (Ah vn vt vx vi (rs.getD i recZ)) ∧ HasR w vn vt vx vi (rs.getD i recZ)
theorem Cq.below {w w' : World} {v : Value} {rs : List Rec} (h : Cq w v rs) (hb : Below w.heap.size w w') : Cq w' v rs := by
 rcases h with h | ⟨g, off, cap, hv, hlt, hl, hm, hc⟩
 ·exact .inl h
 ·refine .inr ⟨g, off, cap, hv, Nat.lt_of_lt_of_le hlt hb.size, hl, hm, fun i hi => ?_⟩
  obtain ⟨vn, vt, vx, vi, h1, h2⟩ := hc i hi
  exact ⟨vn, vt, vx, vi, UW h1 hlt hb, h2.below hb⟩
theorem Cq.form {w : World} {v : Value} {rs : List Rec} (h : Cq w v rs) : ∃ a cap, v = .slice a rs.length cap ∧ rs.length ≤ cap ∧ cap ≤ maxLen := by
 rcases h with ⟨rfl, rfl⟩ | ⟨g, off, cap, hv, hlt, hl, hm, hc⟩
 ·exact ⟨none, 0, rfl, Nat.le_refl _, Nat.zero_le _⟩
 ·exact ⟨_, cap, hv, hl, hm⟩
theorem Cq.here {w : World} {a : Option Addr} {len cap : Nat} {rs : List Rec} (h : Cq w (.slice a len cap) rs) {k : Nat} (hk : k < rs.length) :
  ∃ b off na nc ta tc xa xc ia ic, a = some ⟨b, off, none⟩ ∧ b < w.heap.size ∧ w.rangeAt b (off + k * 7) (Ah (.slice na (rs.getD k recZ).name.length nc) (.slice ta (rs.getD k recZ).to.length tc) (.slice xa (rs.getD k recZ).text.length xc) (.slice ia (rs.getD k recZ).nums.length ic) (rs.getD k recZ)) ∧
   HasR w (.slice na (rs.getD k recZ).name.length nc) (.slice ta (rs.getD k recZ).to.length tc) (.slice xa (rs.getD k recZ).text.length xc) (.slice ia (rs.getD k recZ).nums.length ic) (rs.getD k recZ) := by
 rcases h with ⟨_, rfl⟩ | ⟨g, off, cap', hv, hlt, hl, hm, hc⟩
 ·simp at hk
 ·simp only [Value.slice.injEq] at hv
  obtain ⟨vn, vt, vx, vi, h1, h2⟩ := hc k hk
  obtain ⟨na, nc, rfl, _⟩ := h2.name.form
  obtain ⟨ta, tc, rfl, _⟩ := h2.to.form
  obtain ⟨xa, xc, rfl, _⟩ := h2.text.form
  obtain ⟨ia, ic, rfl, _⟩ := h2.nums.form
  exact ⟨g, off, na, nc, ta, tc, xa, xc, ia, ic, hv.1, hlt, h1, h2⟩

theorem Ee (b : Nat) : ∀ (vs : List Value) (o : Nat) (w : World), Aq b (b + 1) w (w.setCells b o vs)
 | [], _, _ => ⟨rfl, rfl, rfl, Nat.le_refl _, fun _ _ _ => rfl⟩
 | v :: vs, o, w => (UT w b o v).trans (Ee b vs (o + 1) _)
def Fw (g : Nat) (n k : Nat) (el eb ei : TypeId) (w : World) (rs : List Rec) : Prop :=
 g < w.heap.size ∧ w.there g 0 (n * 7) ∧ ∀ i, i < k → ∃ vn vt vx vi, w.rangeAt g (i * 7) (Ah vn vt vx vi (rs.getD i recZ)) ∧ OwnR (g + 1) w.heap.size el eb ei w vn vt vx vi (rs.getD i recZ)
theorem OwnR.wide {B E B' E' : Nat} {el eb ei : TypeId} {w : World} {vn vt vx vi : Value} {r : Rec} (h : OwnR B E el eb ei w vn vt vx vi r) (hB : B' ≤ B) (hE : E ≤ E') : OwnR B' E' el eb ei w vn vt vx vi r := by
 obtain ⟨s1, s2, s3, a1, a2, a3, a4, h1, h2, h3, h4⟩ := h
 exact ⟨s1, s2, s3, by omega, a2, a3, by omega, h1.wide hB (Nat.le_refl _), h2, h3, h4.wide (Nat.le_refl _) hE⟩
theorem Fw.below {g n k : Nat} {el eb ei : TypeId} {w w' : World} {rs : List Rec} (h : Fw g n k el eb ei w rs) (hb : Below w.heap.size w w') : Fw g n k el eb ei w' rs := by
 obtain ⟨h0, h1, h2⟩ := h
 refine ⟨Nat.lt_of_lt_of_le h0 hb.size, fun j hj => ?_, fun i hi => ?_⟩
 ·have := h1 j hj
  rw [← hb.cell (p := ⟨g, 0 + j, none⟩) h0, ← hb.frozen (p := ⟨g, 0 + j, none⟩) h0] at this
  exact this
 ·obtain ⟨vn, vt, vx, vi, q1, q2⟩ := h2 i hi
  exact ⟨vn, vt, vx, vi, UW q1 h0 hb, (q2.below hb).wide (Nat.le_refl _) hb.size⟩
theorem Fw.here {g n k : Nat} {el eb ei : TypeId} {w : World} {rs : List Rec} (h : Fw g n k el eb ei w rs) (hk : k < n) : w.there g (k * 7) 7 := fun j hj => by
 have := h.2.1 (k * 7 + j) (by omega)
 rwa [Nat.zero_add] at this
theorem Fw.step {g n k : Nat} {el eb ei : TypeId} {w : World} {rs : List Rec} (h : Fw g n k el eb ei w rs) (hk : k < n) {vn vt vx vi : Value} (ho : OwnR (g + 1) w.heap.size el eb ei w vn vt vx vi (rs.getD k recZ)) :
  Fw g n (k + 1) el eb ei (w.setCells g (k * 7) (Ah vn vt vx vi (rs.getD k recZ))) rs := by
 have u := Ee g (Ah vn vt vx vi (rs.getD k recZ)) (k * 7) w
 have ht := h.here hk
 obtain ⟨h0, h1, h2⟩ := h
 refine ⟨Nat.lt_of_lt_of_le h0 u.size, World.there_setCells h1 _ _ _, fun i hi => ?_⟩
 by_cases e : i = k
 ·subst e
  exact ⟨vn, vt, vx, vi, World.rangeAt_setCells_same _ _ _ _ ht, (ho.outside u (.inr (Nat.le_refl _))).wide (Nat.le_refl _) u.size⟩
 ·obtain ⟨xn, xt, xx, xi, q1, q2⟩ := h2 i (by omega)
  refine ⟨xn, xt, xx, xi, World.rangeAt_setCells_apart q1 _ _ _ (.inr (.inl ?_)), (q2.outside u (.inr (Nat.le_refl _))).wide (Nat.le_refl _) u.size⟩
  show i * 7 + 7 ≤ k * 7
  omega
theorem Fw.has {g n : Nat} {el eb ei : TypeId} {w : World} {rs : List Rec} (h : Fw g n n el eb ei w rs) (hn : rs.length = n) (hm : n ≤ maxLen) : Cq w (.slice (some ⟨g, 0, none⟩) n n) rs := by
 subst hn
 refine .inr ⟨g, 0, rs.length, rfl, h.1, Nat.le_refl _, hm, fun i hi => ?_⟩
 obtain ⟨vn, vt, vx, vi, q1, q2⟩ := h.2.2 i hi
 exact ⟨vn, vt, vx, vi, by rw [Nat.zero_add]; exact q1, q2.hasR⟩
theorem Fw.outside {g n k C D : Nat} {el eb ei : TypeId} {w w' : World} {rs : List Rec} (h : Fw g n k el eb ei w rs) (u : Aq C D w w') (hd : D ≤ g) : Fw g n k el eb ei w' rs := by
 obtain ⟨h0, h1, h2⟩ := h
 have hk : w'.heap[g]? = w.heap[g]? := u.block g h0 (by omega)
 have hc : ∀ j, w'.cell? ⟨g, j, none⟩ = w.cell? ⟨g, j, none⟩ := fun j => by unfold World.cell?; rw [hk]
 have hf : ∀ j, w'.frozen? ⟨g, j, none⟩ = w.frozen? ⟨g, j, none⟩ := fun j => by unfold World.frozen?; rw [hk]
 refine ⟨Nat.lt_of_lt_of_le h0 u.size, fun j hj => by rw [hc, hf]; exact h1 j hj, fun i hi => ?_⟩
 obtain ⟨vn, vt, vx, vi, q1, q2⟩ := h2 i hi
 exact ⟨vn, vt, vx, vi, fun j v hv => (hc _).trans (q1 j v hv), (q2.outside u (.inr (by omega))).wide (Nat.le_refl _) u.size⟩
def Tk (B : Nat) (el eb ei : TypeId) (w : World) (v : Value) (rs : List Rec) : Prop := ∃ g, v = .slice (some ⟨g, 0, none⟩) rs.length rs.length ∧ B ≤ g ∧ rs.length ≤ maxLen ∧ Fw g rs.length rs.length el eb ei w rs
theorem Tk.has {B : Nat} {el eb ei : TypeId} {w : World} {v : Value} {rs : List Rec} (h : Tk B el eb ei w v rs) : Cq w v rs := by
 obtain ⟨g, rfl, _, hm, hf⟩ := h
 exact hf.has rfl hm
theorem Tk.outside {B C D : Nat} {el eb ei : TypeId} {w w' : World} {v : Value} {rs : List Rec} (h : Tk B el eb ei w v rs) (u : Aq C D w w') (hd : D ≤ B) : Tk B el eb ei w' v rs := by
 obtain ⟨g, hv, hB, hm, hf⟩ := h
 exact ⟨g, hv, hB, hm, hf.outside u (by omega)⟩
end Go.Proofs.YthobpbnaklnbiaaGreat

namespace Go.Proofs.YthobpbnaklnbiaaGreat
open Go.RowKit
set_option linter.unusedVariables false

def P5 {α : Type} (E : World → List Value → α → Prop) : Prop := ∀ {w w' : World} {vs : List Value} {x : α}, E w vs x → Below w.heap.size w w' → E w' vs x
def Ji {α : Type} (c : Nat) (E : World → List Value → α → Prop) (d : α) (w : World) (a : Option Addr) (xs : List α) : Prop :=
 xs = [] ∨ ∃ b off, a = some ⟨b, off, none⟩ ∧ b < w.heap.size ∧ ∀ i, i < xs.length → ∃ vs, w.rangeAt b (off + i * c) vs ∧ E w vs (xs.getD i d)
def HasG {α : Type} (c : Nat) (E : World → List Value → α → Prop) (d : α) (w : World) (v : Value) (xs : List α) : Prop :=
 (v = .slice none 0 0 ∧ xs = []) ∨ ∃ g off cap, v = .slice (some ⟨g, off, none⟩) xs.length cap ∧ g < w.heap.size ∧ xs.length ≤ cap ∧ cap ≤ maxLen ∧ ∀ i, i < xs.length → ∃ vs, w.rangeAt g (off + i * c) vs ∧ E w vs (xs.getD i d)
section
variable {α : Type} {c : Nat} {E : World → List Value → α → Prop} {d : α} {w w' : World} {a : Option Addr} {v : Value} {xs : List α}
theorem Ji.below (hE : P5 E) (h : Ji c E d w a xs) (hb : Below w.heap.size w w') : Ji c E d w' a xs := by
 rcases h with h | ⟨b, off, ha, hlt, hc⟩
 ·exact .inl h
 ·refine .inr ⟨b, off, ha, Nat.lt_of_lt_of_le hlt hb.size, fun i hi => ?_⟩
  obtain ⟨vs, h1, h2⟩ := hc i hi
  exact ⟨vs, UW h1 hlt hb, hE h2 hb⟩
theorem Ji.here (h : Ji c E d w a xs) {k : Nat} (hk : k < xs.length) : ∃ b off vs, a = some ⟨b, off, none⟩ ∧ b < w.heap.size ∧ w.rangeAt b (off + k * c) vs ∧ E w vs (xs.getD k d) := by
 rcases h with rfl | ⟨b, off, ha, hlt, hc⟩
 ·simp at hk
 ·obtain ⟨vs, h1, h2⟩ := hc k hk
  exact ⟨b, off, vs, ha, hlt, h1, h2⟩
theorem HasG.below (hE : P5 E) (h : HasG c E d w v xs) (hb : Below w.heap.size w w') : HasG c E d w' v xs := by
 rcases h with h | ⟨g, off, cap, hv, hlt, hl, hm, hc⟩
 ·exact .inl h
 ·refine .inr ⟨g, off, cap, hv, Nat.lt_of_lt_of_le hlt hb.size, hl, hm, fun i hi => ?_⟩
  obtain ⟨vs, h1, h2⟩ := hc i hi
  exact ⟨vs, UW h1 hlt hb, hE h2 hb⟩
theorem HasG.form (h : HasG c E d w v xs) : ∃ a cap, v = .slice a xs.length cap ∧ xs.length ≤ cap ∧ cap ≤ maxLen := by
 rcases h with ⟨rfl, rfl⟩ | ⟨g, off, cap, hv, hlt, hl, hm, hc⟩
 ·exact ⟨none, 0, rfl, Nat.le_refl _, Nat.zero_le _⟩
 ·exact ⟨_, cap, hv, hl, hm⟩
theorem HasG.here {len cap : Nat} (h : HasG c E d w (.slice a len cap) xs) {k : Nat} (hk : k < xs.length) : ∃ b off vs, a = some ⟨b, off, none⟩ ∧ b < w.heap.size ∧ w.rangeAt b (off + k * c) vs ∧ E w vs (xs.getD k d) := by
 rcases h with ⟨_, rfl⟩ | ⟨g, off, cap', hv, hlt, hl, hm, hc⟩
 ·simp at hk
 ·simp only [Value.slice.injEq] at hv
  obtain ⟨vs, h1, h2⟩ := hc k hk
  exact ⟨g, off, vs, hv.1, hlt, h1, h2⟩
theorem HasG.map {E' : World → List Value → α → Prop} (hE : ∀ vs x, E w vs x → E' w vs x) (h : HasG c E d w v xs) : HasG c E' d w v xs := by
 rcases h with h | ⟨g, off, cap, hv, hlt, hl, hm, hc⟩
 ·exact .inl h
 ·refine .inr ⟨g, off, cap, hv, hlt, hl, hm, fun i hi => ?_⟩
  obtain ⟨vs, h1, h2⟩ := hc i hi
  exact ⟨vs, h1, hE _ _ h2⟩
end

structure E9 {α : Type} (c : Nat) (O : Nat → Nat → World → List Value → α → Prop) : Prop where
 cells : ∀ {B e : Nat} {w : World} {vs : List Value} {x : α}, O B e w vs x → vs.length = c
 below : ∀ {B e : Nat} {w w' : World} {vs : List Value} {x : α}, O B e w vs x → Below w.heap.size w w' → O B e w' vs x
 outside : ∀ {B e C D : Nat} {w w' : World} {vs : List Value} {x : α}, O B e w vs x → Aq C D w w' → e ≤ C ∨ D ≤ B → O B e w' vs x
 wide : ∀ {B e B' e' : Nat} {w : World} {vs : List Value} {x : α}, O B e w vs x → B' ≤ B → e ≤ e' → O B' e' w vs x
def Hp {α : Type} (c : Nat) (O : Nat → Nat → World → List Value → α → Prop) (d : α) (g n k : Nat) (w : World) (xs : List α) : Prop :=
 g < w.heap.size ∧ w.there g 0 (n * c) ∧ ∀ i, i < k → ∃ vs, w.rangeAt g (i * c) vs ∧ O (g + 1) w.heap.size w vs (xs.getD i d)
section
variable {α : Type} {c : Nat} {O : Nat → Nat → World → List Value → α → Prop} {d : α} {w w' : World} {v : Value} {xs : List α} {g n k : Nat}
theorem Hp.below (hO : E9 c O) (h : Hp c O d g n k w xs) (hb : Below w.heap.size w w') : Hp c O d g n k w' xs := by
 obtain ⟨h0, h1, h2⟩ := h
 refine ⟨Nat.lt_of_lt_of_le h0 hb.size, fun j hj => ?_, fun i hi => ?_⟩
 ·have := h1 j hj
  rw [← hb.cell (p := ⟨g, 0 + j, none⟩) h0, ← hb.frozen (p := ⟨g, 0 + j, none⟩) h0] at this
  exact this
 ·obtain ⟨vs, q1, q2⟩ := h2 i hi
  exact ⟨vs, UW q1 h0 hb, hO.wide (hO.below q2 hb) (Nat.le_refl _) hb.size⟩
theorem Hp.here (h : Hp c O d g n k w xs) (hk : k < n) : w.there g (k * c) c := fun j hj => by
 have hle : k * c + c ≤ n * c := by
  have := Nat.mul_le_mul_right c (show k + 1 ≤ n from hk)
  rwa [Nat.add_mul, Nat.one_mul] at this
 have := h.2.1 (k * c + j) (by omega)
 rwa [Nat.zero_add] at this
theorem Hp.step (hO : E9 c O) (h : Hp c O d g n k w xs) (hk : k < n) {vs : List Value} (ho : O (g + 1) w.heap.size w vs (xs.getD k d)) : Hp c O d g n (k + 1) (w.setCells g (k * c) vs) xs := by
 have u := Ee g vs (k * c) w
 have ht := h.here hk
 have hc := hO.cells ho
 obtain ⟨h0, h1, h2⟩ := h
 refine ⟨Nat.lt_of_lt_of_le h0 u.size, World.there_setCells h1 _ _ _, fun i hi => ?_⟩
 by_cases e : i = k
 ·subst e
  exact ⟨vs, World.rangeAt_setCells_same _ _ _ _ (by rw [hc]; exact ht), hO.wide (hO.outside ho u (.inr (Nat.le_refl _))) (Nat.le_refl _) u.size⟩
 ·obtain ⟨us, q1, q2⟩ := h2 i (by omega)
  have hl : i * c + c ≤ k * c := by
   have := Nat.mul_le_mul_right c (show i + 1 ≤ k by omega)
   rwa [Nat.add_mul, Nat.one_mul] at this
  refine ⟨us, World.rangeAt_setCells_apart q1 _ _ _ (.inr (.inl ?_)), hO.wide (hO.outside q2 u (.inr (Nat.le_refl _))) (Nat.le_refl _) u.size⟩
  rw [hO.cells q2]
  exact hl
theorem Hp.outside (hO : E9 c O) {C D : Nat} (h : Hp c O d g n k w xs) (u : Aq C D w w') (hd : D ≤ g) : Hp c O d g n k w' xs := by
 obtain ⟨h0, h1, h2⟩ := h
 have hk : w'.heap[g]? = w.heap[g]? := u.block g h0 (by omega)
 have hc : ∀ j, w'.cell? ⟨g, j, none⟩ = w.cell? ⟨g, j, none⟩ := fun j => by unfold World.cell?; rw [hk]
 have hf : ∀ j, w'.frozen? ⟨g, j, none⟩ = w.frozen? ⟨g, j, none⟩ := fun j => by unfold World.frozen?; rw [hk]
 refine ⟨Nat.lt_of_lt_of_le h0 u.size, fun j hj => by rw [hc, hf]; exact h1 j hj, fun i hi => ?_⟩
 obtain ⟨vs, q1, q2⟩ := h2 i hi
 exact ⟨vs, fun j v hv => (hc _).trans (q1 j v hv), hO.wide (hO.outside q2 u (.inr (by omega))) (Nat.le_refl _) u.size⟩
end
def OwnG {α : Type} (c : Nat) (O : Nat → Nat → World → List Value → α → Prop) (d : α) (B : Nat) (w : World) (v : Value) (xs : List α) : Prop :=
 ∃ g, v = .slice (some ⟨g, 0, none⟩) xs.length xs.length ∧ B ≤ g ∧ xs.length ≤ maxLen ∧ Hp c O d g xs.length xs.length w xs
section
variable {α : Type} {c : Nat} {O : Nat → Nat → World → List Value → α → Prop} {d : α} {w w' : World} {v : Value} {xs : List α} {B : Nat}
theorem OwnG.has {E : World → List Value → α → Prop} (hE : ∀ {B e : Nat} {w : World} {vs : List Value} {x : α}, O B e w vs x → E w vs x) (h : OwnG c O d B w v xs) : HasG c E d w v xs := by
 obtain ⟨g, rfl, _, hm, hf⟩ := h
 refine .inr ⟨g, 0, xs.length, rfl, hf.1, Nat.le_refl _, hm, fun i hi => ?_⟩
 obtain ⟨vs, q1, q2⟩ := hf.2.2 i hi
 exact ⟨vs, by rw [Nat.zero_add]; exact q1, hE q2⟩
theorem OwnG.outside (hO : E9 c O) {C D : Nat} (h : OwnG c O d B w v xs) (u : Aq C D w w') (hd : D ≤ B) : OwnG c O d B w' v xs := by
 obtain ⟨g, hv, hB, hm, hf⟩ := h
 exact ⟨g, hv, hB, hm, hf.outside hO u (by omega)⟩
theorem OwnG.below (hO : E9 c O) (h : OwnG c O d B w v xs) (hb : Below w.heap.size w w') : OwnG c O d B w' v xs := by
 obtain ⟨g, hv, hB, hm, hf⟩ := h
 exact ⟨g, hv, hB, hm, hf.below hO hb⟩
end
end Go.Proofs.YthobpbnaklnbiaaGreat
