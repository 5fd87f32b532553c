/-
  Plain facts: a row of records that a slice owns, each with lists of its own in a stretch of blocks of its own. No program is named here. Plain facts: a row of records that is being filled, each record's lists in a stretch of blocks of its own; marks in such a row. No program is named here. Plain facts: a row of structs that a slice owns, c cells each, each with lists of its own in a stretch of blocks of its own. No program is named here. Contracts of the program's kindOf and TypeOk, and of the specification's TypeOk. Plain facts: which records may be. No program is named here.
-/
import Derived.Test.YtbabmdiklefgcaaGreatDoorFnRepliesG03
import Derived.Test.YtbabmdiklefgcaaGreatDoorFnRepliesG00
namespace Go.Proofs.YtbabmdiklefgcaaGreatDoor
open Go.RowKit
set_option linter.unusedVariables false

theorem row_later {B n size : Nat} {e : TypeId} {w w' : World} {v : Value} {xs : List Value} (h : w.ownsRow B e size v n xs) (hb : Below w.heap.size w w') : w'.ownsRow B e size v n xs :=
 World.ownsRow.kept h (grown_of_below hb) (by cases hv : v.ownBlock with | none => exact .inl rfl | some k => exact .inr (by simp))
def RowO (B E : Nat) (er el eb ei : TypeId) (w : World) (v : Value) (rs : List Rec) : Prop :=
 ∃ (xs : List Value) (f g : Nat → Nat), w.ownsRow B er 7 v rs.length xs ∧ (∀ q, v.ownBlock = some q → q < E) ∧
  ∀ i, i < rs.length → B ≤ f i ∧ g i ≤ E ∧ (∀ k, k < i → g k ≤ f i) ∧ (∀ q, v.ownBlock = some q → q < f i ∨ g i ≤ q) ∧
   ∃ vn vt vx vi, (∀ j u, (cellsR vn vt vx vi (rs.getD i recZ))[j]? = some u → xs[i * 7 + j]? = some u) ∧ OwnR (f i) (g i) el eb ei w vn vt vx vi (rs.getD i recZ)

theorem RowO.nil (B E : Nat) (er el eb ei : TypeId) (w : World) : RowO B E er el eb ei w (.slice none 0 0) [] :=
 ⟨[], fun _ => 0, fun _ => 0, World.ownsRow_nil _ _ _ _, (fun q hq => by cases hq), fun i hi => absurd hi (by simp)⟩

theorem cells_lt {vn vt vx vi : Value} {r : Rec} {j : Nat} {u : Value} (h : (cellsR vn vt vx vi r)[j]? = some u) : j < 7 := by
 have := (List.getElem?_eq_some_iff.1 h).1
 simpa [cellsR] using this

theorem RowO.has {B E : Nat} {er el eb ei : TypeId} {w : World} {v : Value} {rs : List Rec} (h : RowO B E er el eb ei w v rs) : HasRs w v rs := by
 obtain ⟨xs, f, g, ho, _, hx⟩ := h
 have ho' := ho
 rcases ho.2 with ⟨rfl, hn⟩ | ⟨b, cap, cur, rfl, hB, hg, hn, hm, hs, ht⟩
 ·exact .inl ⟨rfl, List.eq_nil_of_length_eq_zero hn⟩
 ·refine .inr ⟨b, 0, cap, rfl, VC hg, hn, hm, fun i hi => ?_⟩
  obtain ⟨_, _, _, _, vn, vt, vx, vi, q1, q2⟩ := hx i hi
  refine ⟨vn, vt, vx, vi, fun j u hj => ?_, q2.hasR⟩
  have hj7 := cells_lt hj
  rw [Nat.zero_add, World.ownsRow.cellAt ho' (i * 7 + j) (by omega)]
  exact q1 j u hj

theorem RowO.form {B E : Nat} {er el eb ei : TypeId} {w : World} {v : Value} {rs : List Rec} (h : RowO B E er el eb ei w v rs) : ∃ a cap, v = .slice a rs.length cap ∧ rs.length ≤ cap ∧ cap ≤ maxLen := h.has.form

theorem RowO.wide {B E B' E' : Nat} {er el eb ei : TypeId} {w : World} {v : Value} {rs : List Rec} (h : RowO B E er el eb ei w v rs) (hB : B' ≤ B) (hE : E ≤ E') : RowO B' E' er el eb ei w v rs := by
 obtain ⟨xs, f, g, ho, hq, hx⟩ := h
 refine ⟨xs, f, g, ?_, fun q e => Nat.lt_of_lt_of_le (hq q e) hE, fun i hi => ?_⟩
 ·refine ⟨ho.1, ?_⟩
  rcases ho.2 with hn | ⟨b, cap, cur, hv, hb, rest⟩
  ·exact .inl hn
  ·exact .inr ⟨b, cap, cur, hv, Nat.le_trans hB hb, rest⟩
 ·obtain ⟨h1, h2, h3⟩ := hx i hi
  exact ⟨Nat.le_trans hB h1, Nat.le_trans h2 hE, h3⟩

theorem ownsRow_out {C B D n size : Nat} {e : TypeId} {w w' : World} {v : Value} {xs : List Value} (h : w.ownsRow C e size v n xs) (u : Outside B D w w') (hq : ∀ q, v.ownBlock = some q → q < B ∨ D ≤ q) : w'.ownsRow C e size v n xs := by
 have h' := h
 refine ⟨h.1, ?_⟩
 rcases h.2 with hn | ⟨g, cap, cur, hv, hb, hg, rest⟩
 ·exact .inl hn
 ·refine .inr ⟨g, cap, cur, hv, hb, ?_, rest⟩
  rw [u.block g (VC hg) (hq g (by rw [hv]; rfl))]
  exact hg

theorem RowO.outside {B E C D : Nat} {er el eb ei : TypeId} {w w' : World} {v : Value} {rs : List Rec} (h : RowO B E er el eb ei w v rs) (u : Outside C D w w') (hd : E ≤ C ∨ D ≤ B) : RowO B E er el eb ei w' v rs := by
 obtain ⟨xs, f, g, ho, hq, hx⟩ := h
 refine ⟨xs, f, g, ownsRow_out ho u (fun q e => ?_), hq, fun i hi => ?_⟩
 ·have h1 := hq q e
  have h2 := (World.ownsRow.lt ho q e).1
  omega
 ·obtain ⟨h1, h2, h3, h4, vn, vt, vx, vi, q1, q2⟩ := hx i hi
  exact ⟨h1, h2, h3, h4, vn, vt, vx, vi, q1, q2.outside u (by omega)⟩

theorem RowO.below {B E : Nat} {er el eb ei : TypeId} {w w' : World} {v : Value} {rs : List Rec} (h : RowO B E er el eb ei w v rs) (hb : Below w.heap.size w w') : RowO B E er el eb ei w' v rs := by
 obtain ⟨xs, f, g, ho, hq, hx⟩ := h
 refine ⟨xs, f, g, row_later ho hb, hq, fun i hi => ?_⟩
 obtain ⟨h1, h2, h3, h4, vn, vt, vx, vi, q1, q2⟩ := hx i hi
 exact ⟨h1, h2, h3, h4, vn, vt, vx, vi, q1, q2.below hb⟩

theorem OwnR.le {B E : Nat} {el eb ei : TypeId} {w : World} {vn vt vx vi : Value} {r : Rec} (h : OwnR B E el eb ei w vn vt vx vi r) : B ≤ E := by
 obtain ⟨s1, s2, s3, a1, a2, a3, a4, _⟩ := h
 omega

theorem OwnR.grown {B E : Nat} {el eb ei : TypeId} {w w' : World} {vn vt vx vi : Value} {r : Rec} {row : Option Nat} (h : OwnR B E el eb ei w vn vt vx vi r) (hg : w.grownBy w' row) (hr : ∀ q, row = some q → q < B ∨ E ≤ q) : OwnR B E el eb ei w' vn vt vx vi r := by
 cases row with
 | none => exact h.below (below_of_grown hg)
 | some q =>
  refine h.outside (outside_grown (B := q) (E := q + 1) hg (fun k hk => by simp at hk; omega)) ?_
  have := hr q rfl
  omega

theorem RowO.snoc {B E C D : Nat} {er el eb ei : TypeId} {W w' : World} {v v' : Value} {rs : List Rec} {r : Rec} {vn vt vx vi : Value} (h : RowO B E er el eb ei W v rs) (hE : E ≤ C) (hD : D ≤ W.heap.size)
  (hr : OwnR C D el eb ei W vn vt vx vi r) (hB : B ≤ C) (hg : W.grownBy w' v.ownBlock) (hw : v'.ownBlock = v.ownBlock ∨ v'.ownBlock = some W.heap.size)
  (ho : ∀ xs, W.ownsRow B er 7 v rs.length xs → w'.ownsRow B er 7 v' (rs.length + 1) (xs ++ cellsR vn vt vx vi r)) : RowO B w'.heap.size er el eb ei w' v' (rs ++ [r]) := by
 obtain ⟨xs, f, g, h0, hq, hx⟩ := h
 have ho' := ho xs h0
 have hCD := hr.le
 have hlen : xs.length = rs.length * 7 := h0.1
 have hz := hg.size
 have hvq : ∀ q, v.ownBlock = some q → q < C ∨ D ≤ q := fun q e => by have := hq q e; omega
 refine ⟨xs ++ cellsR vn vt vx vi r, fun i => if i < rs.length then f i else C, fun i => if i < rs.length then g i else D, by rw [List.length_append]; exact ho', fun q e => (World.ownsRow.lt ho' q e).2, fun i hi => ?_⟩
 rw [List.length_append] at hi
 simp only [List.length_cons, List.length_nil] at hi
 by_cases hlt : i < rs.length
 ·obtain ⟨h1, h2, h3, h4, un, ut, ux, ui, q1, q2⟩ := hx i hlt
  simp only [hlt, if_true]
  have e1 : (rs ++ [r]).getD i recZ = rs.getD i recZ := by rw [List.getD_eq_getElem?_getD, List.getElem?_append_left hlt, ← List.getD_eq_getElem?_getD]
  rw [e1]
  refine ⟨h1, by omega, fun k hk => ?_, fun q e => ?_, un, ut, ux, ui, fun j u hj => ?_, q2.grown hg h4⟩
  ·rw [if_pos (by omega)]
   exact h3 k hk
  ·rcases hw with hw | hw
   ·rw [hw] at e
    exact h4 q e
   ·rw [hw] at e
    injection e with e
    omega
  ·have hj7 := cells_lt hj
   rw [List.getElem?_append_left (by omega)]
   exact q1 j u hj
 ·obtain rfl : i = rs.length := by omega
  simp only [Nat.lt_irrefl, if_false]
  have e1 : (rs ++ [r]).getD rs.length recZ = r := by rw [List.getD_eq_getElem?_getD]; simp
  rw [e1]
  refine ⟨hB, by omega, fun k hk => ?_, fun q e => ?_, vn, vt, vx, vi, fun j u hj => ?_, hr.grown hg hvq⟩
  ·rw [if_pos hk]
   have := (hx k hk).2.1
   omega
  ·rcases hw with hw | hw
   ·rw [hw] at e
    exact hvq q e
   ·rw [hw] at e
    injection e with e
    omega
  ·rw [List.getElem?_append_right (by omega), hlen, Nat.add_sub_cancel_left]
   exact hj

section
variable {P : Program} {w : World}
end
theorem block_sets {b : Nat} {t : TypeId} : ∀ (vs : List Value) (o : Nat) {w : World} {c : Array Value}, w.heap[b]? = some (.cells c t) → ∃ c', (w.setCells b o vs).heap[b]? = some (.cells c' t) ∧ c'.size = c.size
 | [], _, _, c, h => ⟨c, h, rfl⟩
 | v :: vs, o, w, c, h => by
  obtain ⟨c', h1, h2⟩ := block_sets vs (o + 1) (UV h o v)
  exact ⟨c', h1, by rw [h2]; simp⟩

def FillO (g n k : Nat) (er el eb ei : TypeId) (w : World) (rs : List Rec) : Prop :=
 ∃ (cur : Array Value) (f : Nat → Nat), w.heap[g]? = some (.cells cur er) ∧ cur.size = n * 7 ∧ g + 1 ≤ f 0 ∧ f k ≤ w.heap.size ∧
  ∀ i, i < k → f i ≤ f (i + 1) ∧ ∃ vn vt vx vi, w.rangeAt g (i * 7) (cellsR vn vt vx vi (rs.getD i recZ)) ∧ OwnR (f i) (f (i + 1)) el eb ei w vn vt vx vi (rs.getD i recZ)

theorem FillO.lt {g n k : Nat} {er el eb ei : TypeId} {w : World} {rs : List Rec} (h : FillO g n k er el eb ei w rs) : g < w.heap.size := by
 obtain ⟨cur, f, h1, _⟩ := h
 exact VC h1
theorem FillO.here {g n k : Nat} {er el eb ei : TypeId} {w : World} {rs : List Rec} (h : FillO g n k er el eb ei w rs) (hk : k < n) : w.there g (k * 7) 7 := by
 obtain ⟨cur, f, h1, h2, _⟩ := h
 intro j hj
 refine ⟨?_, VG h1 _⟩
 rw [VE h1, Array.getElem?_eq_getElem (by omega)]
 rfl
theorem FillO.below {g n k : Nat} {er el eb ei : TypeId} {w w' : World} {rs : List Rec} (h : FillO g n k er el eb ei w rs) (hb : Below w.heap.size w w') : FillO g n k er el eb ei w' rs := by
 obtain ⟨cur, f, h1, h2, h3, h4, h5⟩ := h
 refine ⟨cur, f, UE hb h1, h2, h3, Nat.le_trans h4 hb.size, fun i hi => ?_⟩
 obtain ⟨q0, vn, vt, vx, vi, q1, q2⟩ := h5 i hi
 exact ⟨q0, vn, vt, vx, vi, UW q1 (VC h1) hb, q2.below hb⟩
theorem FillO.low {g n k : Nat} {er el eb ei : TypeId} {w : World} {rs : List Rec} {f : Nat → Nat} (h3 : g + 1 ≤ f 0) (h5 : ∀ i, i < k → f i ≤ f (i + 1)) : ∀ i, i ≤ k → g + 1 ≤ f i
 | 0, _ => h3
 | i + 1, hi => Nat.le_trans (FillO.low (n := n) (er := er) (el := el) (eb := eb) (ei := ei) (w := w) (rs := rs) h3 h5 i (by omega)) (h5 i (by omega))
theorem FillO.step {g n k : Nat} {er el eb ei : TypeId} {w w1 : World} {rs : List Rec} (h : FillO g n k er el eb ei w rs) (hb : Below w.heap.size w w1) (hk : k < n) {vn vt vx vi : Value} (ho : OwnR w.heap.size w1.heap.size el eb ei w1 vn vt vx vi (rs.getD k recZ)) :
  FillO g n (k + 1) er el eb ei (w1.setCells g (k * 7) (cellsR vn vt vx vi (rs.getD k recZ))) rs := by
 have ht := (h.below hb).here hk
 obtain ⟨cur, f, h1, h2, h3, h4, h5⟩ := h
 have u := outside_sets g (cellsR vn vt vx vi (rs.getD k recZ)) (k * 7) w1
 obtain ⟨c', e1, e2⟩ := block_sets (cellsR vn vt vx vi (rs.getD k recZ)) (k * 7) (UE hb h1)
 have hg := VC h1
 have hz := hb.size
 have hu := u.size
 have hlow := FillO.low (n := n) (er := er) (el := el) (eb := eb) (ei := ei) (w := w) (rs := rs) h3 (fun i hi => (h5 i hi).1)
 refine ⟨c', fun i => if i < k then f i else if i = k then w.heap.size else w1.heap.size, e1, by rw [e2, h2], ?_, ?_, fun i hi => ?_⟩
 ·by_cases e : 0 < k
  ·simp only [e, if_true]; exact h3
  ·have : k = 0 := by omega
   subst this
   simp only [Nat.lt_irrefl, if_false, if_true]
   omega
 ·simp only [show ¬ k + 1 < k by omega, show ¬ k + 1 = k by omega, if_false]
  exact hu
 ·by_cases e : i = k
  ·subst e
   simp only [Nat.lt_irrefl, if_false, if_true, show ¬ i + 1 < i by omega, show ¬ i + 1 = i by omega]
   exact ⟨hz, vn, vt, vx, vi, World.rangeAt_setCells_same _ _ _ _ ht, ho.outside u (.inr (by omega))⟩
  ·obtain ⟨q0, xn, xt, xx, xi, q1, q2⟩ := h5 i (by omega)
   have hli := hlow i (by omega)
   have q1' := World.rangeAt_setCells_apart (UW q1 hg hb) g (k * 7) (cellsR vn vt vx vi (rs.getD k recZ)) (.inr (.inl (by show i * 7 + 7 ≤ k * 7; omega)))
   simp only [show i < k by omega, if_true]
   by_cases e' : i + 1 < k
   ·simp only [e', if_true]
    exact ⟨q0, xn, xt, xx, xi, q1', (q2.below hb).outside u (.inr (by omega))⟩
   ·have e2 : i + 1 = k := by omega
    simp only [e2, Nat.lt_irrefl, if_false, if_true]
    rw [e2] at q0 q2
    exact ⟨by omega, xn, xt, xx, xi, q1', (((q2.below hb).outside u (.inr (by omega)))).wide (Nat.le_refl _) h4⟩
theorem FillO.row {g n : Nat} {er el eb ei : TypeId} {w : World} {rs : List Rec} (h : FillO g n n er el eb ei w rs) (hn : rs.length = n) (hm : n ≤ maxLen) : RowO g w.heap.size er el eb ei w (.slice (some ⟨g, 0, none⟩) n n) rs := by
 subst hn
 obtain ⟨cur, f, h1, h2, h3, h4, h5⟩ := h
 have hlow := FillO.low (n := rs.length) (er := er) (el := el) (eb := eb) (ei := ei) (w := w) (rs := rs) h3 (fun i hi => (h5 i hi).1)
 have hup : ∀ d i, i + d = rs.length → f i ≤ f rs.length := by
  intro d
  induction d with
  | zero => intro i hi; rw [show i = rs.length by omega]; exact Nat.le_refl _
  | succ d ih => intro i hi; exact Nat.le_trans (h5 i (by omega)).1 (ih (i + 1) (by omega))
 have hmono : ∀ d i, i + d ≤ rs.length → f i ≤ f (i + d) := by
  intro d
  induction d with
  | zero => intro i hi; exact Nat.le_refl _
  | succ d ih => intro i hi; exact Nat.le_trans (ih i (by omega)) (h5 (i + d) (by omega)).1
 refine ⟨cur.toList, f, fun i => f (i + 1), ⟨by simpa using h2, .inr ⟨g, rs.length, cur, rfl, Nat.le_refl _, h1, Nat.le_refl _, hm, h2, List.take_of_length_le (by rw [Array.length_toList, h2]; exact Nat.le_refl _)⟩⟩, fun q e => ?_, fun i hi => ?_⟩
 ·injection e with e
  subst e
  exact VC h1
 ·obtain ⟨q0, vn, vt, vx, vi, q1, q2⟩ := h5 i hi
  have := hlow i (by omega)
  refine ⟨by omega, Nat.le_trans (hup (rs.length - (i + 1)) (i + 1) (by omega)) h4, fun k hk => ?_, fun q e => ?_, vn, vt, vx, vi, fun j u hj => ?_, q2⟩
  ·have := hmono (i - (k + 1)) (k + 1) (by omega)
   rwa [show k + 1 + (i - (k + 1)) = i by omega] at this
  ·injection e with e
   have e' : g = q := e
   omega
  ·have := q1 j u hj
   rw [VE h1] at this
   simpa using this

/-! Marks in a row. -/
theorem RowO.mark {B E : Nat} {er el eb ei : TypeId} {w w' : World} {v : Value} {rs : List Rec} {m : Nat} {r' : Rec} {f g : Nat → Nat} {xs xs' : List Value} {vn vt vx vi : Value} (hm : m < rs.length)
  (h0 : ∀ q, v.ownBlock = some q → q < E) (hx : ∀ i, i < rs.length → B ≤ f i ∧ g i ≤ E ∧ (∀ k, k < i → g k ≤ f i) ∧ (∀ q, v.ownBlock = some q → q < f i ∨ g i ≤ q) ∧
   ∃ vn vt vx vi, (∀ j u, (cellsR vn vt vx vi (rs.getD i recZ))[j]? = some u → xs[i * 7 + j]? = some u) ∧ OwnR (f i) (g i) el eb ei w vn vt vx vi (rs.getD i recZ))
  (ho : w'.ownsRow B er 7 v rs.length xs') (hxs : ∀ i j, i ≠ m → j < 7 → xs'[i * 7 + j]? = xs[i * 7 + j]?) (hr : ∀ j u, (cellsR vn vt vx vi r')[j]? = some u → xs'[m * 7 + j]? = some u) (hr2 : OwnR (f m) (g m) el eb ei w' vn vt vx vi r')
  (hu : ∀ i, i < rs.length → i ≠ m → ∀ un ut ux ui, OwnR (f i) (g i) el eb ei w un ut ux ui (rs.getD i recZ) → OwnR (f i) (g i) el eb ei w' un ut ux ui (rs.getD i recZ)) : RowO B E er el eb ei w' v (rs.set m r') := by
 refine ⟨xs', f, g, by rw [List.length_set]; exact ho, h0, fun i hi => ?_⟩
 rw [List.length_set] at hi
 obtain ⟨h1, h2, h3, h4, un, ut, ux, ui, q1, q2⟩ := hx i hi
 by_cases e : i = m
 ·subst e
  have e1 : (rs.set i r').getD i recZ = r' := by simp [List.getD, hm]
  rw [e1]
  exact ⟨h1, h2, h3, h4, vn, vt, vx, vi, hr, hr2⟩
 ·have e1 : (rs.set m r').getD i recZ = rs.getD i recZ := by simp [List.getD, List.getElem?_set_ne (Ne.symm e)]
  rw [e1]
  exact ⟨h1, h2, h3, h4, un, ut, ux, ui, fun j u hj => by rw [hxs i j e (cells_lt hj)]; exact q1 j u hj, hu i hi e _ _ _ _ q2⟩
theorem idx_lt {i n j c : Nat} (hi : i < n) (hj : j < c) : i * c + j < n * c := by
 have := Nat.mul_le_mul_right c (show i + 1 ≤ n from hi)
 rw [Nat.add_mul, Nat.one_mul] at this
 omega
theorem idx_le {i k c : Nat} (hi : i < k) : i * c + c ≤ k * c := by
 have := Nat.mul_le_mul_right c (show i + 1 ≤ k from hi)
 rwa [Nat.add_mul, Nat.one_mul] at this

def RowX {α : Type} (c : Nat) (O : Nat → Nat → World → List Value → α → Prop) (d : α) (B E : Nat) (e : TypeId) (w : World) (v : Value) (xs : List α) : Prop :=
 ∃ (cs : List Value) (f g : Nat → Nat), w.ownsRow B e c v xs.length cs ∧ (∀ q, v.ownBlock = some q → q < E) ∧
  ∀ i, i < xs.length → B ≤ f i ∧ g i ≤ E ∧ (∀ k, k < i → g k ≤ f i) ∧ (∀ q, v.ownBlock = some q → q < f i ∨ g i ≤ q) ∧
   ∃ vs, (∀ j u, vs[j]? = some u → cs[i * c + j]? = some u) ∧ O (f i) (g i) w vs (xs.getD i d)
section
variable {α : Type} {c : Nat} {O : Nat → Nat → World → List Value → α → Prop} {d : α} {B E : Nat} {e : TypeId} {w w' : World} {v : Value} {xs : List α}
theorem RowX.nil (w : World) : RowX c O d B E e w (.slice none 0 0) [] :=
 ⟨[], fun _ => 0, fun _ => 0, World.ownsRow_nil _ _ _ _, (fun q hq => by cases hq), fun i hi => absurd hi (by simp)⟩
theorem RowX.has {H : World → List Value → α → Prop} (hO : OwnsG c O) (hE : ∀ {B e : Nat} {w : World} {vs : List Value} {x : α}, O B e w vs x → H w vs x) (h : RowX c O d B E e w v xs) : HasG c H d w v xs := by
 obtain ⟨cs, f, g, ho, _, hx⟩ := h
 have ho' := ho
 rcases ho.2 with ⟨rfl, hn⟩ | ⟨b, cap, cur, rfl, hB, hg, hn, hm, hs, ht⟩
 ·exact .inl ⟨rfl, List.eq_nil_of_length_eq_zero hn⟩
 ·refine .inr ⟨b, 0, cap, rfl, VC hg, hn, hm, fun i hi => ?_⟩
  obtain ⟨_, _, _, _, vs, q1, q2⟩ := hx i hi
  refine ⟨vs, fun j u hj => ?_, hE q2⟩
  have hjc : j < c := by rw [← hO.cells q2]; exact (List.getElem?_eq_some_iff.1 hj).1
  rw [Nat.zero_add, World.ownsRow.cellAt ho' (i * c + j) (idx_lt hi hjc)]
  exact q1 j u hj
theorem RowX.form (h : RowX c O d B E e w v xs) : ∃ a cap, v = .slice a xs.length cap ∧ xs.length ≤ cap ∧ cap ≤ maxLen := by
 obtain ⟨cs, f, g, ho, _, hx⟩ := h
 rcases ho.2 with ⟨rfl, hn⟩ | ⟨b, cap, cur, rfl, hB, hg, hn, hm, hs, ht⟩
 ·have := List.eq_nil_of_length_eq_zero hn
  subst this
  exact ⟨none, 0, rfl, Nat.le_refl _, Nat.zero_le _⟩
 ·exact ⟨_, cap, rfl, hn, hm⟩
theorem RowX.wide {B' E' : Nat} (h : RowX c O d B E e w v xs) (hB : B' ≤ B) (hE : E ≤ E') : RowX c O d B' E' e w v xs := by
 obtain ⟨cs, f, g, ho, hq, hx⟩ := h
 refine ⟨cs, f, g, ?_, fun q e => Nat.lt_of_lt_of_le (hq q e) hE, fun i hi => ?_⟩
 ·refine ⟨ho.1, ?_⟩
  rcases ho.2 with hn | ⟨b, cap, cur, hv, hb, rest⟩
  ·exact .inl hn
  ·exact .inr ⟨b, cap, cur, hv, Nat.le_trans hB hb, rest⟩
 ·obtain ⟨h1, h2, h3⟩ := hx i hi
  exact ⟨Nat.le_trans hB h1, Nat.le_trans h2 hE, h3⟩
theorem RowX.outside (hO : OwnsG c O) {C D : Nat} (h : RowX c O d B E e w v xs) (u : Outside C D w w') (hd : E ≤ C ∨ D ≤ B) : RowX c O d B E e w' v xs := by
 obtain ⟨cs, f, g, ho, hq, hx⟩ := h
 refine ⟨cs, f, g, ownsRow_out ho u (fun q e => ?_), hq, fun i hi => ?_⟩
 ·have h1 := hq q e
  have h2 := (World.ownsRow.lt ho q e).1
  omega
 ·obtain ⟨h1, h2, h3, h4, vs, q1, q2⟩ := hx i hi
  exact ⟨h1, h2, h3, h4, vs, q1, hO.outside q2 u (by omega)⟩
theorem RowX.below (hO : OwnsG c O) (h : RowX c O d B E e w v xs) (hb : Below w.heap.size w w') : RowX c O d B E e w' v xs := by
 obtain ⟨cs, f, g, ho, hq, hx⟩ := h
 refine ⟨cs, f, g, row_later ho hb, hq, fun i hi => ?_⟩
 obtain ⟨h1, h2, h3, h4, vs, q1, q2⟩ := hx i hi
 exact ⟨h1, h2, h3, h4, vs, q1, hO.below q2 hb⟩
theorem ownsRow_atX {m cap n : Nat} {a : Option Addr} {cs : List Value} (h : w.ownsRow B e c (.slice a m cap) n cs) (hn : 0 < n) : ∃ q cur, a = some ⟨q, 0, none⟩ ∧ m = n ∧ B ≤ q ∧ w.heap[q]? = some (.cells cur e) ∧ n ≤ cap ∧ cap ≤ maxLen ∧ cur.size = cap * c ∧ cur.toList.take (n * c) = cs := by
 rcases h.2 with ⟨_, h0⟩ | ⟨q, cap', cur, hv, hB, hg, h1, h2, h3, h4⟩
 ·omega
 ·simp only [Value.slice.injEq] at hv
  obtain ⟨rfl, rfl, rfl⟩ := hv
  exact ⟨q, cur, rfl, rfl, hB, hg, h1, h2, h3, h4⟩
theorem RowX.mark (hO : OwnsG c O) {m : Nat} {x' : α} {f g : Nat → Nat} {cs cs' vs' : List Value} (hm : m < xs.length)
  (h0 : ∀ q, v.ownBlock = some q → q < E) (hx : ∀ i, i < xs.length → B ≤ f i ∧ g i ≤ E ∧ (∀ k, k < i → g k ≤ f i) ∧ (∀ q, v.ownBlock = some q → q < f i ∨ g i ≤ q) ∧
   ∃ vs, (∀ j u, vs[j]? = some u → cs[i * c + j]? = some u) ∧ O (f i) (g i) w vs (xs.getD i d))
  (ho : w'.ownsRow B e c v xs.length cs') (hxs : ∀ i j, i ≠ m → j < c → cs'[i * c + j]? = cs[i * c + j]?) (hr : ∀ j u, vs'[j]? = some u → cs'[m * c + j]? = some u) (hr2 : O (f m) (g m) w' vs' x')
  (hu : ∀ i, i < xs.length → i ≠ m → ∀ vs, O (f i) (g i) w vs (xs.getD i d) → O (f i) (g i) w' vs (xs.getD i d)) : RowX c O d B E e w' v (xs.set m x') := by
 refine ⟨cs', f, g, by rw [List.length_set]; exact ho, h0, fun i hi => ?_⟩
 rw [List.length_set] at hi
 obtain ⟨h1, h2, h3, h4, us, q1, q2⟩ := hx i hi
 by_cases e : i = m
 ·subst e
  have e1 : (xs.set i x').getD i d = x' := by simp [List.getD, hm]
  rw [e1]
  exact ⟨h1, h2, h3, h4, vs', hr, hr2⟩
 ·have e1 : (xs.set m x').getD i d = xs.getD i d := by simp [List.getD, List.getElem?_set_ne (Ne.symm e)]
  rw [e1]
  exact ⟨h1, h2, h3, h4, us, fun j u hj => by rw [hxs i j e (by rw [← hO.cells q2]; exact (List.getElem?_eq_some_iff.1 hj).1)]; exact q1 j u hj, hu i hi e _ q2⟩
end
def FillX {α : Type} (c : Nat) (O : Nat → Nat → World → List Value → α → Prop) (d : α) (g n k : Nat) (e : TypeId) (w : World) (xs : List α) : Prop :=
 ∃ (cur : Array Value) (f : Nat → Nat), w.heap[g]? = some (.cells cur e) ∧ cur.size = n * c ∧ g + 1 ≤ f 0 ∧ f k ≤ w.heap.size ∧
  ∀ i, i < k → f i ≤ f (i + 1) ∧ ∃ vs, w.rangeAt g (i * c) vs ∧ O (f i) (f (i + 1)) w vs (xs.getD i d)
theorem fill_low {g k : Nat} {f : Nat → Nat} (h3 : g + 1 ≤ f 0) (h5 : ∀ i, i < k → f i ≤ f (i + 1)) : ∀ i, i ≤ k → g + 1 ≤ f i
 | 0, _ => h3
 | i + 1, hi => Nat.le_trans (fill_low h3 h5 i (by omega)) (h5 i (by omega))
section
variable {α : Type} {c : Nat} {O : Nat → Nat → World → List Value → α → Prop} {d : α} {g n k : Nat} {e : TypeId} {w w' w1 : World} {xs : List α}
theorem FillX.lt (h : FillX c O d g n k e w xs) : g < w.heap.size := by
 obtain ⟨cur, f, h1, _⟩ := h
 exact VC h1
theorem FillX.here (h : FillX c O d g n k e w xs) (hk : k < n) : w.there g (k * c) c := by
 obtain ⟨cur, f, h1, h2, _⟩ := h
 intro j hj
 refine ⟨?_, VG h1 _⟩
 have := idx_lt hk hj
 rw [VE h1, Array.getElem?_eq_getElem (by omega)]
 rfl
theorem FillX.below (hO : OwnsG c O) (h : FillX c O d g n k e w xs) (hb : Below w.heap.size w w') : FillX c O d g n k e w' xs := by
 obtain ⟨cur, f, h1, h2, h3, h4, h5⟩ := h
 refine ⟨cur, f, UE hb h1, h2, h3, Nat.le_trans h4 hb.size, fun i hi => ?_⟩
 obtain ⟨q0, vs, q1, q2⟩ := h5 i hi
 exact ⟨q0, vs, UW q1 (VC h1) hb, hO.below q2 hb⟩
theorem FillX.step (hO : OwnsG c O) (h : FillX c O d g n k e w xs) (hb : Below w.heap.size w w1) (hk : k < n) {vs : List Value} (ho : O w.heap.size w1.heap.size w1 vs (xs.getD k d)) :
  FillX c O d g n (k + 1) e (w1.setCells g (k * c) vs) xs := by
 have ht := (h.below hO hb).here hk
 have hcl := hO.cells ho
 obtain ⟨cur, f, h1, h2, h3, h4, h5⟩ := h
 have u := outside_sets g vs (k * c) w1
 obtain ⟨c', e1, e2⟩ := block_sets vs (k * c) (UE hb h1)
 have hg := VC h1
 have hz := hb.size
 have hu := u.size
 have hlow := fill_low h3 (fun i hi => (h5 i hi).1)
 refine ⟨c', fun i => if i < k then f i else if i = k then w.heap.size else w1.heap.size, e1, by rw [e2, h2], ?_, ?_, fun i hi => ?_⟩
 ·by_cases e : 0 < k
  ·simp only [e, if_true]; exact h3
  ·have : k = 0 := by omega
   subst this
   simp only [Nat.lt_irrefl, if_false, if_true]
   omega
 ·simp only [show ¬ k + 1 < k by omega, show ¬ k + 1 = k by omega, if_false]
  exact hu
 ·by_cases e : i = k
  ·subst e
   simp only [Nat.lt_irrefl, if_false, if_true, show ¬ i + 1 < i by omega, show ¬ i + 1 = i by omega]
   exact ⟨hz, vs, World.rangeAt_setCells_same _ _ _ _ (by rw [hcl]; exact ht), hO.outside ho u (.inr (by omega))⟩
  ·obtain ⟨q0, us, q1, q2⟩ := h5 i (by omega)
   have hli := hlow i (by omega)
   have q1' := World.rangeAt_setCells_apart (UW q1 hg hb) g (k * c) vs (.inr (.inl (by rw [hO.cells q2]; exact idx_le (by omega))))
   simp only [show i < k by omega, if_true]
   by_cases e' : i + 1 < k
   ·simp only [e', if_true]
    exact ⟨q0, us, q1', hO.outside (hO.below q2 hb) u (.inr (by omega))⟩
   ·have e2 : i + 1 = k := by omega
    simp only [e2, Nat.lt_irrefl, if_false, if_true]
    rw [e2] at q0 q2
    exact ⟨by omega, us, q1', hO.wide (hO.outside (hO.below q2 hb) u (.inr (by omega))) (Nat.le_refl _) h4⟩
theorem FillX.row (hO : OwnsG c O) (h : FillX c O d g n n e w xs) (hn : xs.length = n) (hm : n ≤ maxLen) : RowX c O d g w.heap.size e w (.slice (some ⟨g, 0, none⟩) n n) xs := by
 subst hn
 obtain ⟨cur, f, h1, h2, h3, h4, h5⟩ := h
 have hlow := fill_low h3 (fun i hi => (h5 i hi).1)
 have hup : ∀ d i, i + d = xs.length → f i ≤ f xs.length := by
  intro d
  induction d with
  | zero => intro i hi; rw [show i = xs.length by omega]; exact Nat.le_refl _
  | succ d ih => intro i hi; exact Nat.le_trans (h5 i (by omega)).1 (ih (i + 1) (by omega))
 have hmono : ∀ d i, i + d ≤ xs.length → f i ≤ f (i + d) := by
  intro d
  induction d with
  | zero => intro i hi; exact Nat.le_refl _
  | succ d ih => intro i hi; exact Nat.le_trans (ih i (by omega)) (h5 (i + d) (by omega)).1
 refine ⟨cur.toList, f, fun i => f (i + 1), ⟨by simpa using h2, .inr ⟨g, xs.length, cur, rfl, Nat.le_refl _, h1, Nat.le_refl _, hm, h2, List.take_of_length_le (by rw [Array.length_toList, h2]; exact Nat.le_refl _)⟩⟩, fun q e => ?_, fun i hi => ?_⟩
 ·injection e with e
  subst e
  exact VC h1
 ·obtain ⟨q0, vs, q1, q2⟩ := h5 i hi
  have := hlow i (by omega)
  refine ⟨by omega, Nat.le_trans (hup (xs.length - (i + 1)) (i + 1) (by omega)) h4, fun k hk => ?_, fun q e => ?_, vs, fun j u hj => ?_, q2⟩
  ·have := hmono (i - (k + 1)) (k + 1) (by omega)
   rwa [show k + 1 + (i - (k + 1)) = i by omega] at this
  ·injection e with e
   have e' : g = q := e
   omega
  ·have := q1 j u hj
   rw [VE h1] at this
   simpa using this
end
set_option maxHeartbeats 800000
set_option maxRecDepth 100000

def typeOk (t : Int) : Bool := decide (t = 1 ∨ t = 2 ∨ t = 5 ∨ t = 6 ∨ t = 12 ∨ t = 16 ∨ t = 49)

def kindV (t : Int) : Value := if t = 1 then .iface 132 (.agg #[.int .i64 0]) else if t = 2 ∨ t = 5 ∨ t = 12 then .iface 134 (.agg #[.slice none 0 0]) else if t = 6 then .iface 136 (.agg #[.slice none 0 0, .slice none 0 0]) else if t = 16 ∨ t = 49 then .iface 138 (.agg #[.slice none 0 0]) else .nilIface

theorem type_cases (t : Int) : t = 1 ∨ t = 2 ∨ t = 5 ∨ t = 6 ∨ t = 12 ∨ t = 16 ∨ t = 49 ∨ typeOk t = false := by
 by_cases h : t = 1 ∨ t = 2 ∨ t = 5 ∨ t = 6 ∨ t = 12 ∨ t = 16 ∨ t = 49
 ·omega
 ·have : typeOk t = false := decide_eq_false h
  simp [this]
theorem type_other {t : Int} (h : typeOk t = false) : (t == 1) = false ∧ (t == 2) = false ∧ (t == 5) = false ∧ (t == 6) = false ∧ (t == 12) = false ∧ (t == 16) = false ∧ (t == 49) = false := by
 have h' : ¬ (t = 1 ∨ t = 2 ∨ t = 5 ∨ t = 6 ∨ t = 12 ∨ t = 16 ∨ t = 49) := of_decide_eq_false h
 simp only [beq_eq_false_iff_ne]
 omega
theorem kindV_other {t : Int} (h : typeOk t = false) : kindV t = .nilIface := by
 have h' : ¬ (t = 1 ∨ t = 2 ∨ t = 5 ∨ t = 6 ∨ t = 12 ∨ t = 16 ∨ t = 49) := of_decide_eq_false h
 unfold kindV
 rw [if_neg (by omega), if_neg (by omega), if_neg (by omega), if_neg (by omega)]

theorem kindOf_any (t : Int) (w : World) : Calls Tryz.prog 102 #[.int .i64 t] w fun e w' => e = .returned (kindV t) ∧ w = w' := by
 rcases type_cases t with rfl | rfl | rfl | rfl | rfl | rfl | rfl | h
 iterate 7
  ·go_enter Tryz.func102, Tryz.ntmps102
   go_wp2
   go_ret
   exact ⟨rfl, rfl⟩
 ·obtain ⟨h1, h2, h3, h4, h5, h6, h7⟩ := type_other h
  rw [kindV_other h]
  go_enter Tryz.func102, Tryz.ntmps102
  go_wp2
  go_ret
  exact ⟨rfl, rfl⟩

theorem specTypeOk_any (t : Int) (w : World) : Calls Tryz.prog 61 #[.int .i64 t] w fun e w' => e = .returned (.bool (typeOk t)) ∧ w = w' := by
 rcases type_cases t with rfl | rfl | rfl | rfl | rfl | rfl | rfl | h
 iterate 7
  ·go_enter Tryz.func61, Tryz.ntmps61
   go_wp2
   go_ret
   exact ⟨rfl, rfl⟩
 ·obtain ⟨h1, h2, h3, h4, h5, h6, h7⟩ := type_other h
  rw [h]
  go_enter Tryz.func61, Tryz.ntmps61
  go_wp2
  go_ret
  exact ⟨rfl, rfl⟩

theorem implTypeOk_any (t : Int) (w : World) : Calls Tryz.prog 98 #[.int .i64 t] w fun e w' => e = .returned (.bool (typeOk t)) ∧ w = w' := by
 have hk : (kindV t = .nilIface ∧ typeOk t = false) ∨ ∃ ty v, kindV t = .iface ty v ∧ typeOk t = true := by
  rcases type_cases t with rfl | rfl | rfl | rfl | rfl | rfl | rfl | h
  iterate 7 exact .inr ⟨_, _, rfl, rfl⟩
  exact .inl ⟨kindV_other h, h⟩
 go_enter Tryz.func98, Tryz.ntmps98
 go_wp2_with fail
 refine (kindOf_any t _).mono ?_
 rintro e w1 ⟨rfl, rfl⟩
 rcases hk with ⟨h1, h2⟩ | ⟨ty, v, h1, h2⟩
 ·rw [h1]
  go_wp2
  go_ret
  exact ⟨by rw [h2]; rfl, rfl⟩
 ·rw [h1]
  go_wp2
  go_ret
  exact ⟨by rw [h2]; rfl, rfl⟩
end Go.Proofs.YtbabmdiklefgcaaGreatDoor

namespace Go.Proofs.YtbabmdiklefgcaaGreatDoor
open Go.RowKit

def named (t : Int) : Bool := decide (t = 2 ∨ t = 5 ∨ t = 6 ∨ t = 12)
def texted (t : Int) : Bool := decide (t = 16 ∨ t = 49)

def dataOk (r : Rec) : Bool :=
 (if r.type = 1 then decide (0 ≤ r.addr ∧ r.addr ≤ 4294967295) else decide (r.addr = 0)) && ((if named r.type = true then nameOk r.to else decide (r.to.length = 0)) && ((if texted r.type = true then decide (r.text.length ≤ 40) else decide (r.text.length = 0)) &&
 (if r.type = 6 then decide (r.nums.length = 2 ∧ 0 ≤ r.nums.getD 0 0 ∧ r.nums.getD 0 0 ≤ 4294967295 ∧ 0 ≤ r.nums.getD 1 0 ∧ r.nums.getD 1 0 ≤ 100000) else decide (r.nums.length = 0))))
def rrOk (r : Rec) : Bool := nameOk r.name && (typeOk r.type && (decide (0 ≤ r.ttl ∧ r.ttl ≤ 100000) && dataOk r))

theorem HasI.two {w : World} {v : Value} {x y : Int} (h : HasI w v [x, y]) : ∃ g off cap, v = .slice (some ⟨g, off, none⟩) 2 cap ∧ g < w.heap.size ∧ w.cell? ⟨g, off, none⟩ = some (.int .i64 x) ∧ w.cell? ⟨g, off + 1, none⟩ = some (.int .i64 y) := by
 rcases h with ⟨_, h⟩ | ⟨g, off, cap, hv, hlt, _, _, hc⟩
 ·cases h
 ·exact ⟨g, off, cap, hv, hlt, hc 0 (by simp), hc 1 (by simp)⟩
theorem two_of {l : List Int} (h : l.length = 2) : ∃ x y, l = [x, y] := by
 match l, h with
 | [x, y], _ => exact ⟨x, y, rfl⟩
theorem nil_of {α : Type} {l : List α} (h : l.length = 0) : l = [] := List.eq_nil_of_length_eq_zero h
end Go.Proofs.YtbabmdiklefgcaaGreatDoor
