/-
  Plain facts: two labels of constant texts behind a row of own ones. No program is named here. Plain facts on slices of numbers (int): one that reads as a list, one that owns its row. As for bytes. No program is named here.
-/
import Derived.Test.YtkmjghecjlgjpaaDoorFnReverseG08
import Derived.Test.YtkmjghecjlgjpaaDoorFnReverseG06
import Derived.Test.YtkmjghecjlgjpaaDoorFnReverseG07
namespace Go.Proofs.YtkmjghecjlgjpaaDoor
open Go.RowKit
set_option linter.unusedVariables false

theorem OwnF.rowApart {B n : Nat} {el eb : TypeId} {w : World} {v x : Value} {xs : List Value} {l : List Int} (h : OwnF B eb w x l) (hr : w.ownsRow B el 1 v n xs) (hne : el ≠ eb) : x.ownBlock = none ∨ x.ownBlock ≠ v.ownBlock := by
  cases hx : x.ownBlock with
  | none => exact .inl rfl
  | some q =>
    right
    intro e
    obtain ⟨c, fz, hq⟩ := h.typed hx
    rcases hr.2 with ⟨rfl, _⟩ | ⟨g, cap, cur, rfl, _, hg, _⟩
    · simp [Value.ownBlock] at e
    · simp [Value.ownBlock] at e
      subst e
      rw [hg] at hq
      simp only [Option.some.injEq, Obj.cells.injEq] at hq
      exact hne hq.2.1
theorem rev_row {B : Nat} {el eb : TypeId} {W w' : World} {v v' u1 u2 : Value} {n : List (List Int)} {l1 l2 : List Int} {vs : List Value} (hvs : W.ownsRow B el 1 v n.length vs)
    (hva : ∀ i, i < n.length → ∃ x, vs[i]? = some x ∧ Own B eb W x (n.getD i [])) (hvd : ∀ (i j : Nat) (x x' : Value), i < j → vs[i]? = some x → vs[j]? = some x' → x.ownBlock = none ∨ x.ownBlock ≠ x'.ownBlock)
    (c1 : OwnC B eb W u1 l1) (c2 : OwnC B eb W u2 l2) (h12 : u1.ownBlock ≠ u2.ownBlock) (hn1 : ∀ (i : Nat) (x : Value), vs[i]? = some x → x.ownBlock = none ∨ x.ownBlock ≠ u1.ownBlock) (hn2 : ∀ (i : Nat) (x : Value), vs[i]? = some x → x.ownBlock = none ∨ x.ownBlock ≠ u2.ownBlock)
    (ho' : w'.ownsRow B el 1 v' (n.length + 2) (vs ++ [u1, u2])) (hg : W.grownBy w' v.ownBlock) (hne : el ≠ eb) : OwnNF B w'.heap.size el eb w' v' (n ++ [l1, l2]) := by
  have hl : vs.length = n.length := by have := hvs.1; simpa using this
  have key : ∀ i, i < (n ++ [l1, l2]).length → ∃ u, (vs ++ [u1, u2])[i]? = some u ∧ OwnF B eb w' u ((n ++ [l1, l2]).getD i []) := by
    intro i hi
    simp only [List.length_append, List.length_cons, List.length_nil] at hi
    by_cases h : i < n.length
    · obtain ⟨x, h1, h2⟩ := hva i h
      refine ⟨x, by rw [List.getElem?_append_left (by omega)]; exact h1, ?_⟩
      rw [show (n ++ [l1, l2]).getD i [] = n.getD i [] by simp [List.getElem?_append_left h]]
      have hf : OwnF B eb W x (n.getD i []) := .inl h2
      exact hf.kept hg (hf.rowApart hvs hne)
    · rcases (show i = n.length ∨ i = n.length + 1 by omega) with rfl | rfl
      · refine ⟨u1, by rw [← hl]; simp, ?_⟩
        rw [show (n ++ [l1, l2]).getD n.length [] = l1 by simp]
        have hf : OwnF B eb W u1 l1 := .inr c1
        exact hf.kept hg (hf.rowApart hvs hne)
      · refine ⟨u2, by rw [← hl]; simp, ?_⟩
        rw [show (n ++ [l1, l2]).getD (n.length + 1) [] = l2 by simp]
        have hf : OwnF B eb W u2 l2 := .inr c2
        exact hf.kept hg (hf.rowApart hvs hne)
  have at_ : ∀ (i : Nat) (x : Value), (vs ++ [u1, u2])[i]? = some x → (i < n.length ∧ vs[i]? = some x) ∨ (i = n.length ∧ x = u1) ∨ (i = n.length + 1 ∧ x = u2) := by
    intro i x hx
    by_cases h : i < vs.length
    · rw [List.getElem?_append_left h] at hx
      exact .inl ⟨by omega, hx⟩
    · rw [List.getElem?_append_right (by omega)] at hx
      rcases hk : i - vs.length with _ | _ | k
      · rw [hk] at hx; simp at hx; exact .inr (.inl ⟨by omega, hx.symm⟩)
      · rw [hk] at hx; simp at hx; exact .inr (.inr ⟨by omega, hx.symm⟩)
      · rw [hk] at hx; simp at hx
  have hsz := hg.size
  refine ⟨vs ++ [u1, u2], by rw [show (n ++ [l1, l2]).length = n.length + 2 by simp]; exact ho', key, ?_, fun q hq => (ho'.lt q hq).2, fun i u q hu hq => ?_⟩
  · intro i j x x' hij hx hx'
    rcases at_ i x hx with ⟨a1, a2⟩ | ⟨a1, rfl⟩ | ⟨a1, rfl⟩ <;> rcases at_ j x' hx' with ⟨b1, b2⟩ | ⟨b1, rfl⟩ | ⟨b1, rfl⟩
    · exact hvd i j x x' hij a2 b2
    · exact hn1 i x a2
    · exact hn2 i x a2
    · omega
    · omega
    · exact .inr h12
    · omega
    · omega
    · omega
  · have hi := (List.getElem?_eq_some_iff.1 hu).1
    obtain ⟨u', h1, h2⟩ := key i (by simp only [List.length_append, List.length_cons, List.length_nil] at hi ⊢; omega)
    rw [hu] at h1
    obtain rfl := Option.some.inj h1
    exact (h2.lt q hq).2
theorem OwnC.below {B : Nat} {e : TypeId} {w w' : World} {v : Value} {l : List Int} (h : OwnC B e w v l) (hb : Below w.heap.size w w') : OwnC B e w' v l := by
  obtain ⟨g, h0, h1, h2, h3⟩ := h
  exact ⟨g, h0, h1, (hb.block g (fz_lt h2)).trans h2, h3⟩
theorem own_constC (w : World) (B : Nat) (e : TypeId) (l : List Int) (hB : B ≤ w.heap.size) (hm : l.length ≤ maxLen) : OwnC B e (w.alloc (.cells (l.map (Value.int .u8)).toArray e (l.length, l.length + 1))) (.slice (some ⟨w.heap.size, 0, none⟩) l.length l.length) l :=
  ⟨w.heap.size, rfl, hB, by show (w.heap.push _)[w.heap.size]? = _; simp, hm⟩
theorem grown_low {B C D : Nat} {w w' : World} (u : Outside C D w w') (hD : D ≤ B) {v : Value} (hv : ∀ q, v.ownBlock = some q → B ≤ q ∧ q < w.heap.size) : ∀ q, v.ownBlock = some q → w'.heap[q]? = w.heap[q]? := fun q hq => u.block q (hv q hq).2 (.inr (by have := (hv q hq).1; omega))
theorem OwnF.outside {B C D : Nat} {e : TypeId} {w w' : World} {v : Value} {l : List Int} (h : OwnF B e w v l) (u : Outside C D w w') (hD : D ≤ B) : OwnF B e w' v l := by
  have hk := grown_low u hD h.lt
  rcases h with h | ⟨g, rfl, h1, h2, h3⟩
  · refine .inl ⟨h.1, ?_⟩
    rcases h.2 with h2 | ⟨g, cap, c, rfl, h4, h5, h6⟩
    · exact .inl h2
    · exact .inr ⟨g, cap, c, rfl, h4, (hk g rfl).trans h5, h6⟩
  · exact .inr ⟨g, rfl, h1, (hk g rfl).trans h2, h3⟩
theorem OwnNF.outside {B E C D : Nat} {el eb : TypeId} {w w' : World} {v : Value} {n : List (List Int)} (h : OwnNF B E el eb w v n) (u : Outside C D w w') (hD : D ≤ B) : OwnNF B E el eb w' v n := by
  obtain ⟨vs, ho, hu, hd, hv, he⟩ := h
  have hk := grown_low u hD ho.lt
  refine ⟨vs, ⟨ho.1, ?_⟩, fun i hi => ?_, hd, hv, he⟩
  · rcases ho.2 with h2 | ⟨g, cap, c, rfl, h4, h5, h6⟩
    · exact .inl h2
    · exact .inr ⟨g, cap, c, rfl, h4, (hk g rfl).trans h5, h6⟩
  · obtain ⟨x, h1, h2⟩ := hu i hi
    exact ⟨x, h1, h2.outside u hD⟩
theorem OwnNF.wide {B E B' E' : Nat} {el eb : TypeId} {w : World} {v : Value} {n : List (List Int)} (h : OwnNF B E el eb w v n) (hB : B' ≤ B) (hE : E ≤ E') : OwnNF B' E' el eb w v n := by
  obtain ⟨vs, ho, hu, hd, hv, he⟩ := h
  refine ⟨vs, ⟨ho.1, by
    rcases ho.2 with h2 | ⟨g, cap, c, h3, h4, h5⟩
    · exact .inl h2
    · exact .inr ⟨g, cap, c, h3, by omega, h5⟩⟩, fun i hi => ?_, hd, fun q hq => Nat.lt_of_lt_of_le (hv q hq) hE, fun i u q h1 h2 => Nat.lt_of_lt_of_le (he i u q h1 h2) hE⟩
  obtain ⟨x, h1, h2⟩ := hu i hi
  exact ⟨x, h1, h2.mono hB⟩
theorem ownNF_nil (B E : Nat) (el eb : TypeId) (w : World) : OwnNF B E el eb w (.slice none 0 0) [] := ⟨[], World.ownsRow_nil _ _ _ _, (fun i hi => absurd hi (by simp)), by simp, (fun q hq => by cases hq), by simp⟩
end Go.Proofs.YtkmjghecjlgjpaaDoor

namespace Go.Proofs.YtkmjghecjlgjpaaDoor
open Go.RowKit

def LiesI (w : World) (a : Option Addr) (l : List Int) : Prop :=
  l = [] ∨ ∃ b off, a = some ⟨b, off, none⟩ ∧ b < w.heap.size ∧ ∀ i, i < l.length → w.cell? ⟨b, off + i, none⟩ = some (.int .i64 (l.getD i 0))

def OwnI (B : Nat) (e : TypeId) (w : World) (v : Value) (l : List Int) : Prop := w.ownsRow B e 1 v l.length (l.map (Value.int .i64))

theorem LiesI.below {w w' : World} {a : Option Addr} {l : List Int} (h : LiesI w a l) (hb : Below w.heap.size w w') : LiesI w' a l := by
  rcases h with rfl | ⟨b, off, rfl, hlt, hc⟩
  · exact .inl rfl
  · exact .inr ⟨b, off, rfl, Nat.lt_of_lt_of_le hlt hb.size, fun i hi => (hb.cell (p := ⟨b, off + i, none⟩) hlt).trans (hc i hi)⟩

theorem LiesI.cell {w w' : World} {a : Option Addr} {l : List Int} (h : LiesI w a l) (hb : Below w.heap.size w w') {k : Nat} (hk : k < l.length) :
    ∃ b off, a = some ⟨b, off, none⟩ ∧ b < w.heap.size ∧ w'.cell? ⟨b, off + k, none⟩ = some (.int .i64 (l.getD k 0)) := by
  rcases h with rfl | ⟨b, off, rfl, hlt, hc⟩
  · simp at hk
  · exact ⟨b, off, rfl, hlt, (hb.cell (p := ⟨b, off + k, none⟩) hlt).trans (hc k hk)⟩

theorem LiesI.here {w : World} {a : Option Addr} {l : List Int} (h : LiesI w a l) {k : Nat} (hk : k < l.length) :
    ∃ b off, a = some ⟨b, off, none⟩ ∧ b < w.heap.size ∧ w.cell? ⟨b, off + k, none⟩ = some (.int .i64 (l.getD k 0)) := h.cell (Below.refl _ _) hk

theorem map_atI (l : List Int) (j : Nat) (hj : j < l.length) : (l.map (Value.int .i64))[j]? = some (.int .i64 (l.getD j 0)) := by
  simp [hj]

section
variable {B : Nat} {e : TypeId} {w w' : World} {v : Value} {l : List Int}

theorem OwnI.form (h : OwnI B e w v l) : (v = .slice none 0 0 ∧ l = []) ∨
    ∃ g cap, v = .slice (some ⟨g, 0, none⟩) l.length cap ∧ B ≤ g ∧ g < w.heap.size ∧ l.length ≤ cap ∧ cap ≤ maxLen ∧
      (∀ i, i < l.length → w.cell? ⟨g, i, none⟩ = some (.int .i64 (l.getD i 0))) ∧ ∀ i, w.frozen? ⟨g, i, none⟩ = false := by
  have h' := h
  rcases h.2 with ⟨rfl, hn⟩ | ⟨g, cap, cur, rfl, hb, hg, hn, hm, hs, ht⟩
  · exact .inl ⟨rfl, List.eq_nil_of_length_eq_zero hn⟩
  · refine .inr ⟨g, cap, rfl, hb, (h'.lt g rfl).2, hn, hm, fun i hi => ?_, fun i => World.ownsRow.frozenAt h' i⟩
    rw [World.ownsRow.cellAt h' i (by omega), map_atI l i hi]

theorem OwnI.lies (h : OwnI B e w v l) : ∃ a cap, v = .slice a l.length cap ∧ LiesI w a l := by
  rcases h.form with ⟨rfl, rfl⟩ | ⟨g, cap, rfl, _, hlt, _, _, hc, _⟩
  · exact ⟨none, 0, rfl, .inl rfl⟩
  · exact ⟨_, cap, rfl, .inr ⟨g, 0, rfl, hlt, fun i hi => by simpa using hc i hi⟩⟩

theorem OwnI.mono {B' : Nat} (h : OwnI B e w v l) (hB : B' ≤ B) : OwnI B' e w v l := by
  refine ⟨h.1, ?_⟩
  rcases h.2 with hn | ⟨g, cap, cur, hv, hb, rest⟩
  · exact .inl hn
  · exact .inr ⟨g, cap, cur, hv, Nat.le_trans hB hb, rest⟩

theorem OwnI.lt (h : OwnI B e w v l) : ∀ k, v.ownBlock = some k → B ≤ k ∧ k < w.heap.size := World.ownsRow.lt h

theorem OwnI.kept {row : Option Nat} (h : OwnI B e w v l) (hg : w.grownBy w' row) (hne : v.ownBlock = none ∨ v.ownBlock ≠ row) : OwnI B e w' v l := World.ownsRow.kept h hg hne

theorem OwnI.below (h : OwnI B e w v l) (hb : Below w.heap.size w w') : OwnI B e w' v l := by
  refine h.kept (grown_of_below hb) ?_
  cases hv : v.ownBlock with
  | none => exact .inl rfl
  | some k => exact .inr (by simp)

theorem OwnI.ofRow {g : Nat} (h : w.rowIs g e l.length (fun i => .int .i64 (l.getD i 0))) (hB : B ≤ g) (hm : l.length ≤ maxLen) : OwnI B e w (.slice (some ⟨g, 0, none⟩) l.length l.length) l := by
  obtain ⟨c, hb, hn, hc⟩ := h
  refine ⟨by simp, .inr ⟨g, l.length, c, rfl, hB, hb, Nat.le_refl _, hm, by omega, ?_⟩⟩
  apply List.ext_getElem?
  intro j
  by_cases hj : j < l.length
  · rw [map_atI l j hj, List.getElem?_take, if_pos (by omega), Array.getElem?_toList, hc j hj]
  · rw [List.getElem?_take, if_neg (by omega), List.getElem?_eq_none (by simpa using hj)]

end

def marksI (k : Int) (n : Nat) : List Int := (List.range n).map fun (j : Nat) => (k + j)

def markedI (l : List Int) (k : Int) (m : Nat) : List Int := (List.range l.length).map fun (j : Nat) => if j < m then (k + j) else l.getD j 0

theorem marks_lengthI (k : Int) (n : Nat) : (marksI k n).length = n := by simp [marksI]

theorem marked_lengthI (l : List Int) (k : Int) (m : Nat) : (markedI l k m).length = l.length := by simp [markedI]

theorem marks_getDI (k : Int) (n i : Nat) (h : i < n) : (marksI k n).getD i 0 = (k + i) := by simp [marksI, h]

theorem marked_zeroI (l : List Int) (k : Int) : markedI l k 0 = l := by
  apply List.ext_getElem?
  intro j
  by_cases hj : j < l.length <;> simp [markedI, hj]

theorem marked_allI (l : List Int) (k : Int) : markedI l k l.length = marksI k l.length := by
  unfold markedI marksI
  apply List.map_congr_left
  intro j hj
  simp at hj
  simp [hj]

theorem marked_succI (l : List Int) (k : Int) (m : Nat) : (markedI l k m).set m (k + m) = markedI l k (m + 1) := by
  apply List.ext_getElem?
  intro j
  rw [List.getElem?_set]
  by_cases hj : j < l.length
  · by_cases e : m = j
    · subst e; simp [markedI, hj]
    · have : j < m + 1 ↔ j < m := by omega
      simp [markedI, hj, e, this]
  · simp [markedI, hj]
    omega

theorem OwnI.alloc {B : Nat} {e : TypeId} {w : World} {v : Value} {l : List Int} (h : OwnI B e w v l) (o : Obj) : OwnI B e (w.alloc o) v l := World.ownsRow.alloc h o

def HasI (w : World) (v : Value) (l : List Int) : Prop :=
  (v = .slice none 0 0 ∧ l = []) ∨ ∃ g off cap, v = .slice (some ⟨g, off, none⟩) l.length cap ∧ g < w.heap.size ∧ l.length ≤ cap ∧ cap ≤ maxLen ∧ ∀ i, i < l.length → w.cell? ⟨g, off + i, none⟩ = some (.int .i64 (l.getD i 0))

theorem OwnI.has {B : Nat} {e : TypeId} {w : World} {v : Value} {l : List Int} (h : OwnI B e w v l) : HasI w v l := by
  rcases h.form with h | ⟨g, cap, hv, _, hlt, hl, hm, hc, _⟩
  · exact .inl h
  · exact .inr ⟨g, 0, cap, hv, hlt, hl, hm, fun i hi => by rw [Nat.zero_add]; exact hc i hi⟩

theorem HasI.below {w w' : World} {v : Value} {l : List Int} (h : HasI w v l) (hb : Below w.heap.size w w') : HasI w' v l := by
  rcases h with h | ⟨g, off, cap, hv, hlt, hl, hm, hc⟩
  · exact .inl h
  · exact .inr ⟨g, off, cap, hv, Nat.lt_of_lt_of_le hlt hb.size, hl, hm, fun i hi => (hb.cell (p := ⟨g, off + i, none⟩) hlt).trans (hc i hi)⟩

theorem HasI.form {w : World} {v : Value} {l : List Int} (h : HasI w v l) : ∃ a cap, v = .slice a l.length cap ∧ LiesI w a l := by
  rcases h with ⟨rfl, rfl⟩ | ⟨g, off, cap, rfl, hlt, _, _, hc⟩
  · exact ⟨none, 0, rfl, .inl rfl⟩
  · exact ⟨_, cap, rfl, .inr ⟨g, off, rfl, hlt, hc⟩⟩

theorem isRow_liesI {w : World} {a : Option Addr} {len cap : Nat} {zs : List Int} (h : IsRow .i64 w a len cap zs) : ∃ l : List Int, l.length = len ∧ len ≤ maxLen ∧ LiesI w a l := by
  rcases h with ⟨rfl, rfl, rfl, rfl⟩ | ⟨x, rfl, hl, hm, hz, hcell, hwf⟩
  · exact ⟨[], rfl, Nat.zero_le _, .inl rfl⟩
  · refine ⟨zs.take len, by simp; omega, by omega, ?_⟩
    by_cases h0 : len = 0
    · subst h0; exact .inl (by simp)
    · right
      obtain ⟨b, off, spot⟩ := x
      have hc := hcell 0 (by omega)
      have hspot : spot = none := by simpa [Addr.add] using World.cell?_spot hc
      subst hspot
      refine ⟨b, off, rfl, cell_lt hc, fun i hi => ?_⟩
      simp at hi
      have hci := hcell i (by omega)
      rw [Addr.add_lit] at hci
      rw [hci, List.getD_eq_getElem?_getD, List.getD_eq_getElem?_getD, List.getElem?_take, if_pos (by omega)]
/-- As OwnI, its block ahead of E. -/
def OwnBI (C E : Nat) (e : TypeId) (w : World) (v : Value) (l : List Int) : Prop := OwnI C e w v l ∧ ∀ q, v.ownBlock = some q → q < E
theorem OwnI.here {C : Nat} {e : TypeId} {w : World} {v : Value} {l : List Int} (h : OwnI C e w v l) : OwnBI C w.heap.size e w v l := ⟨h, fun q hq => (h.lt q hq).2⟩
theorem OwnBI.has {C E : Nat} {e : TypeId} {w : World} {v : Value} {l : List Int} (h : OwnBI C E e w v l) : HasI w v l := h.1.has
theorem OwnBI.below {C E : Nat} {e : TypeId} {w w' : World} {v : Value} {l : List Int} (h : OwnBI C E e w v l) (hb : Below w.heap.size w w') : OwnBI C E e w' v l := ⟨h.1.below hb, h.2⟩
theorem OwnBI.outside {C E B D : Nat} {e : TypeId} {w w' : World} {v : Value} {l : List Int} (h : OwnBI C E e w v l) (u : Outside B D w w') (hd : E ≤ B ∨ D ≤ C) : OwnBI C E e w' v l :=
  ⟨ownsRow_outside h.1 u (fun q hq => by have h1 := (h.1.lt q hq).1; have h2 := h.2 q hq; omega), h.2⟩
theorem OwnBI.marks {C E : Nat} {e : TypeId} {w w' : World} {v : Value} {l l' : List Int} (h : OwnBI C E e w v l) (h' : OwnI C e w' v l') (g : w.grownBy w' v.ownBlock) : OwnBI C E e w' v l' ∧ Outside C E w w' :=
  ⟨⟨h', h.2⟩, outside_grown g (fun q hq => ⟨(h.1.lt q hq).1, h.2 q hq⟩)⟩
end Go.Proofs.YtkmjghecjlgjpaaDoor
