/-
  Plain facts: a row of records that a slice owns, whose lists are owned wherever they lie. No program is named here. Plain facts: one cell of an own row is turned; records whose times are not above what is left. No program is named here. Plain facts: what a slot of each kind holds. No program is named here. Plain facts: rows of names. No program is named here. Plain facts: the names of a cache's slots, each once. No program is named here. Plain facts: a cache at a later moment: which slots are left. No program is named here. Plain facts: what CacheGet answers.
-/
import Derived.Test.YtaehfeobfkaicaaGreatCacheGetG04
import Derived.Test.YtaehfeobfkaicaaGreatCacheGetG08
import Derived.Test.YtaehfeobfkaicaaGreatCacheGetG05
import Derived.Test.YtaehfeobfkaicaaGreatCacheGetG06
import Derived.Test.YtaehfeobfkaicaaGreatCacheGetG11
import Derived.Test.YtaehfeobfkaicaaGreatCacheGetG12
import Derived.Test.YtaehfeobfkaicaaGreatCacheGetG13
namespace Go.Proofs.YtaehfeobfkaicaaGreat
open Go.RowKit
set_option linter.unusedVariables false

structure OwnQ (B : Nat) (el eb ei : TypeId) (w : World) (vn vt vx vi : Value) (r : Rec) : Prop where
  name : OwnL B el eb w vn r.name
  to : OwnL B el eb w vt r.to
  text : Own B eb w vx r.text
  nums : OwnI B ei w vi r.nums
theorem OwnQ.hasR {B : Nat} {el eb ei : TypeId} {w : World} {vn vt vx vi : Value} {r : Rec} (h : OwnQ B el eb ei w vn vt vx vi r) : HasR w vn vt vx vi r := ⟨h.name.hasL, h.to.hasL, h.text.has, h.nums.has⟩
theorem OwnQ.below {B : Nat} {el eb ei : TypeId} {w w' : World} {vn vt vx vi : Value} {r : Rec} (h : OwnQ B el eb ei w vn vt vx vi r) (hb : Below w.heap.size w w') : OwnQ B el eb ei w' vn vt vx vi r := ⟨h.name.below hb, h.to.below hb, h.text.below hb, h.nums.below hb⟩
theorem OwnQ.mono {B B' : Nat} {el eb ei : TypeId} {w : World} {vn vt vx vi : Value} {r : Rec} (h : OwnQ B el eb ei w vn vt vx vi r) (hB : B' ≤ B) : OwnQ B' el eb ei w vn vt vx vi r := ⟨h.name.mono hB, h.to.mono hB, h.text.mono hB, h.nums.mono hB⟩
theorem ownsRow_off {B n s : Nat} {e : TypeId} {w w' : World} {v : Value} {xs : List Value} {row : Option Nat} (h : w.ownsRow B e s v n xs) (hg : w.grownBy w' row) (hr : ∀ q, row = some q → ∃ c t, w.heap[q]? = some (.cells c t) ∧ t ≠ e) : w'.ownsRow B e s v n xs := by
  refine World.ownsRow.kept h hg ?_
  cases hv : v.ownBlock with
  | none => exact .inl rfl
  | some k =>
    right
    intro e1
    obtain ⟨c, t, h1, h2⟩ := hr k e1.symm
    rcases h.2 with ⟨rfl, _⟩ | ⟨g, cap, cur, rfl, _, hg', _⟩
    · simp [Value.ownBlock] at hv
    · simp [Value.ownBlock] at hv
      subst hv
      rw [hg'] at h1
      cases h1
      exact h2 rfl
theorem OwnL.offR {B : Nat} {el eb : TypeId} {w w' : World} {v : Value} {n : List (List Int)} {row : Option Nat} (h : OwnL B el eb w v n) (hg : w.grownBy w' row) (hr : ∀ q, row = some q → ∃ c t, w.heap[q]? = some (.cells c t) ∧ t ≠ el ∧ t ≠ eb) : OwnL B el eb w' v n := by
  obtain ⟨vs, ho, hu, hd⟩ := h
  refine ⟨vs, ownsRow_off ho hg (fun q e => by obtain ⟨c, t, h1, h2, h3⟩ := hr q e; exact ⟨c, t, h1, h2⟩), fun i hi => ?_, hd⟩
  obtain ⟨x, h1, h2⟩ := hu i hi
  exact ⟨x, h1, ownsRow_off h2 hg (fun q e => by obtain ⟨c, t, h1, h2, h3⟩ := hr q e; exact ⟨c, t, h1, h3⟩)⟩
theorem OwnQ.offR {B : Nat} {el eb ei : TypeId} {w w' : World} {vn vt vx vi : Value} {r : Rec} {row : Option Nat} (h : OwnQ B el eb ei w vn vt vx vi r) (hg : w.grownBy w' row) (hr : ∀ q, row = some q → ∃ c t, w.heap[q]? = some (.cells c t) ∧ t ≠ el ∧ t ≠ eb ∧ t ≠ ei) : OwnQ B el eb ei w' vn vt vx vi r :=
  ⟨h.name.offR hg (fun q e => by obtain ⟨c, t, h1, h2, h3, h4⟩ := hr q e; exact ⟨c, t, h1, h2, h3⟩), h.to.offR hg (fun q e => by obtain ⟨c, t, h1, h2, h3, h4⟩ := hr q e; exact ⟨c, t, h1, h2, h3⟩),
   ownsRow_off h.text hg (fun q e => by obtain ⟨c, t, h1, h2, h3, h4⟩ := hr q e; exact ⟨c, t, h1, h3⟩), ownsRow_off h.nums hg (fun q e => by obtain ⟨c, t, h1, h2, h3, h4⟩ := hr q e; exact ⟨c, t, h1, h4⟩)⟩

def RowQ (B : Nat) (er el eb ei : TypeId) (w : World) (v : Value) (rs : List Rec) : Prop :=
  ∃ xs, w.ownsRow B er 7 v rs.length xs ∧ ∀ i, i < rs.length → ∃ vn vt vx vi, (∀ j u, (cellsR vn vt vx vi (rs.getD i recZ))[j]? = some u → xs[i * 7 + j]? = some u) ∧ OwnQ B el eb ei w vn vt vx vi (rs.getD i recZ)
theorem RowQ.nil (B : Nat) (er el eb ei : TypeId) (w : World) : RowQ B er el eb ei w (.slice none 0 0) [] := ⟨[], World.ownsRow_nil _ _ _ _, fun i hi => absurd hi (by simp)⟩
theorem RowQ.has {B : Nat} {er el eb ei : TypeId} {w : World} {v : Value} {rs : List Rec} (h : RowQ B er el eb ei w v rs) : HasRs w v rs := by
  obtain ⟨xs, ho, hx⟩ := h
  have ho' := ho
  rcases ho.2 with ⟨rfl, hn⟩ | ⟨b, cap, cur, rfl, hB, hg, hn, hm, hs, ht⟩
  · exact .inl ⟨rfl, List.eq_nil_of_length_eq_zero hn⟩
  · refine .inr ⟨b, 0, cap, rfl, VC hg, hn, hm, fun i hi => ?_⟩
    obtain ⟨vn, vt, vx, vi, q1, q2⟩ := hx i hi
    refine ⟨vn, vt, vx, vi, fun j u hj => ?_, q2.hasR⟩
    have hj7 := cells_lt hj
    rw [Nat.zero_add, World.ownsRow.cellAt ho' (i * 7 + j) (by omega)]
    exact q1 j u hj
theorem RowQ.form {B : Nat} {er el eb ei : TypeId} {w : World} {v : Value} {rs : List Rec} (h : RowQ B er el eb ei w v rs) : ∃ a cap, v = .slice a rs.length cap ∧ rs.length ≤ cap ∧ cap ≤ maxLen := h.has.form
theorem RowQ.below {B : Nat} {er el eb ei : TypeId} {w w' : World} {v : Value} {rs : List Rec} (h : RowQ B er el eb ei w v rs) (hb : Below w.heap.size w w') : RowQ B er el eb ei w' v rs := by
  obtain ⟨xs, ho, hx⟩ := h
  refine ⟨xs, row_later ho hb, fun i hi => ?_⟩
  obtain ⟨vn, vt, vx, vi, q1, q2⟩ := hx i hi
  exact ⟨vn, vt, vx, vi, q1, q2.below hb⟩
theorem RowQ.mono {B B' : Nat} {er el eb ei : TypeId} {w : World} {v : Value} {rs : List Rec} (h : RowQ B er el eb ei w v rs) (hB : B' ≤ B) : RowQ B' er el eb ei w v rs := by
  obtain ⟨xs, ho, hx⟩ := h
  refine ⟨xs, ⟨ho.1, ?_⟩, fun i hi => ?_⟩
  · rcases ho.2 with hn | ⟨b, cap, cur, hv, hb, rest⟩
    · exact .inl hn
    · exact .inr ⟨b, cap, cur, hv, Nat.le_trans hB hb, rest⟩
  · obtain ⟨vn, vt, vx, vi, q1, q2⟩ := hx i hi
    exact ⟨vn, vt, vx, vi, q1, q2.mono hB⟩
theorem RowQ.off {B q : Nat} {er el eb ei t : TypeId} {w w' : World} {v : Value} {rs : List Rec} {c : Array Value} (h : RowQ B er el eb ei w v rs) (hk : w.heap[q]? = some (.cells c t)) (h1 : t ≠ er) (h2 : t ≠ el) (h3 : t ≠ eb) (h4 : t ≠ ei) (hg : w.grownBy w' (some q)) : RowQ B er el eb ei w' v rs := by
  obtain ⟨xs, ho, hx⟩ := h
  refine ⟨xs, ownsRow_off ho hg (fun k e => by cases e; exact ⟨c, t, hk, h1⟩), fun i hi => ?_⟩
  obtain ⟨vn, vt, vx, vi, q1, q2⟩ := hx i hi
  exact ⟨vn, vt, vx, vi, q1, q2.offR hg (fun k e => by cases e; exact ⟨c, t, hk, h2, h3, h4⟩)⟩
theorem RowQ.snoc {B : Nat} {er el eb ei : TypeId} {W w' : World} {v v' : Value} {rs : List Rec} {r : Rec} {vn vt vx vi : Value} (h1 : er ≠ el) (h2 : er ≠ eb) (h3 : er ≠ ei) (h : RowQ B er el eb ei W v rs)
    (hr : OwnQ B el eb ei W vn vt vx vi r) (hg : W.grownBy w' v.ownBlock)
    (ho : ∀ xs, W.ownsRow B er 7 v rs.length xs → w'.ownsRow B er 7 v' (rs.length + 1) (xs ++ cellsR vn vt vx vi r)) : RowQ B er el eb ei w' v' (rs ++ [r]) := by
  obtain ⟨xs, h0, hx⟩ := h
  have ho' := ho xs h0
  have hlen : xs.length = rs.length * 7 := h0.1
  have hrow : ∀ q, v.ownBlock = some q → ∃ c t, W.heap[q]? = some (.cells c t) ∧ t ≠ el ∧ t ≠ eb ∧ t ≠ ei := fun q e => by
    rcases h0.2 with ⟨rfl, _⟩ | ⟨g, cap, cur, rfl, _, hg', _⟩
    · simp [Value.ownBlock] at e
    · simp [Value.ownBlock] at e
      subst e
      exact ⟨cur, er, hg', h1, h2, h3⟩
  refine ⟨xs ++ cellsR vn vt vx vi r, by rw [List.length_append]; exact ho', fun i hi => ?_⟩
  rw [List.length_append] at hi
  simp only [List.length_cons, List.length_nil] at hi
  by_cases hlt : i < rs.length
  · obtain ⟨un, ut, ux, ui, q1, q2⟩ := hx i hlt
    have e1 : (rs ++ [r]).getD i recZ = rs.getD i recZ := by rw [List.getD_eq_getElem?_getD, List.getElem?_append_left hlt, ← List.getD_eq_getElem?_getD]
    rw [e1]
    refine ⟨un, ut, ux, ui, fun j u hj => ?_, q2.offR hg hrow⟩
    have hj7 := cells_lt hj
    rw [List.getElem?_append_left (by omega)]
    exact q1 j u hj
  · obtain rfl : i = rs.length := by omega
    have e1 : (rs ++ [r]).getD rs.length recZ = r := by rw [List.getD_eq_getElem?_getD]; simp
    rw [e1]
    refine ⟨vn, vt, vx, vi, fun j u hj => ?_, hr.offR hg hrow⟩
    rw [List.getElem?_append_right (by omega), hlen, Nat.add_sub_cancel_left]
    exact hj
theorem row_setAt {B n s : Nat} {e : TypeId} {w : World} {v : Value} {xs : List Value} (h : w.ownsRow B e s v n xs) {k : Nat} (hk : k < n * s) : ∃ q cap cur, v = .slice (some ⟨q, 0, none⟩) n cap ∧ B ≤ q ∧ q < w.heap.size ∧ w.heap[q]? = some (.cells cur e) ∧ n ≤ cap ∧ cap ≤ maxLen ∧ w.frozen? ⟨q, k, none⟩ = false ∧ ∀ z, (w.setCell ⟨q, k, none⟩ z).ownsRow B e s v n (xs.set k z) := by
 have h' := h
 rcases h.2 with ⟨_, h0⟩ | ⟨q, cap, cur, rfl, hB, hg, hn, hm, hs, ht⟩
 ·subst h0
  simp at hk
 ·have hle : n * s ≤ cur.size := by rw [hs]; exact Nat.mul_le_mul_right _ hn
  refine ⟨q, cap, cur, rfl, hB, VC hg, hg, hn, hm, VG hg k, fun z => ?_⟩
  ·refine ⟨by rw [List.length_set]; exact h'.1, .inr ⟨q, cap, _, rfl, hB, UV hg k z, hn, hm, by simpa using hs, ?_⟩⟩
   rw [Array.toList_setIfInBounds, List.take_set, ht]
def ttlR (r : Rec) (y : Int) : Rec := ⟨r.name, r.type, y, r.addr, r.to, r.text, r.nums⟩
theorem cells_ttl {vn vt vx vi : Value} {r : Rec} {y : Int} {xs : List Value} {m i n : Nat} (hm : m < n) (hl : xs.length = n * 7) (h : ∀ j u, (cellsR vn vt vx vi r)[j]? = some u → xs[m * 7 + j]? = some u) : ∀ j u, (cellsR vn vt vx vi (ttlR r y))[j]? = some u → (xs.set (m * 7 + 2) (.int .i64 y))[m * 7 + j]? = some u := by
 intro j u hj
 have hj7 : j < 7 := by have := (List.getElem?_eq_some_iff.1 hj).1; simpa [cellsR] using this
 rw [List.getElem?_set]
 by_cases e : j = 2
 ·subst e
  rw [if_pos rfl, if_pos (by omega)]
  exact hj
 ·rw [if_neg (by omega)]
  refine h j u ?_
  match j, hj7, hj with
  | 0, _, hj => exact hj
  | 1, _, hj => exact hj
  | 2, _, hj => exact absurd rfl e
  | 3, _, hj => exact hj
  | 4, _, hj => exact hj
  | 5, _, hj => exact hj
  | 6, _, hj => exact hj
theorem RowO.ttl {B E : Nat} {er el eb ei : TypeId} {w : World} {v : Value} {rs : List Rec} {m : Nat} (h : RowO B E er el eb ei w v rs) (hm : m < rs.length) :
  ∃ q cap, v = .slice (some ⟨q, 0, none⟩) rs.length cap ∧ B ≤ q ∧ q < w.heap.size ∧ q < E ∧ w.cell? ⟨q, m * 7 + 2, none⟩ = some (.int .i64 (rs.getD m recZ).ttl) ∧ w.frozen? ⟨q, m * 7 + 2, none⟩ = false ∧
   ∀ y, RowO B E er el eb ei (w.setCell ⟨q, m * 7 + 2, none⟩ (.int .i64 y)) v (rs.set m (ttlR (rs.getD m recZ) y)) := by
 obtain ⟨xs, f, g, ho, hq, hx⟩ := h
 have hx' := hx
 obtain ⟨hB1, hE1, hlow, hqk, vn, vt, vx, vi, hcs, hR⟩ := hx m hm
 obtain ⟨q, cap, cur, rfl, hB, hlt, hg, hn, hmx, hfz, hset⟩ := row_setAt ho (k := m * 7 + 2) (by omega)
 have hbs := hqk q rfl
 refine ⟨q, cap, rfl, hB, hlt, hq q rfl, ?_, hfz, fun y => ?_⟩
 ·rw [World.ownsRow.cellAt ho (m * 7 + 2) (by omega)]
  exact hcs 2 _ rfl
 ·have u := UT w q (m * 7 + 2) (.int .i64 y)
  have hl : xs.length = rs.length * 7 := ho.1
  refine RowO.mark (m := m) (xs := xs) (xs' := xs.set (m * 7 + 2) (.int .i64 y)) (f := f) (g := g) (w := w) hm hq hx' (hset _) (fun i j hij hj7 => ?_) (vn := vn) (vt := vt) (vx := vx) (vi := vi) (cells_ttl (i := 0) hm hl hcs) ?_ ?_
  ·rw [List.getElem?_set_ne (by omega)]
  ·exact hR.outside u (by omega)
  ·intro i hi hne un ut ux ui hO
   have := (hx' i hi).2.2.2.1 q rfl
   exact hO.outside u (by omega)
theorem RowQ.ttl {B : Nat} {er el eb ei : TypeId} {w : World} {v : Value} {rs : List Rec} {m : Nat} (h1 : er ≠ el) (h2 : er ≠ eb) (h3 : er ≠ ei) (h : RowQ B er el eb ei w v rs) (hm : m < rs.length) :
  ∃ q cap, v = .slice (some ⟨q, 0, none⟩) rs.length cap ∧ B ≤ q ∧ q < w.heap.size ∧ w.cell? ⟨q, m * 7 + 2, none⟩ = some (.int .i64 (rs.getD m recZ).ttl) ∧ w.frozen? ⟨q, m * 7 + 2, none⟩ = false ∧
   ∀ y, RowQ B er el eb ei (w.setCell ⟨q, m * 7 + 2, none⟩ (.int .i64 y)) v (rs.set m (ttlR (rs.getD m recZ) y)) := by
 obtain ⟨xs, ho, hx⟩ := h
 obtain ⟨vn, vt, vx, vi, hcs, hR⟩ := hx m hm
 obtain ⟨q, cap, cur, rfl, hB, hlt, hg, hn, hmx, hfz, hset⟩ := row_setAt ho (k := m * 7 + 2) (by omega)
 refine ⟨q, cap, rfl, hB, hlt, ?_, hfz, fun y => ?_⟩
 ·rw [World.ownsRow.cellAt ho (m * 7 + 2) (by omega)]
  exact hcs 2 _ rfl
 ·have hl : xs.length = rs.length * 7 := ho.1
  have hgr := grown_setCell w ⟨q, m * 7 + 2, none⟩ (.int .i64 y)
  have off : ∀ {un ut ux ui : Value} {r : Rec}, OwnQ B el eb ei w un ut ux ui r → OwnQ B el eb ei (w.setCell ⟨q, m * 7 + 2, none⟩ (.int .i64 y)) un ut ux ui r := fun hO => hO.offR hgr (fun k e => by cases e; exact ⟨cur, er, hg, h1, h2, h3⟩)
  refine ⟨xs.set (m * 7 + 2) (.int .i64 y), by rw [List.length_set]; exact hset _, fun i hi => ?_⟩
  rw [List.length_set] at hi
  by_cases e : i = m
  ·subst e
   refine ⟨vn, vt, vx, vi, ?_, ?_⟩
   ·rw [List.getD_eq_getElem?_getD, List.getElem?_set_self hi, Option.getD_some]
    exact cells_ttl (i := 0) hi hl hcs
   ·rw [List.getD_eq_getElem?_getD, List.getElem?_set_self hi, Option.getD_some]
    have q := off hR
    exact ⟨q.name, q.to, q.text, q.nums⟩
  ·obtain ⟨un, ut, ux, ui, q1, q2⟩ := hx i hi
   refine ⟨un, ut, ux, ui, ?_, ?_⟩
   ·rw [List.getD_eq_getElem?_getD, List.getElem?_set_ne (Ne.symm e), ← List.getD_eq_getElem?_getD]
    intro j u hj
    have hj7 : j < 7 := by have := (List.getElem?_eq_some_iff.1 hj).1; simpa [cellsR] using this
    rw [List.getElem?_set_ne (by omega)]
    exact q1 j u hj
   ·rw [List.getD_eq_getElem?_getD, List.getElem?_set_ne (Ne.symm e), ← List.getD_eq_getElem?_getD]
    exact off q2
def agedR (left : Int) (r : Rec) : Rec := if left < r.ttl then ttlR r left else r
def agedK (l : List Rec) (left : Int) (k : Nat) : List Rec := (List.range l.length).map (fun j => if j < k then agedR left (l.getD j recZ) else l.getD j recZ)
theorem agedK_length (l : List Rec) (left : Int) (k : Nat) : (agedK l left k).length = l.length := by simp [agedK]
theorem agedK_getD (l : List Rec) (left : Int) (k j : Nat) (h : j < l.length) : (agedK l left k).getD j recZ = if j < k then agedR left (l.getD j recZ) else l.getD j recZ := by simp [agedK, h]
theorem agedK_zero (l : List Rec) (left : Int) : agedK l left 0 = l := by
 apply List.ext_getElem?
 intro j
 by_cases hj : j < l.length <;> simp [agedK, hj]
theorem agedK_succ (l : List Rec) (left : Int) (k : Nat) (hk : k < l.length) : (agedK l left k).set k (agedR left (l.getD k recZ)) = agedK l left (k + 1) := by
 apply List.ext_getElem?
 intro j
 by_cases e : j = k
 ·subst e
  rw [List.getElem?_set_self (by rw [agedK_length]; exact hk)]
  simp [agedK, hk]
 ·rw [List.getElem?_set_ne (Ne.symm e)]
  by_cases hj : j < l.length
  ·have : j < k + 1 ↔ j < k := by omega
   simp [agedK, hj, this]
  ·simp [agedK, hj]
theorem agedK_here (l : List Rec) (left : Int) (k : Nat) (hk : k < l.length) : (agedK l left k).getD k recZ = l.getD k recZ := by rw [agedK_getD l left k k hk, if_neg (Nat.lt_irrefl _)]
theorem agedK_same (l : List Rec) (left : Int) (k : Nat) (hk : k < l.length) (h : ¬ left < (l.getD k recZ).ttl) : agedK l left (k + 1) = agedK l left k := by
 rw [← agedK_succ l left k hk, show agedR left (l.getD k recZ) = l.getD k recZ from if_neg h]
 apply List.ext_getElem?
 intro j
 by_cases e : j = k
 ·subst e
  rw [List.getElem?_set_self (by rw [agedK_length]; exact hk)]
  simp [agedK, hk]
 ·rw [List.getElem?_set_ne (Ne.symm e)]
theorem holdsB_out {s : Slt} (h : s.kind < 1 ∨ 3 < s.kind) : holdsB s = false := by
 unfold holdsB
 rw [if_neg (by omega), if_neg (by omega)]
theorem holdsB_one {s : Slt} (h : s.kind = 1) : holdsB s = (setOk s.rrs && (decide ((s.rrs.getD 0 recZ).type = s.type) && decide (cmpN (s.rrs.getD 0 recZ).name s.name = 0))) := if_pos h
theorem holdsB_two {s : Slt} (h : ¬ s.kind = 1) (h1 : ¬ s.kind < 1) (h3 : ¬ 3 < s.kind) : holdsB s = decide (s.rrs.length = 0) := by
 unfold holdsB
 rw [if_neg h, if_pos (by omega)]
def HasNm (w : World) (vs : List Value) (n : List (List Int)) : Prop := ∃ v, vs = [v] ∧ HasL w v n
def OwnNm (el eb : TypeId) (B E : Nat) (w : World) (vs : List Value) (n : List (List Int)) : Prop := ∃ v, vs = [v] ∧ OwnN B E el eb w v n
theorem OwnNm.has {el eb : TypeId} {B E : Nat} {w : World} {vs : List Value} {n : List (List Int)} (h : OwnNm el eb B E w vs n) : HasNm w vs n := by obtain ⟨v, h1, h2⟩ := h; exact ⟨v, h1, h2.hasL⟩
structure SizeNm (m : Nat) (n : List (List Int)) : Prop where
 name : n.length ≤ m
 names : ∀ i, i < n.length → (n.getD i []).length ≤ m
theorem SizeNm.mono {m m' : Nat} {q : List (List Int)} (h : SizeNm m q) (hm : m ≤ m') : SizeNm m' q := ⟨Nat.le_trans h.name hm, fun i hi => Nat.le_trans (h.names i hi) hm⟩
theorem cacheOk_names {c : Ca} (h : cacheOk c = true) : c.slots.length ≤ 8 ∧ ∀ j, j < c.slots.length → nameOk (c.slots.getD j VK).name = true := by
 unfold cacheOk headB at h
 simp only [Bool.and_eq_true, decide_eq_true_eq] at h
 refine ⟨h.1.2.2, fun j hj => ?_⟩
 have := rangeAll_at h.2.1 hj
 unfold slotAt at this
 rw [Bool.and_eq_true] at this
 exact slotB_name this.1
def ShortS (x : Slt) : Prop := (x.name.length ≤ 6 ∧ ∀ k, k < x.name.length → (x.name.getD k []).length ≤ 15) ∧ x.rrs.length ≤ 12 ∧ ∀ i, i < x.rrs.length → ShortR (x.rrs.getD i recZ)
theorem slot_short {s : Slt} {now turn : Int} (h : slotB s now turn = true) : ShortS s := by
 have hn := nameOk_parts (slotB_name h)
 refine ⟨⟨hn.1, fun k hk => (labelOk_length (hn.2 k hk)).2⟩, ?_⟩
 unfold slotB holdsB at h
 simp only [Bool.and_eq_true] at h
 have h1 := h.2.2.2
 split at h1
 ·rw [Bool.and_eq_true] at h1
  have h2 := (setOk_rrs h1.1).1
  unfold rrsOk at h2
  rw [Bool.and_eq_true] at h2
  exact ⟨of_decide_eq_true h2.1, fun i hi => short_rec (all_at recZ h2.2 hi)⟩
 ·split at h1
  ·have := of_decide_eq_true h1
   exact ⟨by omega, fun i hi => by omega⟩
  ·cases h1
theorem cacheOk_short {c : Ca} (h : cacheOk c = true) : c.slots.length ≤ 8 ∧ ∀ j, j < c.slots.length → ShortS (c.slots.getD j VK) := by
 refine ⟨(cacheOk_names h).1, fun j hj => ?_⟩
 unfold cacheOk at h
 simp only [Bool.and_eq_true] at h
 have := rangeAll_at h.2.1 hj
 unfold slotAt at this
 rw [Bool.and_eq_true] at this
 exact slot_short this.1
theorem ShortS.size {x : Slt} (h : ShortS x) : SizeSl 1048576 x := by
 obtain ⟨⟨h1, h2⟩, h3, h4⟩ := h
 refine ⟨by omega, fun i hi => by have := h2 i hi; omega, by omega, fun i hi => ?_⟩
 obtain ⟨⟨p1, p2⟩, ⟨p3, p4⟩, p5, p6⟩ := h4 i hi
 exact ⟨by omega, fun k hk => by have := p2 k hk; omega, by omega, fun k hk => by have := p4 k hk; omega, p5, p6⟩
def getOk (c : Ca) (n : List (List Int)) (t : Int) : Bool := cacheOk c && (nameOk n && typeOk t)
def updS (turn : Int) (x : Slt) : Slt := if turn < 1000000 then ⟨x.name, x.type, x.kind, x.rrs, x.rank, x.till, turn + 1⟩ else x
def turnN (turn : Int) : Int := if turn < 1000000 then turn + 1 else turn
def getC (c : Ca) (n : List (List Int)) (t : Int) : Ca := if getOk c n t = true then match findS n t c.slots with
 | some i => ⟨c.now, turnN c.turn, c.slots.set i (updS c.turn (c.slots.getD i VK))⟩
 | none => c
 else ⟨0, 0, []⟩
def getL (c : Ca) (n : List (List Int)) (t : Int) : List Rec := if getOk c n t = true then match findS n t c.slots with
 | some i => agedK (c.slots.getD i VK).rrs ((c.slots.getD i VK).till - c.now) (c.slots.getD i VK).rrs.length
 | none => []
 else []
def getK (c : Ca) (n : List (List Int)) (t : Int) : Int := if getOk c n t = true then match findS n t c.slots with
 | some i => (c.slots.getD i VK).kind
 | none => 0
 else 0
theorem getC_bad {c : Ca} {n : List (List Int)} {t : Int} (h : getOk c n t = false) : getC c n t = ⟨0, 0, []⟩ ∧ getL c n t = [] ∧ getK c n t = 0 := by
 unfold getC getL getK
 simp [h]
theorem getC_none {c : Ca} {n : List (List Int)} {t : Int} (h : getOk c n t = true) (hf : findS n t c.slots = none) : getC c n t = c ∧ getL c n t = [] ∧ getK c n t = 0 := by
 unfold getC getL getK
 simp [h, hf]
theorem getC_some {c : Ca} {n : List (List Int)} {t : Int} {i : Nat} (h : getOk c n t = true) (hf : findS n t c.slots = some i) : getC c n t = ⟨c.now, turnN c.turn, c.slots.set i (updS c.turn (c.slots.getD i VK))⟩ ∧ getL c n t = agedK (c.slots.getD i VK).rrs ((c.slots.getD i VK).till - c.now) (c.slots.getD i VK).rrs.length ∧ getK c n t = (c.slots.getD i VK).kind := by
 unfold getC getL getK
 simp [h, hf]
theorem findS_at {n : List (List Int)} {t : Int} {l : List Slt} {i : Nat} (h : findS n t l = some i) : i < l.length ∧ isS n t (l.getD i VK) = true ∧ ∀ j, j < i → isS n t (l.getD j VK) = false := by
 unfold findS at h
 rw [List.findIdx?_eq_some_iff_getElem] at h
 obtain ⟨h1, h2, h3⟩ := h
 refine ⟨h1, by rw [List.getD_eq_getElem?_getD, List.getElem?_eq_getElem h1, Option.getD_some]; exact h2, fun j hj => ?_⟩
 have := h3 j hj
 rw [List.getD_eq_getElem?_getD, List.getElem?_eq_getElem (by omega), Option.getD_some]
 simpa using this
theorem findS_is {n : List (List Int)} {t : Int} {l : List Slt} {i : Nat} (h1 : i < l.length) (h2 : isS n t (l.getD i VK) = true) (h3 : ∀ j, j < i → isS n t (l.getD j VK) = false) : findS n t l = some i := by
 unfold findS
 rw [List.findIdx?_eq_some_iff_getElem]
 refine ⟨h1, by rw [List.getD_eq_getElem?_getD, List.getElem?_eq_getElem h1, Option.getD_some] at h2; exact h2, fun j hj => ?_⟩
 have := h3 j hj
 rw [List.getD_eq_getElem?_getD, List.getElem?_eq_getElem (by omega), Option.getD_some] at this
 simp [this]
theorem findS_no {n : List (List Int)} {t : Int} {l : List Slt} (h : ∀ j, j < l.length → isS n t (l.getD j VK) = false) : findS n t l = none := by
 unfold findS
 rw [List.findIdx?_eq_none_iff]
 intro x hx
 obtain ⟨j, hj, rfl⟩ := List.getElem_of_mem hx
 have := h j hj
 rwa [List.getD_eq_getElem?_getD, List.getElem?_eq_getElem hj, Option.getD_some] at this
theorem cacheOk_till {c : Ca} (h : cacheOk c = true) : (0 ≤ c.now ∧ c.now ≤ 1000000) ∧ (0 ≤ c.turn ∧ c.turn ≤ 1000000) ∧ ∀ i, i < c.slots.length → c.now < (c.slots.getD i VK).till ∧ (c.slots.getD i VK).till ≤ c.now + 1000 := by
 unfold cacheOk headB at h
 simp only [Bool.and_eq_true, decide_eq_true_eq] at h
 refine ⟨by have := h.1; omega, by have := h.1; omega, fun i hi => ?_⟩
 have := rangeAll_at h.2.1 hi
 unfold slotAt slotB at this
 simp only [Bool.and_eq_true, decide_eq_true_eq] at this
 exact this.1.2.1
theorem updS_same (turn : Int) (x : Slt) : (updS turn x).name = x.name ∧ (updS turn x).type = x.type ∧ (updS turn x).rrs = x.rrs := by
 unfold updS
 split <;> exact ⟨rfl, rfl, rfl⟩
theorem set_short {l : List Slt} {i : Nat} {turn : Int} (hi : i < l.length) (h : ∀ j, j < l.length → ShortS (l.getD j VK)) : ∀ j, j < (l.set i (updS turn (l.getD i VK))).length → ShortS ((l.set i (updS turn (l.getD i VK))).getD j VK) := by
 intro j hj
 rw [List.length_set] at hj
 by_cases e : j = i
 ·subst e
  rw [List.getD_eq_getElem?_getD, List.getElem?_set_self hi, Option.getD_some]
  obtain ⟨e1, e2, e3⟩ := updS_same turn (l.getD j VK)
  have := h j hi
  unfold ShortS at this ⊢
  rw [e1, e3]
  exact this
 ·rw [List.getD_eq_getElem?_getD, List.getElem?_set_ne (Ne.symm e), ← List.getD_eq_getElem?_getD]
  exact h j hj
theorem results_ctt {P : Program} {fn : Func} {p q r : Tmp} {ty : TypeId} (h : fn.results = #[.cell q ty, .tmp p, .tmp r]) (tmps : Array Value) (w : World) (g : Nat) (t : TypeId) (cs : Array Value) (fr : Nat × Nat) (d : TypeDesc)
  (hp : tmps.getD q undef = .pointer (some ⟨g, 0, none⟩)) (hg : w.heap[g]? = some (.cells cs t fr))
  (hu : P.underlying ty = some d) (hd : (match d with | .struct _ | .array _ _ => true | _ => false) = true) (hi : (P.info? ty).map (·.size) = some cs.size) :
  (results fn tmps).run P w = .ok (.tuple #[.agg cs, tmps.getD p undef, tmps.getD r undef]) w := by
 have hp' := hp
 simp only [Array.getD_eq_getD_getElem?] at hp'
 simp only [results, h]
 simp [hp', asAddr, run_loadVar_row w g t ty cs fr d hg hu hd hi]
end Go.Proofs.YtaehfeobfkaicaaGreat
