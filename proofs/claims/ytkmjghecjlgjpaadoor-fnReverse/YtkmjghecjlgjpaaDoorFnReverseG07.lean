/-
  Plain facts: what is owned in a stretch of blocks stays as it is where a walk writes into another stretch. No program is named here. Plain facts: a row of slices put behind another one; a name with one label more ahead. No program is named here.
-/
import Derived.Test.YtkmjghecjlgjpaaDoorFnReverseG05
import Derived.Test.YtkmjghecjlgjpaaDoorFnReverseG06
namespace Go.Proofs.YtkmjghecjlgjpaaDoor
open Go.RowKit

/-- As Own, its block ahead of E. -/
def OwnB (C E : Nat) (e : TypeId) (w : World) (v : Value) (l : List Int) : Prop := Own C e w v l ∧ ∀ q, v.ownBlock = some q → q < E

theorem Own.here {C : Nat} {e : TypeId} {w : World} {v : Value} {l : List Int} (h : Own C e w v l) : OwnB C w.heap.size e w v l := ⟨h, fun q hq => (h.lt q hq).2⟩
theorem OwnB.has {C E : Nat} {e : TypeId} {w : World} {v : Value} {l : List Int} (h : OwnB C E e w v l) : Has w v l := h.1.has
theorem OwnB.below {C E : Nat} {e : TypeId} {w w' : World} {v : Value} {l : List Int} (h : OwnB C E e w v l) (hb : Below w.heap.size w w') : OwnB C E e w' v l := ⟨h.1.below hb, h.2⟩
theorem OwnB.outside {C E B D : Nat} {e : TypeId} {w w' : World} {v : Value} {l : List Int} (h : OwnB C E e w v l) (u : Outside B D w w') (hd : E ≤ B ∨ D ≤ C) : OwnB C E e w' v l := by
  refine ⟨⟨h.1.1, ?_⟩, h.2⟩
  rcases h.1.2 with hn | ⟨g, cap, cur, hv, hb, hg, rest⟩
  · exact .inl hn
  · refine .inr ⟨g, cap, cur, hv, hb, ?_, rest⟩
    have h1 := h.1.lt g (by rw [hv]; rfl)
    have h2 := h.2 g (by rw [hv]; rfl)
    rw [u.block g h1.2 (by omega)]
    exact hg
theorem OwnB.marks {C E : Nat} {e : TypeId} {w w' : World} {v : Value} {l l' : List Int} (h : OwnB C E e w v l) (h' : Own C e w' v l') (g : w.grownBy w' v.ownBlock) : OwnB C E e w' v l' ∧ Outside C E w w' :=
  ⟨⟨h', h.2⟩, outside_grown g (fun q hq => ⟨(h.1.lt q hq).1, h.2 q hq⟩)⟩

theorem ownsRow_outside {C B D n : Nat} {e : TypeId} {w w' : World} {v : Value} {xs : List Value} (h : w.ownsRow C e 1 v n xs) (u : Outside B D w w') (hq : ∀ q, v.ownBlock = some q → q < B ∨ D ≤ q) : w'.ownsRow C e 1 v n xs := by
  have h' := h
  refine ⟨h.1, ?_⟩
  rcases h.2 with hn | ⟨g, cap, cur, hv, hb, hg, rest⟩
  · exact .inl hn
  · refine .inr ⟨g, cap, cur, hv, hb, ?_, rest⟩
    have h1 := h'.lt g (by rw [hv]; rfl)
    have h2 := hq g (by rw [hv]; rfl)
    rw [u.block g h1.2 h2]
    exact hg

theorem OwnN.outside {C E B D : Nat} {el eb : TypeId} {w w' : World} {v : Value} {n : List (List Int)} (h : OwnN C E el eb w v n) (u : Outside B D w w') (hd : E ≤ B ∨ D ≤ C) : OwnN C E el eb w' v n := by
  obtain ⟨vs, ho, hu, hdis, hv, he⟩ := h
  refine ⟨vs, ownsRow_outside ho u (fun q hq => ?_), fun i hi => ?_, hdis, hv, he⟩
  · have := (World.ownsRow.lt ho q hq).1
    have := hv q hq
    omega
  · obtain ⟨x, h1, h2⟩ := hu i hi
    refine ⟨x, h1, ownsRow_outside h2 u (fun q hq => ?_)⟩
    have := (h2.lt q hq).1
    have := he i x q h1 hq
    omega
theorem OwnN.hasL {C E : Nat} {el eb : TypeId} {w : World} {v : Value} {n : List (List Int)} (h : OwnN C E el eb w v n) : HasL w v n := h.ownL.hasL
end Go.Proofs.YtkmjghecjlgjpaaDoor

namespace Go.Proofs.YtkmjghecjlgjpaaDoor
open Go.RowKit

/-- A row whose values own their bytes, behind a growth of a row of another type. -/
theorem OwnL.of_row {B : Nat} {el eb : TypeId} {W w' : World} {row : Option Nat} {v' : Value} {us : List Value} {ns : List (List Int)} (g : W.grownBy w' row) (ho' : w'.ownsRow B el 1 v' ns.length us)
    (hu : ∀ i, i < ns.length → ∃ x, us[i]? = some x ∧ Own B eb W x (ns.getD i [])) (hd : ∀ (i j : Nat) (x x' : Value), i < j → us[i]? = some x → us[j]? = some x' → x.ownBlock = none ∨ x.ownBlock ≠ x'.ownBlock)
    (hrow : ∀ q, row = some q → ∃ c, W.heap[q]? = some (.cells c el)) (hne : el ≠ eb) : OwnL B el eb w' v' ns := by
  refine ⟨us, ho', fun i hi => ?_, hd⟩
  obtain ⟨x, h1, h2⟩ := hu i hi
  refine ⟨x, h1, h2.kept g ?_⟩
  cases hq : x.ownBlock with
  | none => exact .inl rfl
  | some q =>
    right
    intro e
    obtain ⟨c, hc⟩ := hrow q e.symm
    exact h2.apart hc hne hq

theorem row_block {B n : Nat} {e : TypeId} {w : World} {v : Value} {xs : List Value} (h : w.ownsRow B e 1 v n xs) : ∀ q, v.ownBlock = some q → ∃ c, w.heap[q]? = some (.cells c e) := by
  intro q hq
  rcases h.2 with ⟨rfl, _⟩ | ⟨g, cap, cur, rfl, _, hg, _⟩
  · simp [Value.ownBlock] at hq
  · simp [Value.ownBlock] at hq
    subst hq
    exact ⟨cur, hg⟩

/-- What an append of a row of slices reads. -/
theorem row_reads {B n : Nat} {e : TypeId} {w : World} {v : Value} {xs : List Value} (h : w.ownsRow B e 1 v n xs) : (v = .slice none 0 0 ∧ xs = []) ∨ ∃ ad cap, v = .slice (some ad) xs.length cap ∧ ∀ j y, xs[j]? = some y → w.cell? (ad.add j) = some y := by
  have hl : xs.length = n := by have := h.1; simpa using this
  have h' := h
  rcases h.2 with ⟨rfl, h0⟩ | ⟨g, cap, cur, rfl, _, hg, _⟩
  · exact .inl ⟨rfl, List.eq_nil_of_length_eq_zero (by omega)⟩
  · refine .inr ⟨⟨g, 0, none⟩, cap, by rw [hl], fun j y hj => ?_⟩
    have hjl := (List.getElem?_eq_some_iff.1 hj).1
    rw [Addr.add_lit, Nat.zero_add, World.ownsRow.cellAt h' j (by omega)]
    exact hj

section
variable {P : Program} {w : World}
/-- 'append(s, x...)' of slices, where no order is drawn. -/
theorem append_row {ops : Array Oper} {rest : List Oper} {o : Oper} {a : Act} {Q : Exit → Act → World → Prop} (hgd : o.guard = none) (s x : Operand) (t e : TypeId)
    (ho : o.op = .call { callee := .builtin .append, args := #[s, x], argTypes := #[t, t] }) (ht : P.underlying t = some (.slice e))
    (hinfo : (P.info? e).map (fun i => (i.zero, i.size, i.bytes)) = some (some (.slice none 0 0), 1, 24))
    (base : Nat) (v vx : Value) (xs us : List Value) (hs : a.eval s = v) (hx : a.eval x = vx) (hown : w.ownsRow base e 1 v xs.length xs)
    (hr : (vx = .slice none 0 0 ∧ us = []) ∨ ∃ ad cap, vx = .slice (some ad) us.length cap ∧ ∀ j y, us[j]? = some y → w.cell? (ad.add j) = some y) (hu : ∀ y ∈ us, y.oneCell' = true)
    (hlen : xs.length + us.length ≤ 1099511627776) (hbase : base ≤ w.heap.size)
    (h : ∀ v' w', w'.ownsRow base e 1 v' (xs.length + us.length) (xs ++ us) → w.grownBy w' v.ownBlock → wpList P ops Q rest (a.put o.dst v') w') : wpList P ops Q (o :: rest) a w := by
  obtain ⟨i0, hi, hz0, hz1, hz2⟩ := info_parts hinfo
  rcases hr with ⟨rfl, rfl⟩ | ⟨ad, cap, rfl, hc⟩
  · refine wpList_append_own_none hgd s x t ho base e i0 1 ht hi v xs.length xs hs hown hx ?_
    exact h v w (by simpa using hown) ⟨rfl, rfl, rfl, Nat.le_refl _, fun _ _ _ => rfl⟩
  · refine wpList_append_own w hgd s x t ho base e i0 (.slice none 0 0) 1 24 ht hi hz0 hz1 hz2 rfl (by decide) v xs.length xs hs hown ad us.length cap us hx (by simp) hc hu (by unfold maxLen; omega) (by omega) hbase ?_
    intro v' w' ho' hg _
    exact h v' w' ho' hg
end

/-- The values of a list of texts of the call's own are slices. -/
theorem own_one {B : Nat} {e : TypeId} {w : World} {v : Value} {l : List Int} (h : Own B e w v l) : v.oneCell' = true := by
  obtain ⟨a, cap, rfl, _⟩ := h.lies
  rfl

/-- A row of one slice, made anew. -/
theorem row_one (w : World) (B : Nat) (e : TypeId) (u : Value) (hB : B ≤ w.heap.size) : (w.alloc (.cells #[u] e)).ownsRow B e 1 (.slice (some ⟨w.heap.size, 0, none⟩) 1 1) 1 [u] := by
  have h := World.ownsRow_lit (base := B) (e := e) (size := 1) w #[u] 1 hB (by unfold maxLen; omega) (by simp)
  simpa using h

/-- n with one label more ahead. -/
def childOf (n : List (List Int)) (l : List Int) : List (List Int) × Bool := if nameOk n = true ∧ n.length ≠ 6 ∧ labelOk l = true then (l :: n, true) else ([], false)
theorem childOf_yes {n : List (List Int)} {l : List Int} (h : nameOk n = true) (h6 : n.length ≠ 6) (hl : labelOk l = true) : childOf n l = (l :: n, true) := by unfold childOf; rw [if_pos ⟨h, h6, hl⟩]
theorem childOf_no {n : List (List Int)} {l : List Int} (h : nameOk n = false ∨ n.length = 6 ∨ labelOk l = false) : childOf n l = ([], false) := by
  unfold childOf
  rw [if_neg]
  rintro ⟨h1, h2, h3⟩
  rcases h with h | h | h
  · rw [h1] at h; cases h
  · exact h2 h
  · rw [h3] at h; cases h
theorem cons_getD (n : List (List Int)) (l : List Int) (j : Nat) : (l :: n).getD (j + 1) [] = n.getD j [] := by simp [List.getD]
theorem nameOk_cons (n : List (List Int)) (l : List Int) (h : nameOk n = true) : nameOk (l :: n) = decide (n.length ≠ 6 ∧ labelOk l = true) := by
  obtain ⟨h1, h2⟩ := nameOk_parts h
  by_cases hc : n.length ≠ 6 ∧ labelOk l = true
  · rw [decide_eq_true hc]
    refine nameOk_yes (by simp; omega) fun j hj => ?_
    cases j with
    | zero => exact hc.2
    | succ j => rw [cons_getD]; exact h2 j (by simp at hj; omega)
  · rw [decide_eq_false hc]
    by_cases h6 : n.length = 6
    · exact nameOk_long (by simp; omega)
    · have hl : labelOk l = false := by
        cases hl : labelOk l with
        | false => rfl
        | true => exact absurd ⟨h6, hl⟩ hc
      exact nameOk_label (n := l :: n) (j := 0) (by simp) hl
theorem childOf_bound (n : List (List Int)) (l : List Int) : (childOf n l).1.length ≤ 6 ∧ ∀ i, i < (childOf n l).1.length → ((childOf n l).1.getD i []).length ≤ 15 := by
  unfold childOf
  split
  · rename_i h
    have hk := nameOk_cons n l h.1
    rw [decide_eq_true h.2] at hk
    obtain ⟨h1, h2⟩ := nameOk_parts hk
    exact ⟨h1, fun i hi => (labelOk_length (h2 i hi)).2⟩
  · simp

/-- A list of texts of the call's own, one more ahead. -/
theorem cons_step {B C m : Nat} {el eb : TypeId} {W w' : World} {vr v' u : Value} {n : List (List Int)} {l : List Int} {vs : List Value} (g : W.grownBy w' vr.ownBlock) (hr : W.ownsRow B el 1 vr 1 [u]) (ho' : w'.ownsRow B el 1 v' m (u :: vs)) (hm : m = 1 + n.length)
    (hu : OwnB B C eb W u l) (hvs : vs.length = n.length) (hva : ∀ i, i < n.length → ∃ x, vs[i]? = some x ∧ Own C eb W x (n.getD i [])) (hvd : ∀ (i j : Nat) (x x' : Value), i < j → vs[i]? = some x → vs[j]? = some x' → x.ownBlock = none ∨ x.ownBlock ≠ x'.ownBlock)
    (hBC : B ≤ C) (hne : el ≠ eb) : OwnL B el eb w' v' (l :: n) := by
  have e : m = (l :: n).length := by simp; omega
  rw [e] at ho'
  refine OwnL.of_row g (us := u :: vs) ho' (fun i hi => ?_) (fun i j x x' hij hx hx' => ?_) (row_block hr) hne
  · cases i with
    | zero => exact ⟨u, rfl, hu.1⟩
    | succ i =>
      obtain ⟨x, h1, h2⟩ := hva i (by simp at hi; omega)
      exact ⟨x, h1, by rw [cons_getD]; exact h2.mono hBC⟩
  · cases j with
    | zero => omega
    | succ j =>
      cases i with
      | zero =>
        simp at hx hx'
        subst hx
        have hj : j < n.length := by rw [← hvs]; exact (List.getElem?_eq_some_iff.1 hx').1
        obtain ⟨y, h1, h2⟩ := hva j hj
        rw [hx'] at h1
        obtain rfl : x' = y := by simpa using h1
        cases hq : u.ownBlock with
        | none => exact .inl rfl
        | some q =>
          right
          intro e
          have := hu.2 q hq
          have := (h2.lt q e.symm).1
          omega
      | succ i =>
        simp at hx hx'
        exact hvd i j x x' (by omega) hx hx'

/-- The slices of a list of texts. -/
theorem HasL.vals {w : World} {v : Value} {n : List (List Int)} (h : HasL w v n) : ∃ us : List Value, us.length = n.length ∧ ((v = .slice none 0 0 ∧ us = []) ∨ ∃ ad cap, v = .slice (some ad) us.length cap ∧ ∀ j y, us[j]? = some y → w.cell? (ad.add j) = some y) ∧
    (∀ y ∈ us, y.oneCell' = true) ∧ ∀ i, i < n.length → ∃ x, us[i]? = some x ∧ Has w x (n.getD i []) := by
  rcases h with ⟨rfl, rfl⟩ | ⟨g, off, cap, rfl, _, _, _, hc⟩
  · exact ⟨[], rfl, .inl ⟨rfl, rfl⟩, by simp, by simp⟩
  · have key : ∀ m, m ≤ n.length → ∃ us : List Value, us.length = m ∧ (∀ j y, us[j]? = some y → w.cell? ⟨g, off + j, none⟩ = some y) ∧ (∀ y ∈ us, y.oneCell' = true) ∧ ∀ i, i < m → ∃ x, us[i]? = some x ∧ Has w x (n.getD i []) := by
      intro m
      induction m with
      | zero => intro _; exact ⟨[], rfl, by simp, by simp, by simp⟩
      | succ m ih =>
        intro hm
        obtain ⟨us, h1, h2, h3, h4⟩ := ih (by omega)
        obtain ⟨x, hx, hh⟩ := hc m (by omega)
        refine ⟨us ++ [x], by simp [h1], fun j y hj => ?_, fun y hy => ?_, fun i hi => ?_⟩
        · by_cases e : j < us.length
          · rw [List.getElem?_append_left e] at hj; exact h2 j y hj
          · rw [List.getElem?_append_right (by omega)] at hj
            have hj0 : j - us.length = 0 := by
              have := (List.getElem?_eq_some_iff.1 hj).1
              simp at this
              omega
            rw [hj0] at hj
            simp at hj
            subst hj
            have : j = m := by omega
            subst this
            exact hx
        · simp at hy
          rcases hy with hy | rfl
          · exact h3 y hy
          · obtain ⟨a, c, rfl, _⟩ := hh.form
            rfl
        · by_cases e : i < m
          · obtain ⟨y, k1, k2⟩ := h4 i e
            exact ⟨y, by rw [List.getElem?_append_left (by omega)]; exact k1, k2⟩
          · obtain rfl : i = m := by omega
            exact ⟨x, by rw [List.getElem?_append_right (by omega)]; simp [h1], hh⟩
    obtain ⟨us, h1, h2, h3, h4⟩ := key n.length (Nat.le_refl _)
    exact ⟨us, h1, .inr ⟨⟨g, off, none⟩, cap, by rw [h1], fun j y hj => by rw [Addr.add_lit]; exact h2 j y hj⟩, h3, h4⟩

/-- A row whose slices have their bytes. -/
theorem HasL.of_row {B : Nat} {el : TypeId} {w : World} {v : Value} {us : List Value} {ns : List (List Int)} (h : w.ownsRow B el 1 v ns.length us) (hu : ∀ i, i < ns.length → ∃ x, us[i]? = some x ∧ Has w x (ns.getD i [])) : HasL w v ns := by
  have h' := h
  rcases h.2 with ⟨rfl, h0⟩ | ⟨g, cap, cur, rfl, _, hg, hn, hm, _⟩
  · exact .inl ⟨rfl, List.eq_nil_of_length_eq_zero h0⟩
  · refine .inr ⟨g, 0, cap, rfl, (h'.lt g rfl).2, hn, hm, fun i hi => ?_⟩
    obtain ⟨x, h1, h2⟩ := hu i hi
    exact ⟨x, by rw [Nat.zero_add, World.ownsRow.cellAt h' i (by omega), h1], h2⟩

theorem reads_below {w W : World} {v : Value} {us : List Value} (hb : Below w.heap.size w W) (h : (v = .slice none 0 0 ∧ us = []) ∨ ∃ ad cap, v = .slice (some ad) us.length cap ∧ ∀ j y, us[j]? = some y → w.cell? (ad.add j) = some y) :
    (v = .slice none 0 0 ∧ us = []) ∨ ∃ ad cap, v = .slice (some ad) us.length cap ∧ ∀ j y, us[j]? = some y → W.cell? (ad.add j) = some y := by
  rcases h with h | ⟨ad, cap, hv, hc⟩
  · exact .inl h
  · exact .inr ⟨ad, cap, hv, fun j y hj => (hb.cell (cell_lt (hc j y hj))).trans (hc j y hj)⟩
end Go.Proofs.YtkmjghecjlgjpaaDoor
