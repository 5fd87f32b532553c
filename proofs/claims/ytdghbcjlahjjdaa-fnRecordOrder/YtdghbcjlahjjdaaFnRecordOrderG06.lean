/-
  Plain facts: a row of slices put behind another one; a name with one label more ahead. No program is named here. Plain facts for l2bent: one label more in the box of a name that is drawn.
-/
import Derived.Test.YtdghbcjlahjjdaaFnRecordOrderG04
import Derived.Test.YtdghbcjlahjjdaaFnRecordOrderG02
import Derived.Test.YtdghbcjlahjjdaaFnRecordOrderG05
import Derived.Test.YtdghbcjlahjjdaaFnRecordOrderG03
namespace Go.Proofs.Ytdghbcjlahjjdaa
open Go.RowKit

/-- A row whose values own their bytes, behind a growth of a row of another type. -/
theorem OwnL.of_row {B : Nat} {el eb : TypeId} {W w' : World} {row : Option Nat} {v' : Value} {us : List Value} {ns : List (List Int)} (g : W.grownBy w' row) (ho' : w'.ownsRow B el 1 v' ns.length us)
    (hu : ∀ i, i < ns.length → ∃ x, us[i]? = some x ∧ Own B eb W x (ns.getD i [])) (hd : ∀ (i j : Nat) (x x' : Value), i < j → us[i]? = some x → us[j]? = some x' → x.ownBlock = none ∨ x.ownBlock ≠ x'.ownBlock)
    (hrow : ∀ q, row = some q → ∃ c, W.heap[q]? = some (.cells c el)) (hne : el ≠ eb) : OwnL B el eb w' v' ns := by
  refine ⟨us, ho', fun i hi => ?_, hd⟩
  obtain ⟨x, h1, h2⟩ := hu i hi
  refine ⟨x, h1, h2.kept g ?_⟩
  cases hq : x.ownBlock with
  | none => exact .inl rfl
  | some q =>
    right
    intro e
    obtain ⟨c, hc⟩ := hrow q e.symm
    exact h2.apart hc hne hq

theorem row_block {B n : Nat} {e : TypeId} {w : World} {v : Value} {xs : List Value} (h : w.ownsRow B e 1 v n xs) : ∀ q, v.ownBlock = some q → ∃ c, w.heap[q]? = some (.cells c e) := by
  intro q hq
  rcases h.2 with ⟨rfl, _⟩ | ⟨g, cap, cur, rfl, _, hg, _⟩
  · simp [Value.ownBlock] at hq
  · simp [Value.ownBlock] at hq
    subst hq
    exact ⟨cur, hg⟩

/-- What an append of a row of slices reads. -/
theorem row_reads {B n : Nat} {e : TypeId} {w : World} {v : Value} {xs : List Value} (h : w.ownsRow B e 1 v n xs) : (v = .slice none 0 0 ∧ xs = []) ∨ ∃ ad cap, v = .slice (some ad) xs.length cap ∧ ∀ j y, xs[j]? = some y → w.cell? (ad.add j) = some y := by
  have hl : xs.length = n := by have := h.1; simpa using this
  have h' := h
  rcases h.2 with ⟨rfl, h0⟩ | ⟨g, cap, cur, rfl, _, hg, _⟩
  · exact .inl ⟨rfl, List.eq_nil_of_length_eq_zero (by omega)⟩
  · refine .inr ⟨⟨g, 0, none⟩, cap, by rw [hl], fun j y hj => ?_⟩
    have hjl := (List.getElem?_eq_some_iff.1 hj).1
    rw [Addr.add_lit, Nat.zero_add, World.ownsRow.cellAt h' j (by omega)]
    exact hj

section
variable {P : Program} {w : World}
/-- 'append(s, x...)' of slices, where no order is drawn. -/
theorem append_row {ops : Array Oper} {rest : List Oper} {o : Oper} {a : Act} {Q : Exit → Act → World → Prop} (hgd : o.guard = none) (s x : Operand) (t e : TypeId)
    (ho : o.op = .call { callee := .builtin .append, args := #[s, x], argTypes := #[t, t] }) (ht : P.underlying t = some (.slice e))
    (hinfo : (P.info? e).map (fun i => (i.zero, i.size, i.bytes)) = some (some (.slice none 0 0), 1, 24))
    (base : Nat) (v vx : Value) (xs us : List Value) (hs : a.eval s = v) (hx : a.eval x = vx) (hown : w.ownsRow base e 1 v xs.length xs)
    (hr : (vx = .slice none 0 0 ∧ us = []) ∨ ∃ ad cap, vx = .slice (some ad) us.length cap ∧ ∀ j y, us[j]? = some y → w.cell? (ad.add j) = some y) (hu : ∀ y ∈ us, y.oneCell' = true)
    (hlen : xs.length + us.length ≤ 1099511627776) (hbase : base ≤ w.heap.size)
    (h : ∀ v' w', w'.ownsRow base e 1 v' (xs.length + us.length) (xs ++ us) → w.grownBy w' v.ownBlock → wpList P ops Q rest (a.put o.dst v') w') : wpList P ops Q (o :: rest) a w := by
  obtain ⟨i0, hi, hz0, hz1, hz2⟩ := info_parts hinfo
  rcases hr with ⟨rfl, rfl⟩ | ⟨ad, cap, rfl, hc⟩
  · refine wpList_append_own_none hgd s x t ho base e i0 1 ht hi v xs.length xs hs hown hx ?_
    exact h v w (by simpa using hown) ⟨rfl, rfl, rfl, Nat.le_refl _, fun _ _ _ => rfl⟩
  · refine wpList_append_own w hgd s x t ho base e i0 (.slice none 0 0) 1 24 ht hi hz0 hz1 hz2 rfl (by decide) v xs.length xs hs hown ad us.length cap us hx (by simp) hc hu (by unfold maxLen; omega) (by omega) hbase ?_
    intro v' w' ho' hg _
    exact h v' w' ho' hg
end

/-- The values of a list of texts of the call's own are slices. -/
theorem own_one {B : Nat} {e : TypeId} {w : World} {v : Value} {l : List Int} (h : Own B e w v l) : v.oneCell' = true := by
  obtain ⟨a, cap, rfl, _⟩ := h.lies
  rfl

/-- A row of one slice, made anew. -/
theorem row_one (w : World) (B : Nat) (e : TypeId) (u : Value) (hB : B ≤ w.heap.size) : (w.alloc (.cells #[u] e)).ownsRow B e 1 (.slice (some ⟨w.heap.size, 0, none⟩) 1 1) 1 [u] := by
  have h := World.ownsRow_lit (base := B) (e := e) (size := 1) w #[u] 1 hB (by unfold maxLen; omega) (by simp)
  simpa using h

/-- n with one label more ahead. -/
def childOf (n : List (List Int)) (l : List Int) : List (List Int) × Bool := if nameOk n = true ∧ n.length ≠ 6 ∧ labelOk l = true then (l :: n, true) else ([], false)
theorem childOf_yes {n : List (List Int)} {l : List Int} (h : nameOk n = true) (h6 : n.length ≠ 6) (hl : labelOk l = true) : childOf n l = (l :: n, true) := by unfold childOf; rw [if_pos ⟨h, h6, hl⟩]
theorem childOf_no {n : List (List Int)} {l : List Int} (h : nameOk n = false ∨ n.length = 6 ∨ labelOk l = false) : childOf n l = ([], false) := by
  unfold childOf
  rw [if_neg]
  rintro ⟨h1, h2, h3⟩
  rcases h with h | h | h
  · rw [h1] at h; cases h
  · exact h2 h
  · rw [h3] at h; cases h
theorem cons_getD (n : List (List Int)) (l : List Int) (j : Nat) : (l :: n).getD (j + 1) [] = n.getD j [] := by simp [List.getD]
theorem nameOk_cons (n : List (List Int)) (l : List Int) (h : nameOk n = true) : nameOk (l :: n) = decide (n.length ≠ 6 ∧ labelOk l = true) := by
  obtain ⟨h1, h2⟩ := nameOk_parts h
  by_cases hc : n.length ≠ 6 ∧ labelOk l = true
  · rw [decide_eq_true hc]
    refine nameOk_yes (by simp; omega) fun j hj => ?_
    cases j with
    | zero => exact hc.2
    | succ j => rw [cons_getD]; exact h2 j (by simp at hj; omega)
  · rw [decide_eq_false hc]
    by_cases h6 : n.length = 6
    · exact nameOk_long (by simp; omega)
    · have hl : labelOk l = false := by
        cases hl : labelOk l with
        | false => rfl
        | true => exact absurd ⟨h6, hl⟩ hc
      exact nameOk_label (n := l :: n) (j := 0) (by simp) hl
theorem childOf_bound (n : List (List Int)) (l : List Int) : (childOf n l).1.length ≤ 6 ∧ ∀ i, i < (childOf n l).1.length → ((childOf n l).1.getD i []).length ≤ 15 := by
  unfold childOf
  split
  · rename_i h
    have hk := nameOk_cons n l h.1
    rw [decide_eq_true h.2] at hk
    obtain ⟨h1, h2⟩ := nameOk_parts hk
    exact ⟨h1, fun i hi => (labelOk_length (h2 i hi)).2⟩
  · simp

/-- A list of texts of the call's own, one more ahead. -/
theorem cons_step {B C m : Nat} {el eb : TypeId} {W w' : World} {vr v' u : Value} {n : List (List Int)} {l : List Int} {vs : List Value} (g : W.grownBy w' vr.ownBlock) (hr : W.ownsRow B el 1 vr 1 [u]) (ho' : w'.ownsRow B el 1 v' m (u :: vs)) (hm : m = 1 + n.length)
    (hu : OwnB B C eb W u l) (hvs : vs.length = n.length) (hva : ∀ i, i < n.length → ∃ x, vs[i]? = some x ∧ Own C eb W x (n.getD i [])) (hvd : ∀ (i j : Nat) (x x' : Value), i < j → vs[i]? = some x → vs[j]? = some x' → x.ownBlock = none ∨ x.ownBlock ≠ x'.ownBlock)
    (hBC : B ≤ C) (hne : el ≠ eb) : OwnL B el eb w' v' (l :: n) := by
  have e : m = (l :: n).length := by simp; omega
  rw [e] at ho'
  refine OwnL.of_row g (us := u :: vs) ho' (fun i hi => ?_) (fun i j x x' hij hx hx' => ?_) (row_block hr) hne
  · cases i with
    | zero => exact ⟨u, rfl, hu.1⟩
    | succ i =>
      obtain ⟨x, h1, h2⟩ := hva i (by simp at hi; omega)
      exact ⟨x, h1, by rw [cons_getD]; exact h2.mono hBC⟩
  · cases j with
    | zero => omega
    | succ j =>
      cases i with
      | zero =>
        simp at hx hx'
        subst hx
        have hj : j < n.length := by rw [← hvs]; exact (List.getElem?_eq_some_iff.1 hx').1
        obtain ⟨y, h1, h2⟩ := hva j hj
        rw [hx'] at h1
        obtain rfl : x' = y := by simpa using h1
        cases hq : u.ownBlock with
        | none => exact .inl rfl
        | some q =>
          right
          intro e
          have := hu.2 q hq
          have := (h2.lt q e.symm).1
          omega
      | succ i =>
        simp at hx hx'
        exact hvd i j x x' (by omega) hx hx'

/-- The slices of a list of texts. -/
theorem HasL.vals {w : World} {v : Value} {n : List (List Int)} (h : HasL w v n) : ∃ us : List Value, us.length = n.length ∧ ((v = .slice none 0 0 ∧ us = []) ∨ ∃ ad cap, v = .slice (some ad) us.length cap ∧ ∀ j y, us[j]? = some y → w.cell? (ad.add j) = some y) ∧
    (∀ y ∈ us, y.oneCell' = true) ∧ ∀ i, i < n.length → ∃ x, us[i]? = some x ∧ Has w x (n.getD i []) := by
  rcases h with ⟨rfl, rfl⟩ | ⟨g, off, cap, rfl, _, _, _, hc⟩
  · exact ⟨[], rfl, .inl ⟨rfl, rfl⟩, by simp, by simp⟩
  · have key : ∀ m, m ≤ n.length → ∃ us : List Value, us.length = m ∧ (∀ j y, us[j]? = some y → w.cell? ⟨g, off + j, none⟩ = some y) ∧ (∀ y ∈ us, y.oneCell' = true) ∧ ∀ i, i < m → ∃ x, us[i]? = some x ∧ Has w x (n.getD i []) := by
      intro m
      induction m with
      | zero => intro _; exact ⟨[], rfl, by simp, by simp, by simp⟩
      | succ m ih =>
        intro hm
        obtain ⟨us, h1, h2, h3, h4⟩ := ih (by omega)
        obtain ⟨x, hx, hh⟩ := hc m (by omega)
        refine ⟨us ++ [x], by simp [h1], fun j y hj => ?_, fun y hy => ?_, fun i hi => ?_⟩
        · by_cases e : j < us.length
          · rw [List.getElem?_append_left e] at hj; exact h2 j y hj
          · rw [List.getElem?_append_right (by omega)] at hj
            have hj0 : j - us.length = 0 := by
              have := (List.getElem?_eq_some_iff.1 hj).1
              simp at this
              omega
            rw [hj0] at hj
            simp at hj
            subst hj
            have : j = m := by omega
            subst this
            exact hx
        · simp at hy
          rcases hy with hy | rfl
          · exact h3 y hy
          · obtain ⟨a, c, rfl, _⟩ := hh.form
            rfl
        · by_cases e : i < m
          · obtain ⟨y, k1, k2⟩ := h4 i e
            exact ⟨y, by rw [List.getElem?_append_left (by omega)]; exact k1, k2⟩
          · obtain rfl : i = m := by omega
            exact ⟨x, by rw [List.getElem?_append_right (by omega)]; simp [h1], hh⟩
    obtain ⟨us, h1, h2, h3, h4⟩ := key n.length (Nat.le_refl _)
    exact ⟨us, h1, .inr ⟨⟨g, off, none⟩, cap, by rw [h1], fun j y hj => by rw [Addr.add_lit]; exact h2 j y hj⟩, h3, h4⟩

/-- A row whose slices have their bytes. -/
theorem HasL.of_row {B : Nat} {el : TypeId} {w : World} {v : Value} {us : List Value} {ns : List (List Int)} (h : w.ownsRow B el 1 v ns.length us) (hu : ∀ i, i < ns.length → ∃ x, us[i]? = some x ∧ Has w x (ns.getD i [])) : HasL w v ns := by
  have h' := h
  rcases h.2 with ⟨rfl, h0⟩ | ⟨g, cap, cur, rfl, _, hg, hn, hm, _⟩
  · exact .inl ⟨rfl, List.eq_nil_of_length_eq_zero h0⟩
  · refine .inr ⟨g, 0, cap, rfl, (h'.lt g rfl).2, hn, hm, fun i hi => ?_⟩
    obtain ⟨x, h1, h2⟩ := hu i hi
    exact ⟨x, by rw [Nat.zero_add, World.ownsRow.cellAt h' i (by omega), h1], h2⟩

theorem reads_below {w W : World} {v : Value} {us : List Value} (hb : Below w.heap.size w W) (h : (v = .slice none 0 0 ∧ us = []) ∨ ∃ ad cap, v = .slice (some ad) us.length cap ∧ ∀ j y, us[j]? = some y → w.cell? (ad.add j) = some y) :
    (v = .slice none 0 0 ∧ us = []) ∨ ∃ ad cap, v = .slice (some ad) us.length cap ∧ ∀ j y, us[j]? = some y → W.cell? (ad.add j) = some y := by
  rcases h with h | ⟨ad, cap, hv, hc⟩
  · exact .inl h
  · exact .inr ⟨ad, cap, hv, fun j y hj => (hb.cell (cell_lt (hc j y hj))).trans (hc j y hj)⟩
end Go.Proofs.Ytdghbcjlahjjdaa

namespace Go.Proofs.Ytdghbcjlahjjdaa
open Go.RowKit
set_option linter.unusedVariables false

theorem snoc_bound {n : List (List Int)} {l : List Int} {k : Nat} (h : ∀ i, i < n.length → (n.getD i []).length ≤ k) (hl : l.length ≤ k) : ∀ i, i < (n ++ [l]).length → ((n ++ [l]).getD i []).length ≤ k := by
  intro i hi
  simp at hi
  by_cases h1 : i < n.length
  · rw [List.getD_eq_getElem?_getD, List.getElem?_append_left h1, ← List.getD_eq_getElem?_getD]
    exact h i h1
  · obtain rfl : i = n.length := by omega
    rw [List.getD_eq_getElem?_getD]
    simpa using hl
theorem typed_const (w : World) (eb : TypeId) (C : Array Value) (fr : Nat × Nat) (n c : Nat) : Typed eb (w.alloc (.cells C eb fr)) (.slice (some ⟨w.heap.size, 0, none⟩) n c) := fun g off len cap e => by
  cases e
  exact ⟨C, fr, heap_alloc_new w (.cells C eb fr)⟩
theorem OwnT.form {B : Nat} {el eb : TypeId} {w : World} {v : Value} {n : List (List Int)} (h : OwnT B el eb w v n) : ∃ oa oc, v = .slice oa n.length oc := by
  obtain ⟨vs, h1, _⟩ := h
  rcases h1.2 with ⟨rfl, h0⟩ | ⟨g, cap, _, rfl, _⟩
  · exact ⟨none, 0, by rw [h0]⟩
  · exact ⟨_, cap, rfl⟩
/-- The loop of the last bend: k labels are still to come. -/
def BentL (w W w1 : World) (g : Nat) (a : Option Addr) (len cap : Nat) (k : Nat) (wr : World) : Prop :=
  ∃ (n : List (List Int)) (v : Value), n.length + k = 7 ∧ (∀ i, i < n.length → (n.getD i []).length ≤ 16) ∧ wr.heap[w1.heap.size]? = some (.cells #[v] 25) ∧ wr.heap[w.heap.size]? = some (.cells #[.slice none 0 0] 25)
    ∧ OwnT W.heap.size 22 5 wr v n ∧ Cur wr g a len cap ∧ w.grownBy wr (some g)
/-- One label more in the box of n: what the append and the store leave. -/
theorem bent_step {B q r g m len cap : Nat} {a : Option Addr} {w0 w W w' : World} {v v' u z : Value} {n : List (List Int)} {l : List Int} {vs : List Value}
    (hvs : w.ownsRow B 22 1 v n.length vs) (hva : ∀ i, i < n.length → ∃ x, vs[i]? = some x ∧ Has w x (n.getD i []) ∧ Typed 5 w x) (hb : Below w.heap.size w W)
    (hu : Has W u l) (htu : Typed 5 W u) (ho : w'.ownsRow B 22 1 v' m (vs ++ [u])) (hm : m = n.length + 1) (hg : W.grownBy w' v.ownBlock)
    (hq : w.heap[q]? = some (.cells #[v] 25)) (hr : w.heap[r]? = some (.cells #[z] 25)) (hqr : q ≠ r) (hc : Cur w g a len cap) (hgB : g < B) (hgq : g < q) (h0 : w0.grownBy w (some g)) (hB : w0.heap.size ≤ B) (hq0 : w0.heap.size ≤ q) :
    w'.heap[q]? = some (.cells #[v] 25) ∧ OwnT B 22 5 (w'.setCell ⟨q, 0, none⟩ v') v' (n ++ [l]) ∧ (w'.setCell ⟨q, 0, none⟩ v').heap[q]? = some (.cells #[v'] 25) ∧ (w'.setCell ⟨q, 0, none⟩ v').heap[r]? = some (.cells #[z] 25)
      ∧ Cur (w'.setCell ⟨q, 0, none⟩ v') g a len cap ∧ w0.grownBy (w'.setCell ⟨q, 0, none⟩ v') (some g) := by
  have hW := ownsRow_kept' hvs hb
  have hap := row_apart hW (block_kept hb hq) (by decide)
  have har := row_apart hW (block_kept hb hr) (by decide)
  have k1 := block_grown hg (block_kept hb hq) hap
  have k2 := block_grown hg (block_kept hb hr) har
  have o1 : OwnT B 22 5 w' v' (n ++ [l]) := OwnT.snoc hW (fun i hi => by obtain ⟨x, h1, h2, h3⟩ := hva i hi; exact ⟨x, h1, h2.below hb, h3.below hb⟩) hu htu (by decide) ho hm hg
  have gs := grown_setCell w' ⟨q, 0, none⟩ v'
  have hlt := World.ownsRow.lt hW
  have gb : w.grownBy W none := ⟨hb.os, hb.tape, hb.output, hb.size, fun i hi _ => hb.block i hi⟩
  refine ⟨k1, o1.set k1 (by decide) (by decide) _, block_set k1 v', block_grown gs k2 (by simpa using hqr), ?_, ?_⟩
  · exact ((hc.later gb (fun j e => by cases e)).later hg (fun j e => by have := (hlt j e).1; omega)).later gs (fun j e => by cases e; exact hgq)
  · exact grown_own (grown_own (grown_own h0 gb (fun j e => by cases e)) hg (fun j e => by have := (hlt j e).1; omega)) gs (fun j e => by cases e; exact hq0)
end Go.Proofs.Ytdghbcjlahjjdaa
