/-
  Plain facts: a name's text, label by label. No program is named here. Plain facts: a name comes back from its text, great letters being as small ones. No program is named here. Plain facts: a row of slices put behind another one; a name with one label more ahead. No program is named here. Plain facts: what the law of the order of names asks for. No program is named here.
-/
import Derived.Test.YtmnlhjdjjinbiaaGreatDropSetG00
import Derived.Test.YtmnlhjdjjinbiaaGreatDropSetG23
import Derived.Test.YtmnlhjdjjinbiaaGreatDropSetG04
import Derived.Test.YtmnlhjdjjinbiaaGreatDropSetG06
import Derived.Test.YtmnlhjdjjinbiaaGreatDropSetG01
import Derived.Test.YtmnlhjdjjinbiaaGreatDropSetG21
namespace Go.Proofs.YtmnlhjdjjinbiaaGreat
open Go.RowKit

/-- The first k labels, a dot behind each. -/
def dots (n : List (List Int)) (k : Nat) : List Int := ((n.take k).map (fun l => l ++ [46])).flatten

theorem dots_zero (n : List (List Int)) : dots n 0 = [] := by simp [dots]
theorem dots_succ (n : List (List Int)) (k : Nat) (h : k < n.length) : dots n (k + 1) = dots n k ++ n.getD k [] ++ [46] := by
  unfold dots
  rw [List.take_succ_eq_append_getElem h, List.map_append, List.flatten_append, show n.getD k [] = n[k] by simp [h]]
  simp only [List.map_cons, List.map_nil, List.flatten_cons, List.flatten_nil, List.append_nil, List.append_assoc]

theorem dots_length (n : List (List Int)) (h : nameOk n = true) (k : Nat) : (dots n k).length ≤ 16 * k := by
  induction k with
  | zero => simp [dots]
  | succ k ih =>
    by_cases hk : k < n.length
    · rw [dots_succ n k hk]
      have := (labelOk_length ((nameOk_parts h).2 k hk)).2
      simp only [List.length_append, List.length_cons, List.length_nil]
      omega
    · have e : dots n (k + 1) = dots n k := by unfold dots; rw [List.take_of_length_le (by omega), List.take_of_length_le (by omega)]
      rw [e]; omega

/-- A name's text. -/
def nameText (n : List (List Int)) : List Int := if nameOk n = true then (if n.length = 0 then [46] else dots n n.length) else []

theorem nameText_no {n : List (List Int)} (h : nameOk n = false) : nameText n = [] := by simp [nameText, h]
theorem nameText_root {n : List (List Int)} (h : nameOk n = true) (h0 : n.length = 0) : nameText n = [46] := by simp [nameText, h, h0]
theorem nameText_some {n : List (List Int)} (h : nameOk n = true) (h0 : n.length ≠ 0) : nameText n = dots n n.length := by simp [nameText, h, h0]
theorem nameText_length (n : List (List Int)) : (nameText n).length ≤ 96 := by
  unfold nameText
  split
  · rename_i h
    split
    · simp
    · have := dots_length n h n.length
      have := (nameOk_parts h).1
      omega
  · simp
end Go.Proofs.YtmnlhjdjjinbiaaGreat

namespace Go.Proofs.YtmnlhjdjjinbiaaGreat
open Go.RowKit

theorem lowered_map (l : List Int) : lowered l l.length = l.map low := by
  apply List.ext_getElem?
  intro j
  by_cases hj : j < l.length
  · simp [lowered, hj]
  · simp [lowered, hj]

theorem rest_one (e : Bool) (f : Int → Int) (h46 : f 46 = 46) : ∀ (l cur xs : List Int), (∀ c ∈ l, f c ≠ 46) → rest e ((l ++ 46 :: xs).map f) cur = (cur ++ l.map f).map low :: rest e (xs.map f) []
  | [], cur, xs, _ => by
    show rest e (f 46 :: xs.map f) cur = _
    rw [rest, if_pos h46, lowered_map]
    simp
  | x :: l, cur, xs, h => by
    show rest e (f x :: (l ++ 46 :: xs).map f) cur = _
    rw [rest, if_neg (h x (by simp)), rest_one e f h46 l _ xs (fun c hc => h c (by simp [hc]))]
    simp

/-- What leaves a sign as it is, or makes it great. -/
structure Keeps (f : Int → Int) : Prop where
  dot : f 46 = 46
  sign : ∀ c, signOk c = true → f c ≠ 46 ∧ low (f c) = c

def upC (x : Int) : Int := if 97 ≤ x ∧ x ≤ 122 then x - 32 else x
theorem keeps_id : Keeps id := ⟨rfl, fun c h => by
  have := of_decide_eq_true h
  simp only [id]
  unfold low
  split <;> omega⟩
theorem keeps_up : Keeps upC := ⟨by decide, fun c h => by
  have := of_decide_eq_true h
  unfold upC low
  split <;> split <;> omega⟩

theorem dots_cons (l : List Int) (n : List (List Int)) : dots (l :: n) (l :: n).length = l ++ 46 :: dots n n.length := by
  unfold dots
  rw [List.take_length, List.take_length]
  simp
theorem rest_text {f : Int → Int} (hf : Keeps f) : ∀ (n : List (List Int)), (∀ l ∈ n, ∀ c ∈ l, signOk c = true) → rest true ((dots n n.length).map f) [] = n
  | [], _ => rfl
  | l :: n, h => by
    rw [dots_cons, rest_one true f hf.dot l [] _ (fun c hc => (hf.sign c (h l (by simp) c hc)).1), rest_text hf n (fun l' hl => h l' (by simp [hl]))]
    congr 1
    rw [List.nil_append, List.map_map]
    have : l.map (low ∘ f) = l.map id := List.map_congr_left (fun c hc => (hf.sign c (h l (by simp) c hc)).2)
    rw [this, List.map_id]

theorem nameOk_signs {n : List (List Int)} (h : nameOk n = true) : ∀ l ∈ n, (1 ≤ l.length) ∧ ∀ c ∈ l, signOk c = true := by
  intro l hl
  obtain ⟨j, hj, rfl⟩ := List.getElem_of_mem hl
  have hk := (nameOk_parts h).2 j hj
  rw [List.getD_eq_getElem?_getD, List.getElem?_eq_getElem hj, Option.getD_some] at hk
  have hd := of_decide_eq_true hk
  refine ⟨hd.1, fun c hc => ?_⟩
  obtain ⟨i, hi, rfl⟩ := List.getElem_of_mem hc
  have := hd.2.2 i hi
  rwa [List.getD_eq_getElem?_getD, List.getElem?_eq_getElem hi, Option.getD_some] at this

theorem nameRead_text {f : Int → Int} (hf : Keeps f) {n : List (List Int)} (h : nameOk n = true) : nameRead ((nameText n).map f) = (n, true) := by
  by_cases h0 : n.length = 0
  · rw [nameText_root h h0]
    have : n = [] := List.eq_nil_of_length_eq_zero h0
    subst this
    unfold nameRead
    rw [if_pos (by simp [hf.dot])]
  · rw [nameText_some h h0]
    have hs := nameOk_signs h
    have hr := rest_text hf n (fun l hl => (hs l hl).2)
    match n, h0 with
    | l :: n, _ =>
      have hl := (hs l (by simp)).1
      have hlen : 2 ≤ ((dots (l :: n) (l :: n).length).map f).length := by
        rw [dots_cons]
        simp
        omega
      have hin : labelsIn ((dots (l :: n) (l :: n).length).map f) = l :: n := by
        unfold labelsIn
        rw [decide_eq_true (by omega)]
        exact hr
      unfold nameRead
      rw [if_neg (fun e => by rw [e] at hlen; simp at hlen), hin, if_pos h]

theorem nameRead_text' {n : List (List Int)} (h : nameOk n = true) : nameRead (nameText n) = (n, true) := by
  have := nameRead_text keeps_id h
  rwa [List.map_id] at this
theorem nameText_inj {n m : List (List Int)} (h : nameOk n = true) (h' : nameOk m = true) : nameText n = nameText m ↔ n = m := by
  refine ⟨fun e => ?_, fun e => by rw [e]⟩
  have h1 := nameRead_text' h
  rw [e, nameRead_text' h'] at h1
  exact (Prod.mk.inj h1).1.symm
theorem nameText_bytes (n : List (List Int)) : ∀ c ∈ nameText n, 0 ≤ c ∧ c ≤ 255 := by
  intro c hc
  unfold nameText at hc
  split at hc
  · rename_i h
    split at hc
    · simp at hc
      omega
    · unfold dots at hc
      rw [List.take_length] at hc
      simp only [List.mem_flatten, List.mem_map] at hc
      obtain ⟨x, ⟨l, hl, rfl⟩, hc⟩ := hc
      simp at hc
      rcases hc with hc | rfl
      · have := of_decide_eq_true ((nameOk_signs h l hl).2 c hc)
        omega
      · omega
  · simp at hc
theorem nameRead_ok (l : List Int) : (nameRead l).2 = true → nameOk (nameRead l).1 = true := by
  unfold nameRead
  split
  · intro _
    decide
  · split
    · intro _
      assumption
    · intro h
      cases h
end Go.Proofs.YtmnlhjdjjinbiaaGreat

namespace Go.Proofs.YtmnlhjdjjinbiaaGreat
open Go.RowKit

/-- A row whose values own their bytes, behind a growth of a row of another type. -/
theorem OwnL.of_row {B : Nat} {el eb : TypeId} {W w' : World} {row : Option Nat} {v' : Value} {us : List Value} {ns : List (List Int)} (g : W.grownBy w' row) (ho' : w'.ownsRow B el 1 v' ns.length us)
    (hu : ∀ i, i < ns.length → ∃ x, us[i]? = some x ∧ Own B eb W x (ns.getD i [])) (hd : ∀ (i j : Nat) (x x' : Value), i < j → us[i]? = some x → us[j]? = some x' → x.ownBlock = none ∨ x.ownBlock ≠ x'.ownBlock)
    (hrow : ∀ q, row = some q → ∃ c, W.heap[q]? = some (.cells c el)) (hne : el ≠ eb) : OwnL B el eb w' v' ns := by
  refine ⟨us, ho', fun i hi => ?_, hd⟩
  obtain ⟨x, h1, h2⟩ := hu i hi
  refine ⟨x, h1, h2.kept g ?_⟩
  cases hq : x.ownBlock with
  | none => exact .inl rfl
  | some q =>
    right
    intro e
    obtain ⟨c, hc⟩ := hrow q e.symm
    exact h2.apart hc hne hq

theorem row_block {B n : Nat} {e : TypeId} {w : World} {v : Value} {xs : List Value} (h : w.ownsRow B e 1 v n xs) : ∀ q, v.ownBlock = some q → ∃ c, w.heap[q]? = some (.cells c e) := by
  intro q hq
  rcases h.2 with ⟨rfl, _⟩ | ⟨g, cap, cur, rfl, _, hg, _⟩
  · simp [Value.ownBlock] at hq
  · simp [Value.ownBlock] at hq
    subst hq
    exact ⟨cur, hg⟩

/-- What an append of a row of slices reads. -/
theorem row_reads {B n : Nat} {e : TypeId} {w : World} {v : Value} {xs : List Value} (h : w.ownsRow B e 1 v n xs) : (v = .slice none 0 0 ∧ xs = []) ∨ ∃ ad cap, v = .slice (some ad) xs.length cap ∧ ∀ j y, xs[j]? = some y → w.cell? (ad.add j) = some y := by
  have hl : xs.length = n := by have := h.1; simpa using this
  have h' := h
  rcases h.2 with ⟨rfl, h0⟩ | ⟨g, cap, cur, rfl, _, hg, _⟩
  · exact .inl ⟨rfl, List.eq_nil_of_length_eq_zero (by omega)⟩
  · refine .inr ⟨⟨g, 0, none⟩, cap, by rw [hl], fun j y hj => ?_⟩
    have hjl := (List.getElem?_eq_some_iff.1 hj).1
    rw [Addr.add_lit, Nat.zero_add, World.ownsRow.cellAt h' j (by omega)]
    exact hj

section
variable {P : Program} {w : World}
/-- 'append(s, x...)' of slices, where no order is drawn. -/
theorem append_row {ops : Array Oper} {rest : List Oper} {o : Oper} {a : Act} {Q : Exit → Act → World → Prop} (hgd : o.guard = none) (s x : Operand) (t e : TypeId)
    (ho : o.op = .call { callee := .builtin .append, args := #[s, x], argTypes := #[t, t] }) (ht : P.underlying t = some (.slice e))
    (hinfo : (P.info? e).map (fun i => (i.zero, i.size, i.bytes)) = some (some (.slice none 0 0), 1, 24))
    (base : Nat) (v vx : Value) (xs us : List Value) (hs : a.eval s = v) (hx : a.eval x = vx) (hown : w.ownsRow base e 1 v xs.length xs)
    (hr : (vx = .slice none 0 0 ∧ us = []) ∨ ∃ ad cap, vx = .slice (some ad) us.length cap ∧ ∀ j y, us[j]? = some y → w.cell? (ad.add j) = some y) (hu : ∀ y ∈ us, y.oneCell' = true)
    (hlen : xs.length + us.length ≤ 1099511627776) (hbase : base ≤ w.heap.size)
    (h : ∀ v' w', w'.ownsRow base e 1 v' (xs.length + us.length) (xs ++ us) → w.grownBy w' v.ownBlock → wpList P ops Q rest (a.put o.dst v') w') : wpList P ops Q (o :: rest) a w := by
  obtain ⟨i0, hi, hz0, hz1, hz2⟩ := info_parts hinfo
  rcases hr with ⟨rfl, rfl⟩ | ⟨ad, cap, rfl, hc⟩
  · refine wpList_append_own_none hgd s x t ho base e i0 1 ht hi v xs.length xs hs hown hx ?_
    exact h v w (by simpa using hown) ⟨rfl, rfl, rfl, Nat.le_refl _, fun _ _ _ => rfl⟩
  · refine wpList_append_own w hgd s x t ho base e i0 (.slice none 0 0) 1 24 ht hi hz0 hz1 hz2 rfl (by decide) v xs.length xs hs hown ad us.length cap us hx (by simp) hc hu (by unfold maxLen; omega) (by omega) hbase ?_
    intro v' w' ho' hg _
    exact h v' w' ho' hg
end

/-- The values of a list of texts of the call's own are slices. -/
theorem own_one {B : Nat} {e : TypeId} {w : World} {v : Value} {l : List Int} (h : Own B e w v l) : v.oneCell' = true := by
  obtain ⟨a, cap, rfl, _⟩ := h.lies
  rfl

/-- A row of one slice, made anew. -/
theorem row_one (w : World) (B : Nat) (e : TypeId) (u : Value) (hB : B ≤ w.heap.size) : (w.alloc (.cells #[u] e)).ownsRow B e 1 (.slice (some ⟨w.heap.size, 0, none⟩) 1 1) 1 [u] := by
  have h := World.ownsRow_lit (base := B) (e := e) (size := 1) w #[u] 1 hB (by unfold maxLen; omega) (by simp)
  simpa using h

/-- n with one label more ahead. -/
def childOf (n : List (List Int)) (l : List Int) : List (List Int) × Bool := if nameOk n = true ∧ n.length ≠ 6 ∧ labelOk l = true then (l :: n, true) else ([], false)
theorem childOf_yes {n : List (List Int)} {l : List Int} (h : nameOk n = true) (h6 : n.length ≠ 6) (hl : labelOk l = true) : childOf n l = (l :: n, true) := by unfold childOf; rw [if_pos ⟨h, h6, hl⟩]
theorem childOf_no {n : List (List Int)} {l : List Int} (h : nameOk n = false ∨ n.length = 6 ∨ labelOk l = false) : childOf n l = ([], false) := by
  unfold childOf
  rw [if_neg]
  rintro ⟨h1, h2, h3⟩
  rcases h with h | h | h
  · rw [h1] at h; cases h
  · exact h2 h
  · rw [h3] at h; cases h
theorem cons_getD (n : List (List Int)) (l : List Int) (j : Nat) : (l :: n).getD (j + 1) [] = n.getD j [] := by simp [List.getD]
theorem nameOk_cons (n : List (List Int)) (l : List Int) (h : nameOk n = true) : nameOk (l :: n) = decide (n.length ≠ 6 ∧ labelOk l = true) := by
  obtain ⟨h1, h2⟩ := nameOk_parts h
  by_cases hc : n.length ≠ 6 ∧ labelOk l = true
  · rw [decide_eq_true hc]
    refine nameOk_yes (by simp; omega) fun j hj => ?_
    cases j with
    | zero => exact hc.2
    | succ j => rw [cons_getD]; exact h2 j (by simp at hj; omega)
  · rw [decide_eq_false hc]
    by_cases h6 : n.length = 6
    · exact nameOk_long (by simp; omega)
    · have hl : labelOk l = false := by
        cases hl : labelOk l with
        | false => rfl
        | true => exact absurd ⟨h6, hl⟩ hc
      exact nameOk_label (n := l :: n) (j := 0) (by simp) hl
theorem childOf_bound (n : List (List Int)) (l : List Int) : (childOf n l).1.length ≤ 6 ∧ ∀ i, i < (childOf n l).1.length → ((childOf n l).1.getD i []).length ≤ 15 := by
  unfold childOf
  split
  · rename_i h
    have hk := nameOk_cons n l h.1
    rw [decide_eq_true h.2] at hk
    obtain ⟨h1, h2⟩ := nameOk_parts hk
    exact ⟨h1, fun i hi => (labelOk_length (h2 i hi)).2⟩
  · simp

/-- A list of texts of the call's own, one more ahead. -/
theorem cons_step {B C m : Nat} {el eb : TypeId} {W w' : World} {vr v' u : Value} {n : List (List Int)} {l : List Int} {vs : List Value} (g : W.grownBy w' vr.ownBlock) (hr : W.ownsRow B el 1 vr 1 [u]) (ho' : w'.ownsRow B el 1 v' m (u :: vs)) (hm : m = 1 + n.length)
    (hu : OwnB B C eb W u l) (hvs : vs.length = n.length) (hva : ∀ i, i < n.length → ∃ x, vs[i]? = some x ∧ Own C eb W x (n.getD i [])) (hvd : ∀ (i j : Nat) (x x' : Value), i < j → vs[i]? = some x → vs[j]? = some x' → x.ownBlock = none ∨ x.ownBlock ≠ x'.ownBlock)
    (hBC : B ≤ C) (hne : el ≠ eb) : OwnL B el eb w' v' (l :: n) := by
  have e : m = (l :: n).length := by simp; omega
  rw [e] at ho'
  refine OwnL.of_row g (us := u :: vs) ho' (fun i hi => ?_) (fun i j x x' hij hx hx' => ?_) (row_block hr) hne
  · cases i with
    | zero => exact ⟨u, rfl, hu.1⟩
    | succ i =>
      obtain ⟨x, h1, h2⟩ := hva i (by simp at hi; omega)
      exact ⟨x, h1, by rw [cons_getD]; exact h2.mono hBC⟩
  · cases j with
    | zero => omega
    | succ j =>
      cases i with
      | zero =>
        simp at hx hx'
        subst hx
        have hj : j < n.length := by rw [← hvs]; exact (List.getElem?_eq_some_iff.1 hx').1
        obtain ⟨y, h1, h2⟩ := hva j hj
        rw [hx'] at h1
        obtain rfl : x' = y := by simpa using h1
        cases hq : u.ownBlock with
        | none => exact .inl rfl
        | some q =>
          right
          intro e
          have := hu.2 q hq
          have := (h2.lt q e.symm).1
          omega
      | succ i =>
        simp at hx hx'
        exact hvd i j x x' (by omega) hx hx'

/-- The slices of a list of texts. -/
theorem HasL.vals {w : World} {v : Value} {n : List (List Int)} (h : HasL w v n) : ∃ us : List Value, us.length = n.length ∧ ((v = .slice none 0 0 ∧ us = []) ∨ ∃ ad cap, v = .slice (some ad) us.length cap ∧ ∀ j y, us[j]? = some y → w.cell? (ad.add j) = some y) ∧
    (∀ y ∈ us, y.oneCell' = true) ∧ ∀ i, i < n.length → ∃ x, us[i]? = some x ∧ Has w x (n.getD i []) := by
  rcases h with ⟨rfl, rfl⟩ | ⟨g, off, cap, rfl, _, _, _, hc⟩
  · exact ⟨[], rfl, .inl ⟨rfl, rfl⟩, by simp, by simp⟩
  · have key : ∀ m, m ≤ n.length → ∃ us : List Value, us.length = m ∧ (∀ j y, us[j]? = some y → w.cell? ⟨g, off + j, none⟩ = some y) ∧ (∀ y ∈ us, y.oneCell' = true) ∧ ∀ i, i < m → ∃ x, us[i]? = some x ∧ Has w x (n.getD i []) := by
      intro m
      induction m with
      | zero => intro _; exact ⟨[], rfl, by simp, by simp, by simp⟩
      | succ m ih =>
        intro hm
        obtain ⟨us, h1, h2, h3, h4⟩ := ih (by omega)
        obtain ⟨x, hx, hh⟩ := hc m (by omega)
        refine ⟨us ++ [x], by simp [h1], fun j y hj => ?_, fun y hy => ?_, fun i hi => ?_⟩
        · by_cases e : j < us.length
          · rw [List.getElem?_append_left e] at hj; exact h2 j y hj
          · rw [List.getElem?_append_right (by omega)] at hj
            have hj0 : j - us.length = 0 := by
              have := (List.getElem?_eq_some_iff.1 hj).1
              simp at this
              omega
            rw [hj0] at hj
            simp at hj
            subst hj
            have : j = m := by omega
            subst this
            exact hx
        · simp at hy
          rcases hy with hy | rfl
          · exact h3 y hy
          · obtain ⟨a, c, rfl, _⟩ := hh.form
            rfl
        · by_cases e : i < m
          · obtain ⟨y, k1, k2⟩ := h4 i e
            exact ⟨y, by rw [List.getElem?_append_left (by omega)]; exact k1, k2⟩
          · obtain rfl : i = m := by omega
            exact ⟨x, by rw [List.getElem?_append_right (by omega)]; simp [h1], hh⟩
    obtain ⟨us, h1, h2, h3, h4⟩ := key n.length (Nat.le_refl _)
    exact ⟨us, h1, .inr ⟨⟨g, off, none⟩, cap, by rw [h1], fun j y hj => by rw [Addr.add_lit]; exact h2 j y hj⟩, h3, h4⟩

/-- A row whose slices have their bytes. -/
theorem HasL.of_row {B : Nat} {el : TypeId} {w : World} {v : Value} {us : List Value} {ns : List (List Int)} (h : w.ownsRow B el 1 v ns.length us) (hu : ∀ i, i < ns.length → ∃ x, us[i]? = some x ∧ Has w x (ns.getD i [])) : HasL w v ns := by
  have h' := h
  rcases h.2 with ⟨rfl, h0⟩ | ⟨g, cap, cur, rfl, _, hg, hn, hm, _⟩
  · exact .inl ⟨rfl, List.eq_nil_of_length_eq_zero h0⟩
  · refine .inr ⟨g, 0, cap, rfl, (h'.lt g rfl).2, hn, hm, fun i hi => ?_⟩
    obtain ⟨x, h1, h2⟩ := hu i hi
    exact ⟨x, by rw [Nat.zero_add, World.ownsRow.cellAt h' i (by omega), h1], h2⟩

theorem reads_below {w W : World} {v : Value} {us : List Value} (hb : Below w.heap.size w W) (h : (v = .slice none 0 0 ∧ us = []) ∨ ∃ ad cap, v = .slice (some ad) us.length cap ∧ ∀ j y, us[j]? = some y → w.cell? (ad.add j) = some y) :
    (v = .slice none 0 0 ∧ us = []) ∨ ∃ ad cap, v = .slice (some ad) us.length cap ∧ ∀ j y, us[j]? = some y → W.cell? (ad.add j) = some y := by
  rcases h with h | ⟨ad, cap, hv, hc⟩
  · exact .inl h
  · exact .inr ⟨ad, cap, hv, fun j y hj => (hb.cell (cell_lt (hc j y hj))).trans (hc j y hj)⟩
end Go.Proofs.YtmnlhjdjjinbiaaGreat

namespace Go.Proofs.YtmnlhjdjjinbiaaGreat
open Go.RowKit

theorem cmpL_cases : ∀ (a b : List (List Int)), cmpL a b = -1 ∨ cmpL a b = 0 ∨ cmpL a b = 1
  | [], [] => .inr (.inl rfl)
  | [], _ :: _ => .inl rfl
  | _ :: _, [] => .inr (.inr rfl)
  | x :: a, y :: b => by
    unfold cmpL
    split
    · exact cmpB_cases x y
    · exact cmpL_cases a b
theorem cmpN_cases (a b : List (List Int)) : cmpN a b = -1 ∨ cmpN a b = 0 ∨ cmpN a b = 1 := by
  rw [cmpN_eq]
  exact cmpL_cases _ _
theorem nameCmp_ok {a b : List (List Int)} (ha : nameOk a = true) (hb : nameOk b = true) : nameCmp a b = cmpN a b := by
  unfold nameCmp
  rw [if_pos ⟨ha, hb⟩]
theorem nameCmp_no {a b : List (List Int)} (h : nameOk a = false ∨ nameOk b = false) : nameCmp a b = 0 := by
  unfold nameCmp
  rw [if_neg]
  rintro ⟨h1, h2⟩
  rcases h with h | h
  · rw [h] at h1
    cases h1
  · rw [h] at h2
    cases h2
theorem under_no {a b : List (List Int)} (h : nameOk a = false ∨ nameOk b = false) : under a b = false := by
  unfold under
  rcases h with h | h
  · rw [h]
    rfl
  · rw [h, Bool.false_and, Bool.and_false]
theorem text_same {a b : List (List Int)} (ha : nameOk a = true) (hb : nameOk b = true) : decide (nameText a = nameText b) = (cmpN a b == 0) := by
  rw [Bool.eq_iff_iff, decide_eq_true_iff, beq_iff_eq, nameText_inj ha hb, cmpN_zero (nameOk_bytes ha) (nameOk_bytes hb)]
theorem under_behind {a b : List (List Int)} (ha : nameOk a = true) (hb : nameOk b = true) (h : under a b = true) : ¬ cmpN a b < 0 := by
  obtain ⟨p, rfl⟩ := (under_iff ha hb).1 h
  by_cases hp : p = []
  · subst hp
    rw [List.nil_append, cmpN_self]
    omega
  · rw [cmpN_longer b p hp]
    omega
theorem under_parent {a : List (List Int)} (ha : nameOk a = true) : under a (a.drop 1) = true := (under_iff ha (nameOk_drop ha 1)).2 ⟨a.take 1, (List.take_append_drop 1 a).symm⟩
theorem parent_not {a : List (List Int)} (ha : nameOk a = true) (h0 : a.length ≠ 0) : under (a.drop 1) a = false := by
  cases h : under (a.drop 1) a with
  | false => rfl
  | true =>
    obtain ⟨p, hp⟩ := (under_iff (nameOk_drop ha 1) ha).1 h
    have := congrArg List.length hp
    simp at this
    omega
theorem child_ok {a : List (List Int)} {l : List Int} (ha : nameOk a = true) (h6 : a.length ≠ 6) (hl : labelOk l = true) : nameOk (l :: a) = true := by
  obtain ⟨h1, h2⟩ := nameOk_parts ha
  refine nameOk_yes (by simp; omega) fun j hj => ?_
  cases j with
  | zero => exact hl
  | succ j =>
    have := h2 j (by simpa using hj)
    simpa using this
theorem under_child {a : List (List Int)} {l : List Int} (ha : nameOk a = true) (hk : nameOk (l :: a) = true) : under (l :: a) a = true := (under_iff hk ha).2 ⟨[l], rfl⟩
theorem cmp_child {a : List (List Int)} {l : List Int} (ha : nameOk a = true) (hk : nameOk (l :: a) = true) : nameCmp (l :: a) a = 1 := by
  rw [nameCmp_ok hk ha]
  exact cmpN_longer a [l] (by simp)
theorem parent_child {a : List (List Int)} {l : List Int} (hk : nameOk (l :: a) = true) : parentOf (l :: a) = (a, true) := by
  rw [parentOf_yes hk (by simp)]
  rfl
theorem under_root {a : List (List Int)} (ha : nameOk a = true) : under a [] = true := (under_iff ha (by decide)).2 ⟨a, by simp⟩
end Go.Proofs.YtmnlhjdjjinbiaaGreat
