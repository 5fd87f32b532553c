/-
  Plain facts: a row of slices put behind another one; a name with one label more ahead. No program is named here. Contracts of the program's nameGot and NameGet.
-/
import Derived.Test.YtnloenkjfjlmeaaRrGetG06
import Derived.Test.YtnloenkjfjlmeaaRrGetG16
import Derived.Test.YtnloenkjfjlmeaaRrGetG03
import Derived.Test.YtnloenkjfjlmeaaRrGetG15
import Derived.Deep.LoopGhost
namespace Go.Proofs.Ytnloenkjfjlmeaa
open Go.RowKit

/-- A row whose values own their bytes, behind a growth of a row of another type. -/
theorem OwnL.of_row {B : Nat} {el eb : TypeId} {W w' : World} {row : Option Nat} {v' : Value} {us : List Value} {ns : List (List Int)} (g : W.grownBy w' row) (ho' : w'.ownsRow B el 1 v' ns.length us)
    (hu : ∀ i, i < ns.length → ∃ x, us[i]? = some x ∧ Own B eb W x (ns.getD i [])) (hd : ∀ (i j : Nat) (x x' : Value), i < j → us[i]? = some x → us[j]? = some x' → x.ownBlock = none ∨ x.ownBlock ≠ x'.ownBlock)
    (hrow : ∀ q, row = some q → ∃ c, W.heap[q]? = some (.cells c el)) (hne : el ≠ eb) : OwnL B el eb w' v' ns := by
  refine ⟨us, ho', fun i hi => ?_, hd⟩
  obtain ⟨x, h1, h2⟩ := hu i hi
  refine ⟨x, h1, h2.kept g ?_⟩
  cases hq : x.ownBlock with
  | none => exact .inl rfl
  | some q =>
    right
    intro e
    obtain ⟨c, hc⟩ := hrow q e.symm
    exact h2.apart hc hne hq

theorem row_block {B n : Nat} {e : TypeId} {w : World} {v : Value} {xs : List Value} (h : w.ownsRow B e 1 v n xs) : ∀ q, v.ownBlock = some q → ∃ c, w.heap[q]? = some (.cells c e) := by
  intro q hq
  rcases h.2 with ⟨rfl, _⟩ | ⟨g, cap, cur, rfl, _, hg, _⟩
  · simp [Value.ownBlock] at hq
  · simp [Value.ownBlock] at hq
    subst hq
    exact ⟨cur, hg⟩

/-- What an append of a row of slices reads. -/
theorem row_reads {B n : Nat} {e : TypeId} {w : World} {v : Value} {xs : List Value} (h : w.ownsRow B e 1 v n xs) : (v = .slice none 0 0 ∧ xs = []) ∨ ∃ ad cap, v = .slice (some ad) xs.length cap ∧ ∀ j y, xs[j]? = some y → w.cell? (ad.add j) = some y := by
  have hl : xs.length = n := by have := h.1; simpa using this
  have h' := h
  rcases h.2 with ⟨rfl, h0⟩ | ⟨g, cap, cur, rfl, _, hg, _⟩
  · exact .inl ⟨rfl, List.eq_nil_of_length_eq_zero (by omega)⟩
  · refine .inr ⟨⟨g, 0, none⟩, cap, by rw [hl], fun j y hj => ?_⟩
    have hjl := (List.getElem?_eq_some_iff.1 hj).1
    rw [Addr.add_lit, Nat.zero_add, World.ownsRow.cellAt h' j (by omega)]
    exact hj

section
variable {P : Program} {w : World}
/-- 'append(s, x...)' of slices, where no order is drawn. -/
theorem append_row {ops : Array Oper} {rest : List Oper} {o : Oper} {a : Act} {Q : Exit → Act → World → Prop} (hgd : o.guard = none) (s x : Operand) (t e : TypeId)
    (ho : o.op = .call { callee := .builtin .append, args := #[s, x], argTypes := #[t, t] }) (ht : P.underlying t = some (.slice e))
    (hinfo : (P.info? e).map (fun i => (i.zero, i.size, i.bytes)) = some (some (.slice none 0 0), 1, 24))
    (base : Nat) (v vx : Value) (xs us : List Value) (hs : a.eval s = v) (hx : a.eval x = vx) (hown : w.ownsRow base e 1 v xs.length xs)
    (hr : (vx = .slice none 0 0 ∧ us = []) ∨ ∃ ad cap, vx = .slice (some ad) us.length cap ∧ ∀ j y, us[j]? = some y → w.cell? (ad.add j) = some y) (hu : ∀ y ∈ us, y.oneCell' = true)
    (hlen : xs.length + us.length ≤ 1099511627776) (hbase : base ≤ w.heap.size)
    (h : ∀ v' w', w'.ownsRow base e 1 v' (xs.length + us.length) (xs ++ us) → w.grownBy w' v.ownBlock → wpList P ops Q rest (a.put o.dst v') w') : wpList P ops Q (o :: rest) a w := by
  obtain ⟨i0, hi, hz0, hz1, hz2⟩ := info_parts hinfo
  rcases hr with ⟨rfl, rfl⟩ | ⟨ad, cap, rfl, hc⟩
  · refine wpList_append_own_none hgd s x t ho base e i0 1 ht hi v xs.length xs hs hown hx ?_
    exact h v w (by simpa using hown) ⟨rfl, rfl, rfl, Nat.le_refl _, fun _ _ _ => rfl⟩
  · refine wpList_append_own w hgd s x t ho base e i0 (.slice none 0 0) 1 24 ht hi hz0 hz1 hz2 rfl (by decide) v xs.length xs hs hown ad us.length cap us hx (by simp) hc hu (by unfold maxLen; omega) (by omega) hbase ?_
    intro v' w' ho' hg _
    exact h v' w' ho' hg
end

/-- The values of a list of texts of the call's own are slices. -/
theorem own_one {B : Nat} {e : TypeId} {w : World} {v : Value} {l : List Int} (h : Own B e w v l) : v.oneCell' = true := by
  obtain ⟨a, cap, rfl, _⟩ := h.lies
  rfl

/-- A row of one slice, made anew. -/
theorem row_one (w : World) (B : Nat) (e : TypeId) (u : Value) (hB : B ≤ w.heap.size) : (w.alloc (.cells #[u] e)).ownsRow B e 1 (.slice (some ⟨w.heap.size, 0, none⟩) 1 1) 1 [u] := by
  have h := World.ownsRow_lit (base := B) (e := e) (size := 1) w #[u] 1 hB (by unfold maxLen; omega) (by simp)
  simpa using h

/-- n with one label more ahead. -/
def childOf (n : List (List Int)) (l : List Int) : List (List Int) × Bool := if nameOk n = true ∧ n.length ≠ 6 ∧ labelOk l = true then (l :: n, true) else ([], false)
theorem childOf_yes {n : List (List Int)} {l : List Int} (h : nameOk n = true) (h6 : n.length ≠ 6) (hl : labelOk l = true) : childOf n l = (l :: n, true) := by unfold childOf; rw [if_pos ⟨h, h6, hl⟩]
theorem childOf_no {n : List (List Int)} {l : List Int} (h : nameOk n = false ∨ n.length = 6 ∨ labelOk l = false) : childOf n l = ([], false) := by
  unfold childOf
  rw [if_neg]
  rintro ⟨h1, h2, h3⟩
  rcases h with h | h | h
  · rw [h1] at h; cases h
  · exact h2 h
  · rw [h3] at h; cases h
theorem cons_getD (n : List (List Int)) (l : List Int) (j : Nat) : (l :: n).getD (j + 1) [] = n.getD j [] := by simp [List.getD]
theorem nameOk_cons (n : List (List Int)) (l : List Int) (h : nameOk n = true) : nameOk (l :: n) = decide (n.length ≠ 6 ∧ labelOk l = true) := by
  obtain ⟨h1, h2⟩ := nameOk_parts h
  by_cases hc : n.length ≠ 6 ∧ labelOk l = true
  · rw [decide_eq_true hc]
    refine nameOk_yes (by simp; omega) fun j hj => ?_
    cases j with
    | zero => exact hc.2
    | succ j => rw [cons_getD]; exact h2 j (by simp at hj; omega)
  · rw [decide_eq_false hc]
    by_cases h6 : n.length = 6
    · exact nameOk_long (by simp; omega)
    · have hl : labelOk l = false := by
        cases hl : labelOk l with
        | false => rfl
        | true => exact absurd ⟨h6, hl⟩ hc
      exact nameOk_label (n := l :: n) (j := 0) (by simp) hl
theorem childOf_bound (n : List (List Int)) (l : List Int) : (childOf n l).1.length ≤ 6 ∧ ∀ i, i < (childOf n l).1.length → ((childOf n l).1.getD i []).length ≤ 15 := by
  unfold childOf
  split
  · rename_i h
    have hk := nameOk_cons n l h.1
    rw [decide_eq_true h.2] at hk
    obtain ⟨h1, h2⟩ := nameOk_parts hk
    exact ⟨h1, fun i hi => (labelOk_length (h2 i hi)).2⟩
  · simp

/-- A list of texts of the call's own, one more ahead. -/
theorem cons_step {B C m : Nat} {el eb : TypeId} {W w' : World} {vr v' u : Value} {n : List (List Int)} {l : List Int} {vs : List Value} (g : W.grownBy w' vr.ownBlock) (hr : W.ownsRow B el 1 vr 1 [u]) (ho' : w'.ownsRow B el 1 v' m (u :: vs)) (hm : m = 1 + n.length)
    (hu : OwnB B C eb W u l) (hvs : vs.length = n.length) (hva : ∀ i, i < n.length → ∃ x, vs[i]? = some x ∧ Own C eb W x (n.getD i [])) (hvd : ∀ (i j : Nat) (x x' : Value), i < j → vs[i]? = some x → vs[j]? = some x' → x.ownBlock = none ∨ x.ownBlock ≠ x'.ownBlock)
    (hBC : B ≤ C) (hne : el ≠ eb) : OwnL B el eb w' v' (l :: n) := by
  have e : m = (l :: n).length := by simp; omega
  rw [e] at ho'
  refine OwnL.of_row g (us := u :: vs) ho' (fun i hi => ?_) (fun i j x x' hij hx hx' => ?_) (row_block hr) hne
  · cases i with
    | zero => exact ⟨u, rfl, hu.1⟩
    | succ i =>
      obtain ⟨x, h1, h2⟩ := hva i (by simp at hi; omega)
      exact ⟨x, h1, by rw [cons_getD]; exact h2.mono hBC⟩
  · cases j with
    | zero => omega
    | succ j =>
      cases i with
      | zero =>
        simp at hx hx'
        subst hx
        have hj : j < n.length := by rw [← hvs]; exact (List.getElem?_eq_some_iff.1 hx').1
        obtain ⟨y, h1, h2⟩ := hva j hj
        rw [hx'] at h1
        obtain rfl : x' = y := by simpa using h1
        cases hq : u.ownBlock with
        | none => exact .inl rfl
        | some q =>
          right
          intro e
          have := hu.2 q hq
          have := (h2.lt q e.symm).1
          omega
      | succ i =>
        simp at hx hx'
        exact hvd i j x x' (by omega) hx hx'

/-- The slices of a list of texts. -/
theorem HasL.vals {w : World} {v : Value} {n : List (List Int)} (h : HasL w v n) : ∃ us : List Value, us.length = n.length ∧ ((v = .slice none 0 0 ∧ us = []) ∨ ∃ ad cap, v = .slice (some ad) us.length cap ∧ ∀ j y, us[j]? = some y → w.cell? (ad.add j) = some y) ∧
    (∀ y ∈ us, y.oneCell' = true) ∧ ∀ i, i < n.length → ∃ x, us[i]? = some x ∧ Has w x (n.getD i []) := by
  rcases h with ⟨rfl, rfl⟩ | ⟨g, off, cap, rfl, _, _, _, hc⟩
  · exact ⟨[], rfl, .inl ⟨rfl, rfl⟩, by simp, by simp⟩
  · have key : ∀ m, m ≤ n.length → ∃ us : List Value, us.length = m ∧ (∀ j y, us[j]? = some y → w.cell? ⟨g, off + j, none⟩ = some y) ∧ (∀ y ∈ us, y.oneCell' = true) ∧ ∀ i, i < m → ∃ x, us[i]? = some x ∧ Has w x (n.getD i []) := by
      intro m
      induction m with
      | zero => intro _; exact ⟨[], rfl, by simp, by simp, by simp⟩
      | succ m ih =>
        intro hm
        obtain ⟨us, h1, h2, h3, h4⟩ := ih (by omega)
        obtain ⟨x, hx, hh⟩ := hc m (by omega)
        refine ⟨us ++ [x], by simp [h1], fun j y hj => ?_, fun y hy => ?_, fun i hi => ?_⟩
        · by_cases e : j < us.length
          · rw [List.getElem?_append_left e] at hj; exact h2 j y hj
          · rw [List.getElem?_append_right (by omega)] at hj
            have hj0 : j - us.length = 0 := by
              have := (List.getElem?_eq_some_iff.1 hj).1
              simp at this
              omega
            rw [hj0] at hj
            simp at hj
            subst hj
            have : j = m := by omega
            subst this
            exact hx
        · simp at hy
          rcases hy with hy | rfl
          · exact h3 y hy
          · obtain ⟨a, c, rfl, _⟩ := hh.form
            rfl
        · by_cases e : i < m
          · obtain ⟨y, k1, k2⟩ := h4 i e
            exact ⟨y, by rw [List.getElem?_append_left (by omega)]; exact k1, k2⟩
          · obtain rfl : i = m := by omega
            exact ⟨x, by rw [List.getElem?_append_right (by omega)]; simp [h1], hh⟩
    obtain ⟨us, h1, h2, h3, h4⟩ := key n.length (Nat.le_refl _)
    exact ⟨us, h1, .inr ⟨⟨g, off, none⟩, cap, by rw [h1], fun j y hj => by rw [Addr.add_lit]; exact h2 j y hj⟩, h3, h4⟩

/-- A row whose slices have their bytes. -/
theorem HasL.of_row {B : Nat} {el : TypeId} {w : World} {v : Value} {us : List Value} {ns : List (List Int)} (h : w.ownsRow B el 1 v ns.length us) (hu : ∀ i, i < ns.length → ∃ x, us[i]? = some x ∧ Has w x (ns.getD i [])) : HasL w v ns := by
  have h' := h
  rcases h.2 with ⟨rfl, h0⟩ | ⟨g, cap, cur, rfl, _, hg, hn, hm, _⟩
  · exact .inl ⟨rfl, List.eq_nil_of_length_eq_zero h0⟩
  · refine .inr ⟨g, 0, cap, rfl, (h'.lt g rfl).2, hn, hm, fun i hi => ?_⟩
    obtain ⟨x, h1, h2⟩ := hu i hi
    exact ⟨x, by rw [Nat.zero_add, World.ownsRow.cellAt h' i (by omega), h1], h2⟩

theorem reads_below {w W : World} {v : Value} {us : List Value} (hb : Below w.heap.size w W) (h : (v = .slice none 0 0 ∧ us = []) ∨ ∃ ad cap, v = .slice (some ad) us.length cap ∧ ∀ j y, us[j]? = some y → w.cell? (ad.add j) = some y) :
    (v = .slice none 0 0 ∧ us = []) ∨ ∃ ad cap, v = .slice (some ad) us.length cap ∧ ∀ j y, us[j]? = some y → W.cell? (ad.add j) = some y := by
  rcases h with h | ⟨ad, cap, hv, hc⟩
  · exact .inl h
  · exact .inr ⟨ad, cap, hv, fun j y hj => (hb.cell (cell_lt (hc j y hj))).trans (hc j y hj)⟩
end Go.Proofs.Ytnloenkjfjlmeaa

namespace Go.Proofs.Ytnloenkjfjlmeaa
open Go.RowKit
set_option linter.unusedVariables false

/-- A slice with a row of its own, wherever. -/
def Row8 (w : World) (v : Value) (l : List Int) : Prop := ∃ B, Own B 5 w v l
theorem Row8.below {w w' : World} {v : Value} {l : List Int} (h : Row8 w v l) (hb : Below w.heap.size w w') : Row8 w' v l := h.elim fun B h => ⟨B, h.below hb⟩
theorem Row8.has {w : World} {v : Value} {l : List Int} (h : Row8 w v l) : Has w v l := h.elim fun B h => h.has
theorem Own.row8 {B : Nat} {w : World} {v : Value} {l : List Int} (h : Own B 5 w v l) : Row8 w v l := ⟨B, h⟩
theorem OwnB.row8 {C E : Nat} {w : World} {v : Value} {l : List Int} (h : OwnB C E 5 w v l) : Row8 w v l := ⟨C, h.1⟩

theorem info_sl6 : (Try.prog.info? 22).map (fun i => (i.zero, i.size, i.bytes)) = some (some (.slice none 0 0), 1, 24) := by kernel_rfl

set_option maxHeartbeats 800000 in
set_option maxRecDepth 100000 in
theorem nameGot_has {v : Value} {n : List (List Int)} (x : Int) {w : World} (h : HasL w v n) :
    Calls Try.prog 72 #[.agg #[v], .int .i64 x] w fun e w' => e = .returned (.tuple #[.agg #[if nameOk n = true then v else .slice none 0 0], .int .i64 (if nameOk n = true then x else -1)]) ∧ Below w.heap.size w w' := by
  obtain ⟨a, cap, rfl, hcl, hm⟩ := h.form
  unfold maxLen at hm
  obtain ⟨hsz, k0, r0⟩ := box2 w (.cells #[.slice a n.length cap] 25) #[.slice none 0 0] 25
  have b0 := below2 w (.cells #[.slice a n.length cap] 25) (.cells #[.slice none 0 0] 25)
  have h0 := hide (h.below b0)
  clear h
  cases hok : nameOk n with
  | false =>
    rw [if_neg (by simp), if_neg (by simp)]
    have HOK := hide hok
    clear hok
    go_enter Try.func72, Try.ntmps72
    go_wp2_with fail
    generalize (w.alloc (.cells #[.slice a n.length cap] 25)).alloc (.cells #[.slice none 0 0] 25) = W0 at *
    refine (implNameOk_has (unhide h0)).mono ?_
    rw [unhide HOK]
    rintro e w1 ⟨rfl, b1⟩
    have bb1 := below_next b0 b1
    have r1 := block_kept b1 r0
    have c1 := block_one r1
    have f1 := block_frozen r1 0
    have M1 := hide (block_set r1 (.slice none 0 0))
    clear b0 k0 h0 b1 r0 r1
    go_wp2_with fail
    refine bodyPost_ret (results_cell_tmp_row rfl _ _ (w.heap.size + 1) 25 #[.slice none 0 0] (0, 0) _ rfl (unhide M1) Try.underlying25 rfl (by kernel_rfl)) rfl ?_
    exact ⟨rfl, bb1.setCell (by show w.heap.size ≤ w.heap.size + 1; omega) _⟩
  | true =>
    rw [if_pos rfl, if_pos rfl]
    have HOK := hide hok
    clear hok
    go_enter Try.func72, Try.ntmps72
    go_wp2_with fail
    generalize (w.alloc (.cells #[.slice a n.length cap] 25)).alloc (.cells #[.slice none 0 0] 25) = W0 at *
    refine (implNameOk_has (unhide h0)).mono ?_
    rw [unhide HOK]
    rintro e w1 ⟨rfl, b1⟩
    have bb1 := below_next b0 b1
    have r1 := block_kept b1 r0
    have q1 := block_one (block_kept b1 k0)
    have c1 := block_one r1
    have f1 := block_frozen r1 0
    have M1 := hide (block_set r1 (.slice a n.length cap))
    clear b0 k0 h0 b1 r0 r1
    go_wp2_with fail
    refine bodyPost_ret (results_cell_tmp_row rfl _ _ (w.heap.size + 1) 25 #[.slice a n.length cap] (0, 0) _ rfl (unhide M1) Try.underlying25 rfl (by kernel_rfl)) rfl ?_
    exact ⟨rfl, bb1.setCell (by show w.heap.size ≤ w.heap.size + 1; omega) _⟩

/-- What stands at each pointer's place. -/
def GotO (l : List Int) (R : List (List Int) × Int) (w : World) (g : Nat) (p e h : Value) (wr : World) : Prop :=
  ∃ (n : List (List Int)) (pi ei : Int) (hi f : Nat) (o : Value), p = .int .i64 pi ∧ e = .int .i64 ei ∧ h = .int .i64 hi ∧ g + hi = 9 ∧ (hi ≤ 8 → getName l f n pi hi ei = R ∧ f + n.length + hi = 20) ∧ (hi = 9 → R = ([], -1)) ∧ n.length ≤ 6 ∧
    pi ≤ 9223372036854775807 ∧ -1 ≤ ei ∧ ei ≤ 512 ∧ (hi = 0 → ei = -1) ∧ (hi ≠ 0 → 0 ≤ ei) ∧ wr.heap[w.heap.size]? = some (.cells #[.slice none 0 0] 25) ∧ wr.heap[w.heap.size + 1]? = some (.cells #[o] 25) ∧
    OwnL (w.heap.size + 2) 22 5 wr o n ∧ Below w.heap.size w wr

/-- What stands at each label's place, behind hi pointers. -/
def GotN (l : List Int) (R : List (List Int) × Int) (w : World) (hi : Nat) (ei : Int) (g : Nat) (p e : Value) (wr : World) : Prop :=
  ∃ (n : List (List Int)) (pi : Int) (f : Nat) (o : Value), p = .int .i64 pi ∧ e = .int .i64 ei ∧ g + n.length = 7 ∧ (n.length ≤ 6 → getName l f n pi hi ei = R ∧ f + n.length + hi = 20) ∧ (n.length = 7 → R = ([], -1)) ∧
    pi ≤ 9223372036854775807 ∧ wr.heap[w.heap.size]? = some (.cells #[.slice none 0 0] 25) ∧ wr.heap[w.heap.size + 1]? = some (.cells #[o] 25) ∧
    OwnL (w.heap.size + 2) 22 5 wr o n ∧ Below w.heap.size w wr

set_option maxHeartbeats 8000000 in
set_option maxRecDepth 100000 in
theorem implNameGet_own {B : Nat} {v : Value} {l : List Int} (p : Int) {w : World} (h : Own B 5 w v l) (hl : l.length ≤ 1048576) (hp : p ≤ 9223372036854775807) (hb : Bytes8 l) :
    Calls Try.prog 27 #[v, .int .i64 p] w fun e w' => ∃ v', e = .returned (.tuple #[.agg #[v'], .int .i64 (nameGet l p).2]) ∧ OwnL w.heap.size 22 5 w' v' (nameGet l p).1 ∧ Below w.heap.size w w' := by
  by_cases h1 : 512 < l.length
  · have e1 : nameGet l p = ([], -1) := by unfold nameGet; rw [if_pos h1]
    rw [e1]
    have b0 := below_alloc (w := w) (.cells #[.slice none 0 0] 25)
    have k0 := heap_alloc_new w (.cells #[.slice none 0 0] 25)
    obtain ⟨a, cap, rfl, _⟩ := h.lies
    have h1' : (512 : Int) < (l.length : Int) := by omega
    have c0 := block_one k0
    have f0 := block_frozen k0 0
    have M0 := hide k0
    go_enter Try.func27, Try.ntmps27
    go_wp2_with fail
    go_step3
    go_wp2_with fail
    try rw [Exit.noGoto_ret]
    refine bodyPost_ret (results_cell_tmp_row rfl _ _ w.heap.size 25 #[.slice none 0 0] (0, 0) _ rfl (unhide M0) Try.underlying25 rfl (by kernel_rfl)) rfl ?_
    exact ⟨_, rfl, ⟨[], by simpa using World.ownsRow_nil _ _ _ _, by simp, by simp⟩, b0⟩
  have hR : nameGet l p = getName l 20 [] p 0 (-1) := by unfold nameGet; rw [if_neg h1]
  rw [hR]
  have h1' : ¬ (512 : Int) < (l.length : Int) := by omega
  have hl5 : l.length ≤ 512 := by omega
  obtain ⟨a, cap, rfl, hcl⟩ := h.lies
  have H := hide h
  clear h hcl hR h1
  have hB8 := hide hb
  clear hb
  generalize hR : getName l 20 [] p 0 (-1) = R
  have HR := hide hR
  clear hR
  obtain ⟨hsz, k0, r0⟩ := box2 w (.cells #[.slice none 0 0] 25) #[.slice none 0 0] 25
  have b0 := below2 w (.cells #[.slice none 0 0] 25) (.cells #[.slice none 0 0] 25)
  go_enter Try.func27, Try.ntmps27
  go_wp2
  go_step3
  go_wp2
  go_step3
  go_wp2
  generalize (w.alloc (.cells #[.slice none 0 0] 25)).alloc (.cells #[.slice none 0 0] 25) = W at *
  go_loopg [1, 7, 8] 9 (fun g p e h wr => GotO l R w g p e h wr)
  case atStart => exact ⟨[], p, -1, 0, 20, .slice none 0 0, rfl, rfl, rfl, rfl, fun _ => ⟨unhide HR, rfl⟩, by omega, by simp, hp, by omega, by omega, fun _ => rfl, by simp, k0, r0, ⟨[], by simpa using World.ownsRow_nil _ _ _ _, by simp, by simp⟩, b0⟩
  case round =>
    clear k0 r0 b0 HR hsz
    obtain ⟨n, pi, ei, hi, f, o, rfl, rfl, rfl, hg, hR1, hR2, hn6, hpi, he0, he1, he2, he3, kr, kn, ho, hbl⟩ := hrel
    by_cases hh : hi = 9
    · obtain rfl := hR2 hh
      subst hh
      clear hR1 hR2
      have cr := block_one kr
      have fr := block_frozen kr 0
      have M0 := hide (block_set kr (.slice none 0 0))
      go_wp2_with fail
      try rw [Exit.noGoto_ret]
      refine bodyPost_ret (results_cell_tmp_row rfl _ _ w.heap.size 25 #[.slice none 0 0] (0, 0) _ rfl (unhide M0) Try.underlying25 rfl (by kernel_rfl)) rfl ?_
      exact ⟨_, rfl, ⟨[], by simpa using World.ownsRow_nil _ _ _ _, by simp, by simp⟩, hbl.setCell (Nat.le_refl _) _⟩
    · have hh8 : hi ≤ 8 := by omega
      have hh8' : (hi : Int) ≤ 8 := by omega
      obtain ⟨G, rfl⟩ : ∃ G, gk = G + 1 := ⟨gk - 1, by omega⟩
      have START : GotN l R w hi ei (7 - n.length) (.int .i64 pi) (.int .i64 ei) wr := ⟨n, pi, f, o, rfl, rfl, by omega, fun _ => hR1 hh8, by omega, hpi, kr, kn, ho, hbl⟩
      have HST := hide START
      clear START kr kn ho hbl hR1 hR2
      have HE := hide (And.intro he2 he3)
      clear he2 he3
      go_wp2_with fail
      go_loopg [1, 7] (7 - n.length) (fun g p e wr => GotN l R w hi ei g p e wr)
      case atStart => exact unhide HST
      case round =>
        clear HST hn6
        obtain ⟨n, pi, f, o, rfl, rfl, hgn, hR1, hR2, hpi, kr, kn, ho, hbl⟩ := hrel
        by_cases hn7 : n.length = 7
        · obtain rfl := hR2 hn7
          obtain ⟨oa, oc, rfl, _⟩ := ho.hasL.form
          rw [hn7] at kn
          have cn := block_one kn
          have cr := block_one kr
          have fr := block_frozen kr 0
          have M0 := hide (block_set kr (.slice none 0 0))
          clear hn7 hR1 hR2 ho kn kr
          go_wp2_with fail
          try rw [Exit.noGoto_ret]
          refine bodyPost_ret (results_cell_tmp_row rfl _ _ w.heap.size 25 #[.slice none 0 0] (0, 0) _ rfl (unhide M0) Try.underlying25 rfl (by kernel_rfl)) rfl ?_
          exact ⟨_, rfl, ⟨[], by simpa using World.ownsRow_nil _ _ _ _, by simp, by simp⟩, hbl.setCell (Nat.le_refl _) _⟩
        · have hn6 : n.length ≤ 6 := by omega
          obtain ⟨hR, hf⟩ := hR1 hn6
          clear hR1 hR2 hn7
          obtain ⟨f, rfl⟩ : ∃ f', f = f' + 1 := ⟨f - 1, by omega⟩
          have hn6' : (n.length : Int) ≤ 6 := by omega
          obtain ⟨oa, oc, rfl, _⟩ := ho.hasL.form
          have cn := block_one kn
          have OK := hide ((unhide H).below hbl)
          have HO := hide ho
          clear ho
          have HP := hide (pointerGet_own pi (unhide OK) hl hpi (unhide hB8))
          have hpb := pointerOf_bound (unhide hB8) pi
          have EP := hide (fun hq => get_pointer (unhide hB8) (p := pi) hq f n hi ei)
          have EN := hide (fun hq hq2 => get_none (unhide hB8) (p := pi) hq hq2 f n hi ei)
          have EE := hide (fun hq hq2 => get_end (unhide hB8) (p := pi) hq hq2 f n hi ei)
          have EL := hide (fun hq hq2 => get_label (unhide hB8) (p := pi) hq hq2 f n hi ei)
          have HL := hide (fun (w' : World) (o : Own B 5 w' (.slice a l.length cap) l) => labelGet_own pi o hl hpi (unhide hB8))
          have hlb := labelOf_bound (unhide hB8) pi
          generalize (pointerOf l pi).1 = t at *
          generalize (pointerOf l pi).2 = bh at *
          generalize (labelOf l pi).1 = lab at *
          generalize (labelOf l pi).2 = nx at *
          obtain ⟨hpb1, hpb2⟩ := hpb
          obtain ⟨hlb1, hlb2⟩ := hlb
          by_cases hbh : 0 ≤ bh
          · have HRR := hide ((unhide EP hbh).symm.trans hR)
            clear hR EP EN EE EL HL
            by_cases hi0 : hi = 0
            · have hei := (unhide HE).1 hi0
              subst hi0
              subst hei
              go_wp2_with fail
              refine (unhide HP).mono ?_
              rintro e w1 ⟨rfl, b1⟩
              have bb1 := below_next hbl b1
              have k1 := block_kept b1 kr
              have kn1 := block_kept b1 kn
              have O1 := hide ((unhide HO).below b1)
              have OK1 := hide ((unhide OK).below b1)
              have z1 := b1.size
              clear kr kn cn b1 HO OK
              go_wp2_with fail
              go_roundg G
              case measure => omega
              case rel =>
                have hR := unhide HRR
                rw [if_neg (by omega), if_pos (by omega)] at hR
                exact ⟨n, t, bh, 1, f, _, rfl, rfl, rfl, by omega, fun _ => ⟨hR, by omega⟩, by omega, hn6, by omega, by omega, by omega, by omega, fun _ => hbh, k1, kn1, unhide O1, bb1⟩
            · have hei := (unhide HE).2 hi0
              have hi1 : ((hi : Int) == 0) = false := by rw [beq_eq_false_iff_ne]; omega
              go_wp2_with fail
              refine (unhide HP).mono ?_
              rintro e w1 ⟨rfl, b1⟩
              have bb1 := below_next hbl b1
              have k1 := block_kept b1 kr
              have kn1 := block_kept b1 kn
              have O1 := hide ((unhide HO).below b1)
              have OK1 := hide ((unhide OK).below b1)
              have z1 := b1.size
              clear kr kn cn b1 HO OK
              go_wp2_with fail
              go_roundg G
              case measure => omega
              case rel =>
                have hR := unhide HRR
                rw [if_neg (show ¬ ei < 0 by omega)] at hR
                refine ⟨n, t, ei, hi + 1, f, _, rfl, rfl, by go_num, by omega, fun h8 => ?_, fun h9 => ?_, hn6, by omega, by omega, by omega, by omega, fun _ => hei, k1, kn1, unhide O1, bb1⟩
                · rw [if_neg (by omega)] at hR
                  exact ⟨hR, by omega⟩
                · rw [if_pos (by omega)] at hR
                  exact hR.symm
          · have hbh' : bh < 0 := by omega
            by_cases hnx : nx < 0
            · obtain rfl := (unhide EN hbh' hnx).symm.trans hR
              clear hR EP EN EE EL
              go_wp2_with fail
              refine (unhide HP).mono ?_
              rintro e w1 ⟨rfl, b1⟩
              have bb1 := below_next hbl b1
              have k1 := block_kept b1 kr
              have kn1 := block_kept b1 kn
              have O1 := hide ((unhide HO).below b1)
              have OK1 := hide ((unhide OK).below b1)
              have z1 := b1.size
              clear kr kn cn b1 HO OK
              go_wp2_with fail
              refine (unhide HL _ (unhide OK1)).mono ?_
              rintro e w2 ⟨v2, rfl, o2, b2⟩
              obtain ⟨va, vc, rfl, _⟩ := o2.lies
              have OT := hide o2
              have bb2 := below_next bb1 b2
              have k2 := block_kept b2 k1
              have kn2 := block_kept b2 kn1
              have z2 := b2.size
              clear o2
              have c2 := block_one k2
              have f2 := block_frozen k2 0
              have M2 := hide (block_set k2 (.slice none 0 0))
              clear k1 kn1 k2 kn2 b2
              go_wp2_with fail
              try rw [Exit.noGoto_ret]
              refine bodyPost_ret (results_cell_tmp_row rfl _ _ w.heap.size 25 #[.slice none 0 0] (0, 0) _ rfl (unhide M2) Try.underlying25 rfl (by kernel_rfl)) rfl ?_
              exact ⟨_, rfl, ⟨[], by simpa using World.ownsRow_nil _ _ _ _, by simp, by simp⟩, bb2.setCell (Nat.le_refl _) _⟩
            · have hnx' : 0 ≤ nx := by omega
              by_cases hla : lab.length = 0
              · have hRE := (unhide EE hnx' hla).symm.trans hR
                clear hR EP EN EE EL
                have hla' : (((lab.length : Nat) : Int) == 0) = true := by rw [hla]; rfl
                clear hla
                have HEE : (if ei < 0 then nx else ei) = (if hi = 0 then nx else ei) := by
                  by_cases hi0 : hi = 0
                  · rw [if_pos hi0, if_pos (by have := (unhide HE).1 hi0; omega)]
                  · rw [if_neg hi0, if_neg (by have := (unhide HE).2 hi0; omega)]
                rw [HEE] at hRE
                clear HEE
                cases hok : nameOk n with
                | false =>
                  rw [hok, if_neg (by simp)] at hRE
                  obtain rfl := hRE
                  have hN := fun (x : Int) (w : World) (h : HasL w (.slice oa n.length oc) n) => nameGot_has x h
                  simp only [hok, Bool.false_eq_true, if_false] at hN
                  have NG := hide hN
                  clear hN hok
                  by_cases hi0 : ((hi : Int) == 0) = true
                  all_goals
                    try (have hi1 : ((hi : Int) == 0) = false := by simpa using hi0)
                    go_wp2_with fail
                    refine (unhide HP).mono ?_
                    rintro e w1 ⟨rfl, b1⟩
                    have bb1 := below_next hbl b1
                    have k1 := block_kept b1 kr
                    have kn1 := block_kept b1 kn
                    have O1 := hide ((unhide HO).below b1)
                    have OK1 := hide ((unhide OK).below b1)
                    have z1 := b1.size
                    clear kr kn cn b1 HO OK
                    go_wp2_with fail
                    refine (unhide HL _ (unhide OK1)).mono ?_
                    rintro e w2 ⟨v2, rfl, o2, b2⟩
                    obtain ⟨va, vc, rfl, _⟩ := o2.lies
                    have OT := hide o2
                    have bb2 := below_next bb1 b2
                    have k2 := block_kept b2 k1
                    have kn2 := block_kept b2 kn1
                    have z2 := b2.size
                    clear o2
                    have cn2 := block_one kn2
                    have O2 := hide ((unhide O1).below b2)
                    clear kn1 k1 b2
                    go_wp2_with fail
                    refine (unhide NG _ _ (unhide O2).hasL).mono ?_
                    rintro e w3 ⟨rfl, b3⟩
                    have k3 := block_kept b3 k2
                    have c3 := block_one k3
                    have f3 := block_frozen k3 0
                    have M3 := hide (block_set k3 (.slice none 0 0))
                    have bb3 := below_next bb2 b3
                    clear k2 kn2 cn2 k3 b3
                    go_wp2_with fail
                    try rw [Exit.noGoto_ret]
                    refine bodyPost_ret (results_cell_tmp_row rfl _ _ w.heap.size 25 #[.slice none 0 0] (0, 0) _ rfl (unhide M3) Try.underlying25 rfl (by kernel_rfl)) rfl ?_
                    exact ⟨_, rfl, ⟨[], by simpa using World.ownsRow_nil _ _ _ _, by simp, by simp⟩, bb3.setCell (Nat.le_refl _) _⟩
                | true =>
                  rw [hok, if_pos rfl] at hRE
                  have hN := fun (x : Int) (w : World) (h : HasL w (.slice oa n.length oc) n) => nameGot_has x h
                  simp only [hok, if_true] at hN
                  have NG := hide hN
                  clear hN hok
                  by_cases hi0 : hi = 0
                  all_goals
                    first | rw [if_pos hi0] at hRE | rw [if_neg hi0] at hRE
                    obtain rfl := hRE
                    first
                      | (have hi1 : ((hi : Int) == 0) = true := by rw [hi0]; rfl)
                      | (have hi1 : ((hi : Int) == 0) = false := by rw [beq_eq_false_iff_ne]; omega)
                    clear hi0
                    go_wp2_with fail
                    refine (unhide HP).mono ?_
                    rintro e w1 ⟨rfl, b1⟩
                    have bb1 := below_next hbl b1
                    have k1 := block_kept b1 kr
                    have kn1 := block_kept b1 kn
                    have O1 := hide ((unhide HO).below b1)
                    have OK1 := hide ((unhide OK).below b1)
                    have z1 := b1.size
                    clear kr kn cn b1 HO OK
                    go_wp2_with fail
                    refine (unhide HL _ (unhide OK1)).mono ?_
                    rintro e w2 ⟨v2, rfl, o2, b2⟩
                    obtain ⟨va, vc, rfl, _⟩ := o2.lies
                    have OT := hide o2
                    have bb2 := below_next bb1 b2
                    have k2 := block_kept b2 k1
                    have kn2 := block_kept b2 kn1
                    have z2 := b2.size
                    clear o2
                    have cn2 := block_one kn2
                    have O2 := hide ((unhide O1).below b2)
                    clear kn1 k1 b2
                    go_wp2_with fail
                    refine (unhide NG _ _ (unhide O2).hasL).mono ?_
                    rintro e w3 ⟨rfl, b3⟩
                    have k3 := block_kept b3 k2
                    have c3 := block_one k3
                    have f3 := block_frozen k3 0
                    have M3 := hide (block_set k3 (.slice oa n.length oc))
                    have bb3 := below_next bb2 b3
                    have z3 := block_lt k3
                    have O3 := hide ((unhide O2).below b3)
                    clear k2 kn2 cn2 k3 b3
                    go_wp2_with fail
                    try rw [Exit.noGoto_ret]
                    refine bodyPost_ret (results_cell_tmp_row rfl _ _ w.heap.size 25 #[.slice oa n.length oc] (0, 0) _ rfl (unhide M3) Try.underlying25 rfl (by kernel_rfl)) rfl ?_
                    exact ⟨_, rfl, ((unhide O3).kept (grown_setCell _ _ _) (by show w.heap.size < _; omega)).mono (by omega), bb3.setCell (Nat.le_refl _) _⟩
              · have HRR := hide ((unhide EL hnx' hla).symm.trans hR)
                clear hR EP EN EE EL
                have hla' : (((lab.length : Nat) : Int) == 0) = false := by rw [beq_eq_false_iff_ne]; omega
                clear hla
                go_wp2_with fail
                refine (unhide HP).mono ?_
                rintro e w1 ⟨rfl, b1⟩
                have bb1 := below_next hbl b1
                have k1 := block_kept b1 kr
                have kn1 := block_kept b1 kn
                have O1 := hide ((unhide HO).below b1)
                have OK1 := hide ((unhide OK).below b1)
                have z1 := b1.size
                clear kr kn cn b1 HO OK
                go_wp2_with fail
                refine (unhide HL _ (unhide OK1)).mono ?_
                rintro e w2 ⟨v2, rfl, o2, b2⟩
                obtain ⟨va, vc, rfl, _⟩ := o2.lies
                have OT := hide o2
                have bb2 := below_next bb1 b2
                have k2 := block_kept b2 k1
                have kn2 := block_kept b2 kn1
                have z2 := b2.size
                clear o2
                have cn2 := block_one kn2
                have zn := block_lt kn1
                have B2 := hide b2
                obtain ⟨vs, hvs, hva, hvd⟩ := unhide O1
                have hvl : vs.length = n.length := by have := hvs.1; simpa using this
                have HVS := hide hvs
                have HVA := hide hva
                have HVD := hide hvd
                have KN2 := hide kn2
                have K1 := hide k1
                clear hvs hva hvd b2 kn2 k2 k1 kn1
                go_wp2_with (at_builtin; refine append_row rfl _ _ 23 22 rfl Try.underlying23 info_sl6 (w.heap.size + 2) (.slice oa n.length oc) _ vs [.slice va lab.length vc] rfl rfl (by rw [hvl]; exact World.ownsRow.alloc (ownsRow_kept' (unhide HVS) (unhide B2)) _) (one_more w2 22 _) (by intro y hy; simp at hy; subst hy; rfl) (by rw [hvl]; simp; omega) (by have := (unhide B2).size; simp; omega) ?_)
                intro v3 w3 o3 g3
                obtain ⟨p3, k3, y3⟩ := snoc_step g3 o3 (by omega) (unhide HVS) (unhide HVA) (unhide HVD) ((unhide B2).alloc (unhide B2).size _) ((unhide OT).alloc _) (by omega) (by decide) (block_kept (below_alloc _) (unhide KN2)) (by decide)
                obtain ⟨v3a, v3c, rfl, _⟩ := p3.hasL.form
                have co3 := block_one k3
                have fo3 := block_frozen k3 0
                have K3 := hide k3
                clear g3 o3 k3
                go_wp2_with fail
                obtain ⟨g', rfl⟩ : ∃ g', gk = g' + 1 := ⟨gk - 1, by omega⟩
                go_roundg g'
                case measure => omega
                case rel =>
                  have hR := unhide HRR
                  have k0 := (y3.block w.heap.size (by omega)).trans (unhide K1)
                  simp only [List.length_append, List.length_cons, List.length_nil] at p3
                  refine ⟨n ++ [lab], nx, f, _, rfl, rfl, by simp; omega, fun h6 => ?_, fun h7 => ?_, by omega, block_other k0 (by omega) 0 _, block_set (unhide K3) _, ?_, (bb1.trans (y3.mono (by omega))).setCell (by show w.heap.size ≤ w.heap.size + 1; omega) _⟩
                  · simp at h6
                    rw [if_neg (by omega)] at hR
                    exact ⟨hR, by simp; omega⟩
                  · simp at h7
                    rw [if_pos (by omega)] at hR
                    exact hR.symm
                  · exact p3.kept (grown_setCell _ _ _) (by show w.heap.size + 1 < _; omega)
end Go.Proofs.Ytnloenkjfjlmeaa
