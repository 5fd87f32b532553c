/-
  Contracts of the specification's draws of chapter 1: l1Once, l1PickInt, l1some. Plain facts: an own row of texts that are only looked at, whoever owns them (constant texts among them).
-/
import Derived.Test.YtkhiklemhkeakaaDoorFnSumsG26
import Derived.Test.YtkhiklemhkeakaaDoorFnSumsG09
import Derived.Test.YtkhiklemhkeakaaDoorFnSumsG19
namespace Go.Proofs.YtkhiklemhkeakaaDoor
open Go.RowKit
set_option linter.unusedVariables false

set_option maxHeartbeats 400000 in
set_option maxRecDepth 100000 in
theorem l1Once_any {g : Nat} {a : Option Addr} {len cap : Nat} {w : World} (n : Int) (hc : Cur w g a len cap) (hL : Code w g a len) (hm : len ≤ maxLen) (hn0 : 1 ≤ n) (hn1 : n ≤ 1099511627776) :
    Calls Tryd.prog 17 #[.pointer (some ⟨g, 0, none⟩), .int .i64 n] w fun e w' => ∃ x : Bool, e = .returned (.bool x) ∧ Cur w' g a len cap ∧ w.grownBy w' (some g) := by
  have HM := hide hm
  clear hm
  go_enter Tryd.func17, Tryd.ntmps17
  go_wp2_with fail
  refine (l1Below_any n hc hL (unhide HM) hn0 hn1).mono ?_
  rintro e w1 ⟨x, rfl, hx0, hx1, hc1, g1⟩
  go_wp2
  go_ret
  exact ⟨_, rfl, hc1, g1⟩

set_option maxHeartbeats 400000 in
set_option maxRecDepth 100000 in
theorem l1PickInt_any {g : Nat} {a : Option Addr} {len cap : Nat} {w : World} (gl n : Nat) (hc : Cur w g a len cap) (hL : Code w g a len) (hm : len ≤ maxLen) (hn0 : 1 ≤ n) (hn1 : n ≤ 1048576) (hlt : gl < w.heap.size) (hgl : g < gl)
    (hcell : ∀ j, j < n → ∃ z, w.cell? ⟨gl, j, none⟩ = some (.int .i64 z)) :
    Calls Tryd.prog 18 #[.pointer (some ⟨g, 0, none⟩), .slice (some ⟨gl, 0, none⟩) n n] w fun e w' => ∃ z, e = .returned (.int .i64 z) ∧ Cur w' g a len cap ∧ w.grownBy w' (some g) := by
  have HM := hide hm
  clear hm
  have HC := hide hcell
  clear hcell
  go_enter Tryd.func18, Tryd.ntmps18
  go_wp2_with fail
  refine (l1Below_any n hc hL (unhide HM) (by omega) (by omega)).mono ?_
  rintro e w1 ⟨x, rfl, hx0, hx1, hc1, g1⟩
  obtain ⟨j, rfl⟩ := Int.eq_ofNat_of_zero_le hx0
  obtain ⟨z, hz⟩ := (unhide HC) j (by omega)
  have hz1 : w1.cell? ⟨gl, j, none⟩ = some (.int .i64 z) := by
    rw [World.cell?_of_block (w := w) (g1.block gl hlt (by simp; omega))]; exact hz
  clear hz
  go_wp2
  go_ret
  exact ⟨z, rfl, hc1, g1⟩

theorem below_cursor {w w1 w2 : World} {row : Option Nat} (hb : Below w.heap.size w w1) (hg : w1.grownBy w2 row) (hr : ∀ j, row = some j → w.heap.size ≤ j) : Below w.heap.size w w2 := hb.grown hg hb.size hr
end Go.Proofs.YtkhiklemhkeakaaDoor

namespace Go.Proofs.YtkhiklemhkeakaaDoor
open Go.RowKit
set_option linter.unusedVariables false

/-- The block of a text holds cells of the type eb, marked or not. -/
def Typed (eb : TypeId) (w : World) (x : Value) : Prop := ∀ g off len cap, x = .slice (some ⟨g, off, none⟩) len cap → ∃ c fr, w.heap[g]? = some (.cells c eb fr)
/-- The row is owned, from block B on; each of its texts has its bytes. -/
def OwnT (B : Nat) (el eb : TypeId) (w : World) (v : Value) (n : List (List Int)) : Prop :=
  ∃ vs : List Value, w.ownsRow B el 1 v n.length vs ∧ ∀ i, i < n.length → ∃ x, vs[i]? = some x ∧ Has w x (n.getD i []) ∧ Typed eb w x
theorem Typed.nil (eb : TypeId) (w : World) : Typed eb w (.slice none 0 0) := fun g off len cap e => by cases e
theorem Typed.below {eb : TypeId} {w w' : World} {x : Value} (h : Typed eb w x) (hb : Below w.heap.size w w') : Typed eb w' x := fun g off len cap e => by
  obtain ⟨c, fr, h1⟩ := h g off len cap e
  exact ⟨c, fr, (hb.block g (block_lt h1)).trans h1⟩
theorem Own.typed {B : Nat} {eb : TypeId} {w : World} {x : Value} {l : List Int} (h : Own B eb w x l) : Typed eb w x := fun g off len cap e => by
  rcases h.2 with ⟨h1, _⟩ | ⟨g', cap', cur, h1, _, h2, _⟩
  · rw [h1] at e; cases e
  · rw [h1] at e; cases e
    exact ⟨_, _, h2⟩
theorem OwnL.ownT {B : Nat} {el eb : TypeId} {w : World} {v : Value} {n : List (List Int)} (h : OwnL B el eb w v n) : OwnT B el eb w v n := by
  obtain ⟨vs, h1, h2, _⟩ := h
  refine ⟨vs, h1, fun i hi => ?_⟩
  obtain ⟨x, h3, h4⟩ := h2 i hi
  exact ⟨x, h3, h4.has, h4.typed⟩
theorem OwnT.mono {B B' : Nat} {el eb : TypeId} {w : World} {v : Value} {n : List (List Int)} (h : OwnT B el eb w v n) (hB : B' ≤ B) : OwnT B' el eb w v n := by
  obtain ⟨vs, h1, h2⟩ := h
  exact ⟨vs, ownsRow_mono h1 hB, h2⟩
theorem OwnT.below {B : Nat} {el eb : TypeId} {w w' : World} {v : Value} {n : List (List Int)} (h : OwnT B el eb w v n) (hb : Below w.heap.size w w') : OwnT B el eb w' v n := by
  obtain ⟨vs, h1, h2⟩ := h
  refine ⟨vs, ownsRow_kept' h1 hb, fun i hi => ?_⟩
  obtain ⟨x, h3, h4, h5⟩ := h2 i hi
  exact ⟨x, h3, h4.below hb, h5.below hb⟩
theorem row_apartF {B b n : Nat} {e t : TypeId} {w : World} {v : Value} {xs : List Value} {c : Array Value} {fr : Nat × Nat} (h : w.ownsRow B e 1 v n xs) (hb : w.heap[b]? = some (.cells c t fr)) (hne : t ≠ e) : v.ownBlock ≠ some b := by
  intro hq
  rcases h.2 with ⟨rfl, _⟩ | ⟨g, cap, cur, rfl, _, hg, _⟩
  · simp [Value.ownBlock] at hq
  · simp [Value.ownBlock] at hq
    subst hq
    rw [hg] at hb
    simp at hb
    exact hne hb.2.1.symm
/-- What a text has stays, where a row of slices is written. -/
theorem Has.off_row {B n : Nat} {el eb : TypeId} {w w' : World} {v x : Value} {xs : List Value} {l : List Int} (hr : w.ownsRow B el 1 v n xs) (hne : eb ≠ el) (h : Has w x l) (ht : Typed eb w x) (hg : w.grownBy w' v.ownBlock) : Has w' x l ∧ Typed eb w' x := by
  have key : ∀ g off len cap, x = .slice (some ⟨g, off, none⟩) len cap → w'.heap[g]? = w.heap[g]? := fun g off len cap e => by
    obtain ⟨c, fr, h1⟩ := ht g off len cap e
    have := row_apartF hr h1 hne
    exact hg.block g (block_lt h1) (fun q => this q.symm)
  refine ⟨?_, fun g off len cap e => ?_⟩
  · rcases h with h | ⟨g, off, cap, e, h1, h2, h3, h4⟩
    · exact .inl h
    · refine .inr ⟨g, off, cap, e, Nat.lt_of_lt_of_le h1 hg.size, h2, h3, fun i hi => ?_⟩
      have hc := h4 i hi
      unfold World.cell? at hc ⊢
      rw [key g off _ cap e]
      exact hc
  · obtain ⟨c, fr, h1⟩ := ht g off len cap e
    exact ⟨c, fr, (key g off len cap e).trans h1⟩
/-- One text more. W: the world in which the append's second argument has been laid. -/
theorem OwnT.snoc {B m : Nat} {el eb : TypeId} {W w' : World} {v v' u : Value} {n : List (List Int)} {l : List Int} {vs : List Value} (hvs : W.ownsRow B el 1 v n.length vs) (hva : ∀ i, i < n.length → ∃ x, vs[i]? = some x ∧ Has W x (n.getD i []) ∧ Typed eb W x)
    (hu : Has W u l) (htu : Typed eb W u) (hne : eb ≠ el) (ho : w'.ownsRow B el 1 v' m (vs ++ [u])) (hm : m = n.length + 1) (hg : W.grownBy w' v.ownBlock) : OwnT B el eb w' v' (n ++ [l]) := by
  have hl : vs.length = n.length := by have := hvs.1; simpa using this
  subst hm
  refine ⟨vs ++ [u], by simpa using ho, fun i hi => ?_⟩
  simp at hi
  by_cases h : i < n.length
  · obtain ⟨x, h1, h2, h3⟩ := hva i h
    have := Has.off_row hvs hne h2 h3 hg
    refine ⟨x, by rw [List.getElem?_append_left (by omega)]; exact h1, ?_, this.2⟩
    rw [List.getD_eq_getElem?_getD, List.getElem?_append_left h, ← List.getD_eq_getElem?_getD]
    exact this.1
  · obtain rfl : i = n.length := by omega
    have := Has.off_row hvs hne hu htu hg
    refine ⟨u, by rw [← hl]; simp, ?_, this.2⟩
    rw [List.getD_eq_getElem?_getD]
    simp
    exact this.1
/-- Where another block's cell is written, all stays. -/
theorem Has.off_cell {eb t : TypeId} {w : World} {x : Value} {l : List Int} {q j : Nat} {c : Array Value} (h : Has w x l) (ht : Typed eb w x) (hk : w.heap[q]? = some (.cells c t)) (hne : t ≠ eb) (u : Value) : Has (w.setCell ⟨q, j, none⟩ u) x l ∧ Typed eb (w.setCell ⟨q, j, none⟩ u) x := by
  have hg := grown_setCell w ⟨q, j, none⟩ u
  have key : ∀ g off len cap, x = .slice (some ⟨g, off, none⟩) len cap → (w.setCell ⟨q, j, none⟩ u).heap[g]? = w.heap[g]? := fun g off len cap e => by
    obtain ⟨c', fr, h1⟩ := ht g off len cap e
    refine hg.block g (block_lt h1) ?_
    intro e'
    have e2 : g = q := by simpa using e'
    subst e2
    rw [hk] at h1
    simp at h1
    exact hne h1.2.1
  refine ⟨?_, fun g off len cap e => ?_⟩
  · rcases h with h | ⟨g, off, cap, e, h1, h2, h3, h4⟩
    · exact .inl h
    · refine .inr ⟨g, off, cap, e, Nat.lt_of_lt_of_le h1 hg.size, h2, h3, fun i hi => ?_⟩
      have hc := h4 i hi
      unfold World.cell? at hc ⊢
      rw [key g off _ cap e]
      exact hc
  · obtain ⟨c', fr, h1⟩ := ht g off len cap e
    exact ⟨c', fr, (key g off len cap e).trans h1⟩
theorem OwnT.set {B q j : Nat} {el eb t : TypeId} {w : World} {v : Value} {n : List (List Int)} {c : Array Value} (h : OwnT B el eb w v n) (hk : w.heap[q]? = some (.cells c t)) (h1 : t ≠ el) (h2 : t ≠ eb) (u : Value) : OwnT B el eb (w.setCell ⟨q, j, none⟩ u) v n := by
  obtain ⟨vs, h3, h4⟩ := h
  have hap := row_apart h3 hk h1
  refine ⟨vs, World.ownsRow.kept h3 (grown_setCell w ⟨q, j, none⟩ u) (by cases hq : v.ownBlock with | none => exact .inl rfl | some r => exact .inr (by intro e; simp at e; rw [hq, e] at hap; exact hap rfl)), fun i hi => ?_⟩
  obtain ⟨x, h5, h6, h7⟩ := h4 i hi
  have := Has.off_cell (j := j) h6 h7 hk h2 u
  exact ⟨x, h5, this.1, this.2⟩
end Go.Proofs.YtkhiklemhkeakaaDoor
