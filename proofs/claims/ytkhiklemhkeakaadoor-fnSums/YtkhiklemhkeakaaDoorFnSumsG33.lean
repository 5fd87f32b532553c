/-
  Plain facts for l2bent: one label more in the box of a name that is drawn. Plain facts: in a region whose order is open, a load may be taken first, even if what waits for it writes the cell that it reads. No program is named here.
-/
import Derived.Test.YtkhiklemhkeakaaDoorFnSumsG26
import Derived.Test.YtkhiklemhkeakaaDoorFnSumsG32
import Derived.Test.YtkhiklemhkeakaaDoorFnSumsG30
import Derived.Test.YtkhiklemhkeakaaDoorFnSumsG01
import Derived.OrdersHeld
import Derived.RegionTactic
namespace Go.Proofs.YtkhiklemhkeakaaDoor
open Go.RowKit
set_option linter.unusedVariables false

theorem snoc_bound {n : List (List Int)} {l : List Int} {k : Nat} (h : ∀ i, i < n.length → (n.getD i []).length ≤ k) (hl : l.length ≤ k) : ∀ i, i < (n ++ [l]).length → ((n ++ [l]).getD i []).length ≤ k := by
  intro i hi
  simp at hi
  by_cases h1 : i < n.length
  · rw [List.getD_eq_getElem?_getD, List.getElem?_append_left h1, ← List.getD_eq_getElem?_getD]
    exact h i h1
  · obtain rfl : i = n.length := by omega
    rw [List.getD_eq_getElem?_getD]
    simpa using hl
theorem typed_const (w : World) (eb : TypeId) (C : Array Value) (fr : Nat × Nat) (n c : Nat) : Typed eb (w.alloc (.cells C eb fr)) (.slice (some ⟨w.heap.size, 0, none⟩) n c) := fun g off len cap e => by
  cases e
  exact ⟨C, fr, heap_alloc_new w (.cells C eb fr)⟩
theorem OwnT.form {B : Nat} {el eb : TypeId} {w : World} {v : Value} {n : List (List Int)} (h : OwnT B el eb w v n) : ∃ oa oc, v = .slice oa n.length oc := by
  obtain ⟨vs, h1, _⟩ := h
  rcases h1.2 with ⟨rfl, h0⟩ | ⟨g, cap, _, rfl, _⟩
  · exact ⟨none, 0, by rw [h0]⟩
  · exact ⟨_, cap, rfl⟩
/-- The loop of the last bend: k labels are still to come. -/
def BentL (w W w1 : World) (g : Nat) (a : Option Addr) (len cap : Nat) (k : Nat) (wr : World) : Prop :=
  ∃ (n : List (List Int)) (v : Value), n.length + k = 7 ∧ (∀ i, i < n.length → (n.getD i []).length ≤ 16) ∧ wr.heap[w1.heap.size]? = some (.cells #[v] 27) ∧ wr.heap[w.heap.size]? = some (.cells #[.slice none 0 0] 27)
    ∧ OwnT W.heap.size 22 5 wr v n ∧ Cur wr g a len cap ∧ w.grownBy wr (some g)
/-- One label more in the box of n: what the append and the store leave. -/
theorem bent_step {B q r g m len cap : Nat} {a : Option Addr} {w0 w W w' : World} {v v' u z : Value} {n : List (List Int)} {l : List Int} {vs : List Value}
    (hvs : w.ownsRow B 22 1 v n.length vs) (hva : ∀ i, i < n.length → ∃ x, vs[i]? = some x ∧ Has w x (n.getD i []) ∧ Typed 5 w x) (hb : Below w.heap.size w W)
    (hu : Has W u l) (htu : Typed 5 W u) (ho : w'.ownsRow B 22 1 v' m (vs ++ [u])) (hm : m = n.length + 1) (hg : W.grownBy w' v.ownBlock)
    (hq : w.heap[q]? = some (.cells #[v] 27)) (hr : w.heap[r]? = some (.cells #[z] 27)) (hqr : q ≠ r) (hc : Cur w g a len cap) (hgB : g < B) (hgq : g < q) (h0 : w0.grownBy w (some g)) (hB : w0.heap.size ≤ B) (hq0 : w0.heap.size ≤ q) :
    w'.heap[q]? = some (.cells #[v] 27) ∧ OwnT B 22 5 (w'.setCell ⟨q, 0, none⟩ v') v' (n ++ [l]) ∧ (w'.setCell ⟨q, 0, none⟩ v').heap[q]? = some (.cells #[v'] 27) ∧ (w'.setCell ⟨q, 0, none⟩ v').heap[r]? = some (.cells #[z] 27)
      ∧ Cur (w'.setCell ⟨q, 0, none⟩ v') g a len cap ∧ w0.grownBy (w'.setCell ⟨q, 0, none⟩ v') (some g) := by
  have hW := ownsRow_kept' hvs hb
  have hap := row_apart hW (block_kept hb hq) (by decide)
  have har := row_apart hW (block_kept hb hr) (by decide)
  have k1 := block_grown hg (block_kept hb hq) hap
  have k2 := block_grown hg (block_kept hb hr) har
  have o1 : OwnT B 22 5 w' v' (n ++ [l]) := OwnT.snoc hW (fun i hi => by obtain ⟨x, h1, h2, h3⟩ := hva i hi; exact ⟨x, h1, h2.below hb, h3.below hb⟩) hu htu (by decide) ho hm hg
  have gs := grown_setCell w' ⟨q, 0, none⟩ v'
  have hlt := World.ownsRow.lt hW
  have gb : w.grownBy W none := ⟨hb.os, hb.tape, hb.output, hb.size, fun i hi _ => hb.block i hi⟩
  refine ⟨k1, o1.set k1 (by decide) (by decide) _, block_set k1 v', block_grown gs k2 (by simpa using hqr), ?_, ?_⟩
  · exact ((hc.later gb (fun j e => by cases e)).later hg (fun j e => by have := (hlt j e).1; omega)).later gs (fun j e => by cases e; exact hgq)
  · exact grown_own (grown_own (grown_own h0 gb (fun j e => by cases e)) hg (fun j e => by have := (hlt j e).1; omega)) gs (fun j e => by cases e; exact hq0)
end Go.Proofs.YtkhiklemhkeakaaDoor

namespace Go.Proofs.YtkhiklemhkeakaaDoor
open Go.RowKit

section
variable {P : Program} {ops : Array Oper} {Q : Exit → Act → World → Prop} {md : Region.Mode} {S : World → Prop} {T : Nat → Bool}

/-- Whatever comes up next; behind those of T the world is as S says. -/
def AnyT (P : Program) (md : Region.Mode) (ops : Array Oper) (Q : Exit → Act → World → Prop) (S : World → Prop) (T : Nat → Bool) : Nat → Array Bool → Act → World → Prop
  | 0, done, a, w => Region.ready md ops done = [] ∧ Q .normal a w
  | n + 1, done, a, w => (Region.ready md ops done = [] → Q .normal a w) ∧ ∀ j, j ∈ Region.ready md ops done → wpOp P ops Q j (fun a1 w1 => (T j = true → S w1) ∧ AnyT P md ops Q S T n (done.setIfInBounds j true) a1 w1) a w

/-- Once all of T have come up, nothing more is asked. -/
theorem AnyT.of_any : ∀ (n : Nat) (done : Array Bool) (a : Act) (w : World), (∀ j, T j = true → done.getD j true = true) → wpAny P md ops Q n done a w → AnyT P md ops Q S T n done a w
  | 0, _, _, _, _, h => h
  | n + 1, done, a, w, hT, h => by
    refine ⟨h.1, fun j hj => wpOp_mono (fun a1 w1 h1 => ⟨fun ht => ?_, AnyT.of_any n _ a1 w1 (fun k hk => ?_) h1⟩) (h.2 j hj)⟩
    · have := (mem_ready.1 hj).1
      rw [hT j ht] at this
      cases this
    · by_cases e : j = k
      · subst e
        by_cases hlt : j < done.size <;> simp [hlt]
      · rw [getD_set_ne true e]
        exact hT k hk

theorem AnyT.over (n : Nat) (done : Array Bool) (a : Act) (w : World) (hT : (List.range done.size).all (fun j => !T j || done.getD j true) = true) (h : wpAny P md ops Q n done a w) : AnyT P md ops Q S T n done a w := by
  refine AnyT.of_any n done a w (fun j hj => ?_) h
  by_cases hlt : j < done.size
  · have := List.all_eq_true.1 hT j (by simpa using hlt)
    rw [hj] at this
    simpa using this
  · simp [hlt]

/-- Number i is taken first: T are those that might come ahead of it. -/
theorem any_firstT {i : Nat} {oi : Oper} {v : Value} (hi : ops[i]? = some oi) (hsel : ∀ (j : Nat) (o : Oper) cs b, ops[j]? = some o → o.op ≠ .select cs b) (hQ : ∀ c a w, Q (.panic c) (a.put oi.dst v) w → Q (.panic c) a w)
    (hT : ∀ (j : Nat) (oj : Oper), ops[j]? = some oj → j ≠ i → (∀ e ∈ oj.after, Region.binds md e = true → e.on ≠ i) → T j = true) (n : Nat) :
    ∀ (done : Array Bool) (a : Act) (w : World), (∀ j oj, ops[j]? = some oj → j ≠ i → done.getD j true = false → (∀ e ∈ oj.after, Region.binds md e = true → e.on ≠ i) → oi.apart ops oj = true) →
      i ∈ Region.ready md ops done → YieldsIf P ops S oi v a → S w → AnyT P md ops Q S T n (done.setIfInBounds i true) (a.put oi.dst v) w → wpAny P md ops Q (n + 1) done a w := by
  induction n with
  | zero =>
    intro done a w _ hr hy hS H
    refine ⟨fun q => absurd (q ▸ hr) (by simp), fun j hj => ?_⟩
    rcases Decidable.em (j = i) with rfl | hji
    · exact hy.wpOp hi hS H
    · have hq := ready_mono hj hji
      rw [H.1] at hq
      exact absurd hq (by simp)
  | succ n ih =>
    intro done a w hfree hr hy hS H
    refine ⟨fun q => absurd (q ▸ hr) (by simp), fun j hj => ?_⟩
    rcases Decidable.em (j = i) with rfl | hji
    · refine hy.wpOp hi hS ?_
      have strip : ∀ (m : Nat) (d : Array Bool) (a : Act) (w : World), AnyT P md ops Q S T m d a w → wpAny P md ops Q m d a w := by
        intro m
        induction m with
        | zero => intro d a w h; exact h
        | succ m im => intro d a w h; exact ⟨h.1, fun k hk => wpOp_mono (fun a1 w1 h1 => im _ _ _ h1.2) (h.2 k hk)⟩
      exact strip _ _ _ _ H
    · obtain ⟨hun, oj, hoj, hall⟩ := mem_ready.1 hj
      have hno : ∀ e ∈ oj.after, Region.binds md e = true → e.on ≠ i := by
        intro e he hb q
        have h1 := hall e he hb
        have h0 := (mem_ready.1 hr).1
        rw [q] at h1
        by_cases hlt : i < done.size
        · simp [hlt] at h0 h1
          rw [h0] at h1
          cases h1
        · simp [hlt] at h0
      have step := wpOp_putIf hoj (hfree j oj hoj hji hun hno) (fun cs b => hsel i oi cs b hi) (fun cs b => hsel j oj cs b hoj) hQ hy (H.2 j (ready_mono hj hji))
      refine wpOp_mono (fun a1 w1 h1 => ?_) step
      refine ih (done.setIfInBounds j true) a1 w1 (fun k ok hk hki hu hn => hfree k ok hk hki ?_ hn) (ready_mono hr (Ne.symm hji)) h1.1 (h1.2.1 (hT j oj hoj hji hno)) ?_
      · rcases Decidable.em (j = k) with rfl | hjk
        · exact hun
        · rwa [getD_set_ne true hjk] at hu
      · have e : (done.setIfInBounds j true).setIfInBounds i true = (done.setIfInBounds i true).setIfInBounds j true := Array.setIfInBounds_comm _ _ hji
        rw [e]
        exact h1.2.2

/-- Those that wait for number i, as a Bool. -/
def waits (md : Region.Mode) (ops : Array Oper) (i : Nat) (j : Nat) : Bool := match ops[j]? with
  | some o => o.after.any (fun e => Region.binds md e && (e.on == i))
  | none => false
theorem any_takeT {i : Nat} {oi : Oper} {v : Value} {n : Nat} {done : Array Bool} {a : Act} {w : World} (S : World → Prop) (hi : ops[i]? = some oi) (hs : Region.noSelect ops = true) (hf : Region.free md ops done i = true) (hr : (Region.ready md ops done).contains i = true)
    (hQ : ∀ c a w, Q (.panic c) (a.put oi.dst v) w → Q (.panic c) a w) (hy : YieldsIf P ops S oi v a) (hS : S w)
    (h : AnyT P md ops Q S (fun j => !waits md ops i j) n (done.setIfInBounds i true) (a.put oi.dst v) w) : wpAny P md ops Q (n + 1) done a w := by
  refine any_firstT hi (Region.noSelect_spec hs) hQ (fun j oj hj hji hno => ?_) n done a w (Region.free_spec hi hf) (by simpa using hr) hy hS h
  unfold waits
  rw [hj]
  simp only [Bool.not_eq_true', Array.any_eq_false']
  intro e he q
  simp only [Bool.and_eq_true, beq_iff_eq] at q
  exact hno e he q.1 q.2

def AllT (P : Program) (md : Region.Mode) (ops : Array Oper) (Q : Exit → Act → World → Prop) (S : World → Prop) (T : Nat → Bool) (n : Nat) (done : Array Bool) (a : Act) (w : World) (js : List Nat) : Prop :=
  ∀ j, j ∈ js → wpOp P ops Q j (fun a1 w1 => (T j = true → S w1) ∧ AnyT P md ops Q S T n (done.setIfInBounds j true) a1 w1) a w
theorem AllT.nil {n : Nat} {done : Array Bool} {a : Act} {w : World} : AllT P md ops Q S T n done a w [] := fun _ h => absurd h (by simp)
theorem AllT.cons {n : Nat} {done : Array Bool} {a : Act} {w : World} {j : Nat} {o : Oper} {js : List Nat} (ho : ops[j]? = some o)
    (h : ∀ K : Act → World → Prop, (∀ a1 w1, S w1 → AnyT P md ops Q S T n (done.setIfInBounds j true) a1 w1 → K a1 w1) → if Region.wanted o (yielded ops a.tmps) = true then Oper.wp P o a w K Q else K (a.put o.dst undef) w)
    (hs : AllT P md ops Q S T n done a w js) : AllT P md ops Q S T n done a w (j :: js) := by
  intro k hk
  rcases List.mem_cons.1 hk with rfl | hk
  · exact wpOp_step ho (fun K hK => h K (fun a1 w1 q1 q2 => hK a1 w1 ⟨fun _ => q1, q2⟩))
  · exact hs k hk
theorem anyT_ready {n : Nat} {done : Array Bool} {a : Act} {w : World} {js : List Nat} (hr : Region.ready md ops done = js) (hne : js ≠ []) (h : AllT P md ops Q S T n done a w js) : AnyT P md ops Q S T (n + 1) done a w :=
  ⟨fun q => absurd (hr.symm.trans q) hne, fun j hj => h j (hr ▸ hj)⟩
end
end Go.Proofs.YtkhiklemhkeakaaDoor
