/-
  Plain facts: a book (a map of pages, each a map of records) in memory, and what it says. No program is named here. Plain facts: texts held against each other byte by byte, names label by label from the last one on. No program is named here. Plain facts: a name that ends with another, and the end of a list of texts in memory. No program is named here. Plain facts: whether a book has a record of a name, or of one under it. No program is named here. Plain facts: an append of bytes in a fenced walk. No program is named here. Plain facts: the book of a zone's records has a name just if the records have. No program is named here.
-/
import Derived.Test.YthobpbnaklnbiaaGreatFnLookupsG08
import Derived.Test.YthobpbnaklnbiaaGreatFnLookupsG05
import Derived.Test.YthobpbnaklnbiaaGreatFnLookupsG02
import Derived.Test.YthobpbnaklnbiaaGreatFnLookupsG00
import Derived.Lib.Bytealg
import Derived.Lib.BytesEntry
import Derived.OwnWalkIn
import Derived.Test.YthobpbnaklnbiaaGreatFnLookupsG07
import Derived.Laws.BytesArg
namespace Go.Proofs.YthobpbnaklnbiaaGreat
open Go.RowKit
set_option linter.unusedVariables false

def KeptX (W W' : World) : Prop := W.heap.size ≤ W'.heap.size ∧ ∀ p v, W.cell? p = some v → W'.cell? p = some v
theorem KeptX.refl (W : World) : KeptX W W := ⟨Nat.le_refl _, fun _ _ h => h⟩
theorem KeptX.trans {A B C : World} (h : KeptX A B) (k : KeptX B C) : KeptX A C := ⟨Nat.le_trans h.1 k.1, fun p v q => k.2 p v (h.2 p v q)⟩
theorem keptX_below {W W' : World} (h : Below W.heap.size W W') : KeptX W W' := ⟨h.size, fun p v q => (h.cell (block_lt_of_cell q)).trans q⟩
def isMapO : Obj → Bool
 | .map _ _ => true
 | _ => false
def KeptO (W W' : World) : Prop := W.heap.size ≤ W'.heap.size ∧ ∀ (g : Nat) (o : Obj), W.heap[g]? = some o → isMapO o = false → W'.heap[g]? = some o
theorem KeptO.refl (W : World) : KeptO W W := ⟨Nat.le_refl _, fun _ _ h _ => h⟩
theorem KeptO.trans {A B C : World} (h : KeptO A B) (k : KeptO B C) : KeptO A C := ⟨Nat.le_trans h.1 k.1, fun g o q e => k.2 g o (h.2 g o q e) e⟩
theorem keptO_below {W W' : World} (h : Below W.heap.size W W') : KeptO W W' := ⟨h.size, fun g o q _ => UE h q⟩
theorem keptO_map {W W' : World} {b : Nat} {ps : List (ByteArray × Value)} (hg : W.grownBy W' (some b)) (hm : MapV W b ps) : KeptO W W' := by
 refine ⟨hg.size, fun g o q e => ?_⟩
 obtain ⟨es, c, hb, _⟩ := hm
 refine (hg.block g (VC q) ?_).trans q
 intro e1
 simp only [Option.some.injEq] at e1
 subst e1
 rw [hb] at q
 cases q
 cases e
theorem KeptO.x {W W' : World} (h : KeptO W W') : KeptX W W' := by
 refine ⟨h.1, fun p v q => ?_⟩
 cases ho : W.heap[p.block]? with
 | none => simp [World.cell?, ho] at q
 | some o =>
  have hm : isMapO o = false := by
   cases o <;> first | rfl | (simp [World.cell?, ho] at q)
  exact (World.cell?_of_block (w := W) ((h.2 _ _ ho hm).trans ho.symm)).trans q
theorem Has.keptX {w w' : World} {v : Value} {l : List Int} (h : Has w v l) (hk : KeptX w w') : Has w' v l := by
 rcases h with h | ⟨g, off, cap, hv, hlt, hl, hm, hc⟩
 ·exact .inl h
 ·exact .inr ⟨g, off, cap, hv, Nat.lt_of_lt_of_le hlt hk.1, hl, hm, fun i hi => hk.2 _ _ (hc i hi)⟩
theorem HasI.keptX {w w' : World} {v : Value} {l : List Int} (h : HasI w v l) (hk : KeptX w w') : HasI w' v l := by
 rcases h with h | ⟨g, off, cap, hv, hlt, hl, hm, hc⟩
 ·exact .inl h
 ·exact .inr ⟨g, off, cap, hv, Nat.lt_of_lt_of_le hlt hk.1, hl, hm, fun i hi => hk.2 _ _ (hc i hi)⟩
theorem HasL.keptX {w w' : World} {v : Value} {n : List (List Int)} (h : HasL w v n) (hk : KeptX w w') : HasL w' v n := by
 rcases h with h | ⟨g, off, cap, hv, hlt, hl, hm, hc⟩
 ·exact .inl h
 ·refine .inr ⟨g, off, cap, hv, Nat.lt_of_lt_of_le hlt hk.1, hl, hm, fun i hi => ?_⟩
  obtain ⟨u, h1, h2⟩ := hc i hi
  exact ⟨u, hk.2 _ _ h1, h2.keptX hk⟩
theorem HasR.keptX {w w' : World} {vn vt vx vi : Value} {r : Rec} (h : HasR w vn vt vx vi r) (hk : KeptX w w') : HasR w' vn vt vx vi r := ⟨h.name.keptX hk, h.to.keptX hk, h.text.keptX hk, h.nums.keptX hk⟩

inductive Two {α β : Type} (R : α → β → Prop) : List α → List β → Prop
 | nil : Two R [] []
 | cons {a b l m} : R a b → Two R l m → Two R (a :: l) (b :: m)
namespace Two
variable {α β : Type} {R R' : α → β → Prop}
theorem mono (f : ∀ a b, R a b → R' a b) {l : List α} {m : List β} (h : Two R l m) : Two R' l m := by
 induction h with
 | nil => exact .nil
 | cons h1 _ ih => exact .cons (f _ _ h1) ih
theorem left {l : List α} {m : List β} (h : Two R l m) : ∀ a ∈ l, ∃ b ∈ m, R a b := by
 induction h with
 | nil => intro a ha; simp at ha
 | cons h1 _ ih =>
  intro a ha
  rcases List.mem_cons.1 ha with rfl | ha
  ·exact ⟨_, List.mem_cons_self .., h1⟩
  ·obtain ⟨b, hb, hr⟩ := ih a ha
   exact ⟨b, List.mem_cons_of_mem _ hb, hr⟩
theorem right {l : List α} {m : List β} (h : Two R l m) : ∀ b ∈ m, ∃ a ∈ l, R a b := by
 induction h with
 | nil => intro a ha; simp at ha
 | cons h1 _ ih =>
  intro b hb
  rcases List.mem_cons.1 hb with rfl | hb
  ·exact ⟨_, List.mem_cons_self .., h1⟩
  ·obtain ⟨a, ha, hr⟩ := ih b hb
   exact ⟨a, List.mem_cons_of_mem _ ha, hr⟩
end Two
section
variable {κ α β : Type} [DecidableEq κ] {Q Q' : α → β → Prop}
abbrev AtKeys (κ : Type) {α β : Type} (Q : α → β → Prop) : κ × α → κ × β → Prop := fun a b => a.1 = b.1 ∧ Q a.2 b.2
theorem two_look {k : κ} {l : List (κ × α)} {m : List (κ × β)} (h : Two (AtKeys κ Q) l m) : (lookA k l = none ∧ lookA k m = none) ∨ ∃ v u, lookA k l = some v ∧ lookA k m = some u ∧ Q v u ∧ (k, v) ∈ l := by
 induction h with
 | nil => exact .inl ⟨rfl, rfl⟩
 | @cons a b l m h1 _ ih =>
  obtain ⟨a1, a2⟩ := a
  obtain ⟨b1, b2⟩ := b
  obtain ⟨h1, h2⟩ := h1
  simp only at h1 h2
  subst h1
  by_cases e : a1 = k
  ·subst e
   exact .inr ⟨a2, b2, by simp [lookA], by simp [lookA], h2, by simp⟩
  ·simp only [lookA, if_neg e]
   rcases ih with ih | ⟨v, u, i1, i2, i3, i4⟩
   ·exact .inl ih
   ·exact .inr ⟨v, u, i1, i2, i3, List.mem_cons_of_mem _ i4⟩
theorem two_put {k : κ} {v : α} {u : β} {l : List (κ × α)} {m : List (κ × β)} (h : Two (AtKeys κ Q) l m) (hv : Q' v u) (hA : l.Pairwise (fun p q => p.1 ≠ q.1)) (ho : ∀ a x, (a, x) ∈ l → a ≠ k → ∀ y, Q x y → Q' x y) : Two (AtKeys κ Q') (putA k v l) (putA k u m) := by
 induction h with
 | nil => exact .cons ⟨rfl, hv⟩ .nil
 | @cons a b l m h1 h0 ih =>
  obtain ⟨a1, a2⟩ := a
  obtain ⟨b1, b2⟩ := b
  obtain ⟨h1, h2⟩ := h1
  simp only at h1 h2
  subst h1
  obtain ⟨p1, p2⟩ := List.pairwise_cons.1 hA
  by_cases e : a1 = k
  ·subst e
   simp only [putA, if_true]
   refine .cons ⟨rfl, hv⟩ ?_
   clear ih hv h2 hA
   induction h0 with
   | nil => exact .nil
   | @cons a b l m q1 _ ih =>
    obtain ⟨q2, q3⟩ := List.pairwise_cons.1 p2
    refine .cons ⟨q1.1, ho a.1 a.2 (by simp) (fun e => p1 a (by simp) e.symm) _ q1.2⟩ (ih (fun p hp => p1 p (List.mem_cons_of_mem _ hp)) q3 (fun c x hx => ho c x ?_))
    rcases List.mem_cons.1 hx with hx | hx
    ·rw [hx]; exact List.mem_cons_self ..
    ·exact List.mem_cons_of_mem _ (List.mem_cons_of_mem _ hx)
  ·simp only [putA, if_neg e]
   exact .cons ⟨rfl, ho a1 a2 (by simp) e _ h2⟩ (ih p2 (fun c x hx => ho c x (List.mem_cons_of_mem _ hx)))
theorem putA_same {k : κ} {v : α} : ∀ {l : List (κ × α)}, lookA k l = some v → putA k v l = l
 | [], h => by simp [lookA] at h
 | (a, u) :: t, h => by
  by_cases e : a = k
  ·subst e
   simp only [lookA, if_true, Option.some.injEq] at h
   simp [putA, h]
  ·simp only [lookA, if_neg e] at h
   simp only [putA, if_neg e]
   rw [putA_same h]
theorem mem_putA {k : κ} {v : α} : ∀ {l : List (κ × α)} {p : κ × α}, p ∈ putA k v l → p = (k, v) ∨ p ∈ l
 | [], p, h => by simp [putA] at h; exact .inl h
 | (a, u) :: t, p, h => by
  by_cases e : a = k
  ·simp only [putA, if_pos e] at h
   rcases List.mem_cons.1 h with h | h
   ·exact .inl h
   ·exact .inr (List.mem_cons_of_mem _ h)
  ·simp only [putA, if_neg e] at h
   rcases List.mem_cons.1 h with h | h
   ·exact .inr (h ▸ List.mem_cons_self ..)
   ·rcases mem_putA h with h | h
    ·exact .inl h
    ·exact .inr (List.mem_cons_of_mem _ h)
theorem putA_apart {k : κ} {v : α} : ∀ {l : List (κ × α)}, l.Pairwise (fun p q => p.1 ≠ q.1) → l.Pairwise (fun p q => p.2 ≠ q.2) → (∀ p ∈ l, p.1 ≠ k → p.2 ≠ v) → (putA k v l).Pairwise (fun p q => p.2 ≠ q.2)
 | [], _, _, _ => by simp [putA]
 | (a, u) :: t, hA, hV, h => by
  obtain ⟨p1, p2⟩ := List.pairwise_cons.1 hA
  obtain ⟨v1, v2⟩ := List.pairwise_cons.1 hV
  by_cases e : a = k
  ·subst e
   simp only [putA, if_true]
   exact List.pairwise_cons.2 ⟨fun q hq e => h q (List.mem_cons_of_mem _ hq) (fun e => p1 q hq e.symm) e.symm, v2⟩
  ·simp only [putA, if_neg e]
   refine List.pairwise_cons.2 ⟨fun q hq => ?_, putA_apart p2 v2 (fun p hp => h p (List.mem_cons_of_mem _ hp))⟩
   rcases mem_putA hq with rfl | hq
   ·exact h (a, u) (List.mem_cons_self ..) e
   ·exact v1 q hq
end

abbrev Pg := List (ByteArray × Rec)
abbrev Bk := List (ByteArray × Pg)
def IsRec (w : World) (v : Value) (r : Rec) : Prop := ∃ vn vt vx vi, v = .agg #[vn, .int .i64 r.type, .int .i64 r.ttl, .int .i64 r.addr, vt, vx, vi] ∧ HasR w vn vt vx vi r
theorem IsRec.keptX {w w' : World} {v : Value} {r : Rec} (h : IsRec w v r) (hk : KeptX w w') : IsRec w' v r := by
 obtain ⟨vn, vt, vx, vi, h1, h2⟩ := h
 exact ⟨vn, vt, vx, vi, h1, h2.keptX hk⟩
def PageM (w : World) (p : Nat) (P : Pg) : Prop := ∃ ps, MapV w p ps ∧ Two (AtKeys ByteArray (IsRec w)) ps P
theorem PageM.kept {w w' : World} {p : Nat} {P : Pg} (h : PageM w p P) (hp : w'.heap[p]? = w.heap[p]?) (hk : KeptX w w') : PageM w' p P := by
 obtain ⟨ps, h1, h2⟩ := h
 exact ⟨ps, h1.kept hp, h2.mono (fun a b h => ⟨h.1, h.2.keptX hk⟩)⟩
theorem PageM.lt {w : World} {p : Nat} {P : Pg} (h : PageM w p P) : p < w.heap.size := h.choose_spec.1.lt
def IsPage (n0 : Nat) (w : World) (b : Nat) (v : Value) (P : Pg) : Prop := ∃ p, v = .map (some p) ∧ n0 ≤ p ∧ p ≠ b ∧ PageM w p P
def BookM (n0 : Nat) (w : World) (b : Nat) (B : Bk) : Prop := n0 ≤ b ∧ ∃ ps, MapV w b ps ∧ Two (AtKeys ByteArray (IsPage n0 w b)) ps B ∧ ps.Pairwise (fun p q => p.2 ≠ q.2)
theorem BookM.below {n0 : Nat} {w w' : World} {b : Nat} {B : Bk} (h : BookM n0 w b B) (hb : Below w.heap.size w w') : BookM n0 w' b B := by
 obtain ⟨h0, ps, h1, h2, h3⟩ := h
 refine ⟨h0, ps, h1.below hb, h2.mono (fun a c h => ⟨h.1, ?_⟩), h3⟩
 obtain ⟨p, q1, q0, q2, q3⟩ := h.2
 exact ⟨p, q1, q0, q2, q3.kept (hb.block p q3.lt) (keptX_below hb)⟩
theorem BookM.lt {n0 : Nat} {w : World} {b : Nat} {B : Bk} (h : BookM n0 w b B) : b < w.heap.size := h.2.choose_spec.1.lt
theorem bookM_made {n0 : Nat} (w : World) (h : n0 ≤ w.heap.size) : BookM n0 (w.alloc (.map #[] 0)) w.heap.size [] := ⟨h, [], mapV_made w, .nil, List.Pairwise.nil⟩
def bkPut (kn kd : ByteArray) (r : Rec) (B : Bk) : Bk := putA kn (putA kd r ((lookA kn B).getD [])) B
theorem book_put {n0 : Nat} {w w' : World} {b p : Nat} {k : ByteArray} {ps : List (ByteArray × Value)} {B : Bk} {P : Pg} (h0 : n0 ≤ b) (h1 : MapV w b ps) (h2 : Two (AtKeys ByteArray (IsPage n0 w b)) ps B) (h3 : ps.Pairwise (fun p q => p.2 ≠ q.2))
  (m : MapV w' b (putA k (.map (some p)) ps)) (hp : PageM w' p P) (hn : n0 ≤ p) (hne : p ≠ b) (ho : ∀ q ∈ ps, q.1 ≠ k → q.2 ≠ .map (some p)) (hk : KeptX w w') (hb : ∀ q, q ≠ p → q ≠ b → q < w.heap.size → w'.heap[q]? = w.heap[q]?) : BookM n0 w' b (putA k P B) := by
 refine ⟨h0, _, m, two_put h2 ⟨p, rfl, hn, hne, hp⟩ h1.apart (fun a x hx hak y hxy => ?_), putA_apart h1.apart h3 ho⟩
 obtain ⟨q, rfl, q1, q2, q3⟩ := hxy
 refine ⟨q, rfl, q1, q2, q3.kept (hb q (fun e => ?_) q2 q3.lt) hk⟩
 subst e
 exact ho _ hx hak rfl
theorem other_page {ps : List (ByteArray × Value)} (h3 : ps.Pairwise (fun p q => p.2 ≠ q.2)) {k : ByteArray} {v : Value} (hm : (k, v) ∈ ps) : ∀ q ∈ ps, q.1 ≠ k → q.2 ≠ v := by
 induction ps with
 | nil => simp at hm
 | cons a t ih =>
  obtain ⟨p1, p2⟩ := List.pairwise_cons.1 h3
  intro q hq hk e
  rcases List.mem_cons.1 hm with rfl | hm'
  ·rcases List.mem_cons.1 hq with rfl | hq
   ·exact hk rfl
   ·exact p1 q hq e.symm
  ·rcases List.mem_cons.1 hq with rfl | hq
   ·exact p1 _ hm' e
   ·exact ih p2 hm' q hq hk e
theorem lookA_put {κ α : Type} [DecidableEq κ] {k : κ} {v : α} : ∀ {l : List (κ × α)}, lookA k (putA k v l) = some v
 | [] => by simp [putA, lookA]
 | (a, u) :: t => by
  by_cases e : a = k
  ·simp [putA, e, lookA]
  ·simp only [putA, if_neg e, lookA]
   exact lookA_put
theorem page_put {P : Program} {t k e : TypeId} {W : World} {p : Nat} {Q : Pg} {v : Value} {r : Rec} (ht : P.underlying t = some (.map k e)) (hk : P.underlying k = some .string) (h : PageM W p Q) (kd : ByteArray) (hs : kd.size ≤ maxLen) (hv : IsRec W v r) :
  ∃ w', (Instr.mapUpdate t (.map (some p)) (.string kd) v).run P W = .ok () w' ∧ PageM w' p (putA kd r Q) ∧ W.grownBy w' (some p) ∧ KeptO W w' := by
 obtain ⟨ps, h1, h2⟩ := h
 obtain ⟨w', h3, h4, h5⟩ := mapV_put ht hk h1 kd hs v
 have hK := keptO_map h5 h1
 exact ⟨w', h3, ⟨_, h4, two_put h2 (hv.keptX hK.x) h1.apart (fun a x _ _ y hy => hy.keptX hK.x)⟩, h5, hK⟩
theorem step_put {P : Program} {w w' : World} {ops : Array Oper} {o : Oper} {a : Act} {K : Act → World → Prop} {Q : Exit → Act → World → Prop} {E : Prop} (hgd : o.guard = none) (m x v : Operand) (t : TypeId) (hop : o.op = Op.mapUpdate t m x v) (mv xv vv : Value) (hm : a.eval m = mv) (hx : a.eval x = xv) (hv : a.eval v = vv)
  (hrun : (Instr.mapUpdate t mv xv vv).run P w = .ok () w') (h : K (a.put o.dst undef) w') : if Region.wanted o (yielded ops a.tmps) = true then Oper.wp P o a w K Q else E := by
 have hw : Region.wanted o (yielded ops a.tmps) = true := by simp [Region.wanted, hgd]
 rw [if_pos hw]
 unfold Oper.wp
 simp [execOp, hop, hm, hx, hv, hrun, Result.andThen]
 exact h
theorem list_put {P : Program} {w w' : World} {ops : Array Oper} {rest : List Oper} {o : Oper} {a : Act} {Q : Exit → Act → World → Prop} (hgd : o.guard = none) (m x v : Operand) (t : TypeId) (hop : o.op = Op.mapUpdate t m x v) (mv xv vv : Value) (hm : a.eval m = mv) (hx : a.eval x = xv) (hv : a.eval v = vv)
  (hrun : (Instr.mapUpdate t mv xv vv).run P w = .ok () w') (h : wpList P ops Q rest (a.put o.dst undef) w') : wpList P ops Q (o :: rest) a w := by
 refine wpList_plain hgd fun K' hK' => ?_
 unfold Oper.wp
 simp [execOp, hop, hm, hx, hv, hrun, Result.andThen]
 exact hK' _ _ h
end Go.Proofs.YthobpbnaklnbiaaGreat

namespace Go.Proofs.YthobpbnaklnbiaaGreat
open Go.RowKit

def cmpB (a b : List Int) : Int := Lib.compareBytes (strOfNums a).data.toList (strOfNums b).data.toList

theorem compare_less : ∀ (a b : List UInt8), Op.bytesLess a b = decide (Lib.compareBytes a b = -1)
 | [], [] => rfl
 | [], _ :: _ => rfl
 | _ :: _, [] => rfl
 | x :: a, y :: b => by
  have ih := compare_less a b
  unfold Op.bytesLess Lib.compareBytes
  by_cases h1 : x < y
  ·simp [h1]
  ·by_cases h2 : y < x
   ·have : (x == y) = false := by
     apply beq_eq_false_iff_ne.2
     intro e; subst e; exact UInt8.lt_irrefl x h2
    simp [h1, h2, this]
   ·have e : x = y := UInt8.le_antisymm (UInt8.not_lt.1 h2) (UInt8.not_lt.1 h1)
    subst e
    simp [h1, ih]

theorem compare_zero : ∀ (a b : List UInt8), (a == b) = decide (Lib.compareBytes a b = 0)
 | [], [] => rfl
 | [], _ :: _ => rfl
 | _ :: _, [] => rfl
 | x :: a, y :: b => by
  have ih := compare_zero a b
  unfold Lib.compareBytes
  rw [List.cons_beq_cons]
  by_cases h1 : x < y
  ·have : (x == y) = false := by
    apply beq_eq_false_iff_ne.2
    intro e; subst e; exact UInt8.lt_irrefl x h1
   simp [h1, this]
  ·by_cases h2 : y < x
   ·have : (x == y) = false := by
     apply beq_eq_false_iff_ne.2
     intro e; subst e; exact UInt8.lt_irrefl x h2
    simp [h1, h2, this]
   ·have e : x = y := UInt8.le_antisymm (UInt8.not_lt.1 h2) (UInt8.not_lt.1 h1)
    subst e
    simp only [h1, if_false, beq_self_eq_true, Bool.true_and]
    exact ih

theorem compare_cases : ∀ (a b : List UInt8), Lib.compareBytes a b = -1 ∨ Lib.compareBytes a b = 0 ∨ Lib.compareBytes a b = 1
 | [], [] => .inr (.inl rfl)
 | [], _ :: _ => .inl rfl
 | _ :: _, [] => .inr (.inr rfl)
 | x :: a, y :: b => by
  unfold Lib.compareBytes
  split
  ·exact .inl rfl
  ·split
   ·exact .inr (.inr rfl)
   ·exact compare_cases a b

theorem str_less (a b : List Int) : Op.bytesLess (strOfNums a).toList (strOfNums b).toList = decide (cmpB a b = -1) := by
 rw [ByteArray.toList_eq, ByteArray.toList_eq, compare_less]; rfl
theorem str_same (a b : List Int) : ((strOfNums a).toList == (strOfNums b).toList) = decide (cmpB a b = 0) := by
 rw [ByteArray.toList_eq, ByteArray.toList_eq, compare_zero]; rfl
theorem cmpB_cases (a b : List Int) : cmpB a b = -1 ∨ cmpB a b = 0 ∨ cmpB a b = 1 := compare_cases _ _

theorem run_bytesOf_has {P : Program} {w : World} {v : Value} {l : List Int} (h : Has w v l) : (Extern.Bytes.bytesOf v).run P w = .ok (strOfNums l) w := by
 rcases h with ⟨rfl, rfl⟩ | ⟨g, off, cap, rfl, _, _, _, hc⟩
 ·rfl
 ·have hl := Lib.run_loadBytesX (P := P) w l ⟨g, off, none⟩ .empty (fun j x hj => by
   have hjl : j < l.length := (List.getElem?_eq_some_iff.1 hj).1
   rw [Addr.add_lit, hc j hjl]
   simp [hj])
  show (Extern.Bytes.loadBytes ⟨g, off, none⟩ l.length .empty).run P w = _
  rw [hl]
  congr 1
  simp [strOfNums, Lib.bytesOf, ByteArray.empty, ByteArray.emptyWithCapacity]
  rfl

theorem run_compare_has {P : Program} {w : World} {v v' : Value} {l l' : List Int} (h : Has w v l) (h' : Has w v' l') :
  (Extern.BytealgCompare.compare #[v, v']).run P w = .ok (.int .i64 (cmpB l l')) w := by
 change Sem.run P (do pure (goInt (Extern.BytealgCompare.cmp (← Extern.Bytes.bytesOf v) (← Extern.Bytes.bytesOf v')))) w = _
 simp only [Sem.run_bind, run_bytesOf_has h, run_bytesOf_has h', Sem.run_pure, Result.andThen]
 rw [Lib.cmp_eq]
 rfl

def atEnd (a b : List (List Int)) (i : Nat) : Int := cmpB (a.getD (a.length - i) []) (b.getD (b.length - i) [])

theorem atEnd_eq (a b : List (List Int)) (i : Nat) : atEnd a b i = cmpB (a.getD (a.length - i) []) (b.getD (b.length - i) []) := rfl

def byLength (x y : Int) : Int := if x < y then -1 else if y < x then 1 else 0

def cmpN (a b : List (List Int)) : Int :=
 match (List.range (min a.length b.length)).find? (fun j => atEnd a b (j + 1) != 0) with
 | some j => atEnd a b (j + 1)
 | none => byLength a.length b.length

theorem cmpN_hit {a b : List (List Int)} {k : Nat} (h1 : 1 ≤ k) (h2 : k ≤ a.length) (h3 : k ≤ b.length) (hz : ∀ j, 1 ≤ j → j < k → atEnd a b j = 0) (hk : atEnd a b k ≠ 0) : cmpN a b = atEnd a b k := by
 have : (List.range (min a.length b.length)).find? (fun j => atEnd a b (j + 1) != 0) = some (k - 1) := by
  rw [List.find?_range_eq_some]
  refine ⟨by rw [Nat.sub_add_cancel h1]; simpa using hk, by simp; omega, fun j hj => ?_⟩
  have := hz (j + 1) (by omega) (by omega)
  simp [this]
 unfold cmpN
 rw [this]
 show atEnd a b (k - 1 + 1) = _
 rw [Nat.sub_add_cancel h1]

theorem cmpN_none {a b : List (List Int)} {k : Nat} (hk : a.length < k ∨ b.length < k) (hz : ∀ j, 1 ≤ j → j < k → atEnd a b j = 0) : cmpN a b = byLength a.length b.length := by
 have : (List.range (min a.length b.length)).find? (fun j => atEnd a b (j + 1) != 0) = none := by
  rw [List.find?_range_eq_none]
  intro j hj
  have := hz (j + 1) (by omega) (by omega)
  simp [this]
 unfold cmpN
 rw [this]

def nameCmp (a b : List (List Int)) : Int := if nameOk a = true ∧ nameOk b = true then cmpN a b else 0
end Go.Proofs.YthobpbnaklnbiaaGreat

namespace Go.Proofs.YthobpbnaklnbiaaGreat
open Go.RowKit

def endsWith (n z : List (List Int)) : Bool := decide (z.length ≤ n.length) && (cmpN (n.drop (n.length - z.length)) z == 0)
def under (n z : List (List Int)) : Bool := nameOk n && (nameOk z && endsWith n z)

theorem endsWith_no {n z : List (List Int)} (h : n.length < z.length) : endsWith n z = false := by
 unfold endsWith
 rw [decide_eq_false (by omega)]
 rfl
theorem endsWith_yes {n z : List (List Int)} (h : z.length ≤ n.length) : endsWith n z = (cmpN (n.drop (n.length - z.length)) z == 0) := by
 unfold endsWith
 rw [decide_eq_true h]
 rfl

theorem nameOk_drop {n : List (List Int)} (h : nameOk n = true) (k : Nat) : nameOk (n.drop k) = true := by
 obtain ⟨h1, h2⟩ := nameOk_parts h
 refine nameOk_yes (by simp; omega) fun j hj => ?_
 simp at hj
 have := h2 (k + j) (by omega)
 have e : (n.drop k).getD j [] = n.getD (k + j) [] := by simp [List.getD]
 rw [e]; exact this

theorem HasL.drop {w : World} {a : Option Addr} {m cap k : Nat} {n : List (List Int)} (h : HasL w (.slice a m cap) n) (hn : n.length = m) (hk : k ≤ m) :
  (a = none ∧ m = 0 ∧ cap = 0) ∨ ∃ g off, a = some ⟨g, off, none⟩ ∧ HasL w (.slice (if cap = k then some ⟨g, off, none⟩ else some ⟨g, off + k, none⟩) (m - k) (cap - k)) (n.drop k) := by
 subst hn
 rcases h with ⟨hv, rfl⟩ | ⟨g, off, cap', hv, hlt, hl, hm, hc⟩
 ·simp only [Value.slice.injEq] at hv
  exact .inl ⟨hv.1, rfl, hv.2.2⟩
 ·simp only [Value.slice.injEq, true_and] at hv
  obtain ⟨rfl, rfl⟩ := hv
  right
  refine ⟨g, off, rfl, ?_⟩
  have hlen : (n.drop k).length = n.length - k := by simp
  by_cases e : cap = k
  ·rw [if_pos e]
   refine .inr ⟨g, off, cap - k, by rw [hlen], hlt, by rw [hlen]; omega, by omega, fun i hi => ?_⟩
   rw [hlen] at hi
   omega
  ·rw [if_neg e]
   refine .inr ⟨g, off + k, cap - k, by rw [hlen], hlt, by rw [hlen]; omega, by omega, fun i hi => ?_⟩
   rw [hlen] at hi
   obtain ⟨u, h1, h2⟩ := hc (k + i) (by omega)
   refine ⟨u, by rw [Nat.add_assoc]; exact h1, ?_⟩
   have e2 : (n.drop k).getD i [] = n.getD (k + i) [] := by simp [List.getD]
   rw [e2]; exact h2

end Go.Proofs.YthobpbnaklnbiaaGreat

namespace Go.Proofs.YthobpbnaklnbiaaGreat
open Go.RowKit
set_option linter.unusedVariables false

section
variable {κ α β : Type} [DecidableEq κ] {Q : α → β → Prop}
theorem lookA_mem {k : κ} {v : β} : ∀ {l : List (κ × β)}, l.Pairwise (fun p q => p.1 ≠ q.1) → (k, v) ∈ l → lookA k l = some v
 | [], _, h => by simp at h
 | (a, u) :: t, hd, h => by
  obtain ⟨h1, h2⟩ := List.pairwise_cons.1 hd
  rcases List.mem_cons.1 h with h | h
  ·cases h
   simp [lookA]
  ·rw [lookA, if_neg (h1 _ h), lookA_mem h2 h]
theorem lookA_in {k : κ} {v : β} : ∀ {l : List (κ × β)}, lookA k l = some v → (k, v) ∈ l
 | [], h => by simp [lookA] at h
 | (a, u) :: t, h => by
  by_cases e : a = k
  ·simp only [lookA, if_pos e, Option.some.injEq] at h
   rw [← e, ← h]
   exact List.mem_cons_self ..
  ·simp only [lookA, if_neg e] at h
   exact List.mem_cons_of_mem _ (lookA_in h)
theorem two_mem {k : κ} {v : α} {l : List (κ × α)} {m : List (κ × β)} (h : Two (AtKeys κ Q) l m) (hA : l.Pairwise (fun p q => p.1 ≠ q.1)) (hm : (k, v) ∈ l) : ∃ u, lookA k m = some u ∧ Q v u := by
 have hl := lookA_mem hA hm
 rcases two_look (k := k) h with ⟨h1, _⟩ | ⟨v', u, h1, h2, h3, _⟩
 ·rw [h1] at hl
  cases hl
 ·rw [h1] at hl
  cases hl
  exact ⟨u, h2, h3⟩
omit [DecidableEq κ] in
theorem two_keys {l : List (κ × α)} {m : List (κ × β)} (h : Two (AtKeys κ Q) l m) (hA : l.Pairwise (fun p q => p.1 ≠ q.1)) : m.Pairwise (fun p q => p.1 ≠ q.1) := by
 induction h with
 | nil => exact List.Pairwise.nil
 | cons h1 h0 ih =>
  obtain ⟨p1, p2⟩ := List.pairwise_cons.1 hA
  refine List.pairwise_cons.2 ⟨fun q hq e => ?_, ih p2⟩
  obtain ⟨a, ha, h2⟩ := h0.right q hq
  exact p1 a ha (h1.1.trans (e.trans h2.1.symm))
end
def hasP (n : List (List Int)) (P : Pg) : Bool := P.any (fun x => under x.2.name n)
def hasB (n : List (List Int)) (B : Bk) : Bool := B.any (fun q => hasP n q.2)
theorem hasP_none {n : List (List Int)} {ps : List (ByteArray × Value)} {P : Pg} {Q : Value → Rec → Prop} (h : Two (AtKeys ByteArray Q) ps P) (hA : ps.Pairwise (fun p q => p.1 ≠ q.1)) (hn : ∀ q ∈ ps, ∀ u, lookA q.1 P = some u → under u.name n = false) : hasP n P = false := by
 unfold hasP
 rw [List.any_eq_false]
 intro x hx
 obtain ⟨a, ha, h1, _⟩ := h.right x hx
 rw [hn a ha x.2 (by rw [h1]; exact lookA_mem (two_keys h hA) hx)]
 simp
theorem hasP_some {n : List (List Int)} {P : Pg} {k : ByteArray} {u : Rec} (h : lookA k P = some u) (hu : under u.name n = true) : hasP n P = true := by
 unfold hasP
 rw [List.any_eq_true]
 exact ⟨_, lookA_in h, hu⟩
theorem hasB_none {n : List (List Int)} {ps : List (ByteArray × Value)} {B : Bk} {Q : Value → Pg → Prop} (h : Two (AtKeys ByteArray Q) ps B) (hA : ps.Pairwise (fun p q => p.1 ≠ q.1)) (hn : ∀ q ∈ ps, ∀ u, lookA q.1 B = some u → hasP n u = false) : hasB n B = false := by
 unfold hasB
 rw [List.any_eq_false]
 intro x hx
 obtain ⟨a, ha, h1, _⟩ := h.right x hx
 rw [hn a ha x.2 (by rw [h1]; exact lookA_mem (two_keys h hA) hx)]
 simp
theorem hasB_some {n : List (List Int)} {B : Bk} {k : ByteArray} {P : Pg} (h : lookA k B = some P) (hu : hasP n P = true) : hasB n B = true := by
 unfold hasB
 rw [List.any_eq_true]
 exact ⟨_, lookA_in h, hu⟩
theorem append_bytesIn {F : Fence} {n : Nat} {P : Program} {w : World} {ops : Array Oper} {rest : List Oper} {o : Oper} {a : Act} {Q : Exit → Act → World → Prop} (hgd : o.guard = none) (s x : Operand) (t e : TypeId)
  (ho : o.op = .call { callee := .builtin .append, args := #[s, x], argTypes := #[t, t] }) (ht : P.underlying t = some (.slice e))
  (hinfo : (P.info? e).map (fun i => (i.zero, i.size, i.bytes)) = some (some (.int .u8 0), 1, 1))
  (base : Nat) (v vx : Value) (l m : List Int) (hs : a.eval s = v) (hx : a.eval x = vx) (hown : Own base e w v l) (hr : Reads w vx m) (hlen : l.length + m.length ≤ 1099511627776) (hbase : base ≤ w.heap.size)
  (h : ∀ v' w', Own base e w' v' (l ++ m) → w.grownBy w' v.ownBlock → wpListIn F n P ops Q rest (a.put o.dst v') w') : wpListIn F n P ops Q (o :: rest) a w := by
 obtain ⟨i0, hi, hz0, hz1, hz2⟩ := info_parts hinfo
 rcases hr with ⟨rfl, rfl⟩ | ⟨ad, cap, rfl, hc⟩
 ·refine wpListIn_plain hgd fun K hK' => ?_
  have hrun := run_append_owned_none (P := P) w base t o.type e i0 1 ht hi v l.length (l.map (Value.int .u8)) hown
  unfold Oper.wpIn
  refine ⟨?_, ?_⟩
  ·simp [Oper.about, ho, resolve, Target.leads, Sem.run_pure]
  ·rw [Oper.semAt_plain F _ _ (by rw [ho]; intro c hc'; cases hc')]
   simp [execOp, ho, resolve, invoke, builtin, hs, hx, hrun, Result.andThen]
   exact hK' _ _ (h v w (by simpa using hown) ⟨rfl, rfl, rfl, Nat.le_refl _, fun _ _ _ => rfl⟩)
 ·refine wpListIn_append_own w hgd s x t ho base e i0 (.int .u8 0) 1 1 ht hi hz0 hz1 hz2 rfl (by decide) v l.length (l.map (Value.int .u8)) hs hown ad m.length cap (m.map (Value.int .u8)) hx (by simp) (news_of hc) (one_of m) (by unfold maxLen; omega) (by omega) hbase ?_
  intro v' w' ho' hg _
  exact h v' w' (by simpa [Own] using ho') hg
def keyN (n : List (List Int)) : List Int := n.reverse.flatMap (· ++ [0])
def keyP (ls : List (List Int)) : List Int := ls.flatMap (· ++ [0])
theorem keyP_snoc (ls : List (List Int)) (l : List Int) : keyP (ls ++ [l]) = keyP ls ++ l ++ [0] := by simp [keyP]
theorem keyP_len {ls : List (List Int)} (h : ∀ l ∈ ls, l.length ≤ 15) : (keyP ls).length ≤ 16 * ls.length := by
 induction ls with
 | nil => simp [keyP]
 | cons a t ih =>
  have h1 := ih (fun l hl => h l (List.mem_cons_of_mem _ hl))
  have h2 := h a (List.mem_cons_self ..)
  simp only [keyP, List.flatMap_cons, List.length_append, List.length_cons, List.length_nil] at h1 ⊢
  omega
theorem mem_putA_other {κ α : Type} [DecidableEq κ] {k : κ} {v : α} : ∀ {l : List (κ × α)} {p : κ × α}, p ∈ l → p.1 ≠ k → p ∈ putA k v l
 | [], p, h, _ => by simp at h
 | (a, u) :: t, p, h, hk => by
  by_cases e : a = k
  ·simp only [putA, if_pos e]
   rcases List.mem_cons.1 h with rfl | h
   ·exact absurd e hk
   ·exact List.mem_cons_of_mem _ h
  ·simp only [putA, if_neg e]
   rcases List.mem_cons.1 h with rfl | h
   ·exact List.mem_cons_self ..
   ·exact List.mem_cons_of_mem _ (mem_putA_other h hk)
theorem mem_putA_self {κ α : Type} [DecidableEq κ] {k : κ} {v : α} {l : List (κ × α)} : (k, v) ∈ putA k v l := lookA_in lookA_put

theorem strOfNums_inj : ∀ {l m : List Int}, (∀ x ∈ l, 0 ≤ x ∧ x ≤ 255) → (∀ x ∈ m, 0 ≤ x ∧ x ≤ 255) → strOfNums l = strOfNums m → l = m := by
 intro l m hl hm h
 have h1 : l.map (fun n => UInt8.ofNat n.toNat) = m.map (fun n => UInt8.ofNat n.toNat) := by
  simp only [strOfNums, ByteArray.mk.injEq] at h
  simpa using h
 clear h
 induction l generalizing m with
 | nil =>
  cases m with
  | nil => rfl
  | cons b t => simp at h1
 | cons a t ih =>
  cases m with
  | nil => simp at h1
  | cons b s =>
   simp only [List.map_cons, List.cons.injEq] at h1
   have ha := hl a (List.mem_cons_self ..)
   have hb := hm b (List.mem_cons_self ..)
   have e : a.toNat = b.toNat := by
    have := congrArg UInt8.toNat h1.1
    simp only [UInt8.toNat_ofNat'] at this
    omega
   rw [show a = b by omega, ih (fun x hx => hl x (List.mem_cons_of_mem _ hx)) (fun x hx => hm x (List.mem_cons_of_mem _ hx)) h1.2]
theorem cut_zero : ∀ {l m A B : List Int}, (∀ x ∈ l, x ≠ 0) → (∀ x ∈ m, x ≠ 0) → l ++ 0 :: A = m ++ 0 :: B → l = m ∧ A = B
 | [], [], A, B, _, _, h => by simpa using h
 | [], b :: t, A, B, _, hm, h => by
  simp only [List.nil_append, List.cons_append, List.cons.injEq] at h
  exact absurd h.1.symm (hm b (List.mem_cons_self ..))
 | a :: t, [], A, B, hl, _, h => by
  simp only [List.nil_append, List.cons_append, List.cons.injEq] at h
  exact absurd h.1 (hl a (List.mem_cons_self ..))
 | a :: t, b :: s, A, B, hl, hm, h => by
  simp only [List.cons_append, List.cons.injEq] at h
  obtain ⟨h1, h2⟩ := cut_zero (fun x hx => hl x (List.mem_cons_of_mem _ hx)) (fun x hx => hm x (List.mem_cons_of_mem _ hx)) h.2
  rw [h.1, h1]
  exact ⟨rfl, h2⟩
theorem keyP_inj : ∀ {ls ms : List (List Int)}, (∀ l ∈ ls, ∀ x ∈ l, x ≠ 0) → (∀ l ∈ ms, ∀ x ∈ l, x ≠ 0) → keyP ls = keyP ms → ls = ms
 | [], [], _, _, _ => rfl
 | [], m :: t, _, _, h => by simp [keyP] at h
 | l :: t, [], _, _, h => by simp [keyP] at h
 | l :: t, m :: s, hl, hm, h => by
  simp only [keyP, List.flatMap_cons, List.append_assoc, List.singleton_append] at h
  obtain ⟨h1, h2⟩ := cut_zero (hl l (List.mem_cons_self ..)) (hm m (List.mem_cons_self ..)) h
  rw [h1, keyP_inj (fun x hx => hl x (List.mem_cons_of_mem _ hx)) (fun x hx => hm x (List.mem_cons_of_mem _ hx)) h2]
theorem sign_of {n : List (List Int)} (h : nameOk n = true) : ∀ l ∈ n, ∀ x ∈ l, 45 ≤ x ∧ x ≤ 122 := by
 intro l hl x hx
 obtain ⟨i, hi, rfl⟩ := List.getElem_of_mem hl
 have h1 := (nameOk_parts h).2 i hi
 rw [show n.getD i [] = n[i] by simp [hi]] at h1
 obtain ⟨j, hj, rfl⟩ := List.getElem_of_mem hx
 have h2 := (of_decide_eq_true h1).2.2 j hj
 rw [show n[i].getD j 0 = n[i][j] by simp [hj]] at h2
 have := of_decide_eq_true h2
 omega
theorem keyP_bytes {ls : List (List Int)} (h : ∀ l ∈ ls, ∀ x ∈ l, 45 ≤ x ∧ x ≤ 122) : ∀ x ∈ keyP ls, 0 ≤ x ∧ x ≤ 255 := by
 intro x hx
 obtain ⟨l, hl, hx⟩ := List.mem_flatMap.1 hx
 rcases List.mem_append.1 hx with hx | hx
 ·have := h l hl x hx
  omega
 ·simp at hx
  omega
theorem keyN_inj {n m : List (List Int)} (hn : nameOk n = true) (hm : nameOk m = true) (h : strOfNums (keyN n) = strOfNums (keyN m)) : n = m := by
 have r1 : ∀ l ∈ n.reverse, ∀ x ∈ l, 45 ≤ x ∧ x ≤ 122 := fun l hl => sign_of hn l (List.mem_reverse.1 hl)
 have r2 : ∀ l ∈ m.reverse, ∀ x ∈ l, 45 ≤ x ∧ x ≤ 122 := fun l hl => sign_of hm l (List.mem_reverse.1 hl)
 have e1 : keyP n.reverse = keyP m.reverse := strOfNums_inj (keyP_bytes r1) (keyP_bytes r2) h
 have e2 := keyP_inj (fun l hl x hx => by have := r1 l hl x hx; omega) (fun l hl x hx => by have := r2 l hl x hx; omega) e1
 exact List.reverse_inj.1 e2

def Named (B : Bk) : Prop := ∀ q ∈ B, ∀ x ∈ q.2, q.1 = strOfNums (keyN x.2.name) ∧ nameOk x.2.name = true
theorem page_of (kn : ByteArray) (B : Bk) {x : ByteArray × Rec} (hx : x ∈ (lookA kn B).getD []) : ∃ P, (kn, P) ∈ B ∧ x ∈ P := by
 cases h : lookA kn B with
 | none => rw [h] at hx; simp at hx
 | some P => rw [h] at hx; exact ⟨P, lookA_in h, hx⟩
theorem named_put {B : Bk} (h : Named B) {r : Rec} (hr : nameOk r.name = true) (kd : ByteArray) : Named (bkPut (strOfNums (keyN r.name)) kd r B) := by
 intro q hq x hx
 rcases mem_putA hq with rfl | hq
 ·rcases mem_putA hx with rfl | hx
  ·exact ⟨rfl, hr⟩
  ·obtain ⟨P, h1, h2⟩ := page_of _ B hx
   exact h _ h1 x h2
 ·exact h q hq x hx
theorem hasB_put {n : List (List Int)} {B : Bk} (h : Named B) {r : Rec} (hr : nameOk r.name = true) (kd : ByteArray) : hasB n (bkPut (strOfNums (keyN r.name)) kd r B) = (hasB n B || under r.name n) := by
 rw [Bool.eq_iff_iff, Bool.or_eq_true]
 unfold hasB hasP
 simp only [List.any_eq_true]
 constructor
 ·rintro ⟨q, hq, x, hx, hu⟩
  rcases mem_putA hq with rfl | hq
  ·rcases mem_putA hx with rfl | hx
   ·exact .inr hu
   ·obtain ⟨P, h1, h2⟩ := page_of _ B hx
    exact .inl ⟨_, h1, x, h2, hu⟩
  ·exact .inl ⟨q, hq, x, hx, hu⟩
 ·rintro (⟨q, hq, x, hx, hu⟩ | hu)
  ·by_cases e : q.1 = strOfNums (keyN r.name)
   ·obtain ⟨h1, h2⟩ := h q hq x hx
    have : x.2.name = r.name := keyN_inj h2 hr (h1.symm.trans e)
    rw [this] at hu
    exact ⟨_, mem_putA_self, _, mem_putA_self, hu⟩
   ·exact ⟨q, mem_putA_other hq e, x, hx, hu⟩
  ·exact ⟨_, mem_putA_self, _, mem_putA_self, hu⟩
end Go.Proofs.YthobpbnaklnbiaaGreat
