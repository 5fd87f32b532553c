/-
  Plain facts: maps whose keys are texts, whatever their elements, and ranges over them. No program is named here. Plain facts: a book (a map of pages, each a map of records) in memory, and what it says. No program is named here. Plain facts: texts held against each other byte by byte, names label by label from the last one on. No program is named here. Plain facts: a name that ends with another, and the end of a list of texts in memory. No program is named here. Plain facts: whether a book has a record of a name, or of one under it. No program is named here. Plain facts: an append of bytes in a fenced walk. No program is named here.
-/
import Derived.Maps.RangeWalk
import Derived.RangeFuncNested
import Derived.Test.YtfneahdnpmamkaaGreatFnOwnersG05
import Derived.Lib.Bytealg
import Derived.Lib.BytesEntry
import Derived.OwnWalkIn
namespace Go.Proofs.YtfneahdnpmamkaaGreat
open Go.RowKit
open Go.ChangeMaps (setBlock heap_setBlock_same heap_setBlock_other modify_eq_set)
open Go.MapKept (stamped_iff stamped_empty stamped_push stamped_modify Stamped)
open Go.Maps (Keyed string_keyed)
open Go.WideMaps (keyOf_string_mk)
set_option linter.unusedVariables false

section lists
variable {α β : Type} [DecidableEq α]
def Aw (k : α) : List (α × β) → Option β
 | [] => none
 | (a, v) :: t => if a = k then some v else Aw k t
def putA (k : α) (v : β) : List (α × β) → List (α × β)
 | [] => [(k, v)]
 | (a, u) :: t => if a = k then (k, v) :: t else (a, u) :: putA k v t
theorem Og {k : α} : ∀ {ps : List (α × β)}, (∀ p ∈ ps, p.1 ≠ k) → Aw k ps = none
 | [], _ => rfl
 | (a, v) :: t, h => by
  rw [Aw, if_neg (h (a, v) (List.mem_cons_self ..))]
  exact Og (fun p hp => h p (List.mem_cons_of_mem _ hp))
theorem Kx {k : α} {v : β} : ∀ {ps : List (α × β)}, (∀ p ∈ ps, p.1 ≠ k) → putA k v ps = ps ++ [(k, v)]
 | [], _ => rfl
 | (a, u) :: t, h => by
  rw [putA, if_neg (h (a, u) (List.mem_cons_self ..)), Kx (fun p hp => h p (List.mem_cons_of_mem _ hp))]
  rfl
theorem Rw {k : α} {v : β} : ∀ {ps : List (α × β)} {j : Nat}, ps.Pairwise (fun p q => p.1 ≠ q.1) → ps[j]? = some (k, v) → Aw k ps = some v
 | [], j, _, h => by simp at h
 | (a, u) :: t, 0, hd, h => by
  simp only [List.getElem?_cons_zero, Option.some.injEq, Prod.mk.injEq] at h
  rw [Aw, if_pos h.1, h.2]
 | (a, u) :: t, j + 1, hd, h => by
  simp only [List.getElem?_cons_succ] at h
  obtain ⟨h1, h2⟩ := List.pairwise_cons.1 hd
  rw [Aw, if_neg (h1 _ (List.mem_of_getElem? h)), Rw h2 h]
theorem Uv {k : α} {v v' : β} : ∀ {ps : List (α × β)} {j : Nat}, ps.Pairwise (fun p q => p.1 ≠ q.1) → ps[j]? = some (k, v) → putA k v' ps = ps.set j (k, v')
 | [], j, _, h => by simp at h
 | (a, u) :: t, 0, hd, h => by
  simp only [List.getElem?_cons_zero, Option.some.injEq, Prod.mk.injEq] at h
  rw [putA, if_pos h.1]
  rfl
 | (a, u) :: t, j + 1, hd, h => by
  simp only [List.getElem?_cons_succ] at h
  obtain ⟨h1, h2⟩ := List.pairwise_cons.1 hd
  rw [putA, if_neg (h1 _ (List.mem_of_getElem? h)), Uv h2 h]
  rfl
end lists

def keyE : Value → ByteArray
 | .string s => s
 | _ => default
def toPV (e : MapEntry) : ByteArray × Value := (keyE e.key, e.val)
def MapV (w : World) (b : Nat) (ps : List (ByteArray × Value)) : Prop :=
 ∃ es clock, w.heap[b]? = some (.map es clock) ∧ Stamped es clock ∧ (∀ e ∈ es.toList, ∃ s : ByteArray, e.key = .string s ∧ s.size ≤ maxLen) ∧ ps = es.toList.map toPV
theorem MapV.lt {w : World} {b : Nat} {ps : List (ByteArray × Value)} (h : MapV w b ps) : b < w.heap.size := by
 obtain ⟨es, clock, hb, _⟩ := h
 exact (Array.getElem?_eq_some_iff.1 hb).1
theorem MapV.kept {w w' : World} {b : Nat} {ps : List (ByteArray × Value)} (h : MapV w b ps) (hk : w'.heap[b]? = w.heap[b]?) : MapV w' b ps := by
 obtain ⟨es, clock, hb, rest⟩ := h
 exact ⟨es, clock, hk.trans hb, rest⟩
theorem MapV.below {w w' : World} {b : Nat} {ps : List (ByteArray × Value)} (h : MapV w b ps) (hb : Below w.heap.size w w') : MapV w' b ps := h.kept (hb.block b h.lt)
theorem MapV.grown {w w' : World} {b : Nat} {row : Option Nat} {ps : List (ByteArray × Value)} (h : MapV w b ps) (hg : w.grownBy w' row) (hr : row ≠ some b) : MapV w' b ps := h.kept (hg.block b h.lt (fun e => hr e.symm))
theorem O9 (w : World) : MapV (w.alloc (.map #[] 0)) w.heap.size [] := ⟨#[], 0, heap_alloc_new w _, stamped_empty 0, by simp, by simp⟩
theorem Zo {es : Array MapEntry} {clock : Nat} (hS : Stamped es clock) (hK : ∀ e ∈ es.toList, ∃ s : ByteArray, e.key = .string s ∧ s.size ≤ maxLen) : (es.toList.map toPV).Pairwise (fun p q => p.1 ≠ q.1) := by
 rw [List.pairwise_map]
 refine List.Pairwise.imp_of_mem ?_ ((stamped_iff es clock).1 hS).2.2
 intro a b ha hb h e
 obtain ⟨s, h1, _⟩ := hK a ha
 obtain ⟨s', h2, _⟩ := hK b hb
 simp only [toPV, h1, h2, keyE] at e
 rw [h1, h2, e] at h
 exact h rfl
theorem MapV.apart {w : World} {b : Nat} {ps : List (ByteArray × Value)} (h : MapV w b ps) : ps.Pairwise (fun p q => p.1 ≠ q.1) := by
 obtain ⟨es, clock, _, hS, hK, rfl⟩ := h
 exact Zo hS hK

section
variable {P : Program} {t k e : TypeId} {w : World} {b : Nat} {ps : List (ByteArray × Value)}
theorem Ut {es : Array MapEntry} (hk : P.underlying k = some .string) (hK : ∀ e ∈ es.toList, ∃ s : ByteArray, e.key = .string s ∧ s.size ≤ maxLen) : ∀ e ∈ es.toList, ∃ l, keyOf P k e.key = some l := fun e he => by
 obtain ⟨s, h1, h2⟩ := hK e he
 exact ⟨_, h1 ▸ keyOf_string_mk hk h2⟩
theorem Uw {es : Array MapEntry} {s : ByteArray} (hK : ∀ e ∈ es.toList, ∃ s : ByteArray, e.key = .string s ∧ s.size ≤ maxLen) (h : ∀ e ∈ es.toList, e.key ≠ .string s) : ∀ p ∈ es.toList.map toPV, p.1 ≠ s := by
 intro p hp e
 obtain ⟨x, hx, rfl⟩ := List.mem_map.1 hp
 obtain ⟨s', h1, _⟩ := hK x hx
 refine h x hx ?_
 rw [h1, ← e, toPV, h1]
 rfl
theorem U1 {es : Array MapEntry} {s : ByteArray} {j : Nat} {e0 : MapEntry} (h2 : es.toList[j]? = some e0) (h3 : e0.key = .string s) : (es.toList.map toPV)[j]? = some (s, e0.val) := by
 rw [List.getElem?_map, h2]
 simp [toPV, h3, keyE]
theorem Kf (ht : P.underlying t = some (.map k e)) (hk : P.underlying k = some .string) {z : Value} (hz : (zeroValue e).run P w = .ok z w) (h : MapV w b ps) (s : ByteArray) (hs : s.size ≤ maxLen) :
  (Instr.lookup t (.map (some b)) (.string s) false).run P w = .ok ((Aw s ps).getD z) w := by
 have hA := h.apart
 obtain ⟨es, clock, hb, hS, hK, rfl⟩ := h
 have hkey := keyOf_string_mk hk hs
 have K := string_keyed hk
 rcases K.find w hkey es.toList (Ut hk hK) with ⟨h1, h2⟩ | ⟨j, e0, h1, h2, h3⟩
 ·rw [Og (Uw hK h2)]
  simp [Instr.lookup, run_underlying ht, MapKept.run_getObj_map hb, K.check w _ hkey, h1, hz, Result.andThen]
 ·rw [Rw hA (U1 h2 h3)]
  simp [Instr.lookup, run_underlying ht, MapKept.run_getObj_map hb, K.check w _ hkey, h1, Result.andThen]
theorem Q5 (ht : P.underlying t = some (.map k e)) (hk : P.underlying k = some .string) (h : MapV w b ps) (s : ByteArray) (hs : s.size ≤ maxLen) (v : Value) :
  ∃ w', (Instr.mapUpdate t (.map (some b)) (.string s) v).run P w = .ok () w' ∧ MapV w' b (putA s v ps) ∧ w.grownBy w' (some b) := by
 have hA := h.apart
 obtain ⟨es, clock, hb, hS, hK, rfl⟩ := h
 have hkey := keyOf_string_mk hk hs
 have K := string_keyed hk
 rcases K.find w hkey es.toList (Ut hk hK) with ⟨h1, h2⟩ | ⟨j, e0, h1, h2, h3⟩
 ·refine ⟨setBlock w b (.map (es.push ⟨.string s, v, clock⟩) (clock + 1)), ?_, ⟨_, _, heap_setBlock_same hb _, stamped_push hS h2, ?_, ?_⟩, ⟨rfl, rfl, rfl, by simp [setBlock], fun i _ hi => heap_setBlock_other hb _ (fun e => hi (by rw [e]))⟩⟩
  ·simp [Instr.mapUpdate, run_underlying ht, MapKept.run_getObj_map hb, K.check w false hkey, h1, MapKept.run_setObj_map _ hb, Result.andThen, setBlock]
  ·intro x hx
   simp only [Array.toList_push, List.mem_append, List.mem_singleton] at hx
   rcases hx with hx | rfl
   ·exact hK x hx
   ·exact ⟨s, rfl, hs⟩
  ·rw [Kx (Uw hK h2)]
   simp [toPV, keyE]
 ·have hj : es[j]? = some e0 := by simpa using h2
  have hkeyf : ∀ e', es[j]? = some e' → ({ e' with key := .string s, val := v } : MapEntry).key = e'.key := fun e' he' => by rw [hj] at he'; cases he'; exact h3.symm
  have hlist : (es.modify j (fun e' => { e' with key := .string s, val := v })).toList = es.toList.set j { e0 with key := .string s, val := v } := by rw [Array.toList_modify, modify_eq_set _ _ _ _ h2]
  refine ⟨setBlock w b (.map (es.modify j (fun e' => { e' with key := .string s, val := v })) clock), ?_, ⟨_, _, heap_setBlock_same hb _, stamped_modify hS _ _ (fun _ _ => rfl) (fun e' _ he' => hkeyf e' he'), ?_, ?_⟩, ⟨rfl, rfl, rfl, by simp [setBlock], fun i _ hi => heap_setBlock_other hb _ (fun e => hi (by rw [e]))⟩⟩
  ·simp [Instr.mapUpdate, run_underlying ht, MapKept.run_getObj_map hb, K.check w false hkey, h1, hj, h3, K.stays w hkey, MapKept.run_setObj_map _ hb, Result.andThen, setBlock]
  ·intro x hx
   rw [hlist] at hx
   rcases List.mem_or_eq_of_mem_set hx with hx | rfl
   ·exact hK x hx
   ·exact ⟨s, rfl, hs⟩
  ·rw [Uv hA (U1 h2 h3), hlist, List.map_set]
   simp [toPV, keyE]
def Im (w : World) (b r : Nat) (ps L : List (ByteArray × Value)) : Prop :=
 ∃ es clock since seen c0, w.heap[b]? = some (.map es clock) ∧ Stamped es clock ∧ (∀ e ∈ es.toList, ∃ s : ByteArray, e.key = .string s ∧ s.size ≤ maxLen) ∧ ps = es.toList.map toPV ∧ w.heap[r]? = some (.mapIter (some b) since seen c0) ∧
  (∀ x ∈ es.toList, x.born < since) ∧ since ≤ c0 ∧ since ≤ clock ∧ L = (leftOf es seen).toList.map toPV
theorem Im.lt {r : Nat} {L : List (ByteArray × Value)} (h : Im w b r ps L) : b < w.heap.size ∧ r < w.heap.size ∧ r ≠ b := by
 obtain ⟨es, clock, since, seen, c0, hb, _, _, _, hr, _⟩ := h
 refine ⟨(Array.getElem?_eq_some_iff.1 hb).1, (Array.getElem?_eq_some_iff.1 hr).1, fun e => ?_⟩
 rw [e, hb] at hr
 cases hr
theorem Im.kept {w' : World} {r : Nat} {L : List (ByteArray × Value)} (h : Im w b r ps L) (hk : w'.heap[b]? = w.heap[b]?) (hk' : w'.heap[r]? = w.heap[r]?) : Im w' b r ps L := by
 obtain ⟨es, clock, since, seen, c0, hb, h1, h2, h3, hr, rest⟩ := h
 exact ⟨es, clock, since, seen, c0, hk.trans hb, h1, h2, h3, hk'.trans hr, rest⟩
theorem Im.below {w' : World} {r : Nat} {L : List (ByteArray × Value)} (h : Im w b r ps L) (hb : Below w.heap.size w w') : Im w' b r ps L := h.kept (hb.block b h.lt.1) (hb.block r h.lt.2.1)
end
end Go.Proofs.YtfneahdnpmamkaaGreat

namespace Go.Proofs.YtfneahdnpmamkaaGreat
open Go.RowKit
set_option linter.unusedVariables false

def Fq (W W' : World) : Prop := W.heap.size ≤ W'.heap.size ∧ ∀ p v, W.cell? p = some v → W'.cell? p = some v
theorem Fq.refl (W : World) : Fq W W := ⟨Nat.le_refl _, fun _ _ h => h⟩
theorem Fq.trans {A B C : World} (h : Fq A B) (k : Fq B C) : Fq A C := ⟨Nat.le_trans h.1 k.1, fun p v q => k.2 p v (h.2 p v q)⟩
theorem Da {W W' : World} (h : Below W.heap.size W W') : Fq W W' := ⟨h.size, fun p v q => (h.cell (block_lt_of_cell q)).trans q⟩
def Zd : Obj → Bool
 | .map _ _ => true
 | _ => false
def Fw (W W' : World) : Prop := W.heap.size ≤ W'.heap.size ∧ ∀ (g : Nat) (o : Obj), W.heap[g]? = some o → Zd o = false → W'.heap[g]? = some o
theorem Fw.refl (W : World) : Fw W W := ⟨Nat.le_refl _, fun _ _ h _ => h⟩
theorem Fw.trans {A B C : World} (h : Fw A B) (k : Fw B C) : Fw A C := ⟨Nat.le_trans h.1 k.1, fun g o q e => k.2 g o (h.2 g o q e) e⟩
theorem C5 {W W' : World} (h : Below W.heap.size W W') : Fw W W' := ⟨h.size, fun g o q _ => UE h q⟩
theorem P2 {W W' : World} {b : Nat} {ps : List (ByteArray × Value)} (hg : W.grownBy W' (some b)) (hm : MapV W b ps) : Fw W W' := by
 refine ⟨hg.size, fun g o q e => ?_⟩
 obtain ⟨es, c, hb, _⟩ := hm
 refine (hg.block g (VC q) ?_).trans q
 intro e1
 simp only [Option.some.injEq] at e1
 subst e1
 rw [hb] at q
 cases q
 cases e
theorem Fw.x {W W' : World} (h : Fw W W') : Fq W W' := by
 refine ⟨h.1, fun p v q => ?_⟩
 cases ho : W.heap[p.block]? with
 | none => simp [World.cell?, ho] at q
 | some o =>
  have hm : Zd o = false := by
   cases o <;> first | rfl | (simp [World.cell?, ho] at q)
  exact (World.cell?_of_block (w := W) ((h.2 _ _ ho hm).trans ho.symm)).trans q
theorem Has.keptX {w w' : World} {v : Value} {l : List Int} (h : Has w v l) (hk : Fq w w') : Has w' v l := by
 rcases h with h | ⟨g, off, cap, hv, hlt, hl, hm, hc⟩
 ·exact .inl h
 ·exact .inr ⟨g, off, cap, hv, Nat.lt_of_lt_of_le hlt hk.1, hl, hm, fun i hi => hk.2 _ _ (hc i hi)⟩
theorem HasI.keptX {w w' : World} {v : Value} {l : List Int} (h : HasI w v l) (hk : Fq w w') : HasI w' v l := by
 rcases h with h | ⟨g, off, cap, hv, hlt, hl, hm, hc⟩
 ·exact .inl h
 ·exact .inr ⟨g, off, cap, hv, Nat.lt_of_lt_of_le hlt hk.1, hl, hm, fun i hi => hk.2 _ _ (hc i hi)⟩
theorem HasL.keptX {w w' : World} {v : Value} {n : List (List Int)} (h : HasL w v n) (hk : Fq w w') : HasL w' v n := by
 rcases h with h | ⟨g, off, cap, hv, hlt, hl, hm, hc⟩
 ·exact .inl h
 ·refine .inr ⟨g, off, cap, hv, Nat.lt_of_lt_of_le hlt hk.1, hl, hm, fun i hi => ?_⟩
  obtain ⟨u, h1, h2⟩ := hc i hi
  exact ⟨u, hk.2 _ _ h1, h2.keptX hk⟩
theorem HasR.keptX {w w' : World} {vn vt vx vi : Value} {r : Rec} (h : HasR w vn vt vx vi r) (hk : Fq w w') : HasR w' vn vt vx vi r := ⟨h.name.keptX hk, h.to.keptX hk, h.text.keptX hk, h.nums.keptX hk⟩

inductive Two {α β : Type} (R : α → β → Prop) : List α → List β → Prop
 | nil : Two R [] []
 | cons {a b l m} : R a b → Two R l m → Two R (a :: l) (b :: m)
namespace Two
variable {α β : Type} {R R' : α → β → Prop}
theorem mono (f : ∀ a b, R a b → R' a b) {l : List α} {m : List β} (h : Two R l m) : Two R' l m := by
 induction h with
 | nil => exact .nil
 | cons h1 _ ih => exact .cons (f _ _ h1) ih
theorem left {l : List α} {m : List β} (h : Two R l m) : ∀ a ∈ l, ∃ b ∈ m, R a b := by
 induction h with
 | nil => intro a ha; simp at ha
 | cons h1 _ ih =>
  intro a ha
  rcases List.mem_cons.1 ha with rfl | ha
  ·exact ⟨_, List.mem_cons_self .., h1⟩
  ·obtain ⟨b, hb, hr⟩ := ih a ha
   exact ⟨b, List.mem_cons_of_mem _ hb, hr⟩
theorem right {l : List α} {m : List β} (h : Two R l m) : ∀ b ∈ m, ∃ a ∈ l, R a b := by
 induction h with
 | nil => intro a ha; simp at ha
 | cons h1 _ ih =>
  intro b hb
  rcases List.mem_cons.1 hb with rfl | hb
  ·exact ⟨_, List.mem_cons_self .., h1⟩
  ·obtain ⟨a, ha, hr⟩ := ih b hb
   exact ⟨a, List.mem_cons_of_mem _ ha, hr⟩
end Two
section
variable {κ α β : Type} [DecidableEq κ] {Q Q' : α → β → Prop}
abbrev Ht (κ : Type) {α β : Type} (Q : α → β → Prop) : κ × α → κ × β → Prop := fun a b => a.1 = b.1 ∧ Q a.2 b.2
theorem Oi {k : κ} {l : List (κ × α)} {m : List (κ × β)} (h : Two (Ht κ Q) l m) : (Aw k l = none ∧ Aw k m = none) ∨ ∃ v u, Aw k l = some v ∧ Aw k m = some u ∧ Q v u ∧ (k, v) ∈ l := by
 induction h with
 | nil => exact .inl ⟨rfl, rfl⟩
 | @cons a b l m h1 _ ih =>
  obtain ⟨a1, a2⟩ := a
  obtain ⟨b1, b2⟩ := b
  obtain ⟨h1, h2⟩ := h1
  simp only at h1 h2
  subst h1
  by_cases e : a1 = k
  ·subst e
   exact .inr ⟨a2, b2, by simp [Aw], by simp [Aw], h2, by simp⟩
  ·simp only [Aw, if_neg e]
   rcases ih with ih | ⟨v, u, i1, i2, i3, i4⟩
   ·exact .inl ih
   ·exact .inr ⟨v, u, i1, i2, i3, List.mem_cons_of_mem _ i4⟩
theorem U7 {k : κ} {v : α} {u : β} {l : List (κ × α)} {m : List (κ × β)} (h : Two (Ht κ Q) l m) (hv : Q' v u) (hA : l.Pairwise (fun p q => p.1 ≠ q.1)) (ho : ∀ a x, (a, x) ∈ l → a ≠ k → ∀ y, Q x y → Q' x y) : Two (Ht κ Q') (putA k v l) (putA k u m) := by
 induction h with
 | nil => exact .cons ⟨rfl, hv⟩ .nil
 | @cons a b l m h1 h0 ih =>
  obtain ⟨a1, a2⟩ := a
  obtain ⟨b1, b2⟩ := b
  obtain ⟨h1, h2⟩ := h1
  simp only at h1 h2
  subst h1
  obtain ⟨p1, p2⟩ := List.pairwise_cons.1 hA
  by_cases e : a1 = k
  ·subst e
   simp only [putA, if_true]
   refine .cons ⟨rfl, hv⟩ ?_
   clear ih hv h2 hA
   induction h0 with
   | nil => exact .nil
   | @cons a b l m q1 _ ih =>
    obtain ⟨q2, q3⟩ := List.pairwise_cons.1 p2
    refine .cons ⟨q1.1, ho a.1 a.2 (by simp) (fun e => p1 a (by simp) e.symm) _ q1.2⟩ (ih (fun p hp => p1 p (List.mem_cons_of_mem _ hp)) q3 (fun c x hx => ho c x ?_))
    rcases List.mem_cons.1 hx with hx | hx
    ·rw [hx]; exact List.mem_cons_self ..
    ·exact List.mem_cons_of_mem _ (List.mem_cons_of_mem _ hx)
  ·simp only [putA, if_neg e]
   exact .cons ⟨rfl, ho a1 a2 (by simp) e _ h2⟩ (ih p2 (fun c x hx => ho c x (List.mem_cons_of_mem _ hx)))
theorem P7 {k : κ} {v : α} : ∀ {l : List (κ × α)}, Aw k l = some v → putA k v l = l
 | [], h => by simp [Aw] at h
 | (a, u) :: t, h => by
  by_cases e : a = k
  ·subst e
   simp only [Aw, if_true, Option.some.injEq] at h
   simp [putA, h]
  ·simp only [Aw, if_neg e] at h
   simp only [putA, if_neg e]
   rw [P7 h]
theorem Gk {k : κ} {v : α} : ∀ {l : List (κ × α)} {p : κ × α}, p ∈ putA k v l → p = (k, v) ∨ p ∈ l
 | [], p, h => by simp [putA] at h; exact .inl h
 | (a, u) :: t, p, h => by
  by_cases e : a = k
  ·simp only [putA, if_pos e] at h
   rcases List.mem_cons.1 h with h | h
   ·exact .inl h
   ·exact .inr (List.mem_cons_of_mem _ h)
  ·simp only [putA, if_neg e] at h
   rcases List.mem_cons.1 h with h | h
   ·exact .inr (h ▸ List.mem_cons_self ..)
   ·rcases Gk h with h | h
    ·exact .inl h
    ·exact .inr (List.mem_cons_of_mem _ h)
theorem Nx {k : κ} {v : α} : ∀ {l : List (κ × α)}, l.Pairwise (fun p q => p.1 ≠ q.1) → l.Pairwise (fun p q => p.2 ≠ q.2) → (∀ p ∈ l, p.1 ≠ k → p.2 ≠ v) → (putA k v l).Pairwise (fun p q => p.2 ≠ q.2)
 | [], _, _, _ => by simp [putA]
 | (a, u) :: t, hA, hV, h => by
  obtain ⟨p1, p2⟩ := List.pairwise_cons.1 hA
  obtain ⟨v1, v2⟩ := List.pairwise_cons.1 hV
  by_cases e : a = k
  ·subst e
   simp only [putA, if_true]
   exact List.pairwise_cons.2 ⟨fun q hq e => h q (List.mem_cons_of_mem _ hq) (fun e => p1 q hq e.symm) e.symm, v2⟩
  ·simp only [putA, if_neg e]
   refine List.pairwise_cons.2 ⟨fun q hq => ?_, Nx p2 v2 (fun p hp => h p (List.mem_cons_of_mem _ hp))⟩
   rcases Gk hq with rfl | hq
   ·exact h (a, u) (List.mem_cons_self ..) e
   ·exact v1 q hq
end

abbrev Pg := List (ByteArray × Rec)
abbrev Bk := List (ByteArray × Pg)
def Rx (w : World) (v : Value) (r : Rec) : Prop := ∃ vn vt vx vi, v = .agg #[vn, .int .i64 r.type, .int .i64 r.ttl, .int .i64 r.addr, vt, vx, vi] ∧ HasR w vn vt vx vi r
theorem Rx.keptX {w w' : World} {v : Value} {r : Rec} (h : Rx w v r) (hk : Fq w w') : Rx w' v r := by
 obtain ⟨vn, vt, vx, vi, h1, h2⟩ := h
 exact ⟨vn, vt, vx, vi, h1, h2.keptX hk⟩
def F4 (w : World) (p : Nat) (P : Pg) : Prop := ∃ ps, MapV w p ps ∧ Two (Ht ByteArray (Rx w)) ps P
theorem F4.kept {w w' : World} {p : Nat} {P : Pg} (h : F4 w p P) (hp : w'.heap[p]? = w.heap[p]?) (hk : Fq w w') : F4 w' p P := by
 obtain ⟨ps, h1, h2⟩ := h
 exact ⟨ps, h1.kept hp, h2.mono (fun a b h => ⟨h.1, h.2.keptX hk⟩)⟩
theorem F4.lt {w : World} {p : Nat} {P : Pg} (h : F4 w p P) : p < w.heap.size := h.choose_spec.1.lt
def Xi (n0 : Nat) (w : World) (b : Nat) (v : Value) (P : Pg) : Prop := ∃ p, v = .map (some p) ∧ n0 ≤ p ∧ p ≠ b ∧ F4 w p P
def Gd (n0 : Nat) (w : World) (b : Nat) (B : Bk) : Prop := n0 ≤ b ∧ ∃ ps, MapV w b ps ∧ Two (Ht ByteArray (Xi n0 w b)) ps B ∧ ps.Pairwise (fun p q => p.2 ≠ q.2)
theorem Gd.below {n0 : Nat} {w w' : World} {b : Nat} {B : Bk} (h : Gd n0 w b B) (hb : Below w.heap.size w w') : Gd n0 w' b B := by
 obtain ⟨h0, ps, h1, h2, h3⟩ := h
 refine ⟨h0, ps, h1.below hb, h2.mono (fun a c h => ⟨h.1, ?_⟩), h3⟩
 obtain ⟨p, q1, q0, q2, q3⟩ := h.2
 exact ⟨p, q1, q0, q2, q3.kept (hb.block p q3.lt) (Da hb)⟩
theorem Gd.lt {n0 : Nat} {w : World} {b : Nat} {B : Bk} (h : Gd n0 w b B) : b < w.heap.size := h.2.choose_spec.1.lt
theorem Ud {n0 : Nat} (w : World) (h : n0 ≤ w.heap.size) : Gd n0 (w.alloc (.map #[] 0)) w.heap.size [] := ⟨h, [], O9 w, .nil, List.Pairwise.nil⟩
def Hk (kn kd : ByteArray) (r : Rec) (B : Bk) : Bk := putA kn (putA kd r ((Aw kn B).getD [])) B
theorem Sl {n0 : Nat} {w w' : World} {b p : Nat} {k : ByteArray} {ps : List (ByteArray × Value)} {B : Bk} {P : Pg} (h0 : n0 ≤ b) (h1 : MapV w b ps) (h2 : Two (Ht ByteArray (Xi n0 w b)) ps B) (h3 : ps.Pairwise (fun p q => p.2 ≠ q.2))
  (m : MapV w' b (putA k (.map (some p)) ps)) (hp : F4 w' p P) (hn : n0 ≤ p) (hne : p ≠ b) (ho : ∀ q ∈ ps, q.1 ≠ k → q.2 ≠ .map (some p)) (hk : Fq w w') (hb : ∀ q, q ≠ p → q ≠ b → q < w.heap.size → w'.heap[q]? = w.heap[q]?) : Gd n0 w' b (putA k P B) := by
 refine ⟨h0, _, m, U7 h2 ⟨p, rfl, hn, hne, hp⟩ h1.apart (fun a x hx hak y hxy => ?_), Nx h1.apart h3 ho⟩
 obtain ⟨q, rfl, q1, q2, q3⟩ := hxy
 refine ⟨q, rfl, q1, q2, q3.kept (hb q (fun e => ?_) q2 q3.lt) hk⟩
 subst e
 exact ho _ hx hak rfl
theorem Tl {ps : List (ByteArray × Value)} (h3 : ps.Pairwise (fun p q => p.2 ≠ q.2)) {k : ByteArray} {v : Value} (hm : (k, v) ∈ ps) : ∀ q ∈ ps, q.1 ≠ k → q.2 ≠ v := by
 induction ps with
 | nil => simp at hm
 | cons a t ih =>
  obtain ⟨p1, p2⟩ := List.pairwise_cons.1 h3
  intro q hq hk e
  rcases List.mem_cons.1 hm with rfl | hm'
  ·rcases List.mem_cons.1 hq with rfl | hq
   ·exact hk rfl
   ·exact p1 q hq e.symm
  ·rcases List.mem_cons.1 hq with rfl | hq
   ·exact p1 _ hm' e
   ·exact ih p2 hm' q hq hk e
theorem Ku {κ α : Type} [DecidableEq κ] {k : κ} {v : α} : ∀ {l : List (κ × α)}, Aw k (putA k v l) = some v
 | [] => by simp [putA, Aw]
 | (a, u) :: t => by
  by_cases e : a = k
  ·simp [putA, e, Aw]
  ·simp only [putA, if_neg e, Aw]
   exact Ku
theorem Sz {P : Program} {t k e : TypeId} {W : World} {p : Nat} {Q : Pg} {v : Value} {r : Rec} (ht : P.underlying t = some (.map k e)) (hk : P.underlying k = some .string) (h : F4 W p Q) (kd : ByteArray) (hs : kd.size ≤ maxLen) (hv : Rx W v r) :
  ∃ w', (Instr.mapUpdate t (.map (some p)) (.string kd) v).run P W = .ok () w' ∧ F4 w' p (putA kd r Q) ∧ W.grownBy w' (some p) ∧ Fw W w' := by
 obtain ⟨ps, h1, h2⟩ := h
 obtain ⟨w', h3, h4, h5⟩ := Q5 ht hk h1 kd hs v
 have hK := P2 h5 h1
 exact ⟨w', h3, ⟨_, h4, U7 h2 (hv.keptX hK.x) h1.apart (fun a x _ _ y hy => hy.keptX hK.x)⟩, h5, hK⟩
theorem Rc {P : Program} {w w' : World} {ops : Array Oper} {o : Oper} {a : Act} {K : Act → World → Prop} {Q : Exit → Act → World → Prop} {E : Prop} (hgd : o.guard = none) (m x v : Operand) (t : TypeId) (hop : o.op = Op.mapUpdate t m x v) (mv xv vv : Value) (hm : a.eval m = mv) (hx : a.eval x = xv) (hv : a.eval v = vv)
  (hrun : (Instr.mapUpdate t mv xv vv).run P w = .ok () w') (h : K (a.put o.dst undef) w') : if Region.wanted o (yielded ops a.tmps) = true then Oper.wp P o a w K Q else E := by
 have hw : Region.wanted o (yielded ops a.tmps) = true := by simp [Region.wanted, hgd]
 rw [if_pos hw]
 unfold Oper.wp
 simp [execOp, hop, hm, hx, hv, hrun, Result.andThen]
 exact h
theorem Xv {P : Program} {w w' : World} {ops : Array Oper} {rest : List Oper} {o : Oper} {a : Act} {Q : Exit → Act → World → Prop} (hgd : o.guard = none) (m x v : Operand) (t : TypeId) (hop : o.op = Op.mapUpdate t m x v) (mv xv vv : Value) (hm : a.eval m = mv) (hx : a.eval x = xv) (hv : a.eval v = vv)
  (hrun : (Instr.mapUpdate t mv xv vv).run P w = .ok () w') (h : wpList P ops Q rest (a.put o.dst undef) w') : wpList P ops Q (o :: rest) a w := by
 refine wpList_plain hgd fun K' hK' => ?_
 unfold Oper.wp
 simp [execOp, hop, hm, hx, hv, hrun, Result.andThen]
 exact hK' _ _ h
end Go.Proofs.YtfneahdnpmamkaaGreat

namespace Go.Proofs.YtfneahdnpmamkaaGreat
open Go.RowKit

def cmpB (a b : List Int) : Int := Lib.compareBytes (strOfNums a).data.toList (strOfNums b).data.toList

theorem Jo : ∀ (a b : List UInt8), Op.bytesLess a b = decide (Lib.compareBytes a b = -1)
 | [], [] => rfl
 | [], _ :: _ => rfl
 | _ :: _, [] => rfl
 | x :: a, y :: b => by
  have ih := Jo a b
  unfold Op.bytesLess Lib.compareBytes
  by_cases h1 : x < y
  ·simp [h1]
  ·by_cases h2 : y < x
   ·have : (x == y) = false := by
     apply beq_eq_false_iff_ne.2
     intro e; subst e; exact UInt8.lt_irrefl x h2
    simp [h1, h2, this]
   ·have e : x = y := UInt8.le_antisymm (UInt8.not_lt.1 h2) (UInt8.not_lt.1 h1)
    subst e
    simp [h1, ih]

theorem Jt : ∀ (a b : List UInt8), (a == b) = decide (Lib.compareBytes a b = 0)
 | [], [] => rfl
 | [], _ :: _ => rfl
 | _ :: _, [] => rfl
 | x :: a, y :: b => by
  have ih := Jt a b
  unfold Lib.compareBytes
  rw [List.cons_beq_cons]
  by_cases h1 : x < y
  ·have : (x == y) = false := by
    apply beq_eq_false_iff_ne.2
    intro e; subst e; exact UInt8.lt_irrefl x h1
   simp [h1, this]
  ·by_cases h2 : y < x
   ·have : (x == y) = false := by
     apply beq_eq_false_iff_ne.2
     intro e; subst e; exact UInt8.lt_irrefl x h2
    simp [h1, h2, this]
   ·have e : x = y := UInt8.le_antisymm (UInt8.not_lt.1 h2) (UInt8.not_lt.1 h1)
    subst e
    simp only [h1, if_false, beq_self_eq_true, Bool.true_and]
    exact ih

theorem I3 : ∀ (a b : List UInt8), Lib.compareBytes a b = -1 ∨ Lib.compareBytes a b = 0 ∨ Lib.compareBytes a b = 1
 | [], [] => .inr (.inl rfl)
 | [], _ :: _ => .inl rfl
 | _ :: _, [] => .inr (.inr rfl)
 | x :: a, y :: b => by
  unfold Lib.compareBytes
  split
  ·exact .inl rfl
  ·split
   ·exact .inr (.inr rfl)
   ·exact I3 a b

theorem Y7 (a b : List Int) : Op.bytesLess (strOfNums a).toList (strOfNums b).toList = decide (cmpB a b = -1) := by
 rw [ByteArray.toList_eq, ByteArray.toList_eq, Jo]; rfl
theorem Sb (a b : List Int) : ((strOfNums a).toList == (strOfNums b).toList) = decide (cmpB a b = 0) := by
 rw [ByteArray.toList_eq, ByteArray.toList_eq, Jt]; rfl
theorem Fm (a b : List Int) : cmpB a b = -1 ∨ cmpB a b = 0 ∨ cmpB a b = 1 := I3 _ _

theorem Hq {P : Program} {w : World} {v : Value} {l : List Int} (h : Has w v l) : (Extern.Bytes.bytesOf v).run P w = .ok (strOfNums l) w := by
 rcases h with ⟨rfl, rfl⟩ | ⟨g, off, cap, rfl, _, _, _, hc⟩
 ·rfl
 ·have hl := Lib.run_loadBytesX (P := P) w l ⟨g, off, none⟩ .empty (fun j x hj => by
   have hjl : j < l.length := (List.getElem?_eq_some_iff.1 hj).1
   rw [Addr.add_lit, hc j hjl]
   simp [hj])
  show (Extern.Bytes.loadBytes ⟨g, off, none⟩ l.length .empty).run P w = _
  rw [hl]
  congr 1
  simp [strOfNums, Lib.bytesOf, ByteArray.empty, ByteArray.emptyWithCapacity]
  rfl

theorem Mb {P : Program} {w : World} {v v' : Value} {l l' : List Int} (h : Has w v l) (h' : Has w v' l') :
  (Extern.BytealgCompare.compare #[v, v']).run P w = .ok (.int .i64 (cmpB l l')) w := by
 change Sem.run P (do pure (goInt (Extern.BytealgCompare.cmp (← Extern.Bytes.bytesOf v) (← Extern.Bytes.bytesOf v')))) w = _
 simp only [Sem.run_bind, Hq h, Hq h', Sem.run_pure, Result.andThen]
 rw [Lib.cmp_eq]
 rfl

def Fz (a b : List (List Int)) (i : Nat) : Int := cmpB (a.getD (a.length - i) []) (b.getD (b.length - i) [])

theorem S6 (a b : List (List Int)) (i : Nat) : Fz a b i = cmpB (a.getD (a.length - i) []) (b.getD (b.length - i) []) := rfl

def A4 (x y : Int) : Int := if x < y then -1 else if y < x then 1 else 0

def cmpN (a b : List (List Int)) : Int :=
 match (List.range (min a.length b.length)).find? (fun j => Fz a b (j + 1) != 0) with
 | some j => Fz a b (j + 1)
 | none => A4 a.length b.length

theorem Sm {a b : List (List Int)} {k : Nat} (h1 : 1 ≤ k) (h2 : k ≤ a.length) (h3 : k ≤ b.length) (hz : ∀ j, 1 ≤ j → j < k → Fz a b j = 0) (hk : Fz a b k ≠ 0) : cmpN a b = Fz a b k := by
 have : (List.range (min a.length b.length)).find? (fun j => Fz a b (j + 1) != 0) = some (k - 1) := by
  rw [List.find?_range_eq_some]
  refine ⟨by rw [Nat.sub_add_cancel h1]; simpa using hk, by simp; omega, fun j hj => ?_⟩
  have := hz (j + 1) (by omega) (by omega)
  simp [this]
 unfold cmpN
 rw [this]
 show Fz a b (k - 1 + 1) = _
 rw [Nat.sub_add_cancel h1]

theorem P3 {a b : List (List Int)} {k : Nat} (hk : a.length < k ∨ b.length < k) (hz : ∀ j, 1 ≤ j → j < k → Fz a b j = 0) : cmpN a b = A4 a.length b.length := by
 have : (List.range (min a.length b.length)).find? (fun j => Fz a b (j + 1) != 0) = none := by
  rw [List.find?_range_eq_none]
  intro j hj
  have := hz (j + 1) (by omega) (by omega)
  simp [this]
 unfold cmpN
 rw [this]

def Bo (a b : List (List Int)) : Int := if Ag a = true ∧ Ag b = true then cmpN a b else 0
end Go.Proofs.YtfneahdnpmamkaaGreat

namespace Go.Proofs.YtfneahdnpmamkaaGreat
open Go.RowKit

def Cy (n z : List (List Int)) : Bool := decide (z.length ≤ n.length) && (cmpN (n.drop (n.length - z.length)) z == 0)
def under (n z : List (List Int)) : Bool := Ag n && (Ag z && Cy n z)

theorem Lc {n z : List (List Int)} (h : n.length < z.length) : Cy n z = false := by
 unfold Cy
 rw [decide_eq_false (by omega)]
 rfl
theorem Jl {n z : List (List Int)} (h : z.length ≤ n.length) : Cy n z = (cmpN (n.drop (n.length - z.length)) z == 0) := by
 unfold Cy
 rw [decide_eq_true h]
 rfl

theorem St {n : List (List Int)} (h : Ag n = true) (k : Nat) : Ag (n.drop k) = true := by
 obtain ⟨h1, h2⟩ := Ai h
 refine Ja (by simp; omega) fun j hj => ?_
 simp at hj
 have := h2 (k + j) (by omega)
 have e : (n.drop k).getD j [] = n.getD (k + j) [] := by simp [List.getD]
 rw [e]; exact this

theorem HasL.drop {w : World} {a : Option Addr} {m cap k : Nat} {n : List (List Int)} (h : HasL w (.slice a m cap) n) (hn : n.length = m) (hk : k ≤ m) :
  (a = none ∧ m = 0 ∧ cap = 0) ∨ ∃ g off, a = some ⟨g, off, none⟩ ∧ HasL w (.slice (if cap = k then some ⟨g, off, none⟩ else some ⟨g, off + k, none⟩) (m - k) (cap - k)) (n.drop k) := by
 subst hn
 rcases h with ⟨hv, rfl⟩ | ⟨g, off, cap', hv, hlt, hl, hm, hc⟩
 ·simp only [Value.slice.injEq] at hv
  exact .inl ⟨hv.1, rfl, hv.2.2⟩
 ·simp only [Value.slice.injEq, true_and] at hv
  obtain ⟨rfl, rfl⟩ := hv
  right
  refine ⟨g, off, rfl, ?_⟩
  have hlen : (n.drop k).length = n.length - k := by simp
  by_cases e : cap = k
  ·rw [if_pos e]
   refine .inr ⟨g, off, cap - k, by rw [hlen], hlt, by rw [hlen]; omega, by omega, fun i hi => ?_⟩
   rw [hlen] at hi
   omega
  ·rw [if_neg e]
   refine .inr ⟨g, off + k, cap - k, by rw [hlen], hlt, by rw [hlen]; omega, by omega, fun i hi => ?_⟩
   rw [hlen] at hi
   obtain ⟨u, h1, h2⟩ := hc (k + i) (by omega)
   refine ⟨u, by rw [Nat.add_assoc]; exact h1, ?_⟩
   have e2 : (n.drop k).getD i [] = n.getD (k + i) [] := by simp [List.getD]
   rw [e2]; exact h2

end Go.Proofs.YtfneahdnpmamkaaGreat

namespace Go.Proofs.YtfneahdnpmamkaaGreat
open Go.RowKit
set_option linter.unusedVariables false

section
variable {κ α β : Type} [DecidableEq κ] {Q : α → β → Prop}
theorem Ix {k : κ} {v : β} : ∀ {l : List (κ × β)}, l.Pairwise (fun p q => p.1 ≠ q.1) → (k, v) ∈ l → Aw k l = some v
 | [], _, h => by simp at h
 | (a, u) :: t, hd, h => by
  obtain ⟨h1, h2⟩ := List.pairwise_cons.1 hd
  rcases List.mem_cons.1 h with h | h
  ·cases h
   simp [Aw]
  ·rw [Aw, if_neg (h1 _ h), Ix h2 h]
theorem Is {k : κ} {v : β} : ∀ {l : List (κ × β)}, Aw k l = some v → (k, v) ∈ l
 | [], h => by simp [Aw] at h
 | (a, u) :: t, h => by
  by_cases e : a = k
  ·simp only [Aw, if_pos e, Option.some.injEq] at h
   rw [← e, ← h]
   exact List.mem_cons_self ..
  ·simp only [Aw, if_neg e] at h
   exact List.mem_cons_of_mem _ (Is h)
theorem Zx {k : κ} {v : α} {l : List (κ × α)} {m : List (κ × β)} (h : Two (Ht κ Q) l m) (hA : l.Pairwise (fun p q => p.1 ≠ q.1)) (hm : (k, v) ∈ l) : ∃ u, Aw k m = some u ∧ Q v u := by
 have hl := Ix hA hm
 rcases Oi (k := k) h with ⟨h1, _⟩ | ⟨v', u, h1, h2, h3, _⟩
 ·rw [h1] at hl
  cases hl
 ·rw [h1] at hl
  cases hl
  exact ⟨u, h2, h3⟩
omit [DecidableEq κ] in
end
theorem Ih {F : Fence} {n : Nat} {P : Program} {w : World} {ops : Array Oper} {rest : List Oper} {o : Oper} {a : Act} {Q : Exit → Act → World → Prop} (hgd : o.guard = none) (s x : Operand) (t e : TypeId)
  (ho : o.op = .call { callee := .builtin .append, args := #[s, x], argTypes := #[t, t] }) (ht : P.underlying t = some (.slice e))
  (hinfo : (P.info? e).map (fun i => (i.zero, i.size, i.bytes)) = some (some (.int .u8 0), 1, 1))
  (base : Nat) (v vx : Value) (l m : List Int) (hs : a.eval s = v) (hx : a.eval x = vx) (hown : Own base e w v l) (hr : Jr w vx m) (hlen : l.length + m.length ≤ 1099511627776) (hbase : base ≤ w.heap.size)
  (h : ∀ v' w', Own base e w' v' (l ++ m) → w.grownBy w' v.ownBlock → wpListIn F n P ops Q rest (a.put o.dst v') w') : wpListIn F n P ops Q (o :: rest) a w := by
 obtain ⟨i0, hi, hz0, hz1, hz2⟩ := info_parts hinfo
 rcases hr with ⟨rfl, rfl⟩ | ⟨ad, cap, rfl, hc⟩
 ·refine wpListIn_plain hgd fun K hK' => ?_
  have hrun := run_append_owned_none (P := P) w base t o.type e i0 1 ht hi v l.length (l.map (Value.int .u8)) hown
  unfold Oper.wpIn
  refine ⟨?_, ?_⟩
  ·simp [Oper.about, ho, resolve, Target.leads, Sem.run_pure]
  ·rw [Oper.semAt_plain F _ _ (by rw [ho]; intro c hc'; cases hc')]
   simp [execOp, ho, resolve, invoke, builtin, hs, hx, hrun, Result.andThen]
   exact hK' _ _ (h v w (by simpa using hown) ⟨rfl, rfl, rfl, Nat.le_refl _, fun _ _ _ => rfl⟩)
 ·refine wpListIn_append_own w hgd s x t ho base e i0 (.int .u8 0) 1 1 ht hi hz0 hz1 hz2 rfl (by decide) v l.length (l.map (Value.int .u8)) hs hown ad m.length cap (m.map (Value.int .u8)) hx (by simp) (F5 hc) (Je m) (by unfold maxLen; omega) (by omega) hbase ?_
  intro v' w' ho' hg _
  exact h v' w' (by simpa [Own] using ho') hg
def keyN (n : List (List Int)) : List Int := n.reverse.flatMap (· ++ [0])
def keyP (ls : List (List Int)) : List Int := ls.flatMap (· ++ [0])
theorem Vz (ls : List (List Int)) (l : List Int) : keyP (ls ++ [l]) = keyP ls ++ l ++ [0] := by simp [keyP]
theorem Rj {ls : List (List Int)} (h : ∀ l ∈ ls, l.length ≤ 15) : (keyP ls).length ≤ 16 * ls.length := by
 induction ls with
 | nil => simp [keyP]
 | cons a t ih =>
  have h1 := ih (fun l hl => h l (List.mem_cons_of_mem _ hl))
  have h2 := h a (List.mem_cons_self ..)
  simp only [keyP, List.flatMap_cons, List.length_append, List.length_cons, List.length_nil] at h1 ⊢
  omega
end Go.Proofs.YtfneahdnpmamkaaGreat
