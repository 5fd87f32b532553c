/-
  Plain facts: the order of names is one. No program is named here. Plain facts: which records are a set, which slots and caches may be; numbers that are sorted and made compact. No program is named here but the kinds. Plain facts: maps whose keys are texts, whatever their elements, and ranges over them. No program is named here.
-/
import Derived.Test.YtaehfeobfkaicaaGreatCacheGetG10
import Derived.Test.YtaehfeobfkaicaaGreatCacheGetG06
import Derived.Lib.SlicesCompact
import Derived.Test.YtaehfeobfkaicaaGreatCacheGetG00
import Derived.Maps.RangeWalk
import Derived.RangeFuncNested
namespace Go.Proofs.YtaehfeobfkaicaaGreat
open Go.RowKit

theorem compare_swap : ∀ (a b : List UInt8), Lib.compareBytes a b = - Lib.compareBytes b a
 | [], [] => rfl
 | [], _ :: _ => rfl
 | _ :: _, [] => rfl
 | x :: a, y :: b => by
  have ih := compare_swap a b
  unfold Lib.compareBytes
  by_cases h1 : x < y
  ·have h2 : ¬ y < x := fun h => UInt8.lt_irrefl x (UInt8.lt_trans h1 h)
   simp [h1, h2]
  ·by_cases h2 : y < x
   ·simp [h1, h2]
   ·simp only [h1, h2, if_false]
    exact ih

theorem compare_trans : ∀ (a b c : List UInt8), Lib.compareBytes a b ≤ 0 → Lib.compareBytes b c ≤ 0 → Lib.compareBytes a c ≤ 0
 | [], _, [], _, _ => by decide
 | [], _, _ :: _, _, _ => by
  unfold Lib.compareBytes
  omega
 | _ :: _, [], _, h, _ => by
  unfold Lib.compareBytes at h
  omega
 | _ :: _, _ :: _, [], _, h => by
  unfold Lib.compareBytes at h
  omega
 | x :: a, y :: b, z :: c, h1, h2 => by
  unfold Lib.compareBytes at h1 h2 ⊢
  by_cases hxz : x < z
  ·simp [hxz]
  ·simp only [hxz, if_false]
   by_cases hxy : x < y
   ·by_cases hyz : y < z
    ·exact absurd (UInt8.lt_trans hxy hyz) hxz
    ·simp only [hyz, if_false] at h2
     by_cases hzy : z < y
     ·simp [hzy] at h2
     ·have e : y = z := UInt8.le_antisymm (UInt8.not_lt.1 hzy) (UInt8.not_lt.1 hyz)
      subst e
      exact absurd hxy hxz
   ·simp only [hxy, if_false] at h1
    by_cases hyx : y < x
    ·simp [hyx] at h1
    ·have e : x = y := UInt8.le_antisymm (UInt8.not_lt.1 hyx) (UInt8.not_lt.1 hxy)
     subst e
     simp only [hyx, if_false] at h1
     simp only [hxz, if_false] at h2
     by_cases hzx : z < x
     ·simp [hzx] at h2
     ·simp only [hzx, if_false] at h2 ⊢
      exact compare_trans a b c h1 h2

theorem cmpB_swap (a b : List Int) : cmpB a b = - cmpB b a := compare_swap _ _
theorem cmpB_trans {a b c : List Int} (h : cmpB a b ≤ 0) (k : cmpB b c ≤ 0) : cmpB a c ≤ 0 := compare_trans _ _ _ h k
theorem cmpB_between {a b c : List Int} (h : cmpB a b ≤ 0) (k : cmpB b c ≤ 0) (e : cmpB a c = 0) : cmpB a b = 0 ∧ cmpB b c = 0 := by
 have e1 := cmpB_swap a c
 have e2 := cmpB_swap a b
 have e3 := cmpB_swap b c
 have h1 : cmpB b a ≤ 0 := cmpB_trans k (by omega)
 have h2 : cmpB c b ≤ 0 := cmpB_trans (by omega : cmpB c a ≤ 0) h
 omega
theorem cmpB_self (a : List Int) : cmpB a a = 0 := by
 have := cmpB_swap a a
 omega
def cmpL : List (List Int) → List (List Int) → Int
 | [], [] => 0
 | [], _ :: _ => -1
 | _ :: _, [] => 1
 | x :: a, y :: b => if cmpB x y ≠ 0 then cmpB x y else cmpL a b

theorem cmpL_swap : ∀ (a b : List (List Int)), cmpL a b = - cmpL b a
 | [], [] => rfl
 | [], _ :: _ => rfl
 | _ :: _, [] => rfl
 | x :: a, y :: b => by
  have ih := cmpL_swap a b
  have hs := cmpB_swap x y
  unfold cmpL
  by_cases h : cmpB x y = 0
  ·have h' : cmpB y x = 0 := by omega
   simp only [h, h', ne_eq, not_true, if_false]
   exact ih
  ·have h' : ¬ cmpB y x = 0 := by omega
   simp only [h, h', ne_eq, not_false_iff, if_true]
   exact hs
theorem find_congr {α : Type} {p q : α → Bool} : ∀ {l : List α}, (∀ x ∈ l, p x = q x) → l.find? p = l.find? q
 | [], _ => rfl
 | y :: l, h => by
  rw [List.find?_cons, List.find?_cons, h y (by simp), find_congr (fun x hx => h x (by simp [hx]))]

def cmpF (a b : List (List Int)) : Int :=
 match (List.range (min a.length b.length)).find? (fun j => cmpB (a.getD j []) (b.getD j []) != 0) with
 | some j => cmpB (a.getD j []) (b.getD j [])
 | none => byLength a.length b.length

theorem cmpF_eq : ∀ (a b : List (List Int)), cmpF a b = cmpL a b
 | [], [] => rfl
 | [], y :: b => by
  unfold cmpF cmpL byLength
  simp
 | x :: a, [] => by
  unfold cmpF cmpL byLength
  simp
  omega
 | x :: a, y :: b => by
  have ih := cmpF_eq a b
  unfold cmpL
  have e : min (x :: a).length (y :: b).length = min a.length b.length + 1 := by simp
  unfold cmpF
  rw [e, List.range_succ_eq_map, List.find?_cons]
  by_cases h : cmpB x y = 0
  ·have h1 : (cmpB ((x :: a).getD 0 []) ((y :: b).getD 0 []) != 0) = false := by simpa using h
   rw [h1]
   simp only [h, ne_eq, not_true, if_false]
   rw [List.find?_map]
   rw [← ih]
   unfold cmpF
   have hq : ((fun j => cmpB ((x :: a).getD j []) ((y :: b).getD j []) != 0) ∘ Nat.succ) = (fun j => cmpB (a.getD j []) (b.getD j []) != 0) := by
    funext j
    simp
   rw [hq]
   cases hf : (List.range (min a.length b.length)).find? (fun j => cmpB (a.getD j []) (b.getD j []) != 0) with
   | none =>
    simp only [Option.map_none]
    unfold byLength
    simp
   | some j =>
    simp only [Option.map_some]
    simp
  ·have h1 : (cmpB ((x :: a).getD 0 []) ((y :: b).getD 0 []) != 0) = true := by simpa using h
   rw [h1]
   simp [h]

theorem getD_reverse (a : List (List Int)) (j : Nat) (h : j < a.length) : a.reverse.getD j [] = a.getD (a.length - (j + 1)) [] := by
 rw [List.getD_eq_getElem?_getD, List.getD_eq_getElem?_getD, List.getElem?_reverse h]
 congr 2
 omega

theorem cmpN_eq (a b : List (List Int)) : cmpN a b = cmpL a.reverse b.reverse := by
 rw [← cmpF_eq]
 unfold cmpN cmpF
 rw [List.length_reverse, List.length_reverse]
 have hp : ∀ j, j < min a.length b.length → atEnd a b (j + 1) = cmpB (a.reverse.getD j []) (b.reverse.getD j []) := fun j hj => by
  rw [getD_reverse a j (by omega), getD_reverse b j (by omega)]
  rfl
 have hf : (List.range (min a.length b.length)).find? (fun j => atEnd a b (j + 1) != 0) = (List.range (min a.length b.length)).find? (fun j => cmpB (a.reverse.getD j []) (b.reverse.getD j []) != 0) := find_congr (fun j hj => by
  rw [hp j (by simpa using hj)])
 rw [hf]
 cases hq : (List.range (min a.length b.length)).find? (fun j => cmpB (a.reverse.getD j []) (b.reverse.getD j []) != 0) with
 | none => rfl
 | some j =>
  have := List.mem_of_find?_eq_some hq
  exact hp j (by simpa using this)

theorem cmpN_swap (a b : List (List Int)) : cmpN a b = - cmpN b a := by
 rw [cmpN_eq, cmpN_eq, ← cmpL_swap]
theorem cmpN_self (a : List (List Int)) : cmpN a a = 0 := by
 have := cmpN_swap a a
 omega
end Go.Proofs.YtaehfeobfkaicaaGreat

namespace Go.Proofs.YtaehfeobfkaicaaGreat
open Go.RowKit
set_option linter.unusedVariables false

theorem rangeAll_yes {n : Nat} {p : Nat → Bool} (h : ∀ j, j < n → p j = true) : (List.range n).all p = true := by
 rw [List.all_eq_true]
 intro x hx
 exact h x (List.mem_range.1 hx)
theorem rangeAll_at {n k : Nat} {p : Nat → Bool} (h : (List.range n).all p = true) (hk : k < n) : p k = true := List.all_eq_true.1 h k (List.mem_range.2 hk)
theorem rangeAll_no {n k : Nat} {p : Nat → Bool} (hk : k < n) (h : p k = false) : (List.range n).all p = false := by
 rw [Bool.eq_false_iff]
 intro q
 have := rangeAll_at q hk
 rw [h] at this
 cases this
def setAt (l : List Rec) (i : Nat) : Bool := rrOk (l.getD i recZ) && (decide (cmpN (l.getD i recZ).name (l.getD 0 recZ).name = 0) && (decide ((l.getD i recZ).type = (l.getD 0 recZ).type) && (decide ((l.getD i recZ).ttl = (l.getD 0 recZ).ttl) && (decide (i = 0) || decide (cmpR (l.getD (i - 1) recZ) (l.getD i recZ) < 0)))))
def setOk (l : List Rec) : Bool := decide (1 ≤ l.length) && (decide (l.length ≤ 12) && (List.range l.length).all (setAt l))
def oneB (a b : Rec) : Bool := decide (a.type = b.type) && (decide (a.ttl = b.ttl) && decide (nameCmp a.name b.name = 0))
def setI (l : List Rec) (i : Nat) : Bool := oneB (l.getD 0 recZ) (l.getD i recZ) && decide (rrCmp (l.getD (i - 1) recZ) (l.getD i recZ) < 0)
theorem rrOk_nameOk {r : Rec} (h : rrOk r = true) : nameOk r.name = true := by
 unfold rrOk at h
 simp only [Bool.and_eq_true] at h
 exact h.1
theorem setAt_rr {l : List Rec} {i : Nat} (h : setAt l i = true) : rrOk (l.getD i recZ) = true := by
 unfold setAt at h
 simp only [Bool.and_eq_true] at h
 exact h.1
theorem setAt_zero {l : List Rec} (h : rrOk (l.getD 0 recZ) = true) : setAt l 0 = true := by
 unfold setAt
 rw [h, cmpN_self]
 simp
theorem setI_is {l : List Rec} (h : rrsOk l = true) {i : Nat} (h1 : 1 ≤ i) (hi : i < l.length) : setI l i = setAt l i := by
 unfold rrsOk at h
 rw [Bool.and_eq_true] at h
 have r0 := all_at recZ h.2 (k := 0) (by omega)
 have ri := all_at recZ h.2 hi
 have rp := all_at recZ h.2 (k := i - 1) (by omega)
 unfold setI setAt oneB
 generalize l.getD 0 recZ = a at *
 generalize l.getD i recZ = b at *
 generalize l.getD (i - 1) recZ = p at *
 have e1 : nameCmp a.name b.name = cmpN a.name b.name := if_pos ⟨rrOk_nameOk r0, rrOk_nameOk ri⟩
 have e2 : rrCmp p b = cmpR p b := if_pos ⟨rp, ri⟩
 have e3 : cmpN a.name b.name = - cmpN b.name a.name := cmpN_swap _ _
 have e0 : decide (i = 0) = false := decide_eq_false (by omega)
 rw [e1, e2, ri, e0, Bool.eq_iff_iff]
 simp only [Bool.and_eq_true, Bool.or_eq_true, decide_eq_true_eq]
 constructor
 ·rintro ⟨⟨a1, a2, a3⟩, a4⟩
  exact ⟨trivial, by omega, a1.symm, a2.symm, .inr a4⟩
 ·rintro ⟨_, a3, a1, a2, a4⟩
  exact ⟨⟨a1.symm, a2.symm, by omega⟩, by rcases a4 with h | h <;> first | cases h | exact h⟩
theorem setOk_rrs {l : List Rec} (h : setOk l = true) : rrsOk l = true ∧ 1 ≤ l.length := by
 unfold setOk at h
 simp only [Bool.and_eq_true, decide_eq_true_eq] at h
 obtain ⟨h1, h2, h3⟩ := h
 refine ⟨?_, h1⟩
 unfold rrsOk
 rw [Bool.and_eq_true]
 exact ⟨decide_eq_true h2, all_of l recZ (fun j hj => setAt_rr (rangeAll_at h3 hj))⟩
theorem setOk_yes {l : List Rec} (h : rrsOk l = true) (h1 : 1 ≤ l.length) (hs : ∀ i, 1 ≤ i → i < l.length → setI l i = true) : setOk l = true := by
 have h' := h
 unfold rrsOk at h'
 rw [Bool.and_eq_true] at h'
 unfold setOk
 rw [decide_eq_true h1, h'.1, Bool.true_and, Bool.true_and]
 refine rangeAll_yes (fun j hj => ?_)
 by_cases e : j = 0
 ·subst e
  exact setAt_zero (all_at recZ h'.2 hj)
 ·rw [← setI_is h (by omega) hj]
  exact hs j (by omega) hj
theorem setOk_no {l : List Rec} (h : rrsOk l = true) {i : Nat} (h1 : 1 ≤ i) (hi : i < l.length) (hs : setI l i = false) : setOk l = false := by
 rw [setI_is h h1 hi] at hs
 unfold setOk
 rw [rangeAll_no hi hs]
 simp
theorem setOk_bad {l : List Rec} (h : rrsOk l = false ∨ l.length = 0) : setOk l = false := by
 rw [Bool.eq_false_iff]
 intro q
 obtain ⟨q1, q2⟩ := setOk_rrs q
 rcases h with h | h
 ·rw [h] at q1
  cases q1
 ·omega
def holdsB (s : Slt) : Bool := if s.kind = 1 then setOk s.rrs && (decide ((s.rrs.getD 0 recZ).type = s.type) && decide (cmpN (s.rrs.getD 0 recZ).name s.name = 0)) else if s.kind = 2 ∨ s.kind = 3 then decide (s.rrs.length = 0) else false
def toldB (s : Slt) : Bool := nameOk s.name && (typeOk s.type && decide (0 ≤ s.rank ∧ s.rank ≤ 3))
def slotB (s : Slt) (now turn : Int) : Bool := toldB s && ((decide (now < s.till) && decide (s.till ≤ now + 1000)) && ((decide (1 ≤ s.used) && decide (s.used ≤ turn)) && holdsB s))
def aheadB (a b : Slt) : Bool := decide (cmpN a.name b.name < 0) || (decide (cmpN a.name b.name = 0) && decide (a.type < b.type))
def slotCmpI (a b : Slt) : Int := if nameCmp a.name b.name ≠ 0 then nameCmp a.name b.name else byLength a.type b.type
theorem slotB_name {s : Slt} {now turn : Int} (h : slotB s now turn = true) : nameOk s.name = true := by
 unfold slotB toldB at h
 simp only [Bool.and_eq_true] at h
 exact h.1.1
theorem slotCmp_ahead {a b : Slt} (ha : nameOk a.name = true) (hb : nameOk b.name = true) : decide (slotCmpI a b < 0) = aheadB a b := by
 have e1 : nameCmp a.name b.name = cmpN a.name b.name := if_pos ⟨ha, hb⟩
 unfold slotCmpI aheadB
 rw [e1, Bool.eq_iff_iff]
 simp only [Bool.and_eq_true, Bool.or_eq_true, decide_eq_true_eq]
 by_cases h : cmpN a.name b.name = 0
 ·rw [if_neg (by simpa using h)]
  unfold byLength
  by_cases h2 : a.type < b.type
  ·rw [if_pos h2]
   omega
  ·rw [if_neg h2]
   split <;> omega
 ·rw [if_pos h]
  omega
def slotAt (c : Ca) (i : Nat) : Bool := slotB (c.slots.getD i VK) c.now c.turn && (decide (i = 0) || aheadB (c.slots.getD (i - 1) VK) (c.slots.getD i VK))
def freshAt (l : List Slt) (i : Nat) : Bool := (List.range i).all (fun k => decide ((l.getD k VK).used ≠ (l.getD i VK).used))
def headB (c : Ca) : Bool := decide (0 ≤ c.now ∧ c.now ≤ 1000000) && (decide (0 ≤ c.turn ∧ c.turn ≤ 1000000) && decide (c.slots.length ≤ 8))
def apartB (l : List Slt) : Bool := (List.range l.length).all (freshAt l)
def cacheOk (c : Ca) : Bool := headB c && ((List.range c.slots.length).all (slotAt c) && apartB c.slots)
theorem compact_len {zs : List Int} : (Lib.compact zs).length = zs.length ↔ ∀ j, j < zs.length → Lib.keeps zs.toArray j = true := by
 unfold Lib.compact Lib.compactUpTo
 rw [List.length_map]
 constructor
 ·intro h j hj
  have h2 : ((List.range zs.length).filter (Lib.keeps zs.toArray)).length = (List.range zs.length).length := by rw [h, List.length_range]
  exact List.length_filter_eq_length_iff.1 h2 j (List.mem_range.2 hj)
 ·intro h
  have h2 := (List.length_filter_eq_length_iff (l := List.range zs.length) (p := Lib.keeps zs.toArray)).2 (fun a ha => h a (List.mem_range.1 ha))
  rw [h2, List.length_range]
theorem sorted_keeps {zs : List Int} (hs : zs.Pairwise (fun a b => a ≤ b)) : (∀ j, j < zs.length → Lib.keeps zs.toArray j = true) ↔ zs.Nodup := by
 have get : ∀ j (hj : j < zs.length), zs.toArray[j]! = zs[j] := fun j hj => by simp [hj]
 rw [List.pairwise_iff_getElem] at hs
 constructor
 ·intro h
  refine List.pairwise_iff_getElem.2 (fun i j hi hj hij => ?_)
  have hk := h j hj
  have h1 : zs[j - 1] ≤ zs[j] := hs (j - 1) j (by omega) hj (by omega)
  have h2 : zs[i] ≤ zs[j - 1] := by
   by_cases e : i = j - 1
   ·subst e; exact Int.le_refl _
   ·exact hs i (j - 1) hi (by omega) (by omega)
  have h3 : zs[j] ≠ zs[j - 1] := by
   intro e
   have := Lib.keeps_neg (d := zs.toArray) (m := j) (by omega) (by rw [get j hj, get (j - 1) (by omega)]; exact e)
   rw [this] at hk
   cases hk
  intro e
  omega
 ·intro h j hj
  by_cases e : j = 0
  ·subst e
   exact Lib.keeps_lt_one _ 0 (by omega)
  ·refine Lib.keeps_pos ?_
   rw [get j hj, get (j - 1) (by omega)]
   exact (List.pairwise_iff_getElem.1 h (j - 1) j (by omega) hj (by omega)).symm
theorem apart_iff {l : List Slt} : apartB l = true ↔ (l.map Slt.used).Nodup := by
 have gd : ∀ k (hk : k < l.length), l.getD k VK = l[k] := fun k hk => by simp [hk]
 constructor
 ·intro h
  refine List.pairwise_iff_getElem.2 (fun i j hi hj hij => ?_)
  rw [List.length_map] at hi hj
  have := of_decide_eq_true (rangeAll_at (rangeAll_at h hj) hij)
  rw [gd i hi, gd j hj] at this
  simpa using this
 ·intro h
  refine rangeAll_yes (fun j hj => rangeAll_yes (fun k hk => decide_eq_true ?_))
  have := List.pairwise_iff_getElem.1 h k j (by rw [List.length_map]; omega) (by rw [List.length_map]; omega) hk
  rw [gd k (by omega), gd j hj]
  simpa using this
theorem used_apart (l : List Slt) : decide ((Lib.compact ((l.map Slt.used).mergeSort fun x y => decide (x ≤ y))).length = l.length) = apartB l := by
 have hp := List.mergeSort_perm (l.map Slt.used) (fun x y => decide (x ≤ y))
 have hl : ((l.map Slt.used).mergeSort fun x y => decide (x ≤ y)).length = l.length := by rw [List.length_mergeSort, List.length_map]
 have hs : ((l.map Slt.used).mergeSort fun x y => decide (x ≤ y)).Pairwise (fun a b => a ≤ b) := by
  have := List.pairwise_mergeSort (le := fun (x y : Int) => decide (x ≤ y)) (fun a b c h1 h2 => by simp only [decide_eq_true_eq] at *; omega) (fun a b => by simp only [Bool.or_eq_true, decide_eq_true_eq]; omega) (l.map Slt.used)
  exact this.imp (fun h => of_decide_eq_true h)
 rw [Bool.eq_iff_iff, decide_eq_true_eq, apart_iff]
 have h1 := compact_len (zs := (l.map Slt.used).mergeSort fun x y => decide (x ≤ y))
 rw [hl] at h1
 rw [h1]
 have h2 := sorted_keeps hs
 rw [hl] at h2
 rw [h2]
 exact hp.nodup_iff
end Go.Proofs.YtaehfeobfkaicaaGreat

namespace Go.Proofs.YtaehfeobfkaicaaGreat
open Go.RowKit
open Go.ChangeMaps (setBlock heap_setBlock_same heap_setBlock_other modify_eq_set)
open Go.MapKept (stamped_iff stamped_empty stamped_push stamped_modify Stamped)
open Go.Maps (Keyed string_keyed)
open Go.WideMaps (keyOf_string_mk)
set_option linter.unusedVariables false

section lists
variable {α β : Type} [DecidableEq α]
def lookA (k : α) : List (α × β) → Option β
 | [] => none
 | (a, v) :: t => if a = k then some v else lookA k t
def putA (k : α) (v : β) : List (α × β) → List (α × β)
 | [] => [(k, v)]
 | (a, u) :: t => if a = k then (k, v) :: t else (a, u) :: putA k v t
theorem lookA_none {k : α} : ∀ {ps : List (α × β)}, (∀ p ∈ ps, p.1 ≠ k) → lookA k ps = none
 | [], _ => rfl
 | (a, v) :: t, h => by
  rw [lookA, if_neg (h (a, v) (List.mem_cons_self ..))]
  exact lookA_none (fun p hp => h p (List.mem_cons_of_mem _ hp))
theorem putA_none {k : α} {v : β} : ∀ {ps : List (α × β)}, (∀ p ∈ ps, p.1 ≠ k) → putA k v ps = ps ++ [(k, v)]
 | [], _ => rfl
 | (a, u) :: t, h => by
  rw [putA, if_neg (h (a, u) (List.mem_cons_self ..)), putA_none (fun p hp => h p (List.mem_cons_of_mem _ hp))]
  rfl
theorem lookA_at {k : α} {v : β} : ∀ {ps : List (α × β)} {j : Nat}, ps.Pairwise (fun p q => p.1 ≠ q.1) → ps[j]? = some (k, v) → lookA k ps = some v
 | [], j, _, h => by simp at h
 | (a, u) :: t, 0, hd, h => by
  simp only [List.getElem?_cons_zero, Option.some.injEq, Prod.mk.injEq] at h
  rw [lookA, if_pos h.1, h.2]
 | (a, u) :: t, j + 1, hd, h => by
  simp only [List.getElem?_cons_succ] at h
  obtain ⟨h1, h2⟩ := List.pairwise_cons.1 hd
  rw [lookA, if_neg (h1 _ (List.mem_of_getElem? h)), lookA_at h2 h]
theorem putA_at {k : α} {v v' : β} : ∀ {ps : List (α × β)} {j : Nat}, ps.Pairwise (fun p q => p.1 ≠ q.1) → ps[j]? = some (k, v) → putA k v' ps = ps.set j (k, v')
 | [], j, _, h => by simp at h
 | (a, u) :: t, 0, hd, h => by
  simp only [List.getElem?_cons_zero, Option.some.injEq, Prod.mk.injEq] at h
  rw [putA, if_pos h.1]
  rfl
 | (a, u) :: t, j + 1, hd, h => by
  simp only [List.getElem?_cons_succ] at h
  obtain ⟨h1, h2⟩ := List.pairwise_cons.1 hd
  rw [putA, if_neg (h1 _ (List.mem_of_getElem? h)), putA_at h2 h]
  rfl
end lists

def keyE : Value → ByteArray
 | .string s => s
 | _ => default
def toPV (e : MapEntry) : ByteArray × Value := (keyE e.key, e.val)
def MapV (w : World) (b : Nat) (ps : List (ByteArray × Value)) : Prop :=
 ∃ es clock, w.heap[b]? = some (.map es clock) ∧ Stamped es clock ∧ (∀ e ∈ es.toList, ∃ s : ByteArray, e.key = .string s ∧ s.size ≤ maxLen) ∧ ps = es.toList.map toPV
theorem MapV.lt {w : World} {b : Nat} {ps : List (ByteArray × Value)} (h : MapV w b ps) : b < w.heap.size := by
 obtain ⟨es, clock, hb, _⟩ := h
 exact (Array.getElem?_eq_some_iff.1 hb).1
theorem MapV.kept {w w' : World} {b : Nat} {ps : List (ByteArray × Value)} (h : MapV w b ps) (hk : w'.heap[b]? = w.heap[b]?) : MapV w' b ps := by
 obtain ⟨es, clock, hb, rest⟩ := h
 exact ⟨es, clock, hk.trans hb, rest⟩
theorem MapV.below {w w' : World} {b : Nat} {ps : List (ByteArray × Value)} (h : MapV w b ps) (hb : Below w.heap.size w w') : MapV w' b ps := h.kept (hb.block b h.lt)
theorem MapV.grown {w w' : World} {b : Nat} {row : Option Nat} {ps : List (ByteArray × Value)} (h : MapV w b ps) (hg : w.grownBy w' row) (hr : row ≠ some b) : MapV w' b ps := h.kept (hg.block b h.lt (fun e => hr e.symm))
theorem mapV_made (w : World) : MapV (w.alloc (.map #[] 0)) w.heap.size [] := ⟨#[], 0, heap_alloc_new w _, stamped_empty 0, by simp, by simp⟩
theorem pv_apart {es : Array MapEntry} {clock : Nat} (hS : Stamped es clock) (hK : ∀ e ∈ es.toList, ∃ s : ByteArray, e.key = .string s ∧ s.size ≤ maxLen) : (es.toList.map toPV).Pairwise (fun p q => p.1 ≠ q.1) := by
 rw [List.pairwise_map]
 refine List.Pairwise.imp_of_mem ?_ ((stamped_iff es clock).1 hS).2.2
 intro a b ha hb h e
 obtain ⟨s, h1, _⟩ := hK a ha
 obtain ⟨s', h2, _⟩ := hK b hb
 simp only [toPV, h1, h2, keyE] at e
 rw [h1, h2, e] at h
 exact h rfl
theorem MapV.apart {w : World} {b : Nat} {ps : List (ByteArray × Value)} (h : MapV w b ps) : ps.Pairwise (fun p q => p.1 ≠ q.1) := by
 obtain ⟨es, clock, _, hS, hK, rfl⟩ := h
 exact pv_apart hS hK

section
variable {P : Program} {t k e : TypeId} {w : World} {b : Nat} {ps : List (ByteArray × Value)}
theorem keys_of {es : Array MapEntry} (hk : P.underlying k = some .string) (hK : ∀ e ∈ es.toList, ∃ s : ByteArray, e.key = .string s ∧ s.size ≤ maxLen) : ∀ e ∈ es.toList, ∃ l, keyOf P k e.key = some l := fun e he => by
 obtain ⟨s, h1, h2⟩ := hK e he
 exact ⟨_, h1 ▸ keyOf_string_mk hk h2⟩
theorem not_key {es : Array MapEntry} {s : ByteArray} (hK : ∀ e ∈ es.toList, ∃ s : ByteArray, e.key = .string s ∧ s.size ≤ maxLen) (h : ∀ e ∈ es.toList, e.key ≠ .string s) : ∀ p ∈ es.toList.map toPV, p.1 ≠ s := by
 intro p hp e
 obtain ⟨x, hx, rfl⟩ := List.mem_map.1 hp
 obtain ⟨s', h1, _⟩ := hK x hx
 refine h x hx ?_
 rw [h1, ← e, toPV, h1]
 rfl
theorem the_key {es : Array MapEntry} {s : ByteArray} {j : Nat} {e0 : MapEntry} (h2 : es.toList[j]? = some e0) (h3 : e0.key = .string s) : (es.toList.map toPV)[j]? = some (s, e0.val) := by
 rw [List.getElem?_map, h2]
 simp [toPV, h3, keyE]
theorem mapV_look (ht : P.underlying t = some (.map k e)) (hk : P.underlying k = some .string) {z : Value} (hz : (zeroValue e).run P w = .ok z w) (h : MapV w b ps) (s : ByteArray) (hs : s.size ≤ maxLen) :
  (Instr.lookup t (.map (some b)) (.string s) false).run P w = .ok ((lookA s ps).getD z) w := by
 have hA := h.apart
 obtain ⟨es, clock, hb, hS, hK, rfl⟩ := h
 have hkey := keyOf_string_mk hk hs
 have K := string_keyed hk
 rcases K.find w hkey es.toList (keys_of hk hK) with ⟨h1, h2⟩ | ⟨j, e0, h1, h2, h3⟩
 ·rw [lookA_none (not_key hK h2)]
  simp [Instr.lookup, run_underlying ht, MapKept.run_getObj_map hb, K.check w _ hkey, h1, hz, Result.andThen]
 ·rw [lookA_at hA (the_key h2 h3)]
  simp [Instr.lookup, run_underlying ht, MapKept.run_getObj_map hb, K.check w _ hkey, h1, Result.andThen]
theorem mapV_put (ht : P.underlying t = some (.map k e)) (hk : P.underlying k = some .string) (h : MapV w b ps) (s : ByteArray) (hs : s.size ≤ maxLen) (v : Value) :
  ∃ w', (Instr.mapUpdate t (.map (some b)) (.string s) v).run P w = .ok () w' ∧ MapV w' b (putA s v ps) ∧ w.grownBy w' (some b) := by
 have hA := h.apart
 obtain ⟨es, clock, hb, hS, hK, rfl⟩ := h
 have hkey := keyOf_string_mk hk hs
 have K := string_keyed hk
 rcases K.find w hkey es.toList (keys_of hk hK) with ⟨h1, h2⟩ | ⟨j, e0, h1, h2, h3⟩
 ·refine ⟨setBlock w b (.map (es.push ⟨.string s, v, clock⟩) (clock + 1)), ?_, ⟨_, _, heap_setBlock_same hb _, stamped_push hS h2, ?_, ?_⟩, ⟨rfl, rfl, rfl, by simp [setBlock], fun i _ hi => heap_setBlock_other hb _ (fun e => hi (by rw [e]))⟩⟩
  ·simp [Instr.mapUpdate, run_underlying ht, MapKept.run_getObj_map hb, K.check w false hkey, h1, MapKept.run_setObj_map _ hb, Result.andThen, setBlock]
  ·intro x hx
   simp only [Array.toList_push, List.mem_append, List.mem_singleton] at hx
   rcases hx with hx | rfl
   ·exact hK x hx
   ·exact ⟨s, rfl, hs⟩
  ·rw [putA_none (not_key hK h2)]
   simp [toPV, keyE]
 ·have hj : es[j]? = some e0 := by simpa using h2
  have hkeyf : ∀ e', es[j]? = some e' → ({ e' with key := .string s, val := v } : MapEntry).key = e'.key := fun e' he' => by rw [hj] at he'; cases he'; exact h3.symm
  have hlist : (es.modify j (fun e' => { e' with key := .string s, val := v })).toList = es.toList.set j { e0 with key := .string s, val := v } := by rw [Array.toList_modify, modify_eq_set _ _ _ _ h2]
  refine ⟨setBlock w b (.map (es.modify j (fun e' => { e' with key := .string s, val := v })) clock), ?_, ⟨_, _, heap_setBlock_same hb _, stamped_modify hS _ _ (fun _ _ => rfl) (fun e' _ he' => hkeyf e' he'), ?_, ?_⟩, ⟨rfl, rfl, rfl, by simp [setBlock], fun i _ hi => heap_setBlock_other hb _ (fun e => hi (by rw [e]))⟩⟩
  ·simp [Instr.mapUpdate, run_underlying ht, MapKept.run_getObj_map hb, K.check w false hkey, h1, hj, h3, K.stays w hkey, MapKept.run_setObj_map _ hb, Result.andThen, setBlock]
  ·intro x hx
   rw [hlist] at hx
   rcases List.mem_or_eq_of_mem_set hx with hx | rfl
   ·exact hK x hx
   ·exact ⟨s, rfl, hs⟩
  ·rw [putA_at hA (the_key h2 h3), hlist, List.map_set]
   simp [toPV, keyE]
def RangeV (w : World) (b r : Nat) (ps L : List (ByteArray × Value)) : Prop :=
 ∃ es clock since seen c0, w.heap[b]? = some (.map es clock) ∧ Stamped es clock ∧ (∀ e ∈ es.toList, ∃ s : ByteArray, e.key = .string s ∧ s.size ≤ maxLen) ∧ ps = es.toList.map toPV ∧ w.heap[r]? = some (.mapIter (some b) since seen c0) ∧
  (∀ x ∈ es.toList, x.born < since) ∧ since ≤ c0 ∧ since ≤ clock ∧ L = (leftOf es seen).toList.map toPV
theorem RangeV.lt {r : Nat} {L : List (ByteArray × Value)} (h : RangeV w b r ps L) : b < w.heap.size ∧ r < w.heap.size ∧ r ≠ b := by
 obtain ⟨es, clock, since, seen, c0, hb, _, _, _, hr, _⟩ := h
 refine ⟨(Array.getElem?_eq_some_iff.1 hb).1, (Array.getElem?_eq_some_iff.1 hr).1, fun e => ?_⟩
 rw [e, hb] at hr
 cases hr
theorem RangeV.kept {w' : World} {r : Nat} {L : List (ByteArray × Value)} (h : RangeV w b r ps L) (hk : w'.heap[b]? = w.heap[b]?) (hk' : w'.heap[r]? = w.heap[r]?) : RangeV w' b r ps L := by
 obtain ⟨es, clock, since, seen, c0, hb, h1, h2, h3, hr, rest⟩ := h
 exact ⟨es, clock, since, seen, c0, hk.trans hb, h1, h2, h3, hk'.trans hr, rest⟩
theorem RangeV.below {w' : World} {r : Nat} {L : List (ByteArray × Value)} (h : RangeV w b r ps L) (hb : Below w.heap.size w w') : RangeV w' b r ps L := h.kept (hb.block b h.lt.1) (hb.block r h.lt.2.1)
end
end Go.Proofs.YtaehfeobfkaicaaGreat
