/-
  Plain facts: texts held against each other byte by byte, names label by label from the last one on. No program is named here. Plain facts: the order of records. No program is named here. Plain facts: the order of names is one. No program is named here. Plain facts: which records are a set, which slots and caches may be; numbers that are sorted and made compact. No program is named here but the kinds. Plain facts: what a slot of each kind holds. No program is named here.
-/
import Derived.Test.YtpolekinfobecaaGreatCacheNamesG01
import Derived.Lib.Bytealg
import Derived.Lib.BytesEntry
import Derived.Test.YtpolekinfobecaaGreatCacheNamesG15
import Derived.Test.YtpolekinfobecaaGreatCacheNamesG09
import Derived.Lib.SlicesCompact
namespace Go.Proofs.YtpolekinfobecaaGreat
open Go.RowKit

/-- Two texts held against each other: -1, 0, 1. -/
def cmpB (a b : List Int) : Int := Lib.compareBytes (strOfNums a).data.toList (strOfNums b).data.toList

theorem compare_less : ∀ (a b : List UInt8), Op.bytesLess a b = decide (Lib.compareBytes a b = -1)
 | [], [] => rfl
 | [], _ :: _ => rfl
 | _ :: _, [] => rfl
 | x :: a, y :: b => by
  have ih := compare_less a b
  unfold Op.bytesLess Lib.compareBytes
  by_cases h1 : x < y
  ·simp [h1]
  ·by_cases h2 : y < x
   ·have : (x == y) = false := by
     apply beq_eq_false_iff_ne.2
     intro e; subst e; exact UInt8.lt_irrefl x h2
    simp [h1, h2, this]
   ·have e : x = y := UInt8.le_antisymm (UInt8.not_lt.1 h2) (UInt8.not_lt.1 h1)
    subst e
    simp [h1, ih]

theorem compare_zero : ∀ (a b : List UInt8), (a == b) = decide (Lib.compareBytes a b = 0)
 | [], [] => rfl
 | [], _ :: _ => rfl
 | _ :: _, [] => rfl
 | x :: a, y :: b => by
  have ih := compare_zero a b
  unfold Lib.compareBytes
  rw [List.cons_beq_cons]
  by_cases h1 : x < y
  ·have : (x == y) = false := by
    apply beq_eq_false_iff_ne.2
    intro e; subst e; exact UInt8.lt_irrefl x h1
   simp [h1, this]
  ·by_cases h2 : y < x
   ·have : (x == y) = false := by
     apply beq_eq_false_iff_ne.2
     intro e; subst e; exact UInt8.lt_irrefl x h2
    simp [h1, h2, this]
   ·have e : x = y := UInt8.le_antisymm (UInt8.not_lt.1 h2) (UInt8.not_lt.1 h1)
    subst e
    simp only [h1, if_false, beq_self_eq_true, Bool.true_and]
    exact ih

theorem compare_cases : ∀ (a b : List UInt8), Lib.compareBytes a b = -1 ∨ Lib.compareBytes a b = 0 ∨ Lib.compareBytes a b = 1
 | [], [] => .inr (.inl rfl)
 | [], _ :: _ => .inl rfl
 | _ :: _, [] => .inr (.inr rfl)
 | x :: a, y :: b => by
  unfold Lib.compareBytes
  split
  ·exact .inl rfl
  ·split
   ·exact .inr (.inr rfl)
   ·exact compare_cases a b

theorem str_less (a b : List Int) : Op.bytesLess (strOfNums a).toList (strOfNums b).toList = decide (cmpB a b = -1) := by
 rw [ByteArray.toList_eq, ByteArray.toList_eq, compare_less]; rfl
theorem str_same (a b : List Int) : ((strOfNums a).toList == (strOfNums b).toList) = decide (cmpB a b = 0) := by
 rw [ByteArray.toList_eq, ByteArray.toList_eq, compare_zero]; rfl
theorem cmpB_cases (a b : List Int) : cmpB a b = -1 ∨ cmpB a b = 0 ∨ cmpB a b = 1 := compare_cases _ _

theorem run_bytesOf_has {P : Program} {w : World} {v : Value} {l : List Int} (h : Has w v l) : (Extern.Bytes.bytesOf v).run P w = .ok (strOfNums l) w := by
 rcases h with ⟨rfl, rfl⟩ | ⟨g, off, cap, rfl, _, _, _, hc⟩
 ·rfl
 ·have hl := Lib.run_loadBytesX (P := P) w l ⟨g, off, none⟩ .empty (fun j x hj => by
   have hjl : j < l.length := (List.getElem?_eq_some_iff.1 hj).1
   rw [Addr.add_lit, hc j hjl]
   simp [hj])
  show (Extern.Bytes.loadBytes ⟨g, off, none⟩ l.length .empty).run P w = _
  rw [hl]
  congr 1
  simp [strOfNums, Lib.bytesOf, ByteArray.empty, ByteArray.emptyWithCapacity]
  rfl

theorem run_compare_has {P : Program} {w : World} {v v' : Value} {l l' : List Int} (h : Has w v l) (h' : Has w v' l') :
  (Extern.BytealgCompare.compare #[v, v']).run P w = .ok (.int .i64 (cmpB l l')) w := by
 change Sem.run P (do pure (goInt (Extern.BytealgCompare.cmp (← Extern.Bytes.bytesOf v) (← Extern.Bytes.bytesOf v')))) w = _
 simp only [Sem.run_bind, run_bytesOf_has h, run_bytesOf_has h', Sem.run_pure, Result.andThen]
 rw [Lib.cmp_eq]
 rfl

/-- The labels that stand i places ahead of both ends. -/
def atEnd (a b : List (List Int)) (i : Nat) : Int := cmpB (a.getD (a.length - i) []) (b.getD (b.length - i) [])

theorem atEnd_eq (a b : List (List Int)) (i : Nat) : atEnd a b i = cmpB (a.getD (a.length - i) []) (b.getD (b.length - i) []) := rfl

/-- -1, 0, 1: by how many labels. -/
def byLength (x y : Int) : Int := if x < y then -1 else if y < x then 1 else 0

/-- Two names held against each other. -/
def cmpN (a b : List (List Int)) : Int :=
 match (List.range (min a.length b.length)).find? (fun j => atEnd a b (j + 1) != 0) with
 | some j => atEnd a b (j + 1)
 | none => byLength a.length b.length

theorem cmpN_hit {a b : List (List Int)} {k : Nat} (h1 : 1 ≤ k) (h2 : k ≤ a.length) (h3 : k ≤ b.length) (hz : ∀ j, 1 ≤ j → j < k → atEnd a b j = 0) (hk : atEnd a b k ≠ 0) : cmpN a b = atEnd a b k := by
 have : (List.range (min a.length b.length)).find? (fun j => atEnd a b (j + 1) != 0) = some (k - 1) := by
  rw [List.find?_range_eq_some]
  refine ⟨by rw [Nat.sub_add_cancel h1]; simpa using hk, by simp; omega, fun j hj => ?_⟩
  have := hz (j + 1) (by omega) (by omega)
  simp [this]
 unfold cmpN
 rw [this]
 show atEnd a b (k - 1 + 1) = _
 rw [Nat.sub_add_cancel h1]

theorem cmpN_none {a b : List (List Int)} {k : Nat} (hk : a.length < k ∨ b.length < k) (hz : ∀ j, 1 ≤ j → j < k → atEnd a b j = 0) : cmpN a b = byLength a.length b.length := by
 have : (List.range (min a.length b.length)).find? (fun j => atEnd a b (j + 1) != 0) = none := by
  rw [List.find?_range_eq_none]
  intro j hj
  have := hz (j + 1) (by omega) (by omega)
  simp [this]
 unfold cmpN
 rw [this]

/-- Two names held against each other; 0 where one is none. -/
def nameCmp (a b : List (List Int)) : Int := if nameOk a = true ∧ nameOk b = true then cmpN a b else 0
end Go.Proofs.YtpolekinfobecaaGreat

namespace Go.Proofs.YtpolekinfobecaaGreat
open Go.RowKit

/-- By name, type, data. -/
def cmpR (a b : Rec) : Int := if cmpN a.name b.name ≠ 0 then cmpN a.name b.name else if byLength a.type b.type ≠ 0 then byLength a.type b.type else cmpB (dataB a) (dataB b)
def rrCmp (a b : Rec) : Int := if rrOk a = true ∧ rrOk b = true then cmpR a b else 0
theorem byLength_zero {x y : Int} (h : byLength x y = 0) : x = y := by
 unfold byLength at h
 split at h
 ·omega
 ·split at h
  ·omega
  ·omega
end Go.Proofs.YtpolekinfobecaaGreat

namespace Go.Proofs.YtpolekinfobecaaGreat
open Go.RowKit

theorem compare_swap : ∀ (a b : List UInt8), Lib.compareBytes a b = - Lib.compareBytes b a
 | [], [] => rfl
 | [], _ :: _ => rfl
 | _ :: _, [] => rfl
 | x :: a, y :: b => by
  have ih := compare_swap a b
  unfold Lib.compareBytes
  by_cases h1 : x < y
  ·have h2 : ¬ y < x := fun h => UInt8.lt_irrefl x (UInt8.lt_trans h1 h)
   simp [h1, h2]
  ·by_cases h2 : y < x
   ·simp [h1, h2]
   ·simp only [h1, h2, if_false]
    exact ih

theorem cmpB_swap (a b : List Int) : cmpB a b = - cmpB b a := compare_swap _ _
theorem cmpB_self (a : List Int) : cmpB a a = 0 := by
 have := cmpB_swap a a
 omega
/-- Lists of texts held against each other from the first on. -/
def cmpL : List (List Int) → List (List Int) → Int
 | [], [] => 0
 | [], _ :: _ => -1
 | _ :: _, [] => 1
 | x :: a, y :: b => if cmpB x y ≠ 0 then cmpB x y else cmpL a b

theorem cmpL_swap : ∀ (a b : List (List Int)), cmpL a b = - cmpL b a
 | [], [] => rfl
 | [], _ :: _ => rfl
 | _ :: _, [] => rfl
 | x :: a, y :: b => by
  have ih := cmpL_swap a b
  have hs := cmpB_swap x y
  unfold cmpL
  by_cases h : cmpB x y = 0
  ·have h' : cmpB y x = 0 := by omega
   simp only [h, h', ne_eq, not_true, if_false]
   exact ih
  ·have h' : ¬ cmpB y x = 0 := by omega
   simp only [h, h', ne_eq, not_false_iff, if_true]
   exact hs
theorem find_congr {α : Type} {p q : α → Bool} : ∀ {l : List α}, (∀ x ∈ l, p x = q x) → l.find? p = l.find? q
 | [], _ => rfl
 | y :: l, h => by
  rw [List.find?_cons, List.find?_cons, h y (by simp), find_congr (fun x hx => h x (by simp [hx]))]

/-- As cmpN, but from the first label on. -/
def cmpF (a b : List (List Int)) : Int :=
 match (List.range (min a.length b.length)).find? (fun j => cmpB (a.getD j []) (b.getD j []) != 0) with
 | some j => cmpB (a.getD j []) (b.getD j [])
 | none => byLength a.length b.length

theorem cmpF_eq : ∀ (a b : List (List Int)), cmpF a b = cmpL a b
 | [], [] => rfl
 | [], y :: b => by
  unfold cmpF cmpL byLength
  simp
 | x :: a, [] => by
  unfold cmpF cmpL byLength
  simp
  omega
 | x :: a, y :: b => by
  have ih := cmpF_eq a b
  unfold cmpL
  have e : min (x :: a).length (y :: b).length = min a.length b.length + 1 := by simp
  unfold cmpF
  rw [e, List.range_succ_eq_map, List.find?_cons]
  by_cases h : cmpB x y = 0
  ·have h1 : (cmpB ((x :: a).getD 0 []) ((y :: b).getD 0 []) != 0) = false := by simpa using h
   rw [h1]
   simp only [h, ne_eq, not_true, if_false]
   rw [List.find?_map]
   rw [← ih]
   unfold cmpF
   have hq : ((fun j => cmpB ((x :: a).getD j []) ((y :: b).getD j []) != 0) ∘ Nat.succ) = (fun j => cmpB (a.getD j []) (b.getD j []) != 0) := by
    funext j
    simp
   rw [hq]
   cases hf : (List.range (min a.length b.length)).find? (fun j => cmpB (a.getD j []) (b.getD j []) != 0) with
   | none =>
    simp only [Option.map_none]
    unfold byLength
    simp
   | some j =>
    simp only [Option.map_some]
    simp
  ·have h1 : (cmpB ((x :: a).getD 0 []) ((y :: b).getD 0 []) != 0) = true := by simpa using h
   rw [h1]
   simp [h]

theorem getD_reverse (a : List (List Int)) (j : Nat) (h : j < a.length) : a.reverse.getD j [] = a.getD (a.length - (j + 1)) [] := by
 rw [List.getD_eq_getElem?_getD, List.getD_eq_getElem?_getD, List.getElem?_reverse h]
 congr 2
 omega

theorem cmpN_eq (a b : List (List Int)) : cmpN a b = cmpL a.reverse b.reverse := by
 rw [← cmpF_eq]
 unfold cmpN cmpF
 rw [List.length_reverse, List.length_reverse]
 have hp : ∀ j, j < min a.length b.length → atEnd a b (j + 1) = cmpB (a.reverse.getD j []) (b.reverse.getD j []) := fun j hj => by
  rw [getD_reverse a j (by omega), getD_reverse b j (by omega)]
  rfl
 have hf : (List.range (min a.length b.length)).find? (fun j => atEnd a b (j + 1) != 0) = (List.range (min a.length b.length)).find? (fun j => cmpB (a.reverse.getD j []) (b.reverse.getD j []) != 0) := find_congr (fun j hj => by
  rw [hp j (by simpa using hj)])
 rw [hf]
 cases hq : (List.range (min a.length b.length)).find? (fun j => cmpB (a.reverse.getD j []) (b.reverse.getD j []) != 0) with
 | none => rfl
 | some j =>
  have := List.mem_of_find?_eq_some hq
  exact hp j (by simpa using this)

theorem cmpN_swap (a b : List (List Int)) : cmpN a b = - cmpN b a := by
 rw [cmpN_eq, cmpN_eq, ← cmpL_swap]
theorem cmpN_self (a : List (List Int)) : cmpN a a = 0 := by
 have := cmpN_swap a a
 omega
end Go.Proofs.YtpolekinfobecaaGreat

namespace Go.Proofs.YtpolekinfobecaaGreat
open Go.RowKit
set_option linter.unusedVariables false

theorem rangeAll_yes {n : Nat} {p : Nat → Bool} (h : ∀ j, j < n → p j = true) : (List.range n).all p = true := by
 rw [List.all_eq_true]
 intro x hx
 exact h x (List.mem_range.1 hx)
theorem rangeAll_at {n k : Nat} {p : Nat → Bool} (h : (List.range n).all p = true) (hk : k < n) : p k = true := List.all_eq_true.1 h k (List.mem_range.2 hk)
theorem rangeAll_no {n k : Nat} {p : Nat → Bool} (hk : k < n) (h : p k = false) : (List.range n).all p = false := by
 rw [Bool.eq_false_iff]
 intro q
 have := rangeAll_at q hk
 rw [h] at this
 cases this
/-- Records that are one set: of one name, type and time, in order. -/
def setAt (l : List Rec) (i : Nat) : Bool := rrOk (l.getD i recZ) && (decide (cmpN (l.getD i recZ).name (l.getD 0 recZ).name = 0) && (decide ((l.getD i recZ).type = (l.getD 0 recZ).type) && (decide ((l.getD i recZ).ttl = (l.getD 0 recZ).ttl) && (decide (i = 0) || decide (cmpR (l.getD (i - 1) recZ) (l.getD i recZ) < 0)))))
def setOk (l : List Rec) : Bool := decide (1 ≤ l.length) && (decide (l.length ≤ 12) && (List.range l.length).all (setAt l))
def oneB (a b : Rec) : Bool := decide (a.type = b.type) && (decide (a.ttl = b.ttl) && decide (nameCmp a.name b.name = 0))
def setI (l : List Rec) (i : Nat) : Bool := oneB (l.getD 0 recZ) (l.getD i recZ) && decide (rrCmp (l.getD (i - 1) recZ) (l.getD i recZ) < 0)
theorem rrOk_nameOk {r : Rec} (h : rrOk r = true) : nameOk r.name = true := by
 unfold rrOk at h
 simp only [Bool.and_eq_true] at h
 exact h.1
theorem setAt_rr {l : List Rec} {i : Nat} (h : setAt l i = true) : rrOk (l.getD i recZ) = true := by
 unfold setAt at h
 simp only [Bool.and_eq_true] at h
 exact h.1
theorem setAt_zero {l : List Rec} (h : rrOk (l.getD 0 recZ) = true) : setAt l 0 = true := by
 unfold setAt
 rw [h, cmpN_self]
 simp
theorem setI_is {l : List Rec} (h : rrsOk l = true) {i : Nat} (h1 : 1 ≤ i) (hi : i < l.length) : setI l i = setAt l i := by
 unfold rrsOk at h
 rw [Bool.and_eq_true] at h
 have r0 := all_at recZ h.2 (k := 0) (by omega)
 have ri := all_at recZ h.2 hi
 have rp := all_at recZ h.2 (k := i - 1) (by omega)
 unfold setI setAt oneB
 generalize l.getD 0 recZ = a at *
 generalize l.getD i recZ = b at *
 generalize l.getD (i - 1) recZ = p at *
 have e1 : nameCmp a.name b.name = cmpN a.name b.name := if_pos ⟨rrOk_nameOk r0, rrOk_nameOk ri⟩
 have e2 : rrCmp p b = cmpR p b := if_pos ⟨rp, ri⟩
 have e3 : cmpN a.name b.name = - cmpN b.name a.name := cmpN_swap _ _
 have e0 : decide (i = 0) = false := decide_eq_false (by omega)
 rw [e1, e2, ri, e0, Bool.eq_iff_iff]
 simp only [Bool.and_eq_true, Bool.or_eq_true, decide_eq_true_eq]
 constructor
 ·rintro ⟨⟨a1, a2, a3⟩, a4⟩
  exact ⟨trivial, by omega, a1.symm, a2.symm, .inr a4⟩
 ·rintro ⟨_, a3, a1, a2, a4⟩
  exact ⟨⟨a1.symm, a2.symm, by omega⟩, by rcases a4 with h | h <;> first | cases h | exact h⟩
theorem setOk_rrs {l : List Rec} (h : setOk l = true) : rrsOk l = true ∧ 1 ≤ l.length := by
 unfold setOk at h
 simp only [Bool.and_eq_true, decide_eq_true_eq] at h
 obtain ⟨h1, h2, h3⟩ := h
 refine ⟨?_, h1⟩
 unfold rrsOk
 rw [Bool.and_eq_true]
 exact ⟨decide_eq_true h2, all_of l recZ (fun j hj => setAt_rr (rangeAll_at h3 hj))⟩
theorem setOk_yes {l : List Rec} (h : rrsOk l = true) (h1 : 1 ≤ l.length) (hs : ∀ i, 1 ≤ i → i < l.length → setI l i = true) : setOk l = true := by
 have h' := h
 unfold rrsOk at h'
 rw [Bool.and_eq_true] at h'
 unfold setOk
 rw [decide_eq_true h1, h'.1, Bool.true_and, Bool.true_and]
 refine rangeAll_yes (fun j hj => ?_)
 by_cases e : j = 0
 ·subst e
  exact setAt_zero (all_at recZ h'.2 hj)
 ·rw [← setI_is h (by omega) hj]
  exact hs j (by omega) hj
theorem setOk_no {l : List Rec} (h : rrsOk l = true) {i : Nat} (h1 : 1 ≤ i) (hi : i < l.length) (hs : setI l i = false) : setOk l = false := by
 rw [setI_is h h1 hi] at hs
 unfold setOk
 rw [rangeAll_no hi hs]
 simp
theorem setOk_bad {l : List Rec} (h : rrsOk l = false ∨ l.length = 0) : setOk l = false := by
 rw [Bool.eq_false_iff]
 intro q
 obtain ⟨q1, q2⟩ := setOk_rrs q
 rcases h with h | h
 ·rw [h] at q1
  cases q1
 ·omega
/-- Slots. -/
def holdsB (s : Slt) : Bool := if s.kind = 1 then setOk s.rrs && (decide ((s.rrs.getD 0 recZ).type = s.type) && decide (cmpN (s.rrs.getD 0 recZ).name s.name = 0)) else if s.kind = 2 ∨ s.kind = 3 then decide (s.rrs.length = 0) else false
def toldB (s : Slt) : Bool := nameOk s.name && (typeOk s.type && decide (0 ≤ s.rank ∧ s.rank ≤ 3))
def slotB (s : Slt) (now turn : Int) : Bool := toldB s && ((decide (now < s.till) && decide (s.till ≤ now + 1000)) && ((decide (1 ≤ s.used) && decide (s.used ≤ turn)) && holdsB s))
def aheadB (a b : Slt) : Bool := decide (cmpN a.name b.name < 0) || (decide (cmpN a.name b.name = 0) && decide (a.type < b.type))
def slotCmpI (a b : Slt) : Int := if nameCmp a.name b.name ≠ 0 then nameCmp a.name b.name else byLength a.type b.type
theorem slotB_name {s : Slt} {now turn : Int} (h : slotB s now turn = true) : nameOk s.name = true := by
 unfold slotB toldB at h
 simp only [Bool.and_eq_true] at h
 exact h.1.1
theorem slotCmp_ahead {a b : Slt} (ha : nameOk a.name = true) (hb : nameOk b.name = true) : decide (slotCmpI a b < 0) = aheadB a b := by
 have e1 : nameCmp a.name b.name = cmpN a.name b.name := if_pos ⟨ha, hb⟩
 unfold slotCmpI aheadB
 rw [e1, Bool.eq_iff_iff]
 simp only [Bool.and_eq_true, Bool.or_eq_true, decide_eq_true_eq]
 by_cases h : cmpN a.name b.name = 0
 ·rw [if_neg (by simpa using h)]
  unfold byLength
  by_cases h2 : a.type < b.type
  ·rw [if_pos h2]
   omega
  ·rw [if_neg h2]
   split <;> omega
 ·rw [if_pos h]
  omega
def slotAt (c : Ca) (i : Nat) : Bool := slotB (c.slots.getD i sltZ) c.now c.turn && (decide (i = 0) || aheadB (c.slots.getD (i - 1) sltZ) (c.slots.getD i sltZ))
def freshAt (l : List Slt) (i : Nat) : Bool := (List.range i).all (fun k => decide ((l.getD k sltZ).used ≠ (l.getD i sltZ).used))
def headB (c : Ca) : Bool := decide (0 ≤ c.now ∧ c.now ≤ 1000000) && (decide (0 ≤ c.turn ∧ c.turn ≤ 1000000) && decide (c.slots.length ≤ 8))
def apartB (l : List Slt) : Bool := (List.range l.length).all (freshAt l)
def cacheOk (c : Ca) : Bool := headB c && ((List.range c.slots.length).all (slotAt c) && apartB c.slots)
/-- Numbers that are sorted and made compact: as many as there were where no two are the same. -/
theorem compact_len {zs : List Int} : (Lib.compact zs).length = zs.length ↔ ∀ j, j < zs.length → Lib.keeps zs.toArray j = true := by
 unfold Lib.compact Lib.compactUpTo
 rw [List.length_map]
 constructor
 ·intro h j hj
  have h2 : ((List.range zs.length).filter (Lib.keeps zs.toArray)).length = (List.range zs.length).length := by rw [h, List.length_range]
  exact List.length_filter_eq_length_iff.1 h2 j (List.mem_range.2 hj)
 ·intro h
  have h2 := (List.length_filter_eq_length_iff (l := List.range zs.length) (p := Lib.keeps zs.toArray)).2 (fun a ha => h a (List.mem_range.1 ha))
  rw [h2, List.length_range]
theorem sorted_keeps {zs : List Int} (hs : zs.Pairwise (fun a b => a ≤ b)) : (∀ j, j < zs.length → Lib.keeps zs.toArray j = true) ↔ zs.Nodup := by
 have get : ∀ j (hj : j < zs.length), zs.toArray[j]! = zs[j] := fun j hj => by simp [hj]
 rw [List.pairwise_iff_getElem] at hs
 constructor
 ·intro h
  refine List.pairwise_iff_getElem.2 (fun i j hi hj hij => ?_)
  have hk := h j hj
  have h1 : zs[j - 1] ≤ zs[j] := hs (j - 1) j (by omega) hj (by omega)
  have h2 : zs[i] ≤ zs[j - 1] := by
   by_cases e : i = j - 1
   ·subst e; exact Int.le_refl _
   ·exact hs i (j - 1) hi (by omega) (by omega)
  have h3 : zs[j] ≠ zs[j - 1] := by
   intro e
   have := Lib.keeps_neg (d := zs.toArray) (m := j) (by omega) (by rw [get j hj, get (j - 1) (by omega)]; exact e)
   rw [this] at hk
   cases hk
  intro e
  omega
 ·intro h j hj
  by_cases e : j = 0
  ·subst e
   exact Lib.keeps_lt_one _ 0 (by omega)
  ·refine Lib.keeps_pos ?_
   rw [get j hj, get (j - 1) (by omega)]
   exact (List.pairwise_iff_getElem.1 h (j - 1) j (by omega) hj (by omega)).symm
theorem apart_iff {l : List Slt} : apartB l = true ↔ (l.map Slt.used).Nodup := by
 have gd : ∀ k (hk : k < l.length), l.getD k sltZ = l[k] := fun k hk => by simp [hk]
 constructor
 ·intro h
  refine List.pairwise_iff_getElem.2 (fun i j hi hj hij => ?_)
  rw [List.length_map] at hi hj
  have := of_decide_eq_true (rangeAll_at (rangeAll_at h hj) hij)
  rw [gd i hi, gd j hj] at this
  simpa using this
 ·intro h
  refine rangeAll_yes (fun j hj => rangeAll_yes (fun k hk => decide_eq_true ?_))
  have := List.pairwise_iff_getElem.1 h k j (by rw [List.length_map]; omega) (by rw [List.length_map]; omega) hk
  rw [gd k (by omega), gd j hj]
  simpa using this
theorem used_apart (l : List Slt) : decide ((Lib.compact ((l.map Slt.used).mergeSort fun x y => decide (x ≤ y))).length = l.length) = apartB l := by
 have hp := List.mergeSort_perm (l.map Slt.used) (fun x y => decide (x ≤ y))
 have hl : ((l.map Slt.used).mergeSort fun x y => decide (x ≤ y)).length = l.length := by rw [List.length_mergeSort, List.length_map]
 have hs : ((l.map Slt.used).mergeSort fun x y => decide (x ≤ y)).Pairwise (fun a b => a ≤ b) := by
  have := List.pairwise_mergeSort (le := fun (x y : Int) => decide (x ≤ y)) (fun a b c h1 h2 => by simp only [decide_eq_true_eq] at *; omega) (fun a b => by simp only [Bool.or_eq_true, decide_eq_true_eq]; omega) (l.map Slt.used)
  exact this.imp (fun h => of_decide_eq_true h)
 rw [Bool.eq_iff_iff, decide_eq_true_eq, apart_iff]
 have h1 := compact_len (zs := (l.map Slt.used).mergeSort fun x y => decide (x ≤ y))
 rw [hl] at h1
 rw [h1]
 have h2 := sorted_keeps hs
 rw [hl] at h2
 rw [h2]
 exact hp.nodup_iff
end Go.Proofs.YtpolekinfobecaaGreat

namespace Go.Proofs.YtpolekinfobecaaGreat
open Go.RowKit
set_option linter.unusedVariables false

theorem holdsB_out {s : Slt} (h : s.kind < 1 ∨ 3 < s.kind) : holdsB s = false := by
 unfold holdsB
 rw [if_neg (by omega), if_neg (by omega)]
theorem holdsB_one {s : Slt} (h : s.kind = 1) : holdsB s = (setOk s.rrs && (decide ((s.rrs.getD 0 recZ).type = s.type) && decide (cmpN (s.rrs.getD 0 recZ).name s.name = 0))) := if_pos h
theorem holdsB_two {s : Slt} (h : ¬ s.kind = 1) (h1 : ¬ s.kind < 1) (h3 : ¬ 3 < s.kind) : holdsB s = decide (s.rrs.length = 0) := by
 unfold holdsB
 rw [if_neg h, if_pos (by omega)]
end Go.Proofs.YtpolekinfobecaaGreat
