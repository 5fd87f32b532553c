/-
  Plain facts: a record's data as bytes. No program is named here. Plain facts: what DataPut and RrPut answer. No program is named here. Plain facts: which messages may be, and their bytes. No program is named here. Plain facts: texts held against each other byte by byte, names label by label from the last one on. No program is named here. Plain facts: the order of records. No program is named here. Plain facts: the order of names is one. No program is named here.
-/
import Derived.Test.YtpolekinfobecaaGreatCacheTickG08
import Derived.Test.YtpolekinfobecaaGreatCacheTickG01
import Derived.Lib.Bytealg
import Derived.Lib.BytesEntry
namespace Go.Proofs.YtpolekinfobecaaGreat
open Go.RowKit

/-- The data, as bytes. -/
def dataB (r : Rec) : List Int :=
 if r.type = 1 then put32 [] r.addr else if r.type = 6 then put32 (put32 (wire r.to) (r.nums.getD 0 0)) (r.nums.getD 1 0) else if named r.type = true then wire r.to else (r.text.length : Int) :: r.text

/-- What the data of a record that may be are: of its four kinds one. -/
theorem data_kinds {r : Rec} (ht : typeOk r.type = true) (h : dataOk r = true) :
  (r.type = 1 ∧ 0 ≤ r.addr ∧ r.addr ≤ 4294967295 ∧ dataB r = put32 [] r.addr) ∨ ((r.type = 2 ∨ r.type = 5 ∨ r.type = 12) ∧ nameOk r.to = true ∧ dataB r = wire r.to) ∨
  (r.type = 6 ∧ nameOk r.to = true ∧ (∃ x y, r.nums = [x, y] ∧ 0 ≤ x ∧ x ≤ 4294967295 ∧ 0 ≤ y ∧ y ≤ 100000 ∧ dataB r = put32 (put32 (wire r.to) x) y)) ∨ ((r.type = 16 ∨ r.type = 49) ∧ r.text.length ≤ 40 ∧ dataB r = (r.text.length : Int) :: r.text) := by
 have ht' : r.type = 1 ∨ r.type = 2 ∨ r.type = 5 ∨ r.type = 6 ∨ r.type = 12 ∨ r.type = 16 ∨ r.type = 49 := of_decide_eq_true ht
 unfold dataOk at h
 simp only [Bool.and_eq_true] at h
 obtain ⟨h1, h2, h3, h4⟩ := h
 by_cases e1 : r.type = 1
 ·left
  rw [if_pos e1] at h1
  have := of_decide_eq_true h1
  exact ⟨e1, this.1, this.2, by unfold dataB; rw [if_pos e1]⟩
 by_cases e6 : r.type = 6
 ·right; right; left
  have hn : named r.type = true := decide_eq_true (by omega)
  rw [if_pos hn] at h2
  rw [if_pos e6] at h4
  have h5 := of_decide_eq_true h4
  obtain ⟨x, y, hxy⟩ := two_of h5.1
  rw [hxy] at h5
  refine ⟨e6, h2, x, y, hxy, h5.2.1, h5.2.2.1, h5.2.2.2.1, h5.2.2.2.2, ?_⟩
  unfold dataB
  rw [if_neg e1, if_pos e6, hxy]
  rfl
 by_cases en : r.type = 2 ∨ r.type = 5 ∨ r.type = 12
 ·right; left
  have hn : named r.type = true := decide_eq_true (by omega)
  rw [if_pos hn] at h2
  exact ⟨en, h2, by unfold dataB; rw [if_neg e1, if_neg e6, if_pos hn]⟩
 ·right; right; right
  have hx : texted r.type = true := decide_eq_true (by omega)
  have hn : ¬ named r.type = true := by
   intro hh
   have : r.type = 2 ∨ r.type = 5 ∨ r.type = 6 ∨ r.type = 12 := of_decide_eq_true hh
   omega
  rw [if_pos hx] at h3
  exact ⟨by omega, of_decide_eq_true h3, by unfold dataB; rw [if_neg e1, if_neg e6, if_neg hn]⟩
theorem rrOk_parts {r : Rec} (h : rrOk r = true) : nameOk r.name = true ∧ typeOk r.type = true ∧ 0 ≤ r.ttl ∧ r.ttl ≤ 100000 ∧ dataOk r = true := by
 unfold rrOk at h
 simp only [Bool.and_eq_true] at h
 have := of_decide_eq_true h.2.2.1
 exact ⟨h.1, h.2.1, this.1, this.2, h.2.2.2⟩
end Go.Proofs.YtpolekinfobecaaGreat

namespace Go.Proofs.YtpolekinfobecaaGreat
open Go.RowKit

end Go.Proofs.YtpolekinfobecaaGreat

namespace Go.Proofs.YtpolekinfobecaaGreat
open Go.RowKit
set_option linter.unusedVariables false

def rrsOk (l : List Rec) : Bool := decide (l.length ≤ 12) && l.all rrOk
theorem all_take {α : Type} {p : α → Bool} (l : List α) (d : α) : ∀ k, (∀ j, j < k → j < l.length → p (l.getD j d) = true) → (l.take k).all p = true := by
 intro k hk
 rw [List.all_eq_true]
 intro x hx
 obtain ⟨j, hj, e⟩ := List.getElem_of_mem hx
 rw [List.length_take] at hj
 have := hk j (by omega) (by omega)
 rw [List.getD_eq_getElem?_getD, List.getElem?_eq_getElem (by omega), Option.getD_some] at this
 rw [← e, List.getElem_take]
 exact this
theorem all_of {α : Type} {p : α → Bool} (l : List α) (d : α) (h : ∀ j, j < l.length → p (l.getD j d) = true) : l.all p = true := by
 have := all_take (p := p) l d l.length (fun j _ hj => h j hj)
 rwa [List.take_length] at this
theorem all_not {α : Type} {p : α → Bool} (l : List α) (d : α) {k : Nat} (hk : k < l.length) (h : p (l.getD k d) = false) : l.all p = false := by
 rw [List.all_eq_false]
 refine ⟨l[k], List.getElem_mem hk, ?_⟩
 rw [List.getD_eq_getElem?_getD, List.getElem?_eq_getElem hk, Option.getD_some] at h
 simp [h]
theorem all_at {α : Type} {p : α → Bool} {l : List α} (d : α) (h : l.all p = true) {k : Nat} (hk : k < l.length) : p (l.getD k d) = true := by
 rw [List.all_eq_true] at h
 rw [List.getD_eq_getElem?_getD, List.getElem?_eq_getElem hk, Option.getD_some]
 exact h _ (List.getElem_mem hk)

/-! Bytes. -/
end Go.Proofs.YtpolekinfobecaaGreat

namespace Go.Proofs.YtpolekinfobecaaGreat
open Go.RowKit

/-- Two texts held against each other: -1, 0, 1. -/
def cmpB (a b : List Int) : Int := Lib.compareBytes (strOfNums a).data.toList (strOfNums b).data.toList

theorem compare_less : ∀ (a b : List UInt8), Op.bytesLess a b = decide (Lib.compareBytes a b = -1)
 | [], [] => rfl
 | [], _ :: _ => rfl
 | _ :: _, [] => rfl
 | x :: a, y :: b => by
  have ih := compare_less a b
  unfold Op.bytesLess Lib.compareBytes
  by_cases h1 : x < y
  ·simp [h1]
  ·by_cases h2 : y < x
   ·have : (x == y) = false := by
     apply beq_eq_false_iff_ne.2
     intro e; subst e; exact UInt8.lt_irrefl x h2
    simp [h1, h2, this]
   ·have e : x = y := UInt8.le_antisymm (UInt8.not_lt.1 h2) (UInt8.not_lt.1 h1)
    subst e
    simp [h1, ih]

theorem compare_zero : ∀ (a b : List UInt8), (a == b) = decide (Lib.compareBytes a b = 0)
 | [], [] => rfl
 | [], _ :: _ => rfl
 | _ :: _, [] => rfl
 | x :: a, y :: b => by
  have ih := compare_zero a b
  unfold Lib.compareBytes
  rw [List.cons_beq_cons]
  by_cases h1 : x < y
  ·have : (x == y) = false := by
    apply beq_eq_false_iff_ne.2
    intro e; subst e; exact UInt8.lt_irrefl x h1
   simp [h1, this]
  ·by_cases h2 : y < x
   ·have : (x == y) = false := by
     apply beq_eq_false_iff_ne.2
     intro e; subst e; exact UInt8.lt_irrefl x h2
    simp [h1, h2, this]
   ·have e : x = y := UInt8.le_antisymm (UInt8.not_lt.1 h2) (UInt8.not_lt.1 h1)
    subst e
    simp only [h1, if_false, beq_self_eq_true, Bool.true_and]
    exact ih

theorem compare_cases : ∀ (a b : List UInt8), Lib.compareBytes a b = -1 ∨ Lib.compareBytes a b = 0 ∨ Lib.compareBytes a b = 1
 | [], [] => .inr (.inl rfl)
 | [], _ :: _ => .inl rfl
 | _ :: _, [] => .inr (.inr rfl)
 | x :: a, y :: b => by
  unfold Lib.compareBytes
  split
  ·exact .inl rfl
  ·split
   ·exact .inr (.inr rfl)
   ·exact compare_cases a b

theorem str_less (a b : List Int) : Op.bytesLess (strOfNums a).toList (strOfNums b).toList = decide (cmpB a b = -1) := by
 rw [ByteArray.toList_eq, ByteArray.toList_eq, compare_less]; rfl
theorem str_same (a b : List Int) : ((strOfNums a).toList == (strOfNums b).toList) = decide (cmpB a b = 0) := by
 rw [ByteArray.toList_eq, ByteArray.toList_eq, compare_zero]; rfl
theorem cmpB_cases (a b : List Int) : cmpB a b = -1 ∨ cmpB a b = 0 ∨ cmpB a b = 1 := compare_cases _ _

theorem run_bytesOf_has {P : Program} {w : World} {v : Value} {l : List Int} (h : Has w v l) : (Extern.Bytes.bytesOf v).run P w = .ok (strOfNums l) w := by
 rcases h with ⟨rfl, rfl⟩ | ⟨g, off, cap, rfl, _, _, _, hc⟩
 ·rfl
 ·have hl := Lib.run_loadBytesX (P := P) w l ⟨g, off, none⟩ .empty (fun j x hj => by
   have hjl : j < l.length := (List.getElem?_eq_some_iff.1 hj).1
   rw [Addr.add_lit, hc j hjl]
   simp [hj])
  show (Extern.Bytes.loadBytes ⟨g, off, none⟩ l.length .empty).run P w = _
  rw [hl]
  congr 1
  simp [strOfNums, Lib.bytesOf, ByteArray.empty, ByteArray.emptyWithCapacity]
  rfl

theorem run_compare_has {P : Program} {w : World} {v v' : Value} {l l' : List Int} (h : Has w v l) (h' : Has w v' l') :
  (Extern.BytealgCompare.compare #[v, v']).run P w = .ok (.int .i64 (cmpB l l')) w := by
 change Sem.run P (do pure (goInt (Extern.BytealgCompare.cmp (← Extern.Bytes.bytesOf v) (← Extern.Bytes.bytesOf v')))) w = _
 simp only [Sem.run_bind, run_bytesOf_has h, run_bytesOf_has h', Sem.run_pure, Result.andThen]
 rw [Lib.cmp_eq]
 rfl

/-- The labels that stand i places ahead of both ends. -/
def atEnd (a b : List (List Int)) (i : Nat) : Int := cmpB (a.getD (a.length - i) []) (b.getD (b.length - i) [])

theorem atEnd_eq (a b : List (List Int)) (i : Nat) : atEnd a b i = cmpB (a.getD (a.length - i) []) (b.getD (b.length - i) []) := rfl

/-- -1, 0, 1: by how many labels. -/
def byLength (x y : Int) : Int := if x < y then -1 else if y < x then 1 else 0

/-- Two names held against each other. -/
def cmpN (a b : List (List Int)) : Int :=
 match (List.range (min a.length b.length)).find? (fun j => atEnd a b (j + 1) != 0) with
 | some j => atEnd a b (j + 1)
 | none => byLength a.length b.length

theorem cmpN_hit {a b : List (List Int)} {k : Nat} (h1 : 1 ≤ k) (h2 : k ≤ a.length) (h3 : k ≤ b.length) (hz : ∀ j, 1 ≤ j → j < k → atEnd a b j = 0) (hk : atEnd a b k ≠ 0) : cmpN a b = atEnd a b k := by
 have : (List.range (min a.length b.length)).find? (fun j => atEnd a b (j + 1) != 0) = some (k - 1) := by
  rw [List.find?_range_eq_some]
  refine ⟨by rw [Nat.sub_add_cancel h1]; simpa using hk, by simp; omega, fun j hj => ?_⟩
  have := hz (j + 1) (by omega) (by omega)
  simp [this]
 unfold cmpN
 rw [this]
 show atEnd a b (k - 1 + 1) = _
 rw [Nat.sub_add_cancel h1]

theorem cmpN_none {a b : List (List Int)} {k : Nat} (hk : a.length < k ∨ b.length < k) (hz : ∀ j, 1 ≤ j → j < k → atEnd a b j = 0) : cmpN a b = byLength a.length b.length := by
 have : (List.range (min a.length b.length)).find? (fun j => atEnd a b (j + 1) != 0) = none := by
  rw [List.find?_range_eq_none]
  intro j hj
  have := hz (j + 1) (by omega) (by omega)
  simp [this]
 unfold cmpN
 rw [this]

/-- Two names held against each other; 0 where one is none. -/
def nameCmp (a b : List (List Int)) : Int := if nameOk a = true ∧ nameOk b = true then cmpN a b else 0
end Go.Proofs.YtpolekinfobecaaGreat

namespace Go.Proofs.YtpolekinfobecaaGreat
open Go.RowKit

/-- By name, type, data. -/
def cmpR (a b : Rec) : Int := if cmpN a.name b.name ≠ 0 then cmpN a.name b.name else if byLength a.type b.type ≠ 0 then byLength a.type b.type else cmpB (dataB a) (dataB b)
def rrCmp (a b : Rec) : Int := if rrOk a = true ∧ rrOk b = true then cmpR a b else 0
theorem byLength_zero {x y : Int} (h : byLength x y = 0) : x = y := by
 unfold byLength at h
 split at h
 ·omega
 ·split at h
  ·omega
  ·omega
end Go.Proofs.YtpolekinfobecaaGreat

namespace Go.Proofs.YtpolekinfobecaaGreat
open Go.RowKit

theorem compare_swap : ∀ (a b : List UInt8), Lib.compareBytes a b = - Lib.compareBytes b a
 | [], [] => rfl
 | [], _ :: _ => rfl
 | _ :: _, [] => rfl
 | x :: a, y :: b => by
  have ih := compare_swap a b
  unfold Lib.compareBytes
  by_cases h1 : x < y
  ·have h2 : ¬ y < x := fun h => UInt8.lt_irrefl x (UInt8.lt_trans h1 h)
   simp [h1, h2]
  ·by_cases h2 : y < x
   ·simp [h1, h2]
   ·simp only [h1, h2, if_false]
    exact ih

theorem cmpB_swap (a b : List Int) : cmpB a b = - cmpB b a := compare_swap _ _
/-- Lists of texts held against each other from the first on. -/
def cmpL : List (List Int) → List (List Int) → Int
 | [], [] => 0
 | [], _ :: _ => -1
 | _ :: _, [] => 1
 | x :: a, y :: b => if cmpB x y ≠ 0 then cmpB x y else cmpL a b

theorem cmpL_swap : ∀ (a b : List (List Int)), cmpL a b = - cmpL b a
 | [], [] => rfl
 | [], _ :: _ => rfl
 | _ :: _, [] => rfl
 | x :: a, y :: b => by
  have ih := cmpL_swap a b
  have hs := cmpB_swap x y
  unfold cmpL
  by_cases h : cmpB x y = 0
  ·have h' : cmpB y x = 0 := by omega
   simp only [h, h', ne_eq, not_true, if_false]
   exact ih
  ·have h' : ¬ cmpB y x = 0 := by omega
   simp only [h, h', ne_eq, not_false_iff, if_true]
   exact hs
theorem find_congr {α : Type} {p q : α → Bool} : ∀ {l : List α}, (∀ x ∈ l, p x = q x) → l.find? p = l.find? q
 | [], _ => rfl
 | y :: l, h => by
  rw [List.find?_cons, List.find?_cons, h y (by simp), find_congr (fun x hx => h x (by simp [hx]))]

/-- As cmpN, but from the first label on. -/
def cmpF (a b : List (List Int)) : Int :=
 match (List.range (min a.length b.length)).find? (fun j => cmpB (a.getD j []) (b.getD j []) != 0) with
 | some j => cmpB (a.getD j []) (b.getD j [])
 | none => byLength a.length b.length

theorem cmpF_eq : ∀ (a b : List (List Int)), cmpF a b = cmpL a b
 | [], [] => rfl
 | [], y :: b => by
  unfold cmpF cmpL byLength
  simp
 | x :: a, [] => by
  unfold cmpF cmpL byLength
  simp
  omega
 | x :: a, y :: b => by
  have ih := cmpF_eq a b
  unfold cmpL
  have e : min (x :: a).length (y :: b).length = min a.length b.length + 1 := by simp
  unfold cmpF
  rw [e, List.range_succ_eq_map, List.find?_cons]
  by_cases h : cmpB x y = 0
  ·have h1 : (cmpB ((x :: a).getD 0 []) ((y :: b).getD 0 []) != 0) = false := by simpa using h
   rw [h1]
   simp only [h, ne_eq, not_true, if_false]
   rw [List.find?_map]
   rw [← ih]
   unfold cmpF
   have hq : ((fun j => cmpB ((x :: a).getD j []) ((y :: b).getD j []) != 0) ∘ Nat.succ) = (fun j => cmpB (a.getD j []) (b.getD j []) != 0) := by
    funext j
    simp
   rw [hq]
   cases hf : (List.range (min a.length b.length)).find? (fun j => cmpB (a.getD j []) (b.getD j []) != 0) with
   | none =>
    simp only [Option.map_none]
    unfold byLength
    simp
   | some j =>
    simp only [Option.map_some]
    simp
  ·have h1 : (cmpB ((x :: a).getD 0 []) ((y :: b).getD 0 []) != 0) = true := by simpa using h
   rw [h1]
   simp [h]

theorem getD_reverse (a : List (List Int)) (j : Nat) (h : j < a.length) : a.reverse.getD j [] = a.getD (a.length - (j + 1)) [] := by
 rw [List.getD_eq_getElem?_getD, List.getD_eq_getElem?_getD, List.getElem?_reverse h]
 congr 2
 omega

theorem cmpN_eq (a b : List (List Int)) : cmpN a b = cmpL a.reverse b.reverse := by
 rw [← cmpF_eq]
 unfold cmpN cmpF
 rw [List.length_reverse, List.length_reverse]
 have hp : ∀ j, j < min a.length b.length → atEnd a b (j + 1) = cmpB (a.reverse.getD j []) (b.reverse.getD j []) := fun j hj => by
  rw [getD_reverse a j (by omega), getD_reverse b j (by omega)]
  rfl
 have hf : (List.range (min a.length b.length)).find? (fun j => atEnd a b (j + 1) != 0) = (List.range (min a.length b.length)).find? (fun j => cmpB (a.reverse.getD j []) (b.reverse.getD j []) != 0) := find_congr (fun j hj => by
  rw [hp j (by simpa using hj)])
 rw [hf]
 cases hq : (List.range (min a.length b.length)).find? (fun j => cmpB (a.reverse.getD j []) (b.reverse.getD j []) != 0) with
 | none => rfl
 | some j =>
  have := List.mem_of_find?_eq_some hq
  exact hp j (by simpa using this)

theorem cmpN_swap (a b : List (List Int)) : cmpN a b = - cmpN b a := by
 rw [cmpN_eq, cmpN_eq, ← cmpL_swap]
theorem cmpN_self (a : List (List Int)) : cmpN a a = 0 := by
 have := cmpN_swap a a
 omega
end Go.Proofs.YtpolekinfobecaaGreat
