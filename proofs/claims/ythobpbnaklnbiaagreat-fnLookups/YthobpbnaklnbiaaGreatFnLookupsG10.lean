/-
  Plain facts: a record's data as bytes. No program is named here. Plain facts: the order of records. No program is named here. Plain facts: the order of names is one. No program is named here. Plain facts: which records may be a zone's, said by neighbours and said by all. No program is named here. Plain facts: records that may be are short. No program is named here. Plain facts: zones that may be are short; a new zone. No program is named here. Plain facts: a zone's records of a name and a type, the first SOA, and a row of records that is appended to. No program is named here. Plain facts: what one zone has alone. No program is named here. Plain facts: what HasName answers. No program is named here. Plain facts: names that are the same, names that end with others, and their order. No program is named here. Plain facts: the key of a record among those of its name. No program is named here.
-/
import Derived.Test.YthobpbnaklnbiaaGreatFnLookupsG07
import Derived.Test.YthobpbnaklnbiaaGreatFnLookupsG09
import Derived.Test.YthobpbnaklnbiaaGreatFnLookupsG05
import Derived.Test.YthobpbnaklnbiaaGreatFnLookupsG00
import Derived.Test.YthobpbnaklnbiaaGreatFnLookupsG01
namespace Go.Proofs.YthobpbnaklnbiaaGreat
open Go.RowKit

def dataB (r : Rec) : List Int :=
 if r.type = 1 then put32 [] r.addr else if r.type = 6 then put32 (put32 (wire r.to) (r.nums.getD 0 0)) (r.nums.getD 1 0) else if named r.type = true then wire r.to else (r.text.length : Int) :: r.text

theorem data_kinds {r : Rec} (ht : typeOk r.type = true) (h : dataOk r = true) :
  (r.type = 1 ∧ 0 ≤ r.addr ∧ r.addr ≤ 4294967295 ∧ dataB r = put32 [] r.addr) ∨ ((r.type = 2 ∨ r.type = 5 ∨ r.type = 12) ∧ nameOk r.to = true ∧ dataB r = wire r.to) ∨
  (r.type = 6 ∧ nameOk r.to = true ∧ (∃ x y, r.nums = [x, y] ∧ 0 ≤ x ∧ x ≤ 4294967295 ∧ 0 ≤ y ∧ y ≤ 100000 ∧ dataB r = put32 (put32 (wire r.to) x) y)) ∨ ((r.type = 16 ∨ r.type = 49) ∧ r.text.length ≤ 40 ∧ dataB r = (r.text.length : Int) :: r.text) := by
 have ht' : r.type = 1 ∨ r.type = 2 ∨ r.type = 5 ∨ r.type = 6 ∨ r.type = 12 ∨ r.type = 16 ∨ r.type = 49 := of_decide_eq_true ht
 unfold dataOk at h
 simp only [Bool.and_eq_true] at h
 obtain ⟨h1, h2, h3, h4⟩ := h
 by_cases e1 : r.type = 1
 ·left
  rw [if_pos e1] at h1
  have := of_decide_eq_true h1
  exact ⟨e1, this.1, this.2, by unfold dataB; rw [if_pos e1]⟩
 by_cases e6 : r.type = 6
 ·right; right; left
  have hn : named r.type = true := decide_eq_true (by omega)
  rw [if_pos hn] at h2
  rw [if_pos e6] at h4
  have h5 := of_decide_eq_true h4
  obtain ⟨x, y, hxy⟩ := two_of h5.1
  rw [hxy] at h5
  refine ⟨e6, h2, x, y, hxy, h5.2.1, h5.2.2.1, h5.2.2.2.1, h5.2.2.2.2, ?_⟩
  unfold dataB
  rw [if_neg e1, if_pos e6, hxy]
  rfl
 by_cases en : r.type = 2 ∨ r.type = 5 ∨ r.type = 12
 ·right; left
  have hn : named r.type = true := decide_eq_true (by omega)
  rw [if_pos hn] at h2
  exact ⟨en, h2, by unfold dataB; rw [if_neg e1, if_neg e6, if_pos hn]⟩
 ·right; right; right
  have hx : texted r.type = true := decide_eq_true (by omega)
  have hn : ¬ named r.type = true := by
   intro hh
   have : r.type = 2 ∨ r.type = 5 ∨ r.type = 6 ∨ r.type = 12 := of_decide_eq_true hh
   omega
  rw [if_pos hx] at h3
  exact ⟨by omega, of_decide_eq_true h3, by unfold dataB; rw [if_neg e1, if_neg e6, if_neg hn]⟩
theorem rrOk_parts {r : Rec} (h : rrOk r = true) : nameOk r.name = true ∧ typeOk r.type = true ∧ 0 ≤ r.ttl ∧ r.ttl ≤ 100000 ∧ dataOk r = true := by
 unfold rrOk at h
 simp only [Bool.and_eq_true] at h
 have := of_decide_eq_true h.2.2.1
 exact ⟨h.1, h.2.1, this.1, this.2, h.2.2.2⟩
theorem dataB_length {r : Rec} (h : rrOk r = true) : (dataB r).length ≤ 105 := by
 obtain ⟨_, ht, _, _, hd⟩ := rrOk_parts h
 rcases data_kinds ht hd with ⟨_, _, _, e⟩ | ⟨_, hn, e⟩ | ⟨_, hn, x, y, _, _, _, _, _, e⟩ | ⟨_, hx, e⟩
 ·rw [e]; have := put32_length [] r.addr; simp at this; omega
 ·rw [e]; have := wire_length r.to hn; omega
 ·rw [e]
  have h1 := wire_length r.to hn
  have h2 := put32_length (wire r.to) x
  have h3 := put32_length (put32 (wire r.to) x) y
  omega
 ·rw [e]; simp; omega
end Go.Proofs.YthobpbnaklnbiaaGreat

namespace Go.Proofs.YthobpbnaklnbiaaGreat
open Go.RowKit

def cmpR (a b : Rec) : Int := if cmpN a.name b.name ≠ 0 then cmpN a.name b.name else if byLength a.type b.type ≠ 0 then byLength a.type b.type else cmpB (dataB a) (dataB b)
def rrCmp (a b : Rec) : Int := if rrOk a = true ∧ rrOk b = true then cmpR a b else 0
def rrSame (a b : Rec) : Bool := rrOk a && (rrOk b && (cmpR a b == 0))
theorem byLength_zero {x y : Int} (h : byLength x y = 0) : x = y := by
 unfold byLength at h
 split at h
 ·omega
 ·split at h
  ·omega
  ·omega
end Go.Proofs.YthobpbnaklnbiaaGreat

namespace Go.Proofs.YthobpbnaklnbiaaGreat
open Go.RowKit

theorem compare_swap : ∀ (a b : List UInt8), Lib.compareBytes a b = - Lib.compareBytes b a
 | [], [] => rfl
 | [], _ :: _ => rfl
 | _ :: _, [] => rfl
 | x :: a, y :: b => by
  have ih := compare_swap a b
  unfold Lib.compareBytes
  by_cases h1 : x < y
  ·have h2 : ¬ y < x := fun h => UInt8.lt_irrefl x (UInt8.lt_trans h1 h)
   simp [h1, h2]
  ·by_cases h2 : y < x
   ·simp [h1, h2]
   ·simp only [h1, h2, if_false]
    exact ih

theorem compare_trans : ∀ (a b c : List UInt8), Lib.compareBytes a b ≤ 0 → Lib.compareBytes b c ≤ 0 → Lib.compareBytes a c ≤ 0
 | [], _, [], _, _ => by decide
 | [], _, _ :: _, _, _ => by
  unfold Lib.compareBytes
  omega
 | _ :: _, [], _, h, _ => by
  unfold Lib.compareBytes at h
  omega
 | _ :: _, _ :: _, [], _, h => by
  unfold Lib.compareBytes at h
  omega
 | x :: a, y :: b, z :: c, h1, h2 => by
  unfold Lib.compareBytes at h1 h2 ⊢
  by_cases hxz : x < z
  ·simp [hxz]
  ·simp only [hxz, if_false]
   by_cases hxy : x < y
   ·by_cases hyz : y < z
    ·exact absurd (UInt8.lt_trans hxy hyz) hxz
    ·simp only [hyz, if_false] at h2
     by_cases hzy : z < y
     ·simp [hzy] at h2
     ·have e : y = z := UInt8.le_antisymm (UInt8.not_lt.1 hzy) (UInt8.not_lt.1 hyz)
      subst e
      exact absurd hxy hxz
   ·simp only [hxy, if_false] at h1
    by_cases hyx : y < x
    ·simp [hyx] at h1
    ·have e : x = y := UInt8.le_antisymm (UInt8.not_lt.1 hyx) (UInt8.not_lt.1 hxy)
     subst e
     simp only [hyx, if_false] at h1
     simp only [hxz, if_false] at h2
     by_cases hzx : z < x
     ·simp [hzx] at h2
     ·simp only [hzx, if_false] at h2 ⊢
      exact compare_trans a b c h1 h2

theorem cmpB_swap (a b : List Int) : cmpB a b = - cmpB b a := compare_swap _ _
theorem cmpB_trans {a b c : List Int} (h : cmpB a b ≤ 0) (k : cmpB b c ≤ 0) : cmpB a c ≤ 0 := compare_trans _ _ _ h k
theorem cmpB_between {a b c : List Int} (h : cmpB a b ≤ 0) (k : cmpB b c ≤ 0) (e : cmpB a c = 0) : cmpB a b = 0 ∧ cmpB b c = 0 := by
 have e1 := cmpB_swap a c
 have e2 := cmpB_swap a b
 have e3 := cmpB_swap b c
 have h1 : cmpB b a ≤ 0 := cmpB_trans k (by omega)
 have h2 : cmpB c b ≤ 0 := cmpB_trans (by omega : cmpB c a ≤ 0) h
 omega
theorem cmpB_self (a : List Int) : cmpB a a = 0 := by
 have := cmpB_swap a a
 omega
def cmpL : List (List Int) → List (List Int) → Int
 | [], [] => 0
 | [], _ :: _ => -1
 | _ :: _, [] => 1
 | x :: a, y :: b => if cmpB x y ≠ 0 then cmpB x y else cmpL a b

theorem cmpL_swap : ∀ (a b : List (List Int)), cmpL a b = - cmpL b a
 | [], [] => rfl
 | [], _ :: _ => rfl
 | _ :: _, [] => rfl
 | x :: a, y :: b => by
  have ih := cmpL_swap a b
  have hs := cmpB_swap x y
  unfold cmpL
  by_cases h : cmpB x y = 0
  ·have h' : cmpB y x = 0 := by omega
   simp only [h, h', ne_eq, not_true, if_false]
   exact ih
  ·have h' : ¬ cmpB y x = 0 := by omega
   simp only [h, h', ne_eq, not_false_iff, if_true]
   exact hs
theorem cmpL_trans : ∀ (a b c : List (List Int)), cmpL a b ≤ 0 → cmpL b c ≤ 0 → cmpL a c ≤ 0
 | [], _, [], _, _ => by decide
 | [], _, _ :: _, _, _ => by
  unfold cmpL
  omega
 | _ :: _, [], _, h, _ => by
  unfold cmpL at h
  omega
 | _ :: _, _ :: _, [], _, h => by
  unfold cmpL at h
  omega
 | x :: a, y :: b, z :: c, h1, h2 => by
  unfold cmpL at h1 h2 ⊢
  have p1 : cmpB x y ≤ 0 := by
   by_cases h : cmpB x y = 0
   ·omega
   ·simpa [h] using h1
  have p2 : cmpB y z ≤ 0 := by
   by_cases h : cmpB y z = 0
   ·omega
   ·simpa [h] using h2
  have p3 := cmpB_trans p1 p2
  by_cases h : cmpB x z = 0
  ·obtain ⟨e1, e2⟩ := cmpB_between p1 p2 h
   simp only [h, ne_eq, not_true, if_false]
   simp only [e1, ne_eq, not_true, if_false] at h1
   simp only [e2, ne_eq, not_true, if_false] at h2
   exact cmpL_trans a b c h1 h2
  ·simp only [h, ne_eq, not_false_iff, if_true]
   exact p3

theorem find_congr {α : Type} {p q : α → Bool} : ∀ {l : List α}, (∀ x ∈ l, p x = q x) → l.find? p = l.find? q
 | [], _ => rfl
 | y :: l, h => by
  rw [List.find?_cons, List.find?_cons, h y (by simp), find_congr (fun x hx => h x (by simp [hx]))]

def cmpF (a b : List (List Int)) : Int :=
 match (List.range (min a.length b.length)).find? (fun j => cmpB (a.getD j []) (b.getD j []) != 0) with
 | some j => cmpB (a.getD j []) (b.getD j [])
 | none => byLength a.length b.length

theorem cmpF_eq : ∀ (a b : List (List Int)), cmpF a b = cmpL a b
 | [], [] => rfl
 | [], y :: b => by
  unfold cmpF cmpL byLength
  simp
 | x :: a, [] => by
  unfold cmpF cmpL byLength
  simp
  omega
 | x :: a, y :: b => by
  have ih := cmpF_eq a b
  unfold cmpL
  have e : min (x :: a).length (y :: b).length = min a.length b.length + 1 := by simp
  unfold cmpF
  rw [e, List.range_succ_eq_map, List.find?_cons]
  by_cases h : cmpB x y = 0
  ·have h1 : (cmpB ((x :: a).getD 0 []) ((y :: b).getD 0 []) != 0) = false := by simpa using h
   rw [h1]
   simp only [h, ne_eq, not_true, if_false]
   rw [List.find?_map]
   rw [← ih]
   unfold cmpF
   have hq : ((fun j => cmpB ((x :: a).getD j []) ((y :: b).getD j []) != 0) ∘ Nat.succ) = (fun j => cmpB (a.getD j []) (b.getD j []) != 0) := by
    funext j
    simp
   rw [hq]
   cases hf : (List.range (min a.length b.length)).find? (fun j => cmpB (a.getD j []) (b.getD j []) != 0) with
   | none =>
    simp only [Option.map_none]
    unfold byLength
    simp
   | some j =>
    simp only [Option.map_some]
    simp
  ·have h1 : (cmpB ((x :: a).getD 0 []) ((y :: b).getD 0 []) != 0) = true := by simpa using h
   rw [h1]
   simp [h]

theorem getD_reverse (a : List (List Int)) (j : Nat) (h : j < a.length) : a.reverse.getD j [] = a.getD (a.length - (j + 1)) [] := by
 rw [List.getD_eq_getElem?_getD, List.getD_eq_getElem?_getD, List.getElem?_reverse h]
 congr 2
 omega

theorem cmpN_eq (a b : List (List Int)) : cmpN a b = cmpL a.reverse b.reverse := by
 rw [← cmpF_eq]
 unfold cmpN cmpF
 rw [List.length_reverse, List.length_reverse]
 have hp : ∀ j, j < min a.length b.length → atEnd a b (j + 1) = cmpB (a.reverse.getD j []) (b.reverse.getD j []) := fun j hj => by
  rw [getD_reverse a j (by omega), getD_reverse b j (by omega)]
  rfl
 have hf : (List.range (min a.length b.length)).find? (fun j => atEnd a b (j + 1) != 0) = (List.range (min a.length b.length)).find? (fun j => cmpB (a.reverse.getD j []) (b.reverse.getD j []) != 0) := find_congr (fun j hj => by
  rw [hp j (by simpa using hj)])
 rw [hf]
 cases hq : (List.range (min a.length b.length)).find? (fun j => cmpB (a.reverse.getD j []) (b.reverse.getD j []) != 0) with
 | none => rfl
 | some j =>
  have := List.mem_of_find?_eq_some hq
  exact hp j (by simpa using this)

theorem cmpN_swap (a b : List (List Int)) : cmpN a b = - cmpN b a := by
 rw [cmpN_eq, cmpN_eq, ← cmpL_swap]
theorem cmpN_trans {a b c : List (List Int)} (h : cmpN a b ≤ 0) (k : cmpN b c ≤ 0) : cmpN a c ≤ 0 := by
 rw [cmpN_eq] at *
 exact cmpL_trans _ _ _ h k
theorem cmpN_self (a : List (List Int)) : cmpN a a = 0 := by
 have := cmpN_swap a a
 omega
theorem cmpN_between {a b c : List (List Int)} (h : cmpN a b ≤ 0) (k : cmpN b c ≤ 0) (e : cmpN a c = 0) : cmpN a b = 0 ∧ cmpN b c = 0 := by
 have e1 := cmpN_swap a c
 have e2 := cmpN_swap a b
 have e3 := cmpN_swap b c
 have h1 : cmpN b a ≤ 0 := cmpN_trans k (by omega)
 have h2 : cmpN c b ≤ 0 := cmpN_trans (by omega : cmpN c a ≤ 0) h
 omega
end Go.Proofs.YthobpbnaklnbiaaGreat

namespace Go.Proofs.YthobpbnaklnbiaaGreat
open Go.RowKit


def inZone (o : List (List Int)) (r : Rec) : Bool := rrOk r && (under r.name o && (decide (r.type ≠ 6) || decide (nameCmp r.name o = 0)))
def follows (a b : Rec) : Bool := decide (rrCmp a b < 0) && ((decide (a.type ≠ 5) && decide (b.type ≠ 5)) || decide (nameCmp a.name b.name ≠ 0))
def goodI (o : List (List Int)) (rs : List Rec) (i : Nat) : Bool := inZone o (rs.getD i recZ) && (decide (i = 0) || follows (rs.getD (i - 1) recZ) (rs.getD i recZ))
def soas (rs : List Rec) : Nat → Nat
 | 0 => 0
 | k + 1 => soas rs k + if (rs.getD k recZ).type = 6 then 1 else 0
def zoneOk (o : List (List Int)) (rs : List Rec) : Bool := decide (nameOk o = true ∧ rs.length ≤ 60 ∧ (∀ i, i < rs.length → goodI o rs i = true) ∧ soas rs rs.length = 1)

theorem soas_le (rs : List Rec) : ∀ k, soas rs k ≤ k
 | 0 => Nat.le_refl _
 | k + 1 => by
  have := soas_le rs k
  unfold soas
  split <;> omega
theorem zoneOk_name {o : List (List Int)} {rs : List Rec} (h : nameOk o = false) : zoneOk o rs = false := decide_eq_false fun h' => by simp [h] at h'
theorem zoneOk_long {o : List (List Int)} {rs : List Rec} (h : 60 < rs.length) : zoneOk o rs = false := decide_eq_false fun h' => by omega
theorem zoneOk_bad {o : List (List Int)} {rs : List Rec} {i : Nat} (hi : i < rs.length) (h : goodI o rs i = false) : zoneOk o rs = false := decide_eq_false fun h' => by
 have := h'.2.2.1 i hi
 rw [h] at this
 cases this
theorem zoneOk_end {o : List (List Int)} {rs : List Rec} (h1 : nameOk o = true) (h2 : rs.length ≤ 60) (h : ∀ i, i < rs.length → goodI o rs i = true) : zoneOk o rs = decide (soas rs rs.length = 1) := by
 unfold zoneOk
 rw [Bool.eq_iff_iff, decide_eq_true_iff, decide_eq_true_iff]
 exact ⟨fun h' => h'.2.2.2, fun h' => ⟨h1, h2, h, h'⟩⟩

def alone (rs : List Rec) (i : Nat) : Prop := (rs.getD i recZ).type = 5 → ∀ k, k < rs.length → k ≠ i → cmpN (rs.getD k recZ).name (rs.getD i recZ).name ≠ 0
structure GoodS (o : List (List Int)) (rs : List Rec) (i : Nat) : Prop where
 ok : rrOk (rs.getD i recZ) = true
 under : endsWith (rs.getD i recZ).name o = true
 next : 0 < i → cmpR (rs.getD (i - 1) recZ) (rs.getD i recZ) < 0
 alone : alone rs i
 soa : (rs.getD i recZ).type = 6 → cmpN (rs.getD i recZ).name o = 0

theorem rrOk_name {r : Rec} (h : rrOk r = true) : nameOk r.name = true := by
 unfold rrOk at h
 simp only [Bool.and_eq_true] at h
 exact h.1
theorem cmpR_name {a b : Rec} (h : cmpR a b < 0) : cmpN a.name b.name ≤ 0 := by
 unfold cmpR at h
 split at h <;> omega
theorem goodI_parts {o : List (List Int)} {rs : List Rec} {i : Nat} (h : goodI o rs i = true) :
  rrOk (rs.getD i recZ) = true ∧ under (rs.getD i recZ).name o = true ∧ ((rs.getD i recZ).type = 6 → nameCmp (rs.getD i recZ).name o = 0) ∧ (0 < i → follows (rs.getD (i - 1) recZ) (rs.getD i recZ) = true) := by
 unfold goodI inZone at h
 simp only [Bool.and_eq_true, Bool.or_eq_true, decide_eq_true_eq] at h
 exact ⟨h.1.1, h.1.2.1, fun e => h.1.2.2.resolve_left (fun q => q e), fun e => h.2.resolve_left (by omega)⟩

theorem sorted_upto {rs : List Rec} (h : ∀ i, 0 < i → i < rs.length → cmpN (rs.getD (i - 1) recZ).name (rs.getD i recZ).name ≤ 0) (i : Nat) : ∀ d, i + d < rs.length → cmpN (rs.getD i recZ).name (rs.getD (i + d) recZ).name ≤ 0
 | 0, _ => by rw [Nat.add_zero, cmpN_self]; omega
 | d + 1, hd => cmpN_trans (sorted_upto h i d (by omega)) (by have := h (i + (d + 1)) (by omega) hd; rwa [show i + (d + 1) - 1 = i + d by omega] at this)
theorem sorted_le {rs : List Rec} (h : ∀ i, 0 < i → i < rs.length → cmpN (rs.getD (i - 1) recZ).name (rs.getD i recZ).name ≤ 0) {i j : Nat} (hij : i ≤ j) (hj : j < rs.length) : cmpN (rs.getD i recZ).name (rs.getD j recZ).name ≤ 0 := by
 have := sorted_upto h i (j - i) (by omega)
 rwa [show i + (j - i) = j by omega] at this

theorem good_iff {o : List (List Int)} {rs : List Rec} (ho : nameOk o = true) : (∀ i, i < rs.length → goodI o rs i = true) ↔ ∀ i, i < rs.length → GoodS o rs i := by
 constructor
 ·intro h
  have hok : ∀ i, i < rs.length → rrOk (rs.getD i recZ) = true := fun i hi => (goodI_parts (h i hi)).1
  have hf : ∀ i, 0 < i → i < rs.length → cmpR (rs.getD (i - 1) recZ) (rs.getD i recZ) < 0 ∧ (((rs.getD (i - 1) recZ).type = 5 ∨ (rs.getD i recZ).type = 5) → cmpN (rs.getD (i - 1) recZ).name (rs.getD i recZ).name ≠ 0) := by
   intro i h0 hi
   have hq := (goodI_parts (h i hi)).2.2.2 h0
   unfold follows at hq
   simp only [Bool.and_eq_true, Bool.or_eq_true, decide_eq_true_eq] at hq
   have h1 := hq.1
   unfold rrCmp at h1
   rw [if_pos ⟨hok _ (by omega), hok _ hi⟩] at h1
   refine ⟨h1, fun e => ?_⟩
   have h2 := hq.2.resolve_left (by omega)
   unfold nameCmp at h2
   rwa [if_pos ⟨rrOk_name (hok _ (by omega)), rrOk_name (hok _ hi)⟩] at h2
  have hs : ∀ i, 0 < i → i < rs.length → cmpN (rs.getD (i - 1) recZ).name (rs.getD i recZ).name ≤ 0 := fun i h0 hi => cmpR_name (hf i h0 hi).1
  intro i hi
  obtain ⟨p1, p2, p3, p4⟩ := goodI_parts (h i hi)
  refine ⟨p1, ?_, fun h0 => (hf i h0 hi).1, ?_, fun e => ?_⟩
  ·unfold Go.Proofs.YthobpbnaklnbiaaGreat.under at p2
   simp only [Bool.and_eq_true] at p2
   exact p2.2.2
  ·intro e5 k hk hne e0
   rcases Nat.lt_or_gt_of_ne hne with hlt | hgt
   ·have := cmpN_between (sorted_le hs (show k ≤ i - 1 by omega) (by omega)) (hs i (by omega) hi) e0
    exact (hf i (by omega) hi).2 (.inr e5) this.2
   ·have e0' : cmpN (rs.getD i recZ).name (rs.getD k recZ).name = 0 := by
     have := cmpN_swap (rs.getD i recZ).name (rs.getD k recZ).name
     omega
    have hs1 := hs (i + 1) (by omega) (by omega)
    have hf1 := hf (i + 1) (by omega) (by omega)
    rw [show i + 1 - 1 = i by omega] at hs1 hf1
    have := cmpN_between hs1 (sorted_le hs (show i + 1 ≤ k by omega) hk) e0'
    exact hf1.2 (.inl e5) this.1
  ·have := p3 e
   unfold nameCmp at this
   rwa [if_pos ⟨rrOk_name p1, ho⟩] at this
 ·intro h i hi
  have g := h i hi
  unfold goodI inZone Go.Proofs.YthobpbnaklnbiaaGreat.under
  rw [g.ok, rrOk_name g.ok, ho, g.under]
  simp only [Bool.true_and, Bool.and_eq_true, Bool.or_eq_true, decide_eq_true_eq]
  refine ⟨?_, ?_⟩
  ·by_cases e : (rs.getD i recZ).type = 6
   ·right
    unfold nameCmp
    rw [if_pos ⟨rrOk_name g.ok, ho⟩]
    exact g.soa e
   ·exact .inl e
  ·by_cases e : i = 0
   ·exact .inl e
   ·right
    have g' := h (i - 1) (by omega)
    unfold follows rrCmp nameCmp
    rw [if_pos ⟨g'.ok, g.ok⟩, if_pos ⟨rrOk_name g'.ok, rrOk_name g.ok⟩]
    simp only [Bool.and_eq_true, Bool.or_eq_true, decide_eq_true_eq]
    refine ⟨g.next (by omega), ?_⟩
    by_cases e1 : (rs.getD (i - 1) recZ).type = 5
    ·right
     have := g'.alone e1 i hi (by omega)
     have hs := cmpN_swap (rs.getD (i - 1) recZ).name (rs.getD i recZ).name
     omega
    ·by_cases e2 : (rs.getD i recZ).type = 5
     ·exact .inr (g.alone e2 (i - 1) (by omega) (by omega))
     ·exact .inl ⟨e1, e2⟩
theorem zoneOk_badS {o : List (List Int)} {rs : List Rec} {i : Nat} (ho : nameOk o = true) (hi : i < rs.length) (h : ¬ GoodS o rs i) : zoneOk o rs = false := decide_eq_false fun h' => h ((good_iff ho).1 h'.2.2.1 i hi)
theorem zoneOk_endS {o : List (List Int)} {rs : List Rec} (h1 : nameOk o = true) (h2 : rs.length ≤ 60) (h : ∀ i, i < rs.length → GoodS o rs i) : zoneOk o rs = decide (soas rs rs.length = 1) := zoneOk_end h1 h2 ((good_iff h1).2 h)
end Go.Proofs.YthobpbnaklnbiaaGreat

namespace Go.Proofs.YthobpbnaklnbiaaGreat
open Go.RowKit

def ShortN (n : List (List Int)) : Prop := n.length ≤ 6 ∧ ∀ k, k < n.length → (n.getD k []).length ≤ 15
def ShortR (r : Rec) : Prop := (r.name.length ≤ 6 ∧ ∀ k, k < r.name.length → (r.name.getD k []).length ≤ 15) ∧ (r.to.length ≤ 6 ∧ ∀ k, k < r.to.length → (r.to.getD k []).length ≤ 15) ∧ r.text.length ≤ 1048576 ∧ r.nums.length ≤ 1048576
theorem short_name {n : List (List Int)} (h : nameOk n = true) : ShortN n := ⟨(nameOk_parts h).1, fun k hk => (labelOk_length ((nameOk_parts h).2 k hk)).2⟩
theorem short_nil : ShortN [] := ⟨by simp, fun k hk => absurd hk (by simp)⟩
end Go.Proofs.YthobpbnaklnbiaaGreat

namespace Go.Proofs.YthobpbnaklnbiaaGreat
open Go.RowKit

theorem short_rec {r : Rec} (h : rrOk r = true) : ShortR r := by
 unfold rrOk dataOk at h
 simp only [Bool.and_eq_true] at h
 obtain ⟨h1, h2, h3, h4, h5, h6, h7⟩ := h
 refine ⟨short_name h1, ?_, ?_, ?_⟩
 ·by_cases e : named r.type = true
  ·rw [if_pos e] at h5
   exact short_name h5
  ·rw [if_neg e] at h5
   have := of_decide_eq_true h5
   rw [List.eq_nil_of_length_eq_zero this]
   exact short_nil
 ·by_cases e : texted r.type = true
  ·rw [if_pos e] at h6
   have := of_decide_eq_true h6
   omega
  ·rw [if_neg e] at h6
   have := of_decide_eq_true h6
   omega
 ·by_cases e : r.type = 6
  ·rw [if_pos e] at h7
   have := (of_decide_eq_true h7).1
   omega
  ·rw [if_neg e] at h7
   have := of_decide_eq_true h7
   omega
theorem zone_short {o : List (List Int)} {rs : List Rec} (h : zoneOk o rs = true) : ShortN o ∧ (∀ i, i < rs.length → ShortR (rs.getD i recZ)) ∧ rs.length ≤ 60 := by
 obtain ⟨h1, h2, h3, _⟩ := of_decide_eq_true h
 exact ⟨short_name h1, fun i hi => short_rec (goodI_parts (h3 i hi)).1, h2⟩
def soaOf (o : List (List Int)) (s : Int) : Rec := ⟨o, 6, 60, 0, o, [], [s, 60]⟩
def zoneNewOf (o : List (List Int)) (s : Int) : (List (List Int) × List Rec) × Bool := if zoneOk o [soaOf o s] = true then ((o, [soaOf o s]), true) else (([], []), false)
end Go.Proofs.YthobpbnaklnbiaaGreat

namespace Go.Proofs.YthobpbnaklnbiaaGreat
open Go.RowKit

def selB (n : List (List Int)) (t : Int) (r : Rec) : Bool := (cmpN r.name n == 0) && ((t == 255) || (r.type == t))
def selK (n : List (List Int)) (t : Int) (rs : List Rec) : Nat → List Rec
 | 0 => []
 | k + 1 => if selB n t (rs.getD k recZ) = true then selK n t rs k ++ [rs.getD k recZ] else selK n t rs k
theorem selK_none {n : List (List Int)} {t : Int} {rs : List Rec} : ∀ {k : Nat}, (∀ j, j < k → selB n t (rs.getD j recZ) = false) → selK n t rs k = []
 | 0, _ => rfl
 | k + 1, h => by
  unfold selK
  rw [h k (by omega), if_neg (by simp)]
  exact selK_none (fun j hj => h j (by omega))
theorem selK_first {n : List (List Int)} {t : Int} {rs : List Rec} {s : Nat} (h1 : selB n t (rs.getD s recZ) = true) (h0 : ∀ j, j < s → selB n t (rs.getD j recZ) = false) : ∀ d, 1 ≤ (selK n t rs (s + 1 + d)).length ∧ (selK n t rs (s + 1 + d)).getD 0 recZ = rs.getD s recZ
 | 0 => by
  rw [Nat.add_zero]
  unfold selK
  rw [if_pos h1, selK_none h0]
  simp
 | d + 1 => by
  obtain ⟨q1, q2⟩ := selK_first h1 h0 d
  have e : selK n t rs (s + 1 + (d + 1)) = if selB n t (rs.getD (s + 1 + d) recZ) = true then selK n t rs (s + 1 + d) ++ [rs.getD (s + 1 + d) recZ] else selK n t rs (s + 1 + d) := rfl
  rw [e]
  by_cases hq : selB n t (rs.getD (s + 1 + d) recZ) = true
  ·rw [if_pos hq]
   refine ⟨by simp, ?_⟩
   rw [List.getD_eq_getElem?_getD, List.getElem?_append_left (by omega), ← List.getD_eq_getElem?_getD]
   exact q2
  ·rw [if_neg hq]
   exact ⟨q1, q2⟩
theorem soas_some {rs : List Rec} : ∀ {k : Nat}, 0 < soas rs k → ∃ s, s < k ∧ (rs.getD s recZ).type = 6 ∧ ∀ j, j < s → (rs.getD j recZ).type ≠ 6
 | 0, h => by simp [soas] at h
 | k + 1, h => by
  by_cases h0 : 0 < soas rs k
  ·obtain ⟨s, h1, h2, h3⟩ := soas_some h0
   exact ⟨s, by omega, h2, h3⟩
  ·unfold soas at h
   split at h
   ·rename_i h6
    refine ⟨k, by omega, h6, fun j hj e => ?_⟩
    have : ∀ i, j < i → i ≤ k → 0 < soas rs i := by
     intro i hi hik
     induction i with
     | zero => omega
     | succ i ih =>
      unfold soas
      by_cases e2 : j = i
      ·subst e2
       rw [if_pos e]
       omega
      ·have := ih (by omega) (by omega)
       split <;> omega
    have := this k hj (Nat.le_refl _)
    omega
   ·omega
theorem zone_soa {o : List (List Int)} {rs : List Rec} (h : zoneOk o rs = true) : ∃ s, s < rs.length ∧ (rs.getD s recZ).type = 6 ∧ (∀ j, j < s → (rs.getD j recZ).type ≠ 6) ∧ 1 ≤ (selK o 6 rs rs.length).length ∧ (selK o 6 rs rs.length).getD 0 recZ = rs.getD s recZ ∧ (rs.getD s recZ).nums.length = 2 := by
 have h' := of_decide_eq_true h
 obtain ⟨ho, h60, hg, h1⟩ := h'
 have hS := (good_iff ho).1 hg
 obtain ⟨s, hs, h6, hb⟩ := soas_some (rs := rs) (k := rs.length) (by omega)
 have q1 : selB o 6 (rs.getD s recZ) = true := by
  unfold selB
  rw [(hS s hs).soa h6, h6]
  rfl
 have q0 : ∀ j, j < s → selB o 6 (rs.getD j recZ) = false := fun j hj => by
  unfold selB
  have : ((rs.getD j recZ).type == (6 : Int)) = false := by
   rw [beq_eq_false_iff_ne]
   exact hb j hj
  rw [this]
  simp
 have hf := selK_first q1 q0 (rs.length - (s + 1))
 rw [show s + 1 + (rs.length - (s + 1)) = rs.length by omega] at hf
 refine ⟨s, hs, h6, hb, hf.1, hf.2, ?_⟩
 have hok := (hS s hs).ok
 unfold rrOk dataOk at hok
 simp only [Bool.and_eq_true, h6, if_true] at hok
 have := of_decide_eq_true hok.2.2.2.2.2.2
 exact this.1

def RowS (B : Nat) (e : TypeId) (W w : World) (v : Value) (rs : List Rec) : Prop :=
 ∃ xs, w.ownsRow B e 7 v rs.length xs ∧ ∀ i, i < rs.length → ∃ vn vt vx vi, (∀ j u, (cellsR vn vt vx vi (rs.getD i recZ))[j]? = some u → xs[i * 7 + j]? = some u) ∧ HasR W vn vt vx vi (rs.getD i recZ)
theorem RowS.nil (B : Nat) (e : TypeId) (W w : World) : RowS B e W w (.slice none 0 0) [] := ⟨[], World.ownsRow_nil _ _ _ _, fun i hi => absurd hi (by simp)⟩
theorem RowS.snoc {B : Nat} {e : TypeId} {W w' : World} {v' : Value} {rs : List Rec} {xs : List Value} {r : Rec} {vn vt vx vi : Value} (hl : xs.length = rs.length * 7)
  (hx : ∀ i, i < rs.length → ∃ vn vt vx vi, (∀ j u, (cellsR vn vt vx vi (rs.getD i recZ))[j]? = some u → xs[i * 7 + j]? = some u) ∧ HasR W vn vt vx vi (rs.getD i recZ))
  (ho : w'.ownsRow B e 7 v' (rs.length + 1) (xs ++ cellsR vn vt vx vi r)) (hr : HasR W vn vt vx vi r) : RowS B e W w' v' (rs ++ [r]) := by
 refine ⟨xs ++ cellsR vn vt vx vi r, by rw [List.length_append]; exact ho, fun i hi => ?_⟩
 rw [List.length_append] at hi
 simp only [List.length_cons, List.length_nil] at hi
 by_cases h : i < rs.length
 ·obtain ⟨un, ut, ux, ui, q1, q2⟩ := hx i h
  have e1 : (rs ++ [r]).getD i recZ = rs.getD i recZ := by rw [List.getD_eq_getElem?_getD, List.getElem?_append_left h, ← List.getD_eq_getElem?_getD]
  rw [e1]
  refine ⟨un, ut, ux, ui, fun j u hj => ?_, q2⟩
  have hj7 : j < 7 := by
   have := (List.getElem?_eq_some_iff.1 hj).1
   simpa [cellsR] using this
  rw [List.getElem?_append_left (by omega)]
  exact q1 j u hj
 ·obtain rfl : i = rs.length := by omega
  have e1 : (rs ++ [r]).getD rs.length recZ = r := by rw [List.getD_eq_getElem?_getD]; simp
  rw [e1]
  refine ⟨vn, vt, vx, vi, fun j u hj => ?_, hr⟩
  rw [List.getElem?_append_right (by omega), hl, Nat.add_sub_cancel_left]
  exact hj
theorem RowS.has {B : Nat} {e : TypeId} {W w : World} {v : Value} {rs : List Rec} (h : RowS B e W w v rs) (hb : Below W.heap.size W w) : HasRs w v rs := by
 obtain ⟨xs, ho, hx⟩ := h
 have ho' := ho
 rcases ho.2 with ⟨rfl, hn⟩ | ⟨g, cap, cur, rfl, hB, hg, hn, hm, hs, ht⟩
 ·exact .inl ⟨rfl, List.eq_nil_of_length_eq_zero hn⟩
 ·refine .inr ⟨g, 0, cap, rfl, VC hg, hn, hm, fun i hi => ?_⟩
  obtain ⟨vn, vt, vx, vi, q1, q2⟩ := hx i hi
  refine ⟨vn, vt, vx, vi, fun j u hj => ?_, q2.below hb⟩
  have hj7 : j < 7 := by
   have := (List.getElem?_eq_some_iff.1 hj).1
   simpa [cellsR] using this
  rw [Nat.zero_add, World.ownsRow.cellAt ho' (i * 7 + j) (by omega)]
  exact q1 j u hj
def serialOf (o : List (List Int)) (rs : List Rec) : Int := if zoneOk o rs = true then ((selK o 6 rs rs.length).getD 0 recZ).nums.getD 0 0 else 0

end Go.Proofs.YthobpbnaklnbiaaGreat

namespace Go.Proofs.YthobpbnaklnbiaaGreat
open Go.RowKit
set_option linter.unusedVariables false

theorem zone_oks {o : List (List Int)} {rs : List Rec} (h : zoneOk o rs = true) : ∀ i, i < rs.length → rrOk (rs.getD i recZ) = true := fun i hi => (goodI_parts ((of_decide_eq_true h).2.2.1 i hi)).1
def hasAny (rs : List Rec) (n : List (List Int)) : Bool := rs.any (fun r => under r.name n)
def hasNameOf (o : List (List Int)) (rs : List Rec) (n : List (List Int)) : Bool := zoneOk o rs && (nameOk n && hasAny rs n)
theorem fold_has {n : List (List Int)} : ∀ {rs : List Rec} {B : Bk}, Named B → (∀ r ∈ rs, nameOk r.name = true) → ∀ f : Rec → ByteArray, hasB n (rs.foldl (fun B r => bkPut (strOfNums (keyN r.name)) (f r) r B) B) = (hasB n B || hasAny rs n)
 | [], B, _, _, f => by simp [hasAny]
 | r :: t, B, hB, hr, f => by
  rw [List.foldl_cons, fold_has (named_put hB (hr r (List.mem_cons_self ..)) _) (fun x hx => hr x (List.mem_cons_of_mem _ hx)), hasB_put hB (hr r (List.mem_cons_self ..))]
  simp [hasAny, Bool.or_assoc]
theorem names_ok {rs : List Rec} (h : ∀ i, i < rs.length → rrOk (rs.getD i recZ) = true) : ∀ r ∈ rs, nameOk r.name = true := by
 intro r hr
 obtain ⟨i, hi, rfl⟩ := List.getElem_of_mem hr
 have := h i hi
 simp only [List.getD_eq_getElem?_getD, List.getElem?_eq_getElem hi, Option.getD_some] at this
 exact (rrOk_parts this).1
end Go.Proofs.YthobpbnaklnbiaaGreat

namespace Go.Proofs.YthobpbnaklnbiaaGreat
open Go.RowKit

theorem cmpB_eq {a b : List Int} (ha : ∀ c ∈ a, 0 ≤ c ∧ c ≤ 255) (hb : ∀ c ∈ b, 0 ≤ c ∧ c ≤ 255) : cmpB a b = 0 ↔ a = b := by
 have h1 := str_same a b
 rw [str_eq a b ha hb] at h1
 exact ⟨fun h => of_decide_eq_true (h1.trans (decide_eq_true h)), fun h => by subst h; exact cmpB_self a⟩

def ByteL (n : List (List Int)) : Prop := ∀ l ∈ n, ∀ c ∈ l, 0 ≤ c ∧ c ≤ 255
theorem cmpL_zero : ∀ {a b : List (List Int)}, ByteL a → ByteL b → cmpL a b = 0 → a = b
 | [], [], _, _, _ => rfl
 | [], _ :: _, _, _, h => by
  unfold cmpL at h
  omega
 | _ :: _, [], _, _, h => by
  unfold cmpL at h
  omega
 | x :: a, y :: b, ha, hb, h => by
  unfold cmpL at h
  by_cases e : cmpB x y = 0
  ·simp only [e, ne_eq, not_true, if_false] at h
   rw [(cmpB_eq (ha x (by simp)) (hb y (by simp))).1 e, cmpL_zero (fun l hl => ha l (by simp [hl])) (fun l hl => hb l (by simp [hl])) h]
  ·simp only [e, ne_eq, not_false_iff, if_true] at h
theorem cmpN_zero {a b : List (List Int)} (ha : ByteL a) (hb : ByteL b) : cmpN a b = 0 ↔ a = b := by
 refine ⟨fun h => ?_, fun h => by subst h; exact cmpN_self a⟩
 rw [cmpN_eq] at h
 have := cmpL_zero (fun l hl => ha l (by simpa using hl)) (fun l hl => hb l (by simpa using hl)) h
 simpa using congrArg List.reverse this
theorem labelOk_bytes {l : List Int} (h : labelOk l = true) : ∀ c ∈ l, 0 ≤ c ∧ c ≤ 255 := by
 intro c hc
 obtain ⟨j, hj, rfl⟩ := List.getElem_of_mem hc
 have h' := of_decide_eq_true h
 have := h'.2.2 j hj
 rw [List.getD_eq_getElem?_getD, List.getElem?_eq_getElem hj, Option.getD_some] at this
 have := of_decide_eq_true this
 omega
theorem nameOk_bytes {n : List (List Int)} (h : nameOk n = true) : ByteL n := by
 intro l hl
 obtain ⟨j, hj, rfl⟩ := List.getElem_of_mem hl
 have := (nameOk_parts h).2 j hj
 rw [List.getD_eq_getElem?_getD, List.getElem?_eq_getElem hj, Option.getD_some] at this
 exact labelOk_bytes this

theorem endsWith_iff {n z : List (List Int)} (hn : ByteL n) (hz : ByteL z) : endsWith n z = true ↔ ∃ p, n = p ++ z := by
 constructor
 ·intro h
  unfold endsWith at h
  simp only [Bool.and_eq_true, decide_eq_true_eq, beq_iff_eq] at h
  have := (cmpN_zero (fun l hl => hn l (List.mem_of_mem_drop hl)) hz).1 h.2
  refine ⟨n.take (n.length - z.length), ?_⟩
  conv => lhs; rw [← List.take_append_drop (n.length - z.length) n]
  rw [this]
 ·rintro ⟨p, rfl⟩
  unfold endsWith
  have : (p ++ z).drop ((p ++ z).length - z.length) = z := by simp
  rw [this, cmpN_self]
  simp
theorem under_iff {n z : List (List Int)} (hn : nameOk n = true) (hz : nameOk z = true) : under n z = true ↔ ∃ p, n = p ++ z := by
 unfold under
 rw [hn, hz, Bool.true_and, Bool.true_and]
 exact endsWith_iff (nameOk_bytes hn) (nameOk_bytes hz)
end Go.Proofs.YthobpbnaklnbiaaGreat

namespace Go.Proofs.YthobpbnaklnbiaaGreat
open Go.RowKit

def keyD (r : Rec) : List Int := [] ++ [r.type / 256, r.type % 256] ++ dataB r
end Go.Proofs.YthobpbnaklnbiaaGreat
