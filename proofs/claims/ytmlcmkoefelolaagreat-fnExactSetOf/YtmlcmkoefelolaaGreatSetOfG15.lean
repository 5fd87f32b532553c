/-
  Plain facts: a record's data as bytes. No program is named here. Plain facts: the order of records. No program is named here. Plain facts: the order of names is one. No program is named here.
-/
import Derived.Test.YtmlcmkoefelolaaGreatSetOfG14
import Derived.Test.YtmlcmkoefelolaaGreatSetOfG12
namespace Go.Proofs.YtmlcmkoefelolaaGreat
open Go.RowKit

/-- The data, as bytes. -/
def dataB (r : Rec) : List Int :=
 if r.type = 1 then put32 [] r.addr else if r.type = 6 then put32 (put32 (wire r.to) (r.nums.getD 0 0)) (r.nums.getD 1 0) else if named r.type = true then wire r.to else (r.text.length : Int) :: r.text

/-- What the data of a record that may be are: of its four kinds one. -/
theorem data_kinds {r : Rec} (ht : typeOk r.type = true) (h : dataOk r = true) :
  (r.type = 1 ∧ 0 ≤ r.addr ∧ r.addr ≤ 4294967295 ∧ dataB r = put32 [] r.addr) ∨ ((r.type = 2 ∨ r.type = 5 ∨ r.type = 12) ∧ nameOk r.to = true ∧ dataB r = wire r.to) ∨
  (r.type = 6 ∧ nameOk r.to = true ∧ (∃ x y, r.nums = [x, y] ∧ 0 ≤ x ∧ x ≤ 4294967295 ∧ 0 ≤ y ∧ y ≤ 100000 ∧ dataB r = put32 (put32 (wire r.to) x) y)) ∨ ((r.type = 16 ∨ r.type = 49) ∧ r.text.length ≤ 40 ∧ dataB r = (r.text.length : Int) :: r.text) := by
 have ht' : r.type = 1 ∨ r.type = 2 ∨ r.type = 5 ∨ r.type = 6 ∨ r.type = 12 ∨ r.type = 16 ∨ r.type = 49 := of_decide_eq_true ht
 unfold dataOk at h
 simp only [Bool.and_eq_true] at h
 obtain ⟨h1, h2, h3, h4⟩ := h
 by_cases e1 : r.type = 1
 ·left
  rw [if_pos e1] at h1
  have := of_decide_eq_true h1
  exact ⟨e1, this.1, this.2, by unfold dataB; rw [if_pos e1]⟩
 by_cases e6 : r.type = 6
 ·right; right; left
  have hn : named r.type = true := decide_eq_true (by omega)
  rw [if_pos hn] at h2
  rw [if_pos e6] at h4
  have h5 := of_decide_eq_true h4
  obtain ⟨x, y, hxy⟩ := two_of h5.1
  rw [hxy] at h5
  refine ⟨e6, h2, x, y, hxy, h5.2.1, h5.2.2.1, h5.2.2.2.1, h5.2.2.2.2, ?_⟩
  unfold dataB
  rw [if_neg e1, if_pos e6, hxy]
  rfl
 by_cases en : r.type = 2 ∨ r.type = 5 ∨ r.type = 12
 ·right; left
  have hn : named r.type = true := decide_eq_true (by omega)
  rw [if_pos hn] at h2
  exact ⟨en, h2, by unfold dataB; rw [if_neg e1, if_neg e6, if_pos hn]⟩
 ·right; right; right
  have hx : texted r.type = true := decide_eq_true (by omega)
  have hn : ¬ named r.type = true := by
   intro hh
   have : r.type = 2 ∨ r.type = 5 ∨ r.type = 6 ∨ r.type = 12 := of_decide_eq_true hh
   omega
  rw [if_pos hx] at h3
  exact ⟨by omega, of_decide_eq_true h3, by unfold dataB; rw [if_neg e1, if_neg e6, if_neg hn]⟩
theorem rrOk_parts {r : Rec} (h : rrOk r = true) : nameOk r.name = true ∧ typeOk r.type = true ∧ 0 ≤ r.ttl ∧ r.ttl ≤ 100000 ∧ dataOk r = true := by
 unfold rrOk at h
 simp only [Bool.and_eq_true] at h
 have := of_decide_eq_true h.2.2.1
 exact ⟨h.1, h.2.1, this.1, this.2, h.2.2.2⟩
theorem dataB_length {r : Rec} (h : rrOk r = true) : (dataB r).length ≤ 105 := by
 obtain ⟨_, ht, _, _, hd⟩ := rrOk_parts h
 rcases data_kinds ht hd with ⟨_, _, _, e⟩ | ⟨_, hn, e⟩ | ⟨_, hn, x, y, _, _, _, _, _, e⟩ | ⟨_, hx, e⟩
 ·rw [e]; have := put32_length [] r.addr; simp at this; omega
 ·rw [e]; have := wire_length r.to hn; omega
 ·rw [e]
  have h1 := wire_length r.to hn
  have h2 := put32_length (wire r.to) x
  have h3 := put32_length (put32 (wire r.to) x) y
  omega
 ·rw [e]; simp; omega
end Go.Proofs.YtmlcmkoefelolaaGreat

namespace Go.Proofs.YtmlcmkoefelolaaGreat
open Go.RowKit

/-- By name, type, data. -/
def cmpR (a b : Rec) : Int := if cmpN a.name b.name ≠ 0 then cmpN a.name b.name else if byLength a.type b.type ≠ 0 then byLength a.type b.type else cmpB (dataB a) (dataB b)
def rrCmp (a b : Rec) : Int := if rrOk a = true ∧ rrOk b = true then cmpR a b else 0
theorem byLength_zero {x y : Int} (h : byLength x y = 0) : x = y := by
 unfold byLength at h
 split at h
 ·omega
 ·split at h
  ·omega
  ·omega
end Go.Proofs.YtmlcmkoefelolaaGreat

namespace Go.Proofs.YtmlcmkoefelolaaGreat
open Go.RowKit

theorem compare_swap : ∀ (a b : List UInt8), Lib.compareBytes a b = - Lib.compareBytes b a
 | [], [] => rfl
 | [], _ :: _ => rfl
 | _ :: _, [] => rfl
 | x :: a, y :: b => by
  have ih := compare_swap a b
  unfold Lib.compareBytes
  by_cases h1 : x < y
  ·have h2 : ¬ y < x := fun h => UInt8.lt_irrefl x (UInt8.lt_trans h1 h)
   simp [h1, h2]
  ·by_cases h2 : y < x
   ·simp [h1, h2]
   ·simp only [h1, h2, if_false]
    exact ih

theorem compare_trans : ∀ (a b c : List UInt8), Lib.compareBytes a b ≤ 0 → Lib.compareBytes b c ≤ 0 → Lib.compareBytes a c ≤ 0
 | [], _, [], _, _ => by decide
 | [], _, _ :: _, _, _ => by
  unfold Lib.compareBytes
  omega
 | _ :: _, [], _, h, _ => by
  unfold Lib.compareBytes at h
  omega
 | _ :: _, _ :: _, [], _, h => by
  unfold Lib.compareBytes at h
  omega
 | x :: a, y :: b, z :: c, h1, h2 => by
  unfold Lib.compareBytes at h1 h2 ⊢
  by_cases hxz : x < z
  ·simp [hxz]
  ·simp only [hxz, if_false]
   by_cases hxy : x < y
   ·by_cases hyz : y < z
    ·exact absurd (UInt8.lt_trans hxy hyz) hxz
    ·simp only [hyz, if_false] at h2
     by_cases hzy : z < y
     ·simp [hzy] at h2
     ·have e : y = z := UInt8.le_antisymm (UInt8.not_lt.1 hzy) (UInt8.not_lt.1 hyz)
      subst e
      exact absurd hxy hxz
   ·simp only [hxy, if_false] at h1
    by_cases hyx : y < x
    ·simp [hyx] at h1
    ·have e : x = y := UInt8.le_antisymm (UInt8.not_lt.1 hyx) (UInt8.not_lt.1 hxy)
     subst e
     simp only [hyx, if_false] at h1
     simp only [hxz, if_false] at h2
     by_cases hzx : z < x
     ·simp [hzx] at h2
     ·simp only [hzx, if_false] at h2 ⊢
      exact compare_trans a b c h1 h2

theorem cmpB_swap (a b : List Int) : cmpB a b = - cmpB b a := compare_swap _ _
theorem cmpB_trans {a b c : List Int} (h : cmpB a b ≤ 0) (k : cmpB b c ≤ 0) : cmpB a c ≤ 0 := compare_trans _ _ _ h k
theorem cmpB_between {a b c : List Int} (h : cmpB a b ≤ 0) (k : cmpB b c ≤ 0) (e : cmpB a c = 0) : cmpB a b = 0 ∧ cmpB b c = 0 := by
 have e1 := cmpB_swap a c
 have e2 := cmpB_swap a b
 have e3 := cmpB_swap b c
 have h1 : cmpB b a ≤ 0 := cmpB_trans k (by omega)
 have h2 : cmpB c b ≤ 0 := cmpB_trans (by omega : cmpB c a ≤ 0) h
 omega
theorem cmpB_self (a : List Int) : cmpB a a = 0 := by
 have := cmpB_swap a a
 omega
/-- Lists of texts held against each other from the first on. -/
def cmpL : List (List Int) → List (List Int) → Int
 | [], [] => 0
 | [], _ :: _ => -1
 | _ :: _, [] => 1
 | x :: a, y :: b => if cmpB x y ≠ 0 then cmpB x y else cmpL a b

theorem cmpL_swap : ∀ (a b : List (List Int)), cmpL a b = - cmpL b a
 | [], [] => rfl
 | [], _ :: _ => rfl
 | _ :: _, [] => rfl
 | x :: a, y :: b => by
  have ih := cmpL_swap a b
  have hs := cmpB_swap x y
  unfold cmpL
  by_cases h : cmpB x y = 0
  ·have h' : cmpB y x = 0 := by omega
   simp only [h, h', ne_eq, not_true, if_false]
   exact ih
  ·have h' : ¬ cmpB y x = 0 := by omega
   simp only [h, h', ne_eq, not_false_iff, if_true]
   exact hs
theorem cmpL_trans : ∀ (a b c : List (List Int)), cmpL a b ≤ 0 → cmpL b c ≤ 0 → cmpL a c ≤ 0
 | [], _, [], _, _ => by decide
 | [], _, _ :: _, _, _ => by
  unfold cmpL
  omega
 | _ :: _, [], _, h, _ => by
  unfold cmpL at h
  omega
 | _ :: _, _ :: _, [], _, h => by
  unfold cmpL at h
  omega
 | x :: a, y :: b, z :: c, h1, h2 => by
  unfold cmpL at h1 h2 ⊢
  have p1 : cmpB x y ≤ 0 := by
   by_cases h : cmpB x y = 0
   ·omega
   ·simpa [h] using h1
  have p2 : cmpB y z ≤ 0 := by
   by_cases h : cmpB y z = 0
   ·omega
   ·simpa [h] using h2
  have p3 := cmpB_trans p1 p2
  by_cases h : cmpB x z = 0
  ·obtain ⟨e1, e2⟩ := cmpB_between p1 p2 h
   simp only [h, ne_eq, not_true, if_false]
   simp only [e1, ne_eq, not_true, if_false] at h1
   simp only [e2, ne_eq, not_true, if_false] at h2
   exact cmpL_trans a b c h1 h2
  ·simp only [h, ne_eq, not_false_iff, if_true]
   exact p3

theorem find_congr {α : Type} {p q : α → Bool} : ∀ {l : List α}, (∀ x ∈ l, p x = q x) → l.find? p = l.find? q
 | [], _ => rfl
 | y :: l, h => by
  rw [List.find?_cons, List.find?_cons, h y (by simp), find_congr (fun x hx => h x (by simp [hx]))]

/-- As cmpN, but from the first label on. -/
def cmpF (a b : List (List Int)) : Int :=
 match (List.range (min a.length b.length)).find? (fun j => cmpB (a.getD j []) (b.getD j []) != 0) with
 | some j => cmpB (a.getD j []) (b.getD j [])
 | none => byLength a.length b.length

theorem cmpF_eq : ∀ (a b : List (List Int)), cmpF a b = cmpL a b
 | [], [] => rfl
 | [], y :: b => by
  unfold cmpF cmpL byLength
  simp
 | x :: a, [] => by
  unfold cmpF cmpL byLength
  simp
  omega
 | x :: a, y :: b => by
  have ih := cmpF_eq a b
  unfold cmpL
  have e : min (x :: a).length (y :: b).length = min a.length b.length + 1 := by simp
  unfold cmpF
  rw [e, List.range_succ_eq_map, List.find?_cons]
  by_cases h : cmpB x y = 0
  ·have h1 : (cmpB ((x :: a).getD 0 []) ((y :: b).getD 0 []) != 0) = false := by simpa using h
   rw [h1]
   simp only [h, ne_eq, not_true, if_false]
   rw [List.find?_map]
   rw [← ih]
   unfold cmpF
   have hq : ((fun j => cmpB ((x :: a).getD j []) ((y :: b).getD j []) != 0) ∘ Nat.succ) = (fun j => cmpB (a.getD j []) (b.getD j []) != 0) := by
    funext j
    simp
   rw [hq]
   cases hf : (List.range (min a.length b.length)).find? (fun j => cmpB (a.getD j []) (b.getD j []) != 0) with
   | none =>
    simp only [Option.map_none]
    unfold byLength
    simp
   | some j =>
    simp only [Option.map_some]
    simp
  ·have h1 : (cmpB ((x :: a).getD 0 []) ((y :: b).getD 0 []) != 0) = true := by simpa using h
   rw [h1]
   simp [h]

theorem getD_reverse (a : List (List Int)) (j : Nat) (h : j < a.length) : a.reverse.getD j [] = a.getD (a.length - (j + 1)) [] := by
 rw [List.getD_eq_getElem?_getD, List.getD_eq_getElem?_getD, List.getElem?_reverse h]
 congr 2
 omega

theorem cmpN_eq (a b : List (List Int)) : cmpN a b = cmpL a.reverse b.reverse := by
 rw [← cmpF_eq]
 unfold cmpN cmpF
 rw [List.length_reverse, List.length_reverse]
 have hp : ∀ j, j < min a.length b.length → atEnd a b (j + 1) = cmpB (a.reverse.getD j []) (b.reverse.getD j []) := fun j hj => by
  rw [getD_reverse a j (by omega), getD_reverse b j (by omega)]
  rfl
 have hf : (List.range (min a.length b.length)).find? (fun j => atEnd a b (j + 1) != 0) = (List.range (min a.length b.length)).find? (fun j => cmpB (a.reverse.getD j []) (b.reverse.getD j []) != 0) := find_congr (fun j hj => by
  rw [hp j (by simpa using hj)])
 rw [hf]
 cases hq : (List.range (min a.length b.length)).find? (fun j => cmpB (a.reverse.getD j []) (b.reverse.getD j []) != 0) with
 | none => rfl
 | some j =>
  have := List.mem_of_find?_eq_some hq
  exact hp j (by simpa using this)

theorem cmpN_swap (a b : List (List Int)) : cmpN a b = - cmpN b a := by
 rw [cmpN_eq, cmpN_eq, ← cmpL_swap]
theorem cmpN_trans {a b c : List (List Int)} (h : cmpN a b ≤ 0) (k : cmpN b c ≤ 0) : cmpN a c ≤ 0 := by
 rw [cmpN_eq] at *
 exact cmpL_trans _ _ _ h k
theorem cmpN_self (a : List (List Int)) : cmpN a a = 0 := by
 have := cmpN_swap a a
 omega
theorem cmpN_between {a b c : List (List Int)} (h : cmpN a b ≤ 0) (k : cmpN b c ≤ 0) (e : cmpN a c = 0) : cmpN a b = 0 ∧ cmpN b c = 0 := by
 have e1 := cmpN_swap a c
 have e2 := cmpN_swap a b
 have e3 := cmpN_swap b c
 have h1 : cmpN b a ≤ 0 := cmpN_trans k (by omega)
 have h2 : cmpN c b ≤ 0 := cmpN_trans (by omega : cmpN c a ≤ 0) h
 omega
end Go.Proofs.YtmlcmkoefelolaaGreat
