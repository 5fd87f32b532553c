/-
  Plain facts: the order of names is one. No program is named here. Plain facts: which records may be a zone's, said by neighbours and said by all. No program is named here. Contracts of the program's upTo.
-/
import Derived.Test.YtfgcmjpkgdjcfaaGreatHouseNewG19
import Derived.Test.YtfgcmjpkgdjcfaaGreatHouseNewG11
import Derived.Test.YtfgcmjpkgdjcfaaGreatHouseNewG02
namespace Go.Proofs.YtfgcmjpkgdjcfaaGreat
open Go.RowKit

theorem compare_swap : ∀ (a b : List UInt8), Lib.compareBytes a b = - Lib.compareBytes b a
 | [], [] => rfl
 | [], _ :: _ => rfl
 | _ :: _, [] => rfl
 | x :: a, y :: b => by
  have ih := compare_swap a b
  unfold Lib.compareBytes
  by_cases h1 : x < y
  ·have h2 : ¬ y < x := fun h => UInt8.lt_irrefl x (UInt8.lt_trans h1 h)
   simp [h1, h2]
  ·by_cases h2 : y < x
   ·simp [h1, h2]
   ·simp only [h1, h2, if_false]
    exact ih

theorem compare_trans : ∀ (a b c : List UInt8), Lib.compareBytes a b ≤ 0 → Lib.compareBytes b c ≤ 0 → Lib.compareBytes a c ≤ 0
 | [], _, [], _, _ => by decide
 | [], _, _ :: _, _, _ => by
  unfold Lib.compareBytes
  omega
 | _ :: _, [], _, h, _ => by
  unfold Lib.compareBytes at h
  omega
 | _ :: _, _ :: _, [], _, h => by
  unfold Lib.compareBytes at h
  omega
 | x :: a, y :: b, z :: c, h1, h2 => by
  unfold Lib.compareBytes at h1 h2 ⊢
  by_cases hxz : x < z
  ·simp [hxz]
  ·simp only [hxz, if_false]
   by_cases hxy : x < y
   ·by_cases hyz : y < z
    ·exact absurd (UInt8.lt_trans hxy hyz) hxz
    ·simp only [hyz, if_false] at h2
     by_cases hzy : z < y
     ·simp [hzy] at h2
     ·have e : y = z := UInt8.le_antisymm (UInt8.not_lt.1 hzy) (UInt8.not_lt.1 hyz)
      subst e
      exact absurd hxy hxz
   ·simp only [hxy, if_false] at h1
    by_cases hyx : y < x
    ·simp [hyx] at h1
    ·have e : x = y := UInt8.le_antisymm (UInt8.not_lt.1 hyx) (UInt8.not_lt.1 hxy)
     subst e
     simp only [hyx, if_false] at h1
     simp only [hxz, if_false] at h2
     by_cases hzx : z < x
     ·simp [hzx] at h2
     ·simp only [hzx, if_false] at h2 ⊢
      exact compare_trans a b c h1 h2

theorem cmpB_swap (a b : List Int) : cmpB a b = - cmpB b a := compare_swap _ _
theorem cmpB_trans {a b c : List Int} (h : cmpB a b ≤ 0) (k : cmpB b c ≤ 0) : cmpB a c ≤ 0 := compare_trans _ _ _ h k
theorem cmpB_between {a b c : List Int} (h : cmpB a b ≤ 0) (k : cmpB b c ≤ 0) (e : cmpB a c = 0) : cmpB a b = 0 ∧ cmpB b c = 0 := by
 have e1 := cmpB_swap a c
 have e2 := cmpB_swap a b
 have e3 := cmpB_swap b c
 have h1 : cmpB b a ≤ 0 := cmpB_trans k (by omega)
 have h2 : cmpB c b ≤ 0 := cmpB_trans (by omega : cmpB c a ≤ 0) h
 omega
/-- Lists of texts held against each other from the first on. -/
def cmpL : List (List Int) → List (List Int) → Int
 | [], [] => 0
 | [], _ :: _ => -1
 | _ :: _, [] => 1
 | x :: a, y :: b => if cmpB x y ≠ 0 then cmpB x y else cmpL a b

theorem cmpL_swap : ∀ (a b : List (List Int)), cmpL a b = - cmpL b a
 | [], [] => rfl
 | [], _ :: _ => rfl
 | _ :: _, [] => rfl
 | x :: a, y :: b => by
  have ih := cmpL_swap a b
  have hs := cmpB_swap x y
  unfold cmpL
  by_cases h : cmpB x y = 0
  ·have h' : cmpB y x = 0 := by omega
   simp only [h, h', ne_eq, not_true, if_false]
   exact ih
  ·have h' : ¬ cmpB y x = 0 := by omega
   simp only [h, h', ne_eq, not_false_iff, if_true]
   exact hs
theorem cmpL_trans : ∀ (a b c : List (List Int)), cmpL a b ≤ 0 → cmpL b c ≤ 0 → cmpL a c ≤ 0
 | [], _, [], _, _ => by decide
 | [], _, _ :: _, _, _ => by
  unfold cmpL
  omega
 | _ :: _, [], _, h, _ => by
  unfold cmpL at h
  omega
 | _ :: _, _ :: _, [], _, h => by
  unfold cmpL at h
  omega
 | x :: a, y :: b, z :: c, h1, h2 => by
  unfold cmpL at h1 h2 ⊢
  have p1 : cmpB x y ≤ 0 := by
   by_cases h : cmpB x y = 0
   ·omega
   ·simpa [h] using h1
  have p2 : cmpB y z ≤ 0 := by
   by_cases h : cmpB y z = 0
   ·omega
   ·simpa [h] using h2
  have p3 := cmpB_trans p1 p2
  by_cases h : cmpB x z = 0
  ·obtain ⟨e1, e2⟩ := cmpB_between p1 p2 h
   simp only [h, ne_eq, not_true, if_false]
   simp only [e1, ne_eq, not_true, if_false] at h1
   simp only [e2, ne_eq, not_true, if_false] at h2
   exact cmpL_trans a b c h1 h2
  ·simp only [h, ne_eq, not_false_iff, if_true]
   exact p3

theorem find_congr {α : Type} {p q : α → Bool} : ∀ {l : List α}, (∀ x ∈ l, p x = q x) → l.find? p = l.find? q
 | [], _ => rfl
 | y :: l, h => by
  rw [List.find?_cons, List.find?_cons, h y (by simp), find_congr (fun x hx => h x (by simp [hx]))]

/-- As cmpN, but from the first label on. -/
def cmpF (a b : List (List Int)) : Int :=
 match (List.range (min a.length b.length)).find? (fun j => cmpB (a.getD j []) (b.getD j []) != 0) with
 | some j => cmpB (a.getD j []) (b.getD j [])
 | none => byLength a.length b.length

theorem cmpF_eq : ∀ (a b : List (List Int)), cmpF a b = cmpL a b
 | [], [] => rfl
 | [], y :: b => by
  unfold cmpF cmpL byLength
  simp
 | x :: a, [] => by
  unfold cmpF cmpL byLength
  simp
  omega
 | x :: a, y :: b => by
  have ih := cmpF_eq a b
  unfold cmpL
  have e : min (x :: a).length (y :: b).length = min a.length b.length + 1 := by simp
  unfold cmpF
  rw [e, List.range_succ_eq_map, List.find?_cons]
  by_cases h : cmpB x y = 0
  ·have h1 : (cmpB ((x :: a).getD 0 []) ((y :: b).getD 0 []) != 0) = false := by simpa using h
   rw [h1]
   simp only [h, ne_eq, not_true, if_false]
   rw [List.find?_map]
   rw [← ih]
   unfold cmpF
   have hq : ((fun j => cmpB ((x :: a).getD j []) ((y :: b).getD j []) != 0) ∘ Nat.succ) = (fun j => cmpB (a.getD j []) (b.getD j []) != 0) := by
    funext j
    simp
   rw [hq]
   cases hf : (List.range (min a.length b.length)).find? (fun j => cmpB (a.getD j []) (b.getD j []) != 0) with
   | none =>
    simp only [Option.map_none]
    unfold byLength
    simp
   | some j =>
    simp only [Option.map_some]
    simp
  ·have h1 : (cmpB ((x :: a).getD 0 []) ((y :: b).getD 0 []) != 0) = true := by simpa using h
   rw [h1]
   simp [h]

theorem getD_reverse (a : List (List Int)) (j : Nat) (h : j < a.length) : a.reverse.getD j [] = a.getD (a.length - (j + 1)) [] := by
 rw [List.getD_eq_getElem?_getD, List.getD_eq_getElem?_getD, List.getElem?_reverse h]
 congr 2
 omega

theorem cmpN_eq (a b : List (List Int)) : cmpN a b = cmpL a.reverse b.reverse := by
 rw [← cmpF_eq]
 unfold cmpN cmpF
 rw [List.length_reverse, List.length_reverse]
 have hp : ∀ j, j < min a.length b.length → atEnd a b (j + 1) = cmpB (a.reverse.getD j []) (b.reverse.getD j []) := fun j hj => by
  rw [getD_reverse a j (by omega), getD_reverse b j (by omega)]
  rfl
 have hf : (List.range (min a.length b.length)).find? (fun j => atEnd a b (j + 1) != 0) = (List.range (min a.length b.length)).find? (fun j => cmpB (a.reverse.getD j []) (b.reverse.getD j []) != 0) := find_congr (fun j hj => by
  rw [hp j (by simpa using hj)])
 rw [hf]
 cases hq : (List.range (min a.length b.length)).find? (fun j => cmpB (a.reverse.getD j []) (b.reverse.getD j []) != 0) with
 | none => rfl
 | some j =>
  have := List.mem_of_find?_eq_some hq
  exact hp j (by simpa using this)

theorem cmpN_swap (a b : List (List Int)) : cmpN a b = - cmpN b a := by
 rw [cmpN_eq, cmpN_eq, ← cmpL_swap]
theorem cmpN_trans {a b c : List (List Int)} (h : cmpN a b ≤ 0) (k : cmpN b c ≤ 0) : cmpN a c ≤ 0 := by
 rw [cmpN_eq] at *
 exact cmpL_trans _ _ _ h k
theorem cmpN_self (a : List (List Int)) : cmpN a a = 0 := by
 have := cmpN_swap a a
 omega
theorem cmpN_between {a b c : List (List Int)} (h : cmpN a b ≤ 0) (k : cmpN b c ≤ 0) (e : cmpN a c = 0) : cmpN a b = 0 ∧ cmpN b c = 0 := by
 have e1 := cmpN_swap a c
 have e2 := cmpN_swap a b
 have e3 := cmpN_swap b c
 have h1 : cmpN b a ≤ 0 := cmpN_trans k (by omega)
 have h2 : cmpN c b ≤ 0 := cmpN_trans (by omega : cmpN c a ≤ 0) h
 omega
end Go.Proofs.YtfgcmjpkgdjcfaaGreat

namespace Go.Proofs.YtfgcmjpkgdjcfaaGreat
open Go.RowKit


/-- May this one be under o. -/
def inZone (o : List (List Int)) (r : Rec) : Bool := rrOk r && (under r.name o && (decide (r.type ≠ 6) || decide (nameCmp r.name o = 0)))
/-- May b come next to a. -/
def follows (a b : Rec) : Bool := decide (rrCmp a b < 0) && ((decide (a.type ≠ 5) && decide (b.type ≠ 5)) || decide (nameCmp a.name b.name ≠ 0))
def goodI (o : List (List Int)) (rs : List Rec) (i : Nat) : Bool := inZone o (rs.getD i recZ) && (decide (i = 0) || follows (rs.getD (i - 1) recZ) (rs.getD i recZ))
/-- How many of the first k are SOA. -/
def soas (rs : List Rec) : Nat → Nat
 | 0 => 0
 | k + 1 => soas rs k + if (rs.getD k recZ).type = 6 then 1 else 0
def zoneOk (o : List (List Int)) (rs : List Rec) : Bool := decide (nameOk o = true ∧ rs.length ≤ 60 ∧ (∀ i, i < rs.length → goodI o rs i = true) ∧ soas rs rs.length = 1)

theorem soas_le (rs : List Rec) : ∀ k, soas rs k ≤ k
 | 0 => Nat.le_refl _
 | k + 1 => by
  have := soas_le rs k
  unfold soas
  split <;> omega
theorem zoneOk_name {o : List (List Int)} {rs : List Rec} (h : nameOk o = false) : zoneOk o rs = false := decide_eq_false fun h' => by simp [h] at h'
theorem zoneOk_long {o : List (List Int)} {rs : List Rec} (h : 60 < rs.length) : zoneOk o rs = false := decide_eq_false fun h' => by omega
theorem zoneOk_bad {o : List (List Int)} {rs : List Rec} {i : Nat} (hi : i < rs.length) (h : goodI o rs i = false) : zoneOk o rs = false := decide_eq_false fun h' => by
 have := h'.2.2.1 i hi
 rw [h] at this
 cases this
theorem zoneOk_end {o : List (List Int)} {rs : List Rec} (h1 : nameOk o = true) (h2 : rs.length ≤ 60) (h : ∀ i, i < rs.length → goodI o rs i = true) : zoneOk o rs = decide (soas rs rs.length = 1) := by
 unfold zoneOk
 rw [Bool.eq_iff_iff, decide_eq_true_iff, decide_eq_true_iff]
 exact ⟨fun h' => h'.2.2.2, fun h' => ⟨h1, h2, h, h'⟩⟩

/-- No other one has its name, if it is an alias. -/
def alone (rs : List Rec) (i : Nat) : Prop := (rs.getD i recZ).type = 5 → ∀ k, k < rs.length → k ≠ i → cmpN (rs.getD k recZ).name (rs.getD i recZ).name ≠ 0
structure GoodS (o : List (List Int)) (rs : List Rec) (i : Nat) : Prop where
 ok : rrOk (rs.getD i recZ) = true
 under : endsWith (rs.getD i recZ).name o = true
 next : 0 < i → cmpR (rs.getD (i - 1) recZ) (rs.getD i recZ) < 0
 alone : alone rs i
 soa : (rs.getD i recZ).type = 6 → cmpN (rs.getD i recZ).name o = 0

theorem rrOk_name {r : Rec} (h : rrOk r = true) : nameOk r.name = true := by
 unfold rrOk at h
 simp only [Bool.and_eq_true] at h
 exact h.1
theorem cmpR_name {a b : Rec} (h : cmpR a b < 0) : cmpN a.name b.name ≤ 0 := by
 unfold cmpR at h
 split at h <;> omega
theorem goodI_parts {o : List (List Int)} {rs : List Rec} {i : Nat} (h : goodI o rs i = true) :
  rrOk (rs.getD i recZ) = true ∧ under (rs.getD i recZ).name o = true ∧ ((rs.getD i recZ).type = 6 → nameCmp (rs.getD i recZ).name o = 0) ∧ (0 < i → follows (rs.getD (i - 1) recZ) (rs.getD i recZ) = true) := by
 unfold goodI inZone at h
 simp only [Bool.and_eq_true, Bool.or_eq_true, decide_eq_true_eq] at h
 exact ⟨h.1.1, h.1.2.1, fun e => h.1.2.2.resolve_left (fun q => q e), fun e => h.2.resolve_left (by omega)⟩

theorem sorted_upto {rs : List Rec} (h : ∀ i, 0 < i → i < rs.length → cmpN (rs.getD (i - 1) recZ).name (rs.getD i recZ).name ≤ 0) (i : Nat) : ∀ d, i + d < rs.length → cmpN (rs.getD i recZ).name (rs.getD (i + d) recZ).name ≤ 0
 | 0, _ => by rw [Nat.add_zero, cmpN_self]; omega
 | d + 1, hd => cmpN_trans (sorted_upto h i d (by omega)) (by have := h (i + (d + 1)) (by omega) hd; rwa [show i + (d + 1) - 1 = i + d by omega] at this)
theorem sorted_le {rs : List Rec} (h : ∀ i, 0 < i → i < rs.length → cmpN (rs.getD (i - 1) recZ).name (rs.getD i recZ).name ≤ 0) {i j : Nat} (hij : i ≤ j) (hj : j < rs.length) : cmpN (rs.getD i recZ).name (rs.getD j recZ).name ≤ 0 := by
 have := sorted_upto h i (j - i) (by omega)
 rwa [show i + (j - i) = j by omega] at this

theorem good_iff {o : List (List Int)} {rs : List Rec} (ho : nameOk o = true) : (∀ i, i < rs.length → goodI o rs i = true) ↔ ∀ i, i < rs.length → GoodS o rs i := by
 constructor
 ·intro h
  have hok : ∀ i, i < rs.length → rrOk (rs.getD i recZ) = true := fun i hi => (goodI_parts (h i hi)).1
  have hf : ∀ i, 0 < i → i < rs.length → cmpR (rs.getD (i - 1) recZ) (rs.getD i recZ) < 0 ∧ (((rs.getD (i - 1) recZ).type = 5 ∨ (rs.getD i recZ).type = 5) → cmpN (rs.getD (i - 1) recZ).name (rs.getD i recZ).name ≠ 0) := by
   intro i h0 hi
   have hq := (goodI_parts (h i hi)).2.2.2 h0
   unfold follows at hq
   simp only [Bool.and_eq_true, Bool.or_eq_true, decide_eq_true_eq] at hq
   have h1 := hq.1
   unfold rrCmp at h1
   rw [if_pos ⟨hok _ (by omega), hok _ hi⟩] at h1
   refine ⟨h1, fun e => ?_⟩
   have h2 := hq.2.resolve_left (by omega)
   unfold nameCmp at h2
   rwa [if_pos ⟨rrOk_name (hok _ (by omega)), rrOk_name (hok _ hi)⟩] at h2
  have hs : ∀ i, 0 < i → i < rs.length → cmpN (rs.getD (i - 1) recZ).name (rs.getD i recZ).name ≤ 0 := fun i h0 hi => cmpR_name (hf i h0 hi).1
  intro i hi
  obtain ⟨p1, p2, p3, p4⟩ := goodI_parts (h i hi)
  refine ⟨p1, ?_, fun h0 => (hf i h0 hi).1, ?_, fun e => ?_⟩
  ·unfold Go.Proofs.YtfgcmjpkgdjcfaaGreat.under at p2
   simp only [Bool.and_eq_true] at p2
   exact p2.2.2
  ·intro e5 k hk hne e0
   rcases Nat.lt_or_gt_of_ne hne with hlt | hgt
   ·have := cmpN_between (sorted_le hs (show k ≤ i - 1 by omega) (by omega)) (hs i (by omega) hi) e0
    exact (hf i (by omega) hi).2 (.inr e5) this.2
   ·have e0' : cmpN (rs.getD i recZ).name (rs.getD k recZ).name = 0 := by
     have := cmpN_swap (rs.getD i recZ).name (rs.getD k recZ).name
     omega
    have hs1 := hs (i + 1) (by omega) (by omega)
    have hf1 := hf (i + 1) (by omega) (by omega)
    rw [show i + 1 - 1 = i by omega] at hs1 hf1
    have := cmpN_between hs1 (sorted_le hs (show i + 1 ≤ k by omega) hk) e0'
    exact hf1.2 (.inl e5) this.1
  ·have := p3 e
   unfold nameCmp at this
   rwa [if_pos ⟨rrOk_name p1, ho⟩] at this
 ·intro h i hi
  have g := h i hi
  unfold goodI inZone Go.Proofs.YtfgcmjpkgdjcfaaGreat.under
  rw [g.ok, rrOk_name g.ok, ho, g.under]
  simp only [Bool.true_and, Bool.and_eq_true, Bool.or_eq_true, decide_eq_true_eq]
  refine ⟨?_, ?_⟩
  ·by_cases e : (rs.getD i recZ).type = 6
   ·right
    unfold nameCmp
    rw [if_pos ⟨rrOk_name g.ok, ho⟩]
    exact g.soa e
   ·exact .inl e
  ·by_cases e : i = 0
   ·exact .inl e
   ·right
    have g' := h (i - 1) (by omega)
    unfold follows rrCmp nameCmp
    rw [if_pos ⟨g'.ok, g.ok⟩, if_pos ⟨rrOk_name g'.ok, rrOk_name g.ok⟩]
    simp only [Bool.and_eq_true, Bool.or_eq_true, decide_eq_true_eq]
    refine ⟨g.next (by omega), ?_⟩
    by_cases e1 : (rs.getD (i - 1) recZ).type = 5
    ·right
     have := g'.alone e1 i hi (by omega)
     have hs := cmpN_swap (rs.getD (i - 1) recZ).name (rs.getD i recZ).name
     omega
    ·by_cases e2 : (rs.getD i recZ).type = 5
     ·exact .inr (g.alone e2 (i - 1) (by omega) (by omega))
     ·exact .inl ⟨e1, e2⟩
theorem zoneOk_badS {o : List (List Int)} {rs : List Rec} {i : Nat} (ho : nameOk o = true) (hi : i < rs.length) (h : ¬ GoodS o rs i) : zoneOk o rs = false := decide_eq_false fun h' => h ((good_iff ho).1 h'.2.2.1 i hi)
theorem zoneOk_endS {o : List (List Int)} {rs : List Rec} (h1 : nameOk o = true) (h2 : rs.length ≤ 60) (h : ∀ i, i < rs.length → GoodS o rs i) : zoneOk o rs = decide (soas rs rs.length = 1) := zoneOk_end h1 h2 ((good_iff h1).2 h)
end Go.Proofs.YtfgcmjpkgdjcfaaGreat

namespace Go.Proofs.YtfgcmjpkgdjcfaaGreat
open Go.RowKit
set_option linter.unusedVariables false

set_option maxHeartbeats 400000 in
set_option maxRecDepth 100000 in
theorem upTo_yes {n m : Int} (w : World) (h0 : 0 ≤ n) (h1 : n ≤ m) : Calls Tryz.prog 120 #[.int .i64 n, .int .i64 m] w fun e w' => e = .returned (.bool true) ∧ w = w' := by
 go_enter Tryz.func120, Tryz.ntmps120
 go_wp2
 go_ret
 exact ⟨rfl, rfl⟩

set_option maxHeartbeats 400000 in
set_option maxRecDepth 100000 in
theorem upTo_no {n m : Int} (w : World) (h : n < 0 ∨ m < n) : Calls Tryz.prog 120 #[.int .i64 n, .int .i64 m] w fun e w' => e = .returned (.bool false) ∧ w = w' := by
 by_cases h0 : n < 0
 ·go_enter Tryz.func120, Tryz.ntmps120
  go_wp2
  go_ret
  exact ⟨rfl, rfl⟩
 ·have h1 : m < n := by omega
  have h2 : decide (n ≤ m) = false := decide_eq_false (by omega)
  go_enter Tryz.func120, Tryz.ntmps120
  go_wp2
  go_ret
  exact ⟨rfl, rfl⟩
theorem upTo_any (n m : Int) (w : World) : Calls Tryz.prog 120 #[.int .i64 n, .int .i64 m] w fun e w' => e = .returned (.bool (decide (0 ≤ n ∧ n ≤ m))) ∧ w = w' := by
 by_cases h : 0 ≤ n ∧ n ≤ m
 ·rw [decide_eq_true h]; exact upTo_yes w h.1 h.2
 ·rw [decide_eq_false h]; exact upTo_no w (by omega)
end Go.Proofs.YtfgcmjpkgdjcfaaGreat
