/-
  Plain facts: a row of slices put behind another one; a name with one label more ahead. No program is named here. Plain facts: what the law of the order of names asks for. No program is named here. Plain facts: the order of records. No program is named here. Plain facts: the keys of names ascend as the names do, and those of records as the records do. No program is named here.
-/
import Derived.Test.YtfgcmjpkgdjcfaaGreatDropSetG04
import Derived.Test.YtfgcmjpkgdjcfaaGreatDropSetG06
import Derived.Test.YtfgcmjpkgdjcfaaGreatDropSetG01
import Derived.Test.YtfgcmjpkgdjcfaaGreatDropSetG21
import Derived.Test.YtfgcmjpkgdjcfaaGreatDropSetG24
import Derived.Test.YtfgcmjpkgdjcfaaGreatDropSetG14
namespace Go.Proofs.YtfgcmjpkgdjcfaaGreat
open Go.RowKit

section
variable {P : Program} {w : World}
end

end Go.Proofs.YtfgcmjpkgdjcfaaGreat

namespace Go.Proofs.YtfgcmjpkgdjcfaaGreat
open Go.RowKit

theorem cmpL_cases : ∀ (a b : List (List Int)), cmpL a b = -1 ∨ cmpL a b = 0 ∨ cmpL a b = 1
 | [], [] => .inr (.inl rfl)
 | [], _ :: _ => .inl rfl
 | _ :: _, [] => .inr (.inr rfl)
 | x :: a, y :: b => by
  unfold cmpL
  split
  ·exact cmpB_cases x y
  ·exact cmpL_cases a b
theorem cmpN_cases (a b : List (List Int)) : cmpN a b = -1 ∨ cmpN a b = 0 ∨ cmpN a b = 1 := by
 rw [cmpN_eq]
 exact cmpL_cases _ _
end Go.Proofs.YtfgcmjpkgdjcfaaGreat

namespace Go.Proofs.YtfgcmjpkgdjcfaaGreat
open Go.RowKit

theorem byLength_swap (x y : Int) : byLength x y = - byLength y x := by
 unfold byLength
 by_cases h1 : x < y
 ·simp [h1, show ¬ y < x by omega]
 ·by_cases h2 : y < x
  ·simp [h1, h2]
  ·simp [h1, h2]
theorem cmpR_swap (a b : Rec) : cmpR a b = - cmpR b a := by
 unfold cmpR
 have h1 := cmpN_swap a.name b.name
 have h2 := byLength_swap a.type b.type
 have h3 := cmpB_swap (dataB a) (dataB b)
 by_cases e1 : cmpN b.name a.name = 0
 ·rw [e1] at h1
  by_cases e2 : byLength b.type a.type = 0
  ·rw [e2] at h2
   simp only [h1, h2, e1, e2]
   simpa using h3
  ·have e2' : byLength a.type b.type ≠ 0 := by omega
   simp only [h1, e1]
   simp [e2, e2']
   exact h2
 ·have e1' : cmpN a.name b.name ≠ 0 := by omega
  simp [e1, e1']
  exact h1
theorem cmpR_cases (a b : Rec) : cmpR a b = -1 ∨ cmpR a b = 0 ∨ cmpR a b = 1 := by
 unfold cmpR
 have h1 := cmpN_cases a.name b.name
 have h2 : byLength a.type b.type = -1 ∨ byLength a.type b.type = 0 ∨ byLength a.type b.type = 1 := by
  unfold byLength
  split
  ·exact .inl rfl
  ·split
   ·exact .inr (.inr rfl)
   ·exact .inr (.inl rfl)
 have h3 := cmpB_cases (dataB a) (dataB b)
 split
 ·exact h1
 ·split
  ·exact h2
  ·exact h3
theorem cmpR_self (a : Rec) : cmpR a a = 0 := by
 have := cmpR_swap a a
 omega
end Go.Proofs.YtfgcmjpkgdjcfaaGreat

namespace Go.Proofs.YtfgcmjpkgdjcfaaGreat
open Go.RowKit
set_option linter.unusedVariables false

theorem compare_cut : ∀ (x y A B : List UInt8), (∀ c ∈ x, 0 < c) → (∀ c ∈ y, 0 < c) → Lib.compareBytes (x ++ 0 :: A) (y ++ 0 :: B) = if Lib.compareBytes x y ≠ 0 then Lib.compareBytes x y else Lib.compareBytes A B
 | [], [], A, B, _, _ => by
  simp only [List.nil_append]
  rw [show Lib.compareBytes ([] : List UInt8) [] = 0 from rfl]
  simp only [ne_eq, not_true, if_false]
  conv => lhs; unfold Lib.compareBytes
  rw [if_neg (UInt8.lt_irrefl _), if_neg (UInt8.lt_irrefl _)]
 | [], c :: y, A, B, _, hy => by
  have h := hy c (List.mem_cons_self ..)
  simp only [List.nil_append, List.cons_append]
  conv => lhs; unfold Lib.compareBytes
  rw [if_pos h, show Lib.compareBytes ([] : List UInt8) (c :: y) = -1 from rfl]
  simp
 | c :: x, [], A, B, hx, _ => by
  have h := hx c (List.mem_cons_self ..)
  have h2 : ¬ c < 0 := fun h' => UInt8.lt_irrefl _ (UInt8.lt_trans h h')
  simp only [List.nil_append, List.cons_append]
  conv => lhs; unfold Lib.compareBytes
  rw [if_neg h2, if_pos h, show Lib.compareBytes (c :: x) ([] : List UInt8) = 1 from rfl]
  simp
 | c :: x, d :: y, A, B, hx, hy => by
  have ih := compare_cut x y A B (fun z hz => hx z (List.mem_cons_of_mem _ hz)) (fun z hz => hy z (List.mem_cons_of_mem _ hz))
  simp only [List.cons_append]
  have step : ∀ (c d : UInt8) (x y : List UInt8), Lib.compareBytes (c :: x) (d :: y) = if c < d then -1 else if d < c then 1 else Lib.compareBytes x y := fun c d x y => by rw [Lib.compareBytes]
  rw [step c d (x ++ 0 :: A) (y ++ 0 :: B), step c d x y]
  by_cases h1 : c < d
  ·simp [h1]
  ·by_cases h2 : d < c
   ·simp [h1, h2]
   ·simp only [h1, h2, if_false]
    exact ih
def okL (ls : List (List Int)) : Prop := ∀ l ∈ ls, ∀ x ∈ l, 45 ≤ x ∧ x ≤ 122
theorem byte_pos {l : List Int} (h : ∀ x ∈ l, 45 ≤ x ∧ x ≤ 122) : ∀ c ∈ l.map (fun n => UInt8.ofNat n.toNat), (0 : UInt8) < c := by
 intro c hc
 obtain ⟨x, hx, rfl⟩ := List.mem_map.1 hc
 have := h x hx
 rw [UInt8.lt_iff_toNat_lt]
 simp only [UInt8.toNat_ofNat']
 show (0 : UInt8).toNat < _
 rw [show (0 : UInt8).toNat = 0 from rfl]
 omega
theorem keyP_order : ∀ (ls ms : List (List Int)), okL ls → okL ms → cmpB (keyP ls) (keyP ms) = cmpL ls ms
 | [], [], _, _ => by simp [keyP, cmpL, cmpB_self]
 | [], m :: s, _, _ => by
  unfold cmpB
  rw [bytes_of, bytes_of]
  cases m <;> simp [keyP, cmpL, Lib.compareBytes]
 | l :: t, [], _, _ => by
  unfold cmpB
  rw [bytes_of, bytes_of]
  cases l <;> simp [keyP, cmpL, Lib.compareBytes]
 | l :: t, m :: s, hl, hm => by
  have ih := keyP_order t s (fun x hx => hl x (List.mem_cons_of_mem _ hx)) (fun x hx => hm x (List.mem_cons_of_mem _ hx))
  have e : ∀ (l : List Int) (t : List (List Int)), (strOfNums (keyP (l :: t))).data.toList = l.map (fun n => UInt8.ofNat n.toNat) ++ 0 :: (keyP t).map (fun n => UInt8.ofNat n.toNat) := by
   intro l t
   rw [bytes_of]
   simp [keyP]
  have h1 : cmpB (keyP (l :: t)) (keyP (m :: s)) = if cmpB l m ≠ 0 then cmpB l m else cmpB (keyP t) (keyP s) := by
   unfold cmpB
   rw [e, e, compare_cut _ _ _ _ (byte_pos (hl l (List.mem_cons_self ..))) (byte_pos (hm m (List.mem_cons_self ..)))]
   simp only [bytes_of]
  rw [h1, ih]
  rfl
theorem keyN_order {a b : List (List Int)} (ha : nameOk a = true) (hb : nameOk b = true) : cmpB (keyN a) (keyN b) = cmpN a b := by
 rw [cmpN_eq]
 exact keyP_order _ _ (fun l hl => sign_of ha l (List.mem_reverse.1 hl)) (fun l hl => sign_of hb l (List.mem_reverse.1 hl))
theorem keys_back {a b : Rec} (ha : rrOk a = true) (hb : rrOk b = true) (hn : cmpN a.name b.name = 0) (h : cmpB (keyD a) (keyD b) = -1) : cmpR a b < 0 := by
 rcases cmpR_cases a b with e | e | e
 ·omega
 ·have e1 := e
  unfold cmpR at e1
  rw [if_neg (by simp [hn])] at e1
  by_cases ht : byLength a.type b.type = 0
  ·rw [if_neg (by simp [ht])] at e1
   have et := byLength_zero ht
   have k1 : cmpB (keyD a) (keyD b) = Lib.compareBytes (UInt8.ofNat (a.type / 256).toNat :: UInt8.ofNat (a.type % 256).toNat :: (strOfNums (dataB a)).data.toList) (UInt8.ofNat (b.type / 256).toNat :: UInt8.ofNat (b.type % 256).toNat :: (strOfNums (dataB b)).data.toList) := by
    unfold cmpB
    simp only [keyD, bytes_of, List.nil_append, List.map_cons, List.cons_append]
   rw [k1, et] at h
   unfold Lib.compareBytes at h
   rw [if_neg (UInt8.lt_irrefl _), if_neg (UInt8.lt_irrefl _)] at h
   unfold Lib.compareBytes at h
   rw [if_neg (UInt8.lt_irrefl _), if_neg (UInt8.lt_irrefl _)] at h
   have : cmpB (dataB a) (dataB b) = -1 := h
   omega
  ·rw [if_pos ht] at e1
   exact absurd e1 ht
 ·have e1 : cmpR b a < 0 := by
   have := cmpR_swap a b
   omega
  have e2 : cmpN b.name a.name = 0 := by
   have := cmpN_swap a.name b.name
   omega
  have e3 := keys_lt hb ha e2 e1
  have := cmpB_swap (keyD a) (keyD b)
  omega
/-- Lists that ascend and have the same members are one. -/
theorem asc_unique {α : Type} {lt : α → α → Prop} (hs : ∀ a b, lt a b → ¬ lt b a) : ∀ {l m : List α}, l.Pairwise lt → m.Pairwise lt → (∀ x, x ∈ l ↔ x ∈ m) → l = m
 | [], [], _, _, _ => rfl
 | [], b :: t, _, _, h => absurd ((h b).2 (List.mem_cons_self ..)) (by simp)
 | a :: t, [], _, _, h => absurd ((h a).1 (List.mem_cons_self ..)) (by simp)
 | a :: t, b :: s, hl, hm, h => by
  obtain ⟨l1, l2⟩ := List.pairwise_cons.1 hl
  obtain ⟨m1, m2⟩ := List.pairwise_cons.1 hm
  have e : a = b := by
   rcases List.mem_cons.1 ((h a).1 (List.mem_cons_self ..)) with e | ha
   ·exact e
   ·rcases List.mem_cons.1 ((h b).2 (List.mem_cons_self ..)) with e | hb
    ·exact e.symm
    ·exact absurd (m1 a ha) (hs _ _ (l1 b hb))
  subst e
  have hirr : ¬ lt a a := fun q => hs _ _ q q
  rw [asc_unique hs l2 m2 (fun x => ?_)]
  constructor
  ·intro hx
   rcases List.mem_cons.1 ((h x).1 (List.mem_cons_of_mem _ hx)) with e | hx'
   ·subst e
    exact absurd (l1 x hx) hirr
   ·exact hx'
  ·intro hx
   rcases List.mem_cons.1 ((h x).2 (List.mem_cons_of_mem _ hx)) with e | hx'
   ·subst e
    exact absurd (m1 x hx) hirr
   ·exact hx'
end Go.Proofs.YtfgcmjpkgdjcfaaGreat
