/-
  Plain facts: the order of records. No program is named here. Plain facts: the keys of names ascend as the names do, and those of records as the records do. No program is named here. Plain facts: a book's records by ascending keys, page after page. No program is named here. Plain facts: maps whose keys are texts: look-ups that say whether the key is there, and deletions. No program is named here.
-/
import Derived.Test.YtmlcmkoefelolaaGreatAddG11
import Derived.Test.YtmlcmkoefelolaaGreatAddG26
import Derived.Test.YtmlcmkoefelolaaGreatAddG14
import Derived.Test.YtmlcmkoefelolaaGreatAddG15
import Derived.Test.YtmlcmkoefelolaaGreatAddG10
namespace Go.Proofs.YtmlcmkoefelolaaGreat
open Go.RowKit

theorem byLength_swap (x y : Int) : byLength x y = - byLength y x := by
 unfold byLength
 by_cases h1 : x < y
 ·simp [h1, show ¬ y < x by omega]
 ·by_cases h2 : y < x
  ·simp [h1, h2]
  ·simp [h1, h2]
theorem cmpR_swap (a b : Rec) : cmpR a b = - cmpR b a := by
 unfold cmpR
 have h1 := cmpN_swap a.name b.name
 have h2 := byLength_swap a.type b.type
 have h3 := cmpB_swap (dataB a) (dataB b)
 by_cases e1 : cmpN b.name a.name = 0
 ·rw [e1] at h1
  by_cases e2 : byLength b.type a.type = 0
  ·rw [e2] at h2
   simp only [h1, h2, e1, e2]
   simpa using h3
  ·have e2' : byLength a.type b.type ≠ 0 := by omega
   simp only [h1, e1]
   simp [e2, e2']
   exact h2
 ·have e1' : cmpN a.name b.name ≠ 0 := by omega
  simp [e1, e1']
  exact h1
theorem cmpR_cases (a b : Rec) : cmpR a b = -1 ∨ cmpR a b = 0 ∨ cmpR a b = 1 := by
 unfold cmpR
 have h1 := cmpN_cases a.name b.name
 have h2 : byLength a.type b.type = -1 ∨ byLength a.type b.type = 0 ∨ byLength a.type b.type = 1 := by
  unfold byLength
  split
  ·exact .inl rfl
  ·split
   ·exact .inr (.inr rfl)
   ·exact .inr (.inl rfl)
 have h3 := cmpB_cases (dataB a) (dataB b)
 split
 ·exact h1
 ·split
  ·exact h2
  ·exact h3
theorem cmpR_self (a : Rec) : cmpR a a = 0 := by
 have := cmpR_swap a a
 omega
theorem rrOk_time {a : Rec} (h : rrOk a = true) (t : Int) (h0 : 0 ≤ t) (h1 : t ≤ 100000) : rrOk ⟨a.name, a.type, t, a.addr, a.to, a.text, a.nums⟩ = true := by
 unfold rrOk at h ⊢
 simp only [Bool.and_eq_true] at h ⊢
 exact ⟨h.1, h.2.1, decide_eq_true ⟨h0, h1⟩, h.2.2.2⟩
end Go.Proofs.YtmlcmkoefelolaaGreat

namespace Go.Proofs.YtmlcmkoefelolaaGreat
open Go.RowKit
set_option linter.unusedVariables false

theorem compare_cut : ∀ (x y A B : List UInt8), (∀ c ∈ x, 0 < c) → (∀ c ∈ y, 0 < c) → Lib.compareBytes (x ++ 0 :: A) (y ++ 0 :: B) = if Lib.compareBytes x y ≠ 0 then Lib.compareBytes x y else Lib.compareBytes A B
 | [], [], A, B, _, _ => by
  simp only [List.nil_append]
  rw [show Lib.compareBytes ([] : List UInt8) [] = 0 from rfl]
  simp only [ne_eq, not_true, if_false]
  conv => lhs; unfold Lib.compareBytes
  rw [if_neg (UInt8.lt_irrefl _), if_neg (UInt8.lt_irrefl _)]
 | [], c :: y, A, B, _, hy => by
  have h := hy c (List.mem_cons_self ..)
  simp only [List.nil_append, List.cons_append]
  conv => lhs; unfold Lib.compareBytes
  rw [if_pos h, show Lib.compareBytes ([] : List UInt8) (c :: y) = -1 from rfl]
  simp
 | c :: x, [], A, B, hx, _ => by
  have h := hx c (List.mem_cons_self ..)
  have h2 : ¬ c < 0 := fun h' => UInt8.lt_irrefl _ (UInt8.lt_trans h h')
  simp only [List.nil_append, List.cons_append]
  conv => lhs; unfold Lib.compareBytes
  rw [if_neg h2, if_pos h, show Lib.compareBytes (c :: x) ([] : List UInt8) = 1 from rfl]
  simp
 | c :: x, d :: y, A, B, hx, hy => by
  have ih := compare_cut x y A B (fun z hz => hx z (List.mem_cons_of_mem _ hz)) (fun z hz => hy z (List.mem_cons_of_mem _ hz))
  simp only [List.cons_append]
  have step : ∀ (c d : UInt8) (x y : List UInt8), Lib.compareBytes (c :: x) (d :: y) = if c < d then -1 else if d < c then 1 else Lib.compareBytes x y := fun c d x y => by rw [Lib.compareBytes]
  rw [step c d (x ++ 0 :: A) (y ++ 0 :: B), step c d x y]
  by_cases h1 : c < d
  ·simp [h1]
  ·by_cases h2 : d < c
   ·simp [h1, h2]
   ·simp only [h1, h2, if_false]
    exact ih
def okL (ls : List (List Int)) : Prop := ∀ l ∈ ls, ∀ x ∈ l, 45 ≤ x ∧ x ≤ 122
theorem byte_pos {l : List Int} (h : ∀ x ∈ l, 45 ≤ x ∧ x ≤ 122) : ∀ c ∈ l.map (fun n => UInt8.ofNat n.toNat), (0 : UInt8) < c := by
 intro c hc
 obtain ⟨x, hx, rfl⟩ := List.mem_map.1 hc
 have := h x hx
 rw [UInt8.lt_iff_toNat_lt]
 simp only [UInt8.toNat_ofNat']
 show (0 : UInt8).toNat < _
 rw [show (0 : UInt8).toNat = 0 from rfl]
 omega
theorem keyP_order : ∀ (ls ms : List (List Int)), okL ls → okL ms → cmpB (keyP ls) (keyP ms) = cmpL ls ms
 | [], [], _, _ => by simp [keyP, cmpL, cmpB_self]
 | [], m :: s, _, _ => by
  unfold cmpB
  rw [bytes_of, bytes_of]
  cases m <;> simp [keyP, cmpL, Lib.compareBytes]
 | l :: t, [], _, _ => by
  unfold cmpB
  rw [bytes_of, bytes_of]
  cases l <;> simp [keyP, cmpL, Lib.compareBytes]
 | l :: t, m :: s, hl, hm => by
  have ih := keyP_order t s (fun x hx => hl x (List.mem_cons_of_mem _ hx)) (fun x hx => hm x (List.mem_cons_of_mem _ hx))
  have e : ∀ (l : List Int) (t : List (List Int)), (strOfNums (keyP (l :: t))).data.toList = l.map (fun n => UInt8.ofNat n.toNat) ++ 0 :: (keyP t).map (fun n => UInt8.ofNat n.toNat) := by
   intro l t
   rw [bytes_of]
   simp [keyP]
  have h1 : cmpB (keyP (l :: t)) (keyP (m :: s)) = if cmpB l m ≠ 0 then cmpB l m else cmpB (keyP t) (keyP s) := by
   unfold cmpB
   rw [e, e, compare_cut _ _ _ _ (byte_pos (hl l (List.mem_cons_self ..))) (byte_pos (hm m (List.mem_cons_self ..)))]
   simp only [bytes_of]
  rw [h1, ih]
  rfl
theorem keyN_order {a b : List (List Int)} (ha : nameOk a = true) (hb : nameOk b = true) : cmpB (keyN a) (keyN b) = cmpN a b := by
 rw [cmpN_eq]
 exact keyP_order _ _ (fun l hl => sign_of ha l (List.mem_reverse.1 hl)) (fun l hl => sign_of hb l (List.mem_reverse.1 hl))
theorem keys_back {a b : Rec} (ha : rrOk a = true) (hb : rrOk b = true) (hn : cmpN a.name b.name = 0) (h : cmpB (keyD a) (keyD b) = -1) : cmpR a b < 0 := by
 rcases cmpR_cases a b with e | e | e
 ·omega
 ·have e1 := e
  unfold cmpR at e1
  rw [if_neg (by simp [hn])] at e1
  by_cases ht : byLength a.type b.type = 0
  ·rw [if_neg (by simp [ht])] at e1
   have et := byLength_zero ht
   have k1 : cmpB (keyD a) (keyD b) = Lib.compareBytes (UInt8.ofNat (a.type / 256).toNat :: UInt8.ofNat (a.type % 256).toNat :: (strOfNums (dataB a)).data.toList) (UInt8.ofNat (b.type / 256).toNat :: UInt8.ofNat (b.type % 256).toNat :: (strOfNums (dataB b)).data.toList) := by
    unfold cmpB
    simp only [keyD, bytes_of, List.nil_append, List.map_cons, List.cons_append]
   rw [k1, et] at h
   unfold Lib.compareBytes at h
   rw [if_neg (UInt8.lt_irrefl _), if_neg (UInt8.lt_irrefl _)] at h
   unfold Lib.compareBytes at h
   rw [if_neg (UInt8.lt_irrefl _), if_neg (UInt8.lt_irrefl _)] at h
   have : cmpB (dataB a) (dataB b) = -1 := h
   omega
  ·rw [if_pos ht] at e1
   exact absurd e1 ht
 ·have e1 : cmpR b a < 0 := by
   have := cmpR_swap a b
   omega
  have e2 : cmpN b.name a.name = 0 := by
   have := cmpN_swap a.name b.name
   omega
  have e3 := keys_lt hb ha e2 e1
  have := cmpB_swap (keyD a) (keyD b)
  omega
/-- Lists that ascend and have the same members are one. -/
theorem asc_unique {α : Type} {lt : α → α → Prop} (hs : ∀ a b, lt a b → ¬ lt b a) : ∀ {l m : List α}, l.Pairwise lt → m.Pairwise lt → (∀ x, x ∈ l ↔ x ∈ m) → l = m
 | [], [], _, _, _ => rfl
 | [], b :: t, _, _, h => absurd ((h b).2 (List.mem_cons_self ..)) (by simp)
 | a :: t, [], _, _, h => absurd ((h a).1 (List.mem_cons_self ..)) (by simp)
 | a :: t, b :: s, hl, hm, h => by
  obtain ⟨l1, l2⟩ := List.pairwise_cons.1 hl
  obtain ⟨m1, m2⟩ := List.pairwise_cons.1 hm
  have e : a = b := by
   rcases List.mem_cons.1 ((h a).1 (List.mem_cons_self ..)) with e | ha
   ·exact e
   ·rcases List.mem_cons.1 ((h b).2 (List.mem_cons_self ..)) with e | hb
    ·exact e.symm
    ·exact absurd (m1 a ha) (hs _ _ (l1 b hb))
  subst e
  have hirr : ¬ lt a a := fun q => hs _ _ q q
  rw [asc_unique hs l2 m2 (fun x => ?_)]
  constructor
  ·intro hx
   rcases List.mem_cons.1 ((h x).1 (List.mem_cons_of_mem _ hx)) with e | hx'
   ·subst e
    exact absurd (l1 x hx) hirr
   ·exact hx'
  ·intro hx
   rcases List.mem_cons.1 ((h x).2 (List.mem_cons_of_mem _ hx)) with e | hx'
   ·subst e
    exact absurd (m1 x hx) hirr
   ·exact hx'
end Go.Proofs.YtmlcmkoefelolaaGreat

namespace Go.Proofs.YtmlcmkoefelolaaGreat
open Go.RowKit
set_option linter.unusedVariables false

/-- A book's records, in order. -/
def sortB (B : Bk) : List Rec := (keysP B).flatMap (fun k => sortP ((lookA ⟨k.toArray⟩ B).getD []))
/-- A page whose keys are its records'. -/
structure GoodP (kn : ByteArray) (P : Pg) : Prop where
 apart : P.Pairwise (fun p q => p.1 ≠ q.1)
 keys : ∀ x ∈ P, x.1 = keyR x.2 ∧ rrOk x.2 = true ∧ kn = strOfNums (keyN x.2.name)
structure GoodB (B : Bk) : Prop where
 apart : B.Pairwise (fun p q => p.1 ≠ q.1)
 pages : ∀ q ∈ B, GoodP q.1 q.2
theorem putA_keys {κ α : Type} [DecidableEq κ] {k : κ} {v : α} : ∀ {l : List (κ × α)}, l.Pairwise (fun p q => p.1 ≠ q.1) → (putA k v l).Pairwise (fun p q => p.1 ≠ q.1)
 | [], _ => by simp [putA]
 | (a, u) :: t, h => by
  obtain ⟨h1, h2⟩ := List.pairwise_cons.1 h
  by_cases e : a = k
  ·subst e
   simp only [putA, if_true]
   exact List.pairwise_cons.2 ⟨fun q hq => h1 q hq, h2⟩
  ·simp only [putA, if_neg e]
   refine List.pairwise_cons.2 ⟨fun q hq => ?_, putA_keys h2⟩
   rcases mem_putA hq with rfl | hq
   ·exact e
   ·exact h1 q hq
theorem goodB_nil : GoodB [] := ⟨List.Pairwise.nil, fun q hq => by simp at hq⟩
theorem goodP_nil (kn : ByteArray) : GoodP kn [] := ⟨List.Pairwise.nil, fun x hx => by simp at hx⟩
theorem GoodB.page {B : Bk} (h : GoodB B) (kn : ByteArray) : GoodP kn ((lookA kn B).getD []) := by
 cases hl : lookA kn B with
 | none => exact goodP_nil kn
 | some P => exact h.pages _ (lookA_in hl)
theorem GoodB.put {B : Bk} (h : GoodB B) {r : Rec} (hr : rrOk r = true) : GoodB (bkPut (strOfNums (keyN r.name)) (keyR r) r B) := by
 refine ⟨putA_keys h.apart, fun q hq => ?_⟩
 rcases mem_putA hq with rfl | hq
 ·have hp := h.page (strOfNums (keyN r.name))
  refine ⟨putA_keys hp.apart, fun x hx => ?_⟩
  rcases mem_putA hx with rfl | hx
  ·exact ⟨rfl, hr, rfl⟩
  ·exact hp.keys x hx
 ·exact h.pages q hq
theorem mem_keysP {α : Type} {P : List (ByteArray × α)} {k : List UInt8} : k ∈ keysP P ↔ ∃ v, ((⟨k.toArray⟩ : ByteArray), v) ∈ P := by
 refine ⟨keysP_mem, fun ⟨v, hv⟩ => ?_⟩
 unfold keysP
 rw [List.mem_mergeSort]
 exact List.mem_map.2 ⟨_, hv, by simp⟩
theorem mem_sortP {kn : ByteArray} {P : Pg} (h : GoodP kn P) {r : Rec} : r ∈ sortP P ↔ (keyR r, r) ∈ P := by
 unfold sortP
 rw [List.mem_map]
 constructor
 ·rintro ⟨k, hk, rfl⟩
  obtain ⟨v, hv⟩ := mem_keysP.1 hk
  have hl := lookA_mem h.apart hv
  unfold atKey
  rw [hl, Option.getD_some, ← (h.keys _ hv).1]
  exact hv
 ·intro hr
  refine ⟨(keyR r).data.toList, mem_keysP.2 ⟨r, by simpa using hr⟩, ?_⟩
  unfold atKey
  rw [show (⟨(keyR r).data.toList.toArray⟩ : ByteArray) = keyR r by simp, lookA_mem h.apart hr]
  rfl
theorem mem_sortB {B : Bk} (h : GoodB B) {r : Rec} : r ∈ sortB B ↔ ∃ q ∈ B, (keyR r, r) ∈ q.2 := by
 unfold sortB
 rw [List.mem_flatMap]
 constructor
 ·rintro ⟨k, hk, hr⟩
  obtain ⟨P, hP⟩ := mem_keysP.1 hk
  rw [lookA_mem h.apart hP, Option.getD_some] at hr
  exact ⟨_, hP, (mem_sortP (h.pages _ hP)).1 hr⟩
 ·rintro ⟨q, hq, hr⟩
  refine ⟨q.1.data.toList, mem_keysP.2 ⟨q.2, by simpa using hq⟩, ?_⟩
  rw [show (⟨q.1.data.toList.toArray⟩ : ByteArray) = q.1 by simp, lookA_mem h.apart (v := q.2) hq, Option.getD_some]
  exact (mem_sortP (h.pages q hq)).2 hr
/-- Keys that ascend, none twice. -/
theorem keysP_asc {α : Type} {P : List (ByteArray × α)} (h : P.Pairwise (fun p q => p.1 ≠ q.1)) : (keysP P).Pairwise (fun a b => a < b) := by
 have tr : ∀ a b c : List UInt8, leB a b = true → leB b c = true → leB a c = true := fun a b c h1 h2 => by simp only [leB, decide_eq_true_eq] at *; exact List.le_trans h1 h2
 have to : ∀ a b : List UInt8, (leB a b || leB b a) = true := fun a b => by simp only [leB, Bool.or_eq_true, decide_eq_true_eq]; exact List.le_total a b
 have h1 := List.pairwise_mergeSort tr to (P.map (fun p => p.1.data.toList))
 have h2 : (keysP P).Nodup := by
  unfold keysP
  rw [(List.mergeSort_perm _ _).nodup_iff]
  rw [List.Nodup, List.pairwise_map]
  refine h.imp (fun {a b} hab e => hab ?_)
  have : a.1.data = b.1.data := by simpa using congrArg List.toArray e
  cases ha : a.1
  cases hb : b.1
  rw [ha, hb] at this
  simp only at this
  rw [this]
 have h3 : (keysP P).Pairwise (fun a b => leB a b = true) := h1
 refine (h3.and h2).imp (fun {a b} hab => ?_)
 have hle := hab.1
 simp only [leB, decide_eq_true_eq] at hle
 by_cases hlt : a < b
 ·exact hlt
 ·exact absurd (List.le_antisymm hle hlt) hab.2
theorem compare_of : ∀ (a b : List UInt8), a < b → Lib.compareBytes a b = -1
 | [], [], h => absurd h (List.lt_irrefl _)
 | [], _ :: _, _ => rfl
 | _ :: _, [], h => absurd h (List.not_lt_nil _)
 | x :: a, y :: b, h => by
  rw [List.cons_lt_cons_iff] at h
  unfold Lib.compareBytes
  rcases h with h | ⟨rfl, h⟩
  ·rw [if_pos h]
  ·rw [if_neg (UInt8.lt_irrefl _), if_neg (UInt8.lt_irrefl _)]
   exact compare_of a b h
/-- The records of a page ascend. -/
theorem sortP_asc {kn : ByteArray} {P : Pg} (h : GoodP kn P) : (sortP P).Pairwise (fun a b => cmpR a b < 0) := by
 unfold sortP
 rw [List.pairwise_map]
 refine List.Pairwise.imp_of_mem ?_ (keysP_asc h.apart)
 intro a b ha hb hlt
 obtain ⟨u, hu⟩ := mem_keysP.1 ha
 obtain ⟨v, hv⟩ := mem_keysP.1 hb
 have e1 : atKey P a = u := by unfold atKey; rw [lookA_mem h.apart hu]; rfl
 have e2 : atKey P b = v := by unfold atKey; rw [lookA_mem h.apart hv]; rfl
 rw [e1, e2]
 obtain ⟨k1, o1, n1⟩ := h.keys _ hu
 obtain ⟨k2, o2, n2⟩ := h.keys _ hv
 simp only at k1 k2 o1 o2 n1 n2
 have hn : u.name = v.name := keyN_inj (rrOk_parts o1).1 (rrOk_parts o2).1 (n1.symm.trans n2)
 refine keys_back o1 o2 (by rw [hn]; exact cmpN_self _) ?_
 unfold cmpB
 rw [show strOfNums (keyD u) = ⟨a.toArray⟩ from k1.symm, show strOfNums (keyD v) = ⟨b.toArray⟩ from k2.symm]
 exact compare_of _ _ (by simpa using hlt)
/-- The records of a book ascend. -/
theorem sortB_asc {B : Bk} (h : GoodB B) : (sortB B).Pairwise (fun a b => cmpR a b < 0) := by
 unfold sortB
 rw [List.pairwise_flatMap]
 refine ⟨fun k _ => sortP_asc (h.page _), ?_⟩
 refine List.Pairwise.imp_of_mem ?_ (keysP_asc h.apart)
 intro a b ha hb hlt x hx y hy
 have hx' := (mem_sortP (h.page _)).1 hx
 have hy' := (mem_sortP (h.page _)).1 hy
 obtain ⟨_, o1, n1⟩ := (h.page _).keys _ hx'
 obtain ⟨_, o2, n2⟩ := (h.page _).keys _ hy'
 simp only at o1 o2 n1 n2
 have hc : cmpB (keyN x.name) (keyN y.name) = -1 := by
  unfold cmpB
  rw [← n1, ← n2]
  exact compare_of _ _ (by simpa using hlt)
 rw [keyN_order (rrOk_parts o1).1 (rrOk_parts o2).1] at hc
 unfold cmpR
 rw [if_pos (by omega)]
 omega
/-- A book's records are these, if they ascend and are all of it. -/
theorem sortB_is {B : Bk} (h : GoodB B) {rs : List Rec} (ha : rs.Pairwise (fun a b => cmpR a b < 0)) (hm : ∀ r, r ∈ rs ↔ ∃ q ∈ B, (keyR r, r) ∈ q.2) : sortB B = rs :=
 asc_unique (lt := fun a b => cmpR a b < 0) (fun a b h1 h2 => by have := cmpR_swap a b; omega) (sortB_asc h) ha (fun r => by rw [mem_sortB h, hm])
end Go.Proofs.YtmlcmkoefelolaaGreat

namespace Go.Proofs.YtmlcmkoefelolaaGreat
open Go.RowKit
open Go.ChangeMaps (setBlock heap_setBlock_same heap_setBlock_other)
open Go.MapKept (stamped_iff stamped_erase Stamped)
open Go.Maps (Keyed string_keyed)
open Go.WideMaps (keyOf_string_mk)
set_option linter.unusedVariables false

/-- All but what stands at a key. -/
def delA {κ β : Type} [DecidableEq κ] (k : κ) : List (κ × β) → List (κ × β)
 | [] => []
 | (a, u) :: t => if a = k then t else (a, u) :: delA k t
theorem mem_delA {κ β : Type} [DecidableEq κ] {k : κ} : ∀ {ps : List (κ × β)}, ps.Pairwise (fun p q => p.1 ≠ q.1) → ∀ {p : κ × β}, p ∈ delA k ps ↔ p ∈ ps ∧ p.1 ≠ k
 | [], _, p => by simp [delA]
 | (a, u) :: t, hd, p => by
  obtain ⟨h1, h2⟩ := List.pairwise_cons.1 hd
  by_cases e : a = k
  ·subst e
   rw [delA, if_pos rfl]
   constructor
   ·intro hp
    exact ⟨List.mem_cons_of_mem _ hp, fun e => h1 p hp e.symm⟩
   ·rintro ⟨hp, hne⟩
    rcases List.mem_cons.1 hp with rfl | hp
    ·exact absurd rfl hne
    ·exact hp
  ·rw [delA, if_neg e, List.mem_cons, mem_delA h2]
   constructor
   ·rintro (rfl | ⟨hp, hne⟩)
    ·exact ⟨List.mem_cons_self .., e⟩
    ·exact ⟨List.mem_cons_of_mem _ hp, hne⟩
   ·rintro ⟨hp, hne⟩
    rcases List.mem_cons.1 hp with rfl | hp
    ·exact .inl rfl
    ·exact .inr ⟨hp, hne⟩
section
variable {P : Program} {t k e : TypeId} {w : World} {b : Nat} {ps : List (ByteArray × Value)}
end
end Go.Proofs.YtmlcmkoefelolaaGreat
