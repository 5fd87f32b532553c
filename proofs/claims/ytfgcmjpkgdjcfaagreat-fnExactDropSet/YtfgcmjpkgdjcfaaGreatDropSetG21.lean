/-
  Plain facts: the decimal digits of a byte, and an address as four numbers with dots between. No program is named here. Plain facts: an address read from its text, as the program does it and as the specification does it, and that both read the same. No program is named here. Plain facts: names that are the same, names that end with others, and their order. No program is named here. Plain facts: a page of a zone's book, in the order of its keys, is what the zone says of that name, in the zone's order. No program is named here.
-/
import Derived.Test.YtfgcmjpkgdjcfaaGreatDropSetG00
import Derived.Lib.ItoaNum
import Derived.Lib.UnsafeStr
import Derived.Lib.Split
import Derived.Lib.SplitLaws
import Derived.Test.YtfgcmjpkgdjcfaaGreatDropSetG18
import Derived.Test.YtfgcmjpkgdjcfaaGreatDropSetG19
import Derived.Test.YtfgcmjpkgdjcfaaGreatDropSetG20
import Derived.Test.YtfgcmjpkgdjcfaaGreatDropSetG10
import Derived.Test.YtfgcmjpkgdjcfaaGreatDropSetG16
import Derived.Sort.KeysCollected
namespace Go.Proofs.YtfgcmjpkgdjcfaaGreat
open Go.RowKit

end Go.Proofs.YtfgcmjpkgdjcfaaGreat

namespace Go.Proofs.YtfgcmjpkgdjcfaaGreat
open Go.RowKit

/-! ### The library's cut at dots is this one -/

theorem str_eq (a b : List Int) (ha : ∀ c ∈ a, 0 ≤ c ∧ c ≤ 255) (hb : ∀ c ∈ b, 0 ≤ c ∧ c ≤ 255) : ((strOfNums a).toList == (strOfNums b).toList) = decide (a = b) := by
 rw [ByteArray.toList_eq, ByteArray.toList_eq, strOfNums_data, strOfNums_data]
 by_cases e : a = b
 ·subst e; simp
 ·rw [decide_eq_false e]
  apply beq_eq_false_iff_ne.2
  intro h
  apply e
  clear e
  induction a generalizing b with
  | nil => cases b with
   | nil => rfl
   | cons d b => simp at h
  | cons c a ih => cases b with
   | nil => simp at h
   | cons d b =>
    simp only [List.map_cons, List.cons.injEq] at h
    have h1 := ha c (by simp)
    have h2 := hb d (by simp)
    have h3 := congrArg UInt8.toNat h.1
    rw [UInt8.toNat_ofNat', UInt8.toNat_ofNat'] at h3
    have h4 : c = d := by omega
    rw [h4, ih b (fun x hx => ha x (by simp [hx])) (fun x hx => hb x (by simp [hx])) h.2]
end Go.Proofs.YtfgcmjpkgdjcfaaGreat

namespace Go.Proofs.YtfgcmjpkgdjcfaaGreat
open Go.RowKit

theorem cmpB_eq {a b : List Int} (ha : ∀ c ∈ a, 0 ≤ c ∧ c ≤ 255) (hb : ∀ c ∈ b, 0 ≤ c ∧ c ≤ 255) : cmpB a b = 0 ↔ a = b := by
 have h1 := str_same a b
 rw [str_eq a b ha hb] at h1
 exact ⟨fun h => of_decide_eq_true (h1.trans (decide_eq_true h)), fun h => by subst h; exact cmpB_self a⟩

/-- All are bytes. -/
def ByteL (n : List (List Int)) : Prop := ∀ l ∈ n, ∀ c ∈ l, 0 ≤ c ∧ c ≤ 255
theorem cmpL_zero : ∀ {a b : List (List Int)}, ByteL a → ByteL b → cmpL a b = 0 → a = b
 | [], [], _, _, _ => rfl
 | [], _ :: _, _, _, h => by
  unfold cmpL at h
  omega
 | _ :: _, [], _, _, h => by
  unfold cmpL at h
  omega
 | x :: a, y :: b, ha, hb, h => by
  unfold cmpL at h
  by_cases e : cmpB x y = 0
  ·simp only [e, ne_eq, not_true, if_false] at h
   rw [(cmpB_eq (ha x (by simp)) (hb y (by simp))).1 e, cmpL_zero (fun l hl => ha l (by simp [hl])) (fun l hl => hb l (by simp [hl])) h]
  ·simp only [e, ne_eq, not_false_iff, if_true] at h
theorem cmpN_zero {a b : List (List Int)} (ha : ByteL a) (hb : ByteL b) : cmpN a b = 0 ↔ a = b := by
 refine ⟨fun h => ?_, fun h => by subst h; exact cmpN_self a⟩
 rw [cmpN_eq] at h
 have := cmpL_zero (fun l hl => ha l (by simpa using hl)) (fun l hl => hb l (by simpa using hl)) h
 simpa using congrArg List.reverse this
end Go.Proofs.YtfgcmjpkgdjcfaaGreat

namespace Go.Proofs.YtfgcmjpkgdjcfaaGreat
open Go.RowKit
set_option linter.unusedVariables false

theorem bytes_of (l : List Int) : (strOfNums l).data.toList = l.map (fun n => UInt8.ofNat n.toNat) := by simp [strOfNums]
theorem less_of : ∀ (a b : List UInt8), Lib.compareBytes a b = -1 → a < b
 | [], [], h => by simp [Lib.compareBytes] at h
 | [], _ :: _, _ => List.nil_lt_cons _ _
 | _ :: _, [], h => by simp [Lib.compareBytes] at h
 | x :: a, y :: b, h => by
  unfold Lib.compareBytes at h
  rw [List.cons_lt_cons_iff]
  by_cases h1 : x < y
  ·exact .inl h1
  ·simp only [h1, if_false] at h
   by_cases h2 : y < x
   ·simp [h2] at h
   ·simp only [h2, if_false] at h
    exact .inr ⟨UInt8.le_antisymm (UInt8.not_lt.1 h2) (UInt8.not_lt.1 h1), less_of a b h⟩
theorem type_small {r : Rec} (h : rrOk r = true) : 0 ≤ r.type ∧ r.type ≤ 49 := by
 have ht := (rrOk_parts h).2.1
 unfold typeOk at ht
 have := of_decide_eq_true ht
 omega
/-- The keys of records of one name ascend as the records do. -/
theorem keys_lt {a b : Rec} (ha : rrOk a = true) (hb : rrOk b = true) (hn : cmpN a.name b.name = 0) (h : cmpR a b < 0) : cmpB (keyD a) (keyD b) = -1 := by
 have a1 := type_small ha
 have b1 := type_small hb
 have e0 : UInt8.ofNat (a.type / 256).toNat = UInt8.ofNat (b.type / 256).toNat := by
  rw [show a.type / 256 = 0 by omega, show b.type / 256 = 0 by omega]
 have k1 : cmpB (keyD a) (keyD b) = Lib.compareBytes (UInt8.ofNat (a.type / 256).toNat :: UInt8.ofNat (a.type % 256).toNat :: (strOfNums (dataB a)).data.toList) (UInt8.ofNat (b.type / 256).toNat :: UInt8.ofNat (b.type % 256).toNat :: (strOfNums (dataB b)).data.toList) := by
  unfold cmpB
  simp only [keyD, bytes_of, List.nil_append, List.map_cons, List.cons_append]
 rw [k1, e0]
 unfold cmpR at h
 rw [if_neg (by simp [hn])] at h
 unfold Lib.compareBytes
 rw [if_neg (UInt8.lt_irrefl _), if_neg (UInt8.lt_irrefl _)]
 by_cases ht : byLength a.type b.type = 0
 ·rw [if_neg (by simp [ht])] at h
  have et := byLength_zero ht
  rw [et]
  unfold Lib.compareBytes
  rw [if_neg (UInt8.lt_irrefl _), if_neg (UInt8.lt_irrefl _)]
  show cmpB (dataB a) (dataB b) = -1
  have := cmpB_cases (dataB a) (dataB b)
  omega
 ·rw [if_pos ht] at h
  have hlt : a.type < b.type := by
   unfold byLength at h
   split at h
   ·assumption
   ·split at h <;> omega
  have h2 : UInt8.ofNat (a.type % 256).toNat < UInt8.ofNat (b.type % 256).toNat := by
   rw [UInt8.lt_iff_toNat_lt]
   simp only [UInt8.toNat_ofNat']
   omega
  unfold Lib.compareBytes
  rw [if_pos h2]
theorem keys_far {o : List (List Int)} {rs : List Rec} (hg : ∀ i, i < rs.length → GoodS o rs i) (i : Nat) : ∀ d, i + (d + 1) < rs.length → cmpN (rs.getD i recZ).name (rs.getD (i + (d + 1)) recZ).name = 0 → cmpB (keyD (rs.getD i recZ)) (keyD (rs.getD (i + (d + 1)) recZ)) = -1
 | 0, hd, hn => keys_lt (hg i (by omega)).ok (hg _ hd).ok hn (by have := (hg _ hd).next (by omega); simpa using this)
 | d + 1, hd, hn => by
  have hnx := (hg _ hd).next (by omega)
  rw [show i + (d + 1 + 1) - 1 = i + (d + 1) by omega] at hnx
  have hs := sorted_le (rs := rs) (fun j _ hj => cmpR_name ((hg j hj).next (by omega))) (i := i) (j := i + (d + 1)) (by omega) (by omega)
  obtain ⟨e1, e2⟩ := cmpN_between hs (cmpR_name hnx) hn
  have k1 := keys_far hg i d (by omega) e1
  have k2 := keys_lt (hg _ (by omega)).ok (hg _ hd).ok e2 hnx
  have k3 := cmpB_trans (a := keyD (rs.getD i recZ)) (by omega : cmpB _ _ ≤ 0) (by omega : cmpB (keyD (rs.getD (i + (d + 1)) recZ)) (keyD (rs.getD (i + (d + 1 + 1)) recZ)) ≤ 0)
  rcases cmpB_cases (keyD (rs.getD i recZ)) (keyD (rs.getD (i + (d + 1 + 1)) recZ)) with h | h | h
  ·exact h
  ·have := cmpB_between (a := keyD (rs.getD i recZ)) (by omega) (by omega : cmpB (keyD (rs.getD (i + (d + 1)) recZ)) (keyD (rs.getD (i + (d + 1 + 1)) recZ)) ≤ 0) h
   omega
  ·omega
theorem keys_asc {o : List (List Int)} {rs : List Rec} (hz : zoneOk o rs = true) : rs.Pairwise (fun a b => a.name = b.name → cmpB (keyD a) (keyD b) = -1) := by
 have hz' := of_decide_eq_true hz
 have hg := (good_iff hz'.1).1 hz'.2.2.1
 rw [List.pairwise_iff_getElem]
 intro i j hi hj hij hn
 have e1 : rs.getD i recZ = rs[i] := by simp [hi]
 have e2 : rs.getD j recZ = rs[j] := by simp [hj]
 have := keys_far hg i (j - i - 1) (by omega)
 rw [show i + (j - i - 1 + 1) = j by omega, e1, e2] at this
 exact this (by rw [hn]; exact cmpN_self _)
/-- What the records say of a name. -/
def ofName (n : List (List Int)) (rs : List Rec) : List Rec := rs.filter (fun r => decide (r.name = n))
theorem ofName_yes {n : List (List Int)} {l : List Rec} {r : Rec} (h : r.name = n) : ofName n (l ++ [r]) = ofName n l ++ [r] := by simp [ofName, h]
theorem ofName_no {n : List (List Int)} {l : List Rec} {r : Rec} (h : ¬ r.name = n) : ofName n (l ++ [r]) = ofName n l := by simp [ofName, h]
theorem lookA_put_other {κ α : Type} [DecidableEq κ] {k k' : κ} {v : α} (hne : k' ≠ k) : ∀ {l : List (κ × α)}, lookA k (putA k' v l) = lookA k l
 | [] => by simp [putA, lookA, hne]
 | (a, u) :: t => by
  by_cases e : a = k'
  ·subst e
   simp [putA, lookA, hne]
  ·simp only [putA, if_neg e, lookA]
   split
   ·rfl
   ·exact lookA_put_other hne
def keyR (r : Rec) : ByteArray := strOfNums (keyD r)
theorem page_is {n : List (List Int)} (hnn : nameOk n = true) : ∀ (rs : List Rec), (∀ r ∈ rs, nameOk r.name = true) → rs.Pairwise (fun a b => a.name = b.name → cmpB (keyD a) (keyD b) = -1) → ∀ f, f = keyR →
  (lookA (strOfNums (keyN n)) (rs.foldl (fun B r => bkPut (strOfNums (keyN r.name)) (f r) r B) [])).getD [] = (ofName n rs).map (fun r => (keyR r, r)) := by
 intro rs hok hasc f hf
 subst hf
 have key : ∀ k, k ≤ rs.length → (lookA (strOfNums (keyN n)) ((rs.take k).foldl (fun B r => bkPut (strOfNums (keyN r.name)) (keyR r) r B) [])).getD [] = (ofName n (rs.take k)).map (fun r => (keyR r, r)) := by
  intro k
  induction k with
  | zero => intro _; simp [lookA, ofName]
  | succ k ih =>
   intro hk
   have ih := ih (by omega)
   have hkl : k < rs.length := by omega
   rw [List.take_succ_eq_append_getElem hkl, List.foldl_append, List.foldl_cons, List.foldl_nil]
   generalize hB : (rs.take k).foldl (fun B r => bkPut (strOfNums (keyN r.name)) (keyR r) r B) [] = B at ih ⊢
   have hr := hok _ (List.getElem_mem hkl)
   unfold bkPut
   by_cases e : rs[k].name = n
   ·rw [e, lookA_put, ih, Option.getD_some, putA_none]
    ·rw [ofName_yes e, List.map_append]
     rfl
    ·intro p hp
     obtain ⟨x, hx, rfl⟩ := List.mem_map.1 hp
     obtain ⟨hx1, hx2⟩ := List.mem_filter.1 hx
     simp only [decide_eq_true_eq] at hx2
     obtain ⟨i, hi, rfl⟩ := List.getElem_of_mem hx1
     have hik : i < k := by simp at hi; omega
     rw [List.getElem_take] at hx2 ⊢
     have := (List.pairwise_iff_getElem.1 hasc) i k (by omega) hkl hik (hx2.trans e.symm)
     intro he
     have e2 : cmpB (keyD rs[i]) (keyD rs[k]) = cmpB (keyD rs[k]) (keyD rs[k]) := by
      unfold cmpB
      rw [show strOfNums (keyD rs[i]) = strOfNums (keyD rs[k]) from he]
     rw [cmpB_self] at e2
     omega
   ·rw [lookA_put_other (fun he => e (keyN_inj hr hnn he)), ih, ofName_no e]
 have := key rs.length (Nat.le_refl _)
 rwa [List.take_length] at this
theorem page_sorted {n : List (List Int)} {rs : List Rec} (hasc : rs.Pairwise (fun a b => a.name = b.name → cmpB (keyD a) (keyD b) = -1)) : ((ofName n rs).map (fun r => (keyR r).data.toList)).mergeSort leB = (ofName n rs).map (fun r => (keyR r).data.toList) := by
 refine List.mergeSort_of_pairwise ?_
 rw [List.pairwise_map]
 have h1 : (ofName n rs).Pairwise (fun a b => a.name = b.name → cmpB (keyD a) (keyD b) = -1) := hasc.filter _
 refine List.Pairwise.imp_of_mem ?_ h1
 intro a b ha hb h
 have na := (List.mem_filter.1 ha).2
 have nb := (List.mem_filter.1 hb).2
 simp only [decide_eq_true_eq] at na nb
 simp only [leB, decide_eq_true_eq]
 exact List.le_of_lt (less_of _ _ (h (na.trans nb.symm)))
end Go.Proofs.YtfgcmjpkgdjcfaaGreat
