/-
  Plain facts: a page of a zone's book, in the order of its keys, is what the zone says of that name, in the zone's order. No program is named here. Plain facts: a name's text, label by label. No program is named here. Plain facts: a name comes back from its text, great letters being as small ones. No program is named here. Plain facts: what the law of the order of names asks for. No program is named here. Plain facts: the order of records. No program is named here. Plain facts: the keys of names ascend as the names do, and those of records as the records do. No program is named here. Plain facts: what holds cells holds them still. No program is named here. Plain facts: what holds cells holds them still: names, records and rows of them that are owned. No program is named here. Plain facts: a page's records by ascending keys. No program is named here. Plain facts: a book's records by ascending keys, page after page. No program is named here. Plain facts: what SetOf answers. No program is named here. Plain facts: maps whose keys are texts: look-ups that say whether the key is there, and deletions. No program is named here. Plain facts: a record taken out of a zone's book. No program is named here. Plain facts: a record put into a zone, as the specification does it and as a book does. No program is named here. Plain facts: what a book does to add a record is what the specification does. No program is named here. Plain facts: what a book does to drop records of a name and a type is what the specification does. No program is named here.
-/
import Derived.Test.YthobpbnaklnbiaaGreatFnLookupsG10
import Derived.Sort.KeysCollected
import Derived.Test.YthobpbnaklnbiaaGreatFnLookupsG00
import Derived.Test.YthobpbnaklnbiaaGreatFnLookupsG01
import Derived.Test.YthobpbnaklnbiaaGreatFnLookupsG02
import Derived.RangeFuncNested
import Derived.Test.YthobpbnaklnbiaaGreatFnLookupsG06
import Derived.Test.YthobpbnaklnbiaaGreatFnLookupsG09
namespace Go.Proofs.YthobpbnaklnbiaaGreat
open Go.RowKit
set_option linter.unusedVariables false

theorem bytes_of (l : List Int) : (strOfNums l).data.toList = l.map (fun n => UInt8.ofNat n.toNat) := by simp [strOfNums]
theorem less_of : ∀ (a b : List UInt8), Lib.compareBytes a b = -1 → a < b
 | [], [], h => by simp [Lib.compareBytes] at h
 | [], _ :: _, _ => List.nil_lt_cons _ _
 | _ :: _, [], h => by simp [Lib.compareBytes] at h
 | x :: a, y :: b, h => by
  unfold Lib.compareBytes at h
  rw [List.cons_lt_cons_iff]
  by_cases h1 : x < y
  ·exact .inl h1
  ·simp only [h1, if_false] at h
   by_cases h2 : y < x
   ·simp [h2] at h
   ·simp only [h2, if_false] at h
    exact .inr ⟨UInt8.le_antisymm (UInt8.not_lt.1 h2) (UInt8.not_lt.1 h1), less_of a b h⟩
theorem type_small {r : Rec} (h : rrOk r = true) : 0 ≤ r.type ∧ r.type ≤ 49 := by
 have ht := (rrOk_parts h).2.1
 unfold typeOk at ht
 have := of_decide_eq_true ht
 omega
theorem keys_lt {a b : Rec} (ha : rrOk a = true) (hb : rrOk b = true) (hn : cmpN a.name b.name = 0) (h : cmpR a b < 0) : cmpB (keyD a) (keyD b) = -1 := by
 have a1 := type_small ha
 have b1 := type_small hb
 have e0 : UInt8.ofNat (a.type / 256).toNat = UInt8.ofNat (b.type / 256).toNat := by
  rw [show a.type / 256 = 0 by omega, show b.type / 256 = 0 by omega]
 have k1 : cmpB (keyD a) (keyD b) = Lib.compareBytes (UInt8.ofNat (a.type / 256).toNat :: UInt8.ofNat (a.type % 256).toNat :: (strOfNums (dataB a)).data.toList) (UInt8.ofNat (b.type / 256).toNat :: UInt8.ofNat (b.type % 256).toNat :: (strOfNums (dataB b)).data.toList) := by
  unfold cmpB
  simp only [keyD, bytes_of, List.nil_append, List.map_cons, List.cons_append]
 rw [k1, e0]
 unfold cmpR at h
 rw [if_neg (by simp [hn])] at h
 unfold Lib.compareBytes
 rw [if_neg (UInt8.lt_irrefl _), if_neg (UInt8.lt_irrefl _)]
 by_cases ht : byLength a.type b.type = 0
 ·rw [if_neg (by simp [ht])] at h
  have et := byLength_zero ht
  rw [et]
  unfold Lib.compareBytes
  rw [if_neg (UInt8.lt_irrefl _), if_neg (UInt8.lt_irrefl _)]
  show cmpB (dataB a) (dataB b) = -1
  have := cmpB_cases (dataB a) (dataB b)
  omega
 ·rw [if_pos ht] at h
  have hlt : a.type < b.type := by
   unfold byLength at h
   split at h
   ·assumption
   ·split at h <;> omega
  have h2 : UInt8.ofNat (a.type % 256).toNat < UInt8.ofNat (b.type % 256).toNat := by
   rw [UInt8.lt_iff_toNat_lt]
   simp only [UInt8.toNat_ofNat']
   omega
  unfold Lib.compareBytes
  rw [if_pos h2]
theorem keys_far {o : List (List Int)} {rs : List Rec} (hg : ∀ i, i < rs.length → GoodS o rs i) (i : Nat) : ∀ d, i + (d + 1) < rs.length → cmpN (rs.getD i recZ).name (rs.getD (i + (d + 1)) recZ).name = 0 → cmpB (keyD (rs.getD i recZ)) (keyD (rs.getD (i + (d + 1)) recZ)) = -1
 | 0, hd, hn => keys_lt (hg i (by omega)).ok (hg _ hd).ok hn (by have := (hg _ hd).next (by omega); simpa using this)
 | d + 1, hd, hn => by
  have hnx := (hg _ hd).next (by omega)
  rw [show i + (d + 1 + 1) - 1 = i + (d + 1) by omega] at hnx
  have hs := sorted_le (rs := rs) (fun j _ hj => cmpR_name ((hg j hj).next (by omega))) (i := i) (j := i + (d + 1)) (by omega) (by omega)
  obtain ⟨e1, e2⟩ := cmpN_between hs (cmpR_name hnx) hn
  have k1 := keys_far hg i d (by omega) e1
  have k2 := keys_lt (hg _ (by omega)).ok (hg _ hd).ok e2 hnx
  have k3 := cmpB_trans (a := keyD (rs.getD i recZ)) (by omega : cmpB _ _ ≤ 0) (by omega : cmpB (keyD (rs.getD (i + (d + 1)) recZ)) (keyD (rs.getD (i + (d + 1 + 1)) recZ)) ≤ 0)
  rcases cmpB_cases (keyD (rs.getD i recZ)) (keyD (rs.getD (i + (d + 1 + 1)) recZ)) with h | h | h
  ·exact h
  ·have := cmpB_between (a := keyD (rs.getD i recZ)) (by omega) (by omega : cmpB (keyD (rs.getD (i + (d + 1)) recZ)) (keyD (rs.getD (i + (d + 1 + 1)) recZ)) ≤ 0) h
   omega
  ·omega
theorem keys_asc {o : List (List Int)} {rs : List Rec} (hz : zoneOk o rs = true) : rs.Pairwise (fun a b => a.name = b.name → cmpB (keyD a) (keyD b) = -1) := by
 have hz' := of_decide_eq_true hz
 have hg := (good_iff hz'.1).1 hz'.2.2.1
 rw [List.pairwise_iff_getElem]
 intro i j hi hj hij hn
 have e1 : rs.getD i recZ = rs[i] := by simp [hi]
 have e2 : rs.getD j recZ = rs[j] := by simp [hj]
 have := keys_far hg i (j - i - 1) (by omega)
 rw [show i + (j - i - 1 + 1) = j by omega, e1, e2] at this
 exact this (by rw [hn]; exact cmpN_self _)
def ofName (n : List (List Int)) (rs : List Rec) : List Rec := rs.filter (fun r => decide (r.name = n))
theorem ofName_yes {n : List (List Int)} {l : List Rec} {r : Rec} (h : r.name = n) : ofName n (l ++ [r]) = ofName n l ++ [r] := by simp [ofName, h]
theorem ofName_no {n : List (List Int)} {l : List Rec} {r : Rec} (h : ¬ r.name = n) : ofName n (l ++ [r]) = ofName n l := by simp [ofName, h]
theorem lookA_put_other {κ α : Type} [DecidableEq κ] {k k' : κ} {v : α} (hne : k' ≠ k) : ∀ {l : List (κ × α)}, lookA k (putA k' v l) = lookA k l
 | [] => by simp [putA, lookA, hne]
 | (a, u) :: t => by
  by_cases e : a = k'
  ·subst e
   simp [putA, lookA, hne]
  ·simp only [putA, if_neg e, lookA]
   split
   ·rfl
   ·exact lookA_put_other hne
def keyR (r : Rec) : ByteArray := strOfNums (keyD r)
theorem page_is {n : List (List Int)} (hnn : nameOk n = true) : ∀ (rs : List Rec), (∀ r ∈ rs, nameOk r.name = true) → rs.Pairwise (fun a b => a.name = b.name → cmpB (keyD a) (keyD b) = -1) → ∀ f, f = keyR →
  (lookA (strOfNums (keyN n)) (rs.foldl (fun B r => bkPut (strOfNums (keyN r.name)) (f r) r B) [])).getD [] = (ofName n rs).map (fun r => (keyR r, r)) := by
 intro rs hok hasc f hf
 subst hf
 have key : ∀ k, k ≤ rs.length → (lookA (strOfNums (keyN n)) ((rs.take k).foldl (fun B r => bkPut (strOfNums (keyN r.name)) (keyR r) r B) [])).getD [] = (ofName n (rs.take k)).map (fun r => (keyR r, r)) := by
  intro k
  induction k with
  | zero => intro _; simp [lookA, ofName]
  | succ k ih =>
   intro hk
   have ih := ih (by omega)
   have hkl : k < rs.length := by omega
   rw [List.take_succ_eq_append_getElem hkl, List.foldl_append, List.foldl_cons, List.foldl_nil]
   generalize hB : (rs.take k).foldl (fun B r => bkPut (strOfNums (keyN r.name)) (keyR r) r B) [] = B at ih ⊢
   have hr := hok _ (List.getElem_mem hkl)
   unfold bkPut
   by_cases e : rs[k].name = n
   ·rw [e, lookA_put, ih, Option.getD_some, putA_none]
    ·rw [ofName_yes e, List.map_append]
     rfl
    ·intro p hp
     obtain ⟨x, hx, rfl⟩ := List.mem_map.1 hp
     obtain ⟨hx1, hx2⟩ := List.mem_filter.1 hx
     simp only [decide_eq_true_eq] at hx2
     obtain ⟨i, hi, rfl⟩ := List.getElem_of_mem hx1
     have hik : i < k := by simp at hi; omega
     rw [List.getElem_take] at hx2 ⊢
     have := (List.pairwise_iff_getElem.1 hasc) i k (by omega) hkl hik (hx2.trans e.symm)
     intro he
     have e2 : cmpB (keyD rs[i]) (keyD rs[k]) = cmpB (keyD rs[k]) (keyD rs[k]) := by
      unfold cmpB
      rw [show strOfNums (keyD rs[i]) = strOfNums (keyD rs[k]) from he]
     rw [cmpB_self] at e2
     omega
   ·rw [lookA_put_other (fun he => e (keyN_inj hr hnn he)), ih, ofName_no e]
 have := key rs.length (Nat.le_refl _)
 rwa [List.take_length] at this
theorem page_sorted {n : List (List Int)} {rs : List Rec} (hasc : rs.Pairwise (fun a b => a.name = b.name → cmpB (keyD a) (keyD b) = -1)) : ((ofName n rs).map (fun r => (keyR r).data.toList)).mergeSort leB = (ofName n rs).map (fun r => (keyR r).data.toList) := by
 refine List.mergeSort_of_pairwise ?_
 rw [List.pairwise_map]
 have h1 : (ofName n rs).Pairwise (fun a b => a.name = b.name → cmpB (keyD a) (keyD b) = -1) := hasc.filter _
 refine List.Pairwise.imp_of_mem ?_ h1
 intro a b ha hb h
 have na := (List.mem_filter.1 ha).2
 have nb := (List.mem_filter.1 hb).2
 simp only [decide_eq_true_eq] at na nb
 simp only [leB, decide_eq_true_eq]
 exact List.le_of_lt (less_of _ _ (h (na.trans nb.symm)))
end Go.Proofs.YthobpbnaklnbiaaGreat

namespace Go.Proofs.YthobpbnaklnbiaaGreat
open Go.RowKit

def dots (n : List (List Int)) (k : Nat) : List Int := ((n.take k).map (fun l => l ++ [46])).flatten

theorem dots_zero (n : List (List Int)) : dots n 0 = [] := by simp [dots]
theorem dots_succ (n : List (List Int)) (k : Nat) (h : k < n.length) : dots n (k + 1) = dots n k ++ n.getD k [] ++ [46] := by
 unfold dots
 rw [List.take_succ_eq_append_getElem h, List.map_append, List.flatten_append, show n.getD k [] = n[k] by simp [h]]
 simp only [List.map_cons, List.map_nil, List.flatten_cons, List.flatten_nil, List.append_nil, List.append_assoc]

theorem dots_length (n : List (List Int)) (h : nameOk n = true) (k : Nat) : (dots n k).length ≤ 16 * k := by
 induction k with
 | zero => simp [dots]
 | succ k ih =>
  by_cases hk : k < n.length
  ·rw [dots_succ n k hk]
   have := (labelOk_length ((nameOk_parts h).2 k hk)).2
   simp only [List.length_append, List.length_cons, List.length_nil]
   omega
  ·have e : dots n (k + 1) = dots n k := by unfold dots; rw [List.take_of_length_le (by omega), List.take_of_length_le (by omega)]
   rw [e]; omega

def nameText (n : List (List Int)) : List Int := if nameOk n = true then (if n.length = 0 then [46] else dots n n.length) else []

theorem nameText_no {n : List (List Int)} (h : nameOk n = false) : nameText n = [] := by simp [nameText, h]
theorem nameText_root {n : List (List Int)} (h : nameOk n = true) (h0 : n.length = 0) : nameText n = [46] := by simp [nameText, h, h0]
theorem nameText_some {n : List (List Int)} (h : nameOk n = true) (h0 : n.length ≠ 0) : nameText n = dots n n.length := by simp [nameText, h, h0]
end Go.Proofs.YthobpbnaklnbiaaGreat

namespace Go.Proofs.YthobpbnaklnbiaaGreat
open Go.RowKit

theorem lowered_map (l : List Int) : lowered l l.length = l.map low := by
 apply List.ext_getElem?
 intro j
 by_cases hj : j < l.length
 ·simp [lowered, hj]
 ·simp [lowered, hj]

theorem rest_one (e : Bool) (f : Int → Int) (h46 : f 46 = 46) : ∀ (l cur xs : List Int), (∀ c ∈ l, f c ≠ 46) → rest e ((l ++ 46 :: xs).map f) cur = (cur ++ l.map f).map low :: rest e (xs.map f) []
 | [], cur, xs, _ => by
  show rest e (f 46 :: xs.map f) cur = _
  rw [rest, if_pos h46, lowered_map]
  simp
 | x :: l, cur, xs, h => by
  show rest e (f x :: (l ++ 46 :: xs).map f) cur = _
  rw [rest, if_neg (h x (by simp)), rest_one e f h46 l _ xs (fun c hc => h c (by simp [hc]))]
  simp

structure Keeps (f : Int → Int) : Prop where
 dot : f 46 = 46
 sign : ∀ c, signOk c = true → f c ≠ 46 ∧ low (f c) = c

theorem keeps_id : Keeps id := ⟨rfl, fun c h => by
 have := of_decide_eq_true h
 simp only [id]
 unfold low
 split <;> omega⟩
theorem dots_cons (l : List Int) (n : List (List Int)) : dots (l :: n) (l :: n).length = l ++ 46 :: dots n n.length := by
 unfold dots
 rw [List.take_length, List.take_length]
 simp
theorem rest_text {f : Int → Int} (hf : Keeps f) : ∀ (n : List (List Int)), (∀ l ∈ n, ∀ c ∈ l, signOk c = true) → rest true ((dots n n.length).map f) [] = n
 | [], _ => rfl
 | l :: n, h => by
  rw [dots_cons, rest_one true f hf.dot l [] _ (fun c hc => (hf.sign c (h l (by simp) c hc)).1), rest_text hf n (fun l' hl => h l' (by simp [hl]))]
  congr 1
  rw [List.nil_append, List.map_map]
  have : l.map (low ∘ f) = l.map id := List.map_congr_left (fun c hc => (hf.sign c (h l (by simp) c hc)).2)
  rw [this, List.map_id]

theorem nameOk_signs {n : List (List Int)} (h : nameOk n = true) : ∀ l ∈ n, (1 ≤ l.length) ∧ ∀ c ∈ l, signOk c = true := by
 intro l hl
 obtain ⟨j, hj, rfl⟩ := List.getElem_of_mem hl
 have hk := (nameOk_parts h).2 j hj
 rw [List.getD_eq_getElem?_getD, List.getElem?_eq_getElem hj, Option.getD_some] at hk
 have hd := of_decide_eq_true hk
 refine ⟨hd.1, fun c hc => ?_⟩
 obtain ⟨i, hi, rfl⟩ := List.getElem_of_mem hc
 have := hd.2.2 i hi
 rwa [List.getD_eq_getElem?_getD, List.getElem?_eq_getElem hi, Option.getD_some] at this

theorem nameRead_text {f : Int → Int} (hf : Keeps f) {n : List (List Int)} (h : nameOk n = true) : nameRead ((nameText n).map f) = (n, true) := by
 by_cases h0 : n.length = 0
 ·rw [nameText_root h h0]
  have : n = [] := List.eq_nil_of_length_eq_zero h0
  subst this
  unfold nameRead
  rw [if_pos (by simp [hf.dot])]
 ·rw [nameText_some h h0]
  have hs := nameOk_signs h
  have hr := rest_text hf n (fun l hl => (hs l hl).2)
  match n, h0 with
  | l :: n, _ =>
   have hl := (hs l (by simp)).1
   have hlen : 2 ≤ ((dots (l :: n) (l :: n).length).map f).length := by
    rw [dots_cons]
    simp
    omega
   have hin : labelsIn ((dots (l :: n) (l :: n).length).map f) = l :: n := by
    unfold labelsIn
    rw [decide_eq_true (by omega)]
    exact hr
   unfold nameRead
   rw [if_neg (fun e => by rw [e] at hlen; simp at hlen), hin, if_pos h]

theorem nameRead_text' {n : List (List Int)} (h : nameOk n = true) : nameRead (nameText n) = (n, true) := by
 have := nameRead_text keeps_id h
 rwa [List.map_id] at this
theorem nameText_inj {n m : List (List Int)} (h : nameOk n = true) (h' : nameOk m = true) : nameText n = nameText m ↔ n = m := by
 refine ⟨fun e => ?_, fun e => by rw [e]⟩
 have h1 := nameRead_text' h
 rw [e, nameRead_text' h'] at h1
 exact (Prod.mk.inj h1).1.symm
theorem nameText_bytes (n : List (List Int)) : ∀ c ∈ nameText n, 0 ≤ c ∧ c ≤ 255 := by
 intro c hc
 unfold nameText at hc
 split at hc
 ·rename_i h
  split at hc
  ·simp at hc
   omega
  ·unfold dots at hc
   rw [List.take_length] at hc
   simp only [List.mem_flatten, List.mem_map] at hc
   obtain ⟨x, ⟨l, hl, rfl⟩, hc⟩ := hc
   simp at hc
   rcases hc with hc | rfl
   ·have := of_decide_eq_true ((nameOk_signs h l hl).2 c hc)
    omega
   ·omega
 ·simp at hc
end Go.Proofs.YthobpbnaklnbiaaGreat

namespace Go.Proofs.YthobpbnaklnbiaaGreat
open Go.RowKit

end Go.Proofs.YthobpbnaklnbiaaGreat

namespace Go.Proofs.YthobpbnaklnbiaaGreat
open Go.RowKit

theorem byLength_swap (x y : Int) : byLength x y = - byLength y x := by
 unfold byLength
 by_cases h1 : x < y
 ·simp [h1, show ¬ y < x by omega]
 ·by_cases h2 : y < x
  ·simp [h1, h2]
  ·simp [h1, h2]
theorem cmpR_swap (a b : Rec) : cmpR a b = - cmpR b a := by
 unfold cmpR
 have h1 := cmpN_swap a.name b.name
 have h2 := byLength_swap a.type b.type
 have h3 := cmpB_swap (dataB a) (dataB b)
 by_cases e1 : cmpN b.name a.name = 0
 ·rw [e1] at h1
  by_cases e2 : byLength b.type a.type = 0
  ·rw [e2] at h2
   simp only [h1, h2, e1, e2]
   simpa using h3
  ·have e2' : byLength a.type b.type ≠ 0 := by omega
   simp only [h1, e1]
   simp [e2, e2']
   exact h2
 ·have e1' : cmpN a.name b.name ≠ 0 := by omega
  simp [e1, e1']
  exact h1
theorem cmpR_self (a : Rec) : cmpR a a = 0 := by
 have := cmpR_swap a a
 omega
theorem rrOk_time {a : Rec} (h : rrOk a = true) (t : Int) (h0 : 0 ≤ t) (h1 : t ≤ 100000) : rrOk ⟨a.name, a.type, t, a.addr, a.to, a.text, a.nums⟩ = true := by
 unfold rrOk at h ⊢
 simp only [Bool.and_eq_true] at h ⊢
 exact ⟨h.1, h.2.1, decide_eq_true ⟨h0, h1⟩, h.2.2.2⟩
end Go.Proofs.YthobpbnaklnbiaaGreat

namespace Go.Proofs.YthobpbnaklnbiaaGreat
open Go.RowKit
set_option linter.unusedVariables false

def KeptC (W W' : World) : Prop := ∀ (g : Nat) (c : Array Value) (t : TypeId), W.heap[g]? = some (.cells c t) → W'.heap[g]? = some (.cells c t)
theorem keptC_of {W W' : World} {row : Option Nat} (hg : W.grownBy W' row) (hr : ∀ r, row = some r → ∃ o : Obj, W.heap[r]? = some o ∧ o.isCells = false) : KeptC W W' := by
 intro g c t h
 have hlt : g < W.heap.size := (Array.getElem?_eq_some_iff.1 h).1
 refine (hg.block g hlt ?_).trans h
 intro e
 obtain ⟨o, h1, h2⟩ := hr g e.symm
 rw [h] at h1
 cases h1
 cases h2
theorem row_keptC {W W' : World} {B n s : Nat} {e : TypeId} {v : Value} {xs : List Value} (h : W.ownsRow B e s v n xs) (hk : KeptC W W') : W'.ownsRow B e s v n xs := by
 obtain ⟨h1, h2⟩ := h
 rcases h2 with h2 | ⟨g, cap, c, h3, h4, h5, h6⟩
 ·exact ⟨h1, .inl h2⟩
 ·exact ⟨h1, .inr ⟨g, cap, c, h3, h4, hk _ _ _ h5, h6⟩⟩
theorem OwnN.keptC {C E : Nat} {el eb : TypeId} {W W' : World} {v : Value} {n : List (List Int)} (h : OwnN C E el eb W v n) (hk : KeptC W W') : OwnN C E el eb W' v n := by
 obtain ⟨vs, ho, hu, hd, hv, he⟩ := h
 refine ⟨vs, row_keptC ho hk, fun i hi => ?_, hd, hv, he⟩
 obtain ⟨x, h1, h2⟩ := hu i hi
 exact ⟨x, h1, row_keptC h2 hk⟩
theorem OwnB.keptC {C E : Nat} {e : TypeId} {W W' : World} {v : Value} {l : List Int} (h : OwnB C E e W v l) (hk : KeptC W W') : OwnB C E e W' v l := ⟨row_keptC h.1 hk, h.2⟩
theorem OwnBI.keptC {C E : Nat} {e : TypeId} {W W' : World} {v : Value} {l : List Int} (h : OwnBI C E e W v l) (hk : KeptC W W') : OwnBI C E e W' v l := ⟨row_keptC h.1 hk, h.2⟩
theorem OwnR.keptC {B E : Nat} {el eb ei : TypeId} {W W' : World} {vn vt vx vi : Value} {r : Rec} (h : OwnR B E el eb ei W vn vt vx vi r) (hk : KeptC W W') : OwnR B E el eb ei W' vn vt vx vi r := by
 obtain ⟨s1, s2, s3, a1, a2, a3, a4, h1, h2, h3, h4⟩ := h
 exact ⟨s1, s2, s3, a1, a2, a3, a4, h1.keptC hk, h2.keptC hk, h3.keptC hk, h4.keptC hk⟩
theorem RowO.keptC {B E : Nat} {er el eb ei : TypeId} {W W' : World} {v : Value} {rs : List Rec} (h : RowO B E er el eb ei W v rs) (hk : KeptC W W') : RowO B E er el eb ei W' v rs := by
 obtain ⟨xs, f, g, ho, hq, hx⟩ := h
 refine ⟨xs, f, g, row_keptC ho hk, hq, fun i hi => ?_⟩
 obtain ⟨h1, h2, h3, h4, vn, vt, vx, vi, q1, q2⟩ := hx i hi
 exact ⟨h1, h2, h3, h4, vn, vt, vx, vi, q1, q2.keptC hk⟩
theorem row_notC {B b n s : Nat} {e : TypeId} {w : World} {v : Value} {xs : List Value} {o : Obj} (h : w.ownsRow B e s v n xs) (hb : w.heap[b]? = some o) (ho : o.isCells = false) : v.ownBlock ≠ some b := by
 intro hq
 rcases h.2 with ⟨rfl, _⟩ | ⟨g, cap, cur, rfl, _, hg, _⟩
 ·simp [Value.ownBlock] at hq
 ·simp [Value.ownBlock] at hq
  subst hq
  rw [hg] at hb
  cases hb
  cases ho
theorem row_type {B b n s : Nat} {e t : TypeId} {w : World} {v : Value} {xs : List Value} {c : Array Value} (h : w.ownsRow B e s v n xs) (hb : w.heap[b]? = some (.cells c t)) (hne : t ≠ e) : v.ownBlock ≠ some b := by
 intro hq
 rcases h.2 with ⟨rfl, _⟩ | ⟨g, cap, cur, rfl, _, hg, _⟩
 ·simp [Value.ownBlock] at hq
 ·simp [Value.ownBlock] at hq
  subst hq
  rw [hg] at hb
  cases hb
  exact hne rfl
def keysP {α : Type} (P : List (ByteArray × α)) : List (List UInt8) := (P.map (fun p => p.1.data.toList)).mergeSort leB
theorem keysP_length {α : Type} (P : List (ByteArray × α)) : (keysP P).length = P.length := by simp [keysP]
def atKey (P : Pg) (k : List UInt8) : Rec := (lookA ⟨k.toArray⟩ P).getD recZ
def sortP (P : Pg) : List Rec := (keysP P).map (atKey P)
theorem keysP_mem {α : Type} {P : List (ByteArray × α)} {k : List UInt8} (h : k ∈ keysP P) : ∃ v, ((⟨k.toArray⟩ : ByteArray), v) ∈ P := by
 unfold keysP at h
 rw [List.mem_mergeSort] at h
 obtain ⟨p, hp, rfl⟩ := List.mem_map.1 h
 exact ⟨p.2, by simpa using hp⟩
theorem two_keysP {α β : Type} {Q : α → β → Prop} {l : List (ByteArray × α)} {m : List (ByteArray × β)} (h : Two (AtKeys ByteArray Q) l m) : keysP l = keysP m := by
 unfold keysP
 congr 1
 induction h with
 | nil => rfl
 | cons h1 _ ih => rw [List.map_cons, List.map_cons, h1.1, ih]
def OptPage (w : World) (mb : Option Nat) (P : Pg) : Prop := (mb = none ∧ P = []) ∨ ∃ p, mb = some p ∧ PageM w p P
theorem sortP_page {n : List (List Int)} {rs : List Rec} (hasc : rs.Pairwise (fun a b => a.name = b.name → cmpB (keyD a) (keyD b) = -1)) (hA : ((ofName n rs).map (fun r => (keyR r, r))).Pairwise (fun p q => p.1 ≠ q.1)) : sortP ((ofName n rs).map (fun r => (keyR r, r))) = ofName n rs := by
 unfold sortP keysP
 rw [List.map_map]
 have := page_sorted (n := n) hasc
 rw [show ((fun p : ByteArray × Rec => p.1.data.toList) ∘ fun r => (keyR r, r)) = fun r => (keyR r).data.toList from rfl, this, List.map_map]
 conv => rhs; rw [← List.map_id (ofName n rs)]
 refine List.map_congr_left (fun r hr => ?_)
 simp only [Function.comp, atKey, id]
 have hl : lookA (keyR r) ((ofName n rs).map (fun r => (keyR r, r))) = some r := lookA_mem hA (List.mem_map.2 ⟨r, hr, rfl⟩)
 rw [show (⟨(keyR r).data.toList.toArray⟩ : ByteArray) = keyR r by simp, hl]
 rfl
structure GoodP (kn : ByteArray) (P : Pg) : Prop where
 apart : P.Pairwise (fun p q => p.1 ≠ q.1)
 keys : ∀ x ∈ P, x.1 = keyR x.2 ∧ rrOk x.2 = true ∧ kn = strOfNums (keyN x.2.name)
structure GoodB (B : Bk) : Prop where
 apart : B.Pairwise (fun p q => p.1 ≠ q.1)
 pages : ∀ q ∈ B, GoodP q.1 q.2
theorem putA_keys {κ α : Type} [DecidableEq κ] {k : κ} {v : α} : ∀ {l : List (κ × α)}, l.Pairwise (fun p q => p.1 ≠ q.1) → (putA k v l).Pairwise (fun p q => p.1 ≠ q.1)
 | [], _ => by simp [putA]
 | (a, u) :: t, h => by
  obtain ⟨h1, h2⟩ := List.pairwise_cons.1 h
  by_cases e : a = k
  ·subst e
   simp only [putA, if_true]
   exact List.pairwise_cons.2 ⟨fun q hq => h1 q hq, h2⟩
  ·simp only [putA, if_neg e]
   refine List.pairwise_cons.2 ⟨fun q hq => ?_, putA_keys h2⟩
   rcases mem_putA hq with rfl | hq
   ·exact e
   ·exact h1 q hq
theorem goodP_nil (kn : ByteArray) : GoodP kn [] := ⟨List.Pairwise.nil, fun x hx => by simp at hx⟩
theorem GoodB.page {B : Bk} (h : GoodB B) (kn : ByteArray) : GoodP kn ((lookA kn B).getD []) := by
 cases hl : lookA kn B with
 | none => exact goodP_nil kn
 | some P => exact h.pages _ (lookA_in hl)
theorem GoodB.put {B : Bk} (h : GoodB B) {r : Rec} (hr : rrOk r = true) : GoodB (bkPut (strOfNums (keyN r.name)) (keyR r) r B) := by
 refine ⟨putA_keys h.apart, fun q hq => ?_⟩
 rcases mem_putA hq with rfl | hq
 ·have hp := h.page (strOfNums (keyN r.name))
  refine ⟨putA_keys hp.apart, fun x hx => ?_⟩
  rcases mem_putA hx with rfl | hx
  ·exact ⟨rfl, hr, rfl⟩
  ·exact hp.keys x hx
 ·exact h.pages q hq
def selT (t : Int) (r : Rec) : Bool := (t == 255) || (r.type == t)
def setOf (o : List (List Int)) (rs : List Rec) (n : List (List Int)) (t : Int) : List Rec := if zoneOk o rs = true ∧ nameOk n = true then selK n t rs rs.length else []
theorem selK_filter (n : List (List Int)) (t : Int) (rs : List Rec) : selK n t rs rs.length = rs.filter (selB n t) := by
 have h : ∀ k, k ≤ rs.length → selK n t rs k = (rs.take k).filter (selB n t) := by
  intro k
  induction k with
  | zero => intro _; simp [selK]
  | succ k ih =>
   intro hk
   have hkl : k < rs.length := by omega
   have e : rs.getD k recZ = rs[k] := by simp [hkl]
   rw [selK, ih (by omega), List.take_succ_eq_append_getElem hkl, List.filter_append, e]
   by_cases hs : selB n t rs[k] = true
   ·rw [if_pos hs, List.filter_cons_of_pos hs, List.filter_nil]
   ·rw [if_neg hs, List.filter_cons_of_neg hs, List.filter_nil, List.append_nil]
 have := h rs.length (Nat.le_refl _)
 rwa [List.take_length] at this
theorem byteL_of {n : List (List Int)} (h : nameOk n = true) : ByteL n := fun l hl x hx => by
 have := sign_of h l hl x hx
 omega
theorem set_is {o n : List (List Int)} {rs : List Rec} (hz : zoneOk o rs = true) (hn : nameOk n = true) (t : Int) : (sortP ((ofName n rs).map (fun r => (keyR r, r)))).filter (selT t) = selK n t rs rs.length := by
 have hasc := keys_asc hz
 have hok := names_ok (zone_oks hz)
 rw [sortP_page hasc, selK_filter]
 ·unfold ofName
  rw [List.filter_filter]
  refine List.filter_congr (fun r hr => ?_)
  have hb : (cmpN r.name n == 0) = decide (r.name = n) := by
   rw [Bool.eq_iff_iff, beq_iff_eq, decide_eq_true_iff]
   exact cmpN_zero (byteL_of (hok r hr)) (byteL_of hn)
  unfold selB selT
  rw [hb, Bool.and_comm]
 ·rw [List.pairwise_map]
  have h1 : (ofName n rs).Pairwise (fun a b => a.name = b.name → cmpB (keyD a) (keyD b) = -1) := hasc.filter _
  refine List.Pairwise.imp_of_mem ?_ h1
  intro a b ha hb h e
  have na := (List.mem_filter.1 ha).2
  have nb := (List.mem_filter.1 hb).2
  simp only [decide_eq_true_eq] at na nb
  have e2 := h (na.trans nb.symm)
  have e3 : cmpB (keyD a) (keyD b) = cmpB (keyD b) (keyD b) := by
   unfold cmpB
   rw [show strOfNums (keyD a) = strOfNums (keyD b) from e]
  rw [cmpB_self] at e3
  omega
theorem page_of_zone {o n : List (List Int)} {rs : List Rec} (hz : zoneOk o rs = true) (hn : nameOk n = true) : (lookA (strOfNums (keyN n)) (rs.foldl (fun B r => bkPut (strOfNums (keyN r.name)) (strOfNums (keyD r)) r B) [])).getD [] = (ofName n rs).map (fun r => (keyR r, r)) := page_is hn rs (names_ok (zone_oks hz)) (keys_asc hz) keyR rfl
theorem ofName_short {o n : List (List Int)} {rs : List Rec} (hz : zoneOk o rs = true) : ((ofName n rs).map (fun r => (keyR r, r))).length ≤ 1000 ∧ ∀ x ∈ (ofName n rs).map (fun r => (keyR r, r)), ShortR x.2 := by
 have h := zone_short hz
 refine ⟨?_, fun x hx => ?_⟩
 ·rw [List.length_map]
  have := List.length_filter_le (fun r : Rec => decide (r.name = n)) rs
  unfold ofName
  omega
 ·obtain ⟨r, hr, rfl⟩ := List.mem_map.1 hx
  obtain ⟨i, hi, rfl⟩ := List.getElem_of_mem (List.mem_filter.1 hr).1
  have := h.2.1 i hi
  simpa [hi] using this
end Go.Proofs.YthobpbnaklnbiaaGreat

namespace Go.Proofs.YthobpbnaklnbiaaGreat
open Go.RowKit
open Go.ChangeMaps (setBlock heap_setBlock_same heap_setBlock_other)
open Go.MapKept (stamped_iff stamped_erase Stamped)
open Go.Maps (Keyed string_keyed)
open Go.WideMaps (keyOf_string_mk)
set_option linter.unusedVariables false

def delA {κ β : Type} [DecidableEq κ] (k : κ) : List (κ × β) → List (κ × β)
 | [] => []
 | (a, u) :: t => if a = k then t else (a, u) :: delA k t
theorem mem_delA {κ β : Type} [DecidableEq κ] {k : κ} : ∀ {ps : List (κ × β)}, ps.Pairwise (fun p q => p.1 ≠ q.1) → ∀ {p : κ × β}, p ∈ delA k ps ↔ p ∈ ps ∧ p.1 ≠ k
 | [], _, p => by simp [delA]
 | (a, u) :: t, hd, p => by
  obtain ⟨h1, h2⟩ := List.pairwise_cons.1 hd
  by_cases e : a = k
  ·subst e
   rw [delA, if_pos rfl]
   constructor
   ·intro hp
    exact ⟨List.mem_cons_of_mem _ hp, fun e => h1 p hp e.symm⟩
   ·rintro ⟨hp, hne⟩
    rcases List.mem_cons.1 hp with rfl | hp
    ·exact absurd rfl hne
    ·exact hp
  ·rw [delA, if_neg e, List.mem_cons, mem_delA h2]
   constructor
   ·rintro (rfl | ⟨hp, hne⟩)
    ·exact ⟨List.mem_cons_self .., e⟩
    ·exact ⟨List.mem_cons_of_mem _ hp, hne⟩
   ·rintro ⟨hp, hne⟩
    rcases List.mem_cons.1 hp with rfl | hp
    ·exact .inl rfl
    ·exact .inr ⟨hp, hne⟩
section
variable {P : Program} {t k e : TypeId} {w : World} {b : Nat} {ps : List (ByteArray × Value)}
end
end Go.Proofs.YthobpbnaklnbiaaGreat

namespace Go.Proofs.YthobpbnaklnbiaaGreat
open Go.RowKit
set_option linter.unusedVariables false

theorem oks_of {o : List (List Int)} {rs : List Rec} (hz : zoneOk o rs = true) : ∀ r ∈ rs, rrOk r = true := by
 intro r hr
 obtain ⟨i, hi, rfl⟩ := List.getElem_of_mem hr
 have := zone_oks hz i hi
 simpa [hi] using this
def bkDel (kn kd : ByteArray) (B : Bk) : Bk := B.map (fun q => if q.1 = kn then (q.1, delA kd q.2) else q)
theorem delA_apart {κ β : Type} [DecidableEq κ] {k : κ} : ∀ {l : List (κ × β)}, l.Pairwise (fun p q => p.1 ≠ q.1) → (delA k l).Pairwise (fun p q => p.1 ≠ q.1)
 | [], _ => List.Pairwise.nil
 | (a, u) :: t, h => by
  obtain ⟨h1, h2⟩ := List.pairwise_cons.1 h
  by_cases e : a = k
  ·rw [delA, if_pos e]
   exact h2
  ·rw [delA, if_neg e]
   exact List.pairwise_cons.2 ⟨fun q hq => h1 q ((mem_delA h2).1 hq).1, delA_apart h2⟩
theorem bkDel_fst (kn kd : ByteArray) (q : ByteArray × Pg) : (if q.1 = kn then (q.1, delA kd q.2) else q).1 = q.1 := by split <;> rfl
theorem GoodB.del {B : Bk} (h : GoodB B) (kn kd : ByteArray) : GoodB (bkDel kn kd B) := by
 refine ⟨?_, fun q hq => ?_⟩
 ·unfold bkDel
  rw [List.pairwise_map]
  exact h.apart.imp (fun {a b} hab => by rw [bkDel_fst, bkDel_fst]; exact hab)
 ·obtain ⟨p, hp, rfl⟩ := List.mem_map.1 hq
  have hg := h.pages p hp
  split
  ·exact ⟨delA_apart hg.apart, fun x hx => hg.keys x ((mem_delA hg.apart).1 hx).1⟩
  ·exact hg
def upd (r x : Rec) : Rec := if cmpN x.name r.name = 0 ∧ x.type = r.type then ⟨x.name, x.type, r.ttl, x.addr, x.to, x.text, x.nums⟩ else x
theorem upd_cmp2 (r x y : Rec) : cmpR y (upd r x) = cmpR y x := by
 unfold upd
 split <;> rfl
theorem upd_ok {r x : Rec} (hr : rrOk r = true) (hx : rrOk x = true) : rrOk (upd r x) = true := by
 unfold upd
 split
 ·have := rrOk_parts hr
  exact rrOk_time hx r.ttl this.2.2.1 this.2.2.2.1
 ·exact hx
def addL (r : Rec) : List Rec → Bool → List Rec
 | [], put => if put = true then [] else [r]
 | x :: t, put => (if put = false ∧ cmpR r x ≤ 0 then [r] else []) ++ (if cmpR r x ≠ 0 then [upd r x] else []) ++ addL r t (put || decide (cmpR r x ≤ 0))
theorem addL_mem {r y : Rec} : ∀ {rs : List Rec} {put : Bool}, y ∈ addL r rs put ↔ (put = false ∧ y = r) ∨ ∃ x ∈ rs, cmpR r x ≠ 0 ∧ y = upd r x
 | [], put => by
  cases put <;> simp [addL]
 | x :: t, put => by
  rw [addL, List.mem_append, List.mem_append, addL_mem]
  constructor
  ·rintro ((h | h) | (⟨h1, h2⟩ | ⟨z, h1, h2, h3⟩))
   ·split at h
    ·rename_i hc
     simp only [List.mem_singleton] at h
     exact .inl ⟨hc.1, h⟩
    ·simp at h
   ·split at h
    ·rename_i hc
     simp only [List.mem_singleton] at h
     exact .inr ⟨x, List.mem_cons_self .., hc, h⟩
    ·simp at h
   ·rw [Bool.or_eq_false_iff] at h1
    exact .inl ⟨h1.1, h2⟩
   ·exact .inr ⟨z, List.mem_cons_of_mem _ h1, h2, h3⟩
  ·rintro (⟨h1, h2⟩ | ⟨z, h1, h2, h3⟩)
   ·by_cases hc : cmpR r x ≤ 0
    ·exact .inl (.inl (by rw [if_pos ⟨h1, hc⟩]; simp [h2]))
    ·exact .inr (.inl ⟨by simp [h1, hc], h2⟩)
   ·rcases List.mem_cons.1 h1 with rfl | h1
    ·exact .inl (.inr (by rw [if_pos h2]; simp [h3]))
    ·exact .inr (.inr ⟨z, h1, h2, h3⟩)
def InB (B : Bk) (x : Rec) : Prop := ∃ q ∈ B, (keyR x, x) ∈ q.2
theorem InB.ok {B : Bk} (h : GoodB B) {x : Rec} (hx : InB B x) : rrOk x = true := by
 obtain ⟨q, hq, hm⟩ := hx
 exact ((h.pages q hq).keys _ hm).2.1
def bkDrop (r : Rec) (B : Bk) : Bk × Bool := if (lookA (keyR r) ((lookA (strOfNums (keyN r.name)) B).getD [])).isSome = true ∧ r.type ≠ 6 then (bkDel (strOfNums (keyN r.name)) (keyR r) B, true) else (B, false)
end Go.Proofs.YthobpbnaklnbiaaGreat
