/-
  Plain facts: names that are the same, names that end with others, and their order. No program is named here. Plain facts: a page of a zone's book, in the order of its keys, is what the zone says of that name, in the zone's order. No program is named here. Plain facts: a page's records by ascending keys. No program is named here. slices.Sorted(maps.Keys(m)) of the library, at maps of records: the keys, ascending.
-/
import Derived.Test.YtmnlhjdjjinbiaaGreatDropSetG18
import Derived.Test.YtmnlhjdjjinbiaaGreatDropSetG19
import Derived.Test.YtmnlhjdjjinbiaaGreatDropSetG20
import Derived.Test.YtmnlhjdjjinbiaaGreatDropSetG10
import Derived.Test.YtmnlhjdjjinbiaaGreatDropSetG16
import Derived.Sort.KeysCollected
import Derived.Test.YtmnlhjdjjinbiaaGreatDropSetG08
namespace Go.Proofs.YtmnlhjdjjinbiaaGreat
open Go.RowKit

theorem cmpB_eq {a b : List Int} (ha : ∀ c ∈ a, 0 ≤ c ∧ c ≤ 255) (hb : ∀ c ∈ b, 0 ≤ c ∧ c ≤ 255) : cmpB a b = 0 ↔ a = b := by
  have h1 := str_same a b
  rw [str_eq a b ha hb] at h1
  exact ⟨fun h => of_decide_eq_true (h1.trans (decide_eq_true h)), fun h => by subst h; exact cmpB_self a⟩

/-- All are bytes. -/
def ByteL (n : List (List Int)) : Prop := ∀ l ∈ n, ∀ c ∈ l, 0 ≤ c ∧ c ≤ 255
theorem cmpL_zero : ∀ {a b : List (List Int)}, ByteL a → ByteL b → cmpL a b = 0 → a = b
  | [], [], _, _, _ => rfl
  | [], _ :: _, _, _, h => by
    unfold cmpL at h
    omega
  | _ :: _, [], _, _, h => by
    unfold cmpL at h
    omega
  | x :: a, y :: b, ha, hb, h => by
    unfold cmpL at h
    by_cases e : cmpB x y = 0
    · simp only [e, ne_eq, not_true, if_false] at h
      rw [(cmpB_eq (ha x (by simp)) (hb y (by simp))).1 e, cmpL_zero (fun l hl => ha l (by simp [hl])) (fun l hl => hb l (by simp [hl])) h]
    · simp only [e, ne_eq, not_false_iff, if_true] at h
theorem cmpN_zero {a b : List (List Int)} (ha : ByteL a) (hb : ByteL b) : cmpN a b = 0 ↔ a = b := by
  refine ⟨fun h => ?_, fun h => by subst h; exact cmpN_self a⟩
  rw [cmpN_eq] at h
  have := cmpL_zero (fun l hl => ha l (by simpa using hl)) (fun l hl => hb l (by simpa using hl)) h
  simpa using congrArg List.reverse this
theorem labelOk_bytes {l : List Int} (h : labelOk l = true) : ∀ c ∈ l, 0 ≤ c ∧ c ≤ 255 := by
  intro c hc
  obtain ⟨j, hj, rfl⟩ := List.getElem_of_mem hc
  have h' := of_decide_eq_true h
  have := h'.2.2 j hj
  rw [List.getD_eq_getElem?_getD, List.getElem?_eq_getElem hj, Option.getD_some] at this
  have := of_decide_eq_true this
  omega
theorem nameOk_bytes {n : List (List Int)} (h : nameOk n = true) : ByteL n := by
  intro l hl
  obtain ⟨j, hj, rfl⟩ := List.getElem_of_mem hl
  have := (nameOk_parts h).2 j hj
  rw [List.getD_eq_getElem?_getD, List.getElem?_eq_getElem hj, Option.getD_some] at this
  exact labelOk_bytes this

theorem cmpL_prefix : ∀ (a b : List (List Int)), b ≠ [] → cmpL (a ++ b) a = 1
  | [], [], h => absurd rfl h
  | [], _ :: _, _ => rfl
  | x :: a, b, h => by
    show cmpL (x :: (a ++ b)) (x :: a) = 1
    unfold cmpL
    rw [cmpB_self]
    simp only [ne_eq, not_true, if_false]
    exact cmpL_prefix a b h
/-- A name under another, longer by k, comes behind it. -/
theorem cmpN_longer (a b : List (List Int)) (h : b ≠ []) : cmpN (b ++ a) a = 1 := by
  rw [cmpN_eq, List.reverse_append]
  exact cmpL_prefix _ _ (by simpa using h)
theorem endsWith_iff {n z : List (List Int)} (hn : ByteL n) (hz : ByteL z) : endsWith n z = true ↔ ∃ p, n = p ++ z := by
  constructor
  · intro h
    unfold endsWith at h
    simp only [Bool.and_eq_true, decide_eq_true_eq, beq_iff_eq] at h
    have := (cmpN_zero (fun l hl => hn l (List.mem_of_mem_drop hl)) hz).1 h.2
    refine ⟨n.take (n.length - z.length), ?_⟩
    conv => lhs; rw [← List.take_append_drop (n.length - z.length) n]
    rw [this]
  · rintro ⟨p, rfl⟩
    unfold endsWith
    have : (p ++ z).drop ((p ++ z).length - z.length) = z := by simp
    rw [this, cmpN_self]
    simp
theorem under_iff {n z : List (List Int)} (hn : nameOk n = true) (hz : nameOk z = true) : under n z = true ↔ ∃ p, n = p ++ z := by
  unfold under
  rw [hn, hz, Bool.true_and, Bool.true_and]
  exact endsWith_iff (nameOk_bytes hn) (nameOk_bytes hz)
end Go.Proofs.YtmnlhjdjjinbiaaGreat

namespace Go.Proofs.YtmnlhjdjjinbiaaGreat
open Go.RowKit
set_option linter.unusedVariables false

theorem bytes_of (l : List Int) : (strOfNums l).data.toList = l.map (fun n => UInt8.ofNat n.toNat) := by simp [strOfNums]
theorem less_of : ∀ (a b : List UInt8), Lib.compareBytes a b = -1 → a < b
  | [], [], h => by simp [Lib.compareBytes] at h
  | [], _ :: _, _ => List.nil_lt_cons _ _
  | _ :: _, [], h => by simp [Lib.compareBytes] at h
  | x :: a, y :: b, h => by
    unfold Lib.compareBytes at h
    rw [List.cons_lt_cons_iff]
    by_cases h1 : x < y
    · exact .inl h1
    · simp only [h1, if_false] at h
      by_cases h2 : y < x
      · simp [h2] at h
      · simp only [h2, if_false] at h
        exact .inr ⟨UInt8.le_antisymm (UInt8.not_lt.1 h2) (UInt8.not_lt.1 h1), less_of a b h⟩
theorem type_small {r : Rec} (h : rrOk r = true) : 0 ≤ r.type ∧ r.type ≤ 49 := by
  have ht := (rrOk_parts h).2.1
  unfold typeOk at ht
  have := of_decide_eq_true ht
  omega
/-- The keys of records of one name ascend as the records do. -/
theorem keys_lt {a b : Rec} (ha : rrOk a = true) (hb : rrOk b = true) (hn : cmpN a.name b.name = 0) (h : cmpR a b < 0) : cmpB (keyD a) (keyD b) = -1 := by
  have a1 := type_small ha
  have b1 := type_small hb
  have e0 : UInt8.ofNat (a.type / 256).toNat = UInt8.ofNat (b.type / 256).toNat := by
    rw [show a.type / 256 = 0 by omega, show b.type / 256 = 0 by omega]
  have k1 : cmpB (keyD a) (keyD b) = Lib.compareBytes (UInt8.ofNat (a.type / 256).toNat :: UInt8.ofNat (a.type % 256).toNat :: (strOfNums (dataB a)).data.toList) (UInt8.ofNat (b.type / 256).toNat :: UInt8.ofNat (b.type % 256).toNat :: (strOfNums (dataB b)).data.toList) := by
    unfold cmpB
    simp only [keyD, bytes_of, List.nil_append, List.map_cons, List.cons_append]
  rw [k1, e0]
  unfold cmpR at h
  rw [if_neg (by simp [hn])] at h
  unfold Lib.compareBytes
  rw [if_neg (UInt8.lt_irrefl _), if_neg (UInt8.lt_irrefl _)]
  by_cases ht : byLength a.type b.type = 0
  · rw [if_neg (by simp [ht])] at h
    have et := byLength_zero ht
    rw [et]
    unfold Lib.compareBytes
    rw [if_neg (UInt8.lt_irrefl _), if_neg (UInt8.lt_irrefl _)]
    show cmpB (dataB a) (dataB b) = -1
    have := cmpB_cases (dataB a) (dataB b)
    omega
  · rw [if_pos ht] at h
    have hlt : a.type < b.type := by
      unfold byLength at h
      split at h
      · assumption
      · split at h <;> omega
    have h2 : UInt8.ofNat (a.type % 256).toNat < UInt8.ofNat (b.type % 256).toNat := by
      rw [UInt8.lt_iff_toNat_lt]
      simp only [UInt8.toNat_ofNat']
      omega
    unfold Lib.compareBytes
    rw [if_pos h2]
theorem keys_far {o : List (List Int)} {rs : List Rec} (hg : ∀ i, i < rs.length → GoodS o rs i) (i : Nat) : ∀ d, i + (d + 1) < rs.length → cmpN (rs.getD i recZ).name (rs.getD (i + (d + 1)) recZ).name = 0 → cmpB (keyD (rs.getD i recZ)) (keyD (rs.getD (i + (d + 1)) recZ)) = -1
  | 0, hd, hn => keys_lt (hg i (by omega)).ok (hg _ hd).ok hn (by have := (hg _ hd).next (by omega); simpa using this)
  | d + 1, hd, hn => by
    have hnx := (hg _ hd).next (by omega)
    rw [show i + (d + 1 + 1) - 1 = i + (d + 1) by omega] at hnx
    have hs := sorted_le (rs := rs) (fun j _ hj => cmpR_name ((hg j hj).next (by omega))) (i := i) (j := i + (d + 1)) (by omega) (by omega)
    obtain ⟨e1, e2⟩ := cmpN_between hs (cmpR_name hnx) hn
    have k1 := keys_far hg i d (by omega) e1
    have k2 := keys_lt (hg _ (by omega)).ok (hg _ hd).ok e2 hnx
    have k3 := cmpB_trans (a := keyD (rs.getD i recZ)) (by omega : cmpB _ _ ≤ 0) (by omega : cmpB (keyD (rs.getD (i + (d + 1)) recZ)) (keyD (rs.getD (i + (d + 1 + 1)) recZ)) ≤ 0)
    rcases cmpB_cases (keyD (rs.getD i recZ)) (keyD (rs.getD (i + (d + 1 + 1)) recZ)) with h | h | h
    · exact h
    · have := cmpB_between (a := keyD (rs.getD i recZ)) (by omega) (by omega : cmpB (keyD (rs.getD (i + (d + 1)) recZ)) (keyD (rs.getD (i + (d + 1 + 1)) recZ)) ≤ 0) h
      omega
    · omega
theorem keys_asc {o : List (List Int)} {rs : List Rec} (hz : zoneOk o rs = true) : rs.Pairwise (fun a b => a.name = b.name → cmpB (keyD a) (keyD b) = -1) := by
  have hz' := of_decide_eq_true hz
  have hg := (good_iff hz'.1).1 hz'.2.2.1
  rw [List.pairwise_iff_getElem]
  intro i j hi hj hij hn
  have e1 : rs.getD i recZ = rs[i] := by simp [hi]
  have e2 : rs.getD j recZ = rs[j] := by simp [hj]
  have := keys_far hg i (j - i - 1) (by omega)
  rw [show i + (j - i - 1 + 1) = j by omega, e1, e2] at this
  exact this (by rw [hn]; exact cmpN_self _)
/-- What the records say of a name. -/
def ofName (n : List (List Int)) (rs : List Rec) : List Rec := rs.filter (fun r => decide (r.name = n))
theorem ofName_yes {n : List (List Int)} {l : List Rec} {r : Rec} (h : r.name = n) : ofName n (l ++ [r]) = ofName n l ++ [r] := by simp [ofName, h]
theorem ofName_no {n : List (List Int)} {l : List Rec} {r : Rec} (h : ¬ r.name = n) : ofName n (l ++ [r]) = ofName n l := by simp [ofName, h]
theorem lookA_put_other {κ α : Type} [DecidableEq κ] {k k' : κ} {v : α} (hne : k' ≠ k) : ∀ {l : List (κ × α)}, lookA k (putA k' v l) = lookA k l
  | [] => by simp [putA, lookA, hne]
  | (a, u) :: t => by
    by_cases e : a = k'
    · subst e
      simp [putA, lookA, hne]
    · simp only [putA, if_neg e, lookA]
      split
      · rfl
      · exact lookA_put_other hne
def keyR (r : Rec) : ByteArray := strOfNums (keyD r)
theorem page_is {n : List (List Int)} (hnn : nameOk n = true) : ∀ (rs : List Rec), (∀ r ∈ rs, nameOk r.name = true) → rs.Pairwise (fun a b => a.name = b.name → cmpB (keyD a) (keyD b) = -1) → ∀ f, f = keyR →
    (lookA (strOfNums (keyN n)) (rs.foldl (fun B r => bkPut (strOfNums (keyN r.name)) (f r) r B) [])).getD [] = (ofName n rs).map (fun r => (keyR r, r)) := by
  intro rs hok hasc f hf
  subst hf
  have key : ∀ k, k ≤ rs.length → (lookA (strOfNums (keyN n)) ((rs.take k).foldl (fun B r => bkPut (strOfNums (keyN r.name)) (keyR r) r B) [])).getD [] = (ofName n (rs.take k)).map (fun r => (keyR r, r)) := by
    intro k
    induction k with
    | zero => intro _; simp [lookA, ofName]
    | succ k ih =>
      intro hk
      have ih := ih (by omega)
      have hkl : k < rs.length := by omega
      rw [List.take_succ_eq_append_getElem hkl, List.foldl_append, List.foldl_cons, List.foldl_nil]
      generalize hB : (rs.take k).foldl (fun B r => bkPut (strOfNums (keyN r.name)) (keyR r) r B) [] = B at ih ⊢
      have hr := hok _ (List.getElem_mem hkl)
      unfold bkPut
      by_cases e : rs[k].name = n
      · rw [e, lookA_put, ih, Option.getD_some, putA_none]
        · rw [ofName_yes e, List.map_append]
          rfl
        · intro p hp
          obtain ⟨x, hx, rfl⟩ := List.mem_map.1 hp
          obtain ⟨hx1, hx2⟩ := List.mem_filter.1 hx
          simp only [decide_eq_true_eq] at hx2
          obtain ⟨i, hi, rfl⟩ := List.getElem_of_mem hx1
          have hik : i < k := by simp at hi; omega
          rw [List.getElem_take] at hx2 ⊢
          have := (List.pairwise_iff_getElem.1 hasc) i k (by omega) hkl hik (hx2.trans e.symm)
          intro he
          have e2 : cmpB (keyD rs[i]) (keyD rs[k]) = cmpB (keyD rs[k]) (keyD rs[k]) := by
            unfold cmpB
            rw [show strOfNums (keyD rs[i]) = strOfNums (keyD rs[k]) from he]
          rw [cmpB_self] at e2
          omega
      · rw [lookA_put_other (fun he => e (keyN_inj hr hnn he)), ih, ofName_no e]
  have := key rs.length (Nat.le_refl _)
  rwa [List.take_length] at this
theorem page_sorted {n : List (List Int)} {rs : List Rec} (hasc : rs.Pairwise (fun a b => a.name = b.name → cmpB (keyD a) (keyD b) = -1)) : ((ofName n rs).map (fun r => (keyR r).data.toList)).mergeSort leB = (ofName n rs).map (fun r => (keyR r).data.toList) := by
  refine List.mergeSort_of_pairwise ?_
  rw [List.pairwise_map]
  have h1 : (ofName n rs).Pairwise (fun a b => a.name = b.name → cmpB (keyD a) (keyD b) = -1) := hasc.filter _
  refine List.Pairwise.imp_of_mem ?_ h1
  intro a b ha hb h
  have na := (List.mem_filter.1 ha).2
  have nb := (List.mem_filter.1 hb).2
  simp only [decide_eq_true_eq] at na nb
  simp only [leB, decide_eq_true_eq]
  exact List.le_of_lt (less_of _ _ (h (na.trans nb.symm)))
end Go.Proofs.YtmnlhjdjjinbiaaGreat

namespace Go.Proofs.YtmnlhjdjjinbiaaGreat
open Go.RowKit
set_option linter.unusedVariables false

/-- A page's keys, ascending. -/
def keysP {α : Type} (P : List (ByteArray × α)) : List (List UInt8) := (P.map (fun p => p.1.data.toList)).mergeSort leB
theorem keysP_length {α : Type} (P : List (ByteArray × α)) : (keysP P).length = P.length := by simp [keysP]
def atKey (P : Pg) (k : List UInt8) : Rec := (lookA ⟨k.toArray⟩ P).getD recZ
/-- A page's records, by ascending keys. -/
def sortP (P : Pg) : List Rec := (keysP P).map (atKey P)
theorem keysP_mem {α : Type} {P : List (ByteArray × α)} {k : List UInt8} (h : k ∈ keysP P) : ∃ v, ((⟨k.toArray⟩ : ByteArray), v) ∈ P := by
  unfold keysP at h
  rw [List.mem_mergeSort] at h
  obtain ⟨p, hp, rfl⟩ := List.mem_map.1 h
  exact ⟨p.2, by simpa using hp⟩
theorem two_keysP {α β : Type} {Q : α → β → Prop} {l : List (ByteArray × α)} {m : List (ByteArray × β)} (h : Two (AtKeys ByteArray Q) l m) : keysP l = keysP m := by
  unfold keysP
  congr 1
  induction h with
  | nil => rfl
  | cons h1 _ ih => rw [List.map_cons, List.map_cons, h1.1, ih]
/-- What is at hand: no page, or one. -/
def OptPage (w : World) (mb : Option Nat) (P : Pg) : Prop := (mb = none ∧ P = []) ∨ ∃ p, mb = some p ∧ PageM w p P
theorem sortP_page {n : List (List Int)} {rs : List Rec} (hasc : rs.Pairwise (fun a b => a.name = b.name → cmpB (keyD a) (keyD b) = -1)) (hA : ((ofName n rs).map (fun r => (keyR r, r))).Pairwise (fun p q => p.1 ≠ q.1)) : sortP ((ofName n rs).map (fun r => (keyR r, r))) = ofName n rs := by
  unfold sortP keysP
  rw [List.map_map]
  have := page_sorted (n := n) hasc
  rw [show ((fun p : ByteArray × Rec => p.1.data.toList) ∘ fun r => (keyR r, r)) = fun r => (keyR r).data.toList from rfl, this, List.map_map]
  conv => rhs; rw [← List.map_id (ofName n rs)]
  refine List.map_congr_left (fun r hr => ?_)
  simp only [Function.comp, atKey, id]
  have hl : lookA (keyR r) ((ofName n rs).map (fun r => (keyR r, r))) = some r := lookA_mem hA (List.mem_map.2 ⟨r, hr, rfl⟩)
  rw [show (⟨(keyR r).data.toList.toArray⟩ : ByteArray) = keyR r by simp, hl]
  rfl
end Go.Proofs.YtmnlhjdjjinbiaaGreat

namespace Go.Proofs.YtmnlhjdjjinbiaaGreat
open Go.RowKit Go.Maps Go.Sort Go.Shelf
open Go.WideElems (Fit rd rg rd_mk rg_of)
open Go.WideMaps (keyOf_string_mk)
set_option linter.unusedVariables false

theorem sortsK (m : Nat) : AnyZ.SortsIn Tryz.prog Tryz.sorted118_ren Fence.wide m :=
  ⟨fun blk off cap ss W hH hblk hsz => callsIn_wide.2 (AnyM.slices_Sort_string Tryz.sort131 blk off cap ss W hH hblk hsz),
   fun p cap W => callsIn_wide.2 (AnyM.slices_Sort_string_none Tryz.sort131 p cap W)⟩

/-- Whatever an element is. -/
def anyR (v : Value) : Option (DataW Unit × List MemPlace) := some (.nil, [])
theorem mapV_owns {w : World} {b : Nat} {ps : List (ByteArray × Value)} (h : MapV w b ps) (hl : ps.length ≤ maxLen) : ∃ D0 : DataW Unit, w.ownsMap Tryz.prog 9 anyR b ps.length D0 ∧ (strKeys D0).Perm (ps.map (fun p => p.1.data.toList)) ∧ Maps.size D0 = ps.length := by
  obtain ⟨es, clock, hb, hS, hK, rfl⟩ := h
  have hrd : ∀ x ∈ es.toList, rd Tryz.prog 9 anyR x = some (.string (toPV x).1.data.toList, .nil) := by
    intro x hx
    obtain ⟨s, h1, h2⟩ := hK x hx
    have hk := keyOf_string_mk (P := Tryz.prog) Tryz.underlying9 h2
    obtain ⟨key, val, born⟩ := x
    simp only at h1
    subst h1
    exact rd_mk (R := anyR) (yv := (.nil, [])) hk rfl
  have hrg : es.toList.map (rg Tryz.prog 9 anyR) = es.toList.map (fun x => (Lit.string (toPV x).1.data.toList, DataW.nil)) := List.map_congr_left (fun x hx => by rw [rg_of (hrd x hx)])
  refine ⟨_, ⟨es, clock, hb, ⟨by simpa using hl, hS, fun x hx => ⟨_, hrd x hx⟩⟩, by simp, rfl⟩, ?_, ?_⟩
  · rw [hrg]
    simp only [strKeys]
    have hp := WideShapes.sorted_perm (es.toList.map (fun x => (Lit.string (toPV x).1.data.toList, (DataW.nil : DataW Unit))))
    have h2 := hp.map (fun p => strOf p.1)
    rw [List.map_map] at h2 ⊢
    exact h2
  · simp [Maps.size, length_sorted]

theorem keysOf_in (mb : Option Nat) (W : World) : CallsIn Fence.wide 5 Tryz.prog 121 #[.map mb] W fun e w' => e = .returned (.func (.func 133) #[] #[.pointer (some ⟨W.heap.size, 0, none⟩)]) ∧ w' = W.alloc (.cells #[.map mb] 108) :=
  AnyZ.keys_in Tryz.keys121 Fence.wide 5 trivial rfl mb W

set_option maxHeartbeats 1000000 in
theorem sortedOf_in {w : World} {b : Nat} {ps : List (ByteArray × Value)} (h : MapV w b ps) (hl : ps.length ≤ 1000) :
    CallsIn Fence.wide 5 Tryz.prog 118 #[.func (.func 133) #[] #[.pointer (some ⟨w.heap.size, 0, none⟩)]] (w.alloc (.cells #[.map (some b)] 108)) fun e w' => ∃ v, e = .returned v ∧
      w'.ownsRow (w.heap.size + 1) 9 1 v ps.length ((keysP ps).map encStr) ∧ Below w.heap.size w w' := by
  obtain ⟨D0, hown, hperm, hsize⟩ := mapV_owns h (by unfold maxLen; omega)
  have hbl := hown.lt
  have hseq : SeqGives Fence.wide 2 Tryz.prog 133 #[.pointer (some ⟨w.heap.size, 0, none⟩)] encStr (fun ss => ss.Perm (strKeys D0)) (Maps.size D0) (w.alloc (.cells #[.map (some b)] 108)) :=
    AnyZ.keys_gives (ρ := Tryz.keys121_ren) { Tryz.keys121 with } Fence.wide _ trivial rfl (by omega) w.heap.size b ps.length D0 _ (by simp) (by simp) (by
      obtain ⟨es, clock, hb, Ft, hs, hD⟩ := hown
      exact ⟨es, clock, (Below.heap_alloc _ _ b hbl).trans hb, Ft, hs, hD⟩)
  have hS := AnyZ.sorted_in Tryz.sorted118 Fence.wide 5 trivial trivial trivial trivial rfl (by omega) (sortsK _) (enters_of Tryz.func131 (by kernel_rfl) rfl) 133 #[.pointer (some ⟨w.heap.size, 0, none⟩)] trivial (enters_of Tryz.func133 (by kernel_rfl) rfl) _ _ (by rw [hsize]; unfold maxLen; omega) (by rw [hsize]; omega) _ hseq
  refine hS.mono ?_
  rintro e w' ⟨v, ss, rfl, hp, hrow, _, hb⟩
  have e1 : ss.length = ps.length := by rw [hp.length_eq, hperm.length_eq, List.length_map]
  have e2 : ss.mergeSort (fun x y => decide (x ≤ y)) = keysP ps := mergeSort_of_perm (hp.trans hperm)
  rw [e1, e2] at hrow
  have zs : (w.alloc (.cells #[.map (some b)] 108)).heap.size = w.heap.size + 1 := World.size_alloc w _
  rw [zs] at hrow hb
  exact ⟨v, rfl, hrow, (below_alloc (w := w) _).trans (hb.mono (by omega))⟩

set_option maxHeartbeats 1000000 in
theorem sortedNil_in (w : World) :
    CallsIn Fence.wide 5 Tryz.prog 118 #[.func (.func 133) #[] #[.pointer (some ⟨w.heap.size, 0, none⟩)]] (w.alloc (.cells #[.map none] 108)) fun e w' => ∃ v, e = .returned v ∧
      w'.ownsRow (w.heap.size + 1) 9 1 v 0 [] ∧ Below w.heap.size w w' := by
  have hseq : SeqGives Fence.wide 2 Tryz.prog 133 #[.pointer (some ⟨w.heap.size, 0, none⟩)] encStr (fun ss : List (List UInt8) => ss = []) 0 (w.alloc (.cells #[.map none] 108)) :=
    AnyZ.keys_gives_nil (ρ := Tryz.keys121_ren) { Tryz.keys121 with } Fence.wide _ trivial rfl w.heap.size _ (by simp) (by simp)
  have hS := AnyZ.sorted_in Tryz.sorted118 Fence.wide 5 trivial trivial trivial trivial rfl (by omega) (sortsK _) (enters_of Tryz.func131 (by kernel_rfl) rfl) 133 #[.pointer (some ⟨w.heap.size, 0, none⟩)] trivial (enters_of Tryz.func133 (by kernel_rfl) rfl) _ 0 (Nat.zero_le _) (by omega) _ hseq
  refine hS.mono ?_
  rintro e w' ⟨v, ss, rfl, hp, hrow, _, hb⟩
  subst hp
  have zs : (w.alloc (.cells #[.map none] 108)).heap.size = w.heap.size + 1 := World.size_alloc w _
  rw [zs] at hrow hb
  have hr2 : w'.ownsRow (w.heap.size + 1) 9 1 v 0 ((([] : List (List UInt8)).mergeSort (fun x y => decide (x ≤ y))).map encStr) := hrow
  exact ⟨v, rfl, by simpa using hr2, (below_alloc (w := w) _).trans (hb.mono (by omega))⟩
end Go.Proofs.YtmnlhjdjjinbiaaGreat
