/-
  Plain facts: a page of a zone's book, in the order of its keys, is what the zone says of that name, in the zone's order. No program is named here. Plain facts: a name's text, label by label. No program is named here. Plain facts: a name comes back from its text, great letters being as small ones. No program is named here. Plain facts: what the law of the order of names asks for. No program is named here. Plain facts: the order of records. No program is named here. Plain facts: the keys of names ascend as the names do, and those of records as the records do. No program is named here. Plain facts: what holds cells holds them still. No program is named here. Plain facts: what holds cells holds them still: names, records and rows of them that are owned. No program is named here. Plain facts: a page's records by ascending keys. No program is named here. Plain facts: a book's records by ascending keys, page after page. No program is named here. Plain facts: what SetOf answers. No program is named here. Plain facts: maps whose keys are texts: look-ups that say whether the key is there, and deletions. No program is named here. Plain facts: a record taken out of a zone's book. No program is named here. Plain facts: a record put into a zone, as the specification does it and as a book does. No program is named here. Plain facts: what a book does to add a record is what the specification does. No program is named here. Plain facts: what a book does to drop records of a name and a type is what the specification does. No program is named here. Plain facts: what Drop and DropSet answer, and how large a zone's book is. No program is named here. Plain facts: what Add answers, and how large the book behind it is. No program is named here. Plain facts: drawn zones and how they fare; records that may be, under another name. Contract of the specification's l1PickInt.
-/
import Derived.Test.YtfneahdnpmamkaaGreatFnOwnersG09
import Derived.Sort.KeysCollected
namespace Go.Proofs.YtfneahdnpmamkaaGreat
open Go.RowKit
set_option linter.unusedVariables false

theorem Yv (l : List Int) : (strOfNums l).data.toList = l.map (fun n => UInt8.ofNat n.toNat) := by simp [strOfNums]
theorem Uo : ∀ (a b : List UInt8), Lib.compareBytes a b = -1 → a < b
 | [], [], h => by simp [Lib.compareBytes] at h
 | [], _ :: _, _ => List.nil_lt_cons _ _
 | _ :: _, [], h => by simp [Lib.compareBytes] at h
 | x :: a, y :: b, h => by
  unfold Lib.compareBytes at h
  rw [List.cons_lt_cons_iff]
  by_cases h1 : x < y
  ·exact .inl h1
  ·simp only [h1, if_false] at h
   by_cases h2 : y < x
   ·simp [h2] at h
   ·simp only [h2, if_false] at h
    exact .inr ⟨UInt8.le_antisymm (UInt8.not_lt.1 h2) (UInt8.not_lt.1 h1), Uo a b h⟩
theorem M4 {r : Rec} (h : rrOk r = true) : 0 ≤ r.type ∧ r.type ≤ 49 := by
 have ht := (A2 h).2.1
 unfold Ax at ht
 have := of_decide_eq_true ht
 omega
theorem Un {a b : Rec} (ha : rrOk a = true) (hb : rrOk b = true) (hn : cmpN a.name b.name = 0) (h : cmpR a b < 0) : cmpB (keyD a) (keyD b) = -1 := by
 have a1 := M4 ha
 have b1 := M4 hb
 have e0 : UInt8.ofNat (a.type / 256).toNat = UInt8.ofNat (b.type / 256).toNat := by
  rw [show a.type / 256 = 0 by omega, show b.type / 256 = 0 by omega]
 have k1 : cmpB (keyD a) (keyD b) = Lib.compareBytes (UInt8.ofNat (a.type / 256).toNat :: UInt8.ofNat (a.type % 256).toNat :: (strOfNums (Cs a)).data.toList) (UInt8.ofNat (b.type / 256).toNat :: UInt8.ofNat (b.type % 256).toNat :: (strOfNums (Cs b)).data.toList) := by
  unfold cmpB
  simp only [keyD, Yv, List.nil_append, List.map_cons, List.cons_append]
 rw [k1, e0]
 unfold cmpR at h
 rw [if_neg (by simp [hn])] at h
 unfold Lib.compareBytes
 rw [if_neg (UInt8.lt_irrefl _), if_neg (UInt8.lt_irrefl _)]
 by_cases ht : A4 a.type b.type = 0
 ·rw [if_neg (by simp [ht])] at h
  have et := I6 ht
  rw [et]
  unfold Lib.compareBytes
  rw [if_neg (UInt8.lt_irrefl _), if_neg (UInt8.lt_irrefl _)]
  show cmpB (Cs a) (Cs b) = -1
  have := Fm (Cs a) (Cs b)
  omega
 ·rw [if_pos ht] at h
  have hlt : a.type < b.type := by
   unfold A4 at h
   split at h
   ·assumption
   ·split at h <;> omega
  have h2 : UInt8.ofNat (a.type % 256).toNat < UInt8.ofNat (b.type % 256).toNat := by
   rw [UInt8.lt_iff_toNat_lt]
   simp only [UInt8.toNat_ofNat']
   omega
  unfold Lib.compareBytes
  rw [if_pos h2]
theorem Rz {o : List (List Int)} {rs : List Rec} (hg : ∀ i, i < rs.length → Mw o rs i) (i : Nat) : ∀ d, i + (d + 1) < rs.length → cmpN (rs.getD i recZ).name (rs.getD (i + (d + 1)) recZ).name = 0 → cmpB (keyD (rs.getD i recZ)) (keyD (rs.getD (i + (d + 1)) recZ)) = -1
 | 0, hd, hn => Un (hg i (by omega)).ok (hg _ hd).ok hn (by have := (hg _ hd).next (by omega); simpa using this)
 | d + 1, hd, hn => by
  have hnx := (hg _ hd).next (by omega)
  rw [show i + (d + 1 + 1) - 1 = i + (d + 1) by omega] at hnx
  have hs := Ke (rs := rs) (fun j _ hj => Kw ((hg j hj).next (by omega))) (i := i) (j := i + (d + 1)) (by omega) (by omega)
  obtain ⟨e1, e2⟩ := Gx hs (Kw hnx) hn
  have k1 := Rz hg i d (by omega) e1
  have k2 := Un (hg _ (by omega)).ok (hg _ hd).ok e2 hnx
  have k3 := Hb (a := keyD (rs.getD i recZ)) (by omega : cmpB _ _ ≤ 0) (by omega : cmpB (keyD (rs.getD (i + (d + 1)) recZ)) (keyD (rs.getD (i + (d + 1 + 1)) recZ)) ≤ 0)
  rcases Fm (keyD (rs.getD i recZ)) (keyD (rs.getD (i + (d + 1 + 1)) recZ)) with h | h | h
  ·exact h
  ·have := Jy (a := keyD (rs.getD i recZ)) (by omega) (by omega : cmpB (keyD (rs.getD (i + (d + 1)) recZ)) (keyD (rs.getD (i + (d + 1 + 1)) recZ)) ≤ 0) h
   omega
  ·omega
theorem S0 {o : List (List Int)} {rs : List Rec} (hz : Ar o rs = true) : rs.Pairwise (fun a b => a.name = b.name → cmpB (keyD a) (keyD b) = -1) := by
 have hz' := of_decide_eq_true hz
 have hg := (Ka hz'.1).1 hz'.2.2.1
 rw [List.pairwise_iff_getElem]
 intro i j hi hj hij hn
 have e1 : rs.getD i recZ = rs[i] := by simp [hi]
 have e2 : rs.getD j recZ = rs[j] := by simp [hj]
 have := Rz hg i (j - i - 1) (by omega)
 rw [show i + (j - i - 1 + 1) = j by omega, e1, e2] at this
 exact this (by rw [hn]; exact Ki _)
def Cd (n : List (List Int)) (rs : List Rec) : List Rec := rs.filter (fun r => decide (r.name = n))
theorem Uk {n : List (List Int)} {l : List Rec} {r : Rec} (h : r.name = n) : Cd n (l ++ [r]) = Cd n l ++ [r] := by simp [Cd, h]
theorem Wz {n : List (List Int)} {l : List Rec} {r : Rec} (h : ¬ r.name = n) : Cd n (l ++ [r]) = Cd n l := by simp [Cd, h]
theorem Hm {κ α : Type} [DecidableEq κ] {k k' : κ} {v : α} (hne : k' ≠ k) : ∀ {l : List (κ × α)}, Aw k (putA k' v l) = Aw k l
 | [] => by simp [putA, Aw, hne]
 | (a, u) :: t => by
  by_cases e : a = k'
  ·subst e
   simp [putA, Aw, hne]
  ·simp only [putA, if_neg e, Aw]
   split
   ·rfl
   ·exact Hm hne
def keyR (r : Rec) : ByteArray := strOfNums (keyD r)
theorem page_is {n : List (List Int)} (hnn : Ag n = true) : ∀ (rs : List Rec), (∀ r ∈ rs, Ag r.name = true) → rs.Pairwise (fun a b => a.name = b.name → cmpB (keyD a) (keyD b) = -1) → ∀ f, f = keyR →
  (Aw (strOfNums (keyN n)) (rs.foldl (fun B r => Hk (strOfNums (keyN r.name)) (f r) r B) [])).getD [] = (Cd n rs).map (fun r => (keyR r, r)) := by
 intro rs hok hasc f hf
 subst hf
 have key : ∀ k, k ≤ rs.length → (Aw (strOfNums (keyN n)) ((rs.take k).foldl (fun B r => Hk (strOfNums (keyN r.name)) (keyR r) r B) [])).getD [] = (Cd n (rs.take k)).map (fun r => (keyR r, r)) := by
  intro k
  induction k with
  | zero => intro _; simp [Aw, Cd]
  | succ k ih =>
   intro hk
   have ih := ih (by omega)
   have hkl : k < rs.length := by omega
   rw [List.take_succ_eq_append_getElem hkl, List.foldl_append, List.foldl_cons, List.foldl_nil]
   generalize hB : (rs.take k).foldl (fun B r => Hk (strOfNums (keyN r.name)) (keyR r) r B) [] = B at ih ⊢
   have hr := hok _ (List.getElem_mem hkl)
   unfold Hk
   by_cases e : rs[k].name = n
   ·rw [e, Ku, ih, Option.getD_some, Kx]
    ·rw [Uk e, List.map_append]
     rfl
    ·intro p hp
     obtain ⟨x, hx, rfl⟩ := List.mem_map.1 hp
     obtain ⟨hx1, hx2⟩ := List.mem_filter.1 hx
     simp only [decide_eq_true_eq] at hx2
     obtain ⟨i, hi, rfl⟩ := List.getElem_of_mem hx1
     have hik : i < k := by simp at hi; omega
     rw [List.getElem_take] at hx2 ⊢
     have := (List.pairwise_iff_getElem.1 hasc) i k (by omega) hkl hik (hx2.trans e.symm)
     intro he
     have e2 : cmpB (keyD rs[i]) (keyD rs[k]) = cmpB (keyD rs[k]) (keyD rs[k]) := by
      unfold cmpB
      rw [show strOfNums (keyD rs[i]) = strOfNums (keyD rs[k]) from he]
     rw [Kg] at e2
     omega
   ·rw [Hm (fun he => e (Yi hr hnn he)), ih, Wz e]
 have := key rs.length (Nat.le_refl _)
 rwa [List.take_length] at this
theorem Q2 {n : List (List Int)} {rs : List Rec} (hasc : rs.Pairwise (fun a b => a.name = b.name → cmpB (keyD a) (keyD b) = -1)) : ((Cd n rs).map (fun r => (keyR r).data.toList)).mergeSort leB = (Cd n rs).map (fun r => (keyR r).data.toList) := by
 refine List.mergeSort_of_pairwise ?_
 rw [List.pairwise_map]
 have h1 : (Cd n rs).Pairwise (fun a b => a.name = b.name → cmpB (keyD a) (keyD b) = -1) := hasc.filter _
 refine List.Pairwise.imp_of_mem ?_ h1
 intro a b ha hb h
 have na := (List.mem_filter.1 ha).2
 have nb := (List.mem_filter.1 hb).2
 simp only [decide_eq_true_eq] at na nb
 simp only [leB, decide_eq_true_eq]
 exact List.le_of_lt (Uo _ _ (h (na.trans nb.symm)))
end Go.Proofs.YtfneahdnpmamkaaGreat

namespace Go.Proofs.YtfneahdnpmamkaaGreat
open Go.RowKit

end Go.Proofs.YtfneahdnpmamkaaGreat

namespace Go.Proofs.YtfneahdnpmamkaaGreat
open Go.RowKit

end Go.Proofs.YtfneahdnpmamkaaGreat

namespace Go.Proofs.YtfneahdnpmamkaaGreat
open Go.RowKit

end Go.Proofs.YtfneahdnpmamkaaGreat

namespace Go.Proofs.YtfneahdnpmamkaaGreat
open Go.RowKit

theorem Ve {a : Rec} (h : rrOk a = true) (t : Int) (h0 : 0 ≤ t) (h1 : t ≤ 100000) : rrOk ⟨a.name, a.type, t, a.addr, a.to, a.text, a.nums⟩ = true := by
 unfold rrOk at h ⊢
 simp only [Bool.and_eq_true] at h ⊢
 exact ⟨h.1, h.2.1, decide_eq_true ⟨h0, h1⟩, h.2.2.2⟩
end Go.Proofs.YtfneahdnpmamkaaGreat

namespace Go.Proofs.YtfneahdnpmamkaaGreat
open Go.RowKit
set_option linter.unusedVariables false

def Mo (W W' : World) : Prop := ∀ (g : Nat) (c : Array Value) (t : TypeId), W.heap[g]? = some (.cells c t) → W'.heap[g]? = some (.cells c t)
theorem D7 {W W' : World} {row : Option Nat} (hg : W.grownBy W' row) (hr : ∀ r, row = some r → ∃ o : Obj, W.heap[r]? = some o ∧ o.isCells = false) : Mo W W' := by
 intro g c t h
 have hlt : g < W.heap.size := (Array.getElem?_eq_some_iff.1 h).1
 refine (hg.block g hlt ?_).trans h
 intro e
 obtain ⟨o, h1, h2⟩ := hr g e.symm
 rw [h] at h1
 cases h1
 cases h2
theorem Ff {W W' : World} {B n s : Nat} {e : TypeId} {v : Value} {xs : List Value} (h : W.ownsRow B e s v n xs) (hk : Mo W W') : W'.ownsRow B e s v n xs := by
 obtain ⟨h1, h2⟩ := h
 rcases h2 with h2 | ⟨g, cap, c, h3, h4, h5, h6⟩
 ·exact ⟨h1, .inl h2⟩
 ·exact ⟨h1, .inr ⟨g, cap, c, h3, h4, hk _ _ _ h5, h6⟩⟩
theorem OwnN.keptC {C E : Nat} {el eb : TypeId} {W W' : World} {v : Value} {n : List (List Int)} (h : OwnN C E el eb W v n) (hk : Mo W W') : OwnN C E el eb W' v n := by
 obtain ⟨vs, ho, hu, hd, hv, he⟩ := h
 refine ⟨vs, Ff ho hk, fun i hi => ?_, hd, hv, he⟩
 obtain ⟨x, h1, h2⟩ := hu i hi
 exact ⟨x, h1, Ff h2 hk⟩
theorem OwnB.keptC {C E : Nat} {e : TypeId} {W W' : World} {v : Value} {l : List Int} (h : OwnB C E e W v l) (hk : Mo W W') : OwnB C E e W' v l := ⟨Ff h.1 hk, h.2⟩
theorem E4.keptC {C E : Nat} {e : TypeId} {W W' : World} {v : Value} {l : List Int} (h : E4 C E e W v l) (hk : Mo W W') : E4 C E e W' v l := ⟨Ff h.1 hk, h.2⟩
theorem OwnR.keptC {B E : Nat} {el eb ei : TypeId} {W W' : World} {vn vt vx vi : Value} {r : Rec} (h : OwnR B E el eb ei W vn vt vx vi r) (hk : Mo W W') : OwnR B E el eb ei W' vn vt vx vi r := by
 obtain ⟨s1, s2, s3, a1, a2, a3, a4, h1, h2, h3, h4⟩ := h
 exact ⟨s1, s2, s3, a1, a2, a3, a4, h1.keptC hk, h2.keptC hk, h3.keptC hk, h4.keptC hk⟩
theorem RowO.keptC {B E : Nat} {er el eb ei : TypeId} {W W' : World} {v : Value} {rs : List Rec} (h : RowO B E er el eb ei W v rs) (hk : Mo W W') : RowO B E er el eb ei W' v rs := by
 obtain ⟨xs, f, g, ho, hq, hx⟩ := h
 refine ⟨xs, f, g, Ff ho hk, hq, fun i hi => ?_⟩
 obtain ⟨h1, h2, h3, h4, vn, vt, vx, vi, q1, q2⟩ := hx i hi
 exact ⟨h1, h2, h3, h4, vn, vt, vx, vi, q1, q2.keptC hk⟩
theorem Ia {B b n s : Nat} {e : TypeId} {w : World} {v : Value} {xs : List Value} {o : Obj} (h : w.ownsRow B e s v n xs) (hb : w.heap[b]? = some o) (ho : o.isCells = false) : v.ownBlock ≠ some b := by
 intro hq
 rcases h.2 with ⟨rfl, _⟩ | ⟨g, cap, cur, rfl, _, hg, _⟩
 ·simp [Value.ownBlock] at hq
 ·simp [Value.ownBlock] at hq
  subst hq
  rw [hg] at hb
  cases hb
  cases ho
theorem Dh {B b n s : Nat} {e t : TypeId} {w : World} {v : Value} {xs : List Value} {c : Array Value} (h : w.ownsRow B e s v n xs) (hb : w.heap[b]? = some (.cells c t)) (hne : t ≠ e) : v.ownBlock ≠ some b := by
 intro hq
 rcases h.2 with ⟨rfl, _⟩ | ⟨g, cap, cur, rfl, _, hg, _⟩
 ·simp [Value.ownBlock] at hq
 ·simp [Value.ownBlock] at hq
  subst hq
  rw [hg] at hb
  cases hb
  exact hne rfl
def Dv {α : Type} (P : List (ByteArray × α)) : List (List UInt8) := (P.map (fun p => p.1.data.toList)).mergeSort leB
theorem Ea {α : Type} (P : List (ByteArray × α)) : (Dv P).length = P.length := by simp [Dv]
def P0 (P : Pg) (k : List UInt8) : Rec := (Aw ⟨k.toArray⟩ P).getD recZ
def Nw (P : Pg) : List Rec := (Dv P).map (P0 P)
theorem Wv {α : Type} {P : List (ByteArray × α)} {k : List UInt8} (h : k ∈ Dv P) : ∃ v, ((⟨k.toArray⟩ : ByteArray), v) ∈ P := by
 unfold Dv at h
 rw [List.mem_mergeSort] at h
 obtain ⟨p, hp, rfl⟩ := List.mem_map.1 h
 exact ⟨p.2, by simpa using hp⟩
theorem O8 {α β : Type} {Q : α → β → Prop} {l : List (ByteArray × α)} {m : List (ByteArray × β)} (h : Two (Ht ByteArray Q) l m) : Dv l = Dv m := by
 unfold Dv
 congr 1
 induction h with
 | nil => rfl
 | cons h1 _ ih => rw [List.map_cons, List.map_cons, h1.1, ih]
def Hf (w : World) (mb : Option Nat) (P : Pg) : Prop := (mb = none ∧ P = []) ∨ ∃ p, mb = some p ∧ F4 w p P
theorem To {n : List (List Int)} {rs : List Rec} (hasc : rs.Pairwise (fun a b => a.name = b.name → cmpB (keyD a) (keyD b) = -1)) (hA : ((Cd n rs).map (fun r => (keyR r, r))).Pairwise (fun p q => p.1 ≠ q.1)) : Nw ((Cd n rs).map (fun r => (keyR r, r))) = Cd n rs := by
 unfold Nw Dv
 rw [List.map_map]
 have := Q2 (n := n) hasc
 rw [show ((fun p : ByteArray × Rec => p.1.data.toList) ∘ fun r => (keyR r, r)) = fun r => (keyR r).data.toList from rfl, this, List.map_map]
 conv => rhs; rw [← List.map_id (Cd n rs)]
 refine List.map_congr_left (fun r hr => ?_)
 simp only [Function.comp, P0, id]
 have hl : Aw (keyR r) ((Cd n rs).map (fun r => (keyR r, r))) = some r := Ix hA (List.mem_map.2 ⟨r, hr, rfl⟩)
 rw [show (⟨(keyR r).data.toList.toArray⟩ : ByteArray) = keyR r by simp, hl]
 rfl
structure Xy (kn : ByteArray) (P : Pg) : Prop where
 apart : P.Pairwise (fun p q => p.1 ≠ q.1)
 keys : ∀ x ∈ P, x.1 = keyR x.2 ∧ rrOk x.2 = true ∧ kn = strOfNums (keyN x.2.name)
structure Kb (B : Bk) : Prop where
 apart : B.Pairwise (fun p q => p.1 ≠ q.1)
 pages : ∀ q ∈ B, Xy q.1 q.2
theorem Kd {κ α : Type} [DecidableEq κ] {k : κ} {v : α} : ∀ {l : List (κ × α)}, l.Pairwise (fun p q => p.1 ≠ q.1) → (putA k v l).Pairwise (fun p q => p.1 ≠ q.1)
 | [], _ => by simp [putA]
 | (a, u) :: t, h => by
  obtain ⟨h1, h2⟩ := List.pairwise_cons.1 h
  by_cases e : a = k
  ·subst e
   simp only [putA, if_true]
   exact List.pairwise_cons.2 ⟨fun q hq => h1 q hq, h2⟩
  ·simp only [putA, if_neg e]
   refine List.pairwise_cons.2 ⟨fun q hq => ?_, Kd h2⟩
   rcases Gk hq with rfl | hq
   ·exact e
   ·exact h1 q hq
theorem Vb (kn : ByteArray) : Xy kn [] := ⟨List.Pairwise.nil, fun x hx => by simp at hx⟩
theorem Kb.page {B : Bk} (h : Kb B) (kn : ByteArray) : Xy kn ((Aw kn B).getD []) := by
 cases hl : Aw kn B with
 | none => exact Vb kn
 | some P => exact h.pages _ (Is hl)
theorem Kb.put {B : Bk} (h : Kb B) {r : Rec} (hr : rrOk r = true) : Kb (Hk (strOfNums (keyN r.name)) (keyR r) r B) := by
 refine ⟨Kd h.apart, fun q hq => ?_⟩
 rcases Gk hq with rfl | hq
 ·have hp := h.page (strOfNums (keyN r.name))
  refine ⟨Kd hp.apart, fun x hx => ?_⟩
  rcases Gk hx with rfl | hx
  ·exact ⟨rfl, hr, rfl⟩
  ·exact hp.keys x hx
 ·exact h.pages q hq
def selT (t : Int) (r : Rec) : Bool := (t == 255) || (r.type == t)
def I2 (o : List (List Int)) (rs : List Rec) (n : List (List Int)) (t : Int) : List Rec := if Ar o rs = true ∧ Ag n = true then selK n t rs rs.length else []
theorem Sr (n : List (List Int)) (t : Int) (rs : List Rec) : selK n t rs rs.length = rs.filter (selB n t) := by
 have h : ∀ k, k ≤ rs.length → selK n t rs k = (rs.take k).filter (selB n t) := by
  intro k
  induction k with
  | zero => intro _; simp [selK]
  | succ k ih =>
   intro hk
   have hkl : k < rs.length := by omega
   have e : rs.getD k recZ = rs[k] := by simp [hkl]
   rw [selK, ih (by omega), List.take_succ_eq_append_getElem hkl, List.filter_append, e]
   by_cases hs : selB n t rs[k] = true
   ·rw [if_pos hs, List.filter_cons_of_pos hs, List.filter_nil]
   ·rw [if_neg hs, List.filter_cons_of_neg hs, List.filter_nil, List.append_nil]
 have := h rs.length (Nat.le_refl _)
 rwa [List.take_length] at this
theorem S7 {n : List (List Int)} (h : Ag n = true) : Sq n := fun l hl x hx => by
 have := Qv h l hl x hx
 omega
theorem Tr {o n : List (List Int)} {rs : List Rec} (hz : Ar o rs = true) (hn : Ag n = true) (t : Int) : (Nw ((Cd n rs).map (fun r => (keyR r, r)))).filter (selT t) = selK n t rs rs.length := by
 have hasc := S0 hz
 have hok := Sy (Ev hz)
 rw [To hasc, Sr]
 ·unfold Cd
  rw [List.filter_filter]
  refine List.filter_congr (fun r hr => ?_)
  have hb : (cmpN r.name n == 0) = decide (r.name = n) := by
   rw [Bool.eq_iff_iff, beq_iff_eq, decide_eq_true_iff]
   exact Vh (S7 (hok r hr)) (S7 hn)
  unfold selB selT
  rw [hb, Bool.and_comm]
 ·rw [List.pairwise_map]
  have h1 : (Cd n rs).Pairwise (fun a b => a.name = b.name → cmpB (keyD a) (keyD b) = -1) := hasc.filter _
  refine List.Pairwise.imp_of_mem ?_ h1
  intro a b ha hb h e
  have na := (List.mem_filter.1 ha).2
  have nb := (List.mem_filter.1 hb).2
  simp only [decide_eq_true_eq] at na nb
  have e2 := h (na.trans nb.symm)
  have e3 : cmpB (keyD a) (keyD b) = cmpB (keyD b) (keyD b) := by
   unfold cmpB
   rw [show strOfNums (keyD a) = strOfNums (keyD b) from e]
  rw [Kg] at e3
  omega
theorem Jz {o n : List (List Int)} {rs : List Rec} (hz : Ar o rs = true) (hn : Ag n = true) : (Aw (strOfNums (keyN n)) (rs.foldl (fun B r => Hk (strOfNums (keyN r.name)) (strOfNums (keyD r)) r B) [])).getD [] = (Cd n rs).map (fun r => (keyR r, r)) := page_is hn rs (Sy (Ev hz)) (S0 hz) keyR rfl
theorem Ju {o n : List (List Int)} {rs : List Rec} (hz : Ar o rs = true) : ((Cd n rs).map (fun r => (keyR r, r))).length ≤ 1000 ∧ ∀ x ∈ (Cd n rs).map (fun r => (keyR r, r)), Em x.2 := by
 have h := Bs hz
 refine ⟨?_, fun x hx => ?_⟩
 ·rw [List.length_map]
  have := List.length_filter_le (fun r : Rec => decide (r.name = n)) rs
  unfold Cd
  omega
 ·obtain ⟨r, hr, rfl⟩ := List.mem_map.1 hx
  obtain ⟨i, hi, rfl⟩ := List.getElem_of_mem (List.mem_filter.1 hr).1
  have := h.2.1 i hi
  simpa [hi] using this
end Go.Proofs.YtfneahdnpmamkaaGreat

namespace Go.Proofs.YtfneahdnpmamkaaGreat
open Go.RowKit
open Go.ChangeMaps (setBlock heap_setBlock_same heap_setBlock_other)
open Go.MapKept (stamped_iff stamped_erase Stamped)
open Go.Maps (Keyed string_keyed)
open Go.WideMaps (keyOf_string_mk)
set_option linter.unusedVariables false

def delA {κ β : Type} [DecidableEq κ] (k : κ) : List (κ × β) → List (κ × β)
 | [] => []
 | (a, u) :: t => if a = k then t else (a, u) :: delA k t
theorem Nz {κ β : Type} [DecidableEq κ] {k : κ} : ∀ {ps : List (κ × β)}, ps.Pairwise (fun p q => p.1 ≠ q.1) → ∀ {p : κ × β}, p ∈ delA k ps ↔ p ∈ ps ∧ p.1 ≠ k
 | [], _, p => by simp [delA]
 | (a, u) :: t, hd, p => by
  obtain ⟨h1, h2⟩ := List.pairwise_cons.1 hd
  by_cases e : a = k
  ·subst e
   rw [delA, if_pos rfl]
   constructor
   ·intro hp
    exact ⟨List.mem_cons_of_mem _ hp, fun e => h1 p hp e.symm⟩
   ·rintro ⟨hp, hne⟩
    rcases List.mem_cons.1 hp with rfl | hp
    ·exact absurd rfl hne
    ·exact hp
  ·rw [delA, if_neg e, List.mem_cons, Nz h2]
   constructor
   ·rintro (rfl | ⟨hp, hne⟩)
    ·exact ⟨List.mem_cons_self .., e⟩
    ·exact ⟨List.mem_cons_of_mem _ hp, hne⟩
   ·rintro ⟨hp, hne⟩
    rcases List.mem_cons.1 hp with rfl | hp
    ·exact .inl rfl
    ·exact .inr ⟨hp, hne⟩
section
variable {P : Program} {t k e : TypeId} {w : World} {b : Nat} {ps : List (ByteArray × Value)}
end
end Go.Proofs.YtfneahdnpmamkaaGreat

namespace Go.Proofs.YtfneahdnpmamkaaGreat
open Go.RowKit
set_option linter.unusedVariables false

theorem oks_of {o : List (List Int)} {rs : List Rec} (hz : Ar o rs = true) : ∀ r ∈ rs, rrOk r = true := by
 intro r hr
 obtain ⟨i, hi, rfl⟩ := List.getElem_of_mem hr
 have := Ev hz i hi
 simpa [hi] using this
def Q3 (kn kd : ByteArray) (B : Bk) : Bk := B.map (fun q => if q.1 = kn then (q.1, delA kd q.2) else q)
theorem My {κ β : Type} [DecidableEq κ] {k : κ} : ∀ {l : List (κ × β)}, l.Pairwise (fun p q => p.1 ≠ q.1) → (delA k l).Pairwise (fun p q => p.1 ≠ q.1)
 | [], _ => List.Pairwise.nil
 | (a, u) :: t, h => by
  obtain ⟨h1, h2⟩ := List.pairwise_cons.1 h
  by_cases e : a = k
  ·rw [delA, if_pos e]
   exact h2
  ·rw [delA, if_neg e]
   exact List.pairwise_cons.2 ⟨fun q hq => h1 q ((Nz h2).1 hq).1, My h2⟩
theorem Ps (kn kd : ByteArray) (q : ByteArray × Pg) : (if q.1 = kn then (q.1, delA kd q.2) else q).1 = q.1 := by split <;> rfl
theorem Kb.del {B : Bk} (h : Kb B) (kn kd : ByteArray) : Kb (Q3 kn kd B) := by
 refine ⟨?_, fun q hq => ?_⟩
 ·unfold Q3
  rw [List.pairwise_map]
  exact h.apart.imp (fun {a b} hab => by rw [Ps, Ps]; exact hab)
 ·obtain ⟨p, hp, rfl⟩ := List.mem_map.1 hq
  have hg := h.pages p hp
  split
  ·exact ⟨My hg.apart, fun x hx => hg.keys x ((Nz hg.apart).1 hx).1⟩
  ·exact hg
def upd (r x : Rec) : Rec := if cmpN x.name r.name = 0 ∧ x.type = r.type then ⟨x.name, x.type, r.ttl, x.addr, x.to, x.text, x.nums⟩ else x
theorem Ml (r x y : Rec) : cmpR y (upd r x) = cmpR y x := by
 unfold upd
 split <;> rfl
theorem Ye {r x : Rec} (hr : rrOk r = true) (hx : rrOk x = true) : rrOk (upd r x) = true := by
 unfold upd
 split
 ·have := A2 hr
  exact Ve hx r.ttl this.2.2.1 this.2.2.2.1
 ·exact hx
def addL (r : Rec) : List Rec → Bool → List Rec
 | [], put => if put = true then [] else [r]
 | x :: t, put => (if put = false ∧ cmpR r x ≤ 0 then [r] else []) ++ (if cmpR r x ≠ 0 then [upd r x] else []) ++ addL r t (put || decide (cmpR r x ≤ 0))
theorem Sd {r y : Rec} : ∀ {rs : List Rec} {put : Bool}, y ∈ addL r rs put ↔ (put = false ∧ y = r) ∨ ∃ x ∈ rs, cmpR r x ≠ 0 ∧ y = upd r x
 | [], put => by
  cases put <;> simp [addL]
 | x :: t, put => by
  rw [addL, List.mem_append, List.mem_append, Sd]
  constructor
  ·rintro ((h | h) | (⟨h1, h2⟩ | ⟨z, h1, h2, h3⟩))
   ·split at h
    ·rename_i hc
     simp only [List.mem_singleton] at h
     exact .inl ⟨hc.1, h⟩
    ·simp at h
   ·split at h
    ·rename_i hc
     simp only [List.mem_singleton] at h
     exact .inr ⟨x, List.mem_cons_self .., hc, h⟩
    ·simp at h
   ·rw [Bool.or_eq_false_iff] at h1
    exact .inl ⟨h1.1, h2⟩
   ·exact .inr ⟨z, List.mem_cons_of_mem _ h1, h2, h3⟩
  ·rintro (⟨h1, h2⟩ | ⟨z, h1, h2, h3⟩)
   ·by_cases hc : cmpR r x ≤ 0
    ·exact .inl (.inl (by rw [if_pos ⟨h1, hc⟩]; simp [h2]))
    ·exact .inr (.inl ⟨by simp [h1, hc], h2⟩)
   ·rcases List.mem_cons.1 h1 with rfl | h1
    ·exact .inl (.inr (by rw [if_pos h2]; simp [h3]))
    ·exact .inr (.inr ⟨z, h1, h2, h3⟩)
def InB (B : Bk) (x : Rec) : Prop := ∃ q ∈ B, (keyR x, x) ∈ q.2
theorem InB.ok {B : Bk} (h : Kb B) {x : Rec} (hx : InB B x) : rrOk x = true := by
 obtain ⟨q, hq, hm⟩ := hx
 exact ((h.pages q hq).keys _ hm).2.1
def Ym (r : Rec) (B : Bk) : Bk × Bool := if (Aw (keyR r) ((Aw (strOfNums (keyN r.name)) B).getD [])).isSome = true ∧ r.type ≠ 6 then (Q3 (strOfNums (keyN r.name)) (keyR r) B, true) else (B, false)
def Hl (m : Nat) (B : Bk) : Prop := B.length ≤ m ∧ ∀ q ∈ B, q.2.length ≤ m
theorem Ib {κ α : Type} [DecidableEq κ] {k : κ} {v : α} : ∀ {l : List (κ × α)}, (putA k v l).length ≤ l.length + 1
 | [] => by simp [putA]
 | (a, u) :: t => by
  unfold putA
  split
  ·simp
  ·have := Ib (k := k) (v := v) (l := t)
   simp only [List.length_cons]
   omega
theorem Lr {κ β : Type} [DecidableEq κ] {k : κ} : ∀ {l : List (κ × β)}, (delA k l).length ≤ l.length
 | [] => by simp [delA]
 | (a, u) :: t => by
  unfold delA
  split
  ·simp
  ·have := Lr (k := k) (l := t)
   simp only [List.length_cons]
   omega
theorem Hl.put {m : Nat} {B : Bk} (h : Hl m B) (kn kd : ByteArray) (r : Rec) : Hl (m + 1) (Hk kn kd r B) := by
 unfold Hk
 refine ⟨Nat.le_trans Ib (by have := h.1; omega), fun q hq => ?_⟩
 rcases Gk hq with rfl | hq
 ·refine Nat.le_trans Ib ?_
  have : ((Aw kn B).getD []).length ≤ m := by
   cases hl : Aw kn B with
   | none => simp
   | some P => exact h.2 _ (Is hl)
  omega
 ·have := h.2 q hq
  omega
theorem Hl.mono {m m' : Nat} {B : Bk} (h : Hl m B) (hm : m ≤ m') : Hl m' B := ⟨Nat.le_trans h.1 hm, fun q hq => Nat.le_trans (h.2 q hq) hm⟩
theorem Hl.del {m : Nat} {B : Bk} (h : Hl m B) (kn kd : ByteArray) : Hl m (Q3 kn kd B) := by
 unfold Q3
 refine ⟨by rw [List.length_map]; exact h.1, fun q hq => ?_⟩
 obtain ⟨x, hx, rfl⟩ := List.mem_map.1 hq
 split
 ·exact Nat.le_trans Lr (h.2 x hx)
 ·exact h.2 x hx
theorem Hl.drop {m : Nat} {B : Bk} (h : Hl m B) (r : Rec) : Hl m (Ym r B).1 := by
 unfold Ym
 split
 ·exact h.del _ _
 ·exact h
def Ef (o : List (List Int)) (rs : List Rec) (r : Rec) : (List (List Int) × List Rec) × Bool :=
 if Ar o rs = true ∧ rrOk r = true then (if Ar o (addL r rs false) = true then ((o, addL r rs false), true) else ((o, rs), false)) else (([], []), false)
theorem Lv {r : Rec} : ∀ (rs : List Rec) (put : Bool), (addL r rs put).length ≤ 2 * rs.length + 1
 | [], put => by unfold addL; split <;> simp
 | x :: t, put => by
  have := Lv (r := r) t (put || decide (cmpR r x ≤ 0))
  unfold addL
  simp only [List.length_append, List.length_cons]
  split <;> split <;> simp only [List.length_cons, List.length_nil] <;> omega
structure Cm (B : Nat) (w : World) (vo vr : Value) (o : List (List Int)) (rs : List Rec) : Prop where
 name : OwnT 0 22 5 w vo o
 recs : Ii B w.heap.size w vr rs
abbrev tysZ : List TypeId := [39, 22, 5, 3]
section
variable {B : Nat} {w w' : World} {vo vr : Value} {o : List (List Int)} {rs : List Rec}
theorem Cm.hasZ (h : Cm B w vo vr o rs) : HasZ w vo vr o rs := ⟨h.name.hasL, h.recs.has⟩
theorem Cm.below (h : Cm B w vo vr o rs) (hb : Below w.heap.size w w') : Cm B w' vo vr o rs := ⟨h.name.below hb, (A6.below Fb h.recs hb).wide (Nat.le_refl _) hb.size⟩
theorem Cm.off (h : Cm B w vo vr o rs) {q : Nat} {t : TypeId} {cc : Array Value} (hk : w.heap[q]? = some (.cells cc t)) (ht : t ∉ tysZ) (hg : w.grownBy w' (some q)) : Cm B w' vo vr o rs := by
 simp only [List.mem_cons, List.not_mem_nil, or_false, not_or] at ht
 obtain ⟨h1, h2, h3, h4⟩ := ht
 exact ⟨h.name.off hk h2 h3 hg, (A6.off Fb h.recs hk (by simp only [List.mem_cons, List.not_mem_nil, or_false, not_or]; exact ⟨h2, h3, h4⟩) (.inl h1) hg).wide (Nat.le_refl _) hg.size⟩
theorem Cm.cur {g len cap : Nat} {a : Option Addr} (h : Cm B w vo vr o rs) (hc : Cur w g a len cap) (hg : w.grownBy w' (some g)) : Cm B w' vo vr o rs := by
 obtain ⟨i, x, h1, _⟩ := hc
 exact h.off h1 (by decide) hg
theorem OwnQ.drawR {vn vt vx vi : Value} {r : Rec} (h : OwnQ B 22 5 3 w vn vt vx vi r) : B9 w vn vt vx vi r := ⟨h.name.ownT.mono (Nat.zero_le _), h.to.ownT.mono (Nat.zero_le _), ⟨h.text.has, h.text.typed⟩, h.nums.mono (Nat.zero_le _)⟩
theorem RowQ.draw (h : RowQ B 39 22 5 3 w vr rs) : Ii B w.heap.size w vr rs := by
 obtain ⟨xs, ho, hx⟩ := h
 refine ⟨xs, ⟨ho.1, ?_⟩, fun q hq => (World.ownsRow.lt ho q hq).2, fun i hi => ?_⟩
 ·rcases ho.2 with hn | ⟨g, cap, cur, hv, hb, rest⟩
  ·exact .inl hn
  ·exact .inr ⟨g, cap, cur, hv, hb, rest⟩
 ·obtain ⟨vn, vt, vx, vi, h1, h2⟩ := hx i hi
  exact ⟨_, h1, vn, vt, vx, vi, rfl, h2.drawR⟩
theorem Cm.of {B' : Nat} (hB : B' ≤ B) (h1 : OwnL B 22 5 w vo o) (h2 : RowQ B 39 22 5 3 w vr rs) : Cm B' w vo vr o rs := ⟨h1.ownT.mono (Nat.zero_le _), A6.wide h2.draw hB (Nat.le_refl _)⟩
end
theorem Sa {r : Rec} (h : rrOk r = true) {n : List (List Int)} (hn : Ag n = true) : rrOk ⟨n, r.type, r.ttl, r.addr, r.to, r.text, r.nums⟩ = true := by
 unfold rrOk at h ⊢
 simp only [Bool.and_eq_true] at h ⊢
 exact ⟨hn, h.2.1, h.2.2.1, h.2.2.2⟩
theorem Z4 {r : Rec} (h : rrOk r = true) {n to : List (List Int)} (hn : Ag n = true) (h1 : named r.type = true → Ag to = true) (h2 : named r.type = false → to = []) : rrOk ⟨n, r.type, r.ttl, r.addr, to, r.text, r.nums⟩ = true := by
 unfold rrOk Bg at h ⊢
 simp only [Bool.and_eq_true] at h ⊢
 refine ⟨hn, h.2.1, h.2.2.1, h.2.2.2.1, ?_, h.2.2.2.2.2.1, h.2.2.2.2.2.2⟩
 cases hnm : named r.type with
 | true => simpa using h1 hnm
 | false => rw [h2 hnm]; simp
abbrev Aj : List (List Int) := [[104, 111, 109, 101]]
theorem Kj {o : List (List Int)} {rs : List Rec} {r : Rec} (hz : Ar o rs = true) (hr : rrOk r = true) : (Ef o rs r).1.1 = o ∧ Ar o (Ef o rs r).1.2 = true := by
 unfold Ef
 rw [if_pos ⟨hz, hr⟩]
 by_cases h : Ar o (addL r rs false) = true
 ·rw [if_pos h]; exact ⟨rfl, h⟩
 ·rw [if_neg h]; exact ⟨rfl, hz⟩
theorem Pm {o : List (List Int)} {rs : List Rec} (h : Ar o rs = true) : 0 < rs.length := by
 have h1 := (of_decide_eq_true h).2.2.2
 have := Me rs rs.length
 omega
theorem Cv {o : List (List Int)} {rs : List Rec} (h : Ar o rs = true) : ∀ k, k < rs.length → (rs.getD k recZ).name.length ≤ 1048576 := fun k hk => by
 have := ((Bs h).2.1 k hk).1.1
 omega
theorem Yj {z : Int} (h : z = 1 ∨ z = 7 ∨ z = 4294967295) : Cb Aj z = ((Aj, [Fx Aj z]), true) ∧ Ar Aj [Fx Aj z] = true := by
 have key : Ar Aj [Fx Aj z] = true := by rcases h with rfl | rfl | rfl <;> decide +kernel
 exact ⟨by unfold Cb; rw [if_pos key], key⟩
theorem Ct {w w1 w2 : World} {row : Option Nat} (hb : Below w.heap.size w w1) (hg : w1.grownBy w2 row) (hr : ∀ j, row = some j → w.heap.size ≤ j) : Below w.heap.size w w2 := hb.grown hg hb.size hr
end Go.Proofs.YtfneahdnpmamkaaGreat
