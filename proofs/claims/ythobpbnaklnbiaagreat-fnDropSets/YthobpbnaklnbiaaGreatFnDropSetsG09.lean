/-
  Plain facts: a page of a zone's book, in the order of its keys, is what the zone says of that name, in the zone's order. No program is named here. Plain facts: a name's text, label by label. No program is named here. Plain facts: a name comes back from its text, great letters being as small ones. No program is named here. Plain facts: what the law of the order of names asks for. No program is named here. Plain facts: the order of records. No program is named here. Plain facts: the keys of names ascend as the names do, and those of records as the records do. No program is named here. Plain facts: what holds cells holds them still. No program is named here. Plain facts: what holds cells holds them still: names, records and rows of them that are owned. No program is named here. Plain facts: a page's records by ascending keys. No program is named here. Plain facts: a book's records by ascending keys, page after page. No program is named here. Plain facts: what SetOf answers. No program is named here.
-/
import Derived.Test.YthobpbnaklnbiaaGreatFnDropSetsG08
import Derived.Sort.KeysCollected
namespace Go.Proofs.YthobpbnaklnbiaaGreat
open Go.RowKit
set_option linter.unusedVariables false

theorem Ex (l : List Int) : (strOfNums l).data.toList = l.map (fun n => UInt8.ofNat n.toNat) := by simp [strOfNums]
theorem Vq : ∀ (a b : List UInt8), Lib.compareBytes a b = -1 → a < b
 | [], [], h => by simp [Lib.compareBytes] at h
 | [], _ :: _, _ => List.nil_lt_cons _ _
 | _ :: _, [], h => by simp [Lib.compareBytes] at h
 | x :: a, y :: b, h => by
  unfold Lib.compareBytes at h
  rw [List.cons_lt_cons_iff]
  by_cases h1 : x < y
  ·exact .inl h1
  ·simp only [h1, if_false] at h
   by_cases h2 : y < x
   ·simp [h2] at h
   ·simp only [h2, if_false] at h
    exact .inr ⟨UInt8.le_antisymm (UInt8.not_lt.1 h2) (UInt8.not_lt.1 h1), Vq a b h⟩
theorem Oi {r : Rec} (h : rrOk r = true) : 0 ≤ r.type ∧ r.type ≤ 49 := by
 have ht := (Ai h).2.1
 unfold Aw at ht
 have := of_decide_eq_true ht
 omega
theorem Kv {a b : Rec} (ha : rrOk a = true) (hb : rrOk b = true) (hn : cmpN a.name b.name = 0) (h : cmpR a b < 0) : cmpB (keyD a) (keyD b) = -1 := by
 have a1 := Oi ha
 have b1 := Oi hb
 have e0 : UInt8.ofNat (a.type / 256).toNat = UInt8.ofNat (b.type / 256).toNat := by
  rw [show a.type / 256 = 0 by omega, show b.type / 256 = 0 by omega]
 have k1 : cmpB (keyD a) (keyD b) = Lib.compareBytes (UInt8.ofNat (a.type / 256).toNat :: UInt8.ofNat (a.type % 256).toNat :: (strOfNums (B7 a)).data.toList) (UInt8.ofNat (b.type / 256).toNat :: UInt8.ofNat (b.type % 256).toNat :: (strOfNums (B7 b)).data.toList) := by
  unfold cmpB
  simp only [keyD, Ex, List.nil_append, List.map_cons, List.cons_append]
 rw [k1, e0]
 unfold cmpR at h
 rw [if_neg (by simp [hn])] at h
 unfold Lib.compareBytes
 rw [if_neg (UInt8.lt_irrefl _), if_neg (UInt8.lt_irrefl _)]
 by_cases ht : Ap a.type b.type = 0
 ·rw [if_neg (by simp [ht])] at h
  have et := Db ht
  rw [et]
  unfold Lib.compareBytes
  rw [if_neg (UInt8.lt_irrefl _), if_neg (UInt8.lt_irrefl _)]
  show cmpB (B7 a) (B7 b) = -1
  have := Dl (B7 a) (B7 b)
  omega
 ·rw [if_pos ht] at h
  have hlt : a.type < b.type := by
   unfold Ap at h
   split at h
   ·assumption
   ·split at h <;> omega
  have h2 : UInt8.ofNat (a.type % 256).toNat < UInt8.ofNat (b.type % 256).toNat := by
   rw [UInt8.lt_iff_toNat_lt]
   simp only [UInt8.toNat_ofNat']
   omega
  unfold Lib.compareBytes
  rw [if_pos h2]
theorem T7 {o : List (List Int)} {rs : List Rec} (hg : ∀ i, i < rs.length → Oh o rs i) (i : Nat) : ∀ d, i + (d + 1) < rs.length → cmpN (rs.getD i recZ).name (rs.getD (i + (d + 1)) recZ).name = 0 → cmpB (keyD (rs.getD i recZ)) (keyD (rs.getD (i + (d + 1)) recZ)) = -1
 | 0, hd, hn => Kv (hg i (by omega)).ok (hg _ hd).ok hn (by have := (hg _ hd).next (by omega); simpa using this)
 | d + 1, hd, hn => by
  have hnx := (hg _ hd).next (by omega)
  rw [show i + (d + 1 + 1) - 1 = i + (d + 1) by omega] at hnx
  have hs := Jd (rs := rs) (fun j _ hj => Iw ((hg j hj).next (by omega))) (i := i) (j := i + (d + 1)) (by omega) (by omega)
  obtain ⟨e1, e2⟩ := Gz hs (Iw hnx) hn
  have k1 := T7 hg i d (by omega) e1
  have k2 := Kv (hg _ (by omega)).ok (hg _ hd).ok e2 hnx
  have k3 := Gy (a := keyD (rs.getD i recZ)) (by omega : cmpB _ _ ≤ 0) (by omega : cmpB (keyD (rs.getD (i + (d + 1)) recZ)) (keyD (rs.getD (i + (d + 1 + 1)) recZ)) ≤ 0)
  rcases Dl (keyD (rs.getD i recZ)) (keyD (rs.getD (i + (d + 1 + 1)) recZ)) with h | h | h
  ·exact h
  ·have := Kg (a := keyD (rs.getD i recZ)) (by omega) (by omega : cmpB (keyD (rs.getD (i + (d + 1)) recZ)) (keyD (rs.getD (i + (d + 1 + 1)) recZ)) ≤ 0) h
   omega
  ·omega
theorem Pj {o : List (List Int)} {rs : List Rec} (hz : Ak o rs = true) : rs.Pairwise (fun a b => a.name = b.name → cmpB (keyD a) (keyD b) = -1) := by
 have hz' := of_decide_eq_true hz
 have hg := (Fo hz'.1).1 hz'.2.2.1
 rw [List.pairwise_iff_getElem]
 intro i j hi hj hij hn
 have e1 : rs.getD i recZ = rs[i] := by simp [hi]
 have e2 : rs.getD j recZ = rs[j] := by simp [hj]
 have := T7 hg i (j - i - 1) (by omega)
 rw [show i + (j - i - 1 + 1) = j by omega, e1, e2] at this
 exact this (by rw [hn]; exact I2 _)
def B8 (n : List (List Int)) (rs : List Rec) : List Rec := rs.filter (fun r => decide (r.name = n))
theorem Vf {n : List (List Int)} {l : List Rec} {r : Rec} (h : r.name = n) : B8 n (l ++ [r]) = B8 n l ++ [r] := by simp [B8, h]
theorem Wn {n : List (List Int)} {l : List Rec} {r : Rec} (h : ¬ r.name = n) : B8 n (l ++ [r]) = B8 n l := by simp [B8, h]
theorem Hl {κ α : Type} [DecidableEq κ] {k k' : κ} {v : α} (hne : k' ≠ k) : ∀ {l : List (κ × α)}, Aj k (putA k' v l) = Aj k l
 | [] => by simp [putA, Aj, hne]
 | (a, u) :: t => by
  by_cases e : a = k'
  ·subst e
   simp [putA, Aj, hne]
  ·simp only [putA, if_neg e, Aj]
   split
   ·rfl
   ·exact Hl hne
def keyR (r : Rec) : ByteArray := strOfNums (keyD r)
theorem page_is {n : List (List Int)} (hnn : Af n = true) : ∀ (rs : List Rec), (∀ r ∈ rs, Af r.name = true) → rs.Pairwise (fun a b => a.name = b.name → cmpB (keyD a) (keyD b) = -1) → ∀ f, f = keyR →
  (Aj (strOfNums (keyN n)) (rs.foldl (fun B r => E7 (strOfNums (keyN r.name)) (f r) r B) [])).getD [] = (B8 n rs).map (fun r => (keyR r, r)) := by
 intro rs hok hasc f hf
 subst hf
 have key : ∀ k, k ≤ rs.length → (Aj (strOfNums (keyN n)) ((rs.take k).foldl (fun B r => E7 (strOfNums (keyN r.name)) (keyR r) r B) [])).getD [] = (B8 n (rs.take k)).map (fun r => (keyR r, r)) := by
  intro k
  induction k with
  | zero => intro _; simp [Aj, B8]
  | succ k ih =>
   intro hk
   have ih := ih (by omega)
   have hkl : k < rs.length := by omega
   rw [List.take_succ_eq_append_getElem hkl, List.foldl_append, List.foldl_cons, List.foldl_nil]
   generalize hB : (rs.take k).foldl (fun B r => E7 (strOfNums (keyN r.name)) (keyR r) r B) [] = B at ih ⊢
   have hr := hok _ (List.getElem_mem hkl)
   unfold E7
   by_cases e : rs[k].name = n
   ·rw [e, Lc, ih, Option.getD_some, Lq]
    ·rw [Vf e, List.map_append]
     rfl
    ·intro p hp
     obtain ⟨x, hx, rfl⟩ := List.mem_map.1 hp
     obtain ⟨hx1, hx2⟩ := List.mem_filter.1 hx
     simp only [decide_eq_true_eq] at hx2
     obtain ⟨i, hi, rfl⟩ := List.getElem_of_mem hx1
     have hik : i < k := by simp at hi; omega
     rw [List.getElem_take] at hx2 ⊢
     have := (List.pairwise_iff_getElem.1 hasc) i k (by omega) hkl hik (hx2.trans e.symm)
     intro he
     have e2 : cmpB (keyD rs[i]) (keyD rs[k]) = cmpB (keyD rs[k]) (keyD rs[k]) := by
      unfold cmpB
      rw [show strOfNums (keyD rs[i]) = strOfNums (keyD rs[k]) from he]
     rw [Gg] at e2
     omega
   ·rw [Hl (fun he => e (Ib hr hnn he)), ih, Wn e]
 have := key rs.length (Nat.le_refl _)
 rwa [List.take_length] at this
theorem St {n : List (List Int)} {rs : List Rec} (hasc : rs.Pairwise (fun a b => a.name = b.name → cmpB (keyD a) (keyD b) = -1)) : ((B8 n rs).map (fun r => (keyR r).data.toList)).mergeSort leB = (B8 n rs).map (fun r => (keyR r).data.toList) := by
 refine List.mergeSort_of_pairwise ?_
 rw [List.pairwise_map]
 have h1 : (B8 n rs).Pairwise (fun a b => a.name = b.name → cmpB (keyD a) (keyD b) = -1) := hasc.filter _
 refine List.Pairwise.imp_of_mem ?_ h1
 intro a b ha hb h
 have na := (List.mem_filter.1 ha).2
 have nb := (List.mem_filter.1 hb).2
 simp only [decide_eq_true_eq] at na nb
 simp only [leB, decide_eq_true_eq]
 exact List.le_of_lt (Vq _ _ (h (na.trans nb.symm)))
end Go.Proofs.YthobpbnaklnbiaaGreat

namespace Go.Proofs.YthobpbnaklnbiaaGreat
open Go.RowKit

end Go.Proofs.YthobpbnaklnbiaaGreat

namespace Go.Proofs.YthobpbnaklnbiaaGreat
open Go.RowKit

end Go.Proofs.YthobpbnaklnbiaaGreat

namespace Go.Proofs.YthobpbnaklnbiaaGreat
open Go.RowKit

theorem Pc : ∀ (a b : List (List Int)), cmpL a b = -1 ∨ cmpL a b = 0 ∨ cmpL a b = 1
 | [], [] => .inr (.inl rfl)
 | [], _ :: _ => .inl rfl
 | _ :: _, [] => .inr (.inr rfl)
 | x :: a, y :: b => by
  unfold cmpL
  split
  ·exact Dl x y
  ·exact Pc a b
theorem Uf (a b : List (List Int)) : cmpN a b = -1 ∨ cmpN a b = 0 ∨ cmpN a b = 1 := by
 rw [Jc]
 exact Pc _ _
end Go.Proofs.YthobpbnaklnbiaaGreat

namespace Go.Proofs.YthobpbnaklnbiaaGreat
open Go.RowKit

theorem Pm (x y : Int) : Ap x y = - Ap y x := by
 unfold Ap
 by_cases h1 : x < y
 ·simp [h1, show ¬ y < x by omega]
 ·by_cases h2 : y < x
  ·simp [h1, h2]
  ·simp [h1, h2]
theorem Fl (a b : Rec) : cmpR a b = - cmpR b a := by
 unfold cmpR
 have h1 := Dd a.name b.name
 have h2 := Pm a.type b.type
 have h3 := Dq (B7 a) (B7 b)
 by_cases e1 : cmpN b.name a.name = 0
 ·rw [e1] at h1
  by_cases e2 : Ap b.type a.type = 0
  ·rw [e2] at h2
   simp only [h1, h2, e1, e2]
   simpa using h3
  ·have e2' : Ap a.type b.type ≠ 0 := by omega
   simp only [h1, e1]
   simp [e2, e2']
   exact h2
 ·have e1' : cmpN a.name b.name ≠ 0 := by omega
  simp [e1, e1']
  exact h1
theorem Oz (a b : Rec) : cmpR a b = -1 ∨ cmpR a b = 0 ∨ cmpR a b = 1 := by
 unfold cmpR
 have h1 := Uf a.name b.name
 have h2 : Ap a.type b.type = -1 ∨ Ap a.type b.type = 0 ∨ Ap a.type b.type = 1 := by
  unfold Ap
  split
  ·exact .inl rfl
  ·split
   ·exact .inr (.inr rfl)
   ·exact .inr (.inl rfl)
 have h3 := Dl (B7 a) (B7 b)
 split
 ·exact h1
 ·split
  ·exact h2
  ·exact h3
theorem I5 (a : Rec) : cmpR a a = 0 := by
 have := Fl a a
 omega
theorem Wj {a : Rec} (h : rrOk a = true) (t : Int) (h0 : 0 ≤ t) (h1 : t ≤ 100000) : rrOk ⟨a.name, a.type, t, a.addr, a.to, a.text, a.nums⟩ = true := by
 unfold rrOk at h ⊢
 simp only [Bool.and_eq_true] at h ⊢
 exact ⟨h.1, h.2.1, decide_eq_true ⟨h0, h1⟩, h.2.2.2⟩
end Go.Proofs.YthobpbnaklnbiaaGreat

namespace Go.Proofs.YthobpbnaklnbiaaGreat
open Go.RowKit
set_option linter.unusedVariables false

theorem Mc : ∀ (x y A B : List UInt8), (∀ c ∈ x, 0 < c) → (∀ c ∈ y, 0 < c) → Lib.compareBytes (x ++ 0 :: A) (y ++ 0 :: B) = if Lib.compareBytes x y ≠ 0 then Lib.compareBytes x y else Lib.compareBytes A B
 | [], [], A, B, _, _ => by
  simp only [List.nil_append]
  rw [show Lib.compareBytes ([] : List UInt8) [] = 0 from rfl]
  simp only [ne_eq, not_true, if_false]
  conv => lhs; unfold Lib.compareBytes
  rw [if_neg (UInt8.lt_irrefl _), if_neg (UInt8.lt_irrefl _)]
 | [], c :: y, A, B, _, hy => by
  have h := hy c (List.mem_cons_self ..)
  simp only [List.nil_append, List.cons_append]
  conv => lhs; unfold Lib.compareBytes
  rw [if_pos h, show Lib.compareBytes ([] : List UInt8) (c :: y) = -1 from rfl]
  simp
 | c :: x, [], A, B, hx, _ => by
  have h := hx c (List.mem_cons_self ..)
  have h2 : ¬ c < 0 := fun h' => UInt8.lt_irrefl _ (UInt8.lt_trans h h')
  simp only [List.nil_append, List.cons_append]
  conv => lhs; unfold Lib.compareBytes
  rw [if_neg h2, if_pos h, show Lib.compareBytes (c :: x) ([] : List UInt8) = 1 from rfl]
  simp
 | c :: x, d :: y, A, B, hx, hy => by
  have ih := Mc x y A B (fun z hz => hx z (List.mem_cons_of_mem _ hz)) (fun z hz => hy z (List.mem_cons_of_mem _ hz))
  simp only [List.cons_append]
  have step : ∀ (c d : UInt8) (x y : List UInt8), Lib.compareBytes (c :: x) (d :: y) = if c < d then -1 else if d < c then 1 else Lib.compareBytes x y := fun c d x y => by rw [Lib.compareBytes]
  rw [step c d (x ++ 0 :: A) (y ++ 0 :: B), step c d x y]
  by_cases h1 : c < d
  ·simp [h1]
  ·by_cases h2 : d < c
   ·simp [h1, h2]
   ·simp only [h1, h2, if_false]
    exact ih
def okL (ls : List (List Int)) : Prop := ∀ l ∈ ls, ∀ x ∈ l, 45 ≤ x ∧ x ≤ 122
theorem Sv {l : List Int} (h : ∀ x ∈ l, 45 ≤ x ∧ x ≤ 122) : ∀ c ∈ l.map (fun n => UInt8.ofNat n.toNat), (0 : UInt8) < c := by
 intro c hc
 obtain ⟨x, hx, rfl⟩ := List.mem_map.1 hc
 have := h x hx
 rw [UInt8.lt_iff_toNat_lt]
 simp only [UInt8.toNat_ofNat']
 show (0 : UInt8).toNat < _
 rw [show (0 : UInt8).toNat = 0 from rfl]
 omega
theorem Ol : ∀ (ls ms : List (List Int)), okL ls → okL ms → cmpB (keyP ls) (keyP ms) = cmpL ls ms
 | [], [], _, _ => by simp [keyP, cmpL, Gg]
 | [], m :: s, _, _ => by
  unfold cmpB
  rw [Ex, Ex]
  cases m <;> simp [keyP, cmpL, Lib.compareBytes]
 | l :: t, [], _, _ => by
  unfold cmpB
  rw [Ex, Ex]
  cases l <;> simp [keyP, cmpL, Lib.compareBytes]
 | l :: t, m :: s, hl, hm => by
  have ih := Ol t s (fun x hx => hl x (List.mem_cons_of_mem _ hx)) (fun x hx => hm x (List.mem_cons_of_mem _ hx))
  have e : ∀ (l : List Int) (t : List (List Int)), (strOfNums (keyP (l :: t))).data.toList = l.map (fun n => UInt8.ofNat n.toNat) ++ 0 :: (keyP t).map (fun n => UInt8.ofNat n.toNat) := by
   intro l t
   rw [Ex]
   simp [keyP]
  have h1 : cmpB (keyP (l :: t)) (keyP (m :: s)) = if cmpB l m ≠ 0 then cmpB l m else cmpB (keyP t) (keyP s) := by
   unfold cmpB
   rw [e, e, Mc _ _ _ _ (Sv (hl l (List.mem_cons_self ..))) (Sv (hm m (List.mem_cons_self ..)))]
   simp only [Ex]
  rw [h1, ih]
  rfl
theorem Us {a b : List (List Int)} (ha : Af a = true) (hb : Af b = true) : cmpB (keyN a) (keyN b) = cmpN a b := by
 rw [Jc]
 exact Ol _ _ (fun l hl => Ka ha l (List.mem_reverse.1 hl)) (fun l hl => Ka hb l (List.mem_reverse.1 hl))
theorem Je {a b : Rec} (ha : rrOk a = true) (hb : rrOk b = true) (hn : cmpN a.name b.name = 0) (h : cmpB (keyD a) (keyD b) = -1) : cmpR a b < 0 := by
 rcases Oz a b with e | e | e
 ·omega
 ·have e1 := e
  unfold cmpR at e1
  rw [if_neg (by simp [hn])] at e1
  by_cases ht : Ap a.type b.type = 0
  ·rw [if_neg (by simp [ht])] at e1
   have et := Db ht
   have k1 : cmpB (keyD a) (keyD b) = Lib.compareBytes (UInt8.ofNat (a.type / 256).toNat :: UInt8.ofNat (a.type % 256).toNat :: (strOfNums (B7 a)).data.toList) (UInt8.ofNat (b.type / 256).toNat :: UInt8.ofNat (b.type % 256).toNat :: (strOfNums (B7 b)).data.toList) := by
    unfold cmpB
    simp only [keyD, Ex, List.nil_append, List.map_cons, List.cons_append]
   rw [k1, et] at h
   unfold Lib.compareBytes at h
   rw [if_neg (UInt8.lt_irrefl _), if_neg (UInt8.lt_irrefl _)] at h
   unfold Lib.compareBytes at h
   rw [if_neg (UInt8.lt_irrefl _), if_neg (UInt8.lt_irrefl _)] at h
   have : cmpB (B7 a) (B7 b) = -1 := h
   omega
  ·rw [if_pos ht] at e1
   exact absurd e1 ht
 ·have e1 : cmpR b a < 0 := by
   have := Fl a b
   omega
  have e2 : cmpN b.name a.name = 0 := by
   have := Dd a.name b.name
   omega
  have e3 := Kv hb ha e2 e1
  have := Dq (keyD a) (keyD b)
  omega
theorem Nk {α : Type} {lt : α → α → Prop} (hs : ∀ a b, lt a b → ¬ lt b a) : ∀ {l m : List α}, l.Pairwise lt → m.Pairwise lt → (∀ x, x ∈ l ↔ x ∈ m) → l = m
 | [], [], _, _, _ => rfl
 | [], b :: t, _, _, h => absurd ((h b).2 (List.mem_cons_self ..)) (by simp)
 | a :: t, [], _, _, h => absurd ((h a).1 (List.mem_cons_self ..)) (by simp)
 | a :: t, b :: s, hl, hm, h => by
  obtain ⟨l1, l2⟩ := List.pairwise_cons.1 hl
  obtain ⟨m1, m2⟩ := List.pairwise_cons.1 hm
  have e : a = b := by
   rcases List.mem_cons.1 ((h a).1 (List.mem_cons_self ..)) with e | ha
   ·exact e
   ·rcases List.mem_cons.1 ((h b).2 (List.mem_cons_self ..)) with e | hb
    ·exact e.symm
    ·exact absurd (m1 a ha) (hs _ _ (l1 b hb))
  subst e
  have hirr : ¬ lt a a := fun q => hs _ _ q q
  rw [Nk hs l2 m2 (fun x => ?_)]
  constructor
  ·intro hx
   rcases List.mem_cons.1 ((h x).1 (List.mem_cons_of_mem _ hx)) with e | hx'
   ·subst e
    exact absurd (l1 x hx) hirr
   ·exact hx'
  ·intro hx
   rcases List.mem_cons.1 ((h x).2 (List.mem_cons_of_mem _ hx)) with e | hx'
   ·subst e
    exact absurd (m1 x hx) hirr
   ·exact hx'
def Nx (W W' : World) : Prop := ∀ (g : Nat) (c : Array Value) (t : TypeId), W.heap[g]? = some (.cells c t) → W'.heap[g]? = some (.cells c t)
theorem Da {W W' : World} {row : Option Nat} (hg : W.grownBy W' row) (hr : ∀ r, row = some r → ∃ o : Obj, W.heap[r]? = some o ∧ o.isCells = false) : Nx W W' := by
 intro g c t h
 have hlt : g < W.heap.size := (Array.getElem?_eq_some_iff.1 h).1
 refine (hg.block g hlt ?_).trans h
 intro e
 obtain ⟨o, h1, h2⟩ := hr g e.symm
 rw [h] at h1
 cases h1
 cases h2
theorem Fk {W W' : World} {B n s : Nat} {e : TypeId} {v : Value} {xs : List Value} (h : W.ownsRow B e s v n xs) (hk : Nx W W') : W'.ownsRow B e s v n xs := by
 obtain ⟨h1, h2⟩ := h
 rcases h2 with h2 | ⟨g, cap, c, h3, h4, h5, h6⟩
 ·exact ⟨h1, .inl h2⟩
 ·exact ⟨h1, .inr ⟨g, cap, c, h3, h4, hk _ _ _ h5, h6⟩⟩
theorem OwnN.keptC {C E : Nat} {el eb : TypeId} {W W' : World} {v : Value} {n : List (List Int)} (h : OwnN C E el eb W v n) (hk : Nx W W') : OwnN C E el eb W' v n := by
 obtain ⟨vs, ho, hu, hd, hv, he⟩ := h
 refine ⟨vs, Fk ho hk, fun i hi => ?_, hd, hv, he⟩
 obtain ⟨x, h1, h2⟩ := hu i hi
 exact ⟨x, h1, Fk h2 hk⟩
theorem OwnB.keptC {C E : Nat} {e : TypeId} {W W' : World} {v : Value} {l : List Int} (h : OwnB C E e W v l) (hk : Nx W W') : OwnB C E e W' v l := ⟨Fk h.1 hk, h.2⟩
theorem E8.keptC {C E : Nat} {e : TypeId} {W W' : World} {v : Value} {l : List Int} (h : E8 C E e W v l) (hk : Nx W W') : E8 C E e W' v l := ⟨Fk h.1 hk, h.2⟩
theorem OwnR.keptC {B E : Nat} {el eb ei : TypeId} {W W' : World} {vn vt vx vi : Value} {r : Rec} (h : OwnR B E el eb ei W vn vt vx vi r) (hk : Nx W W') : OwnR B E el eb ei W' vn vt vx vi r := by
 obtain ⟨s1, s2, s3, a1, a2, a3, a4, h1, h2, h3, h4⟩ := h
 exact ⟨s1, s2, s3, a1, a2, a3, a4, h1.keptC hk, h2.keptC hk, h3.keptC hk, h4.keptC hk⟩
theorem RowO.keptC {B E : Nat} {er el eb ei : TypeId} {W W' : World} {v : Value} {rs : List Rec} (h : RowO B E er el eb ei W v rs) (hk : Nx W W') : RowO B E er el eb ei W' v rs := by
 obtain ⟨xs, f, g, ho, hq, hx⟩ := h
 refine ⟨xs, f, g, Fk ho hk, hq, fun i hi => ?_⟩
 obtain ⟨h1, h2, h3, h4, vn, vt, vx, vi, q1, q2⟩ := hx i hi
 exact ⟨h1, h2, h3, h4, vn, vt, vx, vi, q1, q2.keptC hk⟩
theorem Gs {B b n s : Nat} {e : TypeId} {w : World} {v : Value} {xs : List Value} {o : Obj} (h : w.ownsRow B e s v n xs) (hb : w.heap[b]? = some o) (ho : o.isCells = false) : v.ownBlock ≠ some b := by
 intro hq
 rcases h.2 with ⟨rfl, _⟩ | ⟨g, cap, cur, rfl, _, hg, _⟩
 ·simp [Value.ownBlock] at hq
 ·simp [Value.ownBlock] at hq
  subst hq
  rw [hg] at hb
  cases hb
  cases ho
theorem Dh {B b n s : Nat} {e t : TypeId} {w : World} {v : Value} {xs : List Value} {c : Array Value} (h : w.ownsRow B e s v n xs) (hb : w.heap[b]? = some (.cells c t)) (hne : t ≠ e) : v.ownBlock ≠ some b := by
 intro hq
 rcases h.2 with ⟨rfl, _⟩ | ⟨g, cap, cur, rfl, _, hg, _⟩
 ·simp [Value.ownBlock] at hq
 ·simp [Value.ownBlock] at hq
  subst hq
  rw [hg] at hb
  cases hb
  exact hne rfl
def Bv {α : Type} (P : List (ByteArray × α)) : List (List UInt8) := (P.map (fun p => p.1.data.toList)).mergeSort leB
theorem Bm {α : Type} (P : List (ByteArray × α)) : (Bv P).length = P.length := by simp [Bv]
def Hn (P : Pg) (k : List UInt8) : Rec := (Aj ⟨k.toArray⟩ P).getD recZ
def Ez (P : Pg) : List Rec := (Bv P).map (Hn P)
theorem La {α : Type} {P : List (ByteArray × α)} {k : List UInt8} (h : k ∈ Bv P) : ∃ v, ((⟨k.toArray⟩ : ByteArray), v) ∈ P := by
 unfold Bv at h
 rw [List.mem_mergeSort] at h
 obtain ⟨p, hp, rfl⟩ := List.mem_map.1 h
 exact ⟨p.2, by simpa using hp⟩
theorem Iz {α β : Type} {Q : α → β → Prop} {l : List (ByteArray × α)} {m : List (ByteArray × β)} (h : Two (Gb ByteArray Q) l m) : Bv l = Bv m := by
 unfold Bv
 congr 1
 induction h with
 | nil => rfl
 | cons h1 _ ih => rw [List.map_cons, List.map_cons, h1.1, ih]
def Hb (w : World) (mb : Option Nat) (P : Pg) : Prop := (mb = none ∧ P = []) ∨ ∃ p, mb = some p ∧ Ew w p P
theorem Vd {n : List (List Int)} {rs : List Rec} (hasc : rs.Pairwise (fun a b => a.name = b.name → cmpB (keyD a) (keyD b) = -1)) (hA : ((B8 n rs).map (fun r => (keyR r, r))).Pairwise (fun p q => p.1 ≠ q.1)) : Ez ((B8 n rs).map (fun r => (keyR r, r))) = B8 n rs := by
 unfold Ez Bv
 rw [List.map_map]
 have := St (n := n) hasc
 rw [show ((fun p : ByteArray × Rec => p.1.data.toList) ∘ fun r => (keyR r, r)) = fun r => (keyR r).data.toList from rfl, this, List.map_map]
 conv => rhs; rw [← List.map_id (B8 n rs)]
 refine List.map_congr_left (fun r hr => ?_)
 simp only [Function.comp, Hn, id]
 have hl : Aj (keyR r) ((B8 n rs).map (fun r => (keyR r, r))) = some r := Bq hA (List.mem_map.2 ⟨r, hr, rfl⟩)
 rw [show (⟨(keyR r).data.toList.toArray⟩ : ByteArray) = keyR r by simp, hl]
 rfl
def Gl (B : Bk) : List Rec := (Bv B).flatMap (fun k => Ez ((Aj ⟨k.toArray⟩ B).getD []))
structure Tf (kn : ByteArray) (P : Pg) : Prop where
 apart : P.Pairwise (fun p q => p.1 ≠ q.1)
 keys : ∀ x ∈ P, x.1 = keyR x.2 ∧ rrOk x.2 = true ∧ kn = strOfNums (keyN x.2.name)
structure Ci (B : Bk) : Prop where
 apart : B.Pairwise (fun p q => p.1 ≠ q.1)
 pages : ∀ q ∈ B, Tf q.1 q.2
theorem Lr {κ α : Type} [DecidableEq κ] {k : κ} {v : α} : ∀ {l : List (κ × α)}, l.Pairwise (fun p q => p.1 ≠ q.1) → (putA k v l).Pairwise (fun p q => p.1 ≠ q.1)
 | [], _ => by simp [putA]
 | (a, u) :: t, h => by
  obtain ⟨h1, h2⟩ := List.pairwise_cons.1 h
  by_cases e : a = k
  ·subst e
   simp only [putA, if_true]
   exact List.pairwise_cons.2 ⟨fun q hq => h1 q hq, h2⟩
  ·simp only [putA, if_neg e]
   refine List.pairwise_cons.2 ⟨fun q hq => ?_, Lr h2⟩
   rcases Gn hq with rfl | hq
   ·exact e
   ·exact h1 q hq
theorem V5 : Ci [] := ⟨List.Pairwise.nil, fun q hq => by simp at hq⟩
theorem Wp (kn : ByteArray) : Tf kn [] := ⟨List.Pairwise.nil, fun x hx => by simp at hx⟩
theorem Ci.page {B : Bk} (h : Ci B) (kn : ByteArray) : Tf kn ((Aj kn B).getD []) := by
 cases hl : Aj kn B with
 | none => exact Wp kn
 | some P => exact h.pages _ (Ed hl)
theorem Ci.put {B : Bk} (h : Ci B) {r : Rec} (hr : rrOk r = true) : Ci (E7 (strOfNums (keyN r.name)) (keyR r) r B) := by
 refine ⟨Lr h.apart, fun q hq => ?_⟩
 rcases Gn hq with rfl | hq
 ·have hp := h.page (strOfNums (keyN r.name))
  refine ⟨Lr hp.apart, fun x hx => ?_⟩
  rcases Gn hx with rfl | hx
  ·exact ⟨rfl, hr, rfl⟩
  ·exact hp.keys x hx
 ·exact h.pages q hq
theorem Fj {α : Type} {P : List (ByteArray × α)} {k : List UInt8} : k ∈ Bv P ↔ ∃ v, ((⟨k.toArray⟩ : ByteArray), v) ∈ P := by
 refine ⟨La, fun ⟨v, hv⟩ => ?_⟩
 unfold Bv
 rw [List.mem_mergeSort]
 exact List.mem_map.2 ⟨_, hv, by simp⟩
theorem Gk {kn : ByteArray} {P : Pg} (h : Tf kn P) {r : Rec} : r ∈ Ez P ↔ (keyR r, r) ∈ P := by
 unfold Ez
 rw [List.mem_map]
 constructor
 ·rintro ⟨k, hk, rfl⟩
  obtain ⟨v, hv⟩ := Fj.1 hk
  have hl := Bq h.apart hv
  unfold Hn
  rw [hl, Option.getD_some, ← (h.keys _ hv).1]
  exact hv
 ·intro hr
  refine ⟨(keyR r).data.toList, Fj.2 ⟨r, by simpa using hr⟩, ?_⟩
  unfold Hn
  rw [show (⟨(keyR r).data.toList.toArray⟩ : ByteArray) = keyR r by simp, Bq h.apart hr]
  rfl
theorem Xq {B : Bk} (h : Ci B) {r : Rec} : r ∈ Gl B ↔ ∃ q ∈ B, (keyR r, r) ∈ q.2 := by
 unfold Gl
 rw [List.mem_flatMap]
 constructor
 ·rintro ⟨k, hk, hr⟩
  obtain ⟨P, hP⟩ := Fj.1 hk
  rw [Bq h.apart hP, Option.getD_some] at hr
  exact ⟨_, hP, (Gk (h.pages _ hP)).1 hr⟩
 ·rintro ⟨q, hq, hr⟩
  refine ⟨q.1.data.toList, Fj.2 ⟨q.2, by simpa using hq⟩, ?_⟩
  rw [show (⟨q.1.data.toList.toArray⟩ : ByteArray) = q.1 by simp, Bq h.apart (v := q.2) hq, Option.getD_some]
  exact (Gk (h.pages q hq)).2 hr
theorem Qa {α : Type} {P : List (ByteArray × α)} (h : P.Pairwise (fun p q => p.1 ≠ q.1)) : (Bv P).Pairwise (fun a b => a < b) := by
 have tr : ∀ a b c : List UInt8, leB a b = true → leB b c = true → leB a c = true := fun a b c h1 h2 => by simp only [leB, decide_eq_true_eq] at *; exact List.le_trans h1 h2
 have to : ∀ a b : List UInt8, (leB a b || leB b a) = true := fun a b => by simp only [leB, Bool.or_eq_true, decide_eq_true_eq]; exact List.le_total a b
 have h1 := List.pairwise_mergeSort tr to (P.map (fun p => p.1.data.toList))
 have h2 : (Bv P).Nodup := by
  unfold Bv
  rw [(List.mergeSort_perm _ _).nodup_iff]
  rw [List.Nodup, List.pairwise_map]
  refine h.imp (fun {a b} hab e => hab ?_)
  have : a.1.data = b.1.data := by simpa using congrArg List.toArray e
  cases ha : a.1
  cases hb : b.1
  rw [ha, hb] at this
  simp only at this
  rw [this]
 have h3 : (Bv P).Pairwise (fun a b => leB a b = true) := h1
 refine (h3.and h2).imp (fun {a b} hab => ?_)
 have hle := hab.1
 simp only [leB, decide_eq_true_eq] at hle
 by_cases hlt : a < b
 ·exact hlt
 ·exact absurd (List.le_antisymm hle hlt) hab.2
theorem Jp : ∀ (a b : List UInt8), a < b → Lib.compareBytes a b = -1
 | [], [], h => absurd h (List.lt_irrefl _)
 | [], _ :: _, _ => rfl
 | _ :: _, [], h => absurd h (List.not_lt_nil _)
 | x :: a, y :: b, h => by
  rw [List.cons_lt_cons_iff] at h
  unfold Lib.compareBytes
  rcases h with h | ⟨rfl, h⟩
  ·rw [if_pos h]
  ·rw [if_neg (UInt8.lt_irrefl _), if_neg (UInt8.lt_irrefl _)]
   exact Jp a b h
theorem Xu {kn : ByteArray} {P : Pg} (h : Tf kn P) : (Ez P).Pairwise (fun a b => cmpR a b < 0) := by
 unfold Ez
 rw [List.pairwise_map]
 refine List.Pairwise.imp_of_mem ?_ (Qa h.apart)
 intro a b ha hb hlt
 obtain ⟨u, hu⟩ := Fj.1 ha
 obtain ⟨v, hv⟩ := Fj.1 hb
 have e1 : Hn P a = u := by unfold Hn; rw [Bq h.apart hu]; rfl
 have e2 : Hn P b = v := by unfold Hn; rw [Bq h.apart hv]; rfl
 rw [e1, e2]
 obtain ⟨k1, o1, n1⟩ := h.keys _ hu
 obtain ⟨k2, o2, n2⟩ := h.keys _ hv
 simp only at k1 k2 o1 o2 n1 n2
 have hn : u.name = v.name := Ib (Ai o1).1 (Ai o2).1 (n1.symm.trans n2)
 refine Je o1 o2 (by rw [hn]; exact I2 _) ?_
 unfold cmpB
 rw [show strOfNums (keyD u) = ⟨a.toArray⟩ from k1.symm, show strOfNums (keyD v) = ⟨b.toArray⟩ from k2.symm]
 exact Jp _ _ (by simpa using hlt)
theorem Qg {B : Bk} (h : Ci B) : (Gl B).Pairwise (fun a b => cmpR a b < 0) := by
 unfold Gl
 rw [List.pairwise_flatMap]
 refine ⟨fun k _ => Xu (h.page _), ?_⟩
 refine List.Pairwise.imp_of_mem ?_ (Qa h.apart)
 intro a b ha hb hlt x hx y hy
 have hx' := (Gk (h.page _)).1 hx
 have hy' := (Gk (h.page _)).1 hy
 obtain ⟨_, o1, n1⟩ := (h.page _).keys _ hx'
 obtain ⟨_, o2, n2⟩ := (h.page _).keys _ hy'
 simp only at o1 o2 n1 n2
 have hc : cmpB (keyN x.name) (keyN y.name) = -1 := by
  unfold cmpB
  rw [← n1, ← n2]
  exact Jp _ _ (by simpa using hlt)
 rw [Us (Ai o1).1 (Ai o2).1] at hc
 unfold cmpR
 rw [if_pos (by omega)]
 omega
theorem Zo {B : Bk} (h : Ci B) {rs : List Rec} (ha : rs.Pairwise (fun a b => cmpR a b < 0)) (hm : ∀ r, r ∈ rs ↔ ∃ q ∈ B, (keyR r, r) ∈ q.2) : Gl B = rs :=
 Nk (lt := fun a b => cmpR a b < 0) (fun a b h1 h2 => by have := Fl a b; omega) (Qg h) ha (fun r => by rw [Xq h, hm])
def selT (t : Int) (r : Rec) : Bool := (t == 255) || (r.type == t)
def Gt (o : List (List Int)) (rs : List Rec) (n : List (List Int)) (t : Int) : List Rec := if Ak o rs = true ∧ Af n = true then selK n t rs rs.length else []
theorem C0 (n : List (List Int)) (t : Int) (rs : List Rec) : selK n t rs rs.length = rs.filter (selB n t) := by
 have h : ∀ k, k ≤ rs.length → selK n t rs k = (rs.take k).filter (selB n t) := by
  intro k
  induction k with
  | zero => intro _; simp [selK]
  | succ k ih =>
   intro hk
   have hkl : k < rs.length := by omega
   have e : rs.getD k recZ = rs[k] := by simp [hkl]
   rw [selK, ih (by omega), List.take_succ_eq_append_getElem hkl, List.filter_append, e]
   by_cases hs : selB n t rs[k] = true
   ·rw [if_pos hs, List.filter_cons_of_pos hs, List.filter_nil]
   ·rw [if_neg hs, List.filter_cons_of_neg hs, List.filter_nil, List.append_nil]
 have := h rs.length (Nat.le_refl _)
 rwa [List.take_length] at this
theorem Gi {n : List (List Int)} (h : Af n = true) : Tn n := fun l hl x hx => by
 have := Ka h l hl x hx
 omega
theorem Rq {o n : List (List Int)} {rs : List Rec} (hz : Ak o rs = true) (hn : Af n = true) (t : Int) : (Ez ((B8 n rs).map (fun r => (keyR r, r)))).filter (selT t) = selK n t rs rs.length := by
 have hasc := Pj hz
 have hok := Oo (Du hz)
 rw [Vd hasc, C0]
 ·unfold B8
  rw [List.filter_filter]
  refine List.filter_congr (fun r hr => ?_)
  have hb : (cmpN r.name n == 0) = decide (r.name = n) := by
   rw [Bool.eq_iff_iff, beq_iff_eq, decide_eq_true_iff]
   exact Lm (Gi (hok r hr)) (Gi hn)
  unfold selB selT
  rw [hb, Bool.and_comm]
 ·rw [List.pairwise_map]
  have h1 : (B8 n rs).Pairwise (fun a b => a.name = b.name → cmpB (keyD a) (keyD b) = -1) := hasc.filter _
  refine List.Pairwise.imp_of_mem ?_ h1
  intro a b ha hb h e
  have na := (List.mem_filter.1 ha).2
  have nb := (List.mem_filter.1 hb).2
  simp only [decide_eq_true_eq] at na nb
  have e2 := h (na.trans nb.symm)
  have e3 : cmpB (keyD a) (keyD b) = cmpB (keyD b) (keyD b) := by
   unfold cmpB
   rw [show strOfNums (keyD a) = strOfNums (keyD b) from e]
  rw [Gg] at e3
  omega
theorem Dp {o n : List (List Int)} {rs : List Rec} (hz : Ak o rs = true) (hn : Af n = true) : (Aj (strOfNums (keyN n)) (rs.foldl (fun B r => E7 (strOfNums (keyN r.name)) (strOfNums (keyD r)) r B) [])).getD [] = (B8 n rs).map (fun r => (keyR r, r)) := page_is hn rs (Oo (Du hz)) (Pj hz) keyR rfl
theorem Kf {o n : List (List Int)} {rs : List Rec} (hz : Ak o rs = true) : ((B8 n rs).map (fun r => (keyR r, r))).length ≤ 1000 ∧ ∀ x ∈ (B8 n rs).map (fun r => (keyR r, r)), D5 x.2 := by
 have h := Au hz
 refine ⟨?_, fun x hx => ?_⟩
 ·rw [List.length_map]
  have := List.length_filter_le (fun r : Rec => decide (r.name = n)) rs
  unfold B8
  omega
 ·obtain ⟨r, hr, rfl⟩ := List.mem_map.1 hx
  obtain ⟨i, hi, rfl⟩ := List.getElem_of_mem (List.mem_filter.1 hr).1
  have := h.2.1 i hi
  simpa [hi] using this
theorem Ui {o n : List (List Int)} {rs : List Rec} (hz : Ak o rs = true) (t : Int) : (selK n t rs rs.length).length ≤ 60 ∧ ∀ i, i < (selK n t rs rs.length).length → rrOk ((selK n t rs rs.length).getD i recZ) = true := by
 have h := Du hz
 have h60 := (Au hz).2.2
 refine ⟨by have := Ml n t rs rs.length; omega, fun i hi => ?_⟩
 have hm : (selK n t rs rs.length).getD i recZ ∈ selK n t rs rs.length := by simp [hi]
 rw [C0] at hm
 obtain ⟨j, hj, e⟩ := List.getElem_of_mem (List.mem_filter.1 hm).1
 have := h j hj
 rw [C0, ← e]
 simpa [hj] using this
end Go.Proofs.YthobpbnaklnbiaaGreat
