/-
  Plain facts: a page of a zone's book, in the order of its keys, is what the zone says of that name, in the zone's order. No program is named here. Plain facts: a row of records that a slice owns, each with lists of its own in a stretch of blocks of its own. No program is named here. Plain facts: what holds cells holds them still: names, records and rows of them that are owned. No program is named here.
-/
import Derived.Test.YtmnlhjdjjinbiaaGreatOwnerG13
import Derived.Test.YtmnlhjdjjinbiaaGreatOwnerG12
import Derived.Test.YtmnlhjdjjinbiaaGreatOwnerG14
import Derived.Test.YtmnlhjdjjinbiaaGreatOwnerG10
import Derived.Sort.KeysCollected
import Derived.Test.YtmnlhjdjjinbiaaGreatOwnerG03
import Derived.Test.YtmnlhjdjjinbiaaGreatOwnerG07
import Derived.RangeFuncNested
namespace Go.Proofs.YtmnlhjdjjinbiaaGreat
open Go.RowKit
set_option linter.unusedVariables false

theorem bytes_of (l : List Int) : (strOfNums l).data.toList = l.map (fun n => UInt8.ofNat n.toNat) := by simp [strOfNums]
theorem less_of : ∀ (a b : List UInt8), Lib.compareBytes a b = -1 → a < b
  | [], [], h => by simp [Lib.compareBytes] at h
  | [], _ :: _, _ => List.nil_lt_cons _ _
  | _ :: _, [], h => by simp [Lib.compareBytes] at h
  | x :: a, y :: b, h => by
    unfold Lib.compareBytes at h
    rw [List.cons_lt_cons_iff]
    by_cases h1 : x < y
    · exact .inl h1
    · simp only [h1, if_false] at h
      by_cases h2 : y < x
      · simp [h2] at h
      · simp only [h2, if_false] at h
        exact .inr ⟨UInt8.le_antisymm (UInt8.not_lt.1 h2) (UInt8.not_lt.1 h1), less_of a b h⟩
theorem type_small {r : Rec} (h : rrOk r = true) : 0 ≤ r.type ∧ r.type ≤ 49 := by
  have ht := (rrOk_parts h).2.1
  unfold typeOk at ht
  have := of_decide_eq_true ht
  omega
/-- The keys of records of one name ascend as the records do. -/
theorem keys_lt {a b : Rec} (ha : rrOk a = true) (hb : rrOk b = true) (hn : cmpN a.name b.name = 0) (h : cmpR a b < 0) : cmpB (keyD a) (keyD b) = -1 := by
  have a1 := type_small ha
  have b1 := type_small hb
  have e0 : UInt8.ofNat (a.type / 256).toNat = UInt8.ofNat (b.type / 256).toNat := by
    rw [show a.type / 256 = 0 by omega, show b.type / 256 = 0 by omega]
  have k1 : cmpB (keyD a) (keyD b) = Lib.compareBytes (UInt8.ofNat (a.type / 256).toNat :: UInt8.ofNat (a.type % 256).toNat :: (strOfNums (dataB a)).data.toList) (UInt8.ofNat (b.type / 256).toNat :: UInt8.ofNat (b.type % 256).toNat :: (strOfNums (dataB b)).data.toList) := by
    unfold cmpB
    simp only [keyD, bytes_of, List.nil_append, List.map_cons, List.cons_append]
  rw [k1, e0]
  unfold cmpR at h
  rw [if_neg (by simp [hn])] at h
  unfold Lib.compareBytes
  rw [if_neg (UInt8.lt_irrefl _), if_neg (UInt8.lt_irrefl _)]
  by_cases ht : byLength a.type b.type = 0
  · rw [if_neg (by simp [ht])] at h
    have et := byLength_zero ht
    rw [et]
    unfold Lib.compareBytes
    rw [if_neg (UInt8.lt_irrefl _), if_neg (UInt8.lt_irrefl _)]
    show cmpB (dataB a) (dataB b) = -1
    have := cmpB_cases (dataB a) (dataB b)
    omega
  · rw [if_pos ht] at h
    have hlt : a.type < b.type := by
      unfold byLength at h
      split at h
      · assumption
      · split at h <;> omega
    have h2 : UInt8.ofNat (a.type % 256).toNat < UInt8.ofNat (b.type % 256).toNat := by
      rw [UInt8.lt_iff_toNat_lt]
      simp only [UInt8.toNat_ofNat']
      omega
    unfold Lib.compareBytes
    rw [if_pos h2]
theorem keys_far {o : List (List Int)} {rs : List Rec} (hg : ∀ i, i < rs.length → GoodS o rs i) (i : Nat) : ∀ d, i + (d + 1) < rs.length → cmpN (rs.getD i recZ).name (rs.getD (i + (d + 1)) recZ).name = 0 → cmpB (keyD (rs.getD i recZ)) (keyD (rs.getD (i + (d + 1)) recZ)) = -1
  | 0, hd, hn => keys_lt (hg i (by omega)).ok (hg _ hd).ok hn (by have := (hg _ hd).next (by omega); simpa using this)
  | d + 1, hd, hn => by
    have hnx := (hg _ hd).next (by omega)
    rw [show i + (d + 1 + 1) - 1 = i + (d + 1) by omega] at hnx
    have hs := sorted_le (rs := rs) (fun j _ hj => cmpR_name ((hg j hj).next (by omega))) (i := i) (j := i + (d + 1)) (by omega) (by omega)
    obtain ⟨e1, e2⟩ := cmpN_between hs (cmpR_name hnx) hn
    have k1 := keys_far hg i d (by omega) e1
    have k2 := keys_lt (hg _ (by omega)).ok (hg _ hd).ok e2 hnx
    have k3 := cmpB_trans (a := keyD (rs.getD i recZ)) (by omega : cmpB _ _ ≤ 0) (by omega : cmpB (keyD (rs.getD (i + (d + 1)) recZ)) (keyD (rs.getD (i + (d + 1 + 1)) recZ)) ≤ 0)
    rcases cmpB_cases (keyD (rs.getD i recZ)) (keyD (rs.getD (i + (d + 1 + 1)) recZ)) with h | h | h
    · exact h
    · have := cmpB_between (a := keyD (rs.getD i recZ)) (by omega) (by omega : cmpB (keyD (rs.getD (i + (d + 1)) recZ)) (keyD (rs.getD (i + (d + 1 + 1)) recZ)) ≤ 0) h
      omega
    · omega
theorem keys_asc {o : List (List Int)} {rs : List Rec} (hz : zoneOk o rs = true) : rs.Pairwise (fun a b => a.name = b.name → cmpB (keyD a) (keyD b) = -1) := by
  have hz' := of_decide_eq_true hz
  have hg := (good_iff hz'.1).1 hz'.2.2.1
  rw [List.pairwise_iff_getElem]
  intro i j hi hj hij hn
  have e1 : rs.getD i recZ = rs[i] := by simp [hi]
  have e2 : rs.getD j recZ = rs[j] := by simp [hj]
  have := keys_far hg i (j - i - 1) (by omega)
  rw [show i + (j - i - 1 + 1) = j by omega, e1, e2] at this
  exact this (by rw [hn]; exact cmpN_self _)
/-- What the records say of a name. -/
def ofName (n : List (List Int)) (rs : List Rec) : List Rec := rs.filter (fun r => decide (r.name = n))
theorem ofName_yes {n : List (List Int)} {l : List Rec} {r : Rec} (h : r.name = n) : ofName n (l ++ [r]) = ofName n l ++ [r] := by simp [ofName, h]
theorem ofName_no {n : List (List Int)} {l : List Rec} {r : Rec} (h : ¬ r.name = n) : ofName n (l ++ [r]) = ofName n l := by simp [ofName, h]
theorem lookA_put_other {κ α : Type} [DecidableEq κ] {k k' : κ} {v : α} (hne : k' ≠ k) : ∀ {l : List (κ × α)}, lookA k (putA k' v l) = lookA k l
  | [] => by simp [putA, lookA, hne]
  | (a, u) :: t => by
    by_cases e : a = k'
    · subst e
      simp [putA, lookA, hne]
    · simp only [putA, if_neg e, lookA]
      split
      · rfl
      · exact lookA_put_other hne
def keyR (r : Rec) : ByteArray := strOfNums (keyD r)
theorem page_is {n : List (List Int)} (hnn : nameOk n = true) : ∀ (rs : List Rec), (∀ r ∈ rs, nameOk r.name = true) → rs.Pairwise (fun a b => a.name = b.name → cmpB (keyD a) (keyD b) = -1) → ∀ f, f = keyR →
    (lookA (strOfNums (keyN n)) (rs.foldl (fun B r => bkPut (strOfNums (keyN r.name)) (f r) r B) [])).getD [] = (ofName n rs).map (fun r => (keyR r, r)) := by
  intro rs hok hasc f hf
  subst hf
  have key : ∀ k, k ≤ rs.length → (lookA (strOfNums (keyN n)) ((rs.take k).foldl (fun B r => bkPut (strOfNums (keyN r.name)) (keyR r) r B) [])).getD [] = (ofName n (rs.take k)).map (fun r => (keyR r, r)) := by
    intro k
    induction k with
    | zero => intro _; simp [lookA, ofName]
    | succ k ih =>
      intro hk
      have ih := ih (by omega)
      have hkl : k < rs.length := by omega
      rw [List.take_succ_eq_append_getElem hkl, List.foldl_append, List.foldl_cons, List.foldl_nil]
      generalize hB : (rs.take k).foldl (fun B r => bkPut (strOfNums (keyN r.name)) (keyR r) r B) [] = B at ih ⊢
      have hr := hok _ (List.getElem_mem hkl)
      unfold bkPut
      by_cases e : rs[k].name = n
      · rw [e, lookA_put, ih, Option.getD_some, putA_none]
        · rw [ofName_yes e, List.map_append]
          rfl
        · intro p hp
          obtain ⟨x, hx, rfl⟩ := List.mem_map.1 hp
          obtain ⟨hx1, hx2⟩ := List.mem_filter.1 hx
          simp only [decide_eq_true_eq] at hx2
          obtain ⟨i, hi, rfl⟩ := List.getElem_of_mem hx1
          have hik : i < k := by simp at hi; omega
          rw [List.getElem_take] at hx2 ⊢
          have := (List.pairwise_iff_getElem.1 hasc) i k (by omega) hkl hik (hx2.trans e.symm)
          intro he
          have e2 : cmpB (keyD rs[i]) (keyD rs[k]) = cmpB (keyD rs[k]) (keyD rs[k]) := by
            unfold cmpB
            rw [show strOfNums (keyD rs[i]) = strOfNums (keyD rs[k]) from he]
          rw [cmpB_self] at e2
          omega
      · rw [lookA_put_other (fun he => e (keyN_inj hr hnn he)), ih, ofName_no e]
  have := key rs.length (Nat.le_refl _)
  rwa [List.take_length] at this
theorem page_sorted {n : List (List Int)} {rs : List Rec} (hasc : rs.Pairwise (fun a b => a.name = b.name → cmpB (keyD a) (keyD b) = -1)) : ((ofName n rs).map (fun r => (keyR r).data.toList)).mergeSort leB = (ofName n rs).map (fun r => (keyR r).data.toList) := by
  refine List.mergeSort_of_pairwise ?_
  rw [List.pairwise_map]
  have h1 : (ofName n rs).Pairwise (fun a b => a.name = b.name → cmpB (keyD a) (keyD b) = -1) := hasc.filter _
  refine List.Pairwise.imp_of_mem ?_ h1
  intro a b ha hb h
  have na := (List.mem_filter.1 ha).2
  have nb := (List.mem_filter.1 hb).2
  simp only [decide_eq_true_eq] at na nb
  simp only [leB, decide_eq_true_eq]
  exact List.le_of_lt (less_of _ _ (h (na.trans nb.symm)))
end Go.Proofs.YtmnlhjdjjinbiaaGreat

namespace Go.Proofs.YtmnlhjdjjinbiaaGreat
open Go.RowKit
set_option linter.unusedVariables false

theorem row_later {B n size : Nat} {e : TypeId} {w w' : World} {v : Value} {xs : List Value} (h : w.ownsRow B e size v n xs) (hb : Below w.heap.size w w') : w'.ownsRow B e size v n xs :=
  World.ownsRow.kept h (grown_of_below hb) (by cases hv : v.ownBlock with | none => exact .inl rfl | some k => exact .inr (by simp))
/-- The slice v owns a row of these records; all blocks lie in B .. E - 1. -/
def RowO (B E : Nat) (er el eb ei : TypeId) (w : World) (v : Value) (rs : List Rec) : Prop :=
  ∃ (xs : List Value) (f g : Nat → Nat), w.ownsRow B er 7 v rs.length xs ∧ (∀ q, v.ownBlock = some q → q < E) ∧
    ∀ i, i < rs.length → B ≤ f i ∧ g i ≤ E ∧ (∀ k, k < i → g k ≤ f i) ∧ (∀ q, v.ownBlock = some q → q < f i ∨ g i ≤ q) ∧
      ∃ vn vt vx vi, (∀ j u, (cellsR vn vt vx vi (rs.getD i recZ))[j]? = some u → xs[i * 7 + j]? = some u) ∧ OwnR (f i) (g i) el eb ei w vn vt vx vi (rs.getD i recZ)

theorem RowO.nil (B E : Nat) (er el eb ei : TypeId) (w : World) : RowO B E er el eb ei w (.slice none 0 0) [] :=
  ⟨[], fun _ => 0, fun _ => 0, World.ownsRow_nil _ _ _ _, (fun q hq => by cases hq), fun i hi => absurd hi (by simp)⟩

theorem cells_lt {vn vt vx vi : Value} {r : Rec} {j : Nat} {u : Value} (h : (cellsR vn vt vx vi r)[j]? = some u) : j < 7 := by
  have := (List.getElem?_eq_some_iff.1 h).1
  simpa [cellsR] using this

theorem RowO.has {B E : Nat} {er el eb ei : TypeId} {w : World} {v : Value} {rs : List Rec} (h : RowO B E er el eb ei w v rs) : HasRs w v rs := by
  obtain ⟨xs, f, g, ho, _, hx⟩ := h
  have ho' := ho
  rcases ho.2 with ⟨rfl, hn⟩ | ⟨b, cap, cur, rfl, hB, hg, hn, hm, hs, ht⟩
  · exact .inl ⟨rfl, List.eq_nil_of_length_eq_zero hn⟩
  · refine .inr ⟨b, 0, cap, rfl, block_lt hg, hn, hm, fun i hi => ?_⟩
    obtain ⟨_, _, _, _, vn, vt, vx, vi, q1, q2⟩ := hx i hi
    refine ⟨vn, vt, vx, vi, fun j u hj => ?_, q2.hasR⟩
    have hj7 := cells_lt hj
    rw [Nat.zero_add, World.ownsRow.cellAt ho' (i * 7 + j) (by omega)]
    exact q1 j u hj

theorem RowO.form {B E : Nat} {er el eb ei : TypeId} {w : World} {v : Value} {rs : List Rec} (h : RowO B E er el eb ei w v rs) : ∃ a cap, v = .slice a rs.length cap ∧ rs.length ≤ cap ∧ cap ≤ maxLen := h.has.form

theorem RowO.wide {B E B' E' : Nat} {er el eb ei : TypeId} {w : World} {v : Value} {rs : List Rec} (h : RowO B E er el eb ei w v rs) (hB : B' ≤ B) (hE : E ≤ E') : RowO B' E' er el eb ei w v rs := by
  obtain ⟨xs, f, g, ho, hq, hx⟩ := h
  refine ⟨xs, f, g, ?_, fun q e => Nat.lt_of_lt_of_le (hq q e) hE, fun i hi => ?_⟩
  · refine ⟨ho.1, ?_⟩
    rcases ho.2 with hn | ⟨b, cap, cur, hv, hb, rest⟩
    · exact .inl hn
    · exact .inr ⟨b, cap, cur, hv, Nat.le_trans hB hb, rest⟩
  · obtain ⟨h1, h2, h3⟩ := hx i hi
    exact ⟨Nat.le_trans hB h1, Nat.le_trans h2 hE, h3⟩

theorem ownsRow_out {C B D n size : Nat} {e : TypeId} {w w' : World} {v : Value} {xs : List Value} (h : w.ownsRow C e size v n xs) (u : Outside B D w w') (hq : ∀ q, v.ownBlock = some q → q < B ∨ D ≤ q) : w'.ownsRow C e size v n xs := by
  have h' := h
  refine ⟨h.1, ?_⟩
  rcases h.2 with hn | ⟨g, cap, cur, hv, hb, hg, rest⟩
  · exact .inl hn
  · refine .inr ⟨g, cap, cur, hv, hb, ?_, rest⟩
    rw [u.block g (block_lt hg) (hq g (by rw [hv]; rfl))]
    exact hg

theorem RowO.outside {B E C D : Nat} {er el eb ei : TypeId} {w w' : World} {v : Value} {rs : List Rec} (h : RowO B E er el eb ei w v rs) (u : Outside C D w w') (hd : E ≤ C ∨ D ≤ B) : RowO B E er el eb ei w' v rs := by
  obtain ⟨xs, f, g, ho, hq, hx⟩ := h
  refine ⟨xs, f, g, ownsRow_out ho u (fun q e => ?_), hq, fun i hi => ?_⟩
  · have h1 := hq q e
    have h2 := (World.ownsRow.lt ho q e).1
    omega
  · obtain ⟨h1, h2, h3, h4, vn, vt, vx, vi, q1, q2⟩ := hx i hi
    exact ⟨h1, h2, h3, h4, vn, vt, vx, vi, q1, q2.outside u (by omega)⟩

theorem RowO.below {B E : Nat} {er el eb ei : TypeId} {w w' : World} {v : Value} {rs : List Rec} (h : RowO B E er el eb ei w v rs) (hb : Below w.heap.size w w') : RowO B E er el eb ei w' v rs := by
  obtain ⟨xs, f, g, ho, hq, hx⟩ := h
  refine ⟨xs, f, g, row_later ho hb, hq, fun i hi => ?_⟩
  obtain ⟨h1, h2, h3, h4, vn, vt, vx, vi, q1, q2⟩ := hx i hi
  exact ⟨h1, h2, h3, h4, vn, vt, vx, vi, q1, q2.below hb⟩

theorem OwnR.le {B E : Nat} {el eb ei : TypeId} {w : World} {vn vt vx vi : Value} {r : Rec} (h : OwnR B E el eb ei w vn vt vx vi r) : B ≤ E := by
  obtain ⟨s1, s2, s3, a1, a2, a3, a4, _⟩ := h
  omega

/-- Where the row's own block is written, its records' lists stay. -/
theorem OwnR.grown {B E : Nat} {el eb ei : TypeId} {w w' : World} {vn vt vx vi : Value} {r : Rec} {row : Option Nat} (h : OwnR B E el eb ei w vn vt vx vi r) (hg : w.grownBy w' row) (hr : ∀ q, row = some q → q < B ∨ E ≤ q) : OwnR B E el eb ei w' vn vt vx vi r := by
  cases row with
  | none => exact h.below (below_of_grown hg)
  | some q =>
    refine h.outside (outside_grown (B := q) (E := q + 1) hg (fun k hk => by simp at hk; omega)) ?_
    have := hr q rfl
    omega

/-- One record more. -/
theorem RowO.snoc {B E C D : Nat} {er el eb ei : TypeId} {W w' : World} {v v' : Value} {rs : List Rec} {r : Rec} {vn vt vx vi : Value} (h : RowO B E er el eb ei W v rs) (hE : E ≤ C) (hD : D ≤ W.heap.size)
    (hr : OwnR C D el eb ei W vn vt vx vi r) (hB : B ≤ C) (hg : W.grownBy w' v.ownBlock) (hw : v'.ownBlock = v.ownBlock ∨ v'.ownBlock = some W.heap.size)
    (ho : ∀ xs, W.ownsRow B er 7 v rs.length xs → w'.ownsRow B er 7 v' (rs.length + 1) (xs ++ cellsR vn vt vx vi r)) : RowO B w'.heap.size er el eb ei w' v' (rs ++ [r]) := by
  obtain ⟨xs, f, g, h0, hq, hx⟩ := h
  have ho' := ho xs h0
  have hCD := hr.le
  have hlen : xs.length = rs.length * 7 := h0.1
  have hz := hg.size
  have hvq : ∀ q, v.ownBlock = some q → q < C ∨ D ≤ q := fun q e => by have := hq q e; omega
  refine ⟨xs ++ cellsR vn vt vx vi r, fun i => if i < rs.length then f i else C, fun i => if i < rs.length then g i else D, by rw [List.length_append]; exact ho', fun q e => (World.ownsRow.lt ho' q e).2, fun i hi => ?_⟩
  rw [List.length_append] at hi
  simp only [List.length_cons, List.length_nil] at hi
  by_cases hlt : i < rs.length
  · obtain ⟨h1, h2, h3, h4, un, ut, ux, ui, q1, q2⟩ := hx i hlt
    simp only [hlt, if_true]
    have e1 : (rs ++ [r]).getD i recZ = rs.getD i recZ := by rw [List.getD_eq_getElem?_getD, List.getElem?_append_left hlt, ← List.getD_eq_getElem?_getD]
    rw [e1]
    refine ⟨h1, by omega, fun k hk => ?_, fun q e => ?_, un, ut, ux, ui, fun j u hj => ?_, q2.grown hg h4⟩
    · rw [if_pos (by omega)]
      exact h3 k hk
    · rcases hw with hw | hw
      · rw [hw] at e
        exact h4 q e
      · rw [hw] at e
        injection e with e
        omega
    · have hj7 := cells_lt hj
      rw [List.getElem?_append_left (by omega)]
      exact q1 j u hj
  · obtain rfl : i = rs.length := by omega
    simp only [Nat.lt_irrefl, if_false]
    have e1 : (rs ++ [r]).getD rs.length recZ = r := by rw [List.getD_eq_getElem?_getD]; simp
    rw [e1]
    refine ⟨hB, by omega, fun k hk => ?_, fun q e => ?_, vn, vt, vx, vi, fun j u hj => ?_, hr.grown hg hvq⟩
    · rw [if_pos hk]
      have := (hx k hk).2.1
      omega
    · rcases hw with hw | hw
      · rw [hw] at e
        exact hvq q e
      · rw [hw] at e
        injection e with e
        omega
    · rw [List.getElem?_append_right (by omega), hlen, Nat.add_sub_cancel_left]
      exact hj

section
variable {P : Program} {w : World}
/-- Where an append to a row of records leaves it. -/
theorem where_recs {t ty e : TypeId} (ht : P.underlying t = some (.slice e)) {zs : Array Value} (hinfo : (P.info? e).map (fun i => (i.zero, i.size, i.bytes)) = some (some (.agg zs), 7, 120)) (hzs : zs.size = 7)
    {base : Nat} {v : Value} {n : Nat} {xs : List Value} (hown : w.ownsRow base e 7 v n xs) {ad : Addr} {m cap : Nat} {news : List Value} (hl : news.length = m * 7) (hc : ∀ j u, news[j]? = some u → w.cell? (ad.add j) = some u) (h1 : ∀ u ∈ news, u.oneCell' = true)
    (hm : 0 < m) (hlen : n + m ≤ 1000000) {v' : Value} {w' : World}
    (hrun : (Builtin.append_ #[t, t] ty #[v, .slice (some ad) m cap]).run P w = .ok v' w') : v'.ownBlock = v.ownBlock ∨ v'.ownBlock = some w.heap.size := by
  obtain ⟨i0, hi, hz0, hz1, hz2⟩ := info_parts hinfo
  rcases hown.2 with ⟨rfl, h0⟩ | ⟨g, cp, cur, rfl, hbg, hg, hnc, hcm, hcs, htake⟩
  · rw [run_append_nil (P := P) w t ty e i0 (.agg zs) ht hi hz0 ad m cap news (by rw [hz1]; exact hl) hc hm (by omega) (by rw [hz2]; omega)] at hrun
    simp only [Result.ok.injEq] at hrun
    right; rw [← hrun.1]; rfl
  · by_cases hroom : n + m ≤ cp
    · rw [run_append_room (P := P) w t ty e i0 ht hi g n cp cur hg ad m cap news (by rw [hz1]; exact hl) hc h1 hroom (by rw [hz1, hcs, hl]; omega)] at hrun
      simp only [Result.ok.injEq] at hrun
      left; rw [← hrun.1]; rfl
    · have holds : ∀ j u, xs[j]? = some u → w.cell? ((⟨g, 0, none⟩ : Addr).add j) = some u := World.ownsRow.cells hown (g := g) rfl
      rw [run_append_grow (P := P) w t ty e i0 (.agg zs) ht hi hz0 ⟨g, 0, none⟩ n cp xs (by rw [hz1]; exact hown.1) holds ad m cap news (by rw [hz1]; exact hl) hc (by omega) (by omega) (growslice_fits (by omega) (by rw [hz2]; omega))] at hrun
      simp only [Result.ok.injEq] at hrun
      right; rw [← hrun.1]; rfl

/-- 'append(s, r)' of one record whose cells lie in block g. -/
theorem run_append_rec {t ty e : TypeId} (ht : P.underlying t = some (.slice e)) {zs : Array Value} (hinfo : (P.info? e).map (fun i => (i.zero, i.size, i.bytes)) = some (some (.agg zs), 7, 120)) (hzs : zs.size = 7)
    {base : Nat} {v : Value} {n : Nat} {xs : List Value} (hown : w.ownsRow base e 7 v n xs) {g : Nat} {cs : List Value} (hg : w.heap[g]? = some (.cells cs.toArray e)) (hcl : cs.length = 7) (h1 : ∀ u ∈ cs, u.oneCell' = true) (hlen : n ≤ 1000) (hbase : base ≤ w.heap.size) :
    ∃ v' w', (Builtin.append_ #[t, t] ty #[v, .slice (some ⟨g, 0, none⟩) 1 1]).run P w = .ok v' w' ∧ w'.ownsRow base e 7 v' (n + 1) (xs ++ cs) ∧ w.grownBy w' v.ownBlock ∧ (v'.ownBlock = v.ownBlock ∨ v'.ownBlock = some w.heap.size) := by
  obtain ⟨i0, hi, hz0, hz1, hz2⟩ := info_parts hinfo
  have hc : ∀ j u, cs[j]? = some u → w.cell? ((⟨g, 0, none⟩ : Addr).add j) = some u := fun j u hj => by
    rw [Addr.add_lit, Nat.zero_add, block_cell hg]
    simpa using hj
  obtain ⟨v', w', h2, h3, h4, _⟩ := run_append_own (P := P) w base t ty e i0 (.agg zs) 7 120 ht hi hz0 hz1 hz2 hzs (by decide) v n xs hown ⟨g, 0, none⟩ 1 1 cs (by rw [hcl]) hc h1 (by unfold maxLen; omega) (by omega) hbase
  exact ⟨v', w', h2, h3, h4, where_recs ht hinfo hzs hown (by rw [hcl]) hc h1 (by decide) (by omega) h2⟩

/-- The same as a step of a region whose order is open. -/
theorem step_append_rec {ops : Array Oper} {o : Oper} {a : Act} {K : Act → World → Prop} {Q : Exit → Act → World → Prop} {E : Prop} (hgd : o.guard = none) (s x : Operand) (t e : TypeId)
    (ho : o.op = .call { callee := .builtin .append, args := #[s, x], argTypes := #[t, t] }) (ht : P.underlying t = some (.slice e)) (zs : Array Value)
    (hinfo : (P.info? e).map (fun i => (i.zero, i.size, i.bytes)) = some (some (.agg zs), 7, 120)) (hzs : zs.size = 7)
    (base : Nat) (v : Value) (n : Nat) (hs : a.eval s = v) (g : Nat) (cs : List Value) (hx : a.eval x = .slice (some ⟨g, 0, none⟩) 1 1) (hown : ∃ xs, w.ownsRow base e 7 v n xs)
    (hg : w.heap[g]? = some (.cells cs.toArray e)) (hcl : cs.length = 7) (h1 : ∀ u ∈ cs, u.oneCell' = true) (hlen : n ≤ 1000) (hbase : base ≤ w.heap.size)
    (h : ∀ v' w', (∀ xs, w.ownsRow base e 7 v n xs → w'.ownsRow base e 7 v' (n + 1) (xs ++ cs)) → w.grownBy w' v.ownBlock → (v'.ownBlock = v.ownBlock ∨ v'.ownBlock = some w.heap.size) → K (a.put o.dst v') w') : if Region.wanted o (yielded ops a.tmps) = true then Oper.wp P o a w K Q else E := by
  have hw : Region.wanted o (yielded ops a.tmps) = true := by simp [Region.wanted, hgd]
  rw [if_pos hw]
  obtain ⟨xs0, hx0⟩ := hown
  obtain ⟨v', w', hr', h2, h3, h4⟩ := run_append_rec (P := P) (ty := o.type) ht hinfo hzs hx0 hg hcl h1 hlen hbase
  have hall : ∀ xs, w.ownsRow base e 7 v n xs → w'.ownsRow base e 7 v' (n + 1) (xs ++ cs) := fun xs hxs => by
    obtain ⟨v2, w2, hr2, h22, _, _⟩ := run_append_rec (P := P) (ty := o.type) ht hinfo hzs hxs hg hcl h1 hlen hbase
    rw [hr'] at hr2
    simp only [Result.ok.injEq] at hr2
    rw [hr2.1, hr2.2]
    exact h22
  unfold Oper.wp execOp
  simp only [ho, resolve, invoke, builtin, Sem.run_bind, Sem.run_pure, Result.andThen_ok, List.map_toArray, List.map_cons, List.map_nil, hs, hx, hr']
  exact h v' w' hall h3 h4
/-- The same where no order is drawn. -/
theorem append_rec' {ops : Array Oper} {rest : List Oper} {o : Oper} {a : Act} {Q : Exit → Act → World → Prop} (hgd : o.guard = none) (s x : Operand) (t e : TypeId)
    (ho : o.op = .call { callee := .builtin .append, args := #[s, x], argTypes := #[t, t] }) (ht : P.underlying t = some (.slice e)) (zs : Array Value)
    (hinfo : (P.info? e).map (fun i => (i.zero, i.size, i.bytes)) = some (some (.agg zs), 7, 120)) (hzs : zs.size = 7)
    (base : Nat) (v : Value) (n : Nat) (hs : a.eval s = v) (g : Nat) (cs : List Value) (hx : a.eval x = .slice (some ⟨g, 0, none⟩) 1 1) (hown : ∃ xs, w.ownsRow base e 7 v n xs)
    (hg : w.heap[g]? = some (.cells cs.toArray e)) (hcl : cs.length = 7) (h1 : ∀ u ∈ cs, u.oneCell' = true) (hlen : n ≤ 1000) (hbase : base ≤ w.heap.size)
    (h : ∀ v' w', (∀ xs, w.ownsRow base e 7 v n xs → w'.ownsRow base e 7 v' (n + 1) (xs ++ cs)) → w.grownBy w' v.ownBlock → (v'.ownBlock = v.ownBlock ∨ v'.ownBlock = some w.heap.size) → wpList P ops Q rest (a.put o.dst v') w') : wpList P ops Q (o :: rest) a w := by
  refine wpList_plain hgd fun _ hK => ?_
  obtain ⟨xs0, hx0⟩ := hown
  obtain ⟨v', w', hr', h2, h3, h4⟩ := run_append_rec (P := P) (ty := o.type) ht hinfo hzs hx0 hg hcl h1 hlen hbase
  have hall : ∀ xs, w.ownsRow base e 7 v n xs → w'.ownsRow base e 7 v' (n + 1) (xs ++ cs) := fun xs hxs => by
    obtain ⟨v2, w2, hr2, h22, _, _⟩ := run_append_rec (P := P) (ty := o.type) ht hinfo hzs hxs hg hcl h1 hlen hbase
    rw [hr'] at hr2
    simp only [Result.ok.injEq] at hr2
    rw [hr2.1, hr2.2]
    exact h22
  unfold Oper.wp execOp
  simp only [ho, resolve, invoke, builtin, Sem.run_bind, Sem.run_pure, Result.andThen_ok, List.map_toArray, List.map_cons, List.map_nil, hs, hx, hr']
  exact hK _ _ (h v' w' hall h3 h4)
end
end Go.Proofs.YtmnlhjdjjinbiaaGreat

namespace Go.Proofs.YtmnlhjdjjinbiaaGreat
open Go.RowKit
set_option linter.unusedVariables false

/-- What holds cells holds them. -/
def KeptC (W W' : World) : Prop := ∀ (g : Nat) (c : Array Value) (t : TypeId), W.heap[g]? = some (.cells c t) → W'.heap[g]? = some (.cells c t)
theorem keptC_of {W W' : World} {row : Option Nat} (hg : W.grownBy W' row) (hr : ∀ r, row = some r → ∃ o : Obj, W.heap[r]? = some o ∧ o.isCells = false) : KeptC W W' := by
  intro g c t h
  have hlt : g < W.heap.size := (Array.getElem?_eq_some_iff.1 h).1
  refine (hg.block g hlt ?_).trans h
  intro e
  obtain ⟨o, h1, h2⟩ := hr g e.symm
  rw [h] at h1
  cases h1
  cases h2
theorem row_keptC {W W' : World} {B n s : Nat} {e : TypeId} {v : Value} {xs : List Value} (h : W.ownsRow B e s v n xs) (hk : KeptC W W') : W'.ownsRow B e s v n xs := by
  obtain ⟨h1, h2⟩ := h
  rcases h2 with h2 | ⟨g, cap, c, h3, h4, h5, h6⟩
  · exact ⟨h1, .inl h2⟩
  · exact ⟨h1, .inr ⟨g, cap, c, h3, h4, hk _ _ _ h5, h6⟩⟩
theorem OwnN.keptC {C E : Nat} {el eb : TypeId} {W W' : World} {v : Value} {n : List (List Int)} (h : OwnN C E el eb W v n) (hk : KeptC W W') : OwnN C E el eb W' v n := by
  obtain ⟨vs, ho, hu, hd, hv, he⟩ := h
  refine ⟨vs, row_keptC ho hk, fun i hi => ?_, hd, hv, he⟩
  obtain ⟨x, h1, h2⟩ := hu i hi
  exact ⟨x, h1, row_keptC h2 hk⟩
theorem OwnB.keptC {C E : Nat} {e : TypeId} {W W' : World} {v : Value} {l : List Int} (h : OwnB C E e W v l) (hk : KeptC W W') : OwnB C E e W' v l := ⟨row_keptC h.1 hk, h.2⟩
theorem OwnBI.keptC {C E : Nat} {e : TypeId} {W W' : World} {v : Value} {l : List Int} (h : OwnBI C E e W v l) (hk : KeptC W W') : OwnBI C E e W' v l := ⟨row_keptC h.1 hk, h.2⟩
theorem OwnR.keptC {B E : Nat} {el eb ei : TypeId} {W W' : World} {vn vt vx vi : Value} {r : Rec} (h : OwnR B E el eb ei W vn vt vx vi r) (hk : KeptC W W') : OwnR B E el eb ei W' vn vt vx vi r := by
  obtain ⟨s1, s2, s3, a1, a2, a3, a4, h1, h2, h3, h4⟩ := h
  exact ⟨s1, s2, s3, a1, a2, a3, a4, h1.keptC hk, h2.keptC hk, h3.keptC hk, h4.keptC hk⟩
theorem RowO.keptC {B E : Nat} {er el eb ei : TypeId} {W W' : World} {v : Value} {rs : List Rec} (h : RowO B E er el eb ei W v rs) (hk : KeptC W W') : RowO B E er el eb ei W' v rs := by
  obtain ⟨xs, f, g, ho, hq, hx⟩ := h
  refine ⟨xs, f, g, row_keptC ho hk, hq, fun i hi => ?_⟩
  obtain ⟨h1, h2, h3, h4, vn, vt, vx, vi, q1, q2⟩ := hx i hi
  exact ⟨h1, h2, h3, h4, vn, vt, vx, vi, q1, q2.keptC hk⟩
/-- A row isn't a block that holds no cells. -/
theorem row_notC {B b n s : Nat} {e : TypeId} {w : World} {v : Value} {xs : List Value} {o : Obj} (h : w.ownsRow B e s v n xs) (hb : w.heap[b]? = some o) (ho : o.isCells = false) : v.ownBlock ≠ some b := by
  intro hq
  rcases h.2 with ⟨rfl, _⟩ | ⟨g, cap, cur, rfl, _, hg, _⟩
  · simp [Value.ownBlock] at hq
  · simp [Value.ownBlock] at hq
    subst hq
    rw [hg] at hb
    cases hb
    cases ho
theorem row_type {B b n s : Nat} {e t : TypeId} {w : World} {v : Value} {xs : List Value} {c : Array Value} (h : w.ownsRow B e s v n xs) (hb : w.heap[b]? = some (.cells c t)) (hne : t ≠ e) : v.ownBlock ≠ some b := by
  intro hq
  rcases h.2 with ⟨rfl, _⟩ | ⟨g, cap, cur, rfl, _, hg, _⟩
  · simp [Value.ownBlock] at hq
  · simp [Value.ownBlock] at hq
    subst hq
    rw [hg] at hb
    cases hb
    exact hne rfl
end Go.Proofs.YtmnlhjdjjinbiaaGreat
