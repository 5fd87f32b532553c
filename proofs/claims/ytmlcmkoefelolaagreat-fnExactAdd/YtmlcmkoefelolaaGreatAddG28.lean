/-
  Plain facts: a record taken out of a zone's book. No program is named here. Plain facts: a record put into a zone, as the specification does it and as a book does. No program is named here. Plain facts: what a book does to add a record is what the specification does. No program is named here. Plain facts: what a book does to drop records of a name and a type is what the specification does. No program is named here.
-/
import Derived.Test.YtmlcmkoefelolaaGreatAddG27
import Derived.Test.YtmlcmkoefelolaaGreatAddG24
namespace Go.Proofs.YtmlcmkoefelolaaGreat
open Go.RowKit
set_option linter.unusedVariables false

theorem compare_same : ∀ (a b : List UInt8), Lib.compareBytes a b = 0 → a = b
 | [], [], _ => rfl
 | [], _ :: _, h => by simp [Lib.compareBytes] at h
 | _ :: _, [], h => by simp [Lib.compareBytes] at h
 | x :: a, y :: b, h => by
  unfold Lib.compareBytes at h
  by_cases h1 : x < y
  ·simp [h1] at h
  ·by_cases h2 : y < x
   ·simp [h1, h2] at h
   ·simp only [h1, h2, if_false] at h
    rw [UInt8.le_antisymm (UInt8.not_lt.1 h2) (UInt8.not_lt.1 h1), compare_same a b h]
theorem keyR_iff {a b : Rec} : keyR a = keyR b ↔ cmpB (keyD a) (keyD b) = 0 := by
 constructor
 ·intro h
  unfold cmpB
  rw [show strOfNums (keyD a) = strOfNums (keyD b) from h]
  exact cmpB_self (keyD b)
 ·intro h
  have e := compare_same _ _ h
  unfold keyR
  have e2 : (strOfNums (keyD a)).data = (strOfNums (keyD b)).data := by simpa using congrArg List.toArray e
  cases ha : strOfNums (keyD a)
  cases hb : strOfNums (keyD b)
  rw [ha, hb] at e2
  simp only at e2
  rw [e2]
/-- Records are told apart by their names and keys. -/
theorem cmpR_zero_iff {a b : Rec} (ha : rrOk a = true) (hb : rrOk b = true) : cmpR a b = 0 ↔ a.name = b.name ∧ keyR a = keyR b := by
 have hz := cmpN_zero (byteL_of (rrOk_parts ha).1) (byteL_of (rrOk_parts hb).1)
 constructor
 ·intro h
  have hn : cmpN a.name b.name = 0 := by
   unfold cmpR at h
   by_cases e : cmpN a.name b.name = 0
   ·exact e
   ·rw [if_pos e] at h
    exact h
  refine ⟨hz.1 hn, keyR_iff.2 ?_⟩
  rcases cmpB_cases (keyD a) (keyD b) with e | e | e
  ·have := keys_back ha hb hn e
   omega
  ·exact e
  ·have e1 : cmpB (keyD b) (keyD a) = -1 := by
    have := cmpB_swap (keyD a) (keyD b)
    omega
   have e2 : cmpN b.name a.name = 0 := by
    have := cmpN_swap a.name b.name
    omega
   have := keys_back hb ha e2 e1
   have := cmpR_swap a b
   omega
 ·rintro ⟨h1, h2⟩
  have hn := hz.2 h1
  have hk := keyR_iff.1 h2
  rcases cmpR_cases a b with e | e | e
  ·have := keys_lt ha hb hn (by omega)
   omega
  ·exact e
  ·have e2 : cmpN b.name a.name = 0 := by
    have := cmpN_swap a.name b.name
    omega
   have := keys_lt hb ha e2 (by have := cmpR_swap a b; omega)
   have := cmpB_swap (keyD a) (keyD b)
   omega
theorem fold_good : ∀ {rs : List Rec} {B : Bk}, GoodB B → (∀ r ∈ rs, rrOk r = true) → GoodB (rs.foldl (fun B r => bkPut (strOfNums (keyN r.name)) (keyR r) r B) B)
 | [], B, h, _ => h
 | r :: t, B, h, hr => by
  rw [List.foldl_cons]
  exact fold_good (h.put (hr r (List.mem_cons_self ..))) (fun x hx => hr x (List.mem_cons_of_mem _ hx))
theorem oks_of {o : List (List Int)} {rs : List Rec} (hz : zoneOk o rs = true) : ∀ r ∈ rs, rrOk r = true := by
 intro r hr
 obtain ⟨i, hi, rfl⟩ := List.getElem_of_mem hr
 have := zone_oks hz i hi
 simpa [hi] using this
def bookZ (rs : List Rec) : Bk := rs.foldl (fun B r => bkPut (strOfNums (keyN r.name)) (keyR r) r B) []
theorem bookZ_good {o : List (List Int)} {rs : List Rec} (hz : zoneOk o rs = true) : GoodB (bookZ rs) := fold_good goodB_nil (oks_of hz)
/-- A zone's book has the zone's records and no other. -/
theorem bookZ_mem {o : List (List Int)} {rs : List Rec} (hz : zoneOk o rs = true) (r : Rec) : r ∈ rs ↔ ∃ q ∈ bookZ rs, (keyR r, r) ∈ q.2 := by
 have hg := bookZ_good hz
 constructor
 ·intro hr
  have hn := names_ok (zone_oks hz) r hr
  have hp := page_of_zone hz hn
  have hm : (keyR r, r) ∈ (lookA (strOfNums (keyN r.name)) (bookZ rs)).getD [] := by
   unfold bookZ keyR
   rw [hp]
   exact List.mem_map.2 ⟨r, List.mem_filter.2 ⟨hr, by simp⟩, rfl⟩
  obtain ⟨P, h1, h2⟩ := page_of _ _ hm
  exact ⟨_, h1, h2⟩
 ·rintro ⟨q, hq, hm⟩
  obtain ⟨_, ho, hk⟩ := (hg.pages q hq).keys _ hm
  simp only at ho hk
  have hp := page_of_zone hz (rrOk_parts ho).1
  have hl := lookA_mem hg.apart (k := q.1) (v := q.2) hq
  rw [hk] at hl
  have hl' : (lookA (strOfNums (keyN r.name)) (rs.foldl (fun B r => bkPut (strOfNums (keyN r.name)) (strOfNums (keyD r)) r B) [])) = some q.2 := hl
  rw [hl', Option.getD_some] at hp
  rw [hp] at hm
  obtain ⟨x, hx, e⟩ := List.mem_map.1 hm
  have e2 : x = r := congrArg Prod.snd e
  subst e2
  exact (List.mem_filter.1 hx).1
theorem zone_asc {o : List (List Int)} {rs : List Rec} (hz : zoneOk o rs = true) : rs.Pairwise (fun a b => cmpR a b < 0) := by
 have h := sortB_asc (bookZ_good hz)
 have hz' := of_decide_eq_true hz
 have hg := (good_iff hz'.1).1 hz'.2.2.1
 rw [List.pairwise_iff_getElem]
 intro i j hi hj hij
 have e1 : rs.getD i recZ = rs[i] := by simp [hi]
 have e2 : rs.getD j recZ = rs[j] := by simp [hj]
 have hs := sorted_le (rs := rs) (fun j _ hj => cmpR_name ((hg j hj).next (by omega))) (i := i) (j := j) (by omega) hj
 rw [e1, e2] at hs
 by_cases hn : cmpN rs[i].name rs[j].name = 0
 ·have o1 := oks_of hz _ (List.getElem_mem hi)
  have o2 := oks_of hz _ (List.getElem_mem hj)
  have hn' := (cmpN_zero (byteL_of (rrOk_parts o1).1) (byteL_of (rrOk_parts o2).1)).1 hn
  exact keys_back o1 o2 hn ((List.pairwise_iff_getElem.1 (keys_asc hz)) i j hi hj hij hn')
 ·unfold cmpR
  rw [if_pos hn]
  omega
/-- A record taken out of a book. -/
def bkDel (kn kd : ByteArray) (B : Bk) : Bk := B.map (fun q => if q.1 = kn then (q.1, delA kd q.2) else q)
theorem delA_apart {κ β : Type} [DecidableEq κ] {k : κ} : ∀ {l : List (κ × β)}, l.Pairwise (fun p q => p.1 ≠ q.1) → (delA k l).Pairwise (fun p q => p.1 ≠ q.1)
 | [], _ => List.Pairwise.nil
 | (a, u) :: t, h => by
  obtain ⟨h1, h2⟩ := List.pairwise_cons.1 h
  by_cases e : a = k
  ·rw [delA, if_pos e]
   exact h2
  ·rw [delA, if_neg e]
   exact List.pairwise_cons.2 ⟨fun q hq => h1 q ((mem_delA h2).1 hq).1, delA_apart h2⟩
theorem bkDel_fst (kn kd : ByteArray) (q : ByteArray × Pg) : (if q.1 = kn then (q.1, delA kd q.2) else q).1 = q.1 := by split <;> rfl
theorem GoodB.del {B : Bk} (h : GoodB B) (kn kd : ByteArray) : GoodB (bkDel kn kd B) := by
 refine ⟨?_, fun q hq => ?_⟩
 ·unfold bkDel
  rw [List.pairwise_map]
  exact h.apart.imp (fun {a b} hab => by rw [bkDel_fst, bkDel_fst]; exact hab)
 ·obtain ⟨p, hp, rfl⟩ := List.mem_map.1 hq
  have hg := h.pages p hp
  split
  ·exact ⟨delA_apart hg.apart, fun x hx => hg.keys x ((mem_delA hg.apart).1 hx).1⟩
  ·exact hg
end Go.Proofs.YtmlcmkoefelolaaGreat

namespace Go.Proofs.YtmlcmkoefelolaaGreat
open Go.RowKit
set_option linter.unusedVariables false

theorem cmpR_trans {a b c : Rec} (ha : rrOk a = true) (hb : rrOk b = true) (hc : rrOk c = true) (h : cmpR a b < 0) (k : cmpR b c < 0) : cmpR a c < 0 := by
 have n1 := cmpR_name h
 have n2 := cmpR_name k
 have n3 := cmpN_trans n1 n2
 by_cases e : cmpN a.name c.name = 0
 ·obtain ⟨e1, e2⟩ := cmpN_between n1 n2 e
  have k1 := keys_lt ha hb e1 h
  have k2 := keys_lt hb hc e2 k
  refine keys_back ha hc e ?_
  have k3 := cmpB_trans (a := keyD a) (b := keyD b) (c := keyD c) (by omega) (by omega)
  rcases cmpB_cases (keyD a) (keyD c) with q | q | q
  ·exact q
  ·have := cmpB_between (a := keyD a) (b := keyD b) (c := keyD c) (by omega) (by omega) q
   omega
  ·omega
 ·unfold cmpR
  rw [if_pos e]
  omega
/-- A record of the same name and type gets the time. -/
def upd (r x : Rec) : Rec := if cmpN x.name r.name = 0 ∧ x.type = r.type then ⟨x.name, x.type, r.ttl, x.addr, x.to, x.text, x.nums⟩ else x
theorem upd_cmp (r x y : Rec) : cmpR (upd r x) y = cmpR x y := by
 unfold upd
 split <;> rfl
theorem upd_cmp2 (r x y : Rec) : cmpR y (upd r x) = cmpR y x := by
 unfold upd
 split <;> rfl
theorem upd_ok {r x : Rec} (hr : rrOk r = true) (hx : rrOk x = true) : rrOk (upd r x) = true := by
 unfold upd
 split
 ·have := rrOk_parts hr
  exact rrOk_time hx r.ttl this.2.2.1 this.2.2.2.1
 ·exact hx
/-- The specification's way: one record after the other. -/
def addL (r : Rec) : List Rec → Bool → List Rec
 | [], put => if put = true then [] else [r]
 | x :: t, put => (if put = false ∧ cmpR r x ≤ 0 then [r] else []) ++ (if cmpR r x ≠ 0 then [upd r x] else []) ++ addL r t (put || decide (cmpR r x ≤ 0))
theorem addL_mem {r y : Rec} : ∀ {rs : List Rec} {put : Bool}, y ∈ addL r rs put ↔ (put = false ∧ y = r) ∨ ∃ x ∈ rs, cmpR r x ≠ 0 ∧ y = upd r x
 | [], put => by
  cases put <;> simp [addL]
 | x :: t, put => by
  rw [addL, List.mem_append, List.mem_append, addL_mem]
  constructor
  ·rintro ((h | h) | (⟨h1, h2⟩ | ⟨z, h1, h2, h3⟩))
   ·split at h
    ·rename_i hc
     simp only [List.mem_singleton] at h
     exact .inl ⟨hc.1, h⟩
    ·simp at h
   ·split at h
    ·rename_i hc
     simp only [List.mem_singleton] at h
     exact .inr ⟨x, List.mem_cons_self .., hc, h⟩
    ·simp at h
   ·rw [Bool.or_eq_false_iff] at h1
    exact .inl ⟨h1.1, h2⟩
   ·exact .inr ⟨z, List.mem_cons_of_mem _ h1, h2, h3⟩
  ·rintro (⟨h1, h2⟩ | ⟨z, h1, h2, h3⟩)
   ·by_cases hc : cmpR r x ≤ 0
    ·exact .inl (.inl (by rw [if_pos ⟨h1, hc⟩]; simp [h2]))
    ·exact .inr (.inl ⟨by simp [h1, hc], h2⟩)
   ·rcases List.mem_cons.1 h1 with rfl | h1
    ·exact .inl (.inr (by rw [if_pos h2]; simp [h3]))
    ·exact .inr (.inr ⟨z, h1, h2, h3⟩)
theorem addL_asc {r : Rec} (hr : rrOk r = true) : ∀ {rs : List Rec} {put : Bool}, rs.Pairwise (fun a b => cmpR a b < 0) → (∀ x ∈ rs, rrOk x = true) → (put = true → ∀ x ∈ rs, cmpR r x < 0) → (addL r rs put).Pairwise (fun a b => cmpR a b < 0)
 | [], put, _, _, _ => by cases put <;> simp [addL]
 | x :: t, put, ha, ho, hp => by
  obtain ⟨a1, a2⟩ := List.pairwise_cons.1 ha
  have ox := ho x (List.mem_cons_self ..)
  have ot : ∀ y ∈ t, rrOk y = true := fun y hy => ho y (List.mem_cons_of_mem _ hy)
  have hs := cmpR_swap r x
  have hle : cmpR r x ≤ 0 → ∀ y ∈ t, cmpR r y < 0 := by
   intro hc y hy
   rcases Int.lt_or_eq_of_le hc with h | h
   ·exact cmpR_trans hr ox (ot y hy) h (a1 y hy)
   ·have e := (cmpR_zero_iff hr ox).1 h
    have : cmpR x y < 0 := a1 y hy
    -- r and x are of one name and key
    have hn1 : cmpN r.name y.name = cmpN x.name y.name := by rw [e.1]
    by_cases q : cmpN x.name y.name = 0
    ·have k1 := keys_lt ox (ot y hy) q this
     refine keys_back hr (ot y hy) (by rw [hn1]; exact q) ?_
     unfold cmpB at k1 ⊢
     rw [show strOfNums (keyD r) = strOfNums (keyD x) from e.2]
     exact k1
    ·have := cmpR_name this
     unfold cmpR
     rw [if_pos (by rw [hn1]; exact q), hn1]
     omega
  have ih : (addL r t (put || decide (cmpR r x ≤ 0))).Pairwise (fun a b => cmpR a b < 0) := addL_asc hr a2 ot (fun hq y hy => by
   rcases Bool.or_eq_true _ _ ▸ hq with h | h
   ·exact hp h y (List.mem_cons_of_mem _ hy)
   ·exact hle (of_decide_eq_true h) y hy)
  rw [addL]
  have mem : ∀ y ∈ addL r t (put || decide (cmpR r x ≤ 0)), ((put || decide (cmpR r x ≤ 0)) = false ∧ y = r) ∨ ∃ z ∈ t, y = upd r z := by
   intro y hy
   rcases addL_mem.1 hy with h | ⟨z, h1, _, h3⟩
   ·exact .inl h
   ·exact .inr ⟨z, h1, h3⟩
  by_cases hc : cmpR r x ≤ 0
  ·by_cases hz : cmpR r x = 0
   ·rw [if_neg (by simp [hz] : ¬ cmpR r x ≠ 0), List.append_nil]
    by_cases hpf : put = false
    ·rw [if_pos ⟨hpf, hc⟩, List.singleton_append]
     refine List.pairwise_cons.2 ⟨fun y hy => ?_, ih⟩
     rcases mem y hy with ⟨h, _⟩ | ⟨z, h1, rfl⟩
     ·simp [hc] at h
     ·rw [upd_cmp2]
      exact hle hc z h1
    ·rw [if_neg (fun q => hpf q.1), List.nil_append]
     exact ih
   ·rw [if_pos hz]
    have tailx : ([upd r x] ++ addL r t (put || decide (cmpR r x ≤ 0))).Pairwise (fun a b => cmpR a b < 0) := by
     rw [List.singleton_append]
     refine List.pairwise_cons.2 ⟨fun y hy => ?_, ih⟩
     rcases mem y hy with ⟨h, _⟩ | ⟨z, h1, rfl⟩
     ·simp [hc] at h
     ·rw [upd_cmp, upd_cmp2]
      exact a1 z h1
    by_cases hpf : put = false
    ·rw [if_pos ⟨hpf, hc⟩, List.append_assoc, List.singleton_append]
     refine List.pairwise_cons.2 ⟨fun y hy => ?_, tailx⟩
     rcases List.mem_append.1 hy with hy | hy
     ·simp only [List.mem_singleton] at hy
      rw [hy, upd_cmp2]
      omega
     ·rcases mem y hy with ⟨h, _⟩ | ⟨z, h1, rfl⟩
      ·simp [hc] at h
      ·rw [upd_cmp2]
       exact hle hc z h1
    ·rw [if_neg (fun q => hpf q.1), List.nil_append]
     exact tailx
  ·rw [if_neg (fun q => hc q.2), List.nil_append, if_pos (by omega), List.singleton_append]
   refine List.pairwise_cons.2 ⟨fun y hy => ?_, ih⟩
   rcases mem y hy with ⟨_, rfl⟩ | ⟨z, h1, rfl⟩
   ·rw [upd_cmp]
    omega
   ·rw [upd_cmp, upd_cmp2]
    exact a1 z h1
/-- What a book has, one record put into it. -/
theorem bkPut_mem {B : Bk} (h : GoodB B) {r : Rec} (hr : rrOk r = true) {x : Rec} (hx : rrOk x = true) : (∃ q ∈ bkPut (strOfNums (keyN r.name)) (keyR r) r B, (keyR x, x) ∈ q.2) ↔ x = r ∨ ((∃ q ∈ B, (keyR x, x) ∈ q.2) ∧ cmpR x r ≠ 0) := by
 have hpg := h.page (strOfNums (keyN r.name))
 have hgp := h.put hr
 constructor
 ·rintro ⟨q, hq, hm⟩
  by_cases e : q.1 = strOfNums (keyN r.name)
  ·have hl := lookA_mem hgp.apart (k := q.1) (v := q.2) hq
   rw [e] at hl
   unfold bkPut at hl
   rw [lookA_put] at hl
   rw [(Option.some.inj hl).symm] at hm
   by_cases e2 : keyR x = keyR r
   ·left
    have hl2 := lookA_mem (putA_keys hpg.apart) hm
    rw [e2, lookA_put] at hl2
    exact (Option.some.inj hl2).symm
   ·rcases mem_putA hm with hm' | hm'
    ·exact absurd (congrArg Prod.fst hm') e2
    ·obtain ⟨P, h1, h2⟩ := page_of _ B hm'
     exact .inr ⟨⟨_, h1, h2⟩, fun hc => e2 ((cmpR_zero_iff hx hr).1 hc).2⟩
  ·rcases mem_putA hq with hq' | hq'
   ·exact absurd (congrArg Prod.fst hq') e
   ·have hk := (h.pages q hq').keys _ hm
    simp only at hk
    exact .inr ⟨⟨q, hq', hm⟩, fun hc => e (by rw [hk.2.2, ((cmpR_zero_iff hx hr).1 hc).1])⟩
 ·rintro (rfl | ⟨⟨p, hp, hm⟩, hc⟩)
  ·exact ⟨_, mem_putA_self, mem_putA_self⟩
  ·by_cases e : p.1 = strOfNums (keyN r.name)
   ·have hl := lookA_mem h.apart (k := p.1) (v := p.2) hp
    rw [e] at hl
    have hk := (h.pages p hp).keys _ hm
    simp only at hk
    have hne : keyR x ≠ keyR r := fun q => hc ((cmpR_zero_iff hx hr).2 ⟨keyN_inj (rrOk_parts hx).1 (rrOk_parts hr).1 (hk.2.2.symm.trans e), q⟩)
    exact ⟨_, mem_putA_self, mem_putA_other (by rw [hl, Option.getD_some]; exact hm) hne⟩
   ·exact ⟨p, mem_putA_other hp e, hm⟩
end Go.Proofs.YtmlcmkoefelolaaGreat

namespace Go.Proofs.YtmlcmkoefelolaaGreat
open Go.RowKit
set_option linter.unusedVariables false

/-- The book has the record. -/
def InB (B : Bk) (x : Rec) : Prop := ∃ q ∈ B, (keyR x, x) ∈ q.2
theorem InB.ok {B : Bk} (h : GoodB B) {x : Rec} (hx : InB B x) : rrOk x = true := by
 obtain ⟨q, hq, hm⟩ := hx
 exact ((h.pages q hq).keys _ hm).2.1
/-- What set gives. -/
def setB (n : List (List Int)) (t : Int) (B : Bk) : List Rec := (sortP ((lookA (strOfNums (keyN n)) B).getD [])).filter (selT t)
theorem mem_setB {B : Bk} (h : GoodB B) {n : List (List Int)} (hn : nameOk n = true) {t : Int} {x : Rec} : x ∈ setB n t B ↔ InB B x ∧ x.name = n ∧ selT t x = true := by
 unfold setB
 rw [List.mem_filter, mem_sortP (h.page _)]
 constructor
 ·rintro ⟨h1, h2⟩
  obtain ⟨P, p1, p2⟩ := page_of _ B h1
  have hk := (h.pages _ p1).keys _ p2
  simp only at hk
  exact ⟨⟨_, p1, p2⟩, (keyN_inj hn (rrOk_parts hk.2.1).1 hk.2.2).symm, h2⟩
 ·rintro ⟨⟨q, hq, hm⟩, rfl, h2⟩
  have hk := (h.pages q hq).keys _ hm
  simp only at hk
  have hl := lookA_mem h.apart (k := q.1) (v := q.2) hq
  rw [hk.2.2] at hl
  rw [hl]
  exact ⟨hm, h2⟩
def putAll (L : List Rec) (B : Bk) : Bk := L.foldl (fun B r => bkPut (strOfNums (keyN r.name)) (keyR r) r B) B
theorem putAll_mem : ∀ {L : List Rec} {B : Bk}, GoodB B → (∀ l ∈ L, rrOk l = true) → L.Pairwise (fun a b => cmpR a b ≠ 0) → ∀ {y : Rec}, rrOk y = true → (InB (putAll L B) y ↔ y ∈ L ∨ (InB B y ∧ ∀ l ∈ L, cmpR y l ≠ 0))
 | [], B, _, _, _, y, _ => by simp [putAll]
 | l :: t, B, hB, hL, hd, y, hy => by
  obtain ⟨d1, d2⟩ := List.pairwise_cons.1 hd
  have hl := hL l (List.mem_cons_self ..)
  have ih := putAll_mem (L := t) (hB.put hl) (fun z hz => hL z (List.mem_cons_of_mem _ hz)) d2 hy
  have hp : InB (bkPut (strOfNums (keyN l.name)) (keyR l) l B) y ↔ y = l ∨ (InB B y ∧ cmpR y l ≠ 0) := bkPut_mem hB hl hy
  show InB (putAll t (bkPut (strOfNums (keyN l.name)) (keyR l) l B)) y ↔ _
  rw [ih, hp]
  constructor
  ·rintro (h | ⟨(rfl | ⟨h1, h2⟩), h3⟩)
   ·exact .inl (List.mem_cons_of_mem _ h)
   ·exact .inl (List.mem_cons_self ..)
   ·refine .inr ⟨h1, fun z hz => ?_⟩
    rcases List.mem_cons.1 hz with rfl | hz
    ·exact h2
    ·exact h3 z hz
  ·rintro (h | ⟨h1, h2⟩)
   ·rcases List.mem_cons.1 h with rfl | h
    ·exact .inr ⟨.inl rfl, fun z hz => d1 z hz⟩
    ·exact .inl h
   ·exact .inr ⟨.inr ⟨h1, h2 l (List.mem_cons_self ..)⟩, fun z hz => h2 z (List.mem_cons_of_mem _ hz)⟩
theorem putAll_good {L : List Rec} {B : Bk} (h : GoodB B) (hL : ∀ l ∈ L, rrOk l = true) : GoodB (putAll L B) := fold_good h hL
/-- What add does to a book. -/
def bkAdd (r : Rec) (B : Bk) : Bk := putAll ((setB r.name r.type (bkPut (strOfNums (keyN r.name)) (keyR r) r B)).map (fun x => ⟨x.name, x.type, r.ttl, x.addr, x.to, x.text, x.nums⟩)) (bkPut (strOfNums (keyN r.name)) (keyR r) r B)
theorem upd_set {r x : Rec} (h1 : x.name = r.name) (h2 : x.type = r.type) : upd r x = ⟨x.name, x.type, r.ttl, x.addr, x.to, x.text, x.nums⟩ := by
 unfold upd
 rw [if_pos ⟨by rw [h1]; exact cmpN_self _, h2⟩]
theorem upd_self (r : Rec) : upd r r = r := by
 rw [upd_set rfl rfl]
theorem upd_other {r x : Rec} (hr : rrOk r = true) (hx : rrOk x = true) (h : ¬ (x.name = r.name ∧ x.type = r.type)) : upd r x = x := by
 unfold upd
 rw [if_neg (fun q => h ⟨(cmpN_zero (byteL_of (rrOk_parts hx).1) (byteL_of (rrOk_parts hr).1)).1 q.1, q.2⟩)]
theorem selT_type {t : Int} {x : Rec} (ht : t ≤ 49) : selT t x = true ↔ x.type = t := by
 unfold selT
 rw [Bool.or_eq_true, beq_iff_eq, beq_iff_eq]
 constructor
 ·rintro (h | h)
  ·omega
  ·exact h
 ·exact fun h => .inr h
theorem cmpR_type {a b : Rec} (h : cmpR a b = 0) : a.type = b.type := by
 unfold cmpR at h
 by_cases e : cmpN a.name b.name = 0
 ·rw [if_neg (by simp [e])] at h
  by_cases q : byLength a.type b.type = 0
  ·exact byLength_zero q
  ·rw [if_pos q] at h
   exact absurd h q
 ·rw [if_pos e] at h
  exact absurd h e
theorem added_sorted {o : List (List Int)} {rs : List Rec} (hz : zoneOk o rs = true) {r : Rec} (hr : rrOk r = true) : sortB (bkAdd r (bookZ rs)) = addL r rs false ∧ GoodB (bkAdd r (bookZ rs)) := by
 have hB := bookZ_good hz
 have hB1 := hB.put hr
 have m1 : ∀ {x : Rec}, rrOk x = true → (InB (bkPut (strOfNums (keyN r.name)) (keyR r) r (bookZ rs)) x ↔ x = r ∨ (x ∈ rs ∧ cmpR x r ≠ 0)) := fun {x} hx => by
  rw [show InB (bkPut (strOfNums (keyN r.name)) (keyR r) r (bookZ rs)) x ↔ _ from bkPut_mem hB hr hx, bookZ_mem hz x]
 have ms : ∀ x, x ∈ setB r.name r.type (bkPut (strOfNums (keyN r.name)) (keyR r) r (bookZ rs)) ↔ InB (bkPut (strOfNums (keyN r.name)) (keyR r) r (bookZ rs)) x ∧ x.name = r.name ∧ x.type = r.type := fun x => by
  rw [mem_setB hB1 (rrOk_parts hr).1, selT_type (type_small hr).2]
 have hasc : (setB r.name r.type (bkPut (strOfNums (keyN r.name)) (keyR r) r (bookZ rs))).Pairwise (fun a b => cmpR a b < 0) := (sortP_asc (hB1.page _)).filter _
 generalize hS : setB r.name r.type (bkPut (strOfNums (keyN r.name)) (keyR r) r (bookZ rs)) = S at *
 have hmap : S.map (fun x => (⟨x.name, x.type, r.ttl, x.addr, x.to, x.text, x.nums⟩ : Rec)) = S.map (upd r) := List.map_congr_left (fun x hx => (upd_set ((ms x).1 hx).2.1 ((ms x).1 hx).2.2).symm)
 have hokS : ∀ x ∈ S, rrOk x = true := fun x hx => InB.ok hB1 ((ms x).1 hx).1
 have hokL : ∀ l ∈ S.map (upd r), rrOk l = true := fun l hl => by
  obtain ⟨x, hx, rfl⟩ := List.mem_map.1 hl
  exact upd_ok hr (hokS x hx)
 have hdL : (S.map (upd r)).Pairwise (fun a b => cmpR a b ≠ 0) := by
  rw [List.pairwise_map]
  exact hasc.imp (fun {a b} h => by rw [upd_cmp, upd_cmp2]; omega)
 have hG : GoodB (bkAdd r (bookZ rs)) := by
  unfold bkAdd
  rw [hS, hmap]
  exact putAll_good hB1 hokL
 refine ⟨sortB_is hG (addL_asc hr (zone_asc hz) (oks_of hz) (fun h => by cases h)) (fun y => ?_), hG⟩
 rw [addL_mem]
 have hfin : ∀ {y : Rec}, rrOk y = true → (InB (bkAdd r (bookZ rs)) y ↔ (∃ x ∈ S, y = upd r x) ∨ ((y = r ∨ (y ∈ rs ∧ cmpR y r ≠ 0)) ∧ ∀ x ∈ S, cmpR y x ≠ 0)) := fun {y} hy => by
  unfold bkAdd
  rw [hS, hmap, putAll_mem hB1 hokL hdL hy, m1 hy]
  constructor
  ·rintro (h | ⟨h1, h2⟩)
   ·obtain ⟨x, hx, rfl⟩ := List.mem_map.1 h
    exact .inl ⟨x, hx, rfl⟩
   ·exact .inr ⟨h1, fun x hx => by have := h2 _ (List.mem_map.2 ⟨x, hx, rfl⟩); rwa [upd_cmp2] at this⟩
  ·rintro (⟨x, hx, rfl⟩ | ⟨h1, h2⟩)
   ·exact .inl (List.mem_map.2 ⟨x, hx, rfl⟩)
   ·refine .inr ⟨h1, fun l hl => ?_⟩
    obtain ⟨x, hx, rfl⟩ := List.mem_map.1 hl
    rw [upd_cmp2]
    exact h2 x hx
 have hrS : r ∈ S := (ms r).2 ⟨(m1 hr).2 (.inl rfl), rfl, rfl⟩
 constructor
 ·rintro (⟨_, rfl⟩ | ⟨x, hx, hc, rfl⟩)
  ·exact (hfin hr).2 (.inl ⟨y, hrS, (upd_self y).symm⟩)
  ·have hxo := oks_of hz x hx
   have hc' : cmpR x r ≠ 0 := by
    have := cmpR_swap r x
    omega
   refine (hfin (upd_ok hr hxo)).2 ?_
   by_cases e : x.name = r.name ∧ x.type = r.type
   ·exact .inl ⟨x, (ms x).2 ⟨(m1 hxo).2 (.inr ⟨hx, hc'⟩), e⟩, rfl⟩
   ·rw [upd_other hr hxo e]
    refine .inr ⟨.inr ⟨hx, hc'⟩, fun z hzS hzero => e ?_⟩
    have hzz := (ms z).1 hzS
    exact ⟨((cmpR_zero_iff hxo (hokS z hzS)).1 hzero).1.trans hzz.2.1, (cmpR_type hzero).trans hzz.2.2⟩
 ·intro hy
  have hyo := InB.ok hG hy
  rcases (hfin hyo).1 hy with ⟨x, hx, rfl⟩ | ⟨h1, h2⟩
  ·have hxm := (ms x).1 hx
   rcases (m1 (hokS x hx)).1 hxm.1 with rfl | ⟨h3, h4⟩
   ·exact .inl ⟨rfl, upd_self x⟩
   ·exact .inr ⟨x, h3, by have := cmpR_swap r x; omega, rfl⟩
  ·rcases h1 with rfl | ⟨h3, h4⟩
   ·exact .inl ⟨rfl, rfl⟩
   ·refine .inr ⟨y, h3, by have := cmpR_swap r y; omega, ?_⟩
    by_cases e : y.name = r.name ∧ y.type = r.type
    ·exact absurd (cmpR_self y) (h2 y ((ms y).2 ⟨(m1 hyo).2 (.inr ⟨h3, h4⟩), e⟩))
    ·exact (upd_other hr hyo e).symm
end Go.Proofs.YtmlcmkoefelolaaGreat

namespace Go.Proofs.YtmlcmkoefelolaaGreat
open Go.RowKit
set_option linter.unusedVariables false

/-- What drop does to a book, and what it says: the one record of its type that makes a zone stays. -/
def bkDrop (r : Rec) (B : Bk) : Bk × Bool := if (lookA (keyR r) ((lookA (strOfNums (keyN r.name)) B).getD [])).isSome = true ∧ r.type ≠ 6 then (bkDel (strOfNums (keyN r.name)) (keyR r) B, true) else (B, false)
end Go.Proofs.YtmlcmkoefelolaaGreat
