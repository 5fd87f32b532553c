/-
  Plain facts: a book's records by ascending keys, page after page. No program is named here. Plain facts: what SetOf answers. No program is named here. Plain facts: maps whose keys are texts: look-ups that say whether the key is there, and deletions. No program is named here. Plain facts: a record taken out of a zone's book. No program is named here.
-/
import Derived.Test.YtfgcmjpkgdjcfaaGreatDropSetG25
import Derived.Test.YtfgcmjpkgdjcfaaGreatDropSetG22
import Derived.Test.YtfgcmjpkgdjcfaaGreatDropSetG20
import Derived.Test.YtfgcmjpkgdjcfaaGreatDropSetG19
namespace Go.Proofs.YtfgcmjpkgdjcfaaGreat
open Go.RowKit
set_option linter.unusedVariables false

/-- A book's records, in order. -/
def sortB (B : Bk) : List Rec := (keysP B).flatMap (fun k => sortP ((lookA ⟨k.toArray⟩ B).getD []))
/-- A page whose keys are its records'. -/
structure GoodP (kn : ByteArray) (P : Pg) : Prop where
 apart : P.Pairwise (fun p q => p.1 ≠ q.1)
 keys : ∀ x ∈ P, x.1 = keyR x.2 ∧ rrOk x.2 = true ∧ kn = strOfNums (keyN x.2.name)
structure GoodB (B : Bk) : Prop where
 apart : B.Pairwise (fun p q => p.1 ≠ q.1)
 pages : ∀ q ∈ B, GoodP q.1 q.2
theorem putA_keys {κ α : Type} [DecidableEq κ] {k : κ} {v : α} : ∀ {l : List (κ × α)}, l.Pairwise (fun p q => p.1 ≠ q.1) → (putA k v l).Pairwise (fun p q => p.1 ≠ q.1)
 | [], _ => by simp [putA]
 | (a, u) :: t, h => by
  obtain ⟨h1, h2⟩ := List.pairwise_cons.1 h
  by_cases e : a = k
  ·subst e
   simp only [putA, if_true]
   exact List.pairwise_cons.2 ⟨fun q hq => h1 q hq, h2⟩
  ·simp only [putA, if_neg e]
   refine List.pairwise_cons.2 ⟨fun q hq => ?_, putA_keys h2⟩
   rcases mem_putA hq with rfl | hq
   ·exact e
   ·exact h1 q hq
theorem goodB_nil : GoodB [] := ⟨List.Pairwise.nil, fun q hq => by simp at hq⟩
theorem goodP_nil (kn : ByteArray) : GoodP kn [] := ⟨List.Pairwise.nil, fun x hx => by simp at hx⟩
theorem GoodB.page {B : Bk} (h : GoodB B) (kn : ByteArray) : GoodP kn ((lookA kn B).getD []) := by
 cases hl : lookA kn B with
 | none => exact goodP_nil kn
 | some P => exact h.pages _ (lookA_in hl)
theorem GoodB.put {B : Bk} (h : GoodB B) {r : Rec} (hr : rrOk r = true) : GoodB (bkPut (strOfNums (keyN r.name)) (keyR r) r B) := by
 refine ⟨putA_keys h.apart, fun q hq => ?_⟩
 rcases mem_putA hq with rfl | hq
 ·have hp := h.page (strOfNums (keyN r.name))
  refine ⟨putA_keys hp.apart, fun x hx => ?_⟩
  rcases mem_putA hx with rfl | hx
  ·exact ⟨rfl, hr, rfl⟩
  ·exact hp.keys x hx
 ·exact h.pages q hq
theorem mem_keysP {α : Type} {P : List (ByteArray × α)} {k : List UInt8} : k ∈ keysP P ↔ ∃ v, ((⟨k.toArray⟩ : ByteArray), v) ∈ P := by
 refine ⟨keysP_mem, fun ⟨v, hv⟩ => ?_⟩
 unfold keysP
 rw [List.mem_mergeSort]
 exact List.mem_map.2 ⟨_, hv, by simp⟩
theorem mem_sortP {kn : ByteArray} {P : Pg} (h : GoodP kn P) {r : Rec} : r ∈ sortP P ↔ (keyR r, r) ∈ P := by
 unfold sortP
 rw [List.mem_map]
 constructor
 ·rintro ⟨k, hk, rfl⟩
  obtain ⟨v, hv⟩ := mem_keysP.1 hk
  have hl := lookA_mem h.apart hv
  unfold atKey
  rw [hl, Option.getD_some, ← (h.keys _ hv).1]
  exact hv
 ·intro hr
  refine ⟨(keyR r).data.toList, mem_keysP.2 ⟨r, by simpa using hr⟩, ?_⟩
  unfold atKey
  rw [show (⟨(keyR r).data.toList.toArray⟩ : ByteArray) = keyR r by simp, lookA_mem h.apart hr]
  rfl
theorem mem_sortB {B : Bk} (h : GoodB B) {r : Rec} : r ∈ sortB B ↔ ∃ q ∈ B, (keyR r, r) ∈ q.2 := by
 unfold sortB
 rw [List.mem_flatMap]
 constructor
 ·rintro ⟨k, hk, hr⟩
  obtain ⟨P, hP⟩ := mem_keysP.1 hk
  rw [lookA_mem h.apart hP, Option.getD_some] at hr
  exact ⟨_, hP, (mem_sortP (h.pages _ hP)).1 hr⟩
 ·rintro ⟨q, hq, hr⟩
  refine ⟨q.1.data.toList, mem_keysP.2 ⟨q.2, by simpa using hq⟩, ?_⟩
  rw [show (⟨q.1.data.toList.toArray⟩ : ByteArray) = q.1 by simp, lookA_mem h.apart (v := q.2) hq, Option.getD_some]
  exact (mem_sortP (h.pages q hq)).2 hr
/-- Keys that ascend, none twice. -/
theorem keysP_asc {α : Type} {P : List (ByteArray × α)} (h : P.Pairwise (fun p q => p.1 ≠ q.1)) : (keysP P).Pairwise (fun a b => a < b) := by
 have tr : ∀ a b c : List UInt8, leB a b = true → leB b c = true → leB a c = true := fun a b c h1 h2 => by simp only [leB, decide_eq_true_eq] at *; exact List.le_trans h1 h2
 have to : ∀ a b : List UInt8, (leB a b || leB b a) = true := fun a b => by simp only [leB, Bool.or_eq_true, decide_eq_true_eq]; exact List.le_total a b
 have h1 := List.pairwise_mergeSort tr to (P.map (fun p => p.1.data.toList))
 have h2 : (keysP P).Nodup := by
  unfold keysP
  rw [(List.mergeSort_perm _ _).nodup_iff]
  rw [List.Nodup, List.pairwise_map]
  refine h.imp (fun {a b} hab e => hab ?_)
  have : a.1.data = b.1.data := by simpa using congrArg List.toArray e
  cases ha : a.1
  cases hb : b.1
  rw [ha, hb] at this
  simp only at this
  rw [this]
 have h3 : (keysP P).Pairwise (fun a b => leB a b = true) := h1
 refine (h3.and h2).imp (fun {a b} hab => ?_)
 have hle := hab.1
 simp only [leB, decide_eq_true_eq] at hle
 by_cases hlt : a < b
 ·exact hlt
 ·exact absurd (List.le_antisymm hle hlt) hab.2
theorem compare_of : ∀ (a b : List UInt8), a < b → Lib.compareBytes a b = -1
 | [], [], h => absurd h (List.lt_irrefl _)
 | [], _ :: _, _ => rfl
 | _ :: _, [], h => absurd h (List.not_lt_nil _)
 | x :: a, y :: b, h => by
  rw [List.cons_lt_cons_iff] at h
  unfold Lib.compareBytes
  rcases h with h | ⟨rfl, h⟩
  ·rw [if_pos h]
  ·rw [if_neg (UInt8.lt_irrefl _), if_neg (UInt8.lt_irrefl _)]
   exact compare_of a b h
/-- The records of a page ascend. -/
theorem sortP_asc {kn : ByteArray} {P : Pg} (h : GoodP kn P) : (sortP P).Pairwise (fun a b => cmpR a b < 0) := by
 unfold sortP
 rw [List.pairwise_map]
 refine List.Pairwise.imp_of_mem ?_ (keysP_asc h.apart)
 intro a b ha hb hlt
 obtain ⟨u, hu⟩ := mem_keysP.1 ha
 obtain ⟨v, hv⟩ := mem_keysP.1 hb
 have e1 : atKey P a = u := by unfold atKey; rw [lookA_mem h.apart hu]; rfl
 have e2 : atKey P b = v := by unfold atKey; rw [lookA_mem h.apart hv]; rfl
 rw [e1, e2]
 obtain ⟨k1, o1, n1⟩ := h.keys _ hu
 obtain ⟨k2, o2, n2⟩ := h.keys _ hv
 simp only at k1 k2 o1 o2 n1 n2
 have hn : u.name = v.name := keyN_inj (rrOk_parts o1).1 (rrOk_parts o2).1 (n1.symm.trans n2)
 refine keys_back o1 o2 (by rw [hn]; exact cmpN_self _) ?_
 unfold cmpB
 rw [show strOfNums (keyD u) = ⟨a.toArray⟩ from k1.symm, show strOfNums (keyD v) = ⟨b.toArray⟩ from k2.symm]
 exact compare_of _ _ (by simpa using hlt)
/-- The records of a book ascend. -/
theorem sortB_asc {B : Bk} (h : GoodB B) : (sortB B).Pairwise (fun a b => cmpR a b < 0) := by
 unfold sortB
 rw [List.pairwise_flatMap]
 refine ⟨fun k _ => sortP_asc (h.page _), ?_⟩
 refine List.Pairwise.imp_of_mem ?_ (keysP_asc h.apart)
 intro a b ha hb hlt x hx y hy
 have hx' := (mem_sortP (h.page _)).1 hx
 have hy' := (mem_sortP (h.page _)).1 hy
 obtain ⟨_, o1, n1⟩ := (h.page _).keys _ hx'
 obtain ⟨_, o2, n2⟩ := (h.page _).keys _ hy'
 simp only at o1 o2 n1 n2
 have hc : cmpB (keyN x.name) (keyN y.name) = -1 := by
  unfold cmpB
  rw [← n1, ← n2]
  exact compare_of _ _ (by simpa using hlt)
 rw [keyN_order (rrOk_parts o1).1 (rrOk_parts o2).1] at hc
 unfold cmpR
 rw [if_pos (by omega)]
 omega
/-- A book's records are these, if they ascend and are all of it. -/
theorem sortB_is {B : Bk} (h : GoodB B) {rs : List Rec} (ha : rs.Pairwise (fun a b => cmpR a b < 0)) (hm : ∀ r, r ∈ rs ↔ ∃ q ∈ B, (keyR r, r) ∈ q.2) : sortB B = rs :=
 asc_unique (lt := fun a b => cmpR a b < 0) (fun a b h1 h2 => by have := cmpR_swap a b; omega) (sortB_asc h) ha (fun r => by rw [mem_sortB h, hm])
end Go.Proofs.YtfgcmjpkgdjcfaaGreat

namespace Go.Proofs.YtfgcmjpkgdjcfaaGreat
open Go.RowKit
set_option linter.unusedVariables false

def selT (t : Int) (r : Rec) : Bool := (t == 255) || (r.type == t)
theorem selK_filter (n : List (List Int)) (t : Int) (rs : List Rec) : selK n t rs rs.length = rs.filter (selB n t) := by
 have h : ∀ k, k ≤ rs.length → selK n t rs k = (rs.take k).filter (selB n t) := by
  intro k
  induction k with
  | zero => intro _; simp [selK]
  | succ k ih =>
   intro hk
   have hkl : k < rs.length := by omega
   have e : rs.getD k recZ = rs[k] := by simp [hkl]
   rw [selK, ih (by omega), List.take_succ_eq_append_getElem hkl, List.filter_append, e]
   by_cases hs : selB n t rs[k] = true
   ·rw [if_pos hs, List.filter_cons_of_pos hs, List.filter_nil]
   ·rw [if_neg hs, List.filter_cons_of_neg hs, List.filter_nil, List.append_nil]
 have := h rs.length (Nat.le_refl _)
 rwa [List.take_length] at this
theorem byteL_of {n : List (List Int)} (h : nameOk n = true) : ByteL n := fun l hl x hx => by
 have := sign_of h l hl x hx
 omega
theorem set_is {o n : List (List Int)} {rs : List Rec} (hz : zoneOk o rs = true) (hn : nameOk n = true) (t : Int) : (sortP ((ofName n rs).map (fun r => (keyR r, r)))).filter (selT t) = selK n t rs rs.length := by
 have hasc := keys_asc hz
 have hok := names_ok (zone_oks hz)
 rw [sortP_page hasc, selK_filter]
 ·unfold ofName
  rw [List.filter_filter]
  refine List.filter_congr (fun r hr => ?_)
  have hb : (cmpN r.name n == 0) = decide (r.name = n) := by
   rw [Bool.eq_iff_iff, beq_iff_eq, decide_eq_true_iff]
   exact cmpN_zero (byteL_of (hok r hr)) (byteL_of hn)
  unfold selB selT
  rw [hb, Bool.and_comm]
 ·rw [List.pairwise_map]
  have h1 : (ofName n rs).Pairwise (fun a b => a.name = b.name → cmpB (keyD a) (keyD b) = -1) := hasc.filter _
  refine List.Pairwise.imp_of_mem ?_ h1
  intro a b ha hb h e
  have na := (List.mem_filter.1 ha).2
  have nb := (List.mem_filter.1 hb).2
  simp only [decide_eq_true_eq] at na nb
  have e2 := h (na.trans nb.symm)
  have e3 : cmpB (keyD a) (keyD b) = cmpB (keyD b) (keyD b) := by
   unfold cmpB
   rw [show strOfNums (keyD a) = strOfNums (keyD b) from e]
  rw [cmpB_self] at e3
  omega
theorem page_of_zone {o n : List (List Int)} {rs : List Rec} (hz : zoneOk o rs = true) (hn : nameOk n = true) : (lookA (strOfNums (keyN n)) (rs.foldl (fun B r => bkPut (strOfNums (keyN r.name)) (strOfNums (keyD r)) r B) [])).getD [] = (ofName n rs).map (fun r => (keyR r, r)) := page_is hn rs (names_ok (zone_oks hz)) (keys_asc hz) keyR rfl
theorem ofName_short {o n : List (List Int)} {rs : List Rec} (hz : zoneOk o rs = true) : ((ofName n rs).map (fun r => (keyR r, r))).length ≤ 1000 ∧ ∀ x ∈ (ofName n rs).map (fun r => (keyR r, r)), ShortR x.2 := by
 have h := zone_short hz
 refine ⟨?_, fun x hx => ?_⟩
 ·rw [List.length_map]
  have := List.length_filter_le (fun r : Rec => decide (r.name = n)) rs
  unfold ofName
  omega
 ·obtain ⟨r, hr, rfl⟩ := List.mem_map.1 hx
  obtain ⟨i, hi, rfl⟩ := List.getElem_of_mem (List.mem_filter.1 hr).1
  have := h.2.1 i hi
  simpa [hi] using this
theorem selK_short {o n : List (List Int)} {rs : List Rec} (hz : zoneOk o rs = true) (t : Int) : (selK n t rs rs.length).length ≤ 60 ∧ ∀ i, i < (selK n t rs rs.length).length → rrOk ((selK n t rs rs.length).getD i recZ) = true := by
 have h := zone_oks hz
 have h60 := (zone_short hz).2.2
 refine ⟨by have := selK_length n t rs rs.length; omega, fun i hi => ?_⟩
 have hm : (selK n t rs rs.length).getD i recZ ∈ selK n t rs rs.length := by simp [hi]
 rw [selK_filter] at hm
 obtain ⟨j, hj, e⟩ := List.getElem_of_mem (List.mem_filter.1 hm).1
 have := h j hj
 rw [selK_filter, ← e]
 simpa [hj] using this
end Go.Proofs.YtfgcmjpkgdjcfaaGreat

namespace Go.Proofs.YtfgcmjpkgdjcfaaGreat
open Go.RowKit
open Go.ChangeMaps (setBlock heap_setBlock_same heap_setBlock_other)
open Go.MapKept (stamped_iff stamped_erase Stamped)
open Go.Maps (Keyed string_keyed)
open Go.WideMaps (keyOf_string_mk)
set_option linter.unusedVariables false

/-- All but what stands at a key. -/
def delA {κ β : Type} [DecidableEq κ] (k : κ) : List (κ × β) → List (κ × β)
 | [] => []
 | (a, u) :: t => if a = k then t else (a, u) :: delA k t
theorem delA_none {κ β : Type} [DecidableEq κ] {k : κ} : ∀ {ps : List (κ × β)}, (∀ p ∈ ps, p.1 ≠ k) → delA k ps = ps
 | [], _ => rfl
 | (a, u) :: t, h => by
  rw [delA, if_neg (h (a, u) (List.mem_cons_self ..)), delA_none (fun p hp => h p (List.mem_cons_of_mem _ hp))]
theorem delA_at {κ β : Type} [DecidableEq κ] {k : κ} {v : β} : ∀ {ps : List (κ × β)} {j : Nat}, ps.Pairwise (fun p q => p.1 ≠ q.1) → ps[j]? = some (k, v) → delA k ps = ps.eraseIdx j
 | [], j, _, h => by simp at h
 | (a, u) :: t, 0, hd, h => by
  simp only [List.getElem?_cons_zero, Option.some.injEq, Prod.mk.injEq] at h
  rw [delA, if_pos h.1]
  rfl
 | (a, u) :: t, j + 1, hd, h => by
  simp only [List.getElem?_cons_succ] at h
  obtain ⟨h1, h2⟩ := List.pairwise_cons.1 hd
  rw [delA, if_neg (h1 _ (List.mem_of_getElem? h)), delA_at h2 h]
  rfl
theorem mem_delA {κ β : Type} [DecidableEq κ] {k : κ} : ∀ {ps : List (κ × β)}, ps.Pairwise (fun p q => p.1 ≠ q.1) → ∀ {p : κ × β}, p ∈ delA k ps ↔ p ∈ ps ∧ p.1 ≠ k
 | [], _, p => by simp [delA]
 | (a, u) :: t, hd, p => by
  obtain ⟨h1, h2⟩ := List.pairwise_cons.1 hd
  by_cases e : a = k
  ·subst e
   rw [delA, if_pos rfl]
   constructor
   ·intro hp
    exact ⟨List.mem_cons_of_mem _ hp, fun e => h1 p hp e.symm⟩
   ·rintro ⟨hp, hne⟩
    rcases List.mem_cons.1 hp with rfl | hp
    ·exact absurd rfl hne
    ·exact hp
  ·rw [delA, if_neg e, List.mem_cons, mem_delA h2]
   constructor
   ·rintro (rfl | ⟨hp, hne⟩)
    ·exact ⟨List.mem_cons_self .., e⟩
    ·exact ⟨List.mem_cons_of_mem _ hp, hne⟩
   ·rintro ⟨hp, hne⟩
    rcases List.mem_cons.1 hp with rfl | hp
    ·exact .inl rfl
    ·exact .inr ⟨hp, hne⟩
theorem two_del {κ α β : Type} [DecidableEq κ] {Q : α → β → Prop} {k : κ} {l : List (κ × α)} {m : List (κ × β)} (h : Two (AtKeys κ Q) l m) : Two (AtKeys κ Q) (delA k l) (delA k m) := by
 induction h with
 | nil => exact .nil
 | @cons a b l m h1 h0 ih =>
  obtain ⟨a1, a2⟩ := a
  obtain ⟨b1, b2⟩ := b
  obtain ⟨h1, h2⟩ := h1
  simp only at h1 h2
  subst h1
  by_cases e : a1 = k
  ·simp only [delA, if_pos e]
   exact h0
  ·simp only [delA, if_neg e]
   exact .cons ⟨rfl, h2⟩ ih

section
variable {P : Program} {t k e : TypeId} {w : World} {b : Nat} {ps : List (ByteArray × Value)}
/-- 'v, ok := m[k]'. -/
theorem mapV_look_ok (ht : P.underlying t = some (.map k e)) (hk : P.underlying k = some .string) {z : Value} (hz : (zeroValue e).run P w = .ok z w) (h : MapV w b ps) (s : ByteArray) (hs : s.size ≤ maxLen) :
  (Instr.lookup t (.map (some b)) (.string s) true).run P w = .ok (.tuple #[(lookA s ps).getD z, .bool (lookA s ps).isSome]) w := by
 have hA := h.apart
 obtain ⟨es, clock, hb, hS, hK, rfl⟩ := h
 have hkey := keyOf_string_mk hk hs
 have K := string_keyed hk
 rcases K.find w hkey es.toList (keys_of hk hK) with ⟨h1, h2⟩ | ⟨j, e0, h1, h2, h3⟩
 ·rw [lookA_none (not_key hK h2)]
  simp [Instr.lookup, run_underlying ht, MapKept.run_getObj_map hb, K.check w _ hkey, h1, hz, Result.andThen]
 ·rw [lookA_at hA (the_key h2 h3)]
  simp [Instr.lookup, run_underlying ht, MapKept.run_getObj_map hb, K.check w _ hkey, h1, Result.andThen]
/-- 'delete(m, k)'. -/
theorem mapV_del (ty : TypeId) (ht : P.underlying t = some (.map k e)) (hk : P.underlying k = some .string) (h : MapV w b ps) (s : ByteArray) (hs : s.size ≤ maxLen) :
  ∃ w', (Builtin.delete_ #[t, k] ty #[.map (some b), .string s]).run P w = .ok (.tuple #[]) w' ∧ MapV w' b (delA s ps) ∧ w.grownBy w' (some b) := by
 have hA := h.apart
 obtain ⟨es, clock, hb, hS, hK, rfl⟩ := h
 have hkey := keyOf_string_mk hk hs
 have K := string_keyed hk
 rcases K.find w hkey es.toList (keys_of hk hK) with ⟨h1, h2⟩ | ⟨j, e0, h1, h2, h3⟩
 ·refine ⟨setBlock w b (.map es clock), ?_, ⟨es, clock, heap_setBlock_same hb _, hS, hK, ?_⟩, ⟨rfl, rfl, rfl, by simp [setBlock], fun i _ hi => heap_setBlock_other hb _ (fun e => hi (by rw [e]))⟩⟩
  ·simp [Builtin.delete_, run_underlying ht, MapKept.run_getObj_map hb, K.check w _ hkey, h1, MapKept.run_setObj_map _ hb, Result.andThen, setBlock]
  ·rw [delA_none (not_key hK h2)]
 ·have hjl : j < es.toList.length := (List.getElem?_eq_some_iff.1 h2).1
  have hjs : j < es.size := by simpa using hjl
  have hsub : (es.eraseIdxIfInBounds j).toList = es.toList.eraseIdx j := by
   unfold Array.eraseIdxIfInBounds
   rw [dif_pos hjs]
   simp
  refine ⟨setBlock w b (.map (es.eraseIdxIfInBounds j) clock), ?_, ⟨_, clock, heap_setBlock_same hb _, stamped_erase hS j, ?_, ?_⟩, ⟨rfl, rfl, rfl, by simp [setBlock], fun i _ hi => heap_setBlock_other hb _ (fun e => hi (by rw [e]))⟩⟩
  ·simp [Builtin.delete_, run_underlying ht, MapKept.run_getObj_map hb, K.check w _ hkey, h1, MapKept.run_setObj_map _ hb, Result.andThen, setBlock]
  ·intro x hx
   rw [hsub] at hx
   exact hK x ((List.eraseIdx_sublist _ _).subset hx)
  ·rw [delA_at hA (the_key h2 h3), hsub]
   exact (Go.ChangeMaps.map_eraseIdx _ _ _).symm
end
end Go.Proofs.YtfgcmjpkgdjcfaaGreat

namespace Go.Proofs.YtfgcmjpkgdjcfaaGreat
open Go.RowKit
set_option linter.unusedVariables false

theorem compare_same : ∀ (a b : List UInt8), Lib.compareBytes a b = 0 → a = b
 | [], [], _ => rfl
 | [], _ :: _, h => by simp [Lib.compareBytes] at h
 | _ :: _, [], h => by simp [Lib.compareBytes] at h
 | x :: a, y :: b, h => by
  unfold Lib.compareBytes at h
  by_cases h1 : x < y
  ·simp [h1] at h
  ·by_cases h2 : y < x
   ·simp [h1, h2] at h
   ·simp only [h1, h2, if_false] at h
    rw [UInt8.le_antisymm (UInt8.not_lt.1 h2) (UInt8.not_lt.1 h1), compare_same a b h]
theorem keyR_iff {a b : Rec} : keyR a = keyR b ↔ cmpB (keyD a) (keyD b) = 0 := by
 constructor
 ·intro h
  unfold cmpB
  rw [show strOfNums (keyD a) = strOfNums (keyD b) from h]
  exact cmpB_self (keyD b)
 ·intro h
  have e := compare_same _ _ h
  unfold keyR
  have e2 : (strOfNums (keyD a)).data = (strOfNums (keyD b)).data := by simpa using congrArg List.toArray e
  cases ha : strOfNums (keyD a)
  cases hb : strOfNums (keyD b)
  rw [ha, hb] at e2
  simp only at e2
  rw [e2]
/-- Records are told apart by their names and keys. -/
theorem cmpR_zero_iff {a b : Rec} (ha : rrOk a = true) (hb : rrOk b = true) : cmpR a b = 0 ↔ a.name = b.name ∧ keyR a = keyR b := by
 have hz := cmpN_zero (byteL_of (rrOk_parts ha).1) (byteL_of (rrOk_parts hb).1)
 constructor
 ·intro h
  have hn : cmpN a.name b.name = 0 := by
   unfold cmpR at h
   by_cases e : cmpN a.name b.name = 0
   ·exact e
   ·rw [if_pos e] at h
    exact h
  refine ⟨hz.1 hn, keyR_iff.2 ?_⟩
  rcases cmpB_cases (keyD a) (keyD b) with e | e | e
  ·have := keys_back ha hb hn e
   omega
  ·exact e
  ·have e1 : cmpB (keyD b) (keyD a) = -1 := by
    have := cmpB_swap (keyD a) (keyD b)
    omega
   have e2 : cmpN b.name a.name = 0 := by
    have := cmpN_swap a.name b.name
    omega
   have := keys_back hb ha e2 e1
   have := cmpR_swap a b
   omega
 ·rintro ⟨h1, h2⟩
  have hn := hz.2 h1
  have hk := keyR_iff.1 h2
  rcases cmpR_cases a b with e | e | e
  ·have := keys_lt ha hb hn (by omega)
   omega
  ·exact e
  ·have e2 : cmpN b.name a.name = 0 := by
    have := cmpN_swap a.name b.name
    omega
   have := keys_lt hb ha e2 (by have := cmpR_swap a b; omega)
   have := cmpB_swap (keyD a) (keyD b)
   omega
theorem fold_good : ∀ {rs : List Rec} {B : Bk}, GoodB B → (∀ r ∈ rs, rrOk r = true) → GoodB (rs.foldl (fun B r => bkPut (strOfNums (keyN r.name)) (keyR r) r B) B)
 | [], B, h, _ => h
 | r :: t, B, h, hr => by
  rw [List.foldl_cons]
  exact fold_good (h.put (hr r (List.mem_cons_self ..))) (fun x hx => hr x (List.mem_cons_of_mem _ hx))
theorem oks_of {o : List (List Int)} {rs : List Rec} (hz : zoneOk o rs = true) : ∀ r ∈ rs, rrOk r = true := by
 intro r hr
 obtain ⟨i, hi, rfl⟩ := List.getElem_of_mem hr
 have := zone_oks hz i hi
 simpa [hi] using this
def bookZ (rs : List Rec) : Bk := rs.foldl (fun B r => bkPut (strOfNums (keyN r.name)) (keyR r) r B) []
theorem bookZ_good {o : List (List Int)} {rs : List Rec} (hz : zoneOk o rs = true) : GoodB (bookZ rs) := fold_good goodB_nil (oks_of hz)
/-- A zone's book has the zone's records and no other. -/
theorem bookZ_mem {o : List (List Int)} {rs : List Rec} (hz : zoneOk o rs = true) (r : Rec) : r ∈ rs ↔ ∃ q ∈ bookZ rs, (keyR r, r) ∈ q.2 := by
 have hg := bookZ_good hz
 constructor
 ·intro hr
  have hn := names_ok (zone_oks hz) r hr
  have hp := page_of_zone hz hn
  have hm : (keyR r, r) ∈ (lookA (strOfNums (keyN r.name)) (bookZ rs)).getD [] := by
   unfold bookZ keyR
   rw [hp]
   exact List.mem_map.2 ⟨r, List.mem_filter.2 ⟨hr, by simp⟩, rfl⟩
  obtain ⟨P, h1, h2⟩ := page_of _ _ hm
  exact ⟨_, h1, h2⟩
 ·rintro ⟨q, hq, hm⟩
  obtain ⟨_, ho, hk⟩ := (hg.pages q hq).keys _ hm
  simp only at ho hk
  have hp := page_of_zone hz (rrOk_parts ho).1
  have hl := lookA_mem hg.apart (k := q.1) (v := q.2) hq
  rw [hk] at hl
  have hl' : (lookA (strOfNums (keyN r.name)) (rs.foldl (fun B r => bkPut (strOfNums (keyN r.name)) (strOfNums (keyD r)) r B) [])) = some q.2 := hl
  rw [hl', Option.getD_some] at hp
  rw [hp] at hm
  obtain ⟨x, hx, e⟩ := List.mem_map.1 hm
  have e2 : x = r := congrArg Prod.snd e
  subst e2
  exact (List.mem_filter.1 hx).1
theorem zone_asc {o : List (List Int)} {rs : List Rec} (hz : zoneOk o rs = true) : rs.Pairwise (fun a b => cmpR a b < 0) := by
 have h := sortB_asc (bookZ_good hz)
 have hz' := of_decide_eq_true hz
 have hg := (good_iff hz'.1).1 hz'.2.2.1
 rw [List.pairwise_iff_getElem]
 intro i j hi hj hij
 have e1 : rs.getD i recZ = rs[i] := by simp [hi]
 have e2 : rs.getD j recZ = rs[j] := by simp [hj]
 have hs := sorted_le (rs := rs) (fun j _ hj => cmpR_name ((hg j hj).next (by omega))) (i := i) (j := j) (by omega) hj
 rw [e1, e2] at hs
 by_cases hn : cmpN rs[i].name rs[j].name = 0
 ·have o1 := oks_of hz _ (List.getElem_mem hi)
  have o2 := oks_of hz _ (List.getElem_mem hj)
  have hn' := (cmpN_zero (byteL_of (rrOk_parts o1).1) (byteL_of (rrOk_parts o2).1)).1 hn
  exact keys_back o1 o2 hn ((List.pairwise_iff_getElem.1 (keys_asc hz)) i j hi hj hij hn')
 ·unfold cmpR
  rw [if_pos hn]
  omega
/-- A record taken out of a book. -/
def bkDel (kn kd : ByteArray) (B : Bk) : Bk := B.map (fun q => if q.1 = kn then (q.1, delA kd q.2) else q)
theorem delA_apart {κ β : Type} [DecidableEq κ] {k : κ} : ∀ {l : List (κ × β)}, l.Pairwise (fun p q => p.1 ≠ q.1) → (delA k l).Pairwise (fun p q => p.1 ≠ q.1)
 | [], _ => List.Pairwise.nil
 | (a, u) :: t, h => by
  obtain ⟨h1, h2⟩ := List.pairwise_cons.1 h
  by_cases e : a = k
  ·rw [delA, if_pos e]
   exact h2
  ·rw [delA, if_neg e]
   exact List.pairwise_cons.2 ⟨fun q hq => h1 q ((mem_delA h2).1 hq).1, delA_apart h2⟩
theorem bkDel_fst (kn kd : ByteArray) (q : ByteArray × Pg) : (if q.1 = kn then (q.1, delA kd q.2) else q).1 = q.1 := by split <;> rfl
theorem GoodB.del {B : Bk} (h : GoodB B) (kn kd : ByteArray) : GoodB (bkDel kn kd B) := by
 refine ⟨?_, fun q hq => ?_⟩
 ·unfold bkDel
  rw [List.pairwise_map]
  exact h.apart.imp (fun {a b} hab => by rw [bkDel_fst, bkDel_fst]; exact hab)
 ·obtain ⟨p, hp, rfl⟩ := List.mem_map.1 hq
  have hg := h.pages p hp
  split
  ·exact ⟨delA_apart hg.apart, fun x hx => hg.keys x ((mem_delA hg.apart).1 hx).1⟩
  ·exact hg
theorem bkDel_mem {B : Bk} (h : GoodB B) {r : Rec} (hr : rrOk r = true) {x : Rec} (hx : rrOk x = true) : (∃ q ∈ bkDel (strOfNums (keyN r.name)) (keyR r) B, (keyR x, x) ∈ q.2) ↔ (∃ q ∈ B, (keyR x, x) ∈ q.2) ∧ cmpR x r ≠ 0 := by
 constructor
 ·rintro ⟨q, hq, hm⟩
  obtain ⟨p, hp, rfl⟩ := List.mem_map.1 hq
  have hg := h.pages p hp
  by_cases e : p.1 = strOfNums (keyN r.name)
  ·rw [if_pos e] at hm
   obtain ⟨h1, h2⟩ := (mem_delA hg.apart).1 hm
   exact ⟨⟨p, hp, h1⟩, fun hc => h2 ((cmpR_zero_iff hx hr).1 hc).2⟩
  ·rw [if_neg e] at hm
   refine ⟨⟨p, hp, hm⟩, fun hc => e ?_⟩
   have := (hg.keys _ hm).2.2
   simp only at this
   rw [this, ((cmpR_zero_iff hx hr).1 hc).1]
 ·rintro ⟨⟨p, hp, hm⟩, hc⟩
  have hg := h.pages p hp
  refine ⟨_, List.mem_map.2 ⟨p, hp, rfl⟩, ?_⟩
  by_cases e : p.1 = strOfNums (keyN r.name)
  ·rw [if_pos e]
   refine (mem_delA hg.apart).2 ⟨hm, fun hk => hc ((cmpR_zero_iff hx hr).2 ⟨?_, hk⟩)⟩
   have := (hg.keys _ hm).2.2
   simp only at this
   exact keyN_inj (rrOk_parts hx).1 (rrOk_parts hr).1 (this.symm.trans e)
  ·rw [if_neg e]
   exact hm
end Go.Proofs.YtfgcmjpkgdjcfaaGreat
