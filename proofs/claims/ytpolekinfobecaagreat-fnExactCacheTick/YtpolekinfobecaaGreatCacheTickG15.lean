/-
  Plain facts: which records are a set, which slots and caches may be; numbers that are sorted and made compact. No program is named here but the kinds. Plain facts: what a slot of each kind holds. No program is named here. Plain facts: records that may be are short. No program is named here. Plain facts: a name that ends with another, and the end of a list of texts in memory. No program is named here. Plain facts: which records may be a zone's, said by neighbours and said by all. No program is named here. Plain facts: zones that may be are short; a new zone. No program is named here. Plain facts: rows of names. No program is named here. Plain facts: the decimal digits of a byte, and an address as four numbers with dots between. No program is named here. Plain facts: an address read from its text, as the program does it and as the specification does it, and that both read the same. No program is named here. Plain facts: names that are the same, names that end with others, and their order. No program is named here. Plain facts: the names of a cache's slots, each once. No program is named here. Plain facts: a cache at a later moment: which slots are left. No program is named here.
-/
import Derived.Test.YtpolekinfobecaaGreatCacheTickG08
import Derived.Test.YtpolekinfobecaaGreatCacheTickG14
import Derived.Lib.SlicesCompact
import Derived.Test.YtpolekinfobecaaGreatCacheTickG03
import Derived.Test.YtpolekinfobecaaGreatCacheTickG01
import Derived.Test.YtpolekinfobecaaGreatCacheTickG04
import Derived.Test.YtpolekinfobecaaGreatCacheTickG09
import Derived.Test.YtpolekinfobecaaGreatCacheTickG00
import Derived.Lib.ItoaNum
import Derived.Lib.UnsafeStr
import Derived.Lib.Split
import Derived.Lib.SplitLaws
namespace Go.Proofs.YtpolekinfobecaaGreat
open Go.RowKit
set_option linter.unusedVariables false

theorem rangeAll_yes {n : Nat} {p : Nat → Bool} (h : ∀ j, j < n → p j = true) : (List.range n).all p = true := by
 rw [List.all_eq_true]
 intro x hx
 exact h x (List.mem_range.1 hx)
theorem rangeAll_at {n k : Nat} {p : Nat → Bool} (h : (List.range n).all p = true) (hk : k < n) : p k = true := List.all_eq_true.1 h k (List.mem_range.2 hk)
theorem rangeAll_no {n k : Nat} {p : Nat → Bool} (hk : k < n) (h : p k = false) : (List.range n).all p = false := by
 rw [Bool.eq_false_iff]
 intro q
 have := rangeAll_at q hk
 rw [h] at this
 cases this
/-- Records that are one set: of one name, type and time, in order. -/
def setAt (l : List Rec) (i : Nat) : Bool := rrOk (l.getD i recZ) && (decide (cmpN (l.getD i recZ).name (l.getD 0 recZ).name = 0) && (decide ((l.getD i recZ).type = (l.getD 0 recZ).type) && (decide ((l.getD i recZ).ttl = (l.getD 0 recZ).ttl) && (decide (i = 0) || decide (cmpR (l.getD (i - 1) recZ) (l.getD i recZ) < 0)))))
def setOk (l : List Rec) : Bool := decide (1 ≤ l.length) && (decide (l.length ≤ 12) && (List.range l.length).all (setAt l))
def oneB (a b : Rec) : Bool := decide (a.type = b.type) && (decide (a.ttl = b.ttl) && decide (nameCmp a.name b.name = 0))
def setI (l : List Rec) (i : Nat) : Bool := oneB (l.getD 0 recZ) (l.getD i recZ) && decide (rrCmp (l.getD (i - 1) recZ) (l.getD i recZ) < 0)
theorem rrOk_nameOk {r : Rec} (h : rrOk r = true) : nameOk r.name = true := by
 unfold rrOk at h
 simp only [Bool.and_eq_true] at h
 exact h.1
theorem setAt_rr {l : List Rec} {i : Nat} (h : setAt l i = true) : rrOk (l.getD i recZ) = true := by
 unfold setAt at h
 simp only [Bool.and_eq_true] at h
 exact h.1
theorem setAt_zero {l : List Rec} (h : rrOk (l.getD 0 recZ) = true) : setAt l 0 = true := by
 unfold setAt
 rw [h, cmpN_self]
 simp
theorem setI_is {l : List Rec} (h : rrsOk l = true) {i : Nat} (h1 : 1 ≤ i) (hi : i < l.length) : setI l i = setAt l i := by
 unfold rrsOk at h
 rw [Bool.and_eq_true] at h
 have r0 := all_at recZ h.2 (k := 0) (by omega)
 have ri := all_at recZ h.2 hi
 have rp := all_at recZ h.2 (k := i - 1) (by omega)
 unfold setI setAt oneB
 generalize l.getD 0 recZ = a at *
 generalize l.getD i recZ = b at *
 generalize l.getD (i - 1) recZ = p at *
 have e1 : nameCmp a.name b.name = cmpN a.name b.name := if_pos ⟨rrOk_nameOk r0, rrOk_nameOk ri⟩
 have e2 : rrCmp p b = cmpR p b := if_pos ⟨rp, ri⟩
 have e3 : cmpN a.name b.name = - cmpN b.name a.name := cmpN_swap _ _
 have e0 : decide (i = 0) = false := decide_eq_false (by omega)
 rw [e1, e2, ri, e0, Bool.eq_iff_iff]
 simp only [Bool.and_eq_true, Bool.or_eq_true, decide_eq_true_eq]
 constructor
 ·rintro ⟨⟨a1, a2, a3⟩, a4⟩
  exact ⟨trivial, by omega, a1.symm, a2.symm, .inr a4⟩
 ·rintro ⟨_, a3, a1, a2, a4⟩
  exact ⟨⟨a1.symm, a2.symm, by omega⟩, by rcases a4 with h | h <;> first | cases h | exact h⟩
theorem setOk_rrs {l : List Rec} (h : setOk l = true) : rrsOk l = true ∧ 1 ≤ l.length := by
 unfold setOk at h
 simp only [Bool.and_eq_true, decide_eq_true_eq] at h
 obtain ⟨h1, h2, h3⟩ := h
 refine ⟨?_, h1⟩
 unfold rrsOk
 rw [Bool.and_eq_true]
 exact ⟨decide_eq_true h2, all_of l recZ (fun j hj => setAt_rr (rangeAll_at h3 hj))⟩
theorem setOk_yes {l : List Rec} (h : rrsOk l = true) (h1 : 1 ≤ l.length) (hs : ∀ i, 1 ≤ i → i < l.length → setI l i = true) : setOk l = true := by
 have h' := h
 unfold rrsOk at h'
 rw [Bool.and_eq_true] at h'
 unfold setOk
 rw [decide_eq_true h1, h'.1, Bool.true_and, Bool.true_and]
 refine rangeAll_yes (fun j hj => ?_)
 by_cases e : j = 0
 ·subst e
  exact setAt_zero (all_at recZ h'.2 hj)
 ·rw [← setI_is h (by omega) hj]
  exact hs j (by omega) hj
theorem setOk_no {l : List Rec} (h : rrsOk l = true) {i : Nat} (h1 : 1 ≤ i) (hi : i < l.length) (hs : setI l i = false) : setOk l = false := by
 rw [setI_is h h1 hi] at hs
 unfold setOk
 rw [rangeAll_no hi hs]
 simp
theorem setOk_bad {l : List Rec} (h : rrsOk l = false ∨ l.length = 0) : setOk l = false := by
 rw [Bool.eq_false_iff]
 intro q
 obtain ⟨q1, q2⟩ := setOk_rrs q
 rcases h with h | h
 ·rw [h] at q1
  cases q1
 ·omega
/-- Slots. -/
def holdsB (s : Slt) : Bool := if s.kind = 1 then setOk s.rrs && (decide ((s.rrs.getD 0 recZ).type = s.type) && decide (cmpN (s.rrs.getD 0 recZ).name s.name = 0)) else if s.kind = 2 ∨ s.kind = 3 then decide (s.rrs.length = 0) else false
def toldB (s : Slt) : Bool := nameOk s.name && (typeOk s.type && decide (0 ≤ s.rank ∧ s.rank ≤ 3))
def slotB (s : Slt) (now turn : Int) : Bool := toldB s && ((decide (now < s.till) && decide (s.till ≤ now + 1000)) && ((decide (1 ≤ s.used) && decide (s.used ≤ turn)) && holdsB s))
def aheadB (a b : Slt) : Bool := decide (cmpN a.name b.name < 0) || (decide (cmpN a.name b.name = 0) && decide (a.type < b.type))
def slotCmpI (a b : Slt) : Int := if nameCmp a.name b.name ≠ 0 then nameCmp a.name b.name else byLength a.type b.type
theorem slotB_name {s : Slt} {now turn : Int} (h : slotB s now turn = true) : nameOk s.name = true := by
 unfold slotB toldB at h
 simp only [Bool.and_eq_true] at h
 exact h.1.1
theorem slotCmp_ahead {a b : Slt} (ha : nameOk a.name = true) (hb : nameOk b.name = true) : decide (slotCmpI a b < 0) = aheadB a b := by
 have e1 : nameCmp a.name b.name = cmpN a.name b.name := if_pos ⟨ha, hb⟩
 unfold slotCmpI aheadB
 rw [e1, Bool.eq_iff_iff]
 simp only [Bool.and_eq_true, Bool.or_eq_true, decide_eq_true_eq]
 by_cases h : cmpN a.name b.name = 0
 ·rw [if_neg (by simpa using h)]
  unfold byLength
  by_cases h2 : a.type < b.type
  ·rw [if_pos h2]
   omega
  ·rw [if_neg h2]
   split <;> omega
 ·rw [if_pos h]
  omega
def slotAt (c : Ca) (i : Nat) : Bool := slotB (c.slots.getD i sltZ) c.now c.turn && (decide (i = 0) || aheadB (c.slots.getD (i - 1) sltZ) (c.slots.getD i sltZ))
def freshAt (l : List Slt) (i : Nat) : Bool := (List.range i).all (fun k => decide ((l.getD k sltZ).used ≠ (l.getD i sltZ).used))
def headB (c : Ca) : Bool := decide (0 ≤ c.now ∧ c.now ≤ 1000000) && (decide (0 ≤ c.turn ∧ c.turn ≤ 1000000) && decide (c.slots.length ≤ 8))
def apartB (l : List Slt) : Bool := (List.range l.length).all (freshAt l)
def cacheOk (c : Ca) : Bool := headB c && ((List.range c.slots.length).all (slotAt c) && apartB c.slots)
/-- Numbers that are sorted and made compact: as many as there were where no two are the same. -/
theorem compact_len {zs : List Int} : (Lib.compact zs).length = zs.length ↔ ∀ j, j < zs.length → Lib.keeps zs.toArray j = true := by
 unfold Lib.compact Lib.compactUpTo
 rw [List.length_map]
 constructor
 ·intro h j hj
  have h2 : ((List.range zs.length).filter (Lib.keeps zs.toArray)).length = (List.range zs.length).length := by rw [h, List.length_range]
  exact List.length_filter_eq_length_iff.1 h2 j (List.mem_range.2 hj)
 ·intro h
  have h2 := (List.length_filter_eq_length_iff (l := List.range zs.length) (p := Lib.keeps zs.toArray)).2 (fun a ha => h a (List.mem_range.1 ha))
  rw [h2, List.length_range]
theorem sorted_keeps {zs : List Int} (hs : zs.Pairwise (fun a b => a ≤ b)) : (∀ j, j < zs.length → Lib.keeps zs.toArray j = true) ↔ zs.Nodup := by
 have get : ∀ j (hj : j < zs.length), zs.toArray[j]! = zs[j] := fun j hj => by simp [hj]
 rw [List.pairwise_iff_getElem] at hs
 constructor
 ·intro h
  refine List.pairwise_iff_getElem.2 (fun i j hi hj hij => ?_)
  have hk := h j hj
  have h1 : zs[j - 1] ≤ zs[j] := hs (j - 1) j (by omega) hj (by omega)
  have h2 : zs[i] ≤ zs[j - 1] := by
   by_cases e : i = j - 1
   ·subst e; exact Int.le_refl _
   ·exact hs i (j - 1) hi (by omega) (by omega)
  have h3 : zs[j] ≠ zs[j - 1] := by
   intro e
   have := Lib.keeps_neg (d := zs.toArray) (m := j) (by omega) (by rw [get j hj, get (j - 1) (by omega)]; exact e)
   rw [this] at hk
   cases hk
  intro e
  omega
 ·intro h j hj
  by_cases e : j = 0
  ·subst e
   exact Lib.keeps_lt_one _ 0 (by omega)
  ·refine Lib.keeps_pos ?_
   rw [get j hj, get (j - 1) (by omega)]
   exact (List.pairwise_iff_getElem.1 h (j - 1) j (by omega) hj (by omega)).symm
theorem apart_iff {l : List Slt} : apartB l = true ↔ (l.map Slt.used).Nodup := by
 have gd : ∀ k (hk : k < l.length), l.getD k sltZ = l[k] := fun k hk => by simp [hk]
 constructor
 ·intro h
  refine List.pairwise_iff_getElem.2 (fun i j hi hj hij => ?_)
  rw [List.length_map] at hi hj
  have := of_decide_eq_true (rangeAll_at (rangeAll_at h hj) hij)
  rw [gd i hi, gd j hj] at this
  simpa using this
 ·intro h
  refine rangeAll_yes (fun j hj => rangeAll_yes (fun k hk => decide_eq_true ?_))
  have := List.pairwise_iff_getElem.1 h k j (by rw [List.length_map]; omega) (by rw [List.length_map]; omega) hk
  rw [gd k (by omega), gd j hj]
  simpa using this
theorem used_apart (l : List Slt) : decide ((Lib.compact ((l.map Slt.used).mergeSort fun x y => decide (x ≤ y))).length = l.length) = apartB l := by
 have hp := List.mergeSort_perm (l.map Slt.used) (fun x y => decide (x ≤ y))
 have hl : ((l.map Slt.used).mergeSort fun x y => decide (x ≤ y)).length = l.length := by rw [List.length_mergeSort, List.length_map]
 have hs : ((l.map Slt.used).mergeSort fun x y => decide (x ≤ y)).Pairwise (fun a b => a ≤ b) := by
  have := List.pairwise_mergeSort (le := fun (x y : Int) => decide (x ≤ y)) (fun a b c h1 h2 => by simp only [decide_eq_true_eq] at *; omega) (fun a b => by simp only [Bool.or_eq_true, decide_eq_true_eq]; omega) (l.map Slt.used)
  exact this.imp (fun h => of_decide_eq_true h)
 rw [Bool.eq_iff_iff, decide_eq_true_eq, apart_iff]
 have h1 := compact_len (zs := (l.map Slt.used).mergeSort fun x y => decide (x ≤ y))
 rw [hl] at h1
 rw [h1]
 have h2 := sorted_keeps hs
 rw [hl] at h2
 rw [h2]
 exact hp.nodup_iff
end Go.Proofs.YtpolekinfobecaaGreat

namespace Go.Proofs.YtpolekinfobecaaGreat
open Go.RowKit
set_option linter.unusedVariables false

theorem holdsB_out {s : Slt} (h : s.kind < 1 ∨ 3 < s.kind) : holdsB s = false := by
 unfold holdsB
 rw [if_neg (by omega), if_neg (by omega)]
theorem holdsB_one {s : Slt} (h : s.kind = 1) : holdsB s = (setOk s.rrs && (decide ((s.rrs.getD 0 recZ).type = s.type) && decide (cmpN (s.rrs.getD 0 recZ).name s.name = 0))) := if_pos h
theorem holdsB_two {s : Slt} (h : ¬ s.kind = 1) (h1 : ¬ s.kind < 1) (h3 : ¬ 3 < s.kind) : holdsB s = decide (s.rrs.length = 0) := by
 unfold holdsB
 rw [if_neg h, if_pos (by omega)]
end Go.Proofs.YtpolekinfobecaaGreat

namespace Go.Proofs.YtpolekinfobecaaGreat
open Go.RowKit

/-- A name is short. -/
def ShortN (n : List (List Int)) : Prop := n.length ≤ 6 ∧ ∀ k, k < n.length → (n.getD k []).length ≤ 15
/-- A record is short. -/
def ShortR (r : Rec) : Prop := (r.name.length ≤ 6 ∧ ∀ k, k < r.name.length → (r.name.getD k []).length ≤ 15) ∧ (r.to.length ≤ 6 ∧ ∀ k, k < r.to.length → (r.to.getD k []).length ≤ 15) ∧ r.text.length ≤ 1048576 ∧ r.nums.length ≤ 1048576
theorem short_name {n : List (List Int)} (h : nameOk n = true) : ShortN n := ⟨(nameOk_parts h).1, fun k hk => (labelOk_length ((nameOk_parts h).2 k hk)).2⟩
theorem short_nil : ShortN [] := ⟨by simp, fun k hk => absurd hk (by simp)⟩
end Go.Proofs.YtpolekinfobecaaGreat

namespace Go.Proofs.YtpolekinfobecaaGreat
open Go.RowKit

theorem HasL.drop {w : World} {a : Option Addr} {m cap k : Nat} {n : List (List Int)} (h : HasL w (.slice a m cap) n) (hn : n.length = m) (hk : k ≤ m) :
  (a = none ∧ m = 0 ∧ cap = 0) ∨ ∃ g off, a = some ⟨g, off, none⟩ ∧ HasL w (.slice (if cap = k then some ⟨g, off, none⟩ else some ⟨g, off + k, none⟩) (m - k) (cap - k)) (n.drop k) := by
 subst hn
 rcases h with ⟨hv, rfl⟩ | ⟨g, off, cap', hv, hlt, hl, hm, hc⟩
 ·simp only [Value.slice.injEq] at hv
  exact .inl ⟨hv.1, rfl, hv.2.2⟩
 ·simp only [Value.slice.injEq, true_and] at hv
  obtain ⟨rfl, rfl⟩ := hv
  right
  refine ⟨g, off, rfl, ?_⟩
  have hlen : (n.drop k).length = n.length - k := by simp
  by_cases e : cap = k
  ·rw [if_pos e]
   refine .inr ⟨g, off, cap - k, by rw [hlen], hlt, by rw [hlen]; omega, by omega, fun i hi => ?_⟩
   rw [hlen] at hi
   omega
  ·rw [if_neg e]
   refine .inr ⟨g, off + k, cap - k, by rw [hlen], hlt, by rw [hlen]; omega, by omega, fun i hi => ?_⟩
   rw [hlen] at hi
   obtain ⟨u, h1, h2⟩ := hc (k + i) (by omega)
   refine ⟨u, by rw [Nat.add_assoc]; exact h1, ?_⟩
   have e2 : (n.drop k).getD i [] = n.getD (k + i) [] := by simp [List.getD]
   rw [e2]; exact h2

end Go.Proofs.YtpolekinfobecaaGreat

namespace Go.Proofs.YtpolekinfobecaaGreat
open Go.RowKit


/-- May b come next to a. -/
def follows (a b : Rec) : Bool := decide (rrCmp a b < 0) && ((decide (a.type ≠ 5) && decide (b.type ≠ 5)) || decide (nameCmp a.name b.name ≠ 0))
/-- No other one has its name, if it is an alias. -/
def alone (rs : List Rec) (i : Nat) : Prop := (rs.getD i recZ).type = 5 → ∀ k, k < rs.length → k ≠ i → cmpN (rs.getD k recZ).name (rs.getD i recZ).name ≠ 0
end Go.Proofs.YtpolekinfobecaaGreat

namespace Go.Proofs.YtpolekinfobecaaGreat
open Go.RowKit

theorem short_rec {r : Rec} (h : rrOk r = true) : ShortR r := by
 unfold rrOk dataOk at h
 simp only [Bool.and_eq_true] at h
 obtain ⟨h1, h2, h3, h4, h5, h6, h7⟩ := h
 refine ⟨short_name h1, ?_, ?_, ?_⟩
 ·by_cases e : named r.type = true
  ·rw [if_pos e] at h5
   exact short_name h5
  ·rw [if_neg e] at h5
   have := of_decide_eq_true h5
   rw [List.eq_nil_of_length_eq_zero this]
   exact short_nil
 ·by_cases e : texted r.type = true
  ·rw [if_pos e] at h6
   have := of_decide_eq_true h6
   omega
  ·rw [if_neg e] at h6
   have := of_decide_eq_true h6
   omega
 ·by_cases e : r.type = 6
  ·rw [if_pos e] at h7
   have := (of_decide_eq_true h7).1
   omega
  ·rw [if_neg e] at h7
   have := of_decide_eq_true h7
   omega
end Go.Proofs.YtpolekinfobecaaGreat

namespace Go.Proofs.YtpolekinfobecaaGreat
open Go.RowKit
set_option linter.unusedVariables false

def HasNm (w : World) (vs : List Value) (n : List (List Int)) : Prop := ∃ v, vs = [v] ∧ HasL w v n
def OwnNm (el eb : TypeId) (B E : Nat) (w : World) (vs : List Value) (n : List (List Int)) : Prop := ∃ v, vs = [v] ∧ OwnN B E el eb w v n
theorem OwnNm.has {el eb : TypeId} {B E : Nat} {w : World} {vs : List Value} {n : List (List Int)} (h : OwnNm el eb B E w vs n) : HasNm w vs n := by obtain ⟨v, h1, h2⟩ := h; exact ⟨v, h1, h2.hasL⟩
structure SizeNm (m : Nat) (n : List (List Int)) : Prop where
 name : n.length ≤ m
 names : ∀ i, i < n.length → (n.getD i []).length ≤ m
theorem SizeNm.mono {m m' : Nat} {q : List (List Int)} (h : SizeNm m q) (hm : m ≤ m') : SizeNm m' q := ⟨Nat.le_trans h.name hm, fun i hi => Nat.le_trans (h.names i hi) hm⟩
end Go.Proofs.YtpolekinfobecaaGreat

namespace Go.Proofs.YtpolekinfobecaaGreat
open Go.RowKit

end Go.Proofs.YtpolekinfobecaaGreat

namespace Go.Proofs.YtpolekinfobecaaGreat
open Go.RowKit

/-! ### The library's cut at dots is this one -/

end Go.Proofs.YtpolekinfobecaaGreat

namespace Go.Proofs.YtpolekinfobecaaGreat
open Go.RowKit

end Go.Proofs.YtpolekinfobecaaGreat

namespace Go.Proofs.YtpolekinfobecaaGreat
open Go.RowKit
set_option linter.unusedVariables false

theorem cacheOk_names {c : Ca} (h : cacheOk c = true) : c.slots.length ≤ 8 ∧ ∀ j, j < c.slots.length → nameOk (c.slots.getD j sltZ).name = true := by
 unfold cacheOk headB at h
 simp only [Bool.and_eq_true, decide_eq_true_eq] at h
 refine ⟨h.1.2.2, fun j hj => ?_⟩
 have := rangeAll_at h.2.1 hj
 unfold slotAt at this
 rw [Bool.and_eq_true] at this
 exact slotB_name this.1
end Go.Proofs.YtpolekinfobecaaGreat

namespace Go.Proofs.YtpolekinfobecaaGreat
open Go.RowKit
set_option linter.unusedVariables false

def ShortS (x : Slt) : Prop := (x.name.length ≤ 6 ∧ ∀ k, k < x.name.length → (x.name.getD k []).length ≤ 15) ∧ x.rrs.length ≤ 12 ∧ ∀ i, i < x.rrs.length → ShortR (x.rrs.getD i recZ)
theorem slot_short {s : Slt} {now turn : Int} (h : slotB s now turn = true) : ShortS s := by
 have hn := nameOk_parts (slotB_name h)
 refine ⟨⟨hn.1, fun k hk => (labelOk_length (hn.2 k hk)).2⟩, ?_⟩
 unfold slotB holdsB at h
 simp only [Bool.and_eq_true] at h
 have h1 := h.2.2.2
 split at h1
 ·rw [Bool.and_eq_true] at h1
  have h2 := (setOk_rrs h1.1).1
  unfold rrsOk at h2
  rw [Bool.and_eq_true] at h2
  exact ⟨of_decide_eq_true h2.1, fun i hi => short_rec (all_at recZ h2.2 hi)⟩
 ·split at h1
  ·have := of_decide_eq_true h1
   exact ⟨by omega, fun i hi => by omega⟩
  ·cases h1
theorem cacheOk_short {c : Ca} (h : cacheOk c = true) : c.slots.length ≤ 8 ∧ ∀ j, j < c.slots.length → ShortS (c.slots.getD j sltZ) := by
 refine ⟨(cacheOk_names h).1, fun j hj => ?_⟩
 unfold cacheOk at h
 simp only [Bool.and_eq_true] at h
 have := rangeAll_at h.2.1 hj
 unfold slotAt at this
 rw [Bool.and_eq_true] at this
 exact slot_short this.1
theorem ShortS.size {x : Slt} (h : ShortS x) : SizeSl 1048576 x := by
 obtain ⟨⟨h1, h2⟩, h3, h4⟩ := h
 refine ⟨by omega, fun i hi => by have := h2 i hi; omega, by omega, fun i hi => ?_⟩
 obtain ⟨⟨p1, p2⟩, ⟨p3, p4⟩, p5, p6⟩ := h4 i hi
 exact ⟨by omega, fun k hk => by have := p2 k hk; omega, by omega, fun k hk => by have := p4 k hk; omega, p5, p6⟩
/-- The slots, of the first k, that are not over. -/
def liveL (l : List Slt) (now : Int) : Nat → List Slt
 | 0 => []
 | k + 1 => if now < (l.getD k sltZ).till then liveL l now k ++ [l.getD k sltZ] else liveL l now k
theorem liveL_yes {l : List Slt} {now : Int} {k : Nat} (h : now < (l.getD k sltZ).till) : liveL l now (k + 1) = liveL l now k ++ [l.getD k sltZ] := if_pos h
theorem liveL_no {l : List Slt} {now : Int} {k : Nat} (h : ¬ now < (l.getD k sltZ).till) : liveL l now (k + 1) = liveL l now k := if_neg h
theorem liveL_len (l : List Slt) (now : Int) : ∀ k, (liveL l now k).length ≤ k
 | 0 => Nat.le_refl _
 | k + 1 => by
  have := liveL_len l now k
  by_cases h : now < (l.getD k sltZ).till
  ·rw [liveL_yes h, List.length_append]; simp only [List.length_cons, List.length_nil]; omega
  ·rw [liveL_no h]; omega
theorem liveL_mem (l : List Slt) (now : Int) : ∀ k i, i < (liveL l now k).length → ∃ j, j < k ∧ (liveL l now k).getD i sltZ = l.getD j sltZ
 | 0, i, h => by simp [liveL] at h
 | k + 1, i, h => by
  by_cases hb : now < (l.getD k sltZ).till
  ·rw [liveL_yes hb] at h ⊢
   by_cases hi : i < (liveL l now k).length
   ·obtain ⟨j, h1, h2⟩ := liveL_mem l now k i hi
    refine ⟨j, by omega, ?_⟩
    rw [List.getD_eq_getElem?_getD, List.getElem?_append_left hi, ← List.getD_eq_getElem?_getD]
    exact h2
   ·rw [List.length_append] at h
    simp only [List.length_cons, List.length_nil] at h
    obtain rfl : i = (liveL l now k).length := by omega
    refine ⟨k, by omega, ?_⟩
    rw [List.getD_eq_getElem?_getD]
    simp
  ·rw [liveL_no hb] at h ⊢
   obtain ⟨j, h1, h2⟩ := liveL_mem l now k i h
   exact ⟨j, by omega, h2⟩
def tickOk (c : Ca) (now : Int) : Bool := cacheOk c && (decide (c.now ≤ now) && decide (now ≤ 1000000))
def tickC (c : Ca) (now : Int) : Ca := if tickOk c now = true then ⟨now, c.turn, liveL c.slots now c.slots.length⟩ else ⟨0, 0, []⟩
def tickN (c : Ca) (now : Int) : Int := if tickOk c now = true then c.slots.length - (liveL c.slots now c.slots.length).length else 0
theorem live_short {l : List Slt} {now : Int} (h : ∀ j, j < l.length → ShortS (l.getD j sltZ)) (i : Nat) (hi : i < (liveL l now l.length).length) : ShortS ((liveL l now l.length).getD i sltZ) := by
 obtain ⟨j, h1, h2⟩ := liveL_mem l now l.length i hi
 rw [h2]
 exact h j h1
theorem tickC_short (c : Ca) (now : Int) : (tickC c now).slots.length ≤ 8 ∧ ∀ j, j < (tickC c now).slots.length → ShortS ((tickC c now).slots.getD j sltZ) := by
 unfold tickC
 by_cases h : tickOk c now = true
 ·rw [if_pos h]
  unfold tickOk at h
  rw [Bool.and_eq_true] at h
  obtain ⟨h8, hs⟩ := cacheOk_short h.1
  exact ⟨Nat.le_trans (liveL_len _ _ _) h8, live_short hs⟩
 ·rw [if_neg h]
  exact ⟨Nat.zero_le _, fun j hj => absurd hj (Nat.not_lt_zero _)⟩
end Go.Proofs.YtpolekinfobecaaGreat
