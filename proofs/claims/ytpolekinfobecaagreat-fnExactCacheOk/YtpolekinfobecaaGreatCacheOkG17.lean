/-
  Plain facts: which records are a set, which slots and caches may be; numbers that are sorted and made compact. No program is named here but the kinds. Contracts of the program's labelSign and LabelOk. Contracts of the program's NameOk. Contracts of the library's bytes.Compare and cmp.Compare at int.
-/
import Derived.Test.YtpolekinfobecaaGreatCacheOkG09
import Derived.Test.YtpolekinfobecaaGreatCacheOkG16
import Derived.Lib.SlicesCompact
import Derived.Test.YtpolekinfobecaaGreatCacheOkG07
import Derived.Test.YtpolekinfobecaaGreatCacheOkG01
namespace Go.Proofs.YtpolekinfobecaaGreat
open Go.RowKit
set_option linter.unusedVariables false

theorem rangeAll_yes {n : Nat} {p : Nat → Bool} (h : ∀ j, j < n → p j = true) : (List.range n).all p = true := by
 rw [List.all_eq_true]
 intro x hx
 exact h x (List.mem_range.1 hx)
theorem rangeAll_at {n k : Nat} {p : Nat → Bool} (h : (List.range n).all p = true) (hk : k < n) : p k = true := List.all_eq_true.1 h k (List.mem_range.2 hk)
theorem rangeAll_no {n k : Nat} {p : Nat → Bool} (hk : k < n) (h : p k = false) : (List.range n).all p = false := by
 rw [Bool.eq_false_iff]
 intro q
 have := rangeAll_at q hk
 rw [h] at this
 cases this
/-- Records that are one set: of one name, type and time, in order. -/
def setAt (l : List Rec) (i : Nat) : Bool := rrOk (l.getD i recZ) && (decide (cmpN (l.getD i recZ).name (l.getD 0 recZ).name = 0) && (decide ((l.getD i recZ).type = (l.getD 0 recZ).type) && (decide ((l.getD i recZ).ttl = (l.getD 0 recZ).ttl) && (decide (i = 0) || decide (cmpR (l.getD (i - 1) recZ) (l.getD i recZ) < 0)))))
def setOk (l : List Rec) : Bool := decide (1 ≤ l.length) && (decide (l.length ≤ 12) && (List.range l.length).all (setAt l))
def oneB (a b : Rec) : Bool := decide (a.type = b.type) && (decide (a.ttl = b.ttl) && decide (nameCmp a.name b.name = 0))
def setI (l : List Rec) (i : Nat) : Bool := oneB (l.getD 0 recZ) (l.getD i recZ) && decide (rrCmp (l.getD (i - 1) recZ) (l.getD i recZ) < 0)
theorem rrOk_nameOk {r : Rec} (h : rrOk r = true) : nameOk r.name = true := by
 unfold rrOk at h
 simp only [Bool.and_eq_true] at h
 exact h.1
theorem setAt_rr {l : List Rec} {i : Nat} (h : setAt l i = true) : rrOk (l.getD i recZ) = true := by
 unfold setAt at h
 simp only [Bool.and_eq_true] at h
 exact h.1
theorem setAt_zero {l : List Rec} (h : rrOk (l.getD 0 recZ) = true) : setAt l 0 = true := by
 unfold setAt
 rw [h, cmpN_self]
 simp
theorem setI_is {l : List Rec} (h : rrsOk l = true) {i : Nat} (h1 : 1 ≤ i) (hi : i < l.length) : setI l i = setAt l i := by
 unfold rrsOk at h
 rw [Bool.and_eq_true] at h
 have r0 := all_at recZ h.2 (k := 0) (by omega)
 have ri := all_at recZ h.2 hi
 have rp := all_at recZ h.2 (k := i - 1) (by omega)
 unfold setI setAt oneB
 generalize l.getD 0 recZ = a at *
 generalize l.getD i recZ = b at *
 generalize l.getD (i - 1) recZ = p at *
 have e1 : nameCmp a.name b.name = cmpN a.name b.name := if_pos ⟨rrOk_nameOk r0, rrOk_nameOk ri⟩
 have e2 : rrCmp p b = cmpR p b := if_pos ⟨rp, ri⟩
 have e3 : cmpN a.name b.name = - cmpN b.name a.name := cmpN_swap _ _
 have e0 : decide (i = 0) = false := decide_eq_false (by omega)
 rw [e1, e2, ri, e0, Bool.eq_iff_iff]
 simp only [Bool.and_eq_true, Bool.or_eq_true, decide_eq_true_eq]
 constructor
 ·rintro ⟨⟨a1, a2, a3⟩, a4⟩
  exact ⟨trivial, by omega, a1.symm, a2.symm, .inr a4⟩
 ·rintro ⟨_, a3, a1, a2, a4⟩
  exact ⟨⟨a1.symm, a2.symm, by omega⟩, by rcases a4 with h | h <;> first | cases h | exact h⟩
theorem setOk_rrs {l : List Rec} (h : setOk l = true) : rrsOk l = true ∧ 1 ≤ l.length := by
 unfold setOk at h
 simp only [Bool.and_eq_true, decide_eq_true_eq] at h
 obtain ⟨h1, h2, h3⟩ := h
 refine ⟨?_, h1⟩
 unfold rrsOk
 rw [Bool.and_eq_true]
 exact ⟨decide_eq_true h2, all_of l recZ (fun j hj => setAt_rr (rangeAll_at h3 hj))⟩
theorem setOk_yes {l : List Rec} (h : rrsOk l = true) (h1 : 1 ≤ l.length) (hs : ∀ i, 1 ≤ i → i < l.length → setI l i = true) : setOk l = true := by
 have h' := h
 unfold rrsOk at h'
 rw [Bool.and_eq_true] at h'
 unfold setOk
 rw [decide_eq_true h1, h'.1, Bool.true_and, Bool.true_and]
 refine rangeAll_yes (fun j hj => ?_)
 by_cases e : j = 0
 ·subst e
  exact setAt_zero (all_at recZ h'.2 hj)
 ·rw [← setI_is h (by omega) hj]
  exact hs j (by omega) hj
theorem setOk_no {l : List Rec} (h : rrsOk l = true) {i : Nat} (h1 : 1 ≤ i) (hi : i < l.length) (hs : setI l i = false) : setOk l = false := by
 rw [setI_is h h1 hi] at hs
 unfold setOk
 rw [rangeAll_no hi hs]
 simp
theorem setOk_bad {l : List Rec} (h : rrsOk l = false ∨ l.length = 0) : setOk l = false := by
 rw [Bool.eq_false_iff]
 intro q
 obtain ⟨q1, q2⟩ := setOk_rrs q
 rcases h with h | h
 ·rw [h] at q1
  cases q1
 ·omega
/-- Slots. -/
def holdsB (s : Slt) : Bool := if s.kind = 1 then setOk s.rrs && (decide ((s.rrs.getD 0 recZ).type = s.type) && decide (cmpN (s.rrs.getD 0 recZ).name s.name = 0)) else if s.kind = 2 ∨ s.kind = 3 then decide (s.rrs.length = 0) else false
def toldB (s : Slt) : Bool := nameOk s.name && (typeOk s.type && decide (0 ≤ s.rank ∧ s.rank ≤ 3))
def slotB (s : Slt) (now turn : Int) : Bool := toldB s && ((decide (now < s.till) && decide (s.till ≤ now + 1000)) && ((decide (1 ≤ s.used) && decide (s.used ≤ turn)) && holdsB s))
def aheadB (a b : Slt) : Bool := decide (cmpN a.name b.name < 0) || (decide (cmpN a.name b.name = 0) && decide (a.type < b.type))
def slotCmpI (a b : Slt) : Int := if nameCmp a.name b.name ≠ 0 then nameCmp a.name b.name else byLength a.type b.type
theorem slotB_name {s : Slt} {now turn : Int} (h : slotB s now turn = true) : nameOk s.name = true := by
 unfold slotB toldB at h
 simp only [Bool.and_eq_true] at h
 exact h.1.1
theorem slotCmp_ahead {a b : Slt} (ha : nameOk a.name = true) (hb : nameOk b.name = true) : decide (slotCmpI a b < 0) = aheadB a b := by
 have e1 : nameCmp a.name b.name = cmpN a.name b.name := if_pos ⟨ha, hb⟩
 unfold slotCmpI aheadB
 rw [e1, Bool.eq_iff_iff]
 simp only [Bool.and_eq_true, Bool.or_eq_true, decide_eq_true_eq]
 by_cases h : cmpN a.name b.name = 0
 ·rw [if_neg (by simpa using h)]
  unfold byLength
  by_cases h2 : a.type < b.type
  ·rw [if_pos h2]
   omega
  ·rw [if_neg h2]
   split <;> omega
 ·rw [if_pos h]
  omega
def slotAt (c : Ca) (i : Nat) : Bool := slotB (c.slots.getD i sltZ) c.now c.turn && (decide (i = 0) || aheadB (c.slots.getD (i - 1) sltZ) (c.slots.getD i sltZ))
def freshAt (l : List Slt) (i : Nat) : Bool := (List.range i).all (fun k => decide ((l.getD k sltZ).used ≠ (l.getD i sltZ).used))
def headB (c : Ca) : Bool := decide (0 ≤ c.now ∧ c.now ≤ 1000000) && (decide (0 ≤ c.turn ∧ c.turn ≤ 1000000) && decide (c.slots.length ≤ 8))
def apartB (l : List Slt) : Bool := (List.range l.length).all (freshAt l)
def cacheOk (c : Ca) : Bool := headB c && ((List.range c.slots.length).all (slotAt c) && apartB c.slots)
/-- Numbers that are sorted and made compact: as many as there were where no two are the same. -/
theorem compact_len {zs : List Int} : (Lib.compact zs).length = zs.length ↔ ∀ j, j < zs.length → Lib.keeps zs.toArray j = true := by
 unfold Lib.compact Lib.compactUpTo
 rw [List.length_map]
 constructor
 ·intro h j hj
  have h2 : ((List.range zs.length).filter (Lib.keeps zs.toArray)).length = (List.range zs.length).length := by rw [h, List.length_range]
  exact List.length_filter_eq_length_iff.1 h2 j (List.mem_range.2 hj)
 ·intro h
  have h2 := (List.length_filter_eq_length_iff (l := List.range zs.length) (p := Lib.keeps zs.toArray)).2 (fun a ha => h a (List.mem_range.1 ha))
  rw [h2, List.length_range]
theorem sorted_keeps {zs : List Int} (hs : zs.Pairwise (fun a b => a ≤ b)) : (∀ j, j < zs.length → Lib.keeps zs.toArray j = true) ↔ zs.Nodup := by
 have get : ∀ j (hj : j < zs.length), zs.toArray[j]! = zs[j] := fun j hj => by simp [hj]
 rw [List.pairwise_iff_getElem] at hs
 constructor
 ·intro h
  refine List.pairwise_iff_getElem.2 (fun i j hi hj hij => ?_)
  have hk := h j hj
  have h1 : zs[j - 1] ≤ zs[j] := hs (j - 1) j (by omega) hj (by omega)
  have h2 : zs[i] ≤ zs[j - 1] := by
   by_cases e : i = j - 1
   ·subst e; exact Int.le_refl _
   ·exact hs i (j - 1) hi (by omega) (by omega)
  have h3 : zs[j] ≠ zs[j - 1] := by
   intro e
   have := Lib.keeps_neg (d := zs.toArray) (m := j) (by omega) (by rw [get j hj, get (j - 1) (by omega)]; exact e)
   rw [this] at hk
   cases hk
  intro e
  omega
 ·intro h j hj
  by_cases e : j = 0
  ·subst e
   exact Lib.keeps_lt_one _ 0 (by omega)
  ·refine Lib.keeps_pos ?_
   rw [get j hj, get (j - 1) (by omega)]
   exact (List.pairwise_iff_getElem.1 h (j - 1) j (by omega) hj (by omega)).symm
theorem apart_iff {l : List Slt} : apartB l = true ↔ (l.map Slt.used).Nodup := by
 have gd : ∀ k (hk : k < l.length), l.getD k sltZ = l[k] := fun k hk => by simp [hk]
 constructor
 ·intro h
  refine List.pairwise_iff_getElem.2 (fun i j hi hj hij => ?_)
  rw [List.length_map] at hi hj
  have := of_decide_eq_true (rangeAll_at (rangeAll_at h hj) hij)
  rw [gd i hi, gd j hj] at this
  simpa using this
 ·intro h
  refine rangeAll_yes (fun j hj => rangeAll_yes (fun k hk => decide_eq_true ?_))
  have := List.pairwise_iff_getElem.1 h k j (by rw [List.length_map]; omega) (by rw [List.length_map]; omega) hk
  rw [gd k (by omega), gd j hj]
  simpa using this
theorem used_apart (l : List Slt) : decide ((Lib.compact ((l.map Slt.used).mergeSort fun x y => decide (x ≤ y))).length = l.length) = apartB l := by
 have hp := List.mergeSort_perm (l.map Slt.used) (fun x y => decide (x ≤ y))
 have hl : ((l.map Slt.used).mergeSort fun x y => decide (x ≤ y)).length = l.length := by rw [List.length_mergeSort, List.length_map]
 have hs : ((l.map Slt.used).mergeSort fun x y => decide (x ≤ y)).Pairwise (fun a b => a ≤ b) := by
  have := List.pairwise_mergeSort (le := fun (x y : Int) => decide (x ≤ y)) (fun a b c h1 h2 => by simp only [decide_eq_true_eq] at *; omega) (fun a b => by simp only [Bool.or_eq_true, decide_eq_true_eq]; omega) (l.map Slt.used)
  exact this.imp (fun h => of_decide_eq_true h)
 rw [Bool.eq_iff_iff, decide_eq_true_eq, apart_iff]
 have h1 := compact_len (zs := (l.map Slt.used).mergeSort fun x y => decide (x ≤ y))
 rw [hl] at h1
 rw [h1]
 have h2 := sorted_keeps hs
 rw [hl] at h2
 rw [h2]
 exact hp.nodup_iff
end Go.Proofs.YtpolekinfobecaaGreat

namespace Go.Proofs.YtpolekinfobecaaGreat
open Go.RowKit
set_option linter.unusedVariables false

theorem sign_cases (c : Int) : (97 ≤ c ∧ c ≤ 122) ∨ (97 ≤ c ∧ 122 < c) ∨ (c < 97 ∧ 48 ≤ c ∧ c ≤ 57) ∨ (c < 97 ∧ 48 ≤ c ∧ 57 < c ∧ c ≠ 45) ∨ (c < 97 ∧ c < 48 ∧ c = 45) ∨ (c < 97 ∧ c < 48 ∧ c ≠ 45) := by omega

set_option maxHeartbeats 400000 in
set_option maxRecDepth 100000 in
theorem labelSign_any (c : Int) (w : World) :
  Calls Tryz.prog 93 #[.int .u8 c] w fun e w' => e = .returned (.bool (signOk c)) ∧ w = w' := by
 rcases sign_cases c with ⟨h1, h2⟩ | ⟨h1, h2⟩ | ⟨h1, h2, h3⟩ | ⟨h1, h2, h3, h4⟩ | ⟨h1, h2, rfl⟩ | ⟨h1, h2, h3⟩
 ·have hs : signOk c = true := decide_eq_true (by omega)
  rw [hs]
  go_enter Tryz.func93, Tryz.ntmps93
  go_wp2
  go_ret
  exact ⟨rfl, rfl⟩
 ·have hs : signOk c = false := decide_eq_false (by omega)
  rw [hs]
  have h5 : 48 ≤ c := by omega
  have h6 : ¬ c ≤ 57 := by omega
  have h7 : ¬ c ≤ 122 := by omega
  have h8 : (c == 45) = false := by simp; omega
  go_enter Tryz.func93, Tryz.ntmps93
  go_wp2
  go_ret
  exact ⟨rfl, rfl⟩
 ·have hs : signOk c = true := decide_eq_true (by omega)
  rw [hs]
  have h5 : ¬ 97 ≤ c := by omega
  go_enter Tryz.func93, Tryz.ntmps93
  go_wp2
  go_ret
  exact ⟨rfl, rfl⟩
 ·have hs : signOk c = false := decide_eq_false (by omega)
  rw [hs]
  have h5 : ¬ 97 ≤ c := by omega
  have h6 : ¬ c ≤ 57 := by omega
  have h8 : (c == 45) = false := by simp; omega
  go_enter Tryz.func93, Tryz.ntmps93
  go_wp2
  go_ret
  exact ⟨rfl, rfl⟩
 ·have hs : signOk 45 = true := rfl
  rw [hs]
  go_enter Tryz.func93, Tryz.ntmps93
  go_wp2
  go_ret
  exact ⟨rfl, rfl⟩
 ·have hs : signOk c = false := decide_eq_false (by omega)
  rw [hs]
  have h5 : ¬ 97 ≤ c := by omega
  have h6 : ¬ 48 ≤ c := by omega
  have h8 : (c == 45) = false := by simp; omega
  go_enter Tryz.func93, Tryz.ntmps93
  go_wp2
  go_ret
  exact ⟨rfl, rfl⟩

set_option maxHeartbeats 400000 in
set_option maxRecDepth 100000 in
theorem implLabelOk_has {v : Value} {l : List Int} {w : World} (h : Has w v l) :
  Calls Tryz.prog 73 #[v] w fun e w' => e = .returned (.bool (labelOk l)) ∧ w = w' := by
 have hbd := h.bound
 unfold maxLen at hbd
 obtain ⟨a, cap, rfl, hL⟩ := h.form
 by_cases h0 : l.length = 0
 ·rw [labelOk_short (by omega), h0]
  go_enter Tryz.func73, Tryz.ntmps73
  go_wp2
  go_ret
  exact ⟨rfl, rfl⟩
 ·by_cases h1 : 15 < l.length
  ·rw [labelOk_short (by omega)]
   generalize hn : l.length = n at *
   have h3 : ((n : Int) == 0) = false := by simp; omega
   go_enter Tryz.func73, Tryz.ntmps73
   go_wp2
   go_ret
   exact ⟨rfl, rfl⟩
  ·have h2 : l.length ≤ 15 := by omega
   have hyes := hide (fun (hs : ∀ j, j < l.length → signOk (l.getD j 0) = true) => labelOk_yes (l := l) (by omega) h2 hs)
   have hno := hide (fun (j : Nat) (hj : j < l.length) (hs : signOk (l.getD j 0) = false) => labelOk_sign hj hs)
   generalize hok : labelOk l = ok at *
   clear hok
   generalize hn : l.length = n at *
   have HN := hide hn
   clear hn
   have h3 : ((n : Int) == 0) = false := by simp; omega
   go_enter Tryz.func73, Tryz.ntmps73
   go_wp2
   go_loop [15] (fun i => ∃ k : Nat, k ≤ n ∧ i = .int .i64 k ∧ Hid (∀ j, j < k → signOk (l.getD j 0) = true)) (fun i => n - (intOf i).toNat)
   case atStart => exact ⟨0, Nat.zero_le _, rfl, hide (fun j hj => absurd hj (Nat.not_lt_zero _))⟩
   case round =>
    obtain ⟨k, hk, rfl, hall⟩ := hrel
    by_cases hlt : k < n
    ·obtain ⟨b, off, rfl, hbl, hc⟩ := hL.here (k := k) (by rw [unhide HN]; exact hlt)
     have hone := hide (fun (hs : signOk (l.getD k 0) = true) => (show ∀ j, j < k + 1 → signOk (l.getD j 0) = true from fun j hj => by
      by_cases e : j = k
      ·subst e; exact hs
      ·exact unhide hall j (by omega)))
     have hnok := hide (fun (hs : signOk (l.getD k 0) = false) => unhide hno k hlt hs)
     generalize hx : l.getD k 0 = x at *
     go_wp2_with fail
     refine (labelSign_any x _).mono ?_
     rintro e w1 ⟨rfl, rfl⟩
     cases hs : signOk x with
     | true =>
      go_wp2
      exact ⟨⟨k + 1, by omega, by go_num, hide (unhide hone hs)⟩, by simp [intOf]; omega⟩
     | false =>
      have hq := unhide hnok hs
      subst hq
      go_wp2
      go_ret
      exact ⟨rfl, rfl⟩
    ·obtain rfl : k = n := by omega
     have hq := unhide hyes (unhide hall)
     subst hq
     go_wp2
     go_ret
     exact ⟨rfl, rfl⟩
end Go.Proofs.YtpolekinfobecaaGreat

namespace Go.Proofs.YtpolekinfobecaaGreat
open Go.RowKit
set_option linter.unusedVariables false

set_option maxHeartbeats 400000 in
set_option maxRecDepth 100000 in
theorem implNameOk_has {v : Value} {n : List (List Int)} {w : World} (h : HasL w v n) :
  Calls Tryz.prog 49 #[.agg #[v]] w fun e w' => e = .returned (.bool (nameOk n)) ∧ Below w.heap.size w w' := by
 obtain ⟨a, cap, rfl, hl, hm⟩ := h.form
 unfold maxLen at hm
 by_cases h1 : 6 < n.length
 ·rw [nameOk_long h1]
  have H := hide h
  clear h
  generalize hn : n.length = m at *
  have HN := hide hn
  clear hn
  go_enter Tryz.func49, Tryz.ntmps49
  go_wp2
  go_ret
  exact ⟨rfl, below_alloc _⟩
 ·have h2 : n.length ≤ 6 := by omega
  have hA := h.below (below_alloc (.cells #[.slice a n.length cap] 44))
  have H := hide h
  clear h
  have hyes := hide (fun (hs : ∀ j, j < n.length → labelOk (n.getD j []) = true) => nameOk_yes (n := n) h2 hs)
  have hno := hide (fun (j : Nat) (hj : j < n.length) (hs : labelOk (n.getD j []) = false) => nameOk_label hj hs)
  generalize hok : nameOk n = ok at *
  clear hok
  generalize hn : n.length = m at *
  have HN := hide hn
  clear hn
  go_enter Tryz.func49, Tryz.ntmps49
  go_wp2
  go_loop [12] (fun i => ∃ k : Nat, k ≤ m ∧ i = .int .i64 k ∧ Hid (∀ j, j < k → labelOk (n.getD j []) = true)) (fun i => m - (intOf i).toNat)
  case atStart => exact ⟨0, Nat.zero_le _, rfl, hide (fun j hj => absurd hj (Nat.not_lt_zero _))⟩
  case round =>
   obtain ⟨k, hk, rfl, hall⟩ := hrel
   by_cases hlt : k < m
   ·obtain ⟨b, off, u, rfl, hbl, hc, hu⟩ := hA.here (k := k) (by rw [unhide HN]; exact hlt)
    have hone := hide (fun (hs : labelOk (n.getD k []) = true) => (show ∀ j, j < k + 1 → labelOk (n.getD j []) = true from fun j hj => by
      by_cases e : j = k
      ·subst e; exact hs
      ·exact unhide hall j (by omega)))
    have hnok := hide (fun (hs : labelOk (n.getD k []) = false) => unhide hno k hlt hs)
    generalize hx : n.getD k [] = x at *
    have HU := hide hu
    obtain ⟨ua, uc, rfl, _⟩ := hu.form
    clear hu
    go_wp2_with fail
    refine (implLabelOk_has (unhide HU)).mono ?_
    rintro e w1 ⟨rfl, rfl⟩
    cases hs : labelOk x with
    | true =>
     go_wp2
     exact ⟨⟨k + 1, by omega, by go_num, hide (unhide hone hs)⟩, by simp [intOf]; omega⟩
    | false =>
     have hq := unhide hnok hs
     subst hq
     go_wp2
     go_ret
     exact ⟨rfl, below_alloc _⟩
   ·obtain rfl : k = m := by omega
    have hq := unhide hyes (unhide hall)
    subst hq
    go_wp2
    go_ret
    exact ⟨rfl, below_alloc _⟩
end Go.Proofs.YtpolekinfobecaaGreat

namespace Go.Proofs.YtpolekinfobecaaGreat
open Go.RowKit
set_option linter.unusedVariables false

set_option maxHeartbeats 400000 in
set_option maxRecDepth 100000 in
theorem bytesCompare_has {v v' : Value} {l l' : List Int} {w : World} (h : Has w v l) (h' : Has w v' l') :
  Calls Tryz.prog 61 #[v, v'] w fun e w' => e = .returned (.int .i64 (cmpB l l')) ∧ w = w' := by
 go_enter Tryz.func61, Tryz.ntmps61
 go_wp2
 rw [run_callFunc_extern Tryz.func83 (by kernel_rfl) (by kernel_rfl) (by kernel_rfl) (e := Extern.BytealgCompare.compare) (by kernel_rfl), run_compare_has h h']
 simp only [Result.andThen]
 rw [Oper.upon_value]
 go_wp2
 go_ret
 exact ⟨rfl, rfl⟩

set_option maxHeartbeats 400000 in
set_option maxRecDepth 100000 in
theorem isNaN_int (x : Int) (w : World) :
  Calls Tryz.prog 76 #[.int .i64 x] w fun e w' => e = .returned (.bool false) ∧ w = w' := by
 go_enter Tryz.func76, Tryz.ntmps76
 go_wp2
 go_ret
 exact ⟨rfl, rfl⟩

set_option maxHeartbeats 400000 in
set_option maxRecDepth 100000 in
theorem cmpCompare_int (x y : Int) (w : World) :
  Calls Tryz.prog 52 #[.int .i64 x, .int .i64 y] w fun e w' => e = .returned (.int .i64 (byLength x y)) ∧ w = w' := by
 unfold byLength
 by_cases h1 : x < y
 ·rw [if_pos h1]
  go_enter Tryz.func52, Tryz.ntmps52
  go_wp2_with fail
  refine (isNaN_int x _).mono ?_
  rintro e w1 ⟨rfl, rfl⟩
  go_wp2_with fail
  refine (isNaN_int y _).mono ?_
  rintro e w1 ⟨rfl, rfl⟩
  go_wp2
  go_ret
  exact ⟨rfl, rfl⟩
 ·rw [if_neg h1]
  by_cases h2 : y < x
  ·rw [if_pos h2]
   go_enter Tryz.func52, Tryz.ntmps52
   go_wp2_with fail
   refine (isNaN_int x _).mono ?_
   rintro e w1 ⟨rfl, rfl⟩
   go_wp2_with fail
   refine (isNaN_int y _).mono ?_
   rintro e w1 ⟨rfl, rfl⟩
   go_wp2
   go_ret
   exact ⟨rfl, rfl⟩
  ·rw [if_neg h2]
   go_enter Tryz.func52, Tryz.ntmps52
   go_wp2_with fail
   refine (isNaN_int x _).mono ?_
   rintro e w1 ⟨rfl, rfl⟩
   go_wp2_with fail
   refine (isNaN_int y _).mono ?_
   rintro e w1 ⟨rfl, rfl⟩
   go_wp2
   go_ret
   exact ⟨rfl, rfl⟩
end Go.Proofs.YtpolekinfobecaaGreat
