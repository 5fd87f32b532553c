/-
  Plain facts: which records may be a zone's, said by neighbours and said by all. No program is named here. Plain facts: records that may be are short. No program is named here. Plain facts: zones that may be are short; a new zone. No program is named here.
-/
import Derived.Test.YtmlcmkoefelolaaGreatSetOfG15
import Derived.Test.YtmlcmkoefelolaaGreatSetOfG03
import Derived.Test.YtmlcmkoefelolaaGreatSetOfG13
import Derived.Test.YtmlcmkoefelolaaGreatSetOfG02
import Derived.Test.YtmlcmkoefelolaaGreatSetOfG00
namespace Go.Proofs.YtmlcmkoefelolaaGreat
open Go.RowKit


/-- May this one be under o. -/
def inZone (o : List (List Int)) (r : Rec) : Bool := rrOk r && (under r.name o && (decide (r.type ≠ 6) || decide (nameCmp r.name o = 0)))
/-- May b come next to a. -/
def follows (a b : Rec) : Bool := decide (rrCmp a b < 0) && ((decide (a.type ≠ 5) && decide (b.type ≠ 5)) || decide (nameCmp a.name b.name ≠ 0))
def goodI (o : List (List Int)) (rs : List Rec) (i : Nat) : Bool := inZone o (rs.getD i recZ) && (decide (i = 0) || follows (rs.getD (i - 1) recZ) (rs.getD i recZ))
/-- How many of the first k are SOA. -/
def soas (rs : List Rec) : Nat → Nat
 | 0 => 0
 | k + 1 => soas rs k + if (rs.getD k recZ).type = 6 then 1 else 0
def zoneOk (o : List (List Int)) (rs : List Rec) : Bool := decide (nameOk o = true ∧ rs.length ≤ 60 ∧ (∀ i, i < rs.length → goodI o rs i = true) ∧ soas rs rs.length = 1)

theorem soas_le (rs : List Rec) : ∀ k, soas rs k ≤ k
 | 0 => Nat.le_refl _
 | k + 1 => by
  have := soas_le rs k
  unfold soas
  split <;> omega
theorem zoneOk_name {o : List (List Int)} {rs : List Rec} (h : nameOk o = false) : zoneOk o rs = false := decide_eq_false fun h' => by simp [h] at h'
theorem zoneOk_long {o : List (List Int)} {rs : List Rec} (h : 60 < rs.length) : zoneOk o rs = false := decide_eq_false fun h' => by omega
theorem zoneOk_bad {o : List (List Int)} {rs : List Rec} {i : Nat} (hi : i < rs.length) (h : goodI o rs i = false) : zoneOk o rs = false := decide_eq_false fun h' => by
 have := h'.2.2.1 i hi
 rw [h] at this
 cases this
theorem zoneOk_end {o : List (List Int)} {rs : List Rec} (h1 : nameOk o = true) (h2 : rs.length ≤ 60) (h : ∀ i, i < rs.length → goodI o rs i = true) : zoneOk o rs = decide (soas rs rs.length = 1) := by
 unfold zoneOk
 rw [Bool.eq_iff_iff, decide_eq_true_iff, decide_eq_true_iff]
 exact ⟨fun h' => h'.2.2.2, fun h' => ⟨h1, h2, h, h'⟩⟩

/-- No other one has its name, if it is an alias. -/
def alone (rs : List Rec) (i : Nat) : Prop := (rs.getD i recZ).type = 5 → ∀ k, k < rs.length → k ≠ i → cmpN (rs.getD k recZ).name (rs.getD i recZ).name ≠ 0
structure GoodS (o : List (List Int)) (rs : List Rec) (i : Nat) : Prop where
 ok : rrOk (rs.getD i recZ) = true
 under : endsWith (rs.getD i recZ).name o = true
 next : 0 < i → cmpR (rs.getD (i - 1) recZ) (rs.getD i recZ) < 0
 alone : alone rs i
 soa : (rs.getD i recZ).type = 6 → cmpN (rs.getD i recZ).name o = 0

theorem rrOk_name {r : Rec} (h : rrOk r = true) : nameOk r.name = true := by
 unfold rrOk at h
 simp only [Bool.and_eq_true] at h
 exact h.1
theorem cmpR_name {a b : Rec} (h : cmpR a b < 0) : cmpN a.name b.name ≤ 0 := by
 unfold cmpR at h
 split at h <;> omega
theorem goodI_parts {o : List (List Int)} {rs : List Rec} {i : Nat} (h : goodI o rs i = true) :
  rrOk (rs.getD i recZ) = true ∧ under (rs.getD i recZ).name o = true ∧ ((rs.getD i recZ).type = 6 → nameCmp (rs.getD i recZ).name o = 0) ∧ (0 < i → follows (rs.getD (i - 1) recZ) (rs.getD i recZ) = true) := by
 unfold goodI inZone at h
 simp only [Bool.and_eq_true, Bool.or_eq_true, decide_eq_true_eq] at h
 exact ⟨h.1.1, h.1.2.1, fun e => h.1.2.2.resolve_left (fun q => q e), fun e => h.2.resolve_left (by omega)⟩

theorem sorted_upto {rs : List Rec} (h : ∀ i, 0 < i → i < rs.length → cmpN (rs.getD (i - 1) recZ).name (rs.getD i recZ).name ≤ 0) (i : Nat) : ∀ d, i + d < rs.length → cmpN (rs.getD i recZ).name (rs.getD (i + d) recZ).name ≤ 0
 | 0, _ => by rw [Nat.add_zero, cmpN_self]; omega
 | d + 1, hd => cmpN_trans (sorted_upto h i d (by omega)) (by have := h (i + (d + 1)) (by omega) hd; rwa [show i + (d + 1) - 1 = i + d by omega] at this)
theorem sorted_le {rs : List Rec} (h : ∀ i, 0 < i → i < rs.length → cmpN (rs.getD (i - 1) recZ).name (rs.getD i recZ).name ≤ 0) {i j : Nat} (hij : i ≤ j) (hj : j < rs.length) : cmpN (rs.getD i recZ).name (rs.getD j recZ).name ≤ 0 := by
 have := sorted_upto h i (j - i) (by omega)
 rwa [show i + (j - i) = j by omega] at this

theorem good_iff {o : List (List Int)} {rs : List Rec} (ho : nameOk o = true) : (∀ i, i < rs.length → goodI o rs i = true) ↔ ∀ i, i < rs.length → GoodS o rs i := by
 constructor
 ·intro h
  have hok : ∀ i, i < rs.length → rrOk (rs.getD i recZ) = true := fun i hi => (goodI_parts (h i hi)).1
  have hf : ∀ i, 0 < i → i < rs.length → cmpR (rs.getD (i - 1) recZ) (rs.getD i recZ) < 0 ∧ (((rs.getD (i - 1) recZ).type = 5 ∨ (rs.getD i recZ).type = 5) → cmpN (rs.getD (i - 1) recZ).name (rs.getD i recZ).name ≠ 0) := by
   intro i h0 hi
   have hq := (goodI_parts (h i hi)).2.2.2 h0
   unfold follows at hq
   simp only [Bool.and_eq_true, Bool.or_eq_true, decide_eq_true_eq] at hq
   have h1 := hq.1
   unfold rrCmp at h1
   rw [if_pos ⟨hok _ (by omega), hok _ hi⟩] at h1
   refine ⟨h1, fun e => ?_⟩
   have h2 := hq.2.resolve_left (by omega)
   unfold nameCmp at h2
   rwa [if_pos ⟨rrOk_name (hok _ (by omega)), rrOk_name (hok _ hi)⟩] at h2
  have hs : ∀ i, 0 < i → i < rs.length → cmpN (rs.getD (i - 1) recZ).name (rs.getD i recZ).name ≤ 0 := fun i h0 hi => cmpR_name (hf i h0 hi).1
  intro i hi
  obtain ⟨p1, p2, p3, p4⟩ := goodI_parts (h i hi)
  refine ⟨p1, ?_, fun h0 => (hf i h0 hi).1, ?_, fun e => ?_⟩
  ·unfold Go.Proofs.YtmlcmkoefelolaaGreat.under at p2
   simp only [Bool.and_eq_true] at p2
   exact p2.2.2
  ·intro e5 k hk hne e0
   rcases Nat.lt_or_gt_of_ne hne with hlt | hgt
   ·have := cmpN_between (sorted_le hs (show k ≤ i - 1 by omega) (by omega)) (hs i (by omega) hi) e0
    exact (hf i (by omega) hi).2 (.inr e5) this.2
   ·have e0' : cmpN (rs.getD i recZ).name (rs.getD k recZ).name = 0 := by
     have := cmpN_swap (rs.getD i recZ).name (rs.getD k recZ).name
     omega
    have hs1 := hs (i + 1) (by omega) (by omega)
    have hf1 := hf (i + 1) (by omega) (by omega)
    rw [show i + 1 - 1 = i by omega] at hs1 hf1
    have := cmpN_between hs1 (sorted_le hs (show i + 1 ≤ k by omega) hk) e0'
    exact hf1.2 (.inl e5) this.1
  ·have := p3 e
   unfold nameCmp at this
   rwa [if_pos ⟨rrOk_name p1, ho⟩] at this
 ·intro h i hi
  have g := h i hi
  unfold goodI inZone Go.Proofs.YtmlcmkoefelolaaGreat.under
  rw [g.ok, rrOk_name g.ok, ho, g.under]
  simp only [Bool.true_and, Bool.and_eq_true, Bool.or_eq_true, decide_eq_true_eq]
  refine ⟨?_, ?_⟩
  ·by_cases e : (rs.getD i recZ).type = 6
   ·right
    unfold nameCmp
    rw [if_pos ⟨rrOk_name g.ok, ho⟩]
    exact g.soa e
   ·exact .inl e
  ·by_cases e : i = 0
   ·exact .inl e
   ·right
    have g' := h (i - 1) (by omega)
    unfold follows rrCmp nameCmp
    rw [if_pos ⟨g'.ok, g.ok⟩, if_pos ⟨rrOk_name g'.ok, rrOk_name g.ok⟩]
    simp only [Bool.and_eq_true, Bool.or_eq_true, decide_eq_true_eq]
    refine ⟨g.next (by omega), ?_⟩
    by_cases e1 : (rs.getD (i - 1) recZ).type = 5
    ·right
     have := g'.alone e1 i hi (by omega)
     have hs := cmpN_swap (rs.getD (i - 1) recZ).name (rs.getD i recZ).name
     omega
    ·by_cases e2 : (rs.getD i recZ).type = 5
     ·exact .inr (g.alone e2 (i - 1) (by omega) (by omega))
     ·exact .inl ⟨e1, e2⟩
theorem zoneOk_badS {o : List (List Int)} {rs : List Rec} {i : Nat} (ho : nameOk o = true) (hi : i < rs.length) (h : ¬ GoodS o rs i) : zoneOk o rs = false := decide_eq_false fun h' => h ((good_iff ho).1 h'.2.2.1 i hi)
theorem zoneOk_endS {o : List (List Int)} {rs : List Rec} (h1 : nameOk o = true) (h2 : rs.length ≤ 60) (h : ∀ i, i < rs.length → GoodS o rs i) : zoneOk o rs = decide (soas rs rs.length = 1) := zoneOk_end h1 h2 ((good_iff h1).2 h)
end Go.Proofs.YtmlcmkoefelolaaGreat

namespace Go.Proofs.YtmlcmkoefelolaaGreat
open Go.RowKit

/-- A name is short. -/
def ShortN (n : List (List Int)) : Prop := n.length ≤ 6 ∧ ∀ k, k < n.length → (n.getD k []).length ≤ 15
/-- A record is short. -/
def ShortR (r : Rec) : Prop := (r.name.length ≤ 6 ∧ ∀ k, k < r.name.length → (r.name.getD k []).length ≤ 15) ∧ (r.to.length ≤ 6 ∧ ∀ k, k < r.to.length → (r.to.getD k []).length ≤ 15) ∧ r.text.length ≤ 1048576 ∧ r.nums.length ≤ 1048576
theorem short_name {n : List (List Int)} (h : nameOk n = true) : ShortN n := ⟨(nameOk_parts h).1, fun k hk => (labelOk_length ((nameOk_parts h).2 k hk)).2⟩
theorem short_nil : ShortN [] := ⟨by simp, fun k hk => absurd hk (by simp)⟩
end Go.Proofs.YtmlcmkoefelolaaGreat

namespace Go.Proofs.YtmlcmkoefelolaaGreat
open Go.RowKit

theorem short_rec {r : Rec} (h : rrOk r = true) : ShortR r := by
 unfold rrOk dataOk at h
 simp only [Bool.and_eq_true] at h
 obtain ⟨h1, h2, h3, h4, h5, h6, h7⟩ := h
 refine ⟨short_name h1, ?_, ?_, ?_⟩
 ·by_cases e : named r.type = true
  ·rw [if_pos e] at h5
   exact short_name h5
  ·rw [if_neg e] at h5
   have := of_decide_eq_true h5
   rw [List.eq_nil_of_length_eq_zero this]
   exact short_nil
 ·by_cases e : texted r.type = true
  ·rw [if_pos e] at h6
   have := of_decide_eq_true h6
   omega
  ·rw [if_neg e] at h6
   have := of_decide_eq_true h6
   omega
 ·by_cases e : r.type = 6
  ·rw [if_pos e] at h7
   have := (of_decide_eq_true h7).1
   omega
  ·rw [if_neg e] at h7
   have := of_decide_eq_true h7
   omega
theorem zone_short {o : List (List Int)} {rs : List Rec} (h : zoneOk o rs = true) : ShortN o ∧ (∀ i, i < rs.length → ShortR (rs.getD i recZ)) ∧ rs.length ≤ 60 := by
 obtain ⟨h1, h2, h3, _⟩ := of_decide_eq_true h
 exact ⟨short_name h1, fun i hi => short_rec (goodI_parts (h3 i hi)).1, h2⟩
theorem size_of_short {r : Rec} (h : ShortR r) : SizeR 1048576 r :=
 ⟨Nat.le_trans h.1.1 (by decide), fun i hi => Nat.le_trans (h.1.2 i hi) (by decide), Nat.le_trans h.2.1.1 (by decide), fun i hi => Nat.le_trans (h.2.1.2 i hi) (by decide), h.2.2.1, h.2.2.2⟩
end Go.Proofs.YtmlcmkoefelolaaGreat
