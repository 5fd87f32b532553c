/-
  Plain facts: which records may be a zone's, said by neighbours and said by all. No program is named here. Contracts of the program's labelSign and LabelOk.
-/
import Derived.Test.YtaconefooicplaaZoneOkG12
import Derived.Test.YtaconefooicplaaZoneOkG05
import Derived.Test.YtaconefooicplaaZoneOkG13
import Derived.Test.YtaconefooicplaaZoneOkG06
import Derived.Test.YtaconefooicplaaZoneOkG00
namespace Go.Proofs.Ytaconefooicplaa
open Go.RowKit


/-- May this one be under o. -/
def inZone (o : List (List Int)) (r : Rec) : Bool := rrOk r && (under r.name o && (decide (r.type ≠ 6) || decide (nameCmp r.name o = 0)))
/-- May b come next to a. -/
def follows (a b : Rec) : Bool := decide (rrCmp a b < 0) && ((decide (a.type ≠ 5) && decide (b.type ≠ 5)) || decide (nameCmp a.name b.name ≠ 0))
def goodI (o : List (List Int)) (rs : List Rec) (i : Nat) : Bool := inZone o (rs.getD i recZ) && (decide (i = 0) || follows (rs.getD (i - 1) recZ) (rs.getD i recZ))
/-- How many of the first k are SOA. -/
def soas (rs : List Rec) : Nat → Nat
  | 0 => 0
  | k + 1 => soas rs k + if (rs.getD k recZ).type = 6 then 1 else 0
def zoneOk (o : List (List Int)) (rs : List Rec) : Bool := decide (nameOk o = true ∧ rs.length ≤ 60 ∧ (∀ i, i < rs.length → goodI o rs i = true) ∧ soas rs rs.length = 1)

theorem soas_le (rs : List Rec) : ∀ k, soas rs k ≤ k
  | 0 => Nat.le_refl _
  | k + 1 => by
    have := soas_le rs k
    unfold soas
    split <;> omega
theorem zoneOk_name {o : List (List Int)} {rs : List Rec} (h : nameOk o = false) : zoneOk o rs = false := decide_eq_false fun h' => by simp [h] at h'
theorem zoneOk_long {o : List (List Int)} {rs : List Rec} (h : 60 < rs.length) : zoneOk o rs = false := decide_eq_false fun h' => by omega
theorem zoneOk_bad {o : List (List Int)} {rs : List Rec} {i : Nat} (hi : i < rs.length) (h : goodI o rs i = false) : zoneOk o rs = false := decide_eq_false fun h' => by
  have := h'.2.2.1 i hi
  rw [h] at this
  cases this
theorem zoneOk_end {o : List (List Int)} {rs : List Rec} (h1 : nameOk o = true) (h2 : rs.length ≤ 60) (h : ∀ i, i < rs.length → goodI o rs i = true) : zoneOk o rs = decide (soas rs rs.length = 1) := by
  unfold zoneOk
  rw [Bool.eq_iff_iff, decide_eq_true_iff, decide_eq_true_iff]
  exact ⟨fun h' => h'.2.2.2, fun h' => ⟨h1, h2, h, h'⟩⟩

/-- No other one has its name, if it is an alias. -/
def alone (rs : List Rec) (i : Nat) : Prop := (rs.getD i recZ).type = 5 → ∀ k, k < rs.length → k ≠ i → cmpN (rs.getD k recZ).name (rs.getD i recZ).name ≠ 0
structure GoodS (o : List (List Int)) (rs : List Rec) (i : Nat) : Prop where
  ok : rrOk (rs.getD i recZ) = true
  under : endsWith (rs.getD i recZ).name o = true
  next : 0 < i → cmpR (rs.getD (i - 1) recZ) (rs.getD i recZ) < 0
  alone : alone rs i
  soa : (rs.getD i recZ).type = 6 → cmpN (rs.getD i recZ).name o = 0

theorem rrOk_name {r : Rec} (h : rrOk r = true) : nameOk r.name = true := by
  unfold rrOk at h
  simp only [Bool.and_eq_true] at h
  exact h.1
theorem cmpR_name {a b : Rec} (h : cmpR a b < 0) : cmpN a.name b.name ≤ 0 := by
  unfold cmpR at h
  split at h <;> omega
theorem goodI_parts {o : List (List Int)} {rs : List Rec} {i : Nat} (h : goodI o rs i = true) :
    rrOk (rs.getD i recZ) = true ∧ under (rs.getD i recZ).name o = true ∧ ((rs.getD i recZ).type = 6 → nameCmp (rs.getD i recZ).name o = 0) ∧ (0 < i → follows (rs.getD (i - 1) recZ) (rs.getD i recZ) = true) := by
  unfold goodI inZone at h
  simp only [Bool.and_eq_true, Bool.or_eq_true, decide_eq_true_eq] at h
  exact ⟨h.1.1, h.1.2.1, fun e => h.1.2.2.resolve_left (fun q => q e), fun e => h.2.resolve_left (by omega)⟩

theorem sorted_upto {rs : List Rec} (h : ∀ i, 0 < i → i < rs.length → cmpN (rs.getD (i - 1) recZ).name (rs.getD i recZ).name ≤ 0) (i : Nat) : ∀ d, i + d < rs.length → cmpN (rs.getD i recZ).name (rs.getD (i + d) recZ).name ≤ 0
  | 0, _ => by rw [Nat.add_zero, cmpN_self]; omega
  | d + 1, hd => cmpN_trans (sorted_upto h i d (by omega)) (by have := h (i + (d + 1)) (by omega) hd; rwa [show i + (d + 1) - 1 = i + d by omega] at this)
theorem sorted_le {rs : List Rec} (h : ∀ i, 0 < i → i < rs.length → cmpN (rs.getD (i - 1) recZ).name (rs.getD i recZ).name ≤ 0) {i j : Nat} (hij : i ≤ j) (hj : j < rs.length) : cmpN (rs.getD i recZ).name (rs.getD j recZ).name ≤ 0 := by
  have := sorted_upto h i (j - i) (by omega)
  rwa [show i + (j - i) = j by omega] at this

theorem good_iff {o : List (List Int)} {rs : List Rec} (ho : nameOk o = true) : (∀ i, i < rs.length → goodI o rs i = true) ↔ ∀ i, i < rs.length → GoodS o rs i := by
  constructor
  · intro h
    have hok : ∀ i, i < rs.length → rrOk (rs.getD i recZ) = true := fun i hi => (goodI_parts (h i hi)).1
    have hf : ∀ i, 0 < i → i < rs.length → cmpR (rs.getD (i - 1) recZ) (rs.getD i recZ) < 0 ∧ (((rs.getD (i - 1) recZ).type = 5 ∨ (rs.getD i recZ).type = 5) → cmpN (rs.getD (i - 1) recZ).name (rs.getD i recZ).name ≠ 0) := by
      intro i h0 hi
      have hq := (goodI_parts (h i hi)).2.2.2 h0
      unfold follows at hq
      simp only [Bool.and_eq_true, Bool.or_eq_true, decide_eq_true_eq] at hq
      have h1 := hq.1
      unfold rrCmp at h1
      rw [if_pos ⟨hok _ (by omega), hok _ hi⟩] at h1
      refine ⟨h1, fun e => ?_⟩
      have h2 := hq.2.resolve_left (by omega)
      unfold nameCmp at h2
      rwa [if_pos ⟨rrOk_name (hok _ (by omega)), rrOk_name (hok _ hi)⟩] at h2
    have hs : ∀ i, 0 < i → i < rs.length → cmpN (rs.getD (i - 1) recZ).name (rs.getD i recZ).name ≤ 0 := fun i h0 hi => cmpR_name (hf i h0 hi).1
    intro i hi
    obtain ⟨p1, p2, p3, p4⟩ := goodI_parts (h i hi)
    refine ⟨p1, ?_, fun h0 => (hf i h0 hi).1, ?_, fun e => ?_⟩
    · unfold Go.Proofs.Ytaconefooicplaa.under at p2
      simp only [Bool.and_eq_true] at p2
      exact p2.2.2
    · intro e5 k hk hne e0
      rcases Nat.lt_or_gt_of_ne hne with hlt | hgt
      · have := cmpN_between (sorted_le hs (show k ≤ i - 1 by omega) (by omega)) (hs i (by omega) hi) e0
        exact (hf i (by omega) hi).2 (.inr e5) this.2
      · have e0' : cmpN (rs.getD i recZ).name (rs.getD k recZ).name = 0 := by
          have := cmpN_swap (rs.getD i recZ).name (rs.getD k recZ).name
          omega
        have hs1 := hs (i + 1) (by omega) (by omega)
        have hf1 := hf (i + 1) (by omega) (by omega)
        rw [show i + 1 - 1 = i by omega] at hs1 hf1
        have := cmpN_between hs1 (sorted_le hs (show i + 1 ≤ k by omega) hk) e0'
        exact hf1.2 (.inl e5) this.1
    · have := p3 e
      unfold nameCmp at this
      rwa [if_pos ⟨rrOk_name p1, ho⟩] at this
  · intro h i hi
    have g := h i hi
    unfold goodI inZone Go.Proofs.Ytaconefooicplaa.under
    rw [g.ok, rrOk_name g.ok, ho, g.under]
    simp only [Bool.true_and, Bool.and_eq_true, Bool.or_eq_true, decide_eq_true_eq]
    refine ⟨?_, ?_⟩
    · by_cases e : (rs.getD i recZ).type = 6
      · right
        unfold nameCmp
        rw [if_pos ⟨rrOk_name g.ok, ho⟩]
        exact g.soa e
      · exact .inl e
    · by_cases e : i = 0
      · exact .inl e
      · right
        have g' := h (i - 1) (by omega)
        unfold follows rrCmp nameCmp
        rw [if_pos ⟨g'.ok, g.ok⟩, if_pos ⟨rrOk_name g'.ok, rrOk_name g.ok⟩]
        simp only [Bool.and_eq_true, Bool.or_eq_true, decide_eq_true_eq]
        refine ⟨g.next (by omega), ?_⟩
        by_cases e1 : (rs.getD (i - 1) recZ).type = 5
        · right
          have := g'.alone e1 i hi (by omega)
          have hs := cmpN_swap (rs.getD (i - 1) recZ).name (rs.getD i recZ).name
          omega
        · by_cases e2 : (rs.getD i recZ).type = 5
          · exact .inr (g.alone e2 (i - 1) (by omega) (by omega))
          · exact .inl ⟨e1, e2⟩
theorem zoneOk_badS {o : List (List Int)} {rs : List Rec} {i : Nat} (ho : nameOk o = true) (hi : i < rs.length) (h : ¬ GoodS o rs i) : zoneOk o rs = false := decide_eq_false fun h' => h ((good_iff ho).1 h'.2.2.1 i hi)
theorem zoneOk_endS {o : List (List Int)} {rs : List Rec} (h1 : nameOk o = true) (h2 : rs.length ≤ 60) (h : ∀ i, i < rs.length → GoodS o rs i) : zoneOk o rs = decide (soas rs rs.length = 1) := zoneOk_end h1 h2 ((good_iff h1).2 h)
end Go.Proofs.Ytaconefooicplaa

namespace Go.Proofs.Ytaconefooicplaa
open Go.RowKit
set_option linter.unusedVariables false

theorem sign_cases (c : Int) : (97 ≤ c ∧ c ≤ 122) ∨ (97 ≤ c ∧ 122 < c) ∨ (c < 97 ∧ 48 ≤ c ∧ c ≤ 57) ∨ (c < 97 ∧ 48 ≤ c ∧ 57 < c ∧ c ≠ 45) ∨ (c < 97 ∧ c < 48 ∧ c = 45) ∨ (c < 97 ∧ c < 48 ∧ c ≠ 45) := by omega

set_option maxHeartbeats 400000 in
set_option maxRecDepth 100000 in
theorem labelSign_any (c : Int) (w : World) :
    Calls Try.prog 53 #[.int .u8 c] w fun e w' => e = .returned (.bool (signOk c)) ∧ w = w' := by
  rcases sign_cases c with ⟨h1, h2⟩ | ⟨h1, h2⟩ | ⟨h1, h2, h3⟩ | ⟨h1, h2, h3, h4⟩ | ⟨h1, h2, rfl⟩ | ⟨h1, h2, h3⟩
  · have hs : signOk c = true := decide_eq_true (by omega)
    rw [hs]
    go_enter Try.func53, Try.ntmps53
    go_wp2
    go_ret
    exact ⟨rfl, rfl⟩
  · have hs : signOk c = false := decide_eq_false (by omega)
    rw [hs]
    have h5 : 48 ≤ c := by omega
    have h6 : ¬ c ≤ 57 := by omega
    have h7 : ¬ c ≤ 122 := by omega
    have h8 : (c == 45) = false := by simp; omega
    go_enter Try.func53, Try.ntmps53
    go_wp2
    go_ret
    exact ⟨rfl, rfl⟩
  · have hs : signOk c = true := decide_eq_true (by omega)
    rw [hs]
    have h5 : ¬ 97 ≤ c := by omega
    go_enter Try.func53, Try.ntmps53
    go_wp2
    go_ret
    exact ⟨rfl, rfl⟩
  · have hs : signOk c = false := decide_eq_false (by omega)
    rw [hs]
    have h5 : ¬ 97 ≤ c := by omega
    have h6 : ¬ c ≤ 57 := by omega
    have h8 : (c == 45) = false := by simp; omega
    go_enter Try.func53, Try.ntmps53
    go_wp2
    go_ret
    exact ⟨rfl, rfl⟩
  · have hs : signOk 45 = true := rfl
    rw [hs]
    go_enter Try.func53, Try.ntmps53
    go_wp2
    go_ret
    exact ⟨rfl, rfl⟩
  · have hs : signOk c = false := decide_eq_false (by omega)
    rw [hs]
    have h5 : ¬ 97 ≤ c := by omega
    have h6 : ¬ 48 ≤ c := by omega
    have h8 : (c == 45) = false := by simp; omega
    go_enter Try.func53, Try.ntmps53
    go_wp2
    go_ret
    exact ⟨rfl, rfl⟩

set_option maxHeartbeats 400000 in
set_option maxRecDepth 100000 in
theorem implLabelOk_has {v : Value} {l : List Int} {w : World} (h : Has w v l) :
    Calls Try.prog 22 #[v] w fun e w' => e = .returned (.bool (labelOk l)) ∧ w = w' := by
  have hbd := h.bound
  unfold maxLen at hbd
  obtain ⟨a, cap, rfl, hL⟩ := h.form
  by_cases h0 : l.length = 0
  · rw [labelOk_short (by omega), h0]
    go_enter Try.func22, Try.ntmps22
    go_wp2
    go_ret
    exact ⟨rfl, rfl⟩
  · by_cases h1 : 15 < l.length
    · rw [labelOk_short (by omega)]
      generalize hn : l.length = n at *
      have h3 : ((n : Int) == 0) = false := by simp; omega
      go_enter Try.func22, Try.ntmps22
      go_wp2
      go_ret
      exact ⟨rfl, rfl⟩
    · have h2 : l.length ≤ 15 := by omega
      have hyes := hide (fun (hs : ∀ j, j < l.length → signOk (l.getD j 0) = true) => labelOk_yes (l := l) (by omega) h2 hs)
      have hno := hide (fun (j : Nat) (hj : j < l.length) (hs : signOk (l.getD j 0) = false) => labelOk_sign hj hs)
      generalize hok : labelOk l = ok at *
      clear hok
      generalize hn : l.length = n at *
      have HN := hide hn
      clear hn
      have h3 : ((n : Int) == 0) = false := by simp; omega
      go_enter Try.func22, Try.ntmps22
      go_wp2
      go_loop [15] (fun i => ∃ k : Nat, k ≤ n ∧ i = .int .i64 k ∧ Hid (∀ j, j < k → signOk (l.getD j 0) = true)) (fun i => n - (intOf i).toNat)
      case atStart => exact ⟨0, Nat.zero_le _, rfl, hide (fun j hj => absurd hj (Nat.not_lt_zero _))⟩
      case round =>
        obtain ⟨k, hk, rfl, hall⟩ := hrel
        by_cases hlt : k < n
        · obtain ⟨b, off, rfl, hbl, hc⟩ := hL.here (k := k) (by rw [unhide HN]; exact hlt)
          have hone := hide (fun (hs : signOk (l.getD k 0) = true) => (show ∀ j, j < k + 1 → signOk (l.getD j 0) = true from fun j hj => by
            by_cases e : j = k
            · subst e; exact hs
            · exact unhide hall j (by omega)))
          have hnok := hide (fun (hs : signOk (l.getD k 0) = false) => unhide hno k hlt hs)
          generalize hx : l.getD k 0 = x at *
          go_wp2_with fail
          refine (labelSign_any x _).mono ?_
          rintro e w1 ⟨rfl, rfl⟩
          cases hs : signOk x with
          | true =>
            go_wp2
            exact ⟨⟨k + 1, by omega, by go_num, hide (unhide hone hs)⟩, by simp [intOf]; omega⟩
          | false =>
            have hq := unhide hnok hs
            subst hq
            go_wp2
            go_ret
            exact ⟨rfl, rfl⟩
        · obtain rfl : k = n := by omega
          have hq := unhide hyes (unhide hall)
          subst hq
          go_wp2
          go_ret
          exact ⟨rfl, rfl⟩
end Go.Proofs.Ytaconefooicplaa
