/-
  Plain facts: which records may be a zone's, said by neighbours and said by all. No program is named here. Contracts of the program's mayBeIn and mayFollow.
-/
import Derived.Test.YtdghbcjlahjjdaaHasNameG22
import Derived.Test.YtdghbcjlahjjdaaHasNameG05
import Derived.Test.YtdghbcjlahjjdaaHasNameG30
import Derived.Test.YtdghbcjlahjjdaaHasNameG32
import Derived.Test.YtdghbcjlahjjdaaHasNameG10
import Derived.Test.YtdghbcjlahjjdaaHasNameG25
import Derived.Test.YtdghbcjlahjjdaaHasNameG27
import Derived.Test.YtdghbcjlahjjdaaHasNameG31
import Derived.Test.YtdghbcjlahjjdaaHasNameG26
namespace Go.Proofs.Ytdghbcjlahjjdaa
open Go.RowKit


/-- May this one be under o. -/
def inZone (o : List (List Int)) (r : Rec) : Bool := rrOk r && (under r.name o && (decide (r.type ≠ 6) || decide (nameCmp r.name o = 0)))
/-- May b come next to a. -/
def follows (a b : Rec) : Bool := decide (rrCmp a b < 0) && ((decide (a.type ≠ 5) && decide (b.type ≠ 5)) || decide (nameCmp a.name b.name ≠ 0))
def goodI (o : List (List Int)) (rs : List Rec) (i : Nat) : Bool := inZone o (rs.getD i recZ) && (decide (i = 0) || follows (rs.getD (i - 1) recZ) (rs.getD i recZ))
/-- How many of the first k are SOA. -/
def soas (rs : List Rec) : Nat → Nat
  | 0 => 0
  | k + 1 => soas rs k + if (rs.getD k recZ).type = 6 then 1 else 0
def zoneOk (o : List (List Int)) (rs : List Rec) : Bool := decide (nameOk o = true ∧ rs.length ≤ 60 ∧ (∀ i, i < rs.length → goodI o rs i = true) ∧ soas rs rs.length = 1)

theorem soas_le (rs : List Rec) : ∀ k, soas rs k ≤ k
  | 0 => Nat.le_refl _
  | k + 1 => by
    have := soas_le rs k
    unfold soas
    split <;> omega
theorem zoneOk_name {o : List (List Int)} {rs : List Rec} (h : nameOk o = false) : zoneOk o rs = false := decide_eq_false fun h' => by simp [h] at h'
theorem zoneOk_long {o : List (List Int)} {rs : List Rec} (h : 60 < rs.length) : zoneOk o rs = false := decide_eq_false fun h' => by omega
theorem zoneOk_bad {o : List (List Int)} {rs : List Rec} {i : Nat} (hi : i < rs.length) (h : goodI o rs i = false) : zoneOk o rs = false := decide_eq_false fun h' => by
  have := h'.2.2.1 i hi
  rw [h] at this
  cases this
theorem zoneOk_end {o : List (List Int)} {rs : List Rec} (h1 : nameOk o = true) (h2 : rs.length ≤ 60) (h : ∀ i, i < rs.length → goodI o rs i = true) : zoneOk o rs = decide (soas rs rs.length = 1) := by
  unfold zoneOk
  rw [Bool.eq_iff_iff, decide_eq_true_iff, decide_eq_true_iff]
  exact ⟨fun h' => h'.2.2.2, fun h' => ⟨h1, h2, h, h'⟩⟩

/-- No other one has its name, if it is an alias. -/
def alone (rs : List Rec) (i : Nat) : Prop := (rs.getD i recZ).type = 5 → ∀ k, k < rs.length → k ≠ i → cmpN (rs.getD k recZ).name (rs.getD i recZ).name ≠ 0
structure GoodS (o : List (List Int)) (rs : List Rec) (i : Nat) : Prop where
  ok : rrOk (rs.getD i recZ) = true
  under : endsWith (rs.getD i recZ).name o = true
  next : 0 < i → cmpR (rs.getD (i - 1) recZ) (rs.getD i recZ) < 0
  alone : alone rs i
  soa : (rs.getD i recZ).type = 6 → cmpN (rs.getD i recZ).name o = 0

theorem rrOk_name {r : Rec} (h : rrOk r = true) : nameOk r.name = true := by
  unfold rrOk at h
  simp only [Bool.and_eq_true] at h
  exact h.1
theorem cmpR_name {a b : Rec} (h : cmpR a b < 0) : cmpN a.name b.name ≤ 0 := by
  unfold cmpR at h
  split at h <;> omega
theorem goodI_parts {o : List (List Int)} {rs : List Rec} {i : Nat} (h : goodI o rs i = true) :
    rrOk (rs.getD i recZ) = true ∧ under (rs.getD i recZ).name o = true ∧ ((rs.getD i recZ).type = 6 → nameCmp (rs.getD i recZ).name o = 0) ∧ (0 < i → follows (rs.getD (i - 1) recZ) (rs.getD i recZ) = true) := by
  unfold goodI inZone at h
  simp only [Bool.and_eq_true, Bool.or_eq_true, decide_eq_true_eq] at h
  exact ⟨h.1.1, h.1.2.1, fun e => h.1.2.2.resolve_left (fun q => q e), fun e => h.2.resolve_left (by omega)⟩

theorem sorted_upto {rs : List Rec} (h : ∀ i, 0 < i → i < rs.length → cmpN (rs.getD (i - 1) recZ).name (rs.getD i recZ).name ≤ 0) (i : Nat) : ∀ d, i + d < rs.length → cmpN (rs.getD i recZ).name (rs.getD (i + d) recZ).name ≤ 0
  | 0, _ => by rw [Nat.add_zero, cmpN_self]; omega
  | d + 1, hd => cmpN_trans (sorted_upto h i d (by omega)) (by have := h (i + (d + 1)) (by omega) hd; rwa [show i + (d + 1) - 1 = i + d by omega] at this)
theorem sorted_le {rs : List Rec} (h : ∀ i, 0 < i → i < rs.length → cmpN (rs.getD (i - 1) recZ).name (rs.getD i recZ).name ≤ 0) {i j : Nat} (hij : i ≤ j) (hj : j < rs.length) : cmpN (rs.getD i recZ).name (rs.getD j recZ).name ≤ 0 := by
  have := sorted_upto h i (j - i) (by omega)
  rwa [show i + (j - i) = j by omega] at this

theorem good_iff {o : List (List Int)} {rs : List Rec} (ho : nameOk o = true) : (∀ i, i < rs.length → goodI o rs i = true) ↔ ∀ i, i < rs.length → GoodS o rs i := by
  constructor
  · intro h
    have hok : ∀ i, i < rs.length → rrOk (rs.getD i recZ) = true := fun i hi => (goodI_parts (h i hi)).1
    have hf : ∀ i, 0 < i → i < rs.length → cmpR (rs.getD (i - 1) recZ) (rs.getD i recZ) < 0 ∧ (((rs.getD (i - 1) recZ).type = 5 ∨ (rs.getD i recZ).type = 5) → cmpN (rs.getD (i - 1) recZ).name (rs.getD i recZ).name ≠ 0) := by
      intro i h0 hi
      have hq := (goodI_parts (h i hi)).2.2.2 h0
      unfold follows at hq
      simp only [Bool.and_eq_true, Bool.or_eq_true, decide_eq_true_eq] at hq
      have h1 := hq.1
      unfold rrCmp at h1
      rw [if_pos ⟨hok _ (by omega), hok _ hi⟩] at h1
      refine ⟨h1, fun e => ?_⟩
      have h2 := hq.2.resolve_left (by omega)
      unfold nameCmp at h2
      rwa [if_pos ⟨rrOk_name (hok _ (by omega)), rrOk_name (hok _ hi)⟩] at h2
    have hs : ∀ i, 0 < i → i < rs.length → cmpN (rs.getD (i - 1) recZ).name (rs.getD i recZ).name ≤ 0 := fun i h0 hi => cmpR_name (hf i h0 hi).1
    intro i hi
    obtain ⟨p1, p2, p3, p4⟩ := goodI_parts (h i hi)
    refine ⟨p1, ?_, fun h0 => (hf i h0 hi).1, ?_, fun e => ?_⟩
    · unfold Go.Proofs.Ytdghbcjlahjjdaa.under at p2
      simp only [Bool.and_eq_true] at p2
      exact p2.2.2
    · intro e5 k hk hne e0
      rcases Nat.lt_or_gt_of_ne hne with hlt | hgt
      · have := cmpN_between (sorted_le hs (show k ≤ i - 1 by omega) (by omega)) (hs i (by omega) hi) e0
        exact (hf i (by omega) hi).2 (.inr e5) this.2
      · have e0' : cmpN (rs.getD i recZ).name (rs.getD k recZ).name = 0 := by
          have := cmpN_swap (rs.getD i recZ).name (rs.getD k recZ).name
          omega
        have hs1 := hs (i + 1) (by omega) (by omega)
        have hf1 := hf (i + 1) (by omega) (by omega)
        rw [show i + 1 - 1 = i by omega] at hs1 hf1
        have := cmpN_between hs1 (sorted_le hs (show i + 1 ≤ k by omega) hk) e0'
        exact hf1.2 (.inl e5) this.1
    · have := p3 e
      unfold nameCmp at this
      rwa [if_pos ⟨rrOk_name p1, ho⟩] at this
  · intro h i hi
    have g := h i hi
    unfold goodI inZone Go.Proofs.Ytdghbcjlahjjdaa.under
    rw [g.ok, rrOk_name g.ok, ho, g.under]
    simp only [Bool.true_and, Bool.and_eq_true, Bool.or_eq_true, decide_eq_true_eq]
    refine ⟨?_, ?_⟩
    · by_cases e : (rs.getD i recZ).type = 6
      · right
        unfold nameCmp
        rw [if_pos ⟨rrOk_name g.ok, ho⟩]
        exact g.soa e
      · exact .inl e
    · by_cases e : i = 0
      · exact .inl e
      · right
        have g' := h (i - 1) (by omega)
        unfold follows rrCmp nameCmp
        rw [if_pos ⟨g'.ok, g.ok⟩, if_pos ⟨rrOk_name g'.ok, rrOk_name g.ok⟩]
        simp only [Bool.and_eq_true, Bool.or_eq_true, decide_eq_true_eq]
        refine ⟨g.next (by omega), ?_⟩
        by_cases e1 : (rs.getD (i - 1) recZ).type = 5
        · right
          have := g'.alone e1 i hi (by omega)
          have hs := cmpN_swap (rs.getD (i - 1) recZ).name (rs.getD i recZ).name
          omega
        · by_cases e2 : (rs.getD i recZ).type = 5
          · exact .inr (g.alone e2 (i - 1) (by omega) (by omega))
          · exact .inl ⟨e1, e2⟩
theorem zoneOk_badS {o : List (List Int)} {rs : List Rec} {i : Nat} (ho : nameOk o = true) (hi : i < rs.length) (h : ¬ GoodS o rs i) : zoneOk o rs = false := decide_eq_false fun h' => h ((good_iff ho).1 h'.2.2.1 i hi)
theorem zoneOk_endS {o : List (List Int)} {rs : List Rec} (h1 : nameOk o = true) (h2 : rs.length ≤ 60) (h : ∀ i, i < rs.length → GoodS o rs i) : zoneOk o rs = decide (soas rs rs.length = 1) := zoneOk_end h1 h2 ((good_iff h1).2 h)
end Go.Proofs.Ytdghbcjlahjjdaa

namespace Go.Proofs.Ytdghbcjlahjjdaa
open Go.RowKit
set_option linter.unusedVariables false

set_option maxHeartbeats 1000000 in
set_option maxRecDepth 100000 in
theorem mayBeIn_has {vo vn vt vx vi : Value} {o : List (List Int)} {r : Rec} {w : World} (ho : HasL w vo o) (h : HasR w vn vt vx vi r) :
    Calls Try.prog 79 #[.agg #[vo], .agg #[vn, .int .i64 r.type, .int .i64 r.ttl, .int .i64 r.addr, vt, vx, vi]] w fun e w' => e = .returned (.bool (inZone o r)) ∧ Below w.heap.size w w' := by
  obtain ⟨oa, oc, rfl, _⟩ := ho.form
  obtain ⟨na, nc, rfl, _⟩ := h.name.form
  obtain ⟨ta, tc, rfl, _⟩ := h.to.form
  obtain ⟨xa, xc, rfl, _⟩ := h.text.form
  obtain ⟨ia, ic, rfl, _⟩ := h.nums.form
  have b0 := below2 w (.cells #[.slice oa o.length oc] 25) (.cells #[.slice na r.name.length nc, .int .i64 r.type, .int .i64 r.ttl, .int .i64 r.addr, .slice ta r.to.length tc, .slice xa r.text.length xc, .slice ia r.nums.length ic] 28)
  obtain ⟨hsz, k0, x0⟩ := box2 w (.cells #[.slice oa o.length oc] 25) #[.slice na r.name.length nc, .int .i64 r.type, .int .i64 r.ttl, .int .i64 r.addr, .slice ta r.to.length tc, .slice xa r.text.length xc, .slice ia r.nums.length ic] 28
  have H0 := hide (h.below b0)
  have O0 := hide (ho.below b0)
  have K0 := hide k0
  have X0 := hide x0
  have HR := implRrOk_has (h.below b0)
  have UN := fun (w : World) (h1 : HasL w (.slice na r.name.length nc) r.name) (h2 : HasL w (.slice oa o.length oc) o) => implUnder_has h1 h2
  have NC := fun (w : World) (h1 : HasL w (.slice na r.name.length nc) r.name) (h2 : HasL w (.slice oa o.length oc) o) => implNameCmp_has h1 h2
  unfold inZone
  generalize rrOk r = ok at *
  generalize under r.name o = und at *
  generalize nameCmp r.name o = c at *
  replace HR := hide HR
  replace UN := hide UN
  replace NC := hide NC
  clear h ho k0 x0 hsz
  cases ok with
  | false =>
    rw [Bool.false_and]
    go_enter Try.func79, Try.ntmps79
    go_wp2_with fail
    refine (unhide HR).mono ?_
    rintro e w1 ⟨rfl, b1⟩
    go_wp2_with fail
    go_ret
    exact ⟨rfl, below_next b0 b1⟩
  | true =>
    rw [Bool.true_and]
    generalize hRes : (und && (decide (r.type ≠ 6) || decide (c = 0))) = Res
    have HRES := hide hRes
    clear hRes
    go_enter Try.func79, Try.ntmps79
    go_wp2_with fail
    generalize (w.alloc (.cells #[.slice oa o.length oc] 25)).alloc (.cells #[.slice na r.name.length nc, .int .i64 r.type, .int .i64 r.ttl, .int .i64 r.addr, .slice ta r.to.length tc, .slice xa r.text.length xc, .slice ia r.nums.length ic] 28) = W at *
    refine (unhide HR).mono ?_
    rintro e w1 ⟨rfl, b1⟩
    have O1 := hide ((unhide O0).below b1)
    have H1 := hide ((unhide H0).below b1)
    have K1 := hide (block_kept b1 (unhide K0))
    have X1 := hide (block_kept b1 (unhide X0))
    have bb1 := below_next b0 b1
    obtain ⟨d0, d1, d2, d3, d4, d5, d6⟩ := cells7 (unhide X1)
    have c0 := block_one (unhide K1)
    clear HR O0 H0 K0 X0 b0 b1
    go_wp2_with fail
    clear d0 d1 d2 d3 d4 d5 d6 c0
    refine (unhide UN _ (unhide H1).name (unhide O1)).mono ?_
    rintro e w2 ⟨rfl, b2⟩
    have bb2 := below_next bb1 b2
    cases und with
    | false =>
      have hRes := unhide HRES
      rw [Bool.false_and] at hRes
      subst hRes
      clear HRES
      go_wp2_with fail
      go_ret
      exact ⟨rfl, bb2⟩
    | true =>
      have hRes := unhide HRES
      rw [Bool.true_and] at hRes
      have K2 := hide (block_kept b2 (unhide K1))
      have X2 := hide (block_kept b2 (unhide X1))
      have O2 := hide ((unhide O1).below b2)
      have H2 := hide ((unhide H1).below b2)
      obtain ⟨d0, d1, d2, d3, d4, d5, d6⟩ := cells7 (unhide X2)
      have c0 := block_one (unhide K2)
      clear HRES O1 H1 K1 X1 bb1 b2
      by_cases h6 : r.type = 6
      · rw [decide_eq_false (by omega), Bool.false_or] at hRes
        have e6 : (r.type != 6) = false := by rw [h6]; rfl
        have HRES := hide hRes
        clear hRes h6
        go_wp2_with fail
        clear d0 d1 d2 d3 d4 d5 d6 c0
        refine (unhide NC _ (unhide H2).name (unhide O2)).mono ?_
        rintro e w3 ⟨rfl, b3⟩
        have hRes := unhide HRES
        have ec : (c == 0) = Res := by rw [← hRes, Bool.eq_iff_iff, beq_iff_eq, decide_eq_true_iff]
        clear hRes HRES
        go_wp2_with fail
        go_ret
        exact ⟨rfl, below_next bb2 b3⟩
      · rw [decide_eq_true (show r.type ≠ 6 from h6), Bool.true_or] at hRes
        subst hRes
        have e6 : (r.type != 6) = true := by rw [bne_iff_ne]; exact h6
        clear h6
        go_wp2_with fail
        go_ret
        exact ⟨rfl, bb2⟩

set_option maxHeartbeats 1000000 in
set_option maxRecDepth 100000 in
theorem mayFollow_has {vn vt vx vi un ut ux ui : Value} {a b : Rec} {w : World} (h : HasR w vn vt vx vi a) (h' : HasR w un ut ux ui b) :
    Calls Try.prog 80 #[.agg #[vn, .int .i64 a.type, .int .i64 a.ttl, .int .i64 a.addr, vt, vx, vi], .agg #[un, .int .i64 b.type, .int .i64 b.ttl, .int .i64 b.addr, ut, ux, ui]] w fun e w' => e = .returned (.bool (follows a b)) ∧ Below w.heap.size w w' := by
  obtain ⟨na, nc, rfl, _⟩ := h.name.form
  obtain ⟨ta, tc, rfl, _⟩ := h.to.form
  obtain ⟨xa, xc, rfl, _⟩ := h.text.form
  obtain ⟨ia, ic, rfl, _⟩ := h.nums.form
  obtain ⟨na', nc', rfl, _⟩ := h'.name.form
  obtain ⟨ta', tc', rfl, _⟩ := h'.to.form
  obtain ⟨xa', xc', rfl, _⟩ := h'.text.form
  obtain ⟨ia', ic', rfl, _⟩ := h'.nums.form
  have b0 := below2 w (.cells #[.slice na a.name.length nc, .int .i64 a.type, .int .i64 a.ttl, .int .i64 a.addr, .slice ta a.to.length tc, .slice xa a.text.length xc, .slice ia a.nums.length ic] 28) (.cells #[.slice na' b.name.length nc', .int .i64 b.type, .int .i64 b.ttl, .int .i64 b.addr, .slice ta' b.to.length tc', .slice xa' b.text.length xc', .slice ia' b.nums.length ic'] 28)
  obtain ⟨hsz, k0, x0⟩ := box2 w (.cells #[.slice na a.name.length nc, .int .i64 a.type, .int .i64 a.ttl, .int .i64 a.addr, .slice ta a.to.length tc, .slice xa a.text.length xc, .slice ia a.nums.length ic] 28) #[.slice na' b.name.length nc', .int .i64 b.type, .int .i64 b.ttl, .int .i64 b.addr, .slice ta' b.to.length tc', .slice xa' b.text.length xc', .slice ia' b.nums.length ic'] 28
  have H0 := hide (h.below b0)
  have J0 := hide (h'.below b0)
  have K0 := hide k0
  have X0 := hide x0
  have CM := implRrCmp_has (h.below b0) (h'.below b0)
  have NC := fun (w : World) (h1 : HasL w (.slice na a.name.length nc) a.name) (h2 : HasL w (.slice na' b.name.length nc') b.name) => implNameCmp_has h1 h2
  unfold follows
  generalize rrCmp a b = c at *
  generalize nameCmp a.name b.name = d at *
  replace CM := hide CM
  replace NC := hide NC
  clear h h' k0 x0 hsz
  generalize hRes : (decide (c < 0) && ((decide (a.type ≠ 5) && decide (b.type ≠ 5)) || decide (d ≠ 0))) = Res
  have HRES := hide hRes
  clear hRes
  go_enter Try.func80, Try.ntmps80
  go_wp2_with fail
  generalize (w.alloc (.cells #[.slice na a.name.length nc, .int .i64 a.type, .int .i64 a.ttl, .int .i64 a.addr, .slice ta a.to.length tc, .slice xa a.text.length xc, .slice ia a.nums.length ic] 28)).alloc (.cells #[.slice na' b.name.length nc', .int .i64 b.type, .int .i64 b.ttl, .int .i64 b.addr, .slice ta' b.to.length tc', .slice xa' b.text.length xc', .slice ia' b.nums.length ic'] 28) = W at *
  refine (unhide CM).mono ?_
  rintro e w1 ⟨rfl, b1⟩
  have H1 := hide ((unhide H0).below b1)
  have J1 := hide ((unhide J0).below b1)
  have K1 := hide (block_kept b1 (unhide K0))
  have X1 := hide (block_kept b1 (unhide X0))
  have bb1 := below_next b0 b1
  clear CM H0 J0 K0 X0 b0 b1
  by_cases hc : c < 0
  · have hRes := unhide HRES
    rw [decide_eq_true hc, Bool.true_and] at hRes
    have hc' : ¬ (0 ≤ c) := by omega
    obtain ⟨d0, d1, d2, d3, d4, d5, d6⟩ := cells7 (unhide K1)
    obtain ⟨f0, f1, f2, f3, f4, f5, f6⟩ := cells7 (unhide X1)
    clear HRES hc
    by_cases h5 : a.type ≠ 5 ∧ b.type ≠ 5
    · rw [decide_eq_true h5.1, decide_eq_true h5.2, Bool.true_and, Bool.true_or] at hRes
      subst hRes
      have e5 : (a.type != 5) = true := by rw [bne_iff_ne]; exact h5.1
      have e5' : (b.type != 5) = true := by rw [bne_iff_ne]; exact h5.2
      clear h5
      go_wp2_with fail
      go_ret
      exact ⟨rfl, bb1⟩
    · have hf : (decide (a.type ≠ 5) && decide (b.type ≠ 5)) = false := by
        rw [Bool.and_eq_false_iff, decide_eq_false_iff_not, decide_eq_false_iff_not]
        omega
      rw [hf, Bool.false_or] at hRes
      have ed : (d != 0) = Res := by rw [← hRes, Bool.eq_iff_iff, bne_iff_ne, decide_eq_true_iff]
      have HED := hide ed
      clear hRes hf ed
      by_cases h6 : a.type = 5
      · have e5 : (a.type != 5) = false := by rw [h6]; rfl
        clear h5 h6
        go_wp2_with fail
        clear d0 d1 d2 d3 d4 d5 d6 f0 f1 f2 f3 f4 f5 f6
        refine (unhide NC _ (unhide H1).name (unhide J1).name).mono ?_
        rintro e w2 ⟨rfl, b2⟩
        have ed := unhide HED
        clear HED
        go_wp2_with fail
        go_ret
        exact ⟨rfl, below_next bb1 b2⟩
      · have e5 : (a.type != 5) = true := by rw [bne_iff_ne]; exact h6
        have h7 : b.type = 5 := by omega
        have e5' : (b.type != 5) = false := by rw [h7]; rfl
        clear h5 h6 h7
        go_wp2_with fail
        clear d0 d1 d2 d3 d4 d5 d6 f0 f1 f2 f3 f4 f5 f6
        refine (unhide NC _ (unhide H1).name (unhide J1).name).mono ?_
        rintro e w2 ⟨rfl, b2⟩
        have ed := unhide HED
        clear HED
        go_wp2_with fail
        go_ret
        exact ⟨rfl, below_next bb1 b2⟩
  · have hRes := unhide HRES
    rw [decide_eq_false hc, Bool.false_and] at hRes
    subst hRes
    have hc' : 0 ≤ c := by omega
    clear HRES hc
    go_wp2_with fail
    go_ret
    exact ⟨rfl, bb1⟩
end Go.Proofs.Ytdghbcjlahjjdaa
