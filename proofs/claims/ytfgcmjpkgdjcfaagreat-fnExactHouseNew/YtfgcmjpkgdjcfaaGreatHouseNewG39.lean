/-
  Contract of the specification's l5alone. Contract of the specification's ZoneOk. Contract of the specification's ZoneNew.
-/
import Derived.Test.YtfgcmjpkgdjcfaaGreatHouseNewG20
import Derived.Test.YtfgcmjpkgdjcfaaGreatHouseNewG11
import Derived.Test.YtfgcmjpkgdjcfaaGreatHouseNewG38
import Derived.Deep.RegionHeld3
import Derived.Test.YtfgcmjpkgdjcfaaGreatHouseNewG17
import Derived.Test.YtfgcmjpkgdjcfaaGreatHouseNewG16
import Derived.Test.YtfgcmjpkgdjcfaaGreatHouseNewG36
import Derived.Test.YtfgcmjpkgdjcfaaGreatHouseNewG33
import Derived.Test.YtfgcmjpkgdjcfaaGreatHouseNewG27
namespace Go.Proofs.YtfgcmjpkgdjcfaaGreat
open Go.RowKit
set_option linter.unusedVariables false

/-- Has no other one of the first n its name, if it is an alias. -/
def aloneB (rs : List Rec) (i : Nat) : Bool := decide ((rs.getD i recZ).type ≠ 5) || decide (∀ k, k < rs.length → k ≠ i → cmpN (rs.getD k recZ).name (rs.getD i recZ).name ≠ 0)
theorem aloneB_iff (rs : List Rec) (i : Nat) : aloneB rs i = true ↔ alone rs i := by
 unfold aloneB alone
 rw [Bool.or_eq_true, decide_eq_true_iff, decide_eq_true_iff]
 constructor
 ·intro h e
  exact h.resolve_left (fun q => q e)
 ·intro h
  by_cases e : (rs.getD i recZ).type = 5
  ·exact .inr (h e)
  ·exact .inl e
theorem aloneB_free {rs : List Rec} {i : Nat} (h : (rs.getD i recZ).type ≠ 5) : aloneB rs i = true := by
 unfold aloneB
 rw [decide_eq_true h, Bool.true_or]
theorem aloneB_all {rs : List Rec} {i : Nat} (h : ∀ k, k < rs.length → k ≠ i → cmpN (rs.getD k recZ).name (rs.getD i recZ).name ≠ 0) : aloneB rs i = true := by
 unfold aloneB
 rw [decide_eq_true h, Bool.or_true]
theorem aloneB_not {rs : List Rec} {i k : Nat} (h5 : (rs.getD i recZ).type = 5) (hk : k < rs.length) (hne : k ≠ i) (h0 : cmpN (rs.getD k recZ).name (rs.getD i recZ).name = 0) : aloneB rs i = false := by
 cases h : aloneB rs i with
 | false => rfl
 | true => exact absurd h0 ((aloneB_iff rs i).1 h h5 k hk hne)

set_option maxHeartbeats 1000000 in
set_option maxRecDepth 100000 in
theorem l5alone_has {v : Value} {rs : List Rec} {i : Nat} {w : World} (h : HasRs w v rs) (hi : i < rs.length) (h60 : rs.length ≤ 60) (hs : ∀ k, k < rs.length → (rs.getD k recZ).name.length ≤ 1048576) :
  Calls Tryz.prog 57 #[v, .int .i64 i] w fun e w' => e = .returned (.bool (aloneB rs i)) ∧ Below w.heap.size w w' := by
 obtain ⟨a, cap, rfl, _⟩ := h.form
 obtain ⟨b, off, na, nc, ta, tc, xa, xc, ia, ic, rfl, hbl, hc, hu⟩ := h.here hi
 generalize hAL : aloneB rs i = AL
 have HAL := hide hAL
 clear hAL
 generalize hri : rs.getD i recZ = ri at *
 have HRI := hide hri
 clear hri
 have HS := hide hs
 clear hs
 have hii : (i : Int) < rs.length := by omega
 generalize hn : rs.length = m at *
 have HN := hide hn
 clear hn
 obtain ⟨c0, c1, c2, c3, c4, c5, c6⟩ := range7 hc
 have HC := hide hc
 have HU := hide hu
 clear hc hu
 by_cases h5 : ri.type = 5
 ·have e5 : (ri.type != 5) = false := by rw [h5]; rfl
  have H5 := hide h5
  clear h5
  go_enter Tryz.func57, Tryz.ntmps57
  go_wp2_with fail
  clear c0 c1 c2 c3 c4 c5 c6 e5
  go_loopw [5] (fun x wr => ∃ k : Nat, k ≤ m ∧ x = .int .i64 k ∧ Hid (∀ j, j < k → j ≠ i → cmpN (rs.getD j recZ).name ri.name ≠ 0) ∧ Below w.heap.size w wr) (fun x _ => m - (intOf x).toNat)
  case atStart => exact ⟨0, Nat.zero_le _, rfl, hide (fun j hj => absurd hj (Nat.not_lt_zero _)), Below.refl _ _⟩
  case round =>
   obtain ⟨k, hk, rfl, hall, hb⟩ := hrel
   by_cases hlt : k < m
   ·have bd := below_drew (w := wr)
    have hbd := below_next hb bd
    by_cases hki : k = i
    ·have e1 : ((k : Int) != i) = false := by rw [hki]; simp
     have hall' : ∀ j, j < k + 1 → j ≠ i → cmpN (rs.getD j recZ).name ri.name ≠ 0 := fun j hj hne => unhide hall j (by omega) hne
     have HALL := hide hall'
     clear hall' hki
     go_wp2_with fail
     refine wp_region_held_drew (S := (fun _ => True)) (by kernel_rfl) trivial (fun hHeld => ?_)
     show wpAnyH _ _ _ _ _ 17 #[false, false, false, false, false, false, false, false, false, false, false, false, false, false, false, false, false] _ _
     iterate 2 (refine tkF ?_ rfl (by kernel_rfl) (by kernel_rfl) (fun _ _ _ h => h) ?_ hHeld ?_; rotate_left; (· (intro w hSw; (try dsimp only at hSw); go_simp <;> with_reducible rfl)); simp only [Act.put, setF, List.setIfInBounds_toArray, List.set_cons_zero, List.set_cons_succ])
     refine tkF (.bool false) rfl (by kernel_rfl) (by kernel_rfl) (fun _ _ _ h => h) ?_ hHeld ?_; (· (intro w hSw; (try dsimp only at hSw); go_simp)); simp only [Act.put, setF, List.setIfInBounds_toArray, List.set_cons_zero, List.set_cons_succ]
     refine tkF (.bool false) rfl (by kernel_rfl) (by kernel_rfl) (fun _ _ _ h => h) ?_ hHeld ?_; (· (intro w hSw; (try dsimp only at hSw); go_simp)); simp only [Act.put, setF, List.setIfInBounds_toArray, List.set_cons_zero, List.set_cons_succ]
     iterate 12 (refine skF rfl (by kernel_rfl) (by kernel_rfl) (fun _ _ _ h => h) hHeld ?_; simp only [Act.put, setF, List.setIfInBounds_toArray, List.set_cons_zero, List.set_cons_succ])
     refine tkF ?_ rfl (by kernel_rfl) (by kernel_rfl) (fun _ _ _ h => h) ?_ hHeld ?_; rotate_left; (· (intro w hSw; (try dsimp only at hSw); go_simp <;> with_reducible rfl)); simp only [Act.put, setF, List.setIfInBounds_toArray, List.set_cons_zero, List.set_cons_succ]
     refine wpAnyH_done (by kernel_rfl) ?_ _
     clear hHeld
     go_wp2_with fail
     exact ⟨⟨k + 1, by omega, by go_num, HALL, hbd⟩, by simp [intOf]; omega⟩
    ·obtain ⟨b', off', na', nc', ta', tc', xa', xc', ia', ic', hbe, hbl', hc', hu'⟩ := (h.below hb).here (k := k) (by rw [unhide HN]; exact hlt)
     simp only [Option.some.injEq, Addr.mk.injEq, and_true] at hbe
     obtain ⟨rfl, rfl⟩ := hbe
     have hsk := unhide HS k hlt
     have hsi : ri.name.length ≤ 1048576 := by have := unhide HS i (by omega); rw [unhide HRI] at this; exact this
     have e1 : ((k : Int) != i) = true := by rw [bne_iff_ne]; omega
     have hkm : (k : Int) < m := by omega
     have hlim := hlt
     generalize hrk : rs.getD k recZ = rk at *
     have HRK := hide hrk
     clear hrk
     have CM := fun (w : World) (h1 : HasL w (.slice na' rk.name.length nc') rk.name) (h2 : HasL w (.slice na ri.name.length nc) ri.name) => l2cmp_has h1 h2 hsk hsi
     have HC4 := hide (range_below hc' hbl' bd)
     have HC5 := hide (range_below (range_below (unhide HC) hbl hb) (Nat.lt_of_lt_of_le hbl hb.size) bd)
     have hbl4 : b < wr.drew.heap.size := hbl'
     have U4 := hide (hu'.name.below bd)
     have U5 := hide ((unhide HU).name.below hbd)
     clear hc' hu' hsk hsi
     by_cases hz : cmpN rk.name ri.name = 0
     ·have hA := aloneB_not (rs := rs) (i := i) (k := k) (by rw [unhide HRI]; exact unhide H5) (by rw [unhide HN]; exact hlt) hki (by rw [unhide HRK, unhide HRI]; exact hz)
      rw [unhide HAL] at hA
      subst hA
      rw [hz] at CM
      replace CM := hide CM
      clear hz HAL hall hki
      go_wp2_with fail
      refine wp_region_held_drew (S := (fun w' => w'.cell? ⟨b, off + k * 7, none⟩ = some (.slice na' rk.name.length nc') ∧ w'.cell? ⟨b, off + i * 7, none⟩ = some (.slice na ri.name.length nc))) (by kernel_rfl) ⟨(range7 (unhide HC4)).1, (range7 (unhide HC5)).1⟩ (fun hHeld => ?_)
      show wpAnyH _ _ _ _ _ 17 #[false, false, false, false, false, false, false, false, false, false, false, false, false, false, false, false, false] _ _
      iterate 2 (refine tkF ?_ rfl (by kernel_rfl) (by kernel_rfl) (fun _ _ _ h => h) ?_ hHeld ?_; rotate_left; (· (intro w hSw; (try dsimp only at hSw); go_simp <;> with_reducible rfl)); simp only [Act.put, setF, List.setIfInBounds_toArray, List.set_cons_zero, List.set_cons_succ])
      refine tkF (.bool true) rfl (by kernel_rfl) (by kernel_rfl) (fun _ _ _ h => h) ?_ hHeld ?_; (· (intro w hSw; (try dsimp only at hSw); go_simp)); simp only [Act.put, setF, List.setIfInBounds_toArray, List.set_cons_zero, List.set_cons_succ]
      refine tkF (.bool true) rfl (by kernel_rfl) (by kernel_rfl) (fun _ _ _ h => h) ?_ hHeld ?_; (· (intro w hSw; (try dsimp only at hSw); go_simp)); simp only [Act.put, setF, List.setIfInBounds_toArray, List.set_cons_zero, List.set_cons_succ]
      iterate 2 (refine tkF ?_ rfl (by kernel_rfl) (by kernel_rfl) (fun _ _ _ h => h) ?_ hHeld ?_; rotate_left; (· (intro w hSw; (try dsimp only at hSw); go_simp <;> with_reducible rfl)); simp only [Act.put, setF, List.setIfInBounds_toArray, List.set_cons_zero, List.set_cons_succ])
      refine tkF (.pointer (some ⟨b, off + k * 7, none⟩)) rfl (by kernel_rfl) (by kernel_rfl) (fun _ _ _ h => h) ?_ hHeld ?_; (· (intro w hSw; (try dsimp only at hSw); go_simp)); simp only [Act.put, setF, List.setIfInBounds_toArray, List.set_cons_zero, List.set_cons_succ]
      iterate 4 (refine tkF ?_ rfl (by kernel_rfl) (by kernel_rfl) (fun _ _ _ h => h) ?_ hHeld ?_; rotate_left; (· (intro w hSw; (try dsimp only at hSw); go_simp <;> with_reducible rfl)); simp only [Act.put, setF, List.setIfInBounds_toArray, List.set_cons_zero, List.set_cons_succ])
      refine tkF (.pointer (some ⟨b, off + i * 7, none⟩)) rfl (by kernel_rfl) (by kernel_rfl) (fun _ _ _ h => h) ?_ hHeld ?_; (· (intro w hSw; (try dsimp only at hSw); go_simp)); simp only [Act.put, setF, List.setIfInBounds_toArray, List.set_cons_zero, List.set_cons_succ]
      iterate 2 (refine tkF ?_ rfl (by kernel_rfl) (by kernel_rfl) (fun _ _ _ h => h) ?_ hHeld ?_; rotate_left; (· (intro w hSw; (try dsimp only at hSw); go_simp <;> with_reducible rfl)); simp only [Act.put, setF, List.setIfInBounds_toArray, List.set_cons_zero, List.set_cons_succ])
      refine runI 14 rfl (by kernel_rfl) (by kernel_rfl) (fun K hK => ?_)
      have HK := hide hK
      clear hK hHeld
      go_simp
      refine (unhide CM _ (unhide U4) (unhide U5)).mono ?_
      rintro e w2 ⟨rfl, b2⟩
      go_simp
      refine (unhide HK).out _ _ ⟨(range7 (range_below (unhide HC4) hbl4 b2)).1, (range7 (range_below (unhide HC5) hbl4 b2)).1⟩ (fun hHeld => ?_)
      clear HK K
      try simp only [List.setIfInBounds_toArray, List.set_cons_zero, List.set_cons_succ]
      refine tkF (.bool true) rfl (by kernel_rfl) (by kernel_rfl) (fun _ _ _ h => h) ?_ hHeld ?_; (· (intro w hSw; (try dsimp only at hSw); go_simp)); simp only [Act.put, setF, List.setIfInBounds_toArray, List.set_cons_zero, List.set_cons_succ]
      refine tkF (.bool true) rfl (by kernel_rfl) (by kernel_rfl) (fun _ _ _ h => h) ?_ hHeld ?_; (· (intro w hSw; (try dsimp only at hSw); go_simp)); simp only [Act.put, setF, List.setIfInBounds_toArray, List.set_cons_zero, List.set_cons_succ]
      refine wpAnyH_done (by kernel_rfl) ?_ _
      clear hHeld
      go_wp2_with fail
      go_ret
      exact ⟨rfl, below_next hbd b2⟩
     ·have hall' : ∀ j, j < k + 1 → j ≠ i → cmpN (rs.getD j recZ).name ri.name ≠ 0 := fun j hj hne => by
       by_cases e : j = k
       ·subst e; rw [unhide HRK]; exact hz
       ·exact unhide hall j (by omega) hne
      have HALL := hide hall'
      have e2 : (cmpN rk.name ri.name == 0) = false := by rw [beq_eq_false_iff_ne]; exact hz
      generalize cmpN rk.name ri.name = c at *
      replace CM := hide CM
      clear hall' hz hki
      go_wp2_with fail
      refine wp_region_held_drew (S := (fun w' => w'.cell? ⟨b, off + k * 7, none⟩ = some (.slice na' rk.name.length nc') ∧ w'.cell? ⟨b, off + i * 7, none⟩ = some (.slice na ri.name.length nc))) (by kernel_rfl) ⟨(range7 (unhide HC4)).1, (range7 (unhide HC5)).1⟩ (fun hHeld => ?_)
      show wpAnyH _ _ _ _ _ 17 #[false, false, false, false, false, false, false, false, false, false, false, false, false, false, false, false, false] _ _
      iterate 2 (refine tkF ?_ rfl (by kernel_rfl) (by kernel_rfl) (fun _ _ _ h => h) ?_ hHeld ?_; rotate_left; (· (intro w hSw; (try dsimp only at hSw); go_simp <;> with_reducible rfl)); simp only [Act.put, setF, List.setIfInBounds_toArray, List.set_cons_zero, List.set_cons_succ])
      refine tkF (.bool true) rfl (by kernel_rfl) (by kernel_rfl) (fun _ _ _ h => h) ?_ hHeld ?_; (· (intro w hSw; (try dsimp only at hSw); go_simp)); simp only [Act.put, setF, List.setIfInBounds_toArray, List.set_cons_zero, List.set_cons_succ]
      refine tkF (.bool true) rfl (by kernel_rfl) (by kernel_rfl) (fun _ _ _ h => h) ?_ hHeld ?_; (· (intro w hSw; (try dsimp only at hSw); go_simp)); simp only [Act.put, setF, List.setIfInBounds_toArray, List.set_cons_zero, List.set_cons_succ]
      iterate 2 (refine tkF ?_ rfl (by kernel_rfl) (by kernel_rfl) (fun _ _ _ h => h) ?_ hHeld ?_; rotate_left; (· (intro w hSw; (try dsimp only at hSw); go_simp <;> with_reducible rfl)); simp only [Act.put, setF, List.setIfInBounds_toArray, List.set_cons_zero, List.set_cons_succ])
      refine tkF (.pointer (some ⟨b, off + k * 7, none⟩)) rfl (by kernel_rfl) (by kernel_rfl) (fun _ _ _ h => h) ?_ hHeld ?_; (· (intro w hSw; (try dsimp only at hSw); go_simp)); simp only [Act.put, setF, List.setIfInBounds_toArray, List.set_cons_zero, List.set_cons_succ]
      iterate 4 (refine tkF ?_ rfl (by kernel_rfl) (by kernel_rfl) (fun _ _ _ h => h) ?_ hHeld ?_; rotate_left; (· (intro w hSw; (try dsimp only at hSw); go_simp <;> with_reducible rfl)); simp only [Act.put, setF, List.setIfInBounds_toArray, List.set_cons_zero, List.set_cons_succ])
      refine tkF (.pointer (some ⟨b, off + i * 7, none⟩)) rfl (by kernel_rfl) (by kernel_rfl) (fun _ _ _ h => h) ?_ hHeld ?_; (· (intro w hSw; (try dsimp only at hSw); go_simp)); simp only [Act.put, setF, List.setIfInBounds_toArray, List.set_cons_zero, List.set_cons_succ]
      iterate 2 (refine tkF ?_ rfl (by kernel_rfl) (by kernel_rfl) (fun _ _ _ h => h) ?_ hHeld ?_; rotate_left; (· (intro w hSw; (try dsimp only at hSw); go_simp <;> with_reducible rfl)); simp only [Act.put, setF, List.setIfInBounds_toArray, List.set_cons_zero, List.set_cons_succ])
      refine runI 14 rfl (by kernel_rfl) (by kernel_rfl) (fun K hK => ?_)
      have HK := hide hK
      clear hK hHeld
      go_simp
      refine (unhide CM _ (unhide U4) (unhide U5)).mono ?_
      rintro e w2 ⟨rfl, b2⟩
      go_simp
      refine (unhide HK).out _ _ ⟨(range7 (range_below (unhide HC4) hbl4 b2)).1, (range7 (range_below (unhide HC5) hbl4 b2)).1⟩ (fun hHeld => ?_)
      clear HK K
      try simp only [List.setIfInBounds_toArray, List.set_cons_zero, List.set_cons_succ]
      refine tkF (.bool false) rfl (by kernel_rfl) (by kernel_rfl) (fun _ _ _ h => h) ?_ hHeld ?_; (· (intro w hSw; (try dsimp only at hSw); go_simp)); simp only [Act.put, setF, List.setIfInBounds_toArray, List.set_cons_zero, List.set_cons_succ]
      refine tkF (.bool false) rfl (by kernel_rfl) (by kernel_rfl) (fun _ _ _ h => h) ?_ hHeld ?_; (· (intro w hSw; (try dsimp only at hSw); go_simp)); simp only [Act.put, setF, List.setIfInBounds_toArray, List.set_cons_zero, List.set_cons_succ]
      refine wpAnyH_done (by kernel_rfl) ?_ _
      clear hHeld
      go_wp2_with fail
      exact ⟨⟨k + 1, by omega, by go_num, HALL, below_next hbd b2⟩, by simp [intOf]; omega⟩
   ·obtain rfl : k = m := by omega
    have hA := aloneB_all (rs := rs) (i := i) (fun j hj hne => by rw [unhide HRI]; exact unhide hall j (by rw [unhide HN] at hj; exact hj) hne)
    rw [unhide HAL] at hA
    subst hA
    go_wp2
    go_ret
    exact ⟨rfl, hb⟩
 ·have hA := aloneB_free (rs := rs) (i := i) (by rw [unhide HRI]; exact h5)
  rw [unhide HAL] at hA
  subst hA
  have e5 : (ri.type != 5) = true := by rw [bne_iff_ne]; exact h5
  clear h5
  go_enter Tryz.func57, Tryz.ntmps57
  go_wp2_with fail
  go_ret
  exact ⟨rfl, Below.refl _ _⟩
end Go.Proofs.YtfgcmjpkgdjcfaaGreat

namespace Go.Proofs.YtfgcmjpkgdjcfaaGreat
open Go.RowKit
set_option linter.unusedVariables false

theorem one_count2 (n : Nat) : (((n : Nat) : Int) == 1) = decide (n = 1) := by
 rw [Bool.eq_iff_iff, beq_iff_eq, decide_eq_true_iff]
 omega

set_option maxHeartbeats 4000000 in
set_option maxRecDepth 100000 in
theorem specZoneOk_has {vo vr : Value} {o : List (List Int)} {rs : List Rec} {w : World} (h : HasZ w vo vr o rs) (hs : ∀ k, k < rs.length → (rs.getD k recZ).name.length ≤ 1048576) :
  Calls Tryz.prog 23 #[.agg #[vo, vr]] w fun e w' => e = .returned (.bool (zoneOk o rs)) ∧ Below w.heap.size w w' := by
 obtain ⟨oa, oc, rfl, _⟩ := h.name.form
 obtain ⟨ra, rc, rfl, hrl, hrm⟩ := h.recs.form
 have b0 := below_alloc (w := w) (.cells #[.slice oa o.length oc, .slice ra rs.length rc] 33)
 have k0 := heap_alloc_new w (.cells #[.slice oa o.length oc, .slice ra rs.length rc] 33)
 have H0 := hide (h.below b0)
 have K0 := hide k0
 have NO := specNameOk_has (h.below b0).name
 have HSS := hide hs
 clear h k0 hrl hrm hs
 cases hok : nameOk o with
 | false =>
  rw [zoneOk_name hok]
  rw [hok] at NO
  replace NO := hide NO
  clear hok
  go_enter Tryz.func23, Tryz.ntmps23
  go_wp2_with fail
  refine (unhide NO).mono ?_
  rintro e w1 ⟨rfl, b1⟩
  go_wp2_with fail
  go_ret
  exact ⟨rfl, below_next b0 b1⟩
 | true =>
  rw [hok] at NO
  replace NO := hide NO
  by_cases h60 : rs.length ≤ 60
  ·generalize hzz : zoneOk o rs = ZZ
   have HZZ := hide hzz
   have HOK := hide hok
   clear hzz hok
   go_enter Tryz.func23, Tryz.ntmps23
   go_wp2_with fail
   generalize w.alloc (.cells #[.slice oa o.length oc, .slice ra rs.length rc] 33) = W at *
   refine (unhide NO).mono ?_
   rintro e w1 ⟨rfl, b1⟩
   have K1 := hide (block_kept b1 (unhide K0))
   have H1 := hide ((unhide H0).below b1)
   have bb1 := below_next b0 b1
   obtain ⟨d0, d1⟩ := cells2 (unhide K1)
   clear NO K0 H0 b0 b1
   generalize hn : rs.length = m at *
   have HN := hide hn
   clear hn
   have h60' : ¬ ((60 : Int) < m) := by omega
   go_wp2_with fail
   clear d0 d1
   go_loopw [3, 4] (fun s i wr => ∃ (k : Nat), k ≤ m ∧ i = .int .i64 k ∧ s = .int .i64 (soas rs k : Nat) ∧ Hid (∀ j, j < k → GoodS o rs j) ∧ Below w1.heap.size w1 wr) (fun _ i _ => m - (intOf i).toNat)
   case atStart => exact ⟨0, Nat.zero_le _, rfl, rfl, hide (fun j hj => absurd hj (Nat.not_lt_zero _)), Below.refl _ _⟩
   case round =>
    obtain ⟨k, hk, rfl, rfl, hall, hb⟩ := hrel
    have hsk := soas_le rs k
    by_cases hlt : k < m
    ·obtain ⟨b, off, na, nc, ta, tc, xa, xc, ia, ic, rfl, hbl, hc, hu⟩ := ((unhide H1).below hb).recs.here (k := k) (by rw [unhide HN]; exact hlt)
     have K2 := hide (block_kept hb (unhide K1))
     have H2 := hide ((unhide H1).below hb)
     have bb2 := below_next bb1 hb
     have hsoa : soas rs (k + 1) = soas rs k + if (rs.getD k recZ).type = 6 then 1 else 0 := rfl
     have HSOA := hide hsoa
     clear hsoa
     generalize hrk : rs.getD k recZ = rk at *
     have HRK := hide hrk
     clear hrk
     have b3 := below_alloc (w := wr) (.cells #[.slice na rk.name.length nc, .int .i64 rk.type, .int .i64 rk.ttl, .int .i64 rk.addr, .slice ta rk.to.length tc, .slice xa rk.text.length xc, .slice ia rk.nums.length ic] 59)
     have X3 := heap_alloc_new wr (.cells #[.slice na rk.name.length nc, .int .i64 rk.type, .int .i64 rk.ttl, .int .i64 rk.addr, .slice ta rk.to.length tc, .slice xa rk.text.length xc, .slice ia rk.nums.length ic] 59)
     have bd := below_drew (w := wr.alloc (.cells #[.slice na rk.name.length nc, .int .i64 rk.type, .int .i64 rk.ttl, .int .i64 rk.addr, .slice ta rk.to.length tc, .slice xa rk.text.length xc, .slice ia rk.nums.length ic] 59))
     have b4 := below_next b3 bd
     have X4 := hide (block_kept bd X3)
     have K4 := hide (block_kept b4 (unhide K2))
     have H4 := hide ((unhide H2).below b4)
     have U4 := hide (hu.below b4)
     have bb4 := below_next bb2 b4
     have bw4 := below_next hb b4
     have z4 := b4.size
     obtain ⟨c0, c1, c2, c3, c4, c5, c6⟩ := range7 hc
     obtain ⟨zc0, zc1⟩ := cells2 (unhide K2)
     clear b3 X3 bd b4 hu hc K2 H2 hb
     have RK := specRrOk_has (unhide U4)
     cases hok : rrOk rk with
     | false =>
      have hz := zoneOk_badS (unhide HOK) (show k < rs.length by rw [unhide HN]; exact hlt) (fun g => by have := g.ok; rw [unhide HRK, hok] at this; cases this)
      rw [unhide HZZ] at hz
      subst hz
      rw [hok] at RK
      replace RK := hide RK
      clear hok HZZ HSOA
      go_wp2_with fail
      clear c0 c1 c2 c3 c4 c5 c6 zc0 zc1
      refine wp_region_held_drew (S := (fun w' => (w'.cell? ⟨w.heap.size, 0, none⟩ = some (.slice oa o.length oc) ∧ w'.cell? ⟨w.heap.size, 1, none⟩ = some (.slice (some ⟨b, off, none⟩) m rc)) ∧ (w'.cell? ⟨wr.heap.size, 0, none⟩ = some (.slice na rk.name.length nc) ∧ w'.cell? ⟨wr.heap.size, 1, none⟩ = some (.int .i64 rk.type) ∧ w'.cell? ⟨wr.heap.size, 2, none⟩ = some (.int .i64 rk.ttl) ∧ w'.cell? ⟨wr.heap.size, 3, none⟩ = some (.int .i64 rk.addr) ∧ w'.cell? ⟨wr.heap.size, 4, none⟩ = some (.slice ta rk.to.length tc) ∧ w'.cell? ⟨wr.heap.size, 5, none⟩ = some (.slice xa rk.text.length xc) ∧ w'.cell? ⟨wr.heap.size, 6, none⟩ = some (.slice ia rk.nums.length ic)))) (by kernel_rfl) ⟨cells2 (unhide K4), cells7 (unhide X4)⟩ (fun hHeld => ?_)
      show wpAnyH _ _ _ _ _ 33 #[false, false, false, false, false, false, false, false, false, false, false, false, false, false, false, false, false, false, false, false, false, false, false, false, false, false, false, false, false, false, false, false, false] _ _
      refine tkF ?_ rfl (by kernel_rfl) (by kernel_rfl) (fun _ _ _ h => h) ?_ hHeld ?_; rotate_left; (· (intro w hSw; (try dsimp only at hSw); go_simp <;> with_reducible rfl)); simp only [Act.put, setF, List.setIfInBounds_toArray, List.set_cons_zero, List.set_cons_succ]
      refine runI 1 rfl (by kernel_rfl) (by kernel_rfl) (fun K hK => ?_)
      have HK := hide hK
      clear hK hHeld
      go_simp
      refine (unhide RK).mono ?_
      rintro e w5 ⟨rfl, q5⟩
      go_simp
      refine (unhide HK).out _ _ ⟨cells2 (block_kept q5 (unhide K4)), cells7 (block_kept q5 (unhide X4))⟩ (fun hHeld => ?_)
      clear HK K
      try simp only [List.setIfInBounds_toArray, List.set_cons_zero, List.set_cons_succ]
      iterate 2 (refine tkF ?_ rfl (by kernel_rfl) (by kernel_rfl) (fun _ _ _ h => h) ?_ hHeld ?_; rotate_left; (· (intro w hSw; (try dsimp only at hSw); go_simp <;> with_reducible rfl)); simp only [Act.put, setF, List.setIfInBounds_toArray, List.set_cons_zero, List.set_cons_succ])
      iterate 6 (refine skF rfl (by kernel_rfl) (by kernel_rfl) (fun _ _ _ h => h) hHeld ?_; simp only [Act.put, setF, List.setIfInBounds_toArray, List.set_cons_zero, List.set_cons_succ])
      iterate 2 (refine tkF ?_ rfl (by kernel_rfl) (by kernel_rfl) (fun _ _ _ h => h) ?_ hHeld ?_; rotate_left; (· (intro w hSw; (try dsimp only at hSw); go_simp <;> with_reducible rfl)); simp only [Act.put, setF, List.setIfInBounds_toArray, List.set_cons_zero, List.set_cons_succ])
      iterate 13 (refine skF rfl (by kernel_rfl) (by kernel_rfl) (fun _ _ _ h => h) hHeld ?_; simp only [Act.put, setF, List.setIfInBounds_toArray, List.set_cons_zero, List.set_cons_succ])
      iterate 2 (refine tkF ?_ rfl (by kernel_rfl) (by kernel_rfl) (fun _ _ _ h => h) ?_ hHeld ?_; rotate_left; (· (intro w hSw; (try dsimp only at hSw); go_simp <;> with_reducible rfl)); simp only [Act.put, setF, List.setIfInBounds_toArray, List.set_cons_zero, List.set_cons_succ])
      iterate 5 (refine skF rfl (by kernel_rfl) (by kernel_rfl) (fun _ _ _ h => h) hHeld ?_; simp only [Act.put, setF, List.setIfInBounds_toArray, List.set_cons_zero, List.set_cons_succ])
      refine tkF ?_ rfl (by kernel_rfl) (by kernel_rfl) (fun _ _ _ h => h) ?_ hHeld ?_; rotate_left; (· (intro w hSw; (try dsimp only at hSw); go_simp <;> with_reducible rfl)); simp only [Act.put, setF, List.setIfInBounds_toArray, List.set_cons_zero, List.set_cons_succ]
      refine wpAnyH_done (by kernel_rfl) ?_ _
      clear hHeld
      go_wp2_with fail
      go_ret
      exact ⟨rfl, below_next bb4 q5⟩
     | true =>
      rw [hok] at RK
      replace RK := hide RK
      have hl1 := (nameOk_parts (rrOk_name hok)).1
      have hl2 := (nameOk_parts (unhide HOK)).1
      have UND := fun (w : World) (h1 : HasL w (.slice na rk.name.length nc) rk.name) (h2 : HasL w (.slice oa o.length oc) o) => l2under_has h1 h2 hl1 hl2
      have CN := fun (w : World) (h1 : HasL w (.slice na rk.name.length nc) rk.name) (h2 : HasL w (.slice oa o.length oc) o) => l2cmp_has h1 h2 (by omega) (by omega)
      have OKK := hide hok
      clear hl1 hl2
      cases hun : endsWith rk.name o with
      | false =>
       have hz := zoneOk_badS (unhide HOK) (show k < rs.length by rw [unhide HN]; exact hlt) (fun g => by have := g.under; rw [unhide HRK, hun] at this; cases this)
       rw [unhide HZZ] at hz
       subst hz
       rw [hun] at UND
       replace UND := hide UND
       replace CN := hide CN
       clear hun HZZ HSOA hok
       go_wp2_with fail
       clear c0 c1 c2 c3 c4 c5 c6 zc0 zc1
       refine wp_region_held_drew (S := (fun w' => (w'.cell? ⟨w.heap.size, 0, none⟩ = some (.slice oa o.length oc) ∧ w'.cell? ⟨w.heap.size, 1, none⟩ = some (.slice (some ⟨b, off, none⟩) m rc)) ∧ (w'.cell? ⟨wr.heap.size, 0, none⟩ = some (.slice na rk.name.length nc) ∧ w'.cell? ⟨wr.heap.size, 1, none⟩ = some (.int .i64 rk.type) ∧ w'.cell? ⟨wr.heap.size, 2, none⟩ = some (.int .i64 rk.ttl) ∧ w'.cell? ⟨wr.heap.size, 3, none⟩ = some (.int .i64 rk.addr) ∧ w'.cell? ⟨wr.heap.size, 4, none⟩ = some (.slice ta rk.to.length tc) ∧ w'.cell? ⟨wr.heap.size, 5, none⟩ = some (.slice xa rk.text.length xc) ∧ w'.cell? ⟨wr.heap.size, 6, none⟩ = some (.slice ia rk.nums.length ic)))) (by kernel_rfl) ⟨cells2 (unhide K4), cells7 (unhide X4)⟩ (fun hHeld => ?_)
       show wpAnyH _ _ _ _ _ 33 #[false, false, false, false, false, false, false, false, false, false, false, false, false, false, false, false, false, false, false, false, false, false, false, false, false, false, false, false, false, false, false, false, false] _ _
       refine tkF ?_ rfl (by kernel_rfl) (by kernel_rfl) (fun _ _ _ h => h) ?_ hHeld ?_; rotate_left; (· (intro w hSw; (try dsimp only at hSw); go_simp <;> with_reducible rfl)); simp only [Act.put, setF, List.setIfInBounds_toArray, List.set_cons_zero, List.set_cons_succ]
       refine runI 1 rfl (by kernel_rfl) (by kernel_rfl) (fun K hK => ?_)
       have HK := hide hK
       clear hK hHeld
       go_simp
       refine (unhide RK).mono ?_
       rintro e w5 ⟨rfl, q5⟩
       go_simp
       refine (unhide HK).out _ _ ⟨cells2 (block_kept q5 (unhide K4)), cells7 (block_kept q5 (unhide X4))⟩ (fun hHeld => ?_)
       clear HK K
       try simp only [List.setIfInBounds_toArray, List.set_cons_zero, List.set_cons_succ]
       iterate 6 (refine tkF ?_ rfl (by kernel_rfl) (by kernel_rfl) (fun _ _ _ h => h) ?_ hHeld ?_; rotate_left; (· (intro w hSw; (try dsimp only at hSw); go_simp <;> with_reducible rfl)); simp only [Act.put, setF, List.setIfInBounds_toArray, List.set_cons_zero, List.set_cons_succ])
       refine runI 8 rfl (by kernel_rfl) (by kernel_rfl) (fun K hK => ?_)
       have HK := hide hK
       clear hK hHeld
       go_simp
       refine (unhide UND _ ((unhide U4).below q5).name ((unhide H4).below q5).name).mono ?_
       rintro e w6 ⟨rfl, b6⟩
       have q6 := below_next q5 b6
       go_simp
       refine (unhide HK).out _ _ ⟨cells2 (block_kept q6 (unhide K4)), cells7 (block_kept q6 (unhide X4))⟩ (fun hHeld => ?_)
       clear HK K
       try simp only [List.setIfInBounds_toArray, List.set_cons_zero, List.set_cons_succ]
       iterate 3 (refine tkF ?_ rfl (by kernel_rfl) (by kernel_rfl) (fun _ _ _ h => h) ?_ hHeld ?_; rotate_left; (· (intro w hSw; (try dsimp only at hSw); go_simp <;> with_reducible rfl)); simp only [Act.put, setF, List.setIfInBounds_toArray, List.set_cons_zero, List.set_cons_succ])
       iterate 13 (refine skF rfl (by kernel_rfl) (by kernel_rfl) (fun _ _ _ h => h) hHeld ?_; simp only [Act.put, setF, List.setIfInBounds_toArray, List.set_cons_zero, List.set_cons_succ])
       iterate 2 (refine tkF ?_ rfl (by kernel_rfl) (by kernel_rfl) (fun _ _ _ h => h) ?_ hHeld ?_; rotate_left; (· (intro w hSw; (try dsimp only at hSw); go_simp <;> with_reducible rfl)); simp only [Act.put, setF, List.setIfInBounds_toArray, List.set_cons_zero, List.set_cons_succ])
       iterate 5 (refine skF rfl (by kernel_rfl) (by kernel_rfl) (fun _ _ _ h => h) hHeld ?_; simp only [Act.put, setF, List.setIfInBounds_toArray, List.set_cons_zero, List.set_cons_succ])
       refine tkF ?_ rfl (by kernel_rfl) (by kernel_rfl) (fun _ _ _ h => h) ?_ hHeld ?_; rotate_left; (· (intro w hSw; (try dsimp only at hSw); go_simp <;> with_reducible rfl)); simp only [Act.put, setF, List.setIfInBounds_toArray, List.set_cons_zero, List.set_cons_succ]
       refine wpAnyH_done (by kernel_rfl) ?_ _
       clear hHeld
       go_wp2_with fail
       go_ret
       exact ⟨rfl, below_next bb4 q6⟩
      | true =>
       rw [hun] at UND
       replace UND := hide UND
       replace CN := hide CN
       have HUN := hide hun
       have hss := unhide HSS
       have ALO := fun (w : World) (h : HasRs w (.slice (some ⟨b, off, none⟩) m rc) rs) => l5alone_has (i := k) h (by rw [unhide HN]; exact hlt) (by rw [unhide HN]; exact h60) (by rw [unhide HN]; exact hss)
       clear hun hok hss
       have AL := aloneB_iff rs k
       by_cases hk0 : k = 0
       ·subst hk0
        simp only [Nat.zero_mul, Nat.add_zero] at c0 c1 c2 c3 c4 c5 c6
        cases hal : aloneB rs (0) with
        | false =>
         have hz := zoneOk_badS (unhide HOK) (show 0 < rs.length by rw [unhide HN]; exact hlt) (fun g => by have := AL.2 g.alone; rw [hal] at this; cases this)
         rw [unhide HZZ] at hz
         subst hz
         rw [hal] at ALO
         replace ALO := hide ALO
         clear hal HZZ HSOA AL CN
         go_wp2_with fail
         clear c0 c1 c2 c3 c4 c5 c6 zc0 zc1
         refine wp_region_held_drew (S := (fun w' => (w'.cell? ⟨w.heap.size, 0, none⟩ = some (.slice oa o.length oc) ∧ w'.cell? ⟨w.heap.size, 1, none⟩ = some (.slice (some ⟨b, off, none⟩) m rc)) ∧ (w'.cell? ⟨wr.heap.size, 0, none⟩ = some (.slice na rk.name.length nc) ∧ w'.cell? ⟨wr.heap.size, 1, none⟩ = some (.int .i64 rk.type) ∧ w'.cell? ⟨wr.heap.size, 2, none⟩ = some (.int .i64 rk.ttl) ∧ w'.cell? ⟨wr.heap.size, 3, none⟩ = some (.int .i64 rk.addr) ∧ w'.cell? ⟨wr.heap.size, 4, none⟩ = some (.slice ta rk.to.length tc) ∧ w'.cell? ⟨wr.heap.size, 5, none⟩ = some (.slice xa rk.text.length xc) ∧ w'.cell? ⟨wr.heap.size, 6, none⟩ = some (.slice ia rk.nums.length ic)))) (by kernel_rfl) ⟨cells2 (unhide K4), cells7 (unhide X4)⟩ (fun hHeld => ?_)
         show wpAnyH _ _ _ _ _ 33 #[false, false, false, false, false, false, false, false, false, false, false, false, false, false, false, false, false, false, false, false, false, false, false, false, false, false, false, false, false, false, false, false, false] _ _
         refine tkF ?_ rfl (by kernel_rfl) (by kernel_rfl) (fun _ _ _ h => h) ?_ hHeld ?_; rotate_left; (· (intro w hSw; (try dsimp only at hSw); go_simp <;> with_reducible rfl)); simp only [Act.put, setF, List.setIfInBounds_toArray, List.set_cons_zero, List.set_cons_succ]
         refine runI 1 rfl (by kernel_rfl) (by kernel_rfl) (fun K hK => ?_)
         have HK := hide hK
         clear hK hHeld
         go_simp
         refine (unhide RK).mono ?_
         rintro e w5 ⟨rfl, q5⟩
         go_simp
         refine (unhide HK).out _ _ ⟨cells2 (block_kept q5 (unhide K4)), cells7 (block_kept q5 (unhide X4))⟩ (fun hHeld => ?_)
         clear HK K
         try simp only [List.setIfInBounds_toArray, List.set_cons_zero, List.set_cons_succ]
         iterate 6 (refine tkF ?_ rfl (by kernel_rfl) (by kernel_rfl) (fun _ _ _ h => h) ?_ hHeld ?_; rotate_left; (· (intro w hSw; (try dsimp only at hSw); go_simp <;> with_reducible rfl)); simp only [Act.put, setF, List.setIfInBounds_toArray, List.set_cons_zero, List.set_cons_succ])
         refine runI 8 rfl (by kernel_rfl) (by kernel_rfl) (fun K hK => ?_)
         have HK := hide hK
         clear hK hHeld
         go_simp
         refine (unhide UND _ ((unhide U4).below q5).name ((unhide H4).below q5).name).mono ?_
         rintro e w6 ⟨rfl, b6⟩
         have q6 := below_next q5 b6
         go_simp
         refine (unhide HK).out _ _ ⟨cells2 (block_kept q6 (unhide K4)), cells7 (block_kept q6 (unhide X4))⟩ (fun hHeld => ?_)
         clear HK K
         try simp only [List.setIfInBounds_toArray, List.set_cons_zero, List.set_cons_succ]
         iterate 3 (refine tkF ?_ rfl (by kernel_rfl) (by kernel_rfl) (fun _ _ _ h => h) ?_ hHeld ?_; rotate_left; (· (intro w hSw; (try dsimp only at hSw); go_simp <;> with_reducible rfl)); simp only [Act.put, setF, List.setIfInBounds_toArray, List.set_cons_zero, List.set_cons_succ])
         refine tkF (.int .i64 0) rfl (by kernel_rfl) (by kernel_rfl) (fun _ _ _ h => h) ?_ hHeld ?_; (· (intro w hSw; (try dsimp only at hSw); go_simp)); simp only [Act.put, setF, List.setIfInBounds_toArray, List.set_cons_zero, List.set_cons_succ]
         refine tkF (.bool false) rfl (by kernel_rfl) (by kernel_rfl) (fun _ _ _ h => h) ?_ hHeld ?_; (· (intro w hSw; (try dsimp only at hSw); go_simp)); simp only [Act.put, setF, List.setIfInBounds_toArray, List.set_cons_zero, List.set_cons_succ]
         refine tkF (.bool false) rfl (by kernel_rfl) (by kernel_rfl) (fun _ _ _ h => h) ?_ hHeld ?_; (· (intro w hSw; (try dsimp only at hSw); go_simp)); simp only [Act.put, setF, List.setIfInBounds_toArray, List.set_cons_zero, List.set_cons_succ]
         iterate 9 (refine skF rfl (by kernel_rfl) (by kernel_rfl) (fun _ _ _ h => h) hHeld ?_; simp only [Act.put, setF, List.setIfInBounds_toArray, List.set_cons_zero, List.set_cons_succ])
         iterate 6 (refine tkF ?_ rfl (by kernel_rfl) (by kernel_rfl) (fun _ _ _ h => h) ?_ hHeld ?_; rotate_left; (· (intro w hSw; (try dsimp only at hSw); go_simp <;> with_reducible rfl)); simp only [Act.put, setF, List.setIfInBounds_toArray, List.set_cons_zero, List.set_cons_succ])
         refine runI 30 rfl (by kernel_rfl) (by kernel_rfl) (fun K hK => ?_)
         have HK := hide hK
         clear hK hHeld
         go_simp
         refine (unhide ALO _ ((unhide H4).below q6).recs).mono ?_
         rintro e w8 ⟨rfl, b8⟩
         have q8 := below_next q6 b8
         go_simp
         refine (unhide HK).out _ _ ⟨cells2 (block_kept q8 (unhide K4)), cells7 (block_kept q8 (unhide X4))⟩ (fun hHeld => ?_)
         clear HK K
         try simp only [List.setIfInBounds_toArray, List.set_cons_zero, List.set_cons_succ]
         iterate 2 (refine tkF ?_ rfl (by kernel_rfl) (by kernel_rfl) (fun _ _ _ h => h) ?_ hHeld ?_; rotate_left; (· (intro w hSw; (try dsimp only at hSw); go_simp <;> with_reducible rfl)); simp only [Act.put, setF, List.setIfInBounds_toArray, List.set_cons_zero, List.set_cons_succ])
         refine wpAnyH_done (by kernel_rfl) ?_ _
         clear hHeld
         go_wp2_with fail
         go_ret
         exact ⟨rfl, below_next bb4 q8⟩
        | true =>
         have HALO := hide (AL.1 hal)
         rw [hal] at ALO
         replace ALO := hide ALO
         clear hal AL
         go_wp2_with fail
         clear c0 c1 c2 c3 c4 c5 c6 zc0 zc1
         refine wp_region_held_drew (S := (fun w' => (w'.cell? ⟨w.heap.size, 0, none⟩ = some (.slice oa o.length oc) ∧ w'.cell? ⟨w.heap.size, 1, none⟩ = some (.slice (some ⟨b, off, none⟩) m rc)) ∧ (w'.cell? ⟨wr.heap.size, 0, none⟩ = some (.slice na rk.name.length nc) ∧ w'.cell? ⟨wr.heap.size, 1, none⟩ = some (.int .i64 rk.type) ∧ w'.cell? ⟨wr.heap.size, 2, none⟩ = some (.int .i64 rk.ttl) ∧ w'.cell? ⟨wr.heap.size, 3, none⟩ = some (.int .i64 rk.addr) ∧ w'.cell? ⟨wr.heap.size, 4, none⟩ = some (.slice ta rk.to.length tc) ∧ w'.cell? ⟨wr.heap.size, 5, none⟩ = some (.slice xa rk.text.length xc) ∧ w'.cell? ⟨wr.heap.size, 6, none⟩ = some (.slice ia rk.nums.length ic)))) (by kernel_rfl) ⟨cells2 (unhide K4), cells7 (unhide X4)⟩ (fun hHeld => ?_)
         show wpAnyH _ _ _ _ _ 33 #[false, false, false, false, false, false, false, false, false, false, false, false, false, false, false, false, false, false, false, false, false, false, false, false, false, false, false, false, false, false, false, false, false] _ _
         refine tkF ?_ rfl (by kernel_rfl) (by kernel_rfl) (fun _ _ _ h => h) ?_ hHeld ?_; rotate_left; (· (intro w hSw; (try dsimp only at hSw); go_simp <;> with_reducible rfl)); simp only [Act.put, setF, List.setIfInBounds_toArray, List.set_cons_zero, List.set_cons_succ]
         refine runI 1 rfl (by kernel_rfl) (by kernel_rfl) (fun K hK => ?_)
         have HK := hide hK
         clear hK hHeld
         go_simp
         refine (unhide RK).mono ?_
         rintro e w5 ⟨rfl, q5⟩
         go_simp
         refine (unhide HK).out _ _ ⟨cells2 (block_kept q5 (unhide K4)), cells7 (block_kept q5 (unhide X4))⟩ (fun hHeld => ?_)
         clear HK K
         try simp only [List.setIfInBounds_toArray, List.set_cons_zero, List.set_cons_succ]
         iterate 6 (refine tkF ?_ rfl (by kernel_rfl) (by kernel_rfl) (fun _ _ _ h => h) ?_ hHeld ?_; rotate_left; (· (intro w hSw; (try dsimp only at hSw); go_simp <;> with_reducible rfl)); simp only [Act.put, setF, List.setIfInBounds_toArray, List.set_cons_zero, List.set_cons_succ])
         refine runI 8 rfl (by kernel_rfl) (by kernel_rfl) (fun K hK => ?_)
         have HK := hide hK
         clear hK hHeld
         go_simp
         refine (unhide UND _ ((unhide U4).below q5).name ((unhide H4).below q5).name).mono ?_
         rintro e w6 ⟨rfl, b6⟩
         have q6 := below_next q5 b6
         go_simp
         refine (unhide HK).out _ _ ⟨cells2 (block_kept q6 (unhide K4)), cells7 (block_kept q6 (unhide X4))⟩ (fun hHeld => ?_)
         clear HK K
         try simp only [List.setIfInBounds_toArray, List.set_cons_zero, List.set_cons_succ]
         iterate 3 (refine tkF ?_ rfl (by kernel_rfl) (by kernel_rfl) (fun _ _ _ h => h) ?_ hHeld ?_; rotate_left; (· (intro w hSw; (try dsimp only at hSw); go_simp <;> with_reducible rfl)); simp only [Act.put, setF, List.setIfInBounds_toArray, List.set_cons_zero, List.set_cons_succ])
         refine tkF (.int .i64 0) rfl (by kernel_rfl) (by kernel_rfl) (fun _ _ _ h => h) ?_ hHeld ?_; (· (intro w hSw; (try dsimp only at hSw); go_simp)); simp only [Act.put, setF, List.setIfInBounds_toArray, List.set_cons_zero, List.set_cons_succ]
         refine tkF (.bool false) rfl (by kernel_rfl) (by kernel_rfl) (fun _ _ _ h => h) ?_ hHeld ?_; (· (intro w hSw; (try dsimp only at hSw); go_simp)); simp only [Act.put, setF, List.setIfInBounds_toArray, List.set_cons_zero, List.set_cons_succ]
         refine tkF (.bool false) rfl (by kernel_rfl) (by kernel_rfl) (fun _ _ _ h => h) ?_ hHeld ?_; (· (intro w hSw; (try dsimp only at hSw); go_simp)); simp only [Act.put, setF, List.setIfInBounds_toArray, List.set_cons_zero, List.set_cons_succ]
         iterate 9 (refine skF rfl (by kernel_rfl) (by kernel_rfl) (fun _ _ _ h => h) hHeld ?_; simp only [Act.put, setF, List.setIfInBounds_toArray, List.set_cons_zero, List.set_cons_succ])
         iterate 6 (refine tkF ?_ rfl (by kernel_rfl) (by kernel_rfl) (fun _ _ _ h => h) ?_ hHeld ?_; rotate_left; (· (intro w hSw; (try dsimp only at hSw); go_simp <;> with_reducible rfl)); simp only [Act.put, setF, List.setIfInBounds_toArray, List.set_cons_zero, List.set_cons_succ])
         refine runI 30 rfl (by kernel_rfl) (by kernel_rfl) (fun K hK => ?_)
         have HK := hide hK
         clear hK hHeld
         go_simp
         refine (unhide ALO _ ((unhide H4).below q6).recs).mono ?_
         rintro e w8 ⟨rfl, b8⟩
         have q8 := below_next q6 b8
         go_simp
         refine (unhide HK).out _ _ ⟨cells2 (block_kept q8 (unhide K4)), cells7 (block_kept q8 (unhide X4))⟩ (fun hHeld => ?_)
         clear HK K
         try simp only [List.setIfInBounds_toArray, List.set_cons_zero, List.set_cons_succ]
         iterate 2 (refine tkF ?_ rfl (by kernel_rfl) (by kernel_rfl) (fun _ _ _ h => h) ?_ hHeld ?_; rotate_left; (· (intro w hSw; (try dsimp only at hSw); go_simp <;> with_reducible rfl)); simp only [Act.put, setF, List.setIfInBounds_toArray, List.set_cons_zero, List.set_cons_succ])
         refine wpAnyH_done (by kernel_rfl) ?_ _
         clear hHeld
         have hsoa := unhide HSOA
         have X8 := hide (block_kept q8 (unhide X4))
         have K8 := hide (block_kept q8 (unhide K4))
         have N8 := hide (((unhide U4).below q8).name)
         have M8 := hide (((unhide H4).below q8).name)
         have bw8 := below_next bw4 q8
         have bb8 := below_next bb4 q8
         have hgd : ∀ (hso : rk.type = 6 → cmpN rk.name o = 0), ∀ j, j < 0 + 1 → GoodS o rs j := fun hso j hj => by
          by_cases e : j = 0
          ·subst e
           exact ⟨by rw [unhide HRK]; exact unhide OKK, by rw [unhide HRK]; exact unhide HUN, fun q => absurd q (by omega), unhide HALO, by rw [unhide HRK]; exact hso⟩
          ·exact unhide hall j (by omega)
         have HGD := hide hgd
         clear HSOA hgd
         obtain ⟨p0, p1, p2, p3, p4, p5, p6⟩ := cells7 (unhide X8)
         obtain ⟨r0, r1⟩ := cells2 (unhide K8)
         clear X4 K4 U4 H4 RK UND ALO
         by_cases h6 : rk.type = 6
         ·rw [if_pos h6] at hsoa
          have e6 : (rk.type == 6) = true := by rw [h6]; rfl
          have HS1 := hide hsoa
          have H6 := hide h6
          clear h6 hsoa
          by_cases hc0 : cmpN rk.name o = 0
          ·have CN0 := unhide CN
           rw [hc0] at CN0
           have G9 := hide (unhide HGD (fun _ => hc0))
           clear hc0 CN HGD
           replace CN0 := hide CN0
           go_wp2_with fail
           clear p0 p1 p2 p3 p4 p5 p6 r0 r1
           refine (unhide CN0 _ (unhide N8) (unhide M8)).mono ?_
           rintro e w9 ⟨rfl, b9⟩
           have bw9 := below_next bw8 b9
           obtain ⟨r0, r1⟩ := cells2 (block_kept b9 (unhide K8))
           clear b9
           go_wp2_with fail
           exact ⟨⟨0 + 1, by omega, by go_num, by rw [unhide HS1]; go_num, G9, bw9⟩, by simp [intOf]; omega⟩
          ·have hz := zoneOk_badS (unhide HOK) (show 0 < rs.length by rw [unhide HN]; exact hlt) (fun g => hc0 (by have := g.soa; rw [unhide HRK] at this; exact this (unhide H6)))
           rw [unhide HZZ] at hz
           subst hz
           have e0 : (cmpN rk.name o != 0) = true := by rw [bne_iff_ne]; exact hc0
           generalize cmpN rk.name o = c9 at *
           clear hc0 HZZ HGD HS1
           go_wp2_with fail
           clear p0 p1 p2 p3 p4 p5 p6 r0 r1
           refine (unhide CN _ (unhide N8) (unhide M8)).mono ?_
           rintro e w9 ⟨rfl, b9⟩
           go_wp2_with fail
           go_ret
           exact ⟨rfl, below_next bb8 b9⟩
         ·rw [if_neg h6, Nat.add_zero] at hsoa
          have e6 : (rk.type == 6) = false := by rw [beq_eq_false_iff_ne]; exact h6
          have HS1 := hide hsoa
          have G9 := hide (unhide HGD (fun q => absurd q h6))
          clear h6 hsoa HGD
          go_wp2_with fail
          exact ⟨⟨0 + 1, by omega, by go_num, by first | (rw [unhide HS1]; done) | (rw [unhide HS1]; rfl), G9, bw8⟩, by simp [intOf]; omega⟩
       ·obtain ⟨k0, rfl⟩ : ∃ k0, k = k0 + 1 := ⟨k - 1, by omega⟩
        clear hk0
        have hk0' : (0 : Int) < (k0 + 1 : Nat) := by omega
        have hwr : IntKind.i64.wrap (k0 : Int) = (k0 : Nat) := by have := hlt; exact wrap_small (by omega) (by omega)
        have hkm : (k0 : Int) < m := by omega
        obtain ⟨b', off', na', nc', ta', tc', xa', xc', ia', ic', hbe, hbl', hc', hu'⟩ := (unhide H4).recs.here (k := k0) (by rw [unhide HN]; omega)
        simp only [Option.some.injEq, Addr.mk.injEq, and_true] at hbe
        obtain ⟨rfl, rfl⟩ := hbe
        have okp := (unhide hall k0 (by omega)).ok
        generalize hrp : rs.getD k0 recZ = rp at *
        have HRP := hide hrp
        have HC4 := hide hc'
        have U4' := hide hu'
        have CMP := fun (w : World) (h1 : HasR w (.slice na' rp.name.length nc') (.slice ta' rp.to.length tc') (.slice xa' rp.text.length xc') (.slice ia' rp.nums.length ic') rp) (h2 : HasR w (.slice na rk.name.length nc) (.slice ta rk.to.length tc) (.slice xa rk.text.length xc) (.slice ia rk.nums.length ic) rk) => l3cmp_has h1 h2 okp (unhide OKK)
        clear hc' hu' okp hrp
        by_cases hlt0 : cmpR rp rk < 0
        ·have hnx : 0 < k0 + 1 → cmpR (rs.getD (k0 + 1 - 1) recZ) (rs.getD (k0 + 1) recZ) < 0 := fun _ => by rw [show k0 + 1 - 1 = k0 by omega, unhide HRP, unhide HRK]; exact hlt0
         have HNX := hide hnx
         have hge : ¬ (0 ≤ cmpR rp rk) := by omega
         generalize cmpR rp rk = cc at *
         replace CMP := hide CMP
         clear hnx hlt0
         cases hal : aloneB rs (k0 + 1) with
         | false =>
          have hz := zoneOk_badS (unhide HOK) (show k0 + 1 < rs.length by rw [unhide HN]; exact hlt) (fun g => by have := AL.2 g.alone; rw [hal] at this; cases this)
          rw [unhide HZZ] at hz
          subst hz
          rw [hal] at ALO
          replace ALO := hide ALO
          clear hal HZZ HSOA AL CN
          go_wp2_with fail
          clear c0 c1 c2 c3 c4 c5 c6 zc0 zc1
          refine wp_region_held_drew (S := (fun w' => ((w'.cell? ⟨w.heap.size, 0, none⟩ = some (.slice oa o.length oc) ∧ w'.cell? ⟨w.heap.size, 1, none⟩ = some (.slice (some ⟨b, off, none⟩) m rc)) ∧ (w'.cell? ⟨wr.heap.size, 0, none⟩ = some (.slice na rk.name.length nc) ∧ w'.cell? ⟨wr.heap.size, 1, none⟩ = some (.int .i64 rk.type) ∧ w'.cell? ⟨wr.heap.size, 2, none⟩ = some (.int .i64 rk.ttl) ∧ w'.cell? ⟨wr.heap.size, 3, none⟩ = some (.int .i64 rk.addr) ∧ w'.cell? ⟨wr.heap.size, 4, none⟩ = some (.slice ta rk.to.length tc) ∧ w'.cell? ⟨wr.heap.size, 5, none⟩ = some (.slice xa rk.text.length xc) ∧ w'.cell? ⟨wr.heap.size, 6, none⟩ = some (.slice ia rk.nums.length ic))) ∧ (w'.cell? ⟨b, off + k0 * 7, none⟩ = some (.slice na' rp.name.length nc') ∧ w'.cell? ⟨b, off + k0 * 7 + 1, none⟩ = some (.int .i64 rp.type) ∧ w'.cell? ⟨b, off + k0 * 7 + 2, none⟩ = some (.int .i64 rp.ttl) ∧ w'.cell? ⟨b, off + k0 * 7 + 3, none⟩ = some (.int .i64 rp.addr) ∧ w'.cell? ⟨b, off + k0 * 7 + 4, none⟩ = some (.slice ta' rp.to.length tc') ∧ w'.cell? ⟨b, off + k0 * 7 + 5, none⟩ = some (.slice xa' rp.text.length xc') ∧ w'.cell? ⟨b, off + k0 * 7 + 6, none⟩ = some (.slice ia' rp.nums.length ic')))) (by kernel_rfl) ⟨⟨cells2 (unhide K4), cells7 (unhide X4)⟩, range7 (unhide HC4)⟩ (fun hHeld => ?_)
          show wpAnyH _ _ _ _ _ 33 #[false, false, false, false, false, false, false, false, false, false, false, false, false, false, false, false, false, false, false, false, false, false, false, false, false, false, false, false, false, false, false, false, false] _ _
          refine tkF ?_ rfl (by kernel_rfl) (by kernel_rfl) (fun _ _ _ h => h) ?_ hHeld ?_; rotate_left; (· (intro w hSw; (try dsimp only at hSw); go_simp <;> with_reducible rfl)); simp only [Act.put, setF, List.setIfInBounds_toArray, List.set_cons_zero, List.set_cons_succ]
          refine runI 1 rfl (by kernel_rfl) (by kernel_rfl) (fun K hK => ?_)
          have HK := hide hK
          clear hK hHeld
          go_simp
          refine (unhide RK).mono ?_
          rintro e w5 ⟨rfl, q5⟩
          go_simp
          refine (unhide HK).out _ _ ⟨⟨cells2 (block_kept q5 (unhide K4)), cells7 (block_kept q5 (unhide X4))⟩, range7 (range_below (unhide HC4) hbl' q5)⟩ (fun hHeld => ?_)
          clear HK K
          try simp only [List.setIfInBounds_toArray, List.set_cons_zero, List.set_cons_succ]
          iterate 6 (refine tkF ?_ rfl (by kernel_rfl) (by kernel_rfl) (fun _ _ _ h => h) ?_ hHeld ?_; rotate_left; (· (intro w hSw; (try dsimp only at hSw); go_simp <;> with_reducible rfl)); simp only [Act.put, setF, List.setIfInBounds_toArray, List.set_cons_zero, List.set_cons_succ])
          refine runI 8 rfl (by kernel_rfl) (by kernel_rfl) (fun K hK => ?_)
          have HK := hide hK
          clear hK hHeld
          go_simp
          refine (unhide UND _ ((unhide U4).below q5).name ((unhide H4).below q5).name).mono ?_
          rintro e w6 ⟨rfl, b6⟩
          have q6 := below_next q5 b6
          go_simp
          refine (unhide HK).out _ _ ⟨⟨cells2 (block_kept q6 (unhide K4)), cells7 (block_kept q6 (unhide X4))⟩, range7 (range_below (unhide HC4) hbl' q6)⟩ (fun hHeld => ?_)
          clear HK K
          try simp only [List.setIfInBounds_toArray, List.set_cons_zero, List.set_cons_succ]
          iterate 4 (refine tkF ?_ rfl (by kernel_rfl) (by kernel_rfl) (fun _ _ _ h => h) ?_ hHeld ?_; rotate_left; (· (intro w hSw; (try dsimp only at hSw); go_simp <;> with_reducible rfl)); simp only [Act.put, setF, List.setIfInBounds_toArray, List.set_cons_zero, List.set_cons_succ])
          refine tkF (.bool true) rfl (by kernel_rfl) (by kernel_rfl) (fun _ _ _ h => h) ?_ hHeld ?_; (· (intro w hSw; (try dsimp only at hSw); go_simp)); simp only [Act.put, setF, List.setIfInBounds_toArray, List.set_cons_zero, List.set_cons_succ]
          refine tkF (.bool true) rfl (by kernel_rfl) (by kernel_rfl) (fun _ _ _ h => h) ?_ hHeld ?_; (· (intro w hSw; (try dsimp only at hSw); go_simp)); simp only [Act.put, setF, List.setIfInBounds_toArray, List.set_cons_zero, List.set_cons_succ]
          iterate 2 (refine tkF ?_ rfl (by kernel_rfl) (by kernel_rfl) (fun _ _ _ h => h) ?_ hHeld ?_; rotate_left; (· (intro w hSw; (try dsimp only at hSw); go_simp <;> with_reducible rfl)); simp only [Act.put, setF, List.setIfInBounds_toArray, List.set_cons_zero, List.set_cons_succ])
          refine tkF (.int .i64 (k0 + 1 : Nat)) rfl (by kernel_rfl) (by kernel_rfl) (fun _ _ _ h => h) ?_ hHeld ?_; (· (intro w hSw; (try dsimp only at hSw); go_simp)); simp only [Act.put, setF, List.setIfInBounds_toArray, List.set_cons_zero, List.set_cons_succ]
          refine tkF (.int .i64 (k0 : Nat)) rfl (by kernel_rfl) (by kernel_rfl) (fun _ _ _ h => h) ?_ hHeld ?_; (· (intro w hSw; (try dsimp only at hSw); go_simp)); simp only [Act.put, setF, List.setIfInBounds_toArray, List.set_cons_zero, List.set_cons_succ]
          refine tkF (.pointer (some ⟨b, off + k0 * 7, none⟩)) rfl (by kernel_rfl) (by kernel_rfl) (fun _ _ _ h => h) ?_ hHeld ?_; (· (intro w hSw; (try dsimp only at hSw); go_simp)); simp only [Act.put, setF, List.setIfInBounds_toArray, List.set_cons_zero, List.set_cons_succ]
          iterate 2 (refine tkF ?_ rfl (by kernel_rfl) (by kernel_rfl) (fun _ _ _ h => h) ?_ hHeld ?_; rotate_left; (· (intro w hSw; (try dsimp only at hSw); go_simp <;> with_reducible rfl)); simp only [Act.put, setF, List.setIfInBounds_toArray, List.set_cons_zero, List.set_cons_succ])
          refine runI 22 rfl (by kernel_rfl) (by kernel_rfl) (fun K hK => ?_)
          have HK := hide hK
          clear hK hHeld
          go_simp
          refine (unhide CMP _ ((unhide U4').below q6) ((unhide U4).below q6)).mono ?_
          rintro e w7 ⟨rfl, b7⟩
          have q7 := below_next q6 b7
          go_simp
          refine (unhide HK).out _ _ ⟨⟨cells2 (block_kept q7 (unhide K4)), cells7 (block_kept q7 (unhide X4))⟩, range7 (range_below (unhide HC4) hbl' q7)⟩ (fun hHeld => ?_)
          clear HK K
          try simp only [List.setIfInBounds_toArray, List.set_cons_zero, List.set_cons_succ]
          refine tkF (.bool false) rfl (by kernel_rfl) (by kernel_rfl) (fun _ _ _ h => h) ?_ hHeld ?_; (· (intro w hSw; (try dsimp only at hSw); go_simp)); simp only [Act.put, setF, List.setIfInBounds_toArray, List.set_cons_zero, List.set_cons_succ]
          refine tkF (.bool false) rfl (by kernel_rfl) (by kernel_rfl) (fun _ _ _ h => h) ?_ hHeld ?_; (· (intro w hSw; (try dsimp only at hSw); go_simp)); simp only [Act.put, setF, List.setIfInBounds_toArray, List.set_cons_zero, List.set_cons_succ]
          iterate 5 (refine tkF ?_ rfl (by kernel_rfl) (by kernel_rfl) (fun _ _ _ h => h) ?_ hHeld ?_; rotate_left; (· (intro w hSw; (try dsimp only at hSw); go_simp <;> with_reducible rfl)); simp only [Act.put, setF, List.setIfInBounds_toArray, List.set_cons_zero, List.set_cons_succ])
          refine runI 30 rfl (by kernel_rfl) (by kernel_rfl) (fun K hK => ?_)
          have HK := hide hK
          clear hK hHeld
          go_simp
          refine (unhide ALO _ ((unhide H4).below q7).recs).mono ?_
          rintro e w8 ⟨rfl, b8⟩
          have q8 := below_next q7 b8
          go_simp
          refine (unhide HK).out _ _ ⟨⟨cells2 (block_kept q8 (unhide K4)), cells7 (block_kept q8 (unhide X4))⟩, range7 (range_below (unhide HC4) hbl' q8)⟩ (fun hHeld => ?_)
          clear HK K
          try simp only [List.setIfInBounds_toArray, List.set_cons_zero, List.set_cons_succ]
          iterate 2 (refine tkF ?_ rfl (by kernel_rfl) (by kernel_rfl) (fun _ _ _ h => h) ?_ hHeld ?_; rotate_left; (· (intro w hSw; (try dsimp only at hSw); go_simp <;> with_reducible rfl)); simp only [Act.put, setF, List.setIfInBounds_toArray, List.set_cons_zero, List.set_cons_succ])
          refine wpAnyH_done (by kernel_rfl) ?_ _
          clear hHeld
          go_wp2_with fail
          go_ret
          exact ⟨rfl, below_next bb4 q8⟩
         | true =>
          have HALO := hide (AL.1 hal)
          rw [hal] at ALO
          replace ALO := hide ALO
          clear hal AL
          go_wp2_with fail
          clear c0 c1 c2 c3 c4 c5 c6 zc0 zc1
          refine wp_region_held_drew (S := (fun w' => ((w'.cell? ⟨w.heap.size, 0, none⟩ = some (.slice oa o.length oc) ∧ w'.cell? ⟨w.heap.size, 1, none⟩ = some (.slice (some ⟨b, off, none⟩) m rc)) ∧ (w'.cell? ⟨wr.heap.size, 0, none⟩ = some (.slice na rk.name.length nc) ∧ w'.cell? ⟨wr.heap.size, 1, none⟩ = some (.int .i64 rk.type) ∧ w'.cell? ⟨wr.heap.size, 2, none⟩ = some (.int .i64 rk.ttl) ∧ w'.cell? ⟨wr.heap.size, 3, none⟩ = some (.int .i64 rk.addr) ∧ w'.cell? ⟨wr.heap.size, 4, none⟩ = some (.slice ta rk.to.length tc) ∧ w'.cell? ⟨wr.heap.size, 5, none⟩ = some (.slice xa rk.text.length xc) ∧ w'.cell? ⟨wr.heap.size, 6, none⟩ = some (.slice ia rk.nums.length ic))) ∧ (w'.cell? ⟨b, off + k0 * 7, none⟩ = some (.slice na' rp.name.length nc') ∧ w'.cell? ⟨b, off + k0 * 7 + 1, none⟩ = some (.int .i64 rp.type) ∧ w'.cell? ⟨b, off + k0 * 7 + 2, none⟩ = some (.int .i64 rp.ttl) ∧ w'.cell? ⟨b, off + k0 * 7 + 3, none⟩ = some (.int .i64 rp.addr) ∧ w'.cell? ⟨b, off + k0 * 7 + 4, none⟩ = some (.slice ta' rp.to.length tc') ∧ w'.cell? ⟨b, off + k0 * 7 + 5, none⟩ = some (.slice xa' rp.text.length xc') ∧ w'.cell? ⟨b, off + k0 * 7 + 6, none⟩ = some (.slice ia' rp.nums.length ic')))) (by kernel_rfl) ⟨⟨cells2 (unhide K4), cells7 (unhide X4)⟩, range7 (unhide HC4)⟩ (fun hHeld => ?_)
          show wpAnyH _ _ _ _ _ 33 #[false, false, false, false, false, false, false, false, false, false, false, false, false, false, false, false, false, false, false, false, false, false, false, false, false, false, false, false, false, false, false, false, false] _ _
          refine tkF ?_ rfl (by kernel_rfl) (by kernel_rfl) (fun _ _ _ h => h) ?_ hHeld ?_; rotate_left; (· (intro w hSw; (try dsimp only at hSw); go_simp <;> with_reducible rfl)); simp only [Act.put, setF, List.setIfInBounds_toArray, List.set_cons_zero, List.set_cons_succ]
          refine runI 1 rfl (by kernel_rfl) (by kernel_rfl) (fun K hK => ?_)
          have HK := hide hK
          clear hK hHeld
          go_simp
          refine (unhide RK).mono ?_
          rintro e w5 ⟨rfl, q5⟩
          go_simp
          refine (unhide HK).out _ _ ⟨⟨cells2 (block_kept q5 (unhide K4)), cells7 (block_kept q5 (unhide X4))⟩, range7 (range_below (unhide HC4) hbl' q5)⟩ (fun hHeld => ?_)
          clear HK K
          try simp only [List.setIfInBounds_toArray, List.set_cons_zero, List.set_cons_succ]
          iterate 6 (refine tkF ?_ rfl (by kernel_rfl) (by kernel_rfl) (fun _ _ _ h => h) ?_ hHeld ?_; rotate_left; (· (intro w hSw; (try dsimp only at hSw); go_simp <;> with_reducible rfl)); simp only [Act.put, setF, List.setIfInBounds_toArray, List.set_cons_zero, List.set_cons_succ])
          refine runI 8 rfl (by kernel_rfl) (by kernel_rfl) (fun K hK => ?_)
          have HK := hide hK
          clear hK hHeld
          go_simp
          refine (unhide UND _ ((unhide U4).below q5).name ((unhide H4).below q5).name).mono ?_
          rintro e w6 ⟨rfl, b6⟩
          have q6 := below_next q5 b6
          go_simp
          refine (unhide HK).out _ _ ⟨⟨cells2 (block_kept q6 (unhide K4)), cells7 (block_kept q6 (unhide X4))⟩, range7 (range_below (unhide HC4) hbl' q6)⟩ (fun hHeld => ?_)
          clear HK K
          try simp only [List.setIfInBounds_toArray, List.set_cons_zero, List.set_cons_succ]
          iterate 4 (refine tkF ?_ rfl (by kernel_rfl) (by kernel_rfl) (fun _ _ _ h => h) ?_ hHeld ?_; rotate_left; (· (intro w hSw; (try dsimp only at hSw); go_simp <;> with_reducible rfl)); simp only [Act.put, setF, List.setIfInBounds_toArray, List.set_cons_zero, List.set_cons_succ])
          refine tkF (.bool true) rfl (by kernel_rfl) (by kernel_rfl) (fun _ _ _ h => h) ?_ hHeld ?_; (· (intro w hSw; (try dsimp only at hSw); go_simp)); simp only [Act.put, setF, List.setIfInBounds_toArray, List.set_cons_zero, List.set_cons_succ]
          refine tkF (.bool true) rfl (by kernel_rfl) (by kernel_rfl) (fun _ _ _ h => h) ?_ hHeld ?_; (· (intro w hSw; (try dsimp only at hSw); go_simp)); simp only [Act.put, setF, List.setIfInBounds_toArray, List.set_cons_zero, List.set_cons_succ]
          iterate 2 (refine tkF ?_ rfl (by kernel_rfl) (by kernel_rfl) (fun _ _ _ h => h) ?_ hHeld ?_; rotate_left; (· (intro w hSw; (try dsimp only at hSw); go_simp <;> with_reducible rfl)); simp only [Act.put, setF, List.setIfInBounds_toArray, List.set_cons_zero, List.set_cons_succ])
          refine tkF (.int .i64 (k0 + 1 : Nat)) rfl (by kernel_rfl) (by kernel_rfl) (fun _ _ _ h => h) ?_ hHeld ?_; (· (intro w hSw; (try dsimp only at hSw); go_simp)); simp only [Act.put, setF, List.setIfInBounds_toArray, List.set_cons_zero, List.set_cons_succ]
          refine tkF (.int .i64 (k0 : Nat)) rfl (by kernel_rfl) (by kernel_rfl) (fun _ _ _ h => h) ?_ hHeld ?_; (· (intro w hSw; (try dsimp only at hSw); go_simp)); simp only [Act.put, setF, List.setIfInBounds_toArray, List.set_cons_zero, List.set_cons_succ]
          refine tkF (.pointer (some ⟨b, off + k0 * 7, none⟩)) rfl (by kernel_rfl) (by kernel_rfl) (fun _ _ _ h => h) ?_ hHeld ?_; (· (intro w hSw; (try dsimp only at hSw); go_simp)); simp only [Act.put, setF, List.setIfInBounds_toArray, List.set_cons_zero, List.set_cons_succ]
          iterate 2 (refine tkF ?_ rfl (by kernel_rfl) (by kernel_rfl) (fun _ _ _ h => h) ?_ hHeld ?_; rotate_left; (· (intro w hSw; (try dsimp only at hSw); go_simp <;> with_reducible rfl)); simp only [Act.put, setF, List.setIfInBounds_toArray, List.set_cons_zero, List.set_cons_succ])
          refine runI 22 rfl (by kernel_rfl) (by kernel_rfl) (fun K hK => ?_)
          have HK := hide hK
          clear hK hHeld
          go_simp
          refine (unhide CMP _ ((unhide U4').below q6) ((unhide U4).below q6)).mono ?_
          rintro e w7 ⟨rfl, b7⟩
          have q7 := below_next q6 b7
          go_simp
          refine (unhide HK).out _ _ ⟨⟨cells2 (block_kept q7 (unhide K4)), cells7 (block_kept q7 (unhide X4))⟩, range7 (range_below (unhide HC4) hbl' q7)⟩ (fun hHeld => ?_)
          clear HK K
          try simp only [List.setIfInBounds_toArray, List.set_cons_zero, List.set_cons_succ]
          refine tkF (.bool false) rfl (by kernel_rfl) (by kernel_rfl) (fun _ _ _ h => h) ?_ hHeld ?_; (· (intro w hSw; (try dsimp only at hSw); go_simp)); simp only [Act.put, setF, List.setIfInBounds_toArray, List.set_cons_zero, List.set_cons_succ]
          refine tkF (.bool false) rfl (by kernel_rfl) (by kernel_rfl) (fun _ _ _ h => h) ?_ hHeld ?_; (· (intro w hSw; (try dsimp only at hSw); go_simp)); simp only [Act.put, setF, List.setIfInBounds_toArray, List.set_cons_zero, List.set_cons_succ]
          iterate 5 (refine tkF ?_ rfl (by kernel_rfl) (by kernel_rfl) (fun _ _ _ h => h) ?_ hHeld ?_; rotate_left; (· (intro w hSw; (try dsimp only at hSw); go_simp <;> with_reducible rfl)); simp only [Act.put, setF, List.setIfInBounds_toArray, List.set_cons_zero, List.set_cons_succ])
          refine runI 30 rfl (by kernel_rfl) (by kernel_rfl) (fun K hK => ?_)
          have HK := hide hK
          clear hK hHeld
          go_simp
          refine (unhide ALO _ ((unhide H4).below q7).recs).mono ?_
          rintro e w8 ⟨rfl, b8⟩
          have q8 := below_next q7 b8
          go_simp
          refine (unhide HK).out _ _ ⟨⟨cells2 (block_kept q8 (unhide K4)), cells7 (block_kept q8 (unhide X4))⟩, range7 (range_below (unhide HC4) hbl' q8)⟩ (fun hHeld => ?_)
          clear HK K
          try simp only [List.setIfInBounds_toArray, List.set_cons_zero, List.set_cons_succ]
          iterate 2 (refine tkF ?_ rfl (by kernel_rfl) (by kernel_rfl) (fun _ _ _ h => h) ?_ hHeld ?_; rotate_left; (· (intro w hSw; (try dsimp only at hSw); go_simp <;> with_reducible rfl)); simp only [Act.put, setF, List.setIfInBounds_toArray, List.set_cons_zero, List.set_cons_succ])
          refine wpAnyH_done (by kernel_rfl) ?_ _
          clear hHeld
          have hsoa := unhide HSOA
          have X8 := hide (block_kept q8 (unhide X4))
          have K8 := hide (block_kept q8 (unhide K4))
          have N8 := hide (((unhide U4).below q8).name)
          have M8 := hide (((unhide H4).below q8).name)
          have bw8 := below_next bw4 q8
          have bb8 := below_next bb4 q8
          have hgd : ∀ (hso : rk.type = 6 → cmpN rk.name o = 0), ∀ j, j < k0 + 1 + 1 → GoodS o rs j := fun hso j hj => by
           by_cases e : j = k0 + 1
           ·subst e
            exact ⟨by rw [unhide HRK]; exact unhide OKK, by rw [unhide HRK]; exact unhide HUN, unhide HNX, unhide HALO, by rw [unhide HRK]; exact hso⟩
           ·exact unhide hall j (by omega)
          have HGD := hide hgd
          clear HSOA hgd
          obtain ⟨p0, p1, p2, p3, p4, p5, p6⟩ := cells7 (unhide X8)
          obtain ⟨r0, r1⟩ := cells2 (unhide K8)
          clear X4 K4 U4 H4 RK UND ALO
          by_cases h6 : rk.type = 6
          ·rw [if_pos h6] at hsoa
           have e6 : (rk.type == 6) = true := by rw [h6]; rfl
           have HS1 := hide hsoa
           have H6 := hide h6
           clear h6 hsoa
           by_cases hc0 : cmpN rk.name o = 0
           ·have CN0 := unhide CN
            rw [hc0] at CN0
            have G9 := hide (unhide HGD (fun _ => hc0))
            clear hc0 CN HGD
            replace CN0 := hide CN0
            go_wp2_with fail
            clear p0 p1 p2 p3 p4 p5 p6 r0 r1
            refine (unhide CN0 _ (unhide N8) (unhide M8)).mono ?_
            rintro e w9 ⟨rfl, b9⟩
            have bw9 := below_next bw8 b9
            obtain ⟨r0, r1⟩ := cells2 (block_kept b9 (unhide K8))
            clear b9
            go_wp2_with fail
            exact ⟨⟨k0 + 1 + 1, by omega, by go_num, by rw [unhide HS1]; go_num, G9, bw9⟩, by simp [intOf]; omega⟩
           ·have hz := zoneOk_badS (unhide HOK) (show k0 + 1 < rs.length by rw [unhide HN]; exact hlt) (fun g => hc0 (by have := g.soa; rw [unhide HRK] at this; exact this (unhide H6)))
            rw [unhide HZZ] at hz
            subst hz
            have e0 : (cmpN rk.name o != 0) = true := by rw [bne_iff_ne]; exact hc0
            generalize cmpN rk.name o = c9 at *
            clear hc0 HZZ HGD HS1
            go_wp2_with fail
            clear p0 p1 p2 p3 p4 p5 p6 r0 r1
            refine (unhide CN _ (unhide N8) (unhide M8)).mono ?_
            rintro e w9 ⟨rfl, b9⟩
            go_wp2_with fail
            go_ret
            exact ⟨rfl, below_next bb8 b9⟩
          ·rw [if_neg h6, Nat.add_zero] at hsoa
           have e6 : (rk.type == 6) = false := by rw [beq_eq_false_iff_ne]; exact h6
           have HS1 := hide hsoa
           have G9 := hide (unhide HGD (fun q => absurd q h6))
           clear h6 hsoa HGD
           go_wp2_with fail
           exact ⟨⟨k0 + 1 + 1, by omega, by go_num, by first | (rw [unhide HS1]; done) | (rw [unhide HS1]; rfl), G9, bw8⟩, by simp [intOf]; omega⟩
        ·have hz := zoneOk_badS (unhide HOK) (show k0 + 1 < rs.length by rw [unhide HN]; exact hlt) (fun g => hlt0 (by have := g.next (by omega); rw [show k0 + 1 - 1 = k0 by omega, unhide HRP, unhide HRK] at this; exact this))
         rw [unhide HZZ] at hz
         subst hz
         have hge : 0 ≤ cmpR rp rk := by omega
         generalize cmpR rp rk = cc at *
         replace CMP := hide CMP
         clear hlt0 HZZ HSOA AL CN ALO
         go_wp2_with fail
         clear c0 c1 c2 c3 c4 c5 c6 zc0 zc1
         refine wp_region_held_drew (S := (fun w' => ((w'.cell? ⟨w.heap.size, 0, none⟩ = some (.slice oa o.length oc) ∧ w'.cell? ⟨w.heap.size, 1, none⟩ = some (.slice (some ⟨b, off, none⟩) m rc)) ∧ (w'.cell? ⟨wr.heap.size, 0, none⟩ = some (.slice na rk.name.length nc) ∧ w'.cell? ⟨wr.heap.size, 1, none⟩ = some (.int .i64 rk.type) ∧ w'.cell? ⟨wr.heap.size, 2, none⟩ = some (.int .i64 rk.ttl) ∧ w'.cell? ⟨wr.heap.size, 3, none⟩ = some (.int .i64 rk.addr) ∧ w'.cell? ⟨wr.heap.size, 4, none⟩ = some (.slice ta rk.to.length tc) ∧ w'.cell? ⟨wr.heap.size, 5, none⟩ = some (.slice xa rk.text.length xc) ∧ w'.cell? ⟨wr.heap.size, 6, none⟩ = some (.slice ia rk.nums.length ic))) ∧ (w'.cell? ⟨b, off + k0 * 7, none⟩ = some (.slice na' rp.name.length nc') ∧ w'.cell? ⟨b, off + k0 * 7 + 1, none⟩ = some (.int .i64 rp.type) ∧ w'.cell? ⟨b, off + k0 * 7 + 2, none⟩ = some (.int .i64 rp.ttl) ∧ w'.cell? ⟨b, off + k0 * 7 + 3, none⟩ = some (.int .i64 rp.addr) ∧ w'.cell? ⟨b, off + k0 * 7 + 4, none⟩ = some (.slice ta' rp.to.length tc') ∧ w'.cell? ⟨b, off + k0 * 7 + 5, none⟩ = some (.slice xa' rp.text.length xc') ∧ w'.cell? ⟨b, off + k0 * 7 + 6, none⟩ = some (.slice ia' rp.nums.length ic')))) (by kernel_rfl) ⟨⟨cells2 (unhide K4), cells7 (unhide X4)⟩, range7 (unhide HC4)⟩ (fun hHeld => ?_)
         show wpAnyH _ _ _ _ _ 33 #[false, false, false, false, false, false, false, false, false, false, false, false, false, false, false, false, false, false, false, false, false, false, false, false, false, false, false, false, false, false, false, false, false] _ _
         refine tkF ?_ rfl (by kernel_rfl) (by kernel_rfl) (fun _ _ _ h => h) ?_ hHeld ?_; rotate_left; (· (intro w hSw; (try dsimp only at hSw); go_simp <;> with_reducible rfl)); simp only [Act.put, setF, List.setIfInBounds_toArray, List.set_cons_zero, List.set_cons_succ]
         refine runI 1 rfl (by kernel_rfl) (by kernel_rfl) (fun K hK => ?_)
         have HK := hide hK
         clear hK hHeld
         go_simp
         refine (unhide RK).mono ?_
         rintro e w5 ⟨rfl, q5⟩
         go_simp
         refine (unhide HK).out _ _ ⟨⟨cells2 (block_kept q5 (unhide K4)), cells7 (block_kept q5 (unhide X4))⟩, range7 (range_below (unhide HC4) hbl' q5)⟩ (fun hHeld => ?_)
         clear HK K
         try simp only [List.setIfInBounds_toArray, List.set_cons_zero, List.set_cons_succ]
         iterate 6 (refine tkF ?_ rfl (by kernel_rfl) (by kernel_rfl) (fun _ _ _ h => h) ?_ hHeld ?_; rotate_left; (· (intro w hSw; (try dsimp only at hSw); go_simp <;> with_reducible rfl)); simp only [Act.put, setF, List.setIfInBounds_toArray, List.set_cons_zero, List.set_cons_succ])
         refine runI 8 rfl (by kernel_rfl) (by kernel_rfl) (fun K hK => ?_)
         have HK := hide hK
         clear hK hHeld
         go_simp
         refine (unhide UND _ ((unhide U4).below q5).name ((unhide H4).below q5).name).mono ?_
         rintro e w6 ⟨rfl, b6⟩
         have q6 := below_next q5 b6
         go_simp
         refine (unhide HK).out _ _ ⟨⟨cells2 (block_kept q6 (unhide K4)), cells7 (block_kept q6 (unhide X4))⟩, range7 (range_below (unhide HC4) hbl' q6)⟩ (fun hHeld => ?_)
         clear HK K
         try simp only [List.setIfInBounds_toArray, List.set_cons_zero, List.set_cons_succ]
         iterate 4 (refine tkF ?_ rfl (by kernel_rfl) (by kernel_rfl) (fun _ _ _ h => h) ?_ hHeld ?_; rotate_left; (· (intro w hSw; (try dsimp only at hSw); go_simp <;> with_reducible rfl)); simp only [Act.put, setF, List.setIfInBounds_toArray, List.set_cons_zero, List.set_cons_succ])
         refine tkF (.bool true) rfl (by kernel_rfl) (by kernel_rfl) (fun _ _ _ h => h) ?_ hHeld ?_; (· (intro w hSw; (try dsimp only at hSw); go_simp)); simp only [Act.put, setF, List.setIfInBounds_toArray, List.set_cons_zero, List.set_cons_succ]
         refine tkF (.bool true) rfl (by kernel_rfl) (by kernel_rfl) (fun _ _ _ h => h) ?_ hHeld ?_; (· (intro w hSw; (try dsimp only at hSw); go_simp)); simp only [Act.put, setF, List.setIfInBounds_toArray, List.set_cons_zero, List.set_cons_succ]
         iterate 2 (refine tkF ?_ rfl (by kernel_rfl) (by kernel_rfl) (fun _ _ _ h => h) ?_ hHeld ?_; rotate_left; (· (intro w hSw; (try dsimp only at hSw); go_simp <;> with_reducible rfl)); simp only [Act.put, setF, List.setIfInBounds_toArray, List.set_cons_zero, List.set_cons_succ])
         refine tkF (.int .i64 (k0 + 1 : Nat)) rfl (by kernel_rfl) (by kernel_rfl) (fun _ _ _ h => h) ?_ hHeld ?_; (· (intro w hSw; (try dsimp only at hSw); go_simp)); simp only [Act.put, setF, List.setIfInBounds_toArray, List.set_cons_zero, List.set_cons_succ]
         refine tkF (.int .i64 (k0 : Nat)) rfl (by kernel_rfl) (by kernel_rfl) (fun _ _ _ h => h) ?_ hHeld ?_; (· (intro w hSw; (try dsimp only at hSw); go_simp)); simp only [Act.put, setF, List.setIfInBounds_toArray, List.set_cons_zero, List.set_cons_succ]
         refine tkF (.pointer (some ⟨b, off + k0 * 7, none⟩)) rfl (by kernel_rfl) (by kernel_rfl) (fun _ _ _ h => h) ?_ hHeld ?_; (· (intro w hSw; (try dsimp only at hSw); go_simp)); simp only [Act.put, setF, List.setIfInBounds_toArray, List.set_cons_zero, List.set_cons_succ]
         iterate 2 (refine tkF ?_ rfl (by kernel_rfl) (by kernel_rfl) (fun _ _ _ h => h) ?_ hHeld ?_; rotate_left; (· (intro w hSw; (try dsimp only at hSw); go_simp <;> with_reducible rfl)); simp only [Act.put, setF, List.setIfInBounds_toArray, List.set_cons_zero, List.set_cons_succ])
         refine runI 22 rfl (by kernel_rfl) (by kernel_rfl) (fun K hK => ?_)
         have HK := hide hK
         clear hK hHeld
         go_simp
         refine (unhide CMP _ ((unhide U4').below q6) ((unhide U4).below q6)).mono ?_
         rintro e w7 ⟨rfl, b7⟩
         have q7 := below_next q6 b7
         go_simp
         refine (unhide HK).out _ _ ⟨⟨cells2 (block_kept q7 (unhide K4)), cells7 (block_kept q7 (unhide X4))⟩, range7 (range_below (unhide HC4) hbl' q7)⟩ (fun hHeld => ?_)
         clear HK K
         try simp only [List.setIfInBounds_toArray, List.set_cons_zero, List.set_cons_succ]
         refine tkF (.bool true) rfl (by kernel_rfl) (by kernel_rfl) (fun _ _ _ h => h) ?_ hHeld ?_; (· (intro w hSw; (try dsimp only at hSw); go_simp)); simp only [Act.put, setF, List.setIfInBounds_toArray, List.set_cons_zero, List.set_cons_succ]
         refine tkF (.bool true) rfl (by kernel_rfl) (by kernel_rfl) (fun _ _ _ h => h) ?_ hHeld ?_; (· (intro w hSw; (try dsimp only at hSw); go_simp)); simp only [Act.put, setF, List.setIfInBounds_toArray, List.set_cons_zero, List.set_cons_succ]
         iterate 2 (refine tkF ?_ rfl (by kernel_rfl) (by kernel_rfl) (fun _ _ _ h => h) ?_ hHeld ?_; rotate_left; (· (intro w hSw; (try dsimp only at hSw); go_simp <;> with_reducible rfl)); simp only [Act.put, setF, List.setIfInBounds_toArray, List.set_cons_zero, List.set_cons_succ])
         iterate 5 (refine skF rfl (by kernel_rfl) (by kernel_rfl) (fun _ _ _ h => h) hHeld ?_; simp only [Act.put, setF, List.setIfInBounds_toArray, List.set_cons_zero, List.set_cons_succ])
         refine tkF ?_ rfl (by kernel_rfl) (by kernel_rfl) (fun _ _ _ h => h) ?_ hHeld ?_; rotate_left; (· (intro w hSw; (try dsimp only at hSw); go_simp <;> with_reducible rfl)); simp only [Act.put, setF, List.setIfInBounds_toArray, List.set_cons_zero, List.set_cons_succ]
         refine wpAnyH_done (by kernel_rfl) ?_ _
         clear hHeld
         go_wp2_with fail
         go_ret
         exact ⟨rfl, below_next bb4 q7⟩
    ·obtain rfl : k = m := by omega
     have hz := zoneOk_endS (unhide HOK) (by rw [unhide HN]; omega) (by rw [unhide HN]; exact unhide hall)
     rw [unhide HZZ, unhide HN] at hz
     have h1 := one_count2 (soas rs k)
     rw [← hz] at h1
     clear hz HZZ
     obtain ⟨zc0, zc1⟩ := cells2 (block_kept hb (unhide K1))
     go_wp2
     go_ret
     exact ⟨rfl, below_next bb1 hb⟩
  ·rw [zoneOk_long (by omega)]
   have h60' : (60 : Int) < rs.length := by omega
   go_enter Tryz.func23, Tryz.ntmps23
   go_wp2_with fail
   generalize w.alloc (.cells #[.slice oa o.length oc, .slice ra rs.length rc] 33) = W at *
   refine (unhide NO).mono ?_
   rintro e w1 ⟨rfl, b1⟩
   obtain ⟨d0, d1⟩ := cells2 (block_kept b1 (unhide K0))
   go_wp2_with fail
   go_ret
   exact ⟨rfl, below_next b0 b1⟩
end Go.Proofs.YtfgcmjpkgdjcfaaGreat

namespace Go.Proofs.YtfgcmjpkgdjcfaaGreat
open Go.RowKit
set_option linter.unusedVariables false

theorem ownN_nilS (B E : Nat) (el eb : TypeId) (w : World) : OwnN B E el eb w (.slice none 0 0) [] := ⟨[], World.ownsRow_nil _ _ _ _, (fun i hi => absurd hi (by simp)), by simp, (fun q hq => by cases hq), by simp⟩

set_option maxHeartbeats 4000000 in
set_option maxRecDepth 100000 in
theorem specZoneNew_q {vo : Value} {o : List (List Int)} {s : Int} {w : World} (h : HasL w vo o) (hs : o.length ≤ 1048576) :
  Calls Tryz.prog 44 #[.agg #[vo], .int .i64 s] w fun e w' => ∃ uo ur, e = .returned (.tuple #[.agg #[uo, ur], .bool (zoneNewOf o s).2]) ∧ (OwnL w.heap.size 56 5 w' uo (zoneNewOf o s).1.1 ∧ RowQ w.heap.size 59 56 5 3 w' ur (zoneNewOf o s).1.2) ∧ Below w.heap.size w w' := by
 obtain ⟨oa, oc, rfl, _⟩ := h.form
 have k1 : (((((w.alloc (.cells #[.slice oa o.length oc] 30)).alloc (.cells #[.slice none 0 0, .slice none 0 0] 33)).alloc (.cells #[.int .i64 s, .int .i64 60] 3)).alloc (.cells #[.slice oa o.length oc, .int .i64 6, .int .i64 60, .int .i64 0, .slice oa o.length oc, .slice none 0 0, .slice (some ⟨w.heap.size + 1 + 1, 0, none⟩) 2 2] 59)).alloc (.cells #[.slice oa o.length oc, .slice (some ⟨w.heap.size + 1 + 1 + 1, 0, none⟩) 1 1] 33)).heap[w.heap.size + 1]? = some (.cells #[.slice none 0 0, .slice none 0 0] 33) := by
   have := block_kept (below_alloc (w := ((((w.alloc (.cells #[.slice oa o.length oc] 30)).alloc (.cells #[.slice none 0 0, .slice none 0 0] 33)).alloc (.cells #[.int .i64 s, .int .i64 60] 3)).alloc (.cells #[.slice oa o.length oc, .int .i64 6, .int .i64 60, .int .i64 0, .slice oa o.length oc, .slice none 0 0, .slice (some ⟨w.heap.size + 1 + 1, 0, none⟩) 2 2] 59))) (.cells #[.slice oa o.length oc, .slice (some ⟨w.heap.size + 1 + 1 + 1, 0, none⟩) 1 1] 33)) (block_kept (below_alloc (w := (((w.alloc (.cells #[.slice oa o.length oc] 30)).alloc (.cells #[.slice none 0 0, .slice none 0 0] 33)).alloc (.cells #[.int .i64 s, .int .i64 60] 3))) (.cells #[.slice oa o.length oc, .int .i64 6, .int .i64 60, .int .i64 0, .slice oa o.length oc, .slice none 0 0, .slice (some ⟨w.heap.size + 1 + 1, 0, none⟩) 2 2] 59)) (block_kept (below_alloc (w := ((w.alloc (.cells #[.slice oa o.length oc] 30)).alloc (.cells #[.slice none 0 0, .slice none 0 0] 33))) (.cells #[.int .i64 s, .int .i64 60] 3)) (heap_alloc_new (w.alloc (.cells #[.slice oa o.length oc] 30)) (.cells #[.slice none 0 0, .slice none 0 0] 33))))
   simpa using this
 have k2 : (((((w.alloc (.cells #[.slice oa o.length oc] 30)).alloc (.cells #[.slice none 0 0, .slice none 0 0] 33)).alloc (.cells #[.int .i64 s, .int .i64 60] 3)).alloc (.cells #[.slice oa o.length oc, .int .i64 6, .int .i64 60, .int .i64 0, .slice oa o.length oc, .slice none 0 0, .slice (some ⟨w.heap.size + 1 + 1, 0, none⟩) 2 2] 59)).alloc (.cells #[.slice oa o.length oc, .slice (some ⟨w.heap.size + 1 + 1 + 1, 0, none⟩) 1 1] 33)).heap[w.heap.size + 1 + 1]? = some (.cells #[.int .i64 s, .int .i64 60] 3) := by
   have := block_kept (below_alloc (w := ((((w.alloc (.cells #[.slice oa o.length oc] 30)).alloc (.cells #[.slice none 0 0, .slice none 0 0] 33)).alloc (.cells #[.int .i64 s, .int .i64 60] 3)).alloc (.cells #[.slice oa o.length oc, .int .i64 6, .int .i64 60, .int .i64 0, .slice oa o.length oc, .slice none 0 0, .slice (some ⟨w.heap.size + 1 + 1, 0, none⟩) 2 2] 59))) (.cells #[.slice oa o.length oc, .slice (some ⟨w.heap.size + 1 + 1 + 1, 0, none⟩) 1 1] 33)) (block_kept (below_alloc (w := (((w.alloc (.cells #[.slice oa o.length oc] 30)).alloc (.cells #[.slice none 0 0, .slice none 0 0] 33)).alloc (.cells #[.int .i64 s, .int .i64 60] 3))) (.cells #[.slice oa o.length oc, .int .i64 6, .int .i64 60, .int .i64 0, .slice oa o.length oc, .slice none 0 0, .slice (some ⟨w.heap.size + 1 + 1, 0, none⟩) 2 2] 59)) (heap_alloc_new ((w.alloc (.cells #[.slice oa o.length oc] 30)).alloc (.cells #[.slice none 0 0, .slice none 0 0] 33)) (.cells #[.int .i64 s, .int .i64 60] 3)))
   simpa using this
 have k3 : (((((w.alloc (.cells #[.slice oa o.length oc] 30)).alloc (.cells #[.slice none 0 0, .slice none 0 0] 33)).alloc (.cells #[.int .i64 s, .int .i64 60] 3)).alloc (.cells #[.slice oa o.length oc, .int .i64 6, .int .i64 60, .int .i64 0, .slice oa o.length oc, .slice none 0 0, .slice (some ⟨w.heap.size + 1 + 1, 0, none⟩) 2 2] 59)).alloc (.cells #[.slice oa o.length oc, .slice (some ⟨w.heap.size + 1 + 1 + 1, 0, none⟩) 1 1] 33)).heap[w.heap.size + 1 + 1 + 1]? = some (.cells #[.slice oa o.length oc, .int .i64 6, .int .i64 60, .int .i64 0, .slice oa o.length oc, .slice none 0 0, .slice (some ⟨w.heap.size + 1 + 1, 0, none⟩) 2 2] 59) := by
   have := block_kept (below_alloc (w := ((((w.alloc (.cells #[.slice oa o.length oc] 30)).alloc (.cells #[.slice none 0 0, .slice none 0 0] 33)).alloc (.cells #[.int .i64 s, .int .i64 60] 3)).alloc (.cells #[.slice oa o.length oc, .int .i64 6, .int .i64 60, .int .i64 0, .slice oa o.length oc, .slice none 0 0, .slice (some ⟨w.heap.size + 1 + 1, 0, none⟩) 2 2] 59))) (.cells #[.slice oa o.length oc, .slice (some ⟨w.heap.size + 1 + 1 + 1, 0, none⟩) 1 1] 33)) (heap_alloc_new (((w.alloc (.cells #[.slice oa o.length oc] 30)).alloc (.cells #[.slice none 0 0, .slice none 0 0] 33)).alloc (.cells #[.int .i64 s, .int .i64 60] 3)) (.cells #[.slice oa o.length oc, .int .i64 6, .int .i64 60, .int .i64 0, .slice oa o.length oc, .slice none 0 0, .slice (some ⟨w.heap.size + 1 + 1, 0, none⟩) 2 2] 59))
   simpa using this
 have k4 : (((((w.alloc (.cells #[.slice oa o.length oc] 30)).alloc (.cells #[.slice none 0 0, .slice none 0 0] 33)).alloc (.cells #[.int .i64 s, .int .i64 60] 3)).alloc (.cells #[.slice oa o.length oc, .int .i64 6, .int .i64 60, .int .i64 0, .slice oa o.length oc, .slice none 0 0, .slice (some ⟨w.heap.size + 1 + 1, 0, none⟩) 2 2] 59)).alloc (.cells #[.slice oa o.length oc, .slice (some ⟨w.heap.size + 1 + 1 + 1, 0, none⟩) 1 1] 33)).heap[w.heap.size + 1 + 1 + 1 + 1]? = some (.cells #[.slice oa o.length oc, .slice (some ⟨w.heap.size + 1 + 1 + 1, 0, none⟩) 1 1] 33) := by
   have := heap_alloc_new ((((w.alloc (.cells #[.slice oa o.length oc] 30)).alloc (.cells #[.slice none 0 0, .slice none 0 0] 33)).alloc (.cells #[.int .i64 s, .int .i64 60] 3)).alloc (.cells #[.slice oa o.length oc, .int .i64 6, .int .i64 60, .int .i64 0, .slice oa o.length oc, .slice none 0 0, .slice (some ⟨w.heap.size + 1 + 1, 0, none⟩) 2 2] 59)) (.cells #[.slice oa o.length oc, .slice (some ⟨w.heap.size + 1 + 1 + 1, 0, none⟩) 1 1] 33)
   simpa using this
 have b0 : Below w.heap.size w (((((w.alloc (.cells #[.slice oa o.length oc] 30)).alloc (.cells #[.slice none 0 0, .slice none 0 0] 33)).alloc (.cells #[.int .i64 s, .int .i64 60] 3)).alloc (.cells #[.slice oa o.length oc, .int .i64 6, .int .i64 60, .int .i64 0, .slice oa o.length oc, .slice none 0 0, .slice (some ⟨w.heap.size + 1 + 1, 0, none⟩) 2 2] 59)).alloc (.cells #[.slice oa o.length oc, .slice (some ⟨w.heap.size + 1 + 1 + 1, 0, none⟩) 1 1] 33)) := (((((Below.refl _ w).alloc (by simp) (.cells #[.slice oa o.length oc] 30)).alloc (by simp) (.cells #[.slice none 0 0, .slice none 0 0] 33)).alloc (by simp; omega) (.cells #[.int .i64 s, .int .i64 60] 3)).alloc (by simp; omega) (.cells #[.slice oa o.length oc, .int .i64 6, .int .i64 60, .int .i64 0, .slice oa o.length oc, .slice none 0 0, .slice (some ⟨w.heap.size + 1 + 1, 0, none⟩) 2 2] 59)).alloc (by simp; omega) (.cells #[.slice oa o.length oc, .slice (some ⟨w.heap.size + 1 + 1 + 1, 0, none⟩) 1 1] 33)
 have ez : (((((w.alloc (.cells #[.slice oa o.length oc] 30)).alloc (.cells #[.slice none 0 0, .slice none 0 0] 33)).alloc (.cells #[.int .i64 s, .int .i64 60] 3)).alloc (.cells #[.slice oa o.length oc, .int .i64 6, .int .i64 60, .int .i64 0, .slice oa o.length oc, .slice none 0 0, .slice (some ⟨w.heap.size + 1 + 1, 0, none⟩) 2 2] 59)).alloc (.cells #[.slice oa o.length oc, .slice (some ⟨w.heap.size + 1 + 1 + 1, 0, none⟩) 1 1] 33)).heap.size = w.heap.size + 1 + 1 + 1 + 1 + 1 := by simp
 have HZ := hide (soa_has (h.below b0) k3 k2)
 have K1 := hide k1
 have K9 := hide k4
 have zz : w.heap.size + 5 ≤ (((((w.alloc (.cells #[.slice oa o.length oc] 30)).alloc (.cells #[.slice none 0 0, .slice none 0 0] 33)).alloc (.cells #[.int .i64 s, .int .i64 60] 3)).alloc (.cells #[.slice oa o.length oc, .int .i64 6, .int .i64 60, .int .i64 0, .slice oa o.length oc, .slice none 0 0, .slice (some ⟨w.heap.size + 1 + 1, 0, none⟩) 2 2] 59)).alloc (.cells #[.slice oa o.length oc, .slice (some ⟨w.heap.size + 1 + 1 + 1, 0, none⟩) 1 1] 33)).heap.size := by omega
 clear k1 k2 k3 k4 h ez
 generalize hRes : zoneNewOf o s = Res
 have HQ0 := hide hRes
 clear hRes
 go_enter Tryz.func44, Tryz.ntmps44
 go_wp2_with fail
 generalize (((((w.alloc (.cells #[.slice oa o.length oc] 30)).alloc (.cells #[.slice none 0 0, .slice none 0 0] 33)).alloc (.cells #[.int .i64 s, .int .i64 60] 3)).alloc (.cells #[.slice oa o.length oc, .int .i64 6, .int .i64 60, .int .i64 0, .slice oa o.length oc, .slice none 0 0, .slice (some ⟨w.heap.size + 1 + 1, 0, none⟩) 2 2] 59)).alloc (.cells #[.slice oa o.length oc, .slice (some ⟨w.heap.size + 1 + 1 + 1, 0, none⟩) 1 1] 33)) = W at *
 refine (specZoneOk_has (unhide HZ) (fun k hk => by simp at hk; subst hk; exact hs)).mono ?_
 rintro e w1 ⟨rfl, b1⟩
 have bb := below_next b0 b1
 have r1 := block_kept b1 (unhide K1)
 have K2 := hide (block_kept b1 (unhide K9))
 have H1 := hide ((unhide HZ).below b1)
 have z1 := b1.size
 clear b0 b1 HZ K1 K9
 have hRes := unhide HQ0
 unfold zoneNewOf at hRes
 clear HQ0
 cases hok : zoneOk o [soaOf o s] with
 | false =>
  rw [hok, if_neg (by simp)] at hRes
  subst hRes
  obtain ⟨d0, d1⟩ := cells2 r1
  obtain ⟨f0, f1⟩ := frozen2 r1
  have R1 := hide r1
  clear r1 hok
  go_wp2_with fail
  clear d0 d1 f0 f1
  have kf : ((w1.setCell ⟨w.heap.size + 1, 0, none⟩ (.slice none 0 0)).setCell ⟨w.heap.size + 1, 1, none⟩ (.slice none 0 0)).heap[w.heap.size + 1]? = some (.cells #[.slice none 0 0, .slice none 0 0] 33) := block_setAt (block_setAt (unhide R1) 0 _) 1 _
  have u5 := (outside_set w1 (w.heap.size + 1) 0 (.slice none 0 0)).trans (outside_set _ (w.heap.size + 1) 1 (.slice none 0 0))
  have z5 := u5.size
  refine bodyPost_ret (results_cell_tmp_row rfl _ _ (w.heap.size + 1) 33 #[.slice none 0 0, .slice none 0 0] (0, 0) _ rfl kf Tryz.underlying33 rfl (by kernel_rfl)) rfl ?_
  exact ⟨_, _, rfl, ⟨(ownN_nilS _ 0 _ _ _).ownL, RowQ.nil _ _ _ _ _ _⟩, u5.below bb (by omega)⟩
 | true =>
  rw [hok, if_pos rfl] at hRes
  subst hRes
  have HC := hide (l5own_has (unhide H1) (zone_short hok).1 (zone_short hok).2.1 (Nat.le_trans (zone_short hok).2.2 (by decide)))
  have R1 := hide r1
  obtain ⟨c0, c1⟩ := cells2 (unhide K2)
  clear r1 hok
  go_wp2_with fail
  clear c0 c1
  refine (unhide HC).mono ?_
  rintro e w2 ⟨uo, ur, rfl, oN, oR, b2⟩
  obtain ⟨pa, pc, rfl, _⟩ := oN.hasL.form
  obtain ⟨qa, qc, rfl, _⟩ := oR.form
  have ON := hide oN
  have OR := hide oR
  have R2 := hide (block_kept b2 (unhide R1))
  replace bb := below_next bb b2
  have z2 := b2.size
  obtain ⟨d0, d1⟩ := cells2 (unhide R2)
  obtain ⟨f0, f1⟩ := frozen2 (unhide R2)
  clear b2 oN oR HC R1 K2
  go_wp2_with fail
  clear d0 d1 f0 f1
  have kf : ((w2.setCell ⟨w.heap.size + 1, 0, none⟩ (.slice pa o.length pc)).setCell ⟨w.heap.size + 1, 1, none⟩ (.slice qa 1 qc)).heap[w.heap.size + 1]? = some (.cells #[.slice pa o.length pc, .slice qa 1 qc] 33) := block_setAt (block_setAt (unhide R2) 0 _) 1 _
  have u5 := (outside_set w2 (w.heap.size + 1) 0 (.slice pa o.length pc)).trans (outside_set _ (w.heap.size + 1) 1 (.slice qa 1 qc))
  have z5 := u5.size
  refine bodyPost_ret (results_cell_tmp_row rfl _ _ (w.heap.size + 1) 33 #[.slice pa o.length pc, .slice qa 1 qc] (0, 0) _ rfl kf Tryz.underlying33 rfl (by kernel_rfl)) rfl ?_
  exact ⟨_, _, rfl, ⟨(((unhide ON).here.outside u5 (.inr (by omega))).ownL).mono (by omega), ((unhide OR).off (unhide R2) (by decide) (by decide) (by decide) (by decide) (grown_trans (grown_setCell w2 ⟨w.heap.size + 1, 0, none⟩ (.slice pa o.length pc)) (grown_setCell _ ⟨w.heap.size + 1, 1, none⟩ (.slice qa 1 qc)))).mono (by omega)⟩, u5.below bb (by omega)⟩
end Go.Proofs.YtfgcmjpkgdjcfaaGreat
