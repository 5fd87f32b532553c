/-
  Contract of the program's ZoneOk. Contract of the program's SetOf. Plain facts: an append of one record to a row of records.
-/
import Derived.Test.YtmlcmkoefelolaaGreatSetOfG33
import Derived.Test.YtmlcmkoefelolaaGreatSetOfG24
import Derived.Deep.RegionHeld3
import Derived.Test.YtmlcmkoefelolaaGreatSetOfG30
import Derived.Test.YtmlcmkoefelolaaGreatSetOfG06
import Derived.Test.YtmlcmkoefelolaaGreatSetOfG17
import Derived.Test.YtmlcmkoefelolaaGreatSetOfG08
namespace Go.Proofs.YtmlcmkoefelolaaGreat
open Go.RowKit
set_option linter.unusedVariables false

theorem one_count (n : Nat) : (((n : Nat) : Int) == 1) = decide (n = 1) := by
 rw [Bool.eq_iff_iff, beq_iff_eq, decide_eq_true_iff]
 omega

set_option maxHeartbeats 1600000 in
set_option maxRecDepth 100000 in
theorem implZoneOk_has {vo vr : Value} {o : List (List Int)} {rs : List Rec} {w : World} (h : HasZ w vo vr o rs) :
  Calls Tryz.prog 49 #[.agg #[vo, vr]] w fun e w' => e = .returned (.bool (zoneOk o rs)) ∧ Below w.heap.size w w' := by
 obtain ⟨oa, oc, rfl, _⟩ := h.name.form
 obtain ⟨ra, rc, rfl, hrl, hrm⟩ := h.recs.form
 have b0 := below_alloc (w := w) (.cells #[.slice oa o.length oc, .slice ra rs.length rc] 34)
 have k0 := heap_alloc_new w (.cells #[.slice oa o.length oc, .slice ra rs.length rc] 34)
 have H0 := hide (h.below b0)
 have K0 := hide k0
 have NO := implNameOk_has (h.below b0).name
 clear h k0 hrl hrm
 cases hok : nameOk o with
 | false =>
  rw [zoneOk_name hok]
  rw [hok] at NO
  replace NO := hide NO
  clear hok
  go_enter Tryz.func49, Tryz.ntmps49
  go_wp2_with fail
  refine (unhide NO).mono ?_
  rintro e w1 ⟨rfl, b1⟩
  go_wp2_with fail
  go_ret
  exact ⟨rfl, below_next b0 b1⟩
 | true =>
  rw [hok] at NO
  replace NO := hide NO
  by_cases h60 : rs.length ≤ 60
  ·generalize hzz : zoneOk o rs = ZZ
   have HZZ := hide hzz
   have HOK := hide hok
   clear hzz hok
   go_enter Tryz.func49, Tryz.ntmps49
   go_wp2_with fail
   generalize w.alloc (.cells #[.slice oa o.length oc, .slice ra rs.length rc] 34) = W at *
   refine (unhide NO).mono ?_
   rintro e w1 ⟨rfl, b1⟩
   have K1 := hide (block_kept b1 (unhide K0))
   have H1 := hide ((unhide H0).below b1)
   have bb1 := below_next b0 b1
   obtain ⟨d0, d1⟩ := cells2 (unhide K1)
   clear NO K0 H0 b0 b1
   generalize hn : rs.length = m at *
   have HN := hide hn
   clear hn
   have h60' : ¬ ((60 : Int) < m) := by omega
   go_wp2_with fail
   clear d0 d1
   go_loopw [3, 19] (fun s i wr => ∃ (k : Nat), k ≤ m ∧ i = .int .i64 k ∧ s = .int .i64 (soas rs k : Nat) ∧ Hid (∀ j, j < k → goodI o rs j = true) ∧ Below w1.heap.size w1 wr) (fun _ i _ => m - (intOf i).toNat)
   case atStart => exact ⟨0, Nat.zero_le _, rfl, rfl, hide (fun j hj => absurd hj (Nat.not_lt_zero _)), Below.refl _ _⟩
   case round =>
    obtain ⟨k, hk, rfl, rfl, hall, hb⟩ := hrel
    have hsk := soas_le rs k
    by_cases hlt : k < m
    ·obtain ⟨b, off, na, nc, ta, tc, xa, xc, ia, ic, rfl, hbl, hc, hu⟩ := ((unhide H1).below hb).recs.here (k := k) (by rw [unhide HN]; exact hlt)
     have K2 := hide (block_kept hb (unhide K1))
     have H2 := hide ((unhide H1).below hb)
     have bb2 := below_next bb1 hb
     have hgood : goodI o rs k = (inZone o (rs.getD k recZ) && (decide (k = 0) || follows (rs.getD (k - 1) recZ) (rs.getD k recZ))) := rfl
     have HGOOD := hide hgood
     have hsoa : soas rs (k + 1) = soas rs k + if (rs.getD k recZ).type = 6 then 1 else 0 := rfl
     have HSOA := hide hsoa
     clear hgood hsoa
     generalize hrk : rs.getD k recZ = rk at *
     have HRK := hide hrk
     clear hrk
     have b3 := below_alloc (w := wr) (.cells #[.slice na rk.name.length nc, .int .i64 rk.type, .int .i64 rk.ttl, .int .i64 rk.addr, .slice ta rk.to.length tc, .slice xa rk.text.length xc, .slice ia rk.nums.length ic] 52)
     have X3 := heap_alloc_new wr (.cells #[.slice na rk.name.length nc, .int .i64 rk.type, .int .i64 rk.ttl, .int .i64 rk.addr, .slice ta rk.to.length tc, .slice xa rk.text.length xc, .slice ia rk.nums.length ic] 52)
     have bd := below_drew (w := wr.alloc (.cells #[.slice na rk.name.length nc, .int .i64 rk.type, .int .i64 rk.ttl, .int .i64 rk.addr, .slice ta rk.to.length tc, .slice xa rk.text.length xc, .slice ia rk.nums.length ic] 52))
     have b4 := below_next b3 bd
     have X4 := hide (block_kept bd X3)
     have K4 := hide (block_kept b4 (unhide K2))
     have H4 := hide ((unhide H2).below b4)
     have U4 := hide (hu.below b4)
     have bb4 := below_next bb2 b4
     have bw4 := below_next hb b4
     have z4 := b4.size
     obtain ⟨c0, c1, c2, c3, c4, c5, c6⟩ := range7 hc
     clear b3 X3 bd b4 hu hc K2 H2 hb
     cases hin : inZone o rk with
     | false =>
      have hbad : goodI o rs k = false := by rw [unhide HGOOD, hin, Bool.false_and]
      have hz := zoneOk_bad (by rw [unhide HN]; exact hlt) hbad
      rw [unhide HZZ] at hz
      subst hz
      have MB := mayBeIn_has (unhide H4).name (unhide U4)
      rw [hin] at MB
      replace MB := hide MB
      clear hbad hin HGOOD HZZ HSOA
      go_wp2_with fail
      clear c0 c1 c2 c3 c4 c5 c6
      refine wp_region_held_drew (S := (fun w' => (w'.cell? ⟨w.heap.size, 0, none⟩ = some (.slice oa o.length oc) ∧ w'.cell? ⟨w.heap.size, 1, none⟩ = some (.slice (some ⟨b, off, none⟩) m rc)) ∧ (w'.cell? ⟨wr.heap.size, 0, none⟩ = some (.slice na rk.name.length nc) ∧ w'.cell? ⟨wr.heap.size, 1, none⟩ = some (.int .i64 rk.type) ∧ w'.cell? ⟨wr.heap.size, 2, none⟩ = some (.int .i64 rk.ttl) ∧ w'.cell? ⟨wr.heap.size, 3, none⟩ = some (.int .i64 rk.addr) ∧ w'.cell? ⟨wr.heap.size, 4, none⟩ = some (.slice ta rk.to.length tc) ∧ w'.cell? ⟨wr.heap.size, 5, none⟩ = some (.slice xa rk.text.length xc) ∧ w'.cell? ⟨wr.heap.size, 6, none⟩ = some (.slice ia rk.nums.length ic)))) (by kernel_rfl) ⟨cells2 (unhide K4), cells7 (unhide X4)⟩ (fun hHeld => ?_)
      show wpAnyH _ _ _ _ _ 20 #[false, false, false, false, false, false, false, false, false, false, false, false, false, false, false, false, false, false, false, false] _ _
      iterate 3 (refine tkF ?_ rfl (by kernel_rfl) (by kernel_rfl) (fun _ _ _ h => h) ?_ hHeld ?_; rotate_left; (· (intro w hSw; (try dsimp only at hSw); go_simp <;> with_reducible rfl)); simp only [Act.put, setF, List.setIfInBounds_toArray, List.set_cons_zero, List.set_cons_succ])
      refine runI 3 rfl (by kernel_rfl) (by kernel_rfl) (fun K hK => ?_)
      have HK := hide hK
      clear hK hHeld
      go_simp
      refine (unhide MB).mono ?_
      rintro e w5 ⟨rfl, b5⟩
      go_simp
      refine (unhide HK).out _ _ ⟨cells2 (block_kept b5 (unhide K4)), cells7 (block_kept b5 (unhide X4))⟩ (fun hHeld => ?_)
      clear HK K
      try simp only [List.setIfInBounds_toArray, List.set_cons_zero, List.set_cons_succ]
      iterate 2 (refine tkF ?_ rfl (by kernel_rfl) (by kernel_rfl) (fun _ _ _ h => h) ?_ hHeld ?_; rotate_left; (· (intro w hSw; (try dsimp only at hSw); go_simp <;> with_reducible rfl)); simp only [Act.put, setF, List.setIfInBounds_toArray, List.set_cons_zero, List.set_cons_succ])
      iterate 13 (refine skF rfl (by kernel_rfl) (by kernel_rfl) (fun _ _ _ h => h) hHeld ?_; simp only [Act.put, setF, List.setIfInBounds_toArray, List.set_cons_zero, List.set_cons_succ])
      refine tkF ?_ rfl (by kernel_rfl) (by kernel_rfl) (fun _ _ _ h => h) ?_ hHeld ?_; rotate_left; (· (intro w hSw; (try dsimp only at hSw); go_simp <;> with_reducible rfl)); simp only [Act.put, setF, List.setIfInBounds_toArray, List.set_cons_zero, List.set_cons_succ]
      refine wpAnyH_done (by kernel_rfl) ?_ _
      clear hHeld
      go_wp2_with fail
      go_ret
      exact ⟨rfl, below_next bb4 b5⟩
     | true =>
      have MB := mayBeIn_has (unhide H4).name (unhide U4)
      rw [hin] at MB
      replace MB := hide MB
      have hstep : ∀ (hg : goodI o rs k = true), ∀ j, j < k + 1 → goodI o rs j = true := fun hg j hj => by
       by_cases e : j = k
       ·subst e; exact hg
       ·exact unhide hall j (by omega)
      have HSTEP := hide hstep
      clear hstep
      by_cases hk0 : k = 0
      ·have hgd : goodI o rs k = true := by rw [unhide HGOOD, hin, Bool.true_and, decide_eq_true hk0, Bool.true_or]
       have HGD := hide hgd
       clear hgd hin HGOOD
       subst hk0
       simp only [Nat.zero_mul, Nat.add_zero] at c0 c1 c2 c3 c4 c5 c6
       go_wp2_with fail
       clear c0 c1 c2 c3 c4 c5 c6
       refine wp_region_held_drew (S := (fun w' => (w'.cell? ⟨w.heap.size, 0, none⟩ = some (.slice oa o.length oc) ∧ w'.cell? ⟨w.heap.size, 1, none⟩ = some (.slice (some ⟨b, off, none⟩) m rc)) ∧ (w'.cell? ⟨wr.heap.size, 0, none⟩ = some (.slice na rk.name.length nc) ∧ w'.cell? ⟨wr.heap.size, 1, none⟩ = some (.int .i64 rk.type) ∧ w'.cell? ⟨wr.heap.size, 2, none⟩ = some (.int .i64 rk.ttl) ∧ w'.cell? ⟨wr.heap.size, 3, none⟩ = some (.int .i64 rk.addr) ∧ w'.cell? ⟨wr.heap.size, 4, none⟩ = some (.slice ta rk.to.length tc) ∧ w'.cell? ⟨wr.heap.size, 5, none⟩ = some (.slice xa rk.text.length xc) ∧ w'.cell? ⟨wr.heap.size, 6, none⟩ = some (.slice ia rk.nums.length ic)))) (by kernel_rfl) ⟨cells2 (unhide K4), cells7 (unhide X4)⟩ (fun hHeld => ?_)
       show wpAnyH _ _ _ _ _ 20 #[false, false, false, false, false, false, false, false, false, false, false, false, false, false, false, false, false, false, false, false] _ _
       iterate 3 (refine tkF ?_ rfl (by kernel_rfl) (by kernel_rfl) (fun _ _ _ h => h) ?_ hHeld ?_; rotate_left; (· (intro w hSw; (try dsimp only at hSw); go_simp <;> with_reducible rfl)); simp only [Act.put, setF, List.setIfInBounds_toArray, List.set_cons_zero, List.set_cons_succ])
       refine runI 3 rfl (by kernel_rfl) (by kernel_rfl) (fun K hK => ?_)
       have HK := hide hK
       clear hK hHeld
       go_simp
       refine (unhide MB).mono ?_
       rintro e w5 ⟨rfl, b5⟩
       go_simp
       refine (unhide HK).out _ _ ⟨cells2 (block_kept b5 (unhide K4)), cells7 (block_kept b5 (unhide X4))⟩ (fun hHeld => ?_)
       clear HK K
       try simp only [List.setIfInBounds_toArray, List.set_cons_zero, List.set_cons_succ]
       iterate 2 (refine tkF ?_ rfl (by kernel_rfl) (by kernel_rfl) (fun _ _ _ h => h) ?_ hHeld ?_; rotate_left; (· (intro w hSw; (try dsimp only at hSw); go_simp <;> with_reducible rfl)); simp only [Act.put, setF, List.setIfInBounds_toArray, List.set_cons_zero, List.set_cons_succ])
       refine tkF (.int .i64 0) rfl (by kernel_rfl) (by kernel_rfl) (fun _ _ _ h => h) ?_ hHeld ?_; (· (intro w hSw; (try dsimp only at hSw); go_simp)); simp only [Act.put, setF, List.setIfInBounds_toArray, List.set_cons_zero, List.set_cons_succ]
       refine tkF (.bool false) rfl (by kernel_rfl) (by kernel_rfl) (fun _ _ _ h => h) ?_ hHeld ?_; (· (intro w hSw; (try dsimp only at hSw); go_simp)); simp only [Act.put, setF, List.setIfInBounds_toArray, List.set_cons_zero, List.set_cons_succ]
       refine tkF (.bool false) rfl (by kernel_rfl) (by kernel_rfl) (fun _ _ _ h => h) ?_ hHeld ?_; (· (intro w hSw; (try dsimp only at hSw); go_simp)); simp only [Act.put, setF, List.setIfInBounds_toArray, List.set_cons_zero, List.set_cons_succ]
       iterate 9 (refine skF rfl (by kernel_rfl) (by kernel_rfl) (fun _ _ _ h => h) hHeld ?_; simp only [Act.put, setF, List.setIfInBounds_toArray, List.set_cons_zero, List.set_cons_succ])
       iterate 2 (refine tkF ?_ rfl (by kernel_rfl) (by kernel_rfl) (fun _ _ _ h => h) ?_ hHeld ?_; rotate_left; (· (intro w hSw; (try dsimp only at hSw); go_simp <;> with_reducible rfl)); simp only [Act.put, setF, List.setIfInBounds_toArray, List.set_cons_zero, List.set_cons_succ])
       refine wpAnyH_done (by kernel_rfl) ?_ _
       clear hHeld
       have hgd := unhide HGD
       clear HGD
       have bw5 := below_next bw4 b5
       have X5 := hide (block_kept b5 (unhide X4))
       clear b5 bw4 X4 K4 MB H4 U4
       have hsoa := unhide HSOA
       clear HSOA
       obtain ⟨p0, p1, p2, p3, p4, p5, p6⟩ := cells7 (unhide X5)
       by_cases h6 : rk.type = 6
       ·rw [if_pos h6] at hsoa
        have e6 : (rk.type == 6) = true := by rw [h6]; rfl
        have HS1 := hide hsoa
        clear h6 hsoa
        go_wp2_with fail
        exact ⟨⟨0 + 1, by omega, by go_num, by rw [unhide HS1]; go_num, hide (unhide HSTEP hgd), bw5⟩, by simp [intOf]; omega⟩
       ·rw [if_neg h6, Nat.add_zero] at hsoa
        have e6 : (rk.type == 6) = false := by rw [beq_eq_false_iff_ne]; exact h6
        have HS1 := hide hsoa
        clear h6 hsoa
        go_wp2_with fail
        exact ⟨⟨0 + 1, by omega, by go_num, by first | (rw [unhide HS1]; done) | (rw [unhide HS1]; rfl), hide (unhide HSTEP hgd), bw5⟩, by simp [intOf]; omega⟩
      ·obtain ⟨k0, rfl⟩ : ∃ k0, k = k0 + 1 := ⟨k - 1, by omega⟩
       have hk0' : (0 : Int) < (k0 + 1 : Nat) := by omega
       have hwr : IntKind.i64.wrap (k0 : Int) = (k0 : Nat) := by have := hlt; exact wrap_small (by omega) (by omega)
       have hkm : (k0 : Int) < m := by omega
       rw [show k0 + 1 - 1 = k0 by omega] at HGOOD
       obtain ⟨b', off', na', nc', ta', tc', xa', xc', ia', ic', hbe, hbl', hc', hu'⟩ := (unhide H4).recs.here (k := k0) (by rw [unhide HN]; omega)
       simp only [Option.some.injEq, Addr.mk.injEq, and_true] at hbe
       obtain ⟨rfl, rfl⟩ := hbe
       generalize rs.getD k0 recZ = rp at *
       have HC4 := hide hc'
       have U4' := hide hu'
       clear hc' hu'
       have MF0 := fun (w : World) (h1 : HasR w (.slice na' rp.name.length nc') (.slice ta' rp.to.length tc') (.slice xa' rp.text.length xc') (.slice ia' rp.nums.length ic') rp) (h2 : HasR w (.slice na rk.name.length nc) (.slice ta rk.to.length tc) (.slice xa rk.text.length xc) (.slice ia rk.nums.length ic) rk) => mayFollow_has h1 h2
       cases hfo : follows rp rk with
       | false =>
        have hbad : goodI o rs (k0 + 1) = false := by rw [unhide HGOOD, hin, hfo]; simp
        have hz := zoneOk_bad (by rw [unhide HN]; exact hlt) hbad
        rw [unhide HZZ] at hz
        subst hz
        rw [hfo] at MF0
        replace MF0 := hide MF0
        clear hbad hin hfo HGOOD HZZ HSOA HSTEP
        go_wp2_with fail
        clear c0 c1 c2 c3 c4 c5 c6
        refine wp_region_held_drew (S := (fun w' => ((w'.cell? ⟨w.heap.size, 0, none⟩ = some (.slice oa o.length oc) ∧ w'.cell? ⟨w.heap.size, 1, none⟩ = some (.slice (some ⟨b, off, none⟩) m rc)) ∧ (w'.cell? ⟨wr.heap.size, 0, none⟩ = some (.slice na rk.name.length nc) ∧ w'.cell? ⟨wr.heap.size, 1, none⟩ = some (.int .i64 rk.type) ∧ w'.cell? ⟨wr.heap.size, 2, none⟩ = some (.int .i64 rk.ttl) ∧ w'.cell? ⟨wr.heap.size, 3, none⟩ = some (.int .i64 rk.addr) ∧ w'.cell? ⟨wr.heap.size, 4, none⟩ = some (.slice ta rk.to.length tc) ∧ w'.cell? ⟨wr.heap.size, 5, none⟩ = some (.slice xa rk.text.length xc) ∧ w'.cell? ⟨wr.heap.size, 6, none⟩ = some (.slice ia rk.nums.length ic))) ∧ (w'.cell? ⟨b, off + k0 * 7, none⟩ = some (.slice na' rp.name.length nc') ∧ w'.cell? ⟨b, off + k0 * 7 + 1, none⟩ = some (.int .i64 rp.type) ∧ w'.cell? ⟨b, off + k0 * 7 + 2, none⟩ = some (.int .i64 rp.ttl) ∧ w'.cell? ⟨b, off + k0 * 7 + 3, none⟩ = some (.int .i64 rp.addr) ∧ w'.cell? ⟨b, off + k0 * 7 + 4, none⟩ = some (.slice ta' rp.to.length tc') ∧ w'.cell? ⟨b, off + k0 * 7 + 5, none⟩ = some (.slice xa' rp.text.length xc') ∧ w'.cell? ⟨b, off + k0 * 7 + 6, none⟩ = some (.slice ia' rp.nums.length ic')))) (by kernel_rfl) ⟨⟨cells2 (unhide K4), cells7 (unhide X4)⟩, range7 (unhide HC4)⟩ (fun hHeld => ?_)
        show wpAnyH _ _ _ _ _ 20 #[false, false, false, false, false, false, false, false, false, false, false, false, false, false, false, false, false, false, false, false] _ _
        iterate 3 (refine tkF ?_ rfl (by kernel_rfl) (by kernel_rfl) (fun _ _ _ h => h) ?_ hHeld ?_; rotate_left; (· (intro w hSw; (try dsimp only at hSw); go_simp <;> with_reducible rfl)); simp only [Act.put, setF, List.setIfInBounds_toArray, List.set_cons_zero, List.set_cons_succ])
        refine runI 3 rfl (by kernel_rfl) (by kernel_rfl) (fun K hK => ?_)
        have HK := hide hK
        clear hK hHeld
        go_simp
        refine (unhide MB).mono ?_
        rintro e w5 ⟨rfl, b5⟩
        have MF := unhide MF0 _ ((unhide U4').below b5) ((unhide U4).below b5)
        replace MF := hide MF
        go_simp
        refine (unhide HK).out _ _ ⟨⟨cells2 (block_kept b5 (unhide K4)), cells7 (block_kept b5 (unhide X4))⟩, range7 (range_below (unhide HC4) hbl' b5)⟩ (fun hHeld => ?_)
        clear HK K
        try simp only [List.setIfInBounds_toArray, List.set_cons_zero, List.set_cons_succ]
        iterate 3 (refine tkF ?_ rfl (by kernel_rfl) (by kernel_rfl) (fun _ _ _ h => h) ?_ hHeld ?_; rotate_left; (· (intro w hSw; (try dsimp only at hSw); go_simp <;> with_reducible rfl)); simp only [Act.put, setF, List.setIfInBounds_toArray, List.set_cons_zero, List.set_cons_succ])
        refine tkF (.bool true) rfl (by kernel_rfl) (by kernel_rfl) (fun _ _ _ h => h) ?_ hHeld ?_; (· (intro w hSw; (try dsimp only at hSw); go_simp)); simp only [Act.put, setF, List.setIfInBounds_toArray, List.set_cons_zero, List.set_cons_succ]
        refine tkF (.bool true) rfl (by kernel_rfl) (by kernel_rfl) (fun _ _ _ h => h) ?_ hHeld ?_; (· (intro w hSw; (try dsimp only at hSw); go_simp)); simp only [Act.put, setF, List.setIfInBounds_toArray, List.set_cons_zero, List.set_cons_succ]
        iterate 2 (refine tkF ?_ rfl (by kernel_rfl) (by kernel_rfl) (fun _ _ _ h => h) ?_ hHeld ?_; rotate_left; (· (intro w hSw; (try dsimp only at hSw); go_simp <;> with_reducible rfl)); simp only [Act.put, setF, List.setIfInBounds_toArray, List.set_cons_zero, List.set_cons_succ])
        refine tkF (.int .i64 (k0 + 1 : Nat)) rfl (by kernel_rfl) (by kernel_rfl) (fun _ _ _ h => h) ?_ hHeld ?_; (· (intro w hSw; (try dsimp only at hSw); go_simp)); simp only [Act.put, setF, List.setIfInBounds_toArray, List.set_cons_zero, List.set_cons_succ]
        refine tkF (.int .i64 (k0 : Nat)) rfl (by kernel_rfl) (by kernel_rfl) (fun _ _ _ h => h) ?_ hHeld ?_; (· (intro w hSw; (try dsimp only at hSw); go_simp)); simp only [Act.put, setF, List.setIfInBounds_toArray, List.set_cons_zero, List.set_cons_succ]
        refine tkF (.pointer (some ⟨b, off + k0 * 7, none⟩)) rfl (by kernel_rfl) (by kernel_rfl) (fun _ _ _ h => h) ?_ hHeld ?_; (· (intro w hSw; (try dsimp only at hSw); go_simp)); simp only [Act.put, setF, List.setIfInBounds_toArray, List.set_cons_zero, List.set_cons_succ]
        iterate 2 (refine tkF ?_ rfl (by kernel_rfl) (by kernel_rfl) (fun _ _ _ h => h) ?_ hHeld ?_; rotate_left; (· (intro w hSw; (try dsimp only at hSw); go_simp <;> with_reducible rfl)); simp only [Act.put, setF, List.setIfInBounds_toArray, List.set_cons_zero, List.set_cons_succ])
        refine runI 16 rfl (by kernel_rfl) (by kernel_rfl) (fun K hK => ?_)
        have HK := hide hK
        clear hK hHeld
        go_simp
        refine (unhide MF).mono ?_
        rintro e w6 ⟨rfl, b6⟩
        have q6 := below_next b5 b6
        go_simp
        refine (unhide HK).out _ _ ⟨⟨cells2 (block_kept q6 (unhide K4)), cells7 (block_kept q6 (unhide X4))⟩, range7 (range_below (unhide HC4) hbl' q6)⟩ (fun hHeld => ?_)
        clear HK K
        try simp only [List.setIfInBounds_toArray, List.set_cons_zero, List.set_cons_succ]
        iterate 3 (refine tkF ?_ rfl (by kernel_rfl) (by kernel_rfl) (fun _ _ _ h => h) ?_ hHeld ?_; rotate_left; (· (intro w hSw; (try dsimp only at hSw); go_simp <;> with_reducible rfl)); simp only [Act.put, setF, List.setIfInBounds_toArray, List.set_cons_zero, List.set_cons_succ])
        refine wpAnyH_done (by kernel_rfl) ?_ _
        clear hHeld
        go_wp2_with fail
        go_ret
        exact ⟨rfl, below_next bb4 q6⟩
       | true =>
        have hgd : goodI o rs (k0 + 1) = true := by rw [unhide HGOOD, hin, hfo]; simp
        have HGD := hide hgd
        rw [hfo] at MF0
        replace MF0 := hide MF0
        clear hgd hin hfo HGOOD
        go_wp2_with fail
        clear c0 c1 c2 c3 c4 c5 c6
        refine wp_region_held_drew (S := (fun w' => ((w'.cell? ⟨w.heap.size, 0, none⟩ = some (.slice oa o.length oc) ∧ w'.cell? ⟨w.heap.size, 1, none⟩ = some (.slice (some ⟨b, off, none⟩) m rc)) ∧ (w'.cell? ⟨wr.heap.size, 0, none⟩ = some (.slice na rk.name.length nc) ∧ w'.cell? ⟨wr.heap.size, 1, none⟩ = some (.int .i64 rk.type) ∧ w'.cell? ⟨wr.heap.size, 2, none⟩ = some (.int .i64 rk.ttl) ∧ w'.cell? ⟨wr.heap.size, 3, none⟩ = some (.int .i64 rk.addr) ∧ w'.cell? ⟨wr.heap.size, 4, none⟩ = some (.slice ta rk.to.length tc) ∧ w'.cell? ⟨wr.heap.size, 5, none⟩ = some (.slice xa rk.text.length xc) ∧ w'.cell? ⟨wr.heap.size, 6, none⟩ = some (.slice ia rk.nums.length ic))) ∧ (w'.cell? ⟨b, off + k0 * 7, none⟩ = some (.slice na' rp.name.length nc') ∧ w'.cell? ⟨b, off + k0 * 7 + 1, none⟩ = some (.int .i64 rp.type) ∧ w'.cell? ⟨b, off + k0 * 7 + 2, none⟩ = some (.int .i64 rp.ttl) ∧ w'.cell? ⟨b, off + k0 * 7 + 3, none⟩ = some (.int .i64 rp.addr) ∧ w'.cell? ⟨b, off + k0 * 7 + 4, none⟩ = some (.slice ta' rp.to.length tc') ∧ w'.cell? ⟨b, off + k0 * 7 + 5, none⟩ = some (.slice xa' rp.text.length xc') ∧ w'.cell? ⟨b, off + k0 * 7 + 6, none⟩ = some (.slice ia' rp.nums.length ic')))) (by kernel_rfl) ⟨⟨cells2 (unhide K4), cells7 (unhide X4)⟩, range7 (unhide HC4)⟩ (fun hHeld => ?_)
        show wpAnyH _ _ _ _ _ 20 #[false, false, false, false, false, false, false, false, false, false, false, false, false, false, false, false, false, false, false, false] _ _
        iterate 3 (refine tkF ?_ rfl (by kernel_rfl) (by kernel_rfl) (fun _ _ _ h => h) ?_ hHeld ?_; rotate_left; (· (intro w hSw; (try dsimp only at hSw); go_simp <;> with_reducible rfl)); simp only [Act.put, setF, List.setIfInBounds_toArray, List.set_cons_zero, List.set_cons_succ])
        refine runI 3 rfl (by kernel_rfl) (by kernel_rfl) (fun K hK => ?_)
        have HK := hide hK
        clear hK hHeld
        go_simp
        refine (unhide MB).mono ?_
        rintro e w5 ⟨rfl, b5⟩
        have MF := unhide MF0 _ ((unhide U4').below b5) ((unhide U4).below b5)
        replace MF := hide MF
        go_simp
        refine (unhide HK).out _ _ ⟨⟨cells2 (block_kept b5 (unhide K4)), cells7 (block_kept b5 (unhide X4))⟩, range7 (range_below (unhide HC4) hbl' b5)⟩ (fun hHeld => ?_)
        clear HK K
        try simp only [List.setIfInBounds_toArray, List.set_cons_zero, List.set_cons_succ]
        iterate 3 (refine tkF ?_ rfl (by kernel_rfl) (by kernel_rfl) (fun _ _ _ h => h) ?_ hHeld ?_; rotate_left; (· (intro w hSw; (try dsimp only at hSw); go_simp <;> with_reducible rfl)); simp only [Act.put, setF, List.setIfInBounds_toArray, List.set_cons_zero, List.set_cons_succ])
        refine tkF (.bool true) rfl (by kernel_rfl) (by kernel_rfl) (fun _ _ _ h => h) ?_ hHeld ?_; (· (intro w hSw; (try dsimp only at hSw); go_simp)); simp only [Act.put, setF, List.setIfInBounds_toArray, List.set_cons_zero, List.set_cons_succ]
        refine tkF (.bool true) rfl (by kernel_rfl) (by kernel_rfl) (fun _ _ _ h => h) ?_ hHeld ?_; (· (intro w hSw; (try dsimp only at hSw); go_simp)); simp only [Act.put, setF, List.setIfInBounds_toArray, List.set_cons_zero, List.set_cons_succ]
        iterate 2 (refine tkF ?_ rfl (by kernel_rfl) (by kernel_rfl) (fun _ _ _ h => h) ?_ hHeld ?_; rotate_left; (· (intro w hSw; (try dsimp only at hSw); go_simp <;> with_reducible rfl)); simp only [Act.put, setF, List.setIfInBounds_toArray, List.set_cons_zero, List.set_cons_succ])
        refine tkF (.int .i64 (k0 + 1 : Nat)) rfl (by kernel_rfl) (by kernel_rfl) (fun _ _ _ h => h) ?_ hHeld ?_; (· (intro w hSw; (try dsimp only at hSw); go_simp)); simp only [Act.put, setF, List.setIfInBounds_toArray, List.set_cons_zero, List.set_cons_succ]
        refine tkF (.int .i64 (k0 : Nat)) rfl (by kernel_rfl) (by kernel_rfl) (fun _ _ _ h => h) ?_ hHeld ?_; (· (intro w hSw; (try dsimp only at hSw); go_simp)); simp only [Act.put, setF, List.setIfInBounds_toArray, List.set_cons_zero, List.set_cons_succ]
        refine tkF (.pointer (some ⟨b, off + k0 * 7, none⟩)) rfl (by kernel_rfl) (by kernel_rfl) (fun _ _ _ h => h) ?_ hHeld ?_; (· (intro w hSw; (try dsimp only at hSw); go_simp)); simp only [Act.put, setF, List.setIfInBounds_toArray, List.set_cons_zero, List.set_cons_succ]
        iterate 2 (refine tkF ?_ rfl (by kernel_rfl) (by kernel_rfl) (fun _ _ _ h => h) ?_ hHeld ?_; rotate_left; (· (intro w hSw; (try dsimp only at hSw); go_simp <;> with_reducible rfl)); simp only [Act.put, setF, List.setIfInBounds_toArray, List.set_cons_zero, List.set_cons_succ])
        refine runI 16 rfl (by kernel_rfl) (by kernel_rfl) (fun K hK => ?_)
        have HK := hide hK
        clear hK hHeld
        go_simp
        refine (unhide MF).mono ?_
        rintro e w6 ⟨rfl, b6⟩
        have q6 := below_next b5 b6
        go_simp
        refine (unhide HK).out _ _ ⟨⟨cells2 (block_kept q6 (unhide K4)), cells7 (block_kept q6 (unhide X4))⟩, range7 (range_below (unhide HC4) hbl' q6)⟩ (fun hHeld => ?_)
        clear HK K
        try simp only [List.setIfInBounds_toArray, List.set_cons_zero, List.set_cons_succ]
        iterate 3 (refine tkF ?_ rfl (by kernel_rfl) (by kernel_rfl) (fun _ _ _ h => h) ?_ hHeld ?_; rotate_left; (· (intro w hSw; (try dsimp only at hSw); go_simp <;> with_reducible rfl)); simp only [Act.put, setF, List.setIfInBounds_toArray, List.set_cons_zero, List.set_cons_succ])
        refine wpAnyH_done (by kernel_rfl) ?_ _
        clear hHeld
        have hgd := unhide HGD
        clear HGD
        have bw6 := below_next bw4 q6
        have X6 := hide (block_kept q6 (unhide X4))
        clear b5 b6 q6 bw4 X4 K4 MB H4 U4 MF0 HC4 U4'
        have hsoa := unhide HSOA
        clear HSOA
        obtain ⟨p0, p1, p2, p3, p4, p5, p6⟩ := cells7 (unhide X6)
        by_cases h6 : rk.type = 6
        ·rw [if_pos h6] at hsoa
         have e6 : (rk.type == 6) = true := by rw [h6]; rfl
         have HS1 := hide hsoa
         clear h6 hsoa
         go_wp2_with fail
         exact ⟨⟨k0 + 1 + 1, by omega, by go_num, by rw [unhide HS1]; go_num, hide (unhide HSTEP hgd), bw6⟩, by simp [intOf]; omega⟩
        ·rw [if_neg h6, Nat.add_zero] at hsoa
         have e6 : (rk.type == 6) = false := by rw [beq_eq_false_iff_ne]; exact h6
         have HS1 := hide hsoa
         clear h6 hsoa
         go_wp2_with fail
         exact ⟨⟨k0 + 1 + 1, by omega, by go_num, by first | (rw [unhide HS1]; done) | (rw [unhide HS1]; rfl), hide (unhide HSTEP hgd), bw6⟩, by simp [intOf]; omega⟩
    ·obtain rfl : k = m := by omega
     have hz := zoneOk_end (unhide HOK) (by rw [unhide HN]; omega) (by rw [unhide HN]; exact unhide hall)
     rw [unhide HZZ, unhide HN] at hz
     have h1 := one_count (soas rs k)
     rw [← hz] at h1
     clear hz HZZ
     go_wp2
     go_ret
     exact ⟨rfl, below_next bb1 hb⟩
  ·rw [zoneOk_long (by omega)]
   have h60' : (60 : Int) < rs.length := by omega
   go_enter Tryz.func49, Tryz.ntmps49
   go_wp2_with fail
   generalize w.alloc (.cells #[.slice oa o.length oc, .slice ra rs.length rc] 34) = W at *
   refine (unhide NO).mono ?_
   rintro e w1 ⟨rfl, b1⟩
   obtain ⟨d0, d1⟩ := cells2 (block_kept b1 (unhide K0))
   go_wp2_with fail
   go_ret
   exact ⟨rfl, below_next b0 b1⟩
end Go.Proofs.YtmlcmkoefelolaaGreat

namespace Go.Proofs.YtmlcmkoefelolaaGreat
open Go.RowKit Go.Shelf
set_option linter.unusedVariables false

set_option maxHeartbeats 2000000 in
set_option maxRecDepth 100000 in
theorem implSetOf_own {vo vr v : Value} {o n : List (List Int)} {rs : List Rec} (t : Int) {w : World} (h : HasZ w vo vr o rs) (hn : HasL w v n) :
  Calls Tryz.prog 14 #[.agg #[vo, vr], .agg #[v], .int .i64 t] w fun e w' => ∃ u, e = .returned u ∧ RowO w.heap.size w'.heap.size 52 44 5 3 w' u (setOf o rs n t) ∧ Below w.heap.size w w' := by
 obtain ⟨oa, oc, rfl, _⟩ := h.name.form
 obtain ⟨ra, rc, rfl, _⟩ := h.recs.form
 obtain ⟨a, cap, rfl, _⟩ := hn.form
 obtain ⟨hsz, k0, x0⟩ := box2 w (.cells #[.slice oa o.length oc, .slice ra rs.length rc] 34) #[.slice a n.length cap] 32
 have bb := below2 w (.cells #[.slice oa o.length oc, .slice ra rs.length rc] 34) (.cells #[.slice a n.length cap] 32)
 have HH := hide (h.below bb)
 have HN := hide (hn.below bb)
 have HO := implZoneOk_has (h.below bb)
 have KZ := hide k0
 have KN := hide x0
 obtain ⟨c0, c1⟩ := cells2 k0
 clear h hn hsz k0 x0
 generalize hres : setOf o rs n t = res
 unfold setOf at hres
 cases hz : zoneOk o rs with
 | false =>
  rw [if_neg (fun q => by rw [hz] at q; cases q.1)] at hres
  subst hres
  rw [hz] at HO
  replace HO := hide HO
  go_enter Tryz.func14, Tryz.ntmps14
  go_wp2_with fail
  refine (unhide HO).mono ?_
  rintro e w1 ⟨rfl, b1⟩
  go_wp2_with fail
  go_ret
  exact ⟨_, rfl, RowO.nil _ _ _ _ _ _ _, below_next bb b1⟩
 | true =>
  rw [hz] at HO
  replace HO := hide HO
  cases hnm : nameOk n with
  | false =>
   rw [if_neg (fun q => by rw [hnm] at q; cases q.2)] at hres
   subst hres
   go_enter Tryz.func14, Tryz.ntmps14
   go_wp2_with fail
   refine (unhide HO).mono ?_
   rintro e w1 ⟨rfl, b1⟩
   have HM := implNameOk_has ((unhide HN).below b1)
   rw [hnm] at HM
   replace HM := hide HM
   have d2 := block_one (block_kept b1 (unhide KN))
   replace bb := below_next bb b1
   clear c0 c1
   go_wp2_with fail
   refine (unhide HM).mono ?_
   rintro e w2 ⟨rfl, b2⟩
   go_wp2_with fail
   go_ret
   exact ⟨_, rfl, RowO.nil _ _ _ _ _ _ _, below_next bb b2⟩
  | true =>
   rw [if_pos ⟨hz, hnm⟩] at hres
   have hpg := page_of_zone hz hnm
   have hsh := ofName_short (n := n) hz
   have hset := set_is hz hnm t
   rw [hres] at hset
   have HOK := hide (zone_oks hz)
   have h60 := (zone_short hz).2.2
   have hsn := short_name hnm
   clear hres
   go_enter Tryz.func14, Tryz.ntmps14
   go_wp2_with fail
   refine (unhide HO).mono ?_
   rintro e w1 ⟨rfl, b1⟩
   have HM := implNameOk_has ((unhide HN).below b1)
   rw [hnm] at HM
   replace HM := hide HM
   have d2 := block_one (block_kept b1 (unhide KN))
   replace bb := below_next bb b1
   replace HH := hide ((unhide HH).below b1)
   replace HN := hide ((unhide HN).below b1)
   replace KZ := hide (block_kept b1 (unhide KZ))
   replace KN := hide (block_kept b1 (unhide KN))
   clear c0 c1 b1 HO
   go_wp2_with fail
   refine (unhide HM).mono ?_
   rintro e w2 ⟨rfl, b2⟩
   have b3 := below_next b2 (below_drew (w := w2))
   replace bb := below_next bb b3
   replace HH := hide ((unhide HH).below b3)
   replace HN := hide ((unhide HN).below b3)
   replace KZ := hide (block_kept b3 (unhide KZ))
   replace KN := hide (block_kept b3 (unhide KN))
   clear d2 b2 b3 HM
   have HPG := hide hpg
   have HSH := hide hsh
   have HSET := hide hset
   clear hpg hsh hset
   go_wp2_with fail
   go_region_held3 (fun w' => (w'.cell? ⟨w.heap.size, 0, none⟩ = some (.slice oa o.length oc) ∧ w'.cell? ⟨w.heap.size, 1, none⟩ = some (.slice ra rs.length rc)) ∧ w'.cell? ⟨w.heap.size + 1, 0, none⟩ = some (.slice a n.length cap))
    (first | exact ⟨cells2 (unhide KZ), block_one (unhide KN)⟩ | exact ⟨cells2 (block_kept q5 (unhide KZ)), block_one (block_kept q5 (unhide KN))⟩ | exact ⟨cells2 (block_kept b4 (unhide KZ)), block_one (block_kept b4 (unhide KN))⟩)
    (first
    | (go_at_call 51; refine (bookOf_has (unhide HH) (unhide HOK) (by omega)).mono ?_; rintro e w4 ⟨rfl, hB4, b4⟩)
    | (go_at_call 52; refine ((callsIn_wide (n := 7)).1 (set_in t hB4 ((unhide HN).below b4) hsn (by unfold bookIn; rw [unhide HPG]; exact (unhide HSH).1) (by unfold bookIn; rw [unhide HPG]; exact (unhide HSH).2))).mono ?_; rintro e w5 ⟨u5, rfl, o5, b5⟩; have q5 := below_next b4 b5))
   unfold bookIn at o5
   rw [unhide HPG, unhide HSET] at o5
   have z4 := b4.size
   have zz := bb.size
   go_wp2_with fail
   go_ret
   exact ⟨_, rfl, o5.wide (by omega) (Nat.le_refl _), below_next bb q5⟩
end Go.Proofs.YtmlcmkoefelolaaGreat

namespace Go.Proofs.YtmlcmkoefelolaaGreat
open Go.RowKit
set_option linter.unusedVariables false

theorem ownsRow_later {B n size : Nat} {e : TypeId} {w w' : World} {v : Value} {xs : List Value} (h : w.ownsRow B e size v n xs) (hb : Below w.heap.size w w') : w'.ownsRow B e size v n xs :=
 World.ownsRow.kept h (grown_of_below hb) (by cases hv : v.ownBlock with | none => exact .inl rfl | some k => exact .inr (by simp))
theorem append_rec {P : Program} {w : World} {ops : Array Oper} {rest : List Oper} {o : Oper} {a : Act} {Q : Exit → Act → World → Prop} (hgd : o.guard = none) (s x : Operand) (t e : TypeId)
  (ho : o.op = .call { callee := .builtin .append, args := #[s, x], argTypes := #[t, t] }) (ht : P.underlying t = some (.slice e)) (zs : Array Value)
  (hinfo : (P.info? e).map (fun i => (i.zero, i.size, i.bytes)) = some (some (.agg zs), 7, 120)) (hzs : zs.size = 7)
  (base : Nat) (v : Value) (n : Nat) (xs : List Value) (hs : a.eval s = v) (hown : w.ownsRow base e 7 v n xs) (g : Nat) (cs : List Value) (hx : a.eval x = .slice (some ⟨g, 0, none⟩) 1 1)
  (hg : w.heap[g]? = some (.cells cs.toArray e)) (hcl : cs.length = 7) (h1 : ∀ u ∈ cs, u.oneCell' = true) (hlen : n ≤ 1000) (hbase : base ≤ w.heap.size)
  (h : ∀ v' w', w'.ownsRow base e 7 v' (n + 1) (xs ++ cs) → w.grownBy w' v.ownBlock → wpList P ops Q rest (a.put o.dst v') w') : wpList P ops Q (o :: rest) a w := by
 obtain ⟨i0, hi, hzz⟩ := Option.map_eq_some_iff.1 hinfo
 simp only [Prod.mk.injEq] at hzz
 obtain ⟨hz0, hz1, hz2⟩ := hzz
 refine wpList_append_own w hgd s x t ho base e i0 (.agg zs) 7 120 ht hi hz0 hz1 hz2 hzs (by decide) v n xs hs hown ⟨g, 0, none⟩ 1 1 cs hx (by rw [hcl]) (fun j u hj => ?_) h1 (by unfold maxLen; omega) (by omega) hbase ?_
 ·rw [Addr.add_lit, Nat.zero_add, block_cell hg]
  simpa using hj
 ·intro v' w' q1 q2 _
  exact h v' w' q1 q2
end Go.Proofs.YtmlcmkoefelolaaGreat
