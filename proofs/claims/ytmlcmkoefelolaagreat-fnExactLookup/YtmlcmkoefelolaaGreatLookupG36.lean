/-
  Contracts of the program's mayBeIn and mayFollow. Contract of the program's ZoneOk. Contracts of the program's lookup and Lookup.
-/
import Derived.Test.YtmlcmkoefelolaaGreatLookupG16
import Derived.Test.YtmlcmkoefelolaaGreatLookupG07
import Derived.Test.YtmlcmkoefelolaaGreatLookupG29
import Derived.Test.YtmlcmkoefelolaaGreatLookupG30
import Derived.Test.YtmlcmkoefelolaaGreatLookupG34
import Derived.Test.YtmlcmkoefelolaaGreatLookupG24
import Derived.Deep.RegionHeld3
import Derived.Test.YtmlcmkoefelolaaGreatLookupG35
namespace Go.Proofs.YtmlcmkoefelolaaGreat
open Go.RowKit
set_option linter.unusedVariables false

set_option maxHeartbeats 1000000 in
set_option maxRecDepth 100000 in
theorem mayBeIn_has {vo vn vt vx vi : Value} {o : List (List Int)} {r : Rec} {w : World} (ho : HasL w vo o) (h : HasR w vn vt vx vi r) :
  Calls Tryz.prog 91 #[.agg #[vo], .agg #[vn, .int .i64 r.type, .int .i64 r.ttl, .int .i64 r.addr, vt, vx, vi]] w fun e w' => e = .returned (.bool (inZone o r)) ∧ Below w.heap.size w w' := by
 obtain ⟨oa, oc, rfl, _⟩ := ho.form
 obtain ⟨na, nc, rfl, _⟩ := h.name.form
 obtain ⟨ta, tc, rfl, _⟩ := h.to.form
 obtain ⟨xa, xc, rfl, _⟩ := h.text.form
 obtain ⟨ia, ic, rfl, _⟩ := h.nums.form
 have b0 := below2 w (.cells #[.slice oa o.length oc] 32) (.cells #[.slice na r.name.length nc, .int .i64 r.type, .int .i64 r.ttl, .int .i64 r.addr, .slice ta r.to.length tc, .slice xa r.text.length xc, .slice ia r.nums.length ic] 52)
 obtain ⟨hsz, k0, x0⟩ := box2 w (.cells #[.slice oa o.length oc] 32) #[.slice na r.name.length nc, .int .i64 r.type, .int .i64 r.ttl, .int .i64 r.addr, .slice ta r.to.length tc, .slice xa r.text.length xc, .slice ia r.nums.length ic] 52
 have H0 := hide (h.below b0)
 have O0 := hide (ho.below b0)
 have K0 := hide k0
 have X0 := hide x0
 have HR := implRrOk_has (h.below b0)
 have UN := fun (w : World) (h1 : HasL w (.slice na r.name.length nc) r.name) (h2 : HasL w (.slice oa o.length oc) o) => implUnder_has h1 h2
 have NC := fun (w : World) (h1 : HasL w (.slice na r.name.length nc) r.name) (h2 : HasL w (.slice oa o.length oc) o) => implNameCmp_has h1 h2
 unfold inZone
 generalize rrOk r = ok at *
 generalize under r.name o = und at *
 generalize nameCmp r.name o = c at *
 replace HR := hide HR
 replace UN := hide UN
 replace NC := hide NC
 clear h ho k0 x0 hsz
 cases ok with
 | false =>
  rw [Bool.false_and]
  go_enter Tryz.func91, Tryz.ntmps91
  go_wp2_with fail
  refine (unhide HR).mono ?_
  rintro e w1 ⟨rfl, b1⟩
  go_wp2_with fail
  go_ret
  exact ⟨rfl, below_next b0 b1⟩
 | true =>
  rw [Bool.true_and]
  generalize hRes : (und && (decide (r.type ≠ 6) || decide (c = 0))) = Res
  have HRES := hide hRes
  clear hRes
  go_enter Tryz.func91, Tryz.ntmps91
  go_wp2_with fail
  generalize (w.alloc (.cells #[.slice oa o.length oc] 32)).alloc (.cells #[.slice na r.name.length nc, .int .i64 r.type, .int .i64 r.ttl, .int .i64 r.addr, .slice ta r.to.length tc, .slice xa r.text.length xc, .slice ia r.nums.length ic] 52) = W at *
  refine (unhide HR).mono ?_
  rintro e w1 ⟨rfl, b1⟩
  have O1 := hide ((unhide O0).below b1)
  have H1 := hide ((unhide H0).below b1)
  have K1 := hide (block_kept b1 (unhide K0))
  have X1 := hide (block_kept b1 (unhide X0))
  have bb1 := below_next b0 b1
  obtain ⟨d0, d1, d2, d3, d4, d5, d6⟩ := cells7 (unhide X1)
  have c0 := block_one (unhide K1)
  clear HR O0 H0 K0 X0 b0 b1
  go_wp2_with fail
  clear d0 d1 d2 d3 d4 d5 d6 c0
  refine (unhide UN _ (unhide H1).name (unhide O1)).mono ?_
  rintro e w2 ⟨rfl, b2⟩
  have bb2 := below_next bb1 b2
  cases und with
  | false =>
   have hRes := unhide HRES
   rw [Bool.false_and] at hRes
   subst hRes
   clear HRES
   go_wp2_with fail
   go_ret
   exact ⟨rfl, bb2⟩
  | true =>
   have hRes := unhide HRES
   rw [Bool.true_and] at hRes
   have K2 := hide (block_kept b2 (unhide K1))
   have X2 := hide (block_kept b2 (unhide X1))
   have O2 := hide ((unhide O1).below b2)
   have H2 := hide ((unhide H1).below b2)
   obtain ⟨d0, d1, d2, d3, d4, d5, d6⟩ := cells7 (unhide X2)
   have c0 := block_one (unhide K2)
   clear HRES O1 H1 K1 X1 bb1 b2
   by_cases h6 : r.type = 6
   ·rw [decide_eq_false (by omega), Bool.false_or] at hRes
    have e6 : (r.type != 6) = false := by rw [h6]; rfl
    have HRES := hide hRes
    clear hRes h6
    go_wp2_with fail
    clear d0 d1 d2 d3 d4 d5 d6 c0
    refine (unhide NC _ (unhide H2).name (unhide O2)).mono ?_
    rintro e w3 ⟨rfl, b3⟩
    have hRes := unhide HRES
    have ec : (c == 0) = Res := by rw [← hRes, Bool.eq_iff_iff, beq_iff_eq, decide_eq_true_iff]
    clear hRes HRES
    go_wp2_with fail
    go_ret
    exact ⟨rfl, below_next bb2 b3⟩
   ·rw [decide_eq_true (show r.type ≠ 6 from h6), Bool.true_or] at hRes
    subst hRes
    have e6 : (r.type != 6) = true := by rw [bne_iff_ne]; exact h6
    clear h6
    go_wp2_with fail
    go_ret
    exact ⟨rfl, bb2⟩

set_option maxHeartbeats 1000000 in
set_option maxRecDepth 100000 in
theorem mayFollow_has {vn vt vx vi un ut ux ui : Value} {a b : Rec} {w : World} (h : HasR w vn vt vx vi a) (h' : HasR w un ut ux ui b) :
  Calls Tryz.prog 92 #[.agg #[vn, .int .i64 a.type, .int .i64 a.ttl, .int .i64 a.addr, vt, vx, vi], .agg #[un, .int .i64 b.type, .int .i64 b.ttl, .int .i64 b.addr, ut, ux, ui]] w fun e w' => e = .returned (.bool (follows a b)) ∧ Below w.heap.size w w' := by
 obtain ⟨na, nc, rfl, _⟩ := h.name.form
 obtain ⟨ta, tc, rfl, _⟩ := h.to.form
 obtain ⟨xa, xc, rfl, _⟩ := h.text.form
 obtain ⟨ia, ic, rfl, _⟩ := h.nums.form
 obtain ⟨na', nc', rfl, _⟩ := h'.name.form
 obtain ⟨ta', tc', rfl, _⟩ := h'.to.form
 obtain ⟨xa', xc', rfl, _⟩ := h'.text.form
 obtain ⟨ia', ic', rfl, _⟩ := h'.nums.form
 have b0 := below2 w (.cells #[.slice na a.name.length nc, .int .i64 a.type, .int .i64 a.ttl, .int .i64 a.addr, .slice ta a.to.length tc, .slice xa a.text.length xc, .slice ia a.nums.length ic] 52) (.cells #[.slice na' b.name.length nc', .int .i64 b.type, .int .i64 b.ttl, .int .i64 b.addr, .slice ta' b.to.length tc', .slice xa' b.text.length xc', .slice ia' b.nums.length ic'] 52)
 obtain ⟨hsz, k0, x0⟩ := box2 w (.cells #[.slice na a.name.length nc, .int .i64 a.type, .int .i64 a.ttl, .int .i64 a.addr, .slice ta a.to.length tc, .slice xa a.text.length xc, .slice ia a.nums.length ic] 52) #[.slice na' b.name.length nc', .int .i64 b.type, .int .i64 b.ttl, .int .i64 b.addr, .slice ta' b.to.length tc', .slice xa' b.text.length xc', .slice ia' b.nums.length ic'] 52
 have H0 := hide (h.below b0)
 have J0 := hide (h'.below b0)
 have K0 := hide k0
 have X0 := hide x0
 have CM := implRrCmp_has (h.below b0) (h'.below b0)
 have NC := fun (w : World) (h1 : HasL w (.slice na a.name.length nc) a.name) (h2 : HasL w (.slice na' b.name.length nc') b.name) => implNameCmp_has h1 h2
 unfold follows
 generalize rrCmp a b = c at *
 generalize nameCmp a.name b.name = d at *
 replace CM := hide CM
 replace NC := hide NC
 clear h h' k0 x0 hsz
 generalize hRes : (decide (c < 0) && ((decide (a.type ≠ 5) && decide (b.type ≠ 5)) || decide (d ≠ 0))) = Res
 have HRES := hide hRes
 clear hRes
 go_enter Tryz.func92, Tryz.ntmps92
 go_wp2_with fail
 generalize (w.alloc (.cells #[.slice na a.name.length nc, .int .i64 a.type, .int .i64 a.ttl, .int .i64 a.addr, .slice ta a.to.length tc, .slice xa a.text.length xc, .slice ia a.nums.length ic] 52)).alloc (.cells #[.slice na' b.name.length nc', .int .i64 b.type, .int .i64 b.ttl, .int .i64 b.addr, .slice ta' b.to.length tc', .slice xa' b.text.length xc', .slice ia' b.nums.length ic'] 52) = W at *
 refine (unhide CM).mono ?_
 rintro e w1 ⟨rfl, b1⟩
 have H1 := hide ((unhide H0).below b1)
 have J1 := hide ((unhide J0).below b1)
 have K1 := hide (block_kept b1 (unhide K0))
 have X1 := hide (block_kept b1 (unhide X0))
 have bb1 := below_next b0 b1
 clear CM H0 J0 K0 X0 b0 b1
 by_cases hc : c < 0
 ·have hRes := unhide HRES
  rw [decide_eq_true hc, Bool.true_and] at hRes
  have hc' : ¬ (0 ≤ c) := by omega
  obtain ⟨d0, d1, d2, d3, d4, d5, d6⟩ := cells7 (unhide K1)
  obtain ⟨f0, f1, f2, f3, f4, f5, f6⟩ := cells7 (unhide X1)
  clear HRES hc
  by_cases h5 : a.type ≠ 5 ∧ b.type ≠ 5
  ·rw [decide_eq_true h5.1, decide_eq_true h5.2, Bool.true_and, Bool.true_or] at hRes
   subst hRes
   have e5 : (a.type != 5) = true := by rw [bne_iff_ne]; exact h5.1
   have e5' : (b.type != 5) = true := by rw [bne_iff_ne]; exact h5.2
   clear h5
   go_wp2_with fail
   go_ret
   exact ⟨rfl, bb1⟩
  ·have hf : (decide (a.type ≠ 5) && decide (b.type ≠ 5)) = false := by
    rw [Bool.and_eq_false_iff, decide_eq_false_iff_not, decide_eq_false_iff_not]
    omega
   rw [hf, Bool.false_or] at hRes
   have ed : (d != 0) = Res := by rw [← hRes, Bool.eq_iff_iff, bne_iff_ne, decide_eq_true_iff]
   have HED := hide ed
   clear hRes hf ed
   by_cases h6 : a.type = 5
   ·have e5 : (a.type != 5) = false := by rw [h6]; rfl
    clear h5 h6
    go_wp2_with fail
    clear d0 d1 d2 d3 d4 d5 d6 f0 f1 f2 f3 f4 f5 f6
    refine (unhide NC _ (unhide H1).name (unhide J1).name).mono ?_
    rintro e w2 ⟨rfl, b2⟩
    have ed := unhide HED
    clear HED
    go_wp2_with fail
    go_ret
    exact ⟨rfl, below_next bb1 b2⟩
   ·have e5 : (a.type != 5) = true := by rw [bne_iff_ne]; exact h6
    have h7 : b.type = 5 := by omega
    have e5' : (b.type != 5) = false := by rw [h7]; rfl
    clear h5 h6 h7
    go_wp2_with fail
    clear d0 d1 d2 d3 d4 d5 d6 f0 f1 f2 f3 f4 f5 f6
    refine (unhide NC _ (unhide H1).name (unhide J1).name).mono ?_
    rintro e w2 ⟨rfl, b2⟩
    have ed := unhide HED
    clear HED
    go_wp2_with fail
    go_ret
    exact ⟨rfl, below_next bb1 b2⟩
 ·have hRes := unhide HRES
  rw [decide_eq_false hc, Bool.false_and] at hRes
  subst hRes
  have hc' : 0 ≤ c := by omega
  clear HRES hc
  go_wp2_with fail
  go_ret
  exact ⟨rfl, bb1⟩
end Go.Proofs.YtmlcmkoefelolaaGreat

namespace Go.Proofs.YtmlcmkoefelolaaGreat
open Go.RowKit
set_option linter.unusedVariables false

theorem one_count (n : Nat) : (((n : Nat) : Int) == 1) = decide (n = 1) := by
 rw [Bool.eq_iff_iff, beq_iff_eq, decide_eq_true_iff]
 omega

set_option maxHeartbeats 1600000 in
set_option maxRecDepth 100000 in
theorem implZoneOk_has {vo vr : Value} {o : List (List Int)} {rs : List Rec} {w : World} (h : HasZ w vo vr o rs) :
  Calls Tryz.prog 49 #[.agg #[vo, vr]] w fun e w' => e = .returned (.bool (zoneOk o rs)) ∧ Below w.heap.size w w' := by
 obtain ⟨oa, oc, rfl, _⟩ := h.name.form
 obtain ⟨ra, rc, rfl, hrl, hrm⟩ := h.recs.form
 have b0 := below_alloc (w := w) (.cells #[.slice oa o.length oc, .slice ra rs.length rc] 34)
 have k0 := heap_alloc_new w (.cells #[.slice oa o.length oc, .slice ra rs.length rc] 34)
 have H0 := hide (h.below b0)
 have K0 := hide k0
 have NO := implNameOk_has (h.below b0).name
 clear h k0 hrl hrm
 cases hok : nameOk o with
 | false =>
  rw [zoneOk_name hok]
  rw [hok] at NO
  replace NO := hide NO
  clear hok
  go_enter Tryz.func49, Tryz.ntmps49
  go_wp2_with fail
  refine (unhide NO).mono ?_
  rintro e w1 ⟨rfl, b1⟩
  go_wp2_with fail
  go_ret
  exact ⟨rfl, below_next b0 b1⟩
 | true =>
  rw [hok] at NO
  replace NO := hide NO
  by_cases h60 : rs.length ≤ 60
  ·generalize hzz : zoneOk o rs = ZZ
   have HZZ := hide hzz
   have HOK := hide hok
   clear hzz hok
   go_enter Tryz.func49, Tryz.ntmps49
   go_wp2_with fail
   generalize w.alloc (.cells #[.slice oa o.length oc, .slice ra rs.length rc] 34) = W at *
   refine (unhide NO).mono ?_
   rintro e w1 ⟨rfl, b1⟩
   have K1 := hide (block_kept b1 (unhide K0))
   have H1 := hide ((unhide H0).below b1)
   have bb1 := below_next b0 b1
   obtain ⟨d0, d1⟩ := cells2 (unhide K1)
   clear NO K0 H0 b0 b1
   generalize hn : rs.length = m at *
   have HN := hide hn
   clear hn
   have h60' : ¬ ((60 : Int) < m) := by omega
   go_wp2_with fail
   clear d0 d1
   go_loopw [3, 19] (fun s i wr => ∃ (k : Nat), k ≤ m ∧ i = .int .i64 k ∧ s = .int .i64 (soas rs k : Nat) ∧ Hid (∀ j, j < k → goodI o rs j = true) ∧ Below w1.heap.size w1 wr) (fun _ i _ => m - (intOf i).toNat)
   case atStart => exact ⟨0, Nat.zero_le _, rfl, rfl, hide (fun j hj => absurd hj (Nat.not_lt_zero _)), Below.refl _ _⟩
   case round =>
    obtain ⟨k, hk, rfl, rfl, hall, hb⟩ := hrel
    have hsk := soas_le rs k
    by_cases hlt : k < m
    ·obtain ⟨b, off, na, nc, ta, tc, xa, xc, ia, ic, rfl, hbl, hc, hu⟩ := ((unhide H1).below hb).recs.here (k := k) (by rw [unhide HN]; exact hlt)
     have K2 := hide (block_kept hb (unhide K1))
     have H2 := hide ((unhide H1).below hb)
     have bb2 := below_next bb1 hb
     have hgood : goodI o rs k = (inZone o (rs.getD k recZ) && (decide (k = 0) || follows (rs.getD (k - 1) recZ) (rs.getD k recZ))) := rfl
     have HGOOD := hide hgood
     have hsoa : soas rs (k + 1) = soas rs k + if (rs.getD k recZ).type = 6 then 1 else 0 := rfl
     have HSOA := hide hsoa
     clear hgood hsoa
     generalize hrk : rs.getD k recZ = rk at *
     have HRK := hide hrk
     clear hrk
     have b3 := below_alloc (w := wr) (.cells #[.slice na rk.name.length nc, .int .i64 rk.type, .int .i64 rk.ttl, .int .i64 rk.addr, .slice ta rk.to.length tc, .slice xa rk.text.length xc, .slice ia rk.nums.length ic] 52)
     have X3 := heap_alloc_new wr (.cells #[.slice na rk.name.length nc, .int .i64 rk.type, .int .i64 rk.ttl, .int .i64 rk.addr, .slice ta rk.to.length tc, .slice xa rk.text.length xc, .slice ia rk.nums.length ic] 52)
     have bd := below_drew (w := wr.alloc (.cells #[.slice na rk.name.length nc, .int .i64 rk.type, .int .i64 rk.ttl, .int .i64 rk.addr, .slice ta rk.to.length tc, .slice xa rk.text.length xc, .slice ia rk.nums.length ic] 52))
     have b4 := below_next b3 bd
     have X4 := hide (block_kept bd X3)
     have K4 := hide (block_kept b4 (unhide K2))
     have H4 := hide ((unhide H2).below b4)
     have U4 := hide (hu.below b4)
     have bb4 := below_next bb2 b4
     have bw4 := below_next hb b4
     have z4 := b4.size
     obtain ⟨c0, c1, c2, c3, c4, c5, c6⟩ := range7 hc
     clear b3 X3 bd b4 hu hc K2 H2 hb
     cases hin : inZone o rk with
     | false =>
      have hbad : goodI o rs k = false := by rw [unhide HGOOD, hin, Bool.false_and]
      have hz := zoneOk_bad (by rw [unhide HN]; exact hlt) hbad
      rw [unhide HZZ] at hz
      subst hz
      have MB := mayBeIn_has (unhide H4).name (unhide U4)
      rw [hin] at MB
      replace MB := hide MB
      clear hbad hin HGOOD HZZ HSOA
      go_wp2_with fail
      clear c0 c1 c2 c3 c4 c5 c6
      refine wp_region_held_drew (S := (fun w' => (w'.cell? ⟨w.heap.size, 0, none⟩ = some (.slice oa o.length oc) ∧ w'.cell? ⟨w.heap.size, 1, none⟩ = some (.slice (some ⟨b, off, none⟩) m rc)) ∧ (w'.cell? ⟨wr.heap.size, 0, none⟩ = some (.slice na rk.name.length nc) ∧ w'.cell? ⟨wr.heap.size, 1, none⟩ = some (.int .i64 rk.type) ∧ w'.cell? ⟨wr.heap.size, 2, none⟩ = some (.int .i64 rk.ttl) ∧ w'.cell? ⟨wr.heap.size, 3, none⟩ = some (.int .i64 rk.addr) ∧ w'.cell? ⟨wr.heap.size, 4, none⟩ = some (.slice ta rk.to.length tc) ∧ w'.cell? ⟨wr.heap.size, 5, none⟩ = some (.slice xa rk.text.length xc) ∧ w'.cell? ⟨wr.heap.size, 6, none⟩ = some (.slice ia rk.nums.length ic)))) (by kernel_rfl) ⟨cells2 (unhide K4), cells7 (unhide X4)⟩ (fun hHeld => ?_)
      show wpAnyH _ _ _ _ _ 20 #[false, false, false, false, false, false, false, false, false, false, false, false, false, false, false, false, false, false, false, false] _ _
      iterate 3 (refine tkF ?_ rfl (by kernel_rfl) (by kernel_rfl) (fun _ _ _ h => h) ?_ hHeld ?_; rotate_left; (· (intro w hSw; (try dsimp only at hSw); go_simp <;> with_reducible rfl)); simp only [Act.put, setF, List.setIfInBounds_toArray, List.set_cons_zero, List.set_cons_succ])
      refine runI 3 rfl (by kernel_rfl) (by kernel_rfl) (fun K hK => ?_)
      have HK := hide hK
      clear hK hHeld
      go_simp
      refine (unhide MB).mono ?_
      rintro e w5 ⟨rfl, b5⟩
      go_simp
      refine (unhide HK).out _ _ ⟨cells2 (block_kept b5 (unhide K4)), cells7 (block_kept b5 (unhide X4))⟩ (fun hHeld => ?_)
      clear HK K
      try simp only [List.setIfInBounds_toArray, List.set_cons_zero, List.set_cons_succ]
      iterate 2 (refine tkF ?_ rfl (by kernel_rfl) (by kernel_rfl) (fun _ _ _ h => h) ?_ hHeld ?_; rotate_left; (· (intro w hSw; (try dsimp only at hSw); go_simp <;> with_reducible rfl)); simp only [Act.put, setF, List.setIfInBounds_toArray, List.set_cons_zero, List.set_cons_succ])
      iterate 13 (refine skF rfl (by kernel_rfl) (by kernel_rfl) (fun _ _ _ h => h) hHeld ?_; simp only [Act.put, setF, List.setIfInBounds_toArray, List.set_cons_zero, List.set_cons_succ])
      refine tkF ?_ rfl (by kernel_rfl) (by kernel_rfl) (fun _ _ _ h => h) ?_ hHeld ?_; rotate_left; (· (intro w hSw; (try dsimp only at hSw); go_simp <;> with_reducible rfl)); simp only [Act.put, setF, List.setIfInBounds_toArray, List.set_cons_zero, List.set_cons_succ]
      refine wpAnyH_done (by kernel_rfl) ?_ _
      clear hHeld
      go_wp2_with fail
      go_ret
      exact ⟨rfl, below_next bb4 b5⟩
     | true =>
      have MB := mayBeIn_has (unhide H4).name (unhide U4)
      rw [hin] at MB
      replace MB := hide MB
      have hstep : ∀ (hg : goodI o rs k = true), ∀ j, j < k + 1 → goodI o rs j = true := fun hg j hj => by
       by_cases e : j = k
       ·subst e; exact hg
       ·exact unhide hall j (by omega)
      have HSTEP := hide hstep
      clear hstep
      by_cases hk0 : k = 0
      ·have hgd : goodI o rs k = true := by rw [unhide HGOOD, hin, Bool.true_and, decide_eq_true hk0, Bool.true_or]
       have HGD := hide hgd
       clear hgd hin HGOOD
       subst hk0
       simp only [Nat.zero_mul, Nat.add_zero] at c0 c1 c2 c3 c4 c5 c6
       go_wp2_with fail
       clear c0 c1 c2 c3 c4 c5 c6
       refine wp_region_held_drew (S := (fun w' => (w'.cell? ⟨w.heap.size, 0, none⟩ = some (.slice oa o.length oc) ∧ w'.cell? ⟨w.heap.size, 1, none⟩ = some (.slice (some ⟨b, off, none⟩) m rc)) ∧ (w'.cell? ⟨wr.heap.size, 0, none⟩ = some (.slice na rk.name.length nc) ∧ w'.cell? ⟨wr.heap.size, 1, none⟩ = some (.int .i64 rk.type) ∧ w'.cell? ⟨wr.heap.size, 2, none⟩ = some (.int .i64 rk.ttl) ∧ w'.cell? ⟨wr.heap.size, 3, none⟩ = some (.int .i64 rk.addr) ∧ w'.cell? ⟨wr.heap.size, 4, none⟩ = some (.slice ta rk.to.length tc) ∧ w'.cell? ⟨wr.heap.size, 5, none⟩ = some (.slice xa rk.text.length xc) ∧ w'.cell? ⟨wr.heap.size, 6, none⟩ = some (.slice ia rk.nums.length ic)))) (by kernel_rfl) ⟨cells2 (unhide K4), cells7 (unhide X4)⟩ (fun hHeld => ?_)
       show wpAnyH _ _ _ _ _ 20 #[false, false, false, false, false, false, false, false, false, false, false, false, false, false, false, false, false, false, false, false] _ _
       iterate 3 (refine tkF ?_ rfl (by kernel_rfl) (by kernel_rfl) (fun _ _ _ h => h) ?_ hHeld ?_; rotate_left; (· (intro w hSw; (try dsimp only at hSw); go_simp <;> with_reducible rfl)); simp only [Act.put, setF, List.setIfInBounds_toArray, List.set_cons_zero, List.set_cons_succ])
       refine runI 3 rfl (by kernel_rfl) (by kernel_rfl) (fun K hK => ?_)
       have HK := hide hK
       clear hK hHeld
       go_simp
       refine (unhide MB).mono ?_
       rintro e w5 ⟨rfl, b5⟩
       go_simp
       refine (unhide HK).out _ _ ⟨cells2 (block_kept b5 (unhide K4)), cells7 (block_kept b5 (unhide X4))⟩ (fun hHeld => ?_)
       clear HK K
       try simp only [List.setIfInBounds_toArray, List.set_cons_zero, List.set_cons_succ]
       iterate 2 (refine tkF ?_ rfl (by kernel_rfl) (by kernel_rfl) (fun _ _ _ h => h) ?_ hHeld ?_; rotate_left; (· (intro w hSw; (try dsimp only at hSw); go_simp <;> with_reducible rfl)); simp only [Act.put, setF, List.setIfInBounds_toArray, List.set_cons_zero, List.set_cons_succ])
       refine tkF (.int .i64 0) rfl (by kernel_rfl) (by kernel_rfl) (fun _ _ _ h => h) ?_ hHeld ?_; (· (intro w hSw; (try dsimp only at hSw); go_simp)); simp only [Act.put, setF, List.setIfInBounds_toArray, List.set_cons_zero, List.set_cons_succ]
       refine tkF (.bool false) rfl (by kernel_rfl) (by kernel_rfl) (fun _ _ _ h => h) ?_ hHeld ?_; (· (intro w hSw; (try dsimp only at hSw); go_simp)); simp only [Act.put, setF, List.setIfInBounds_toArray, List.set_cons_zero, List.set_cons_succ]
       refine tkF (.bool false) rfl (by kernel_rfl) (by kernel_rfl) (fun _ _ _ h => h) ?_ hHeld ?_; (· (intro w hSw; (try dsimp only at hSw); go_simp)); simp only [Act.put, setF, List.setIfInBounds_toArray, List.set_cons_zero, List.set_cons_succ]
       iterate 9 (refine skF rfl (by kernel_rfl) (by kernel_rfl) (fun _ _ _ h => h) hHeld ?_; simp only [Act.put, setF, List.setIfInBounds_toArray, List.set_cons_zero, List.set_cons_succ])
       iterate 2 (refine tkF ?_ rfl (by kernel_rfl) (by kernel_rfl) (fun _ _ _ h => h) ?_ hHeld ?_; rotate_left; (· (intro w hSw; (try dsimp only at hSw); go_simp <;> with_reducible rfl)); simp only [Act.put, setF, List.setIfInBounds_toArray, List.set_cons_zero, List.set_cons_succ])
       refine wpAnyH_done (by kernel_rfl) ?_ _
       clear hHeld
       have hgd := unhide HGD
       clear HGD
       have bw5 := below_next bw4 b5
       have X5 := hide (block_kept b5 (unhide X4))
       clear b5 bw4 X4 K4 MB H4 U4
       have hsoa := unhide HSOA
       clear HSOA
       obtain ⟨p0, p1, p2, p3, p4, p5, p6⟩ := cells7 (unhide X5)
       by_cases h6 : rk.type = 6
       ·rw [if_pos h6] at hsoa
        have e6 : (rk.type == 6) = true := by rw [h6]; rfl
        have HS1 := hide hsoa
        clear h6 hsoa
        go_wp2_with fail
        exact ⟨⟨0 + 1, by omega, by go_num, by rw [unhide HS1]; go_num, hide (unhide HSTEP hgd), bw5⟩, by simp [intOf]; omega⟩
       ·rw [if_neg h6, Nat.add_zero] at hsoa
        have e6 : (rk.type == 6) = false := by rw [beq_eq_false_iff_ne]; exact h6
        have HS1 := hide hsoa
        clear h6 hsoa
        go_wp2_with fail
        exact ⟨⟨0 + 1, by omega, by go_num, by first | (rw [unhide HS1]; done) | (rw [unhide HS1]; rfl), hide (unhide HSTEP hgd), bw5⟩, by simp [intOf]; omega⟩
      ·obtain ⟨k0, rfl⟩ : ∃ k0, k = k0 + 1 := ⟨k - 1, by omega⟩
       have hk0' : (0 : Int) < (k0 + 1 : Nat) := by omega
       have hwr : IntKind.i64.wrap (k0 : Int) = (k0 : Nat) := by have := hlt; exact wrap_small (by omega) (by omega)
       have hkm : (k0 : Int) < m := by omega
       rw [show k0 + 1 - 1 = k0 by omega] at HGOOD
       obtain ⟨b', off', na', nc', ta', tc', xa', xc', ia', ic', hbe, hbl', hc', hu'⟩ := (unhide H4).recs.here (k := k0) (by rw [unhide HN]; omega)
       simp only [Option.some.injEq, Addr.mk.injEq, and_true] at hbe
       obtain ⟨rfl, rfl⟩ := hbe
       generalize rs.getD k0 recZ = rp at *
       have HC4 := hide hc'
       have U4' := hide hu'
       clear hc' hu'
       have MF0 := fun (w : World) (h1 : HasR w (.slice na' rp.name.length nc') (.slice ta' rp.to.length tc') (.slice xa' rp.text.length xc') (.slice ia' rp.nums.length ic') rp) (h2 : HasR w (.slice na rk.name.length nc) (.slice ta rk.to.length tc) (.slice xa rk.text.length xc) (.slice ia rk.nums.length ic) rk) => mayFollow_has h1 h2
       cases hfo : follows rp rk with
       | false =>
        have hbad : goodI o rs (k0 + 1) = false := by rw [unhide HGOOD, hin, hfo]; simp
        have hz := zoneOk_bad (by rw [unhide HN]; exact hlt) hbad
        rw [unhide HZZ] at hz
        subst hz
        rw [hfo] at MF0
        replace MF0 := hide MF0
        clear hbad hin hfo HGOOD HZZ HSOA HSTEP
        go_wp2_with fail
        clear c0 c1 c2 c3 c4 c5 c6
        refine wp_region_held_drew (S := (fun w' => ((w'.cell? ⟨w.heap.size, 0, none⟩ = some (.slice oa o.length oc) ∧ w'.cell? ⟨w.heap.size, 1, none⟩ = some (.slice (some ⟨b, off, none⟩) m rc)) ∧ (w'.cell? ⟨wr.heap.size, 0, none⟩ = some (.slice na rk.name.length nc) ∧ w'.cell? ⟨wr.heap.size, 1, none⟩ = some (.int .i64 rk.type) ∧ w'.cell? ⟨wr.heap.size, 2, none⟩ = some (.int .i64 rk.ttl) ∧ w'.cell? ⟨wr.heap.size, 3, none⟩ = some (.int .i64 rk.addr) ∧ w'.cell? ⟨wr.heap.size, 4, none⟩ = some (.slice ta rk.to.length tc) ∧ w'.cell? ⟨wr.heap.size, 5, none⟩ = some (.slice xa rk.text.length xc) ∧ w'.cell? ⟨wr.heap.size, 6, none⟩ = some (.slice ia rk.nums.length ic))) ∧ (w'.cell? ⟨b, off + k0 * 7, none⟩ = some (.slice na' rp.name.length nc') ∧ w'.cell? ⟨b, off + k0 * 7 + 1, none⟩ = some (.int .i64 rp.type) ∧ w'.cell? ⟨b, off + k0 * 7 + 2, none⟩ = some (.int .i64 rp.ttl) ∧ w'.cell? ⟨b, off + k0 * 7 + 3, none⟩ = some (.int .i64 rp.addr) ∧ w'.cell? ⟨b, off + k0 * 7 + 4, none⟩ = some (.slice ta' rp.to.length tc') ∧ w'.cell? ⟨b, off + k0 * 7 + 5, none⟩ = some (.slice xa' rp.text.length xc') ∧ w'.cell? ⟨b, off + k0 * 7 + 6, none⟩ = some (.slice ia' rp.nums.length ic')))) (by kernel_rfl) ⟨⟨cells2 (unhide K4), cells7 (unhide X4)⟩, range7 (unhide HC4)⟩ (fun hHeld => ?_)
        show wpAnyH _ _ _ _ _ 20 #[false, false, false, false, false, false, false, false, false, false, false, false, false, false, false, false, false, false, false, false] _ _
        iterate 3 (refine tkF ?_ rfl (by kernel_rfl) (by kernel_rfl) (fun _ _ _ h => h) ?_ hHeld ?_; rotate_left; (· (intro w hSw; (try dsimp only at hSw); go_simp <;> with_reducible rfl)); simp only [Act.put, setF, List.setIfInBounds_toArray, List.set_cons_zero, List.set_cons_succ])
        refine runI 3 rfl (by kernel_rfl) (by kernel_rfl) (fun K hK => ?_)
        have HK := hide hK
        clear hK hHeld
        go_simp
        refine (unhide MB).mono ?_
        rintro e w5 ⟨rfl, b5⟩
        have MF := unhide MF0 _ ((unhide U4').below b5) ((unhide U4).below b5)
        replace MF := hide MF
        go_simp
        refine (unhide HK).out _ _ ⟨⟨cells2 (block_kept b5 (unhide K4)), cells7 (block_kept b5 (unhide X4))⟩, range7 (range_below (unhide HC4) hbl' b5)⟩ (fun hHeld => ?_)
        clear HK K
        try simp only [List.setIfInBounds_toArray, List.set_cons_zero, List.set_cons_succ]
        iterate 3 (refine tkF ?_ rfl (by kernel_rfl) (by kernel_rfl) (fun _ _ _ h => h) ?_ hHeld ?_; rotate_left; (· (intro w hSw; (try dsimp only at hSw); go_simp <;> with_reducible rfl)); simp only [Act.put, setF, List.setIfInBounds_toArray, List.set_cons_zero, List.set_cons_succ])
        refine tkF (.bool true) rfl (by kernel_rfl) (by kernel_rfl) (fun _ _ _ h => h) ?_ hHeld ?_; (· (intro w hSw; (try dsimp only at hSw); go_simp)); simp only [Act.put, setF, List.setIfInBounds_toArray, List.set_cons_zero, List.set_cons_succ]
        refine tkF (.bool true) rfl (by kernel_rfl) (by kernel_rfl) (fun _ _ _ h => h) ?_ hHeld ?_; (· (intro w hSw; (try dsimp only at hSw); go_simp)); simp only [Act.put, setF, List.setIfInBounds_toArray, List.set_cons_zero, List.set_cons_succ]
        iterate 2 (refine tkF ?_ rfl (by kernel_rfl) (by kernel_rfl) (fun _ _ _ h => h) ?_ hHeld ?_; rotate_left; (· (intro w hSw; (try dsimp only at hSw); go_simp <;> with_reducible rfl)); simp only [Act.put, setF, List.setIfInBounds_toArray, List.set_cons_zero, List.set_cons_succ])
        refine tkF (.int .i64 (k0 + 1 : Nat)) rfl (by kernel_rfl) (by kernel_rfl) (fun _ _ _ h => h) ?_ hHeld ?_; (· (intro w hSw; (try dsimp only at hSw); go_simp)); simp only [Act.put, setF, List.setIfInBounds_toArray, List.set_cons_zero, List.set_cons_succ]
        refine tkF (.int .i64 (k0 : Nat)) rfl (by kernel_rfl) (by kernel_rfl) (fun _ _ _ h => h) ?_ hHeld ?_; (· (intro w hSw; (try dsimp only at hSw); go_simp)); simp only [Act.put, setF, List.setIfInBounds_toArray, List.set_cons_zero, List.set_cons_succ]
        refine tkF (.pointer (some ⟨b, off + k0 * 7, none⟩)) rfl (by kernel_rfl) (by kernel_rfl) (fun _ _ _ h => h) ?_ hHeld ?_; (· (intro w hSw; (try dsimp only at hSw); go_simp)); simp only [Act.put, setF, List.setIfInBounds_toArray, List.set_cons_zero, List.set_cons_succ]
        iterate 2 (refine tkF ?_ rfl (by kernel_rfl) (by kernel_rfl) (fun _ _ _ h => h) ?_ hHeld ?_; rotate_left; (· (intro w hSw; (try dsimp only at hSw); go_simp <;> with_reducible rfl)); simp only [Act.put, setF, List.setIfInBounds_toArray, List.set_cons_zero, List.set_cons_succ])
        refine runI 16 rfl (by kernel_rfl) (by kernel_rfl) (fun K hK => ?_)
        have HK := hide hK
        clear hK hHeld
        go_simp
        refine (unhide MF).mono ?_
        rintro e w6 ⟨rfl, b6⟩
        have q6 := below_next b5 b6
        go_simp
        refine (unhide HK).out _ _ ⟨⟨cells2 (block_kept q6 (unhide K4)), cells7 (block_kept q6 (unhide X4))⟩, range7 (range_below (unhide HC4) hbl' q6)⟩ (fun hHeld => ?_)
        clear HK K
        try simp only [List.setIfInBounds_toArray, List.set_cons_zero, List.set_cons_succ]
        iterate 3 (refine tkF ?_ rfl (by kernel_rfl) (by kernel_rfl) (fun _ _ _ h => h) ?_ hHeld ?_; rotate_left; (· (intro w hSw; (try dsimp only at hSw); go_simp <;> with_reducible rfl)); simp only [Act.put, setF, List.setIfInBounds_toArray, List.set_cons_zero, List.set_cons_succ])
        refine wpAnyH_done (by kernel_rfl) ?_ _
        clear hHeld
        go_wp2_with fail
        go_ret
        exact ⟨rfl, below_next bb4 q6⟩
       | true =>
        have hgd : goodI o rs (k0 + 1) = true := by rw [unhide HGOOD, hin, hfo]; simp
        have HGD := hide hgd
        rw [hfo] at MF0
        replace MF0 := hide MF0
        clear hgd hin hfo HGOOD
        go_wp2_with fail
        clear c0 c1 c2 c3 c4 c5 c6
        refine wp_region_held_drew (S := (fun w' => ((w'.cell? ⟨w.heap.size, 0, none⟩ = some (.slice oa o.length oc) ∧ w'.cell? ⟨w.heap.size, 1, none⟩ = some (.slice (some ⟨b, off, none⟩) m rc)) ∧ (w'.cell? ⟨wr.heap.size, 0, none⟩ = some (.slice na rk.name.length nc) ∧ w'.cell? ⟨wr.heap.size, 1, none⟩ = some (.int .i64 rk.type) ∧ w'.cell? ⟨wr.heap.size, 2, none⟩ = some (.int .i64 rk.ttl) ∧ w'.cell? ⟨wr.heap.size, 3, none⟩ = some (.int .i64 rk.addr) ∧ w'.cell? ⟨wr.heap.size, 4, none⟩ = some (.slice ta rk.to.length tc) ∧ w'.cell? ⟨wr.heap.size, 5, none⟩ = some (.slice xa rk.text.length xc) ∧ w'.cell? ⟨wr.heap.size, 6, none⟩ = some (.slice ia rk.nums.length ic))) ∧ (w'.cell? ⟨b, off + k0 * 7, none⟩ = some (.slice na' rp.name.length nc') ∧ w'.cell? ⟨b, off + k0 * 7 + 1, none⟩ = some (.int .i64 rp.type) ∧ w'.cell? ⟨b, off + k0 * 7 + 2, none⟩ = some (.int .i64 rp.ttl) ∧ w'.cell? ⟨b, off + k0 * 7 + 3, none⟩ = some (.int .i64 rp.addr) ∧ w'.cell? ⟨b, off + k0 * 7 + 4, none⟩ = some (.slice ta' rp.to.length tc') ∧ w'.cell? ⟨b, off + k0 * 7 + 5, none⟩ = some (.slice xa' rp.text.length xc') ∧ w'.cell? ⟨b, off + k0 * 7 + 6, none⟩ = some (.slice ia' rp.nums.length ic')))) (by kernel_rfl) ⟨⟨cells2 (unhide K4), cells7 (unhide X4)⟩, range7 (unhide HC4)⟩ (fun hHeld => ?_)
        show wpAnyH _ _ _ _ _ 20 #[false, false, false, false, false, false, false, false, false, false, false, false, false, false, false, false, false, false, false, false] _ _
        iterate 3 (refine tkF ?_ rfl (by kernel_rfl) (by kernel_rfl) (fun _ _ _ h => h) ?_ hHeld ?_; rotate_left; (· (intro w hSw; (try dsimp only at hSw); go_simp <;> with_reducible rfl)); simp only [Act.put, setF, List.setIfInBounds_toArray, List.set_cons_zero, List.set_cons_succ])
        refine runI 3 rfl (by kernel_rfl) (by kernel_rfl) (fun K hK => ?_)
        have HK := hide hK
        clear hK hHeld
        go_simp
        refine (unhide MB).mono ?_
        rintro e w5 ⟨rfl, b5⟩
        have MF := unhide MF0 _ ((unhide U4').below b5) ((unhide U4).below b5)
        replace MF := hide MF
        go_simp
        refine (unhide HK).out _ _ ⟨⟨cells2 (block_kept b5 (unhide K4)), cells7 (block_kept b5 (unhide X4))⟩, range7 (range_below (unhide HC4) hbl' b5)⟩ (fun hHeld => ?_)
        clear HK K
        try simp only [List.setIfInBounds_toArray, List.set_cons_zero, List.set_cons_succ]
        iterate 3 (refine tkF ?_ rfl (by kernel_rfl) (by kernel_rfl) (fun _ _ _ h => h) ?_ hHeld ?_; rotate_left; (· (intro w hSw; (try dsimp only at hSw); go_simp <;> with_reducible rfl)); simp only [Act.put, setF, List.setIfInBounds_toArray, List.set_cons_zero, List.set_cons_succ])
        refine tkF (.bool true) rfl (by kernel_rfl) (by kernel_rfl) (fun _ _ _ h => h) ?_ hHeld ?_; (· (intro w hSw; (try dsimp only at hSw); go_simp)); simp only [Act.put, setF, List.setIfInBounds_toArray, List.set_cons_zero, List.set_cons_succ]
        refine tkF (.bool true) rfl (by kernel_rfl) (by kernel_rfl) (fun _ _ _ h => h) ?_ hHeld ?_; (· (intro w hSw; (try dsimp only at hSw); go_simp)); simp only [Act.put, setF, List.setIfInBounds_toArray, List.set_cons_zero, List.set_cons_succ]
        iterate 2 (refine tkF ?_ rfl (by kernel_rfl) (by kernel_rfl) (fun _ _ _ h => h) ?_ hHeld ?_; rotate_left; (· (intro w hSw; (try dsimp only at hSw); go_simp <;> with_reducible rfl)); simp only [Act.put, setF, List.setIfInBounds_toArray, List.set_cons_zero, List.set_cons_succ])
        refine tkF (.int .i64 (k0 + 1 : Nat)) rfl (by kernel_rfl) (by kernel_rfl) (fun _ _ _ h => h) ?_ hHeld ?_; (· (intro w hSw; (try dsimp only at hSw); go_simp)); simp only [Act.put, setF, List.setIfInBounds_toArray, List.set_cons_zero, List.set_cons_succ]
        refine tkF (.int .i64 (k0 : Nat)) rfl (by kernel_rfl) (by kernel_rfl) (fun _ _ _ h => h) ?_ hHeld ?_; (· (intro w hSw; (try dsimp only at hSw); go_simp)); simp only [Act.put, setF, List.setIfInBounds_toArray, List.set_cons_zero, List.set_cons_succ]
        refine tkF (.pointer (some ⟨b, off + k0 * 7, none⟩)) rfl (by kernel_rfl) (by kernel_rfl) (fun _ _ _ h => h) ?_ hHeld ?_; (· (intro w hSw; (try dsimp only at hSw); go_simp)); simp only [Act.put, setF, List.setIfInBounds_toArray, List.set_cons_zero, List.set_cons_succ]
        iterate 2 (refine tkF ?_ rfl (by kernel_rfl) (by kernel_rfl) (fun _ _ _ h => h) ?_ hHeld ?_; rotate_left; (· (intro w hSw; (try dsimp only at hSw); go_simp <;> with_reducible rfl)); simp only [Act.put, setF, List.setIfInBounds_toArray, List.set_cons_zero, List.set_cons_succ])
        refine runI 16 rfl (by kernel_rfl) (by kernel_rfl) (fun K hK => ?_)
        have HK := hide hK
        clear hK hHeld
        go_simp
        refine (unhide MF).mono ?_
        rintro e w6 ⟨rfl, b6⟩
        have q6 := below_next b5 b6
        go_simp
        refine (unhide HK).out _ _ ⟨⟨cells2 (block_kept q6 (unhide K4)), cells7 (block_kept q6 (unhide X4))⟩, range7 (range_below (unhide HC4) hbl' q6)⟩ (fun hHeld => ?_)
        clear HK K
        try simp only [List.setIfInBounds_toArray, List.set_cons_zero, List.set_cons_succ]
        iterate 3 (refine tkF ?_ rfl (by kernel_rfl) (by kernel_rfl) (fun _ _ _ h => h) ?_ hHeld ?_; rotate_left; (· (intro w hSw; (try dsimp only at hSw); go_simp <;> with_reducible rfl)); simp only [Act.put, setF, List.setIfInBounds_toArray, List.set_cons_zero, List.set_cons_succ])
        refine wpAnyH_done (by kernel_rfl) ?_ _
        clear hHeld
        have hgd := unhide HGD
        clear HGD
        have bw6 := below_next bw4 q6
        have X6 := hide (block_kept q6 (unhide X4))
        clear b5 b6 q6 bw4 X4 K4 MB H4 U4 MF0 HC4 U4'
        have hsoa := unhide HSOA
        clear HSOA
        obtain ⟨p0, p1, p2, p3, p4, p5, p6⟩ := cells7 (unhide X6)
        by_cases h6 : rk.type = 6
        ·rw [if_pos h6] at hsoa
         have e6 : (rk.type == 6) = true := by rw [h6]; rfl
         have HS1 := hide hsoa
         clear h6 hsoa
         go_wp2_with fail
         exact ⟨⟨k0 + 1 + 1, by omega, by go_num, by rw [unhide HS1]; go_num, hide (unhide HSTEP hgd), bw6⟩, by simp [intOf]; omega⟩
        ·rw [if_neg h6, Nat.add_zero] at hsoa
         have e6 : (rk.type == 6) = false := by rw [beq_eq_false_iff_ne]; exact h6
         have HS1 := hide hsoa
         clear h6 hsoa
         go_wp2_with fail
         exact ⟨⟨k0 + 1 + 1, by omega, by go_num, by first | (rw [unhide HS1]; done) | (rw [unhide HS1]; rfl), hide (unhide HSTEP hgd), bw6⟩, by simp [intOf]; omega⟩
    ·obtain rfl : k = m := by omega
     have hz := zoneOk_end (unhide HOK) (by rw [unhide HN]; omega) (by rw [unhide HN]; exact unhide hall)
     rw [unhide HZZ, unhide HN] at hz
     have h1 := one_count (soas rs k)
     rw [← hz] at h1
     clear hz HZZ
     go_wp2
     go_ret
     exact ⟨rfl, below_next bb1 hb⟩
  ·rw [zoneOk_long (by omega)]
   have h60' : (60 : Int) < rs.length := by omega
   go_enter Tryz.func49, Tryz.ntmps49
   go_wp2_with fail
   generalize w.alloc (.cells #[.slice oa o.length oc, .slice ra rs.length rc] 34) = W at *
   refine (unhide NO).mono ?_
   rintro e w1 ⟨rfl, b1⟩
   obtain ⟨d0, d1⟩ := cells2 (block_kept b1 (unhide K0))
   go_wp2_with fail
   go_ret
   exact ⟨rfl, below_next b0 b1⟩
end Go.Proofs.YtmlcmkoefelolaaGreat

namespace Go.Proofs.YtmlcmkoefelolaaGreat
open Go.RowKit Go.Shelf
set_option linter.unusedVariables false

set_option maxHeartbeats 2000000 in
set_option maxRecDepth 100000 in
theorem lookupB_own {n0 b : Nat} {vo v : Value} {o n : List (List Int)} {rs : List Rec} (t : Int) {w : World} (hB : BookM n0 w b (bookIn rs)) (hz : zoneOk o rs = true) (hnm : nameOk n = true) (ho : HasL w vo o) (hn : HasL w v n) :
  Calls Tryz.prog 80 #[.map (some b), .agg #[vo], .agg #[v], .int .i64 t] w fun e w' => ∃ u, e = .returned (.tuple #[u, .int .i64 (lookB o rs n t).2]) ∧ RowO w.heap.size w'.heap.size 52 44 5 3 w' u (lookB o rs n t).1 ∧ Below w.heap.size w w' := by
 obtain ⟨oa, oc, rfl, _⟩ := ho.form
 obtain ⟨a, cap, rfl, hcl, hcm⟩ := hn.form
 obtain ⟨hsz, k0, x0⟩ := box2 w (.cells #[.slice oa o.length oc] 32) #[.slice a n.length cap] 32
 have bb := below2 w (.cells #[.slice oa o.length oc] 32) (.cells #[.slice a n.length cap] 32)
 have HB := hide (hB.below bb)
 have HN := hide (hn.below bb)
 have HO := hide (ho.below bb)
 have KO := hide k0
 have KN := hide x0
 have UN := implUnder_has (hn.below bb) (ho.below bb)
 have HAN := hide (book_any (n := n) (zone_oks hz))
 have S0 := hide (fun (t : Int) (w : World) (v : Value) (hB : BookM n0 w b (bookIn rs)) (hn : HasL w v n) => setB_own t hB hz hnm hn)
 have HD := hide (fun (hu : under n o = true) (w : World) (vo v : Value) (hB : BookM n0 w b (bookIn rs)) (ho : HasL w vo o) (hn : HasL w v n) => handedTo_own hB hz hnm ho hn (under_le hu))
 have c0 := block_one k0
 have c1 := block_one x0
 clear hB ho hn k0 x0 hsz hz hnm
 unfold lookB
 cases hu : under n o with
 | false =>
  rw [if_pos rfl]
  rw [hu] at UN
  replace UN := hide UN
  clear hu S0 HD HAN
  go_enter Tryz.func80, Tryz.ntmps80
  go_wp2_with fail
  refine (unhide UN).mono ?_
  rintro e w1 ⟨rfl, b1⟩
  go_wp2_with fail
  go_ret2
  exact ⟨_, rfl, RowO.nil _ _ _ _ _ _ _, below_next bb b1⟩
 | true =>
  rw [if_neg (fun h => Bool.noConfusion h)]
  rw [hu] at UN
  replace UN := hide UN
  replace HD := hide (unhide HD hu)
  clear hu
  generalize handedOf n rs (n.length - o.length) = H at *
  generalize hS1 : selK n t rs rs.length = S1 at *
  generalize hS2 : selK n 5 rs rs.length = S2 at *
  generalize hAny : hasAny rs n = AN at *
  have HS1 := hide hS1
  have HS2 := hide hS2
  clear hS1 hS2 hAny
  generalize hres : (if 0 < H.length then (H, (2 : Int)) else if 0 < S1.length then (S1, 0) else if 0 < S2.length then (S2, 1) else if AN = true then ([], 3) else ([], 4)) = res
  have HRES := hide hres
  clear hres
  go_enter Tryz.func80, Tryz.ntmps80
  go_wp2_with fail
  refine (unhide UN).mono ?_
  rintro e w1 ⟨rfl, b1⟩
  replace bb := below_next bb b1
  replace HB := hide ((unhide HB).below b1)
  replace HN := hide ((unhide HN).below b1)
  replace HO := hide ((unhide HO).below b1)
  replace KN := hide (block_kept b1 (unhide KN))
  replace KO := hide (block_kept b1 (unhide KO))
  have zb := bb.size
  clear c0 c1 b1 UN
  have c0 := block_one (unhide KO)
  have c1 := block_one (unhide KN)
  have CD := hide (unhide HD _ _ _ (unhide HB) (unhide HO) (unhide HN))
  go_wp2_with fail
  refine (unhide CD).mono ?_
  rintro e w2 ⟨u2, rfl, o2, b2⟩
  obtain ⟨ua2, uc2, rfl, _⟩ := o2.form
  replace bb := below_next bb b2
  replace HB := hide ((unhide HB).below b2)
  replace HN := hide ((unhide HN).below b2)
  replace KN := hide (block_kept b2 (unhide KN))
  have z2 := b2.size
  clear c0 c1 b2 CD HD HO KO
  generalize hm1 : H.length = m1 at *
  have Hm1 := hide hm1
  clear hm1
  by_cases h1 : 0 < m1
  ·have h1i : (0 : Int) < m1 := by omega
   have hr := unhide HRES
   rw [if_pos h1] at hr
   subst hr
   have O2 := hide o2
   clear o2
   go_wp2_with fail
   go_ret2
   exact ⟨_, rfl, (unhide O2).wide (by omega) (Nat.le_refl _), bb⟩
  have h1i : ¬ (0 : Int) < m1 := by omega
  clear o2
  have c1 := block_one (unhide KN)
  have C1 := unhide S0 t _ _ (unhide HB) (unhide HN)
  rw [unhide HS1] at C1
  replace C1 := hide C1
  go_wp2_with fail
  refine (unhide C1).mono ?_
  rintro e w3 ⟨u3, rfl, o3, b3⟩
  obtain ⟨ua3, uc3, rfl, _⟩ := o3.form
  replace bb := below_next bb b3
  replace HB := hide ((unhide HB).below b3)
  replace HN := hide ((unhide HN).below b3)
  replace KN := hide (block_kept b3 (unhide KN))
  have z3 := b3.size
  clear c1 b3 C1
  generalize hm2 : S1.length = m2 at *
  have Hm2 := hide hm2
  clear hm2
  by_cases h2 : 0 < m2
  ·have h2i : (0 : Int) < m2 := by omega
   have hr := unhide HRES
   rw [if_neg h1, if_pos h2] at hr
   subst hr
   have O3 := hide o3
   clear o3
   go_wp2_with fail
   go_ret2
   exact ⟨_, rfl, (unhide O3).wide (by omega) (Nat.le_refl _), bb⟩
  have h2i : ¬ (0 : Int) < m2 := by omega
  clear o3
  have c1 := block_one (unhide KN)
  have C2 := unhide S0 5 _ _ (unhide HB) (unhide HN)
  rw [unhide HS2] at C2
  replace C2 := hide C2
  go_wp2_with fail
  refine (unhide C2).mono ?_
  rintro e w4 ⟨u4, rfl, o4, b4⟩
  obtain ⟨ua4, uc4, rfl, _⟩ := o4.form
  replace bb := below_next bb b4
  replace HB := hide ((unhide HB).below b4)
  replace HN := hide ((unhide HN).below b4)
  replace KN := hide (block_kept b4 (unhide KN))
  have z4 := b4.size
  clear c1 b4 C2
  generalize hm3 : S2.length = m3 at *
  have Hm3 := hide hm3
  clear hm3
  by_cases h3 : 0 < m3
  ·have h3i : (0 : Int) < m3 := by omega
   have hr := unhide HRES
   rw [if_neg h1, if_neg h2, if_pos h3] at hr
   subst hr
   have O4 := hide o4
   clear o4
   go_wp2_with fail
   go_ret2
   exact ⟨_, rfl, (unhide O4).wide (by omega) (Nat.le_refl _), bb⟩
  have h3i : ¬ (0 : Int) < m3 := by omega
  clear o4
  have c1 := block_one (unhide KN)
  have C3 := hasNameB_has (unhide HB) (unhide HN)
  rw [unhide HAN] at C3
  have hr := unhide HRES
  rw [if_neg h1, if_neg h2, if_neg h3] at hr
  cases AN with
  | true =>
   rw [if_pos rfl] at hr
   subst hr
   replace C3 := hide C3
   go_wp2_with fail
   refine (unhide C3).mono ?_
   rintro e w5 ⟨rfl, b5⟩
   go_wp2_with fail
   go_ret2
   exact ⟨_, rfl, RowO.nil _ _ _ _ _ _ _, below_next bb b5⟩
  | false =>
   rw [if_neg (fun h => Bool.noConfusion h)] at hr
   subst hr
   replace C3 := hide C3
   go_wp2_with fail
   refine (unhide C3).mono ?_
   rintro e w5 ⟨rfl, b5⟩
   go_wp2_with fail
   go_ret2
   exact ⟨_, rfl, RowO.nil _ _ _ _ _ _ _, below_next bb b5⟩

set_option maxHeartbeats 2000000 in
set_option maxRecDepth 100000 in
theorem implLookup_own {vo vr v : Value} {o n : List (List Int)} {rs : List Rec} (t : Int) {w : World} (h : HasZ w vo vr o rs) (hn : HasL w v n) :
  Calls Tryz.prog 34 #[.agg #[vo, vr], .agg #[v], .int .i64 t] w fun e w' => ∃ u, e = .returned (.tuple #[u, .int .i64 (lookupOf o rs n t).2]) ∧ RowO w.heap.size w'.heap.size 52 44 5 3 w' u (lookupOf o rs n t).1 ∧ Below w.heap.size w w' := by
 obtain ⟨oa, oc, rfl, _⟩ := h.name.form
 obtain ⟨ra, rc, rfl, _⟩ := h.recs.form
 obtain ⟨a, cap, rfl, _⟩ := hn.form
 obtain ⟨hsz, k0, x0⟩ := box2 w (.cells #[.slice oa o.length oc, .slice ra rs.length rc] 34) #[.slice a n.length cap] 32
 have bb := below2 w (.cells #[.slice oa o.length oc, .slice ra rs.length rc] 34) (.cells #[.slice a n.length cap] 32)
 have HH := hide (h.below bb)
 have HN := hide (hn.below bb)
 have HO := implZoneOk_has (h.below bb)
 have KZ := hide k0
 have KN := hide x0
 obtain ⟨c0, c1⟩ := cells2 k0
 clear h hn hsz k0 x0
 generalize hres : lookupOf o rs n t = res
 unfold lookupOf at hres
 cases hz : zoneOk o rs with
 | false =>
  rw [if_neg (fun q => by rw [hz] at q; cases q.1)] at hres
  subst hres
  rw [hz] at HO
  replace HO := hide HO
  go_enter Tryz.func34, Tryz.ntmps34
  go_wp2_with fail
  refine (unhide HO).mono ?_
  rintro e w1 ⟨rfl, b1⟩
  go_wp2_with fail
  go_ret2
  exact ⟨_, rfl, RowO.nil _ _ _ _ _ _ _, below_next bb b1⟩
 | true =>
  rw [hz] at HO
  replace HO := hide HO
  cases hnm : nameOk n with
  | false =>
   rw [if_neg (fun q => by rw [hnm] at q; cases q.2.1)] at hres
   subst hres
   go_enter Tryz.func34, Tryz.ntmps34
   go_wp2_with fail
   refine (unhide HO).mono ?_
   rintro e w1 ⟨rfl, b1⟩
   have HM := implNameOk_has ((unhide HN).below b1)
   rw [hnm] at HM
   replace HM := hide HM
   have d2 := block_one (block_kept b1 (unhide KN))
   replace bb := below_next bb b1
   clear c0 c1
   go_wp2_with fail
   refine (unhide HM).mono ?_
   rintro e w2 ⟨rfl, b2⟩
   go_wp2_with fail
   go_ret2
   exact ⟨_, rfl, RowO.nil _ _ _ _ _ _ _, below_next bb b2⟩
  | true =>
   cases hq : asked t with
   | false =>
    rw [if_neg (fun q => by rw [hq] at q; cases q.2.2)] at hres
    subst hres
    have AK := hide (fun w => askable_any t w)
    rw [hq] at AK
    clear hq
    go_enter Tryz.func34, Tryz.ntmps34
    go_wp2_with fail
    refine (unhide HO).mono ?_
    rintro e w1 ⟨rfl, b1⟩
    have HM := implNameOk_has ((unhide HN).below b1)
    rw [hnm] at HM
    replace HM := hide HM
    have d2 := block_one (block_kept b1 (unhide KN))
    replace bb := below_next bb b1
    clear c0 c1
    go_wp2_with fail
    refine (unhide HM).mono ?_
    rintro e w2 ⟨rfl, b2⟩
    go_wp2_with fail
    refine (unhide AK _).mono ?_
    rintro e w3 ⟨rfl, rfl⟩
    go_wp2_with fail
    go_ret2
    exact ⟨_, rfl, RowO.nil _ _ _ _ _ _ _, below_next bb b2⟩
   | true =>
    rw [if_pos ⟨hz, hnm, hq⟩] at hres
    have AK := hide (fun w => askable_any t w)
    rw [hq] at AK
    have LK := hide (fun (n0 b : Nat) (w : World) (vo v : Value) (hB : BookM n0 w b (bookIn rs)) (ho : HasL w vo o) (hn : HasL w v n) => lookupB_own t hB hz hnm ho hn)
    rw [hres] at LK
    have HOK := hide (zone_oks hz)
    have h60 := (zone_short hz).2.2
    clear hq hres
    go_enter Tryz.func34, Tryz.ntmps34
    go_wp2_with fail
    refine (unhide HO).mono ?_
    rintro e w1 ⟨rfl, b1⟩
    have HM := implNameOk_has ((unhide HN).below b1)
    rw [hnm] at HM
    replace HM := hide HM
    have d2 := block_one (block_kept b1 (unhide KN))
    replace bb := below_next bb b1
    replace HH := hide ((unhide HH).below b1)
    replace HN := hide ((unhide HN).below b1)
    replace KZ := hide (block_kept b1 (unhide KZ))
    replace KN := hide (block_kept b1 (unhide KN))
    clear c0 c1 b1 HO
    go_wp2_with fail
    refine (unhide HM).mono ?_
    rintro e w2 ⟨rfl, b2⟩
    have b3 := below_next b2 (below_drew (w := w2))
    replace bb := below_next bb b3
    replace HH := hide ((unhide HH).below b3)
    replace HN := hide ((unhide HN).below b3)
    replace KZ := hide (block_kept b3 (unhide KZ))
    replace KN := hide (block_kept b3 (unhide KN))
    clear d2 b2 b3 HM
    go_wp2_with fail
    refine (unhide AK _).mono ?_
    rintro e w3 ⟨rfl, rfl⟩
    go_wp2_with fail
    go_region_held3 (fun w' => (w'.cell? ⟨w.heap.size, 0, none⟩ = some (.slice oa o.length oc) ∧ w'.cell? ⟨w.heap.size, 1, none⟩ = some (.slice ra rs.length rc)) ∧ w'.cell? ⟨w.heap.size + 1, 0, none⟩ = some (.slice a n.length cap))
     (first | exact ⟨cells2 (unhide KZ), block_one (unhide KN)⟩ | exact ⟨cells2 (block_kept q5 (unhide KZ)), block_one (block_kept q5 (unhide KN))⟩ | exact ⟨cells2 (block_kept b4 (unhide KZ)), block_one (block_kept b4 (unhide KN))⟩)
     (first
     | (go_at_call 51; refine (bookOf_has (unhide HH) (unhide HOK) (by omega)).mono ?_; rintro e w4 ⟨rfl, hB4, b4⟩)
     | (go_at_call 80; refine (unhide LK _ _ _ _ _ hB4 ((unhide HH).name.below b4) ((unhide HN).below b4)).mono ?_; rintro e w5 ⟨u5, rfl, o5, b5⟩; have q5 := below_next b4 b5))
    have z4 := b4.size
    have zz := bb.size
    go_wp2_with fail
    go_ret2
    exact ⟨_, rfl, o5.wide (by omega) (Nat.le_refl _), below_next bb q5⟩
end Go.Proofs.YtmlcmkoefelolaaGreat
