/-
  Contract of the specification's ZoneOk. Contract of the specification's SetOf. The walk of laws.FnExactSetOf.
-/
import Derived.Test.YtmlcmkoefelolaaGreatSetOfG16
import Derived.Test.YtmlcmkoefelolaaGreatSetOfG07
import Derived.Test.YtmlcmkoefelolaaGreatSetOfG38
import Derived.Test.YtmlcmkoefelolaaGreatSetOfG40
import Derived.Test.YtmlcmkoefelolaaGreatSetOfG35
import Derived.Deep.RegionHeld3
import Derived.Test.YtmlcmkoefelolaaGreatSetOfG30
import Derived.Test.YtmlcmkoefelolaaGreatSetOfG36
import Derived.Test.YtmlcmkoefelolaaGreatSetOfG32
import Derived.Test.YtmlcmkoefelolaaGreatSetOfG02
import Derived.Test.YtmlcmkoefelolaaGreatSetOfG04
import Derived.Test.YtmlcmkoefelolaaGreatSetOfG05
import Derived.Test.YtmlcmkoefelolaaGreatSetOfG11
import Derived.Test.YtmlcmkoefelolaaGreatSetOfG10
import Derived.Test.YtmlcmkoefelolaaGreatSetOfG34
import Derived.Deep.RegionWith
namespace Go.Proofs.YtmlcmkoefelolaaGreat
open Go.RowKit
set_option linter.unusedVariables false

theorem one_count2 (n : Nat) : (((n : Nat) : Int) == 1) = decide (n = 1) := by
 rw [Bool.eq_iff_iff, beq_iff_eq, decide_eq_true_iff]
 omega

set_option maxHeartbeats 4000000 in
set_option maxRecDepth 100000 in
theorem specZoneOk_has {vo vr : Value} {o : List (List Int)} {rs : List Rec} {w : World} (h : HasZ w vo vr o rs) (hs : ∀ k, k < rs.length → (rs.getD k recZ).name.length ≤ 1048576) :
  Calls Tryz.prog 43 #[.agg #[vo, vr]] w fun e w' => e = .returned (.bool (zoneOk o rs)) ∧ Below w.heap.size w w' := by
 obtain ⟨oa, oc, rfl, _⟩ := h.name.form
 obtain ⟨ra, rc, rfl, hrl, hrm⟩ := h.recs.form
 have b0 := below_alloc (w := w) (.cells #[.slice oa o.length oc, .slice ra rs.length rc] 34)
 have k0 := heap_alloc_new w (.cells #[.slice oa o.length oc, .slice ra rs.length rc] 34)
 have H0 := hide (h.below b0)
 have K0 := hide k0
 have NO := specNameOk_has (h.below b0).name
 have HSS := hide hs
 clear h k0 hrl hrm hs
 cases hok : nameOk o with
 | false =>
  rw [zoneOk_name hok]
  rw [hok] at NO
  replace NO := hide NO
  clear hok
  go_enter Tryz.func43, Tryz.ntmps43
  go_wp2_with fail
  refine (unhide NO).mono ?_
  rintro e w1 ⟨rfl, b1⟩
  go_wp2_with fail
  go_ret
  exact ⟨rfl, below_next b0 b1⟩
 | true =>
  rw [hok] at NO
  replace NO := hide NO
  by_cases h60 : rs.length ≤ 60
  ·generalize hzz : zoneOk o rs = ZZ
   have HZZ := hide hzz
   have HOK := hide hok
   clear hzz hok
   go_enter Tryz.func43, Tryz.ntmps43
   go_wp2_with fail
   generalize w.alloc (.cells #[.slice oa o.length oc, .slice ra rs.length rc] 34) = W at *
   refine (unhide NO).mono ?_
   rintro e w1 ⟨rfl, b1⟩
   have K1 := hide (block_kept b1 (unhide K0))
   have H1 := hide ((unhide H0).below b1)
   have bb1 := below_next b0 b1
   obtain ⟨d0, d1⟩ := cells2 (unhide K1)
   clear NO K0 H0 b0 b1
   generalize hn : rs.length = m at *
   have HN := hide hn
   clear hn
   have h60' : ¬ ((60 : Int) < m) := by omega
   go_wp2_with fail
   clear d0 d1
   go_loopw [3, 4] (fun s i wr => ∃ (k : Nat), k ≤ m ∧ i = .int .i64 k ∧ s = .int .i64 (soas rs k : Nat) ∧ Hid (∀ j, j < k → GoodS o rs j) ∧ Below w1.heap.size w1 wr) (fun _ i _ => m - (intOf i).toNat)
   case atStart => exact ⟨0, Nat.zero_le _, rfl, rfl, hide (fun j hj => absurd hj (Nat.not_lt_zero _)), Below.refl _ _⟩
   case round =>
    obtain ⟨k, hk, rfl, rfl, hall, hb⟩ := hrel
    have hsk := soas_le rs k
    by_cases hlt : k < m
    ·obtain ⟨b, off, na, nc, ta, tc, xa, xc, ia, ic, rfl, hbl, hc, hu⟩ := ((unhide H1).below hb).recs.here (k := k) (by rw [unhide HN]; exact hlt)
     have K2 := hide (block_kept hb (unhide K1))
     have H2 := hide ((unhide H1).below hb)
     have bb2 := below_next bb1 hb
     have hsoa : soas rs (k + 1) = soas rs k + if (rs.getD k recZ).type = 6 then 1 else 0 := rfl
     have HSOA := hide hsoa
     clear hsoa
     generalize hrk : rs.getD k recZ = rk at *
     have HRK := hide hrk
     clear hrk
     have b3 := below_alloc (w := wr) (.cells #[.slice na rk.name.length nc, .int .i64 rk.type, .int .i64 rk.ttl, .int .i64 rk.addr, .slice ta rk.to.length tc, .slice xa rk.text.length xc, .slice ia rk.nums.length ic] 52)
     have X3 := heap_alloc_new wr (.cells #[.slice na rk.name.length nc, .int .i64 rk.type, .int .i64 rk.ttl, .int .i64 rk.addr, .slice ta rk.to.length tc, .slice xa rk.text.length xc, .slice ia rk.nums.length ic] 52)
     have bd := below_drew (w := wr.alloc (.cells #[.slice na rk.name.length nc, .int .i64 rk.type, .int .i64 rk.ttl, .int .i64 rk.addr, .slice ta rk.to.length tc, .slice xa rk.text.length xc, .slice ia rk.nums.length ic] 52))
     have b4 := below_next b3 bd
     have X4 := hide (block_kept bd X3)
     have K4 := hide (block_kept b4 (unhide K2))
     have H4 := hide ((unhide H2).below b4)
     have U4 := hide (hu.below b4)
     have bb4 := below_next bb2 b4
     have bw4 := below_next hb b4
     have z4 := b4.size
     obtain ⟨c0, c1, c2, c3, c4, c5, c6⟩ := range7 hc
     obtain ⟨zc0, zc1⟩ := cells2 (unhide K2)
     clear b3 X3 bd b4 hu hc K2 H2 hb
     have RK := specRrOk_has (unhide U4)
     cases hok : rrOk rk with
     | false =>
      have hz := zoneOk_badS (unhide HOK) (show k < rs.length by rw [unhide HN]; exact hlt) (fun g => by have := g.ok; rw [unhide HRK, hok] at this; cases this)
      rw [unhide HZZ] at hz
      subst hz
      rw [hok] at RK
      replace RK := hide RK
      clear hok HZZ HSOA
      go_wp2_with fail
      clear c0 c1 c2 c3 c4 c5 c6 zc0 zc1
      refine wp_region_held_drew (S := (fun w' => (w'.cell? ⟨w.heap.size, 0, none⟩ = some (.slice oa o.length oc) ∧ w'.cell? ⟨w.heap.size, 1, none⟩ = some (.slice (some ⟨b, off, none⟩) m rc)) ∧ (w'.cell? ⟨wr.heap.size, 0, none⟩ = some (.slice na rk.name.length nc) ∧ w'.cell? ⟨wr.heap.size, 1, none⟩ = some (.int .i64 rk.type) ∧ w'.cell? ⟨wr.heap.size, 2, none⟩ = some (.int .i64 rk.ttl) ∧ w'.cell? ⟨wr.heap.size, 3, none⟩ = some (.int .i64 rk.addr) ∧ w'.cell? ⟨wr.heap.size, 4, none⟩ = some (.slice ta rk.to.length tc) ∧ w'.cell? ⟨wr.heap.size, 5, none⟩ = some (.slice xa rk.text.length xc) ∧ w'.cell? ⟨wr.heap.size, 6, none⟩ = some (.slice ia rk.nums.length ic)))) (by kernel_rfl) ⟨cells2 (unhide K4), cells7 (unhide X4)⟩ (fun hHeld => ?_)
      show wpAnyH _ _ _ _ _ 33 #[false, false, false, false, false, false, false, false, false, false, false, false, false, false, false, false, false, false, false, false, false, false, false, false, false, false, false, false, false, false, false, false, false] _ _
      refine tkF ?_ rfl (by kernel_rfl) (by kernel_rfl) (fun _ _ _ h => h) ?_ hHeld ?_; rotate_left; (· (intro w hSw; (try dsimp only at hSw); go_simp <;> with_reducible rfl)); simp only [Act.put, setF, List.setIfInBounds_toArray, List.set_cons_zero, List.set_cons_succ]
      refine runI 1 rfl (by kernel_rfl) (by kernel_rfl) (fun K hK => ?_)
      have HK := hide hK
      clear hK hHeld
      go_simp
      refine (unhide RK).mono ?_
      rintro e w5 ⟨rfl, q5⟩
      go_simp
      refine (unhide HK).out _ _ ⟨cells2 (block_kept q5 (unhide K4)), cells7 (block_kept q5 (unhide X4))⟩ (fun hHeld => ?_)
      clear HK K
      try simp only [List.setIfInBounds_toArray, List.set_cons_zero, List.set_cons_succ]
      iterate 2 (refine tkF ?_ rfl (by kernel_rfl) (by kernel_rfl) (fun _ _ _ h => h) ?_ hHeld ?_; rotate_left; (· (intro w hSw; (try dsimp only at hSw); go_simp <;> with_reducible rfl)); simp only [Act.put, setF, List.setIfInBounds_toArray, List.set_cons_zero, List.set_cons_succ])
      iterate 6 (refine skF rfl (by kernel_rfl) (by kernel_rfl) (fun _ _ _ h => h) hHeld ?_; simp only [Act.put, setF, List.setIfInBounds_toArray, List.set_cons_zero, List.set_cons_succ])
      iterate 2 (refine tkF ?_ rfl (by kernel_rfl) (by kernel_rfl) (fun _ _ _ h => h) ?_ hHeld ?_; rotate_left; (· (intro w hSw; (try dsimp only at hSw); go_simp <;> with_reducible rfl)); simp only [Act.put, setF, List.setIfInBounds_toArray, List.set_cons_zero, List.set_cons_succ])
      iterate 13 (refine skF rfl (by kernel_rfl) (by kernel_rfl) (fun _ _ _ h => h) hHeld ?_; simp only [Act.put, setF, List.setIfInBounds_toArray, List.set_cons_zero, List.set_cons_succ])
      iterate 2 (refine tkF ?_ rfl (by kernel_rfl) (by kernel_rfl) (fun _ _ _ h => h) ?_ hHeld ?_; rotate_left; (· (intro w hSw; (try dsimp only at hSw); go_simp <;> with_reducible rfl)); simp only [Act.put, setF, List.setIfInBounds_toArray, List.set_cons_zero, List.set_cons_succ])
      iterate 5 (refine skF rfl (by kernel_rfl) (by kernel_rfl) (fun _ _ _ h => h) hHeld ?_; simp only [Act.put, setF, List.setIfInBounds_toArray, List.set_cons_zero, List.set_cons_succ])
      refine tkF ?_ rfl (by kernel_rfl) (by kernel_rfl) (fun _ _ _ h => h) ?_ hHeld ?_; rotate_left; (· (intro w hSw; (try dsimp only at hSw); go_simp <;> with_reducible rfl)); simp only [Act.put, setF, List.setIfInBounds_toArray, List.set_cons_zero, List.set_cons_succ]
      refine wpAnyH_done (by kernel_rfl) ?_ _
      clear hHeld
      go_wp2_with fail
      go_ret
      exact ⟨rfl, below_next bb4 q5⟩
     | true =>
      rw [hok] at RK
      replace RK := hide RK
      have hl1 := (nameOk_parts (rrOk_name hok)).1
      have hl2 := (nameOk_parts (unhide HOK)).1
      have UND := fun (w : World) (h1 : HasL w (.slice na rk.name.length nc) rk.name) (h2 : HasL w (.slice oa o.length oc) o) => l2under_has h1 h2 hl1 hl2
      have CN := fun (w : World) (h1 : HasL w (.slice na rk.name.length nc) rk.name) (h2 : HasL w (.slice oa o.length oc) o) => l2cmp_has h1 h2 (by omega) (by omega)
      have OKK := hide hok
      clear hl1 hl2
      cases hun : endsWith rk.name o with
      | false =>
       have hz := zoneOk_badS (unhide HOK) (show k < rs.length by rw [unhide HN]; exact hlt) (fun g => by have := g.under; rw [unhide HRK, hun] at this; cases this)
       rw [unhide HZZ] at hz
       subst hz
       rw [hun] at UND
       replace UND := hide UND
       replace CN := hide CN
       clear hun HZZ HSOA hok
       go_wp2_with fail
       clear c0 c1 c2 c3 c4 c5 c6 zc0 zc1
       refine wp_region_held_drew (S := (fun w' => (w'.cell? ⟨w.heap.size, 0, none⟩ = some (.slice oa o.length oc) ∧ w'.cell? ⟨w.heap.size, 1, none⟩ = some (.slice (some ⟨b, off, none⟩) m rc)) ∧ (w'.cell? ⟨wr.heap.size, 0, none⟩ = some (.slice na rk.name.length nc) ∧ w'.cell? ⟨wr.heap.size, 1, none⟩ = some (.int .i64 rk.type) ∧ w'.cell? ⟨wr.heap.size, 2, none⟩ = some (.int .i64 rk.ttl) ∧ w'.cell? ⟨wr.heap.size, 3, none⟩ = some (.int .i64 rk.addr) ∧ w'.cell? ⟨wr.heap.size, 4, none⟩ = some (.slice ta rk.to.length tc) ∧ w'.cell? ⟨wr.heap.size, 5, none⟩ = some (.slice xa rk.text.length xc) ∧ w'.cell? ⟨wr.heap.size, 6, none⟩ = some (.slice ia rk.nums.length ic)))) (by kernel_rfl) ⟨cells2 (unhide K4), cells7 (unhide X4)⟩ (fun hHeld => ?_)
       show wpAnyH _ _ _ _ _ 33 #[false, false, false, false, false, false, false, false, false, false, false, false, false, false, false, false, false, false, false, false, false, false, false, false, false, false, false, false, false, false, false, false, false] _ _
       refine tkF ?_ rfl (by kernel_rfl) (by kernel_rfl) (fun _ _ _ h => h) ?_ hHeld ?_; rotate_left; (· (intro w hSw; (try dsimp only at hSw); go_simp <;> with_reducible rfl)); simp only [Act.put, setF, List.setIfInBounds_toArray, List.set_cons_zero, List.set_cons_succ]
       refine runI 1 rfl (by kernel_rfl) (by kernel_rfl) (fun K hK => ?_)
       have HK := hide hK
       clear hK hHeld
       go_simp
       refine (unhide RK).mono ?_
       rintro e w5 ⟨rfl, q5⟩
       go_simp
       refine (unhide HK).out _ _ ⟨cells2 (block_kept q5 (unhide K4)), cells7 (block_kept q5 (unhide X4))⟩ (fun hHeld => ?_)
       clear HK K
       try simp only [List.setIfInBounds_toArray, List.set_cons_zero, List.set_cons_succ]
       iterate 6 (refine tkF ?_ rfl (by kernel_rfl) (by kernel_rfl) (fun _ _ _ h => h) ?_ hHeld ?_; rotate_left; (· (intro w hSw; (try dsimp only at hSw); go_simp <;> with_reducible rfl)); simp only [Act.put, setF, List.setIfInBounds_toArray, List.set_cons_zero, List.set_cons_succ])
       refine runI 8 rfl (by kernel_rfl) (by kernel_rfl) (fun K hK => ?_)
       have HK := hide hK
       clear hK hHeld
       go_simp
       refine (unhide UND _ ((unhide U4).below q5).name ((unhide H4).below q5).name).mono ?_
       rintro e w6 ⟨rfl, b6⟩
       have q6 := below_next q5 b6
       go_simp
       refine (unhide HK).out _ _ ⟨cells2 (block_kept q6 (unhide K4)), cells7 (block_kept q6 (unhide X4))⟩ (fun hHeld => ?_)
       clear HK K
       try simp only [List.setIfInBounds_toArray, List.set_cons_zero, List.set_cons_succ]
       iterate 3 (refine tkF ?_ rfl (by kernel_rfl) (by kernel_rfl) (fun _ _ _ h => h) ?_ hHeld ?_; rotate_left; (· (intro w hSw; (try dsimp only at hSw); go_simp <;> with_reducible rfl)); simp only [Act.put, setF, List.setIfInBounds_toArray, List.set_cons_zero, List.set_cons_succ])
       iterate 13 (refine skF rfl (by kernel_rfl) (by kernel_rfl) (fun _ _ _ h => h) hHeld ?_; simp only [Act.put, setF, List.setIfInBounds_toArray, List.set_cons_zero, List.set_cons_succ])
       iterate 2 (refine tkF ?_ rfl (by kernel_rfl) (by kernel_rfl) (fun _ _ _ h => h) ?_ hHeld ?_; rotate_left; (· (intro w hSw; (try dsimp only at hSw); go_simp <;> with_reducible rfl)); simp only [Act.put, setF, List.setIfInBounds_toArray, List.set_cons_zero, List.set_cons_succ])
       iterate 5 (refine skF rfl (by kernel_rfl) (by kernel_rfl) (fun _ _ _ h => h) hHeld ?_; simp only [Act.put, setF, List.setIfInBounds_toArray, List.set_cons_zero, List.set_cons_succ])
       refine tkF ?_ rfl (by kernel_rfl) (by kernel_rfl) (fun _ _ _ h => h) ?_ hHeld ?_; rotate_left; (· (intro w hSw; (try dsimp only at hSw); go_simp <;> with_reducible rfl)); simp only [Act.put, setF, List.setIfInBounds_toArray, List.set_cons_zero, List.set_cons_succ]
       refine wpAnyH_done (by kernel_rfl) ?_ _
       clear hHeld
       go_wp2_with fail
       go_ret
       exact ⟨rfl, below_next bb4 q6⟩
      | true =>
       rw [hun] at UND
       replace UND := hide UND
       replace CN := hide CN
       have HUN := hide hun
       have hss := unhide HSS
       have ALO := fun (w : World) (h : HasRs w (.slice (some ⟨b, off, none⟩) m rc) rs) => l5alone_has (i := k) h (by rw [unhide HN]; exact hlt) (by rw [unhide HN]; exact h60) (by rw [unhide HN]; exact hss)
       clear hun hok hss
       have AL := aloneB_iff rs k
       by_cases hk0 : k = 0
       ·subst hk0
        simp only [Nat.zero_mul, Nat.add_zero] at c0 c1 c2 c3 c4 c5 c6
        cases hal : aloneB rs (0) with
        | false =>
         have hz := zoneOk_badS (unhide HOK) (show 0 < rs.length by rw [unhide HN]; exact hlt) (fun g => by have := AL.2 g.alone; rw [hal] at this; cases this)
         rw [unhide HZZ] at hz
         subst hz
         rw [hal] at ALO
         replace ALO := hide ALO
         clear hal HZZ HSOA AL CN
         go_wp2_with fail
         clear c0 c1 c2 c3 c4 c5 c6 zc0 zc1
         refine wp_region_held_drew (S := (fun w' => (w'.cell? ⟨w.heap.size, 0, none⟩ = some (.slice oa o.length oc) ∧ w'.cell? ⟨w.heap.size, 1, none⟩ = some (.slice (some ⟨b, off, none⟩) m rc)) ∧ (w'.cell? ⟨wr.heap.size, 0, none⟩ = some (.slice na rk.name.length nc) ∧ w'.cell? ⟨wr.heap.size, 1, none⟩ = some (.int .i64 rk.type) ∧ w'.cell? ⟨wr.heap.size, 2, none⟩ = some (.int .i64 rk.ttl) ∧ w'.cell? ⟨wr.heap.size, 3, none⟩ = some (.int .i64 rk.addr) ∧ w'.cell? ⟨wr.heap.size, 4, none⟩ = some (.slice ta rk.to.length tc) ∧ w'.cell? ⟨wr.heap.size, 5, none⟩ = some (.slice xa rk.text.length xc) ∧ w'.cell? ⟨wr.heap.size, 6, none⟩ = some (.slice ia rk.nums.length ic)))) (by kernel_rfl) ⟨cells2 (unhide K4), cells7 (unhide X4)⟩ (fun hHeld => ?_)
         show wpAnyH _ _ _ _ _ 33 #[false, false, false, false, false, false, false, false, false, false, false, false, false, false, false, false, false, false, false, false, false, false, false, false, false, false, false, false, false, false, false, false, false] _ _
         refine tkF ?_ rfl (by kernel_rfl) (by kernel_rfl) (fun _ _ _ h => h) ?_ hHeld ?_; rotate_left; (· (intro w hSw; (try dsimp only at hSw); go_simp <;> with_reducible rfl)); simp only [Act.put, setF, List.setIfInBounds_toArray, List.set_cons_zero, List.set_cons_succ]
         refine runI 1 rfl (by kernel_rfl) (by kernel_rfl) (fun K hK => ?_)
         have HK := hide hK
         clear hK hHeld
         go_simp
         refine (unhide RK).mono ?_
         rintro e w5 ⟨rfl, q5⟩
         go_simp
         refine (unhide HK).out _ _ ⟨cells2 (block_kept q5 (unhide K4)), cells7 (block_kept q5 (unhide X4))⟩ (fun hHeld => ?_)
         clear HK K
         try simp only [List.setIfInBounds_toArray, List.set_cons_zero, List.set_cons_succ]
         iterate 6 (refine tkF ?_ rfl (by kernel_rfl) (by kernel_rfl) (fun _ _ _ h => h) ?_ hHeld ?_; rotate_left; (· (intro w hSw; (try dsimp only at hSw); go_simp <;> with_reducible rfl)); simp only [Act.put, setF, List.setIfInBounds_toArray, List.set_cons_zero, List.set_cons_succ])
         refine runI 8 rfl (by kernel_rfl) (by kernel_rfl) (fun K hK => ?_)
         have HK := hide hK
         clear hK hHeld
         go_simp
         refine (unhide UND _ ((unhide U4).below q5).name ((unhide H4).below q5).name).mono ?_
         rintro e w6 ⟨rfl, b6⟩
         have q6 := below_next q5 b6
         go_simp
         refine (unhide HK).out _ _ ⟨cells2 (block_kept q6 (unhide K4)), cells7 (block_kept q6 (unhide X4))⟩ (fun hHeld => ?_)
         clear HK K
         try simp only [List.setIfInBounds_toArray, List.set_cons_zero, List.set_cons_succ]
         iterate 3 (refine tkF ?_ rfl (by kernel_rfl) (by kernel_rfl) (fun _ _ _ h => h) ?_ hHeld ?_; rotate_left; (· (intro w hSw; (try dsimp only at hSw); go_simp <;> with_reducible rfl)); simp only [Act.put, setF, List.setIfInBounds_toArray, List.set_cons_zero, List.set_cons_succ])
         refine tkF (.int .i64 0) rfl (by kernel_rfl) (by kernel_rfl) (fun _ _ _ h => h) ?_ hHeld ?_; (· (intro w hSw; (try dsimp only at hSw); go_simp)); simp only [Act.put, setF, List.setIfInBounds_toArray, List.set_cons_zero, List.set_cons_succ]
         refine tkF (.bool false) rfl (by kernel_rfl) (by kernel_rfl) (fun _ _ _ h => h) ?_ hHeld ?_; (· (intro w hSw; (try dsimp only at hSw); go_simp)); simp only [Act.put, setF, List.setIfInBounds_toArray, List.set_cons_zero, List.set_cons_succ]
         refine tkF (.bool false) rfl (by kernel_rfl) (by kernel_rfl) (fun _ _ _ h => h) ?_ hHeld ?_; (· (intro w hSw; (try dsimp only at hSw); go_simp)); simp only [Act.put, setF, List.setIfInBounds_toArray, List.set_cons_zero, List.set_cons_succ]
         iterate 9 (refine skF rfl (by kernel_rfl) (by kernel_rfl) (fun _ _ _ h => h) hHeld ?_; simp only [Act.put, setF, List.setIfInBounds_toArray, List.set_cons_zero, List.set_cons_succ])
         iterate 6 (refine tkF ?_ rfl (by kernel_rfl) (by kernel_rfl) (fun _ _ _ h => h) ?_ hHeld ?_; rotate_left; (· (intro w hSw; (try dsimp only at hSw); go_simp <;> with_reducible rfl)); simp only [Act.put, setF, List.setIfInBounds_toArray, List.set_cons_zero, List.set_cons_succ])
         refine runI 30 rfl (by kernel_rfl) (by kernel_rfl) (fun K hK => ?_)
         have HK := hide hK
         clear hK hHeld
         go_simp
         refine (unhide ALO _ ((unhide H4).below q6).recs).mono ?_
         rintro e w8 ⟨rfl, b8⟩
         have q8 := below_next q6 b8
         go_simp
         refine (unhide HK).out _ _ ⟨cells2 (block_kept q8 (unhide K4)), cells7 (block_kept q8 (unhide X4))⟩ (fun hHeld => ?_)
         clear HK K
         try simp only [List.setIfInBounds_toArray, List.set_cons_zero, List.set_cons_succ]
         iterate 2 (refine tkF ?_ rfl (by kernel_rfl) (by kernel_rfl) (fun _ _ _ h => h) ?_ hHeld ?_; rotate_left; (· (intro w hSw; (try dsimp only at hSw); go_simp <;> with_reducible rfl)); simp only [Act.put, setF, List.setIfInBounds_toArray, List.set_cons_zero, List.set_cons_succ])
         refine wpAnyH_done (by kernel_rfl) ?_ _
         clear hHeld
         go_wp2_with fail
         go_ret
         exact ⟨rfl, below_next bb4 q8⟩
        | true =>
         have HALO := hide (AL.1 hal)
         rw [hal] at ALO
         replace ALO := hide ALO
         clear hal AL
         go_wp2_with fail
         clear c0 c1 c2 c3 c4 c5 c6 zc0 zc1
         refine wp_region_held_drew (S := (fun w' => (w'.cell? ⟨w.heap.size, 0, none⟩ = some (.slice oa o.length oc) ∧ w'.cell? ⟨w.heap.size, 1, none⟩ = some (.slice (some ⟨b, off, none⟩) m rc)) ∧ (w'.cell? ⟨wr.heap.size, 0, none⟩ = some (.slice na rk.name.length nc) ∧ w'.cell? ⟨wr.heap.size, 1, none⟩ = some (.int .i64 rk.type) ∧ w'.cell? ⟨wr.heap.size, 2, none⟩ = some (.int .i64 rk.ttl) ∧ w'.cell? ⟨wr.heap.size, 3, none⟩ = some (.int .i64 rk.addr) ∧ w'.cell? ⟨wr.heap.size, 4, none⟩ = some (.slice ta rk.to.length tc) ∧ w'.cell? ⟨wr.heap.size, 5, none⟩ = some (.slice xa rk.text.length xc) ∧ w'.cell? ⟨wr.heap.size, 6, none⟩ = some (.slice ia rk.nums.length ic)))) (by kernel_rfl) ⟨cells2 (unhide K4), cells7 (unhide X4)⟩ (fun hHeld => ?_)
         show wpAnyH _ _ _ _ _ 33 #[false, false, false, false, false, false, false, false, false, false, false, false, false, false, false, false, false, false, false, false, false, false, false, false, false, false, false, false, false, false, false, false, false] _ _
         refine tkF ?_ rfl (by kernel_rfl) (by kernel_rfl) (fun _ _ _ h => h) ?_ hHeld ?_; rotate_left; (· (intro w hSw; (try dsimp only at hSw); go_simp <;> with_reducible rfl)); simp only [Act.put, setF, List.setIfInBounds_toArray, List.set_cons_zero, List.set_cons_succ]
         refine runI 1 rfl (by kernel_rfl) (by kernel_rfl) (fun K hK => ?_)
         have HK := hide hK
         clear hK hHeld
         go_simp
         refine (unhide RK).mono ?_
         rintro e w5 ⟨rfl, q5⟩
         go_simp
         refine (unhide HK).out _ _ ⟨cells2 (block_kept q5 (unhide K4)), cells7 (block_kept q5 (unhide X4))⟩ (fun hHeld => ?_)
         clear HK K
         try simp only [List.setIfInBounds_toArray, List.set_cons_zero, List.set_cons_succ]
         iterate 6 (refine tkF ?_ rfl (by kernel_rfl) (by kernel_rfl) (fun _ _ _ h => h) ?_ hHeld ?_; rotate_left; (· (intro w hSw; (try dsimp only at hSw); go_simp <;> with_reducible rfl)); simp only [Act.put, setF, List.setIfInBounds_toArray, List.set_cons_zero, List.set_cons_succ])
         refine runI 8 rfl (by kernel_rfl) (by kernel_rfl) (fun K hK => ?_)
         have HK := hide hK
         clear hK hHeld
         go_simp
         refine (unhide UND _ ((unhide U4).below q5).name ((unhide H4).below q5).name).mono ?_
         rintro e w6 ⟨rfl, b6⟩
         have q6 := below_next q5 b6
         go_simp
         refine (unhide HK).out _ _ ⟨cells2 (block_kept q6 (unhide K4)), cells7 (block_kept q6 (unhide X4))⟩ (fun hHeld => ?_)
         clear HK K
         try simp only [List.setIfInBounds_toArray, List.set_cons_zero, List.set_cons_succ]
         iterate 3 (refine tkF ?_ rfl (by kernel_rfl) (by kernel_rfl) (fun _ _ _ h => h) ?_ hHeld ?_; rotate_left; (· (intro w hSw; (try dsimp only at hSw); go_simp <;> with_reducible rfl)); simp only [Act.put, setF, List.setIfInBounds_toArray, List.set_cons_zero, List.set_cons_succ])
         refine tkF (.int .i64 0) rfl (by kernel_rfl) (by kernel_rfl) (fun _ _ _ h => h) ?_ hHeld ?_; (· (intro w hSw; (try dsimp only at hSw); go_simp)); simp only [Act.put, setF, List.setIfInBounds_toArray, List.set_cons_zero, List.set_cons_succ]
         refine tkF (.bool false) rfl (by kernel_rfl) (by kernel_rfl) (fun _ _ _ h => h) ?_ hHeld ?_; (· (intro w hSw; (try dsimp only at hSw); go_simp)); simp only [Act.put, setF, List.setIfInBounds_toArray, List.set_cons_zero, List.set_cons_succ]
         refine tkF (.bool false) rfl (by kernel_rfl) (by kernel_rfl) (fun _ _ _ h => h) ?_ hHeld ?_; (· (intro w hSw; (try dsimp only at hSw); go_simp)); simp only [Act.put, setF, List.setIfInBounds_toArray, List.set_cons_zero, List.set_cons_succ]
         iterate 9 (refine skF rfl (by kernel_rfl) (by kernel_rfl) (fun _ _ _ h => h) hHeld ?_; simp only [Act.put, setF, List.setIfInBounds_toArray, List.set_cons_zero, List.set_cons_succ])
         iterate 6 (refine tkF ?_ rfl (by kernel_rfl) (by kernel_rfl) (fun _ _ _ h => h) ?_ hHeld ?_; rotate_left; (· (intro w hSw; (try dsimp only at hSw); go_simp <;> with_reducible rfl)); simp only [Act.put, setF, List.setIfInBounds_toArray, List.set_cons_zero, List.set_cons_succ])
         refine runI 30 rfl (by kernel_rfl) (by kernel_rfl) (fun K hK => ?_)
         have HK := hide hK
         clear hK hHeld
         go_simp
         refine (unhide ALO _ ((unhide H4).below q6).recs).mono ?_
         rintro e w8 ⟨rfl, b8⟩
         have q8 := below_next q6 b8
         go_simp
         refine (unhide HK).out _ _ ⟨cells2 (block_kept q8 (unhide K4)), cells7 (block_kept q8 (unhide X4))⟩ (fun hHeld => ?_)
         clear HK K
         try simp only [List.setIfInBounds_toArray, List.set_cons_zero, List.set_cons_succ]
         iterate 2 (refine tkF ?_ rfl (by kernel_rfl) (by kernel_rfl) (fun _ _ _ h => h) ?_ hHeld ?_; rotate_left; (· (intro w hSw; (try dsimp only at hSw); go_simp <;> with_reducible rfl)); simp only [Act.put, setF, List.setIfInBounds_toArray, List.set_cons_zero, List.set_cons_succ])
         refine wpAnyH_done (by kernel_rfl) ?_ _
         clear hHeld
         have hsoa := unhide HSOA
         have X8 := hide (block_kept q8 (unhide X4))
         have K8 := hide (block_kept q8 (unhide K4))
         have N8 := hide (((unhide U4).below q8).name)
         have M8 := hide (((unhide H4).below q8).name)
         have bw8 := below_next bw4 q8
         have bb8 := below_next bb4 q8
         have hgd : ∀ (hso : rk.type = 6 → cmpN rk.name o = 0), ∀ j, j < 0 + 1 → GoodS o rs j := fun hso j hj => by
          by_cases e : j = 0
          ·subst e
           exact ⟨by rw [unhide HRK]; exact unhide OKK, by rw [unhide HRK]; exact unhide HUN, fun q => absurd q (by omega), unhide HALO, by rw [unhide HRK]; exact hso⟩
          ·exact unhide hall j (by omega)
         have HGD := hide hgd
         clear HSOA hgd
         obtain ⟨p0, p1, p2, p3, p4, p5, p6⟩ := cells7 (unhide X8)
         obtain ⟨r0, r1⟩ := cells2 (unhide K8)
         clear X4 K4 U4 H4 RK UND ALO
         by_cases h6 : rk.type = 6
         ·rw [if_pos h6] at hsoa
          have e6 : (rk.type == 6) = true := by rw [h6]; rfl
          have HS1 := hide hsoa
          have H6 := hide h6
          clear h6 hsoa
          by_cases hc0 : cmpN rk.name o = 0
          ·have CN0 := unhide CN
           rw [hc0] at CN0
           have G9 := hide (unhide HGD (fun _ => hc0))
           clear hc0 CN HGD
           replace CN0 := hide CN0
           go_wp2_with fail
           clear p0 p1 p2 p3 p4 p5 p6 r0 r1
           refine (unhide CN0 _ (unhide N8) (unhide M8)).mono ?_
           rintro e w9 ⟨rfl, b9⟩
           have bw9 := below_next bw8 b9
           obtain ⟨r0, r1⟩ := cells2 (block_kept b9 (unhide K8))
           clear b9
           go_wp2_with fail
           exact ⟨⟨0 + 1, by omega, by go_num, by rw [unhide HS1]; go_num, G9, bw9⟩, by simp [intOf]; omega⟩
          ·have hz := zoneOk_badS (unhide HOK) (show 0 < rs.length by rw [unhide HN]; exact hlt) (fun g => hc0 (by have := g.soa; rw [unhide HRK] at this; exact this (unhide H6)))
           rw [unhide HZZ] at hz
           subst hz
           have e0 : (cmpN rk.name o != 0) = true := by rw [bne_iff_ne]; exact hc0
           generalize cmpN rk.name o = c9 at *
           clear hc0 HZZ HGD HS1
           go_wp2_with fail
           clear p0 p1 p2 p3 p4 p5 p6 r0 r1
           refine (unhide CN _ (unhide N8) (unhide M8)).mono ?_
           rintro e w9 ⟨rfl, b9⟩
           go_wp2_with fail
           go_ret
           exact ⟨rfl, below_next bb8 b9⟩
         ·rw [if_neg h6, Nat.add_zero] at hsoa
          have e6 : (rk.type == 6) = false := by rw [beq_eq_false_iff_ne]; exact h6
          have HS1 := hide hsoa
          have G9 := hide (unhide HGD (fun q => absurd q h6))
          clear h6 hsoa HGD
          go_wp2_with fail
          exact ⟨⟨0 + 1, by omega, by go_num, by first | (rw [unhide HS1]; done) | (rw [unhide HS1]; rfl), G9, bw8⟩, by simp [intOf]; omega⟩
       ·obtain ⟨k0, rfl⟩ : ∃ k0, k = k0 + 1 := ⟨k - 1, by omega⟩
        clear hk0
        have hk0' : (0 : Int) < (k0 + 1 : Nat) := by omega
        have hwr : IntKind.i64.wrap (k0 : Int) = (k0 : Nat) := by have := hlt; exact wrap_small (by omega) (by omega)
        have hkm : (k0 : Int) < m := by omega
        obtain ⟨b', off', na', nc', ta', tc', xa', xc', ia', ic', hbe, hbl', hc', hu'⟩ := (unhide H4).recs.here (k := k0) (by rw [unhide HN]; omega)
        simp only [Option.some.injEq, Addr.mk.injEq, and_true] at hbe
        obtain ⟨rfl, rfl⟩ := hbe
        have okp := (unhide hall k0 (by omega)).ok
        generalize hrp : rs.getD k0 recZ = rp at *
        have HRP := hide hrp
        have HC4 := hide hc'
        have U4' := hide hu'
        have CMP := fun (w : World) (h1 : HasR w (.slice na' rp.name.length nc') (.slice ta' rp.to.length tc') (.slice xa' rp.text.length xc') (.slice ia' rp.nums.length ic') rp) (h2 : HasR w (.slice na rk.name.length nc) (.slice ta rk.to.length tc) (.slice xa rk.text.length xc) (.slice ia rk.nums.length ic) rk) => l3cmp_has h1 h2 okp (unhide OKK)
        clear hc' hu' okp hrp
        by_cases hlt0 : cmpR rp rk < 0
        ·have hnx : 0 < k0 + 1 → cmpR (rs.getD (k0 + 1 - 1) recZ) (rs.getD (k0 + 1) recZ) < 0 := fun _ => by rw [show k0 + 1 - 1 = k0 by omega, unhide HRP, unhide HRK]; exact hlt0
         have HNX := hide hnx
         have hge : ¬ (0 ≤ cmpR rp rk) := by omega
         generalize cmpR rp rk = cc at *
         replace CMP := hide CMP
         clear hnx hlt0
         cases hal : aloneB rs (k0 + 1) with
         | false =>
          have hz := zoneOk_badS (unhide HOK) (show k0 + 1 < rs.length by rw [unhide HN]; exact hlt) (fun g => by have := AL.2 g.alone; rw [hal] at this; cases this)
          rw [unhide HZZ] at hz
          subst hz
          rw [hal] at ALO
          replace ALO := hide ALO
          clear hal HZZ HSOA AL CN
          go_wp2_with fail
          clear c0 c1 c2 c3 c4 c5 c6 zc0 zc1
          refine wp_region_held_drew (S := (fun w' => ((w'.cell? ⟨w.heap.size, 0, none⟩ = some (.slice oa o.length oc) ∧ w'.cell? ⟨w.heap.size, 1, none⟩ = some (.slice (some ⟨b, off, none⟩) m rc)) ∧ (w'.cell? ⟨wr.heap.size, 0, none⟩ = some (.slice na rk.name.length nc) ∧ w'.cell? ⟨wr.heap.size, 1, none⟩ = some (.int .i64 rk.type) ∧ w'.cell? ⟨wr.heap.size, 2, none⟩ = some (.int .i64 rk.ttl) ∧ w'.cell? ⟨wr.heap.size, 3, none⟩ = some (.int .i64 rk.addr) ∧ w'.cell? ⟨wr.heap.size, 4, none⟩ = some (.slice ta rk.to.length tc) ∧ w'.cell? ⟨wr.heap.size, 5, none⟩ = some (.slice xa rk.text.length xc) ∧ w'.cell? ⟨wr.heap.size, 6, none⟩ = some (.slice ia rk.nums.length ic))) ∧ (w'.cell? ⟨b, off + k0 * 7, none⟩ = some (.slice na' rp.name.length nc') ∧ w'.cell? ⟨b, off + k0 * 7 + 1, none⟩ = some (.int .i64 rp.type) ∧ w'.cell? ⟨b, off + k0 * 7 + 2, none⟩ = some (.int .i64 rp.ttl) ∧ w'.cell? ⟨b, off + k0 * 7 + 3, none⟩ = some (.int .i64 rp.addr) ∧ w'.cell? ⟨b, off + k0 * 7 + 4, none⟩ = some (.slice ta' rp.to.length tc') ∧ w'.cell? ⟨b, off + k0 * 7 + 5, none⟩ = some (.slice xa' rp.text.length xc') ∧ w'.cell? ⟨b, off + k0 * 7 + 6, none⟩ = some (.slice ia' rp.nums.length ic')))) (by kernel_rfl) ⟨⟨cells2 (unhide K4), cells7 (unhide X4)⟩, range7 (unhide HC4)⟩ (fun hHeld => ?_)
          show wpAnyH _ _ _ _ _ 33 #[false, false, false, false, false, false, false, false, false, false, false, false, false, false, false, false, false, false, false, false, false, false, false, false, false, false, false, false, false, false, false, false, false] _ _
          refine tkF ?_ rfl (by kernel_rfl) (by kernel_rfl) (fun _ _ _ h => h) ?_ hHeld ?_; rotate_left; (· (intro w hSw; (try dsimp only at hSw); go_simp <;> with_reducible rfl)); simp only [Act.put, setF, List.setIfInBounds_toArray, List.set_cons_zero, List.set_cons_succ]
          refine runI 1 rfl (by kernel_rfl) (by kernel_rfl) (fun K hK => ?_)
          have HK := hide hK
          clear hK hHeld
          go_simp
          refine (unhide RK).mono ?_
          rintro e w5 ⟨rfl, q5⟩
          go_simp
          refine (unhide HK).out _ _ ⟨⟨cells2 (block_kept q5 (unhide K4)), cells7 (block_kept q5 (unhide X4))⟩, range7 (range_below (unhide HC4) hbl' q5)⟩ (fun hHeld => ?_)
          clear HK K
          try simp only [List.setIfInBounds_toArray, List.set_cons_zero, List.set_cons_succ]
          iterate 6 (refine tkF ?_ rfl (by kernel_rfl) (by kernel_rfl) (fun _ _ _ h => h) ?_ hHeld ?_; rotate_left; (· (intro w hSw; (try dsimp only at hSw); go_simp <;> with_reducible rfl)); simp only [Act.put, setF, List.setIfInBounds_toArray, List.set_cons_zero, List.set_cons_succ])
          refine runI 8 rfl (by kernel_rfl) (by kernel_rfl) (fun K hK => ?_)
          have HK := hide hK
          clear hK hHeld
          go_simp
          refine (unhide UND _ ((unhide U4).below q5).name ((unhide H4).below q5).name).mono ?_
          rintro e w6 ⟨rfl, b6⟩
          have q6 := below_next q5 b6
          go_simp
          refine (unhide HK).out _ _ ⟨⟨cells2 (block_kept q6 (unhide K4)), cells7 (block_kept q6 (unhide X4))⟩, range7 (range_below (unhide HC4) hbl' q6)⟩ (fun hHeld => ?_)
          clear HK K
          try simp only [List.setIfInBounds_toArray, List.set_cons_zero, List.set_cons_succ]
          iterate 4 (refine tkF ?_ rfl (by kernel_rfl) (by kernel_rfl) (fun _ _ _ h => h) ?_ hHeld ?_; rotate_left; (· (intro w hSw; (try dsimp only at hSw); go_simp <;> with_reducible rfl)); simp only [Act.put, setF, List.setIfInBounds_toArray, List.set_cons_zero, List.set_cons_succ])
          refine tkF (.bool true) rfl (by kernel_rfl) (by kernel_rfl) (fun _ _ _ h => h) ?_ hHeld ?_; (· (intro w hSw; (try dsimp only at hSw); go_simp)); simp only [Act.put, setF, List.setIfInBounds_toArray, List.set_cons_zero, List.set_cons_succ]
          refine tkF (.bool true) rfl (by kernel_rfl) (by kernel_rfl) (fun _ _ _ h => h) ?_ hHeld ?_; (· (intro w hSw; (try dsimp only at hSw); go_simp)); simp only [Act.put, setF, List.setIfInBounds_toArray, List.set_cons_zero, List.set_cons_succ]
          iterate 2 (refine tkF ?_ rfl (by kernel_rfl) (by kernel_rfl) (fun _ _ _ h => h) ?_ hHeld ?_; rotate_left; (· (intro w hSw; (try dsimp only at hSw); go_simp <;> with_reducible rfl)); simp only [Act.put, setF, List.setIfInBounds_toArray, List.set_cons_zero, List.set_cons_succ])
          refine tkF (.int .i64 (k0 + 1 : Nat)) rfl (by kernel_rfl) (by kernel_rfl) (fun _ _ _ h => h) ?_ hHeld ?_; (· (intro w hSw; (try dsimp only at hSw); go_simp)); simp only [Act.put, setF, List.setIfInBounds_toArray, List.set_cons_zero, List.set_cons_succ]
          refine tkF (.int .i64 (k0 : Nat)) rfl (by kernel_rfl) (by kernel_rfl) (fun _ _ _ h => h) ?_ hHeld ?_; (· (intro w hSw; (try dsimp only at hSw); go_simp)); simp only [Act.put, setF, List.setIfInBounds_toArray, List.set_cons_zero, List.set_cons_succ]
          refine tkF (.pointer (some ⟨b, off + k0 * 7, none⟩)) rfl (by kernel_rfl) (by kernel_rfl) (fun _ _ _ h => h) ?_ hHeld ?_; (· (intro w hSw; (try dsimp only at hSw); go_simp)); simp only [Act.put, setF, List.setIfInBounds_toArray, List.set_cons_zero, List.set_cons_succ]
          iterate 2 (refine tkF ?_ rfl (by kernel_rfl) (by kernel_rfl) (fun _ _ _ h => h) ?_ hHeld ?_; rotate_left; (· (intro w hSw; (try dsimp only at hSw); go_simp <;> with_reducible rfl)); simp only [Act.put, setF, List.setIfInBounds_toArray, List.set_cons_zero, List.set_cons_succ])
          refine runI 22 rfl (by kernel_rfl) (by kernel_rfl) (fun K hK => ?_)
          have HK := hide hK
          clear hK hHeld
          go_simp
          refine (unhide CMP _ ((unhide U4').below q6) ((unhide U4).below q6)).mono ?_
          rintro e w7 ⟨rfl, b7⟩
          have q7 := below_next q6 b7
          go_simp
          refine (unhide HK).out _ _ ⟨⟨cells2 (block_kept q7 (unhide K4)), cells7 (block_kept q7 (unhide X4))⟩, range7 (range_below (unhide HC4) hbl' q7)⟩ (fun hHeld => ?_)
          clear HK K
          try simp only [List.setIfInBounds_toArray, List.set_cons_zero, List.set_cons_succ]
          refine tkF (.bool false) rfl (by kernel_rfl) (by kernel_rfl) (fun _ _ _ h => h) ?_ hHeld ?_; (· (intro w hSw; (try dsimp only at hSw); go_simp)); simp only [Act.put, setF, List.setIfInBounds_toArray, List.set_cons_zero, List.set_cons_succ]
          refine tkF (.bool false) rfl (by kernel_rfl) (by kernel_rfl) (fun _ _ _ h => h) ?_ hHeld ?_; (· (intro w hSw; (try dsimp only at hSw); go_simp)); simp only [Act.put, setF, List.setIfInBounds_toArray, List.set_cons_zero, List.set_cons_succ]
          iterate 5 (refine tkF ?_ rfl (by kernel_rfl) (by kernel_rfl) (fun _ _ _ h => h) ?_ hHeld ?_; rotate_left; (· (intro w hSw; (try dsimp only at hSw); go_simp <;> with_reducible rfl)); simp only [Act.put, setF, List.setIfInBounds_toArray, List.set_cons_zero, List.set_cons_succ])
          refine runI 30 rfl (by kernel_rfl) (by kernel_rfl) (fun K hK => ?_)
          have HK := hide hK
          clear hK hHeld
          go_simp
          refine (unhide ALO _ ((unhide H4).below q7).recs).mono ?_
          rintro e w8 ⟨rfl, b8⟩
          have q8 := below_next q7 b8
          go_simp
          refine (unhide HK).out _ _ ⟨⟨cells2 (block_kept q8 (unhide K4)), cells7 (block_kept q8 (unhide X4))⟩, range7 (range_below (unhide HC4) hbl' q8)⟩ (fun hHeld => ?_)
          clear HK K
          try simp only [List.setIfInBounds_toArray, List.set_cons_zero, List.set_cons_succ]
          iterate 2 (refine tkF ?_ rfl (by kernel_rfl) (by kernel_rfl) (fun _ _ _ h => h) ?_ hHeld ?_; rotate_left; (· (intro w hSw; (try dsimp only at hSw); go_simp <;> with_reducible rfl)); simp only [Act.put, setF, List.setIfInBounds_toArray, List.set_cons_zero, List.set_cons_succ])
          refine wpAnyH_done (by kernel_rfl) ?_ _
          clear hHeld
          go_wp2_with fail
          go_ret
          exact ⟨rfl, below_next bb4 q8⟩
         | true =>
          have HALO := hide (AL.1 hal)
          rw [hal] at ALO
          replace ALO := hide ALO
          clear hal AL
          go_wp2_with fail
          clear c0 c1 c2 c3 c4 c5 c6 zc0 zc1
          refine wp_region_held_drew (S := (fun w' => ((w'.cell? ⟨w.heap.size, 0, none⟩ = some (.slice oa o.length oc) ∧ w'.cell? ⟨w.heap.size, 1, none⟩ = some (.slice (some ⟨b, off, none⟩) m rc)) ∧ (w'.cell? ⟨wr.heap.size, 0, none⟩ = some (.slice na rk.name.length nc) ∧ w'.cell? ⟨wr.heap.size, 1, none⟩ = some (.int .i64 rk.type) ∧ w'.cell? ⟨wr.heap.size, 2, none⟩ = some (.int .i64 rk.ttl) ∧ w'.cell? ⟨wr.heap.size, 3, none⟩ = some (.int .i64 rk.addr) ∧ w'.cell? ⟨wr.heap.size, 4, none⟩ = some (.slice ta rk.to.length tc) ∧ w'.cell? ⟨wr.heap.size, 5, none⟩ = some (.slice xa rk.text.length xc) ∧ w'.cell? ⟨wr.heap.size, 6, none⟩ = some (.slice ia rk.nums.length ic))) ∧ (w'.cell? ⟨b, off + k0 * 7, none⟩ = some (.slice na' rp.name.length nc') ∧ w'.cell? ⟨b, off + k0 * 7 + 1, none⟩ = some (.int .i64 rp.type) ∧ w'.cell? ⟨b, off + k0 * 7 + 2, none⟩ = some (.int .i64 rp.ttl) ∧ w'.cell? ⟨b, off + k0 * 7 + 3, none⟩ = some (.int .i64 rp.addr) ∧ w'.cell? ⟨b, off + k0 * 7 + 4, none⟩ = some (.slice ta' rp.to.length tc') ∧ w'.cell? ⟨b, off + k0 * 7 + 5, none⟩ = some (.slice xa' rp.text.length xc') ∧ w'.cell? ⟨b, off + k0 * 7 + 6, none⟩ = some (.slice ia' rp.nums.length ic')))) (by kernel_rfl) ⟨⟨cells2 (unhide K4), cells7 (unhide X4)⟩, range7 (unhide HC4)⟩ (fun hHeld => ?_)
          show wpAnyH _ _ _ _ _ 33 #[false, false, false, false, false, false, false, false, false, false, false, false, false, false, false, false, false, false, false, false, false, false, false, false, false, false, false, false, false, false, false, false, false] _ _
          refine tkF ?_ rfl (by kernel_rfl) (by kernel_rfl) (fun _ _ _ h => h) ?_ hHeld ?_; rotate_left; (· (intro w hSw; (try dsimp only at hSw); go_simp <;> with_reducible rfl)); simp only [Act.put, setF, List.setIfInBounds_toArray, List.set_cons_zero, List.set_cons_succ]
          refine runI 1 rfl (by kernel_rfl) (by kernel_rfl) (fun K hK => ?_)
          have HK := hide hK
          clear hK hHeld
          go_simp
          refine (unhide RK).mono ?_
          rintro e w5 ⟨rfl, q5⟩
          go_simp
          refine (unhide HK).out _ _ ⟨⟨cells2 (block_kept q5 (unhide K4)), cells7 (block_kept q5 (unhide X4))⟩, range7 (range_below (unhide HC4) hbl' q5)⟩ (fun hHeld => ?_)
          clear HK K
          try simp only [List.setIfInBounds_toArray, List.set_cons_zero, List.set_cons_succ]
          iterate 6 (refine tkF ?_ rfl (by kernel_rfl) (by kernel_rfl) (fun _ _ _ h => h) ?_ hHeld ?_; rotate_left; (· (intro w hSw; (try dsimp only at hSw); go_simp <;> with_reducible rfl)); simp only [Act.put, setF, List.setIfInBounds_toArray, List.set_cons_zero, List.set_cons_succ])
          refine runI 8 rfl (by kernel_rfl) (by kernel_rfl) (fun K hK => ?_)
          have HK := hide hK
          clear hK hHeld
          go_simp
          refine (unhide UND _ ((unhide U4).below q5).name ((unhide H4).below q5).name).mono ?_
          rintro e w6 ⟨rfl, b6⟩
          have q6 := below_next q5 b6
          go_simp
          refine (unhide HK).out _ _ ⟨⟨cells2 (block_kept q6 (unhide K4)), cells7 (block_kept q6 (unhide X4))⟩, range7 (range_below (unhide HC4) hbl' q6)⟩ (fun hHeld => ?_)
          clear HK K
          try simp only [List.setIfInBounds_toArray, List.set_cons_zero, List.set_cons_succ]
          iterate 4 (refine tkF ?_ rfl (by kernel_rfl) (by kernel_rfl) (fun _ _ _ h => h) ?_ hHeld ?_; rotate_left; (· (intro w hSw; (try dsimp only at hSw); go_simp <;> with_reducible rfl)); simp only [Act.put, setF, List.setIfInBounds_toArray, List.set_cons_zero, List.set_cons_succ])
          refine tkF (.bool true) rfl (by kernel_rfl) (by kernel_rfl) (fun _ _ _ h => h) ?_ hHeld ?_; (· (intro w hSw; (try dsimp only at hSw); go_simp)); simp only [Act.put, setF, List.setIfInBounds_toArray, List.set_cons_zero, List.set_cons_succ]
          refine tkF (.bool true) rfl (by kernel_rfl) (by kernel_rfl) (fun _ _ _ h => h) ?_ hHeld ?_; (· (intro w hSw; (try dsimp only at hSw); go_simp)); simp only [Act.put, setF, List.setIfInBounds_toArray, List.set_cons_zero, List.set_cons_succ]
          iterate 2 (refine tkF ?_ rfl (by kernel_rfl) (by kernel_rfl) (fun _ _ _ h => h) ?_ hHeld ?_; rotate_left; (· (intro w hSw; (try dsimp only at hSw); go_simp <;> with_reducible rfl)); simp only [Act.put, setF, List.setIfInBounds_toArray, List.set_cons_zero, List.set_cons_succ])
          refine tkF (.int .i64 (k0 + 1 : Nat)) rfl (by kernel_rfl) (by kernel_rfl) (fun _ _ _ h => h) ?_ hHeld ?_; (· (intro w hSw; (try dsimp only at hSw); go_simp)); simp only [Act.put, setF, List.setIfInBounds_toArray, List.set_cons_zero, List.set_cons_succ]
          refine tkF (.int .i64 (k0 : Nat)) rfl (by kernel_rfl) (by kernel_rfl) (fun _ _ _ h => h) ?_ hHeld ?_; (· (intro w hSw; (try dsimp only at hSw); go_simp)); simp only [Act.put, setF, List.setIfInBounds_toArray, List.set_cons_zero, List.set_cons_succ]
          refine tkF (.pointer (some ⟨b, off + k0 * 7, none⟩)) rfl (by kernel_rfl) (by kernel_rfl) (fun _ _ _ h => h) ?_ hHeld ?_; (· (intro w hSw; (try dsimp only at hSw); go_simp)); simp only [Act.put, setF, List.setIfInBounds_toArray, List.set_cons_zero, List.set_cons_succ]
          iterate 2 (refine tkF ?_ rfl (by kernel_rfl) (by kernel_rfl) (fun _ _ _ h => h) ?_ hHeld ?_; rotate_left; (· (intro w hSw; (try dsimp only at hSw); go_simp <;> with_reducible rfl)); simp only [Act.put, setF, List.setIfInBounds_toArray, List.set_cons_zero, List.set_cons_succ])
          refine runI 22 rfl (by kernel_rfl) (by kernel_rfl) (fun K hK => ?_)
          have HK := hide hK
          clear hK hHeld
          go_simp
          refine (unhide CMP _ ((unhide U4').below q6) ((unhide U4).below q6)).mono ?_
          rintro e w7 ⟨rfl, b7⟩
          have q7 := below_next q6 b7
          go_simp
          refine (unhide HK).out _ _ ⟨⟨cells2 (block_kept q7 (unhide K4)), cells7 (block_kept q7 (unhide X4))⟩, range7 (range_below (unhide HC4) hbl' q7)⟩ (fun hHeld => ?_)
          clear HK K
          try simp only [List.setIfInBounds_toArray, List.set_cons_zero, List.set_cons_succ]
          refine tkF (.bool false) rfl (by kernel_rfl) (by kernel_rfl) (fun _ _ _ h => h) ?_ hHeld ?_; (· (intro w hSw; (try dsimp only at hSw); go_simp)); simp only [Act.put, setF, List.setIfInBounds_toArray, List.set_cons_zero, List.set_cons_succ]
          refine tkF (.bool false) rfl (by kernel_rfl) (by kernel_rfl) (fun _ _ _ h => h) ?_ hHeld ?_; (· (intro w hSw; (try dsimp only at hSw); go_simp)); simp only [Act.put, setF, List.setIfInBounds_toArray, List.set_cons_zero, List.set_cons_succ]
          iterate 5 (refine tkF ?_ rfl (by kernel_rfl) (by kernel_rfl) (fun _ _ _ h => h) ?_ hHeld ?_; rotate_left; (· (intro w hSw; (try dsimp only at hSw); go_simp <;> with_reducible rfl)); simp only [Act.put, setF, List.setIfInBounds_toArray, List.set_cons_zero, List.set_cons_succ])
          refine runI 30 rfl (by kernel_rfl) (by kernel_rfl) (fun K hK => ?_)
          have HK := hide hK
          clear hK hHeld
          go_simp
          refine (unhide ALO _ ((unhide H4).below q7).recs).mono ?_
          rintro e w8 ⟨rfl, b8⟩
          have q8 := below_next q7 b8
          go_simp
          refine (unhide HK).out _ _ ⟨⟨cells2 (block_kept q8 (unhide K4)), cells7 (block_kept q8 (unhide X4))⟩, range7 (range_below (unhide HC4) hbl' q8)⟩ (fun hHeld => ?_)
          clear HK K
          try simp only [List.setIfInBounds_toArray, List.set_cons_zero, List.set_cons_succ]
          iterate 2 (refine tkF ?_ rfl (by kernel_rfl) (by kernel_rfl) (fun _ _ _ h => h) ?_ hHeld ?_; rotate_left; (· (intro w hSw; (try dsimp only at hSw); go_simp <;> with_reducible rfl)); simp only [Act.put, setF, List.setIfInBounds_toArray, List.set_cons_zero, List.set_cons_succ])
          refine wpAnyH_done (by kernel_rfl) ?_ _
          clear hHeld
          have hsoa := unhide HSOA
          have X8 := hide (block_kept q8 (unhide X4))
          have K8 := hide (block_kept q8 (unhide K4))
          have N8 := hide (((unhide U4).below q8).name)
          have M8 := hide (((unhide H4).below q8).name)
          have bw8 := below_next bw4 q8
          have bb8 := below_next bb4 q8
          have hgd : ∀ (hso : rk.type = 6 → cmpN rk.name o = 0), ∀ j, j < k0 + 1 + 1 → GoodS o rs j := fun hso j hj => by
           by_cases e : j = k0 + 1
           ·subst e
            exact ⟨by rw [unhide HRK]; exact unhide OKK, by rw [unhide HRK]; exact unhide HUN, unhide HNX, unhide HALO, by rw [unhide HRK]; exact hso⟩
           ·exact unhide hall j (by omega)
          have HGD := hide hgd
          clear HSOA hgd
          obtain ⟨p0, p1, p2, p3, p4, p5, p6⟩ := cells7 (unhide X8)
          obtain ⟨r0, r1⟩ := cells2 (unhide K8)
          clear X4 K4 U4 H4 RK UND ALO
          by_cases h6 : rk.type = 6
          ·rw [if_pos h6] at hsoa
           have e6 : (rk.type == 6) = true := by rw [h6]; rfl
           have HS1 := hide hsoa
           have H6 := hide h6
           clear h6 hsoa
           by_cases hc0 : cmpN rk.name o = 0
           ·have CN0 := unhide CN
            rw [hc0] at CN0
            have G9 := hide (unhide HGD (fun _ => hc0))
            clear hc0 CN HGD
            replace CN0 := hide CN0
            go_wp2_with fail
            clear p0 p1 p2 p3 p4 p5 p6 r0 r1
            refine (unhide CN0 _ (unhide N8) (unhide M8)).mono ?_
            rintro e w9 ⟨rfl, b9⟩
            have bw9 := below_next bw8 b9
            obtain ⟨r0, r1⟩ := cells2 (block_kept b9 (unhide K8))
            clear b9
            go_wp2_with fail
            exact ⟨⟨k0 + 1 + 1, by omega, by go_num, by rw [unhide HS1]; go_num, G9, bw9⟩, by simp [intOf]; omega⟩
           ·have hz := zoneOk_badS (unhide HOK) (show k0 + 1 < rs.length by rw [unhide HN]; exact hlt) (fun g => hc0 (by have := g.soa; rw [unhide HRK] at this; exact this (unhide H6)))
            rw [unhide HZZ] at hz
            subst hz
            have e0 : (cmpN rk.name o != 0) = true := by rw [bne_iff_ne]; exact hc0
            generalize cmpN rk.name o = c9 at *
            clear hc0 HZZ HGD HS1
            go_wp2_with fail
            clear p0 p1 p2 p3 p4 p5 p6 r0 r1
            refine (unhide CN _ (unhide N8) (unhide M8)).mono ?_
            rintro e w9 ⟨rfl, b9⟩
            go_wp2_with fail
            go_ret
            exact ⟨rfl, below_next bb8 b9⟩
          ·rw [if_neg h6, Nat.add_zero] at hsoa
           have e6 : (rk.type == 6) = false := by rw [beq_eq_false_iff_ne]; exact h6
           have HS1 := hide hsoa
           have G9 := hide (unhide HGD (fun q => absurd q h6))
           clear h6 hsoa HGD
           go_wp2_with fail
           exact ⟨⟨k0 + 1 + 1, by omega, by go_num, by first | (rw [unhide HS1]; done) | (rw [unhide HS1]; rfl), G9, bw8⟩, by simp [intOf]; omega⟩
        ·have hz := zoneOk_badS (unhide HOK) (show k0 + 1 < rs.length by rw [unhide HN]; exact hlt) (fun g => hlt0 (by have := g.next (by omega); rw [show k0 + 1 - 1 = k0 by omega, unhide HRP, unhide HRK] at this; exact this))
         rw [unhide HZZ] at hz
         subst hz
         have hge : 0 ≤ cmpR rp rk := by omega
         generalize cmpR rp rk = cc at *
         replace CMP := hide CMP
         clear hlt0 HZZ HSOA AL CN ALO
         go_wp2_with fail
         clear c0 c1 c2 c3 c4 c5 c6 zc0 zc1
         refine wp_region_held_drew (S := (fun w' => ((w'.cell? ⟨w.heap.size, 0, none⟩ = some (.slice oa o.length oc) ∧ w'.cell? ⟨w.heap.size, 1, none⟩ = some (.slice (some ⟨b, off, none⟩) m rc)) ∧ (w'.cell? ⟨wr.heap.size, 0, none⟩ = some (.slice na rk.name.length nc) ∧ w'.cell? ⟨wr.heap.size, 1, none⟩ = some (.int .i64 rk.type) ∧ w'.cell? ⟨wr.heap.size, 2, none⟩ = some (.int .i64 rk.ttl) ∧ w'.cell? ⟨wr.heap.size, 3, none⟩ = some (.int .i64 rk.addr) ∧ w'.cell? ⟨wr.heap.size, 4, none⟩ = some (.slice ta rk.to.length tc) ∧ w'.cell? ⟨wr.heap.size, 5, none⟩ = some (.slice xa rk.text.length xc) ∧ w'.cell? ⟨wr.heap.size, 6, none⟩ = some (.slice ia rk.nums.length ic))) ∧ (w'.cell? ⟨b, off + k0 * 7, none⟩ = some (.slice na' rp.name.length nc') ∧ w'.cell? ⟨b, off + k0 * 7 + 1, none⟩ = some (.int .i64 rp.type) ∧ w'.cell? ⟨b, off + k0 * 7 + 2, none⟩ = some (.int .i64 rp.ttl) ∧ w'.cell? ⟨b, off + k0 * 7 + 3, none⟩ = some (.int .i64 rp.addr) ∧ w'.cell? ⟨b, off + k0 * 7 + 4, none⟩ = some (.slice ta' rp.to.length tc') ∧ w'.cell? ⟨b, off + k0 * 7 + 5, none⟩ = some (.slice xa' rp.text.length xc') ∧ w'.cell? ⟨b, off + k0 * 7 + 6, none⟩ = some (.slice ia' rp.nums.length ic')))) (by kernel_rfl) ⟨⟨cells2 (unhide K4), cells7 (unhide X4)⟩, range7 (unhide HC4)⟩ (fun hHeld => ?_)
         show wpAnyH _ _ _ _ _ 33 #[false, false, false, false, false, false, false, false, false, false, false, false, false, false, false, false, false, false, false, false, false, false, false, false, false, false, false, false, false, false, false, false, false] _ _
         refine tkF ?_ rfl (by kernel_rfl) (by kernel_rfl) (fun _ _ _ h => h) ?_ hHeld ?_; rotate_left; (· (intro w hSw; (try dsimp only at hSw); go_simp <;> with_reducible rfl)); simp only [Act.put, setF, List.setIfInBounds_toArray, List.set_cons_zero, List.set_cons_succ]
         refine runI 1 rfl (by kernel_rfl) (by kernel_rfl) (fun K hK => ?_)
         have HK := hide hK
         clear hK hHeld
         go_simp
         refine (unhide RK).mono ?_
         rintro e w5 ⟨rfl, q5⟩
         go_simp
         refine (unhide HK).out _ _ ⟨⟨cells2 (block_kept q5 (unhide K4)), cells7 (block_kept q5 (unhide X4))⟩, range7 (range_below (unhide HC4) hbl' q5)⟩ (fun hHeld => ?_)
         clear HK K
         try simp only [List.setIfInBounds_toArray, List.set_cons_zero, List.set_cons_succ]
         iterate 6 (refine tkF ?_ rfl (by kernel_rfl) (by kernel_rfl) (fun _ _ _ h => h) ?_ hHeld ?_; rotate_left; (· (intro w hSw; (try dsimp only at hSw); go_simp <;> with_reducible rfl)); simp only [Act.put, setF, List.setIfInBounds_toArray, List.set_cons_zero, List.set_cons_succ])
         refine runI 8 rfl (by kernel_rfl) (by kernel_rfl) (fun K hK => ?_)
         have HK := hide hK
         clear hK hHeld
         go_simp
         refine (unhide UND _ ((unhide U4).below q5).name ((unhide H4).below q5).name).mono ?_
         rintro e w6 ⟨rfl, b6⟩
         have q6 := below_next q5 b6
         go_simp
         refine (unhide HK).out _ _ ⟨⟨cells2 (block_kept q6 (unhide K4)), cells7 (block_kept q6 (unhide X4))⟩, range7 (range_below (unhide HC4) hbl' q6)⟩ (fun hHeld => ?_)
         clear HK K
         try simp only [List.setIfInBounds_toArray, List.set_cons_zero, List.set_cons_succ]
         iterate 4 (refine tkF ?_ rfl (by kernel_rfl) (by kernel_rfl) (fun _ _ _ h => h) ?_ hHeld ?_; rotate_left; (· (intro w hSw; (try dsimp only at hSw); go_simp <;> with_reducible rfl)); simp only [Act.put, setF, List.setIfInBounds_toArray, List.set_cons_zero, List.set_cons_succ])
         refine tkF (.bool true) rfl (by kernel_rfl) (by kernel_rfl) (fun _ _ _ h => h) ?_ hHeld ?_; (· (intro w hSw; (try dsimp only at hSw); go_simp)); simp only [Act.put, setF, List.setIfInBounds_toArray, List.set_cons_zero, List.set_cons_succ]
         refine tkF (.bool true) rfl (by kernel_rfl) (by kernel_rfl) (fun _ _ _ h => h) ?_ hHeld ?_; (· (intro w hSw; (try dsimp only at hSw); go_simp)); simp only [Act.put, setF, List.setIfInBounds_toArray, List.set_cons_zero, List.set_cons_succ]
         iterate 2 (refine tkF ?_ rfl (by kernel_rfl) (by kernel_rfl) (fun _ _ _ h => h) ?_ hHeld ?_; rotate_left; (· (intro w hSw; (try dsimp only at hSw); go_simp <;> with_reducible rfl)); simp only [Act.put, setF, List.setIfInBounds_toArray, List.set_cons_zero, List.set_cons_succ])
         refine tkF (.int .i64 (k0 + 1 : Nat)) rfl (by kernel_rfl) (by kernel_rfl) (fun _ _ _ h => h) ?_ hHeld ?_; (· (intro w hSw; (try dsimp only at hSw); go_simp)); simp only [Act.put, setF, List.setIfInBounds_toArray, List.set_cons_zero, List.set_cons_succ]
         refine tkF (.int .i64 (k0 : Nat)) rfl (by kernel_rfl) (by kernel_rfl) (fun _ _ _ h => h) ?_ hHeld ?_; (· (intro w hSw; (try dsimp only at hSw); go_simp)); simp only [Act.put, setF, List.setIfInBounds_toArray, List.set_cons_zero, List.set_cons_succ]
         refine tkF (.pointer (some ⟨b, off + k0 * 7, none⟩)) rfl (by kernel_rfl) (by kernel_rfl) (fun _ _ _ h => h) ?_ hHeld ?_; (· (intro w hSw; (try dsimp only at hSw); go_simp)); simp only [Act.put, setF, List.setIfInBounds_toArray, List.set_cons_zero, List.set_cons_succ]
         iterate 2 (refine tkF ?_ rfl (by kernel_rfl) (by kernel_rfl) (fun _ _ _ h => h) ?_ hHeld ?_; rotate_left; (· (intro w hSw; (try dsimp only at hSw); go_simp <;> with_reducible rfl)); simp only [Act.put, setF, List.setIfInBounds_toArray, List.set_cons_zero, List.set_cons_succ])
         refine runI 22 rfl (by kernel_rfl) (by kernel_rfl) (fun K hK => ?_)
         have HK := hide hK
         clear hK hHeld
         go_simp
         refine (unhide CMP _ ((unhide U4').below q6) ((unhide U4).below q6)).mono ?_
         rintro e w7 ⟨rfl, b7⟩
         have q7 := below_next q6 b7
         go_simp
         refine (unhide HK).out _ _ ⟨⟨cells2 (block_kept q7 (unhide K4)), cells7 (block_kept q7 (unhide X4))⟩, range7 (range_below (unhide HC4) hbl' q7)⟩ (fun hHeld => ?_)
         clear HK K
         try simp only [List.setIfInBounds_toArray, List.set_cons_zero, List.set_cons_succ]
         refine tkF (.bool true) rfl (by kernel_rfl) (by kernel_rfl) (fun _ _ _ h => h) ?_ hHeld ?_; (· (intro w hSw; (try dsimp only at hSw); go_simp)); simp only [Act.put, setF, List.setIfInBounds_toArray, List.set_cons_zero, List.set_cons_succ]
         refine tkF (.bool true) rfl (by kernel_rfl) (by kernel_rfl) (fun _ _ _ h => h) ?_ hHeld ?_; (· (intro w hSw; (try dsimp only at hSw); go_simp)); simp only [Act.put, setF, List.setIfInBounds_toArray, List.set_cons_zero, List.set_cons_succ]
         iterate 2 (refine tkF ?_ rfl (by kernel_rfl) (by kernel_rfl) (fun _ _ _ h => h) ?_ hHeld ?_; rotate_left; (· (intro w hSw; (try dsimp only at hSw); go_simp <;> with_reducible rfl)); simp only [Act.put, setF, List.setIfInBounds_toArray, List.set_cons_zero, List.set_cons_succ])
         iterate 5 (refine skF rfl (by kernel_rfl) (by kernel_rfl) (fun _ _ _ h => h) hHeld ?_; simp only [Act.put, setF, List.setIfInBounds_toArray, List.set_cons_zero, List.set_cons_succ])
         refine tkF ?_ rfl (by kernel_rfl) (by kernel_rfl) (fun _ _ _ h => h) ?_ hHeld ?_; rotate_left; (· (intro w hSw; (try dsimp only at hSw); go_simp <;> with_reducible rfl)); simp only [Act.put, setF, List.setIfInBounds_toArray, List.set_cons_zero, List.set_cons_succ]
         refine wpAnyH_done (by kernel_rfl) ?_ _
         clear hHeld
         go_wp2_with fail
         go_ret
         exact ⟨rfl, below_next bb4 q7⟩
    ·obtain rfl : k = m := by omega
     have hz := zoneOk_endS (unhide HOK) (by rw [unhide HN]; omega) (by rw [unhide HN]; exact unhide hall)
     rw [unhide HZZ, unhide HN] at hz
     have h1 := one_count2 (soas rs k)
     rw [← hz] at h1
     clear hz HZZ
     obtain ⟨zc0, zc1⟩ := cells2 (block_kept hb (unhide K1))
     go_wp2
     go_ret
     exact ⟨rfl, below_next bb1 hb⟩
  ·rw [zoneOk_long (by omega)]
   have h60' : (60 : Int) < rs.length := by omega
   go_enter Tryz.func43, Tryz.ntmps43
   go_wp2_with fail
   generalize w.alloc (.cells #[.slice oa o.length oc, .slice ra rs.length rc] 34) = W at *
   refine (unhide NO).mono ?_
   rintro e w1 ⟨rfl, b1⟩
   obtain ⟨d0, d1⟩ := cells2 (block_kept b1 (unhide K0))
   go_wp2_with fail
   go_ret
   exact ⟨rfl, below_next b0 b1⟩
end Go.Proofs.YtmlcmkoefelolaaGreat

namespace Go.Proofs.YtmlcmkoefelolaaGreat
open Go.RowKit
set_option linter.unusedVariables false

set_option maxHeartbeats 2000000 in
set_option maxRecDepth 100000 in
theorem specSetOf_has {vo vr v : Value} {o n : List (List Int)} {rs : List Rec} (t : Int) {w : World} (h : HasZ w vo vr o rs) (hn : HasL w v n) (hs : ∀ k, k < rs.length → (rs.getD k recZ).name.length ≤ 1048576) :
  Calls Tryz.prog 11 #[.agg #[vo, vr], .agg #[v], .int .i64 t] w fun e w' => ∃ u, e = .returned u ∧ HasRs w' u (setOf o rs n t) ∧ Below w.heap.size w w' := by
 obtain ⟨oa, oc, rfl, _⟩ := h.name.form
 obtain ⟨ra, rc, rfl, _⟩ := h.recs.form
 obtain ⟨a, cap, rfl, _⟩ := hn.form
 obtain ⟨hsz, k0, x0⟩ := box2 w (.cells #[.slice oa o.length oc, .slice ra rs.length rc] 34) #[.slice a n.length cap] 32
 have bb := below2 w (.cells #[.slice oa o.length oc, .slice ra rs.length rc] 34) (.cells #[.slice a n.length cap] 32)
 have HH := hide (h.below bb)
 have HN := hide (hn.below bb)
 have HO := specZoneOk_has (h.below bb) hs
 have KZ := hide k0
 have KN := hide x0
 have HS := hide hs
 obtain ⟨c0, c1⟩ := cells2 k0
 clear h hn hsz k0 x0 hs
 generalize hres : setOf o rs n t = res
 unfold setOf at hres
 cases hz : zoneOk o rs with
 | false =>
  rw [if_neg (fun q => by rw [hz] at q; cases q.1)] at hres
  subst hres
  rw [hz] at HO
  replace HO := hide HO
  go_enter Tryz.func11, Tryz.ntmps11
  go_wp2_with fail
  refine (unhide HO).mono ?_
  rintro e w1 ⟨rfl, b1⟩
  go_wp2_with fail
  go_ret
  exact ⟨_, rfl, .inl ⟨rfl, rfl⟩, below_next bb b1⟩
 | true =>
  rw [hz] at HO
  replace HO := hide HO
  cases hnm : nameOk n with
  | false =>
   rw [if_neg (fun q => by rw [hnm] at q; cases q.2)] at hres
   subst hres
   go_enter Tryz.func11, Tryz.ntmps11
   go_wp2_with fail
   refine (unhide HO).mono ?_
   rintro e w1 ⟨rfl, b1⟩
   have HM := specNameOk_has ((unhide HN).below b1)
   rw [hnm] at HM
   replace HM := hide HM
   have d2 := block_one (block_kept b1 (unhide KN))
   replace bb := below_next bb b1
   clear c0 c1
   go_wp2_with fail
   refine (unhide HM).mono ?_
   rintro e w2 ⟨rfl, b2⟩
   go_wp2_with fail
   go_ret
   exact ⟨_, rfl, .inl ⟨rfl, rfl⟩, below_next bb b2⟩
  | true =>
   rw [if_pos ⟨hz, hnm⟩] at hres
   have hsel := selK_short (n := n) hz t
   rw [hres] at hsel
   have h60 := (zone_short hz).2.2
   have hn6 := (nameOk_parts hnm).1
   go_enter Tryz.func11, Tryz.ntmps11
   go_wp2_with fail
   refine (unhide HO).mono ?_
   rintro e w1 ⟨rfl, b1⟩
   have HM := specNameOk_has ((unhide HN).below b1)
   rw [hnm] at HM
   replace HM := hide HM
   have d2 := block_one (block_kept b1 (unhide KN))
   replace bb := below_next bb b1
   replace HH := hide ((unhide HH).below b1)
   replace HN := hide ((unhide HN).below b1)
   replace KZ := hide (block_kept b1 (unhide KZ))
   replace KN := hide (block_kept b1 (unhide KN))
   clear c0 c1 b1 HO
   go_wp2_with fail
   refine (unhide HM).mono ?_
   rintro e w2 ⟨rfl, b2⟩
   replace bb := below_next bb b2
   replace HH := hide ((unhide HH).below b2)
   replace HN := hide ((unhide HN).below b2)
   replace KZ := hide (block_kept b2 (unhide KZ))
   replace KN := hide (block_kept b2 (unhide KN))
   clear d2 b2 HM
   have HA := l5all_has t (unhide HH) (Below.refl _ _) (unhide HN) h60 (by omega) (unhide HS)
   rw [hres] at HA
   replace HA := hide HA
   have HSEL := hide hsel
   obtain ⟨e0, e1⟩ := cells2 (unhide KZ)
   have e2 := block_one (unhide KN)
   clear hsel hres
   go_wp2_with fail
   refine (unhide HA).mono ?_
   rintro e w3 ⟨v3, B3, rfl, r3, b3⟩
   have h3 := r3.has b3
   have HL := hide (l3ownAll_has h3 (fun i hi => short_rec ((unhide HSEL).2 i hi)) (by have := (unhide HSEL).1; omega))
   obtain ⟨pa, pc, rfl, _⟩ := h3.form
   have bb3 := below_next bb b3
   clear e0 e1 e2 r3 b3 h3
   go_wp2_with fail
   refine (unhide HL).mono ?_
   rintro e w4 ⟨u4, rfl, r4, b4⟩
   obtain ⟨qa, qc, rfl, _⟩ := r4.has.form
   go_wp2_with fail
   go_ret
   exact ⟨_, rfl, r4.has, below_next bb3 b4⟩
end Go.Proofs.YtmlcmkoefelolaaGreat

namespace Go.Proofs.YtmlcmkoefelolaaGreat
open Go.RowKit
set_option linter.unusedVariables false

set_option maxHeartbeats 4000000 in
set_option maxRecDepth 100000 in
theorem lawSetOf (ao0 : Option Addr) (co0 : Nat) (ar0 : Option Addr) (cr0 : Nat) (n0 : List (List Int)) (q0 : List Rec) (a1 : Option Addr) (cap1 : Nat) (n1 : List (List Int)) (p2 : Int) (w : World) (h0 : InZ w ao0 ar0 n0 q0) (hm0 : SizeZ maxLen n0 q0) (h1 : LiesL w a1 n1) (hm1 : n1.length ≤ maxLen) (hmm1 : ∀ i, i < n1.length → (n1.getD i []).length ≤ maxLen) (hp2 : (Lit.int .i64 p2).wf = true) :
  Calls Tryz.prog 3 #[.agg #[.slice ao0 n0.length co0, .slice ar0 q0.length cr0], .agg #[.slice a1 n1.length cap1], .int .i64 p2] w fun e w' => e = .returned (.bool true) ∧ Below w.heap.size w w' := by
 have bb := below_alloc (w := w) (.cells #[.slice ao0 n0.length co0, .slice ar0 q0.length cr0] 27)
 have K0 := heap_alloc_new w (.cells #[.slice ao0 n0.length co0, .slice ar0 q0.length cr0] 27)
 have e1 : (w.alloc (.cells #[.slice ao0 n0.length co0, .slice ar0 q0.length cr0] 27)).heap.size = w.heap.size + 1 := by show (w.heap.push _).size = _; simp
 have b2 := below_alloc (w := w.alloc (.cells #[.slice ao0 n0.length co0, .slice ar0 q0.length cr0] 27)) (.cells #[.slice a1 n1.length cap1] 24)
 have K1 := heap_alloc_new (w.alloc (.cells #[.slice ao0 n0.length co0, .slice ar0 q0.length cr0] 27)) (.cells #[.slice a1 n1.length cap1] 24)
 replace K0 := block_kept b2 K0
 rw [e1] at K1
 replace bb := below_next bb b2
 clear b2 e1
 replace K0 := hide K0
 replace K1 := hide K1
 have L0 := hide h0
 have HM0 := hide hm0
 clear h0 hm0
 have L1 := hide h1
 have HM1 := hide hmm1
 clear h1 hmm1
 have hq2 : p2 ≤ 9223372036854775807 := by
  have := (i64_bounds hp2).2
  omega
 go_enter Tryz.func3, Tryz.ntmps3
 go_wp2_with fail
 generalize (w.alloc (.cells #[.slice ao0 n0.length co0, .slice ar0 q0.length cr0] 27)).alloc (.cells #[.slice a1 n1.length cap1] 24) = W at *
 have zk0 := block_lt (unhide K0)
 have zk1 := block_lt (unhide K1)
 refine (szZone_any ao0 co0 ar0 cr0 n0 q0 1048576 _ ((unhide L0).below bb) (unhide HM0) (by omega) (by omega)).mono ?_
 rintro e w1 ⟨⟨y0, rfl, hr00, hr10, hr20⟩, b1⟩
 replace bb := below_next bb b1
 replace K0 := hide (block_kept b1 (unhide K0))
 replace K1 := hide (block_kept b1 (unhide K1))
 have z1 := b1.size
 clear b1
 by_cases hneg0 : y0 < 0
 ·clear hr20
  go_wp2_with fail
  go_ret
  exact ⟨rfl, bb⟩
 have HS0 := hide ((hr20 (by omega)).mono (m' := 1048576) (by omega))
 have HSS0 := hide ((unhide HS0).mono (m' := 2097152) (by omega))
 clear hr20 HM0
 obtain ⟨c_K00, c_K01⟩ := cells2 (unhide K0)
 have c_K1 := block_one (unhide K1)
 go_wp2_with fail
 clear c_K00 c_K01
 clear c_K1
 refine (szName_any a1 cap1 n1 y0 _ ((unhide L1).below bb) hm1 (unhide HM1) (by omega) (by omega)).mono ?_
 rintro e w2 ⟨⟨y1, rfl, hr01, hr11, hr21⟩, b2⟩
 replace bb := below_next bb b2
 replace K0 := hide (block_kept b2 (unhide K0))
 replace K1 := hide (block_kept b2 (unhide K1))
 have z2 := b2.size
 clear b2
 by_cases hneg1 : y1 < 0
 ·clear hr21
  go_wp2_with fail
  go_ret
  exact ⟨rfl, bb⟩
 obtain ⟨hn1, hn2⟩ := hr21 (by omega)
 have hl1 : n1.length ≤ 1048576 := by omega
 have HL1 := hide (show ∀ i, i < n1.length → (n1.getD i []).length ≤ 1048576 from fun i hi => by have := hn2 i hi; omega)
 have HLL1 := hide (show ∀ i, i < n1.length → (n1.getD i []).length ≤ 2097152 from fun i hi => by have := hn2 i hi; omega)
 clear hr21 hn1 hn2 hm1 HM1
 have hP0 := posZ_bound (unhide HS0) 1
 have MK0 := fun (B E : Nat) (v u : Value) (w : World) (hE : E ≤ w.heap.size) (h : OwnZ B E w v u n0 q0) => markZone_z (unhide HS0) 1 (by omega) (by omega) hE h
 generalize posRs q0 (pos n0 1 n0.length) q0.length = P0 at *
 replace MK0 := hide MK0
 have hPn0 : ¬ P0 < 0 := by omega
 have hP1 := pos_bound' n1 P0 hl1 (unhide HL1)
 have MK1 := fun (B E : Nat) (v : Value) (w : World) (h : OwnN B E 44 5 w v n1) => markName_any P0 h hl1 (unhide HL1) (by omega) (by omega)
 generalize pos n1 P0 n1.length = P1 at *
 replace MK1 := hide MK1
 have hPn1 : ¬ P1 < 0 := by omega
 have hS0g := setOf_size n0 q0 n1 p2
 have SP := fun (w : World) (xo0 xr0 : Value) (h0 : HasZ w xo0 xr0 n0 q0) (x1 : Value) (h1 : HasL w x1 n1) => specSetOf_has p2 h0 h1 (fun k hk => ((unhide HS0).recs k hk).name)
 have IM := fun (w : World) (xo0 xr0 : Value) (h0 : HasZ w xo0 xr0 n0 q0) (x1 : Value) (h1 : HasL w x1 n1) => implSetOf_own p2 h0 h1
 generalize (setOf n0 q0 n1 p2) = G0 at *
 have HC0g := hS0g.1
 have HS0g := hide (fun i (hi : i < G0.length) => (hS0g.2 i hi).mono (m' := 1048576) (by omega))
 have HSS0g := hide (fun i (hi : i < G0.length) => (hS0g.2 i hi).mono (m' := 2097152) (by omega))
 clear hS0g
 have hPG0 := posRs_bound' (unhide HS0g) (by omega) 1
 have MKG0 := fun (B E : Nat) (v : Value) (w : World) (h3 : E ≤ w.heap.size) (h : RowO B E 52 44 5 3 w v G0) => markRrS_own (unhide HS0g) (by omega) 1 (by omega) (by omega) h3 h
 have HDG0 := fun (v : Value) (w : World) (h : HasRs w v (markRs G0 1 G0.length)) => heldRrS_has (unhide HS0g) (by omega) 1 (by omega) (by omega) h
 generalize posRs G0 1 G0.length = PG0 at *
 generalize markRs G0 1 G0.length = MR0 at *
 replace MKG0 := hide MKG0
 replace HDG0 := hide HDG0
 have hPGn0 : ¬ PG0 < 0 := by omega
 replace SP := hide SP
 replace IM := hide IM
 have bd := below_drew (w := w2)
 have zdw2 : w2.drew.heap.size = w2.heap.size := rfl
 replace bb := below_next bb bd
 replace K0 := hide (block_kept bd (unhide K0))
 replace K1 := hide (block_kept bd (unhide K1))
 clear bd
 obtain ⟨c_K00, c_K01⟩ := cells2 (unhide K0)
 have c_K1 := block_one (unhide K1)
 go_wp2_with fail
 clear c_K00 c_K01
 clear c_K1
 go_region_held3 (fun w' => (w'.cell? ⟨w.heap.size, 0, none⟩ = some (.slice ao0 n0.length co0) ∧ w'.cell? ⟨w.heap.size, 1, none⟩ = some (.slice ar0 q0.length cr0)) ∧ (w'.cell? ⟨w.heap.size + 1, 0, none⟩ = some (.slice a1 n1.length cap1)))
  (first | exact ⟨cells2 (unhide K0), block_one (unhide K1)⟩ | exact ⟨cells2 (block_kept q3 (unhide K0)), block_one (block_kept q3 (unhide K1))⟩ | exact ⟨cells2 (block_kept q4 (unhide K0)), block_one (block_kept q4 (unhide K1))⟩ | exact ⟨cells2 (block_kept q5 (unhide K0)), block_one (block_kept q5 (unhide K1))⟩)
  (first
  | (go_at_call_of 12 (Value.slice ao0 n0.length co0); refine (toZone_own ao0 co0 ar0 cr0 n0 q0 _ ((unhide L0).below bb) (unhide HS0)).mono ?_; rintro e w3 ⟨x3, y3, rfl, o3, b3⟩; obtain ⟨xo3, xoc3, rfl, _⟩ := o3.hasZ.name.form; obtain ⟨xr3, xrc3, rfl, _⟩ := o3.hasZ.recs.form; have q3 := b3)
  | (go_at_call_of 13 (Value.slice a1 n1.length cap1); refine (toName_any a1 cap1 n1 _ ((unhide L1).below (below_next bb q3)) hl1 (unhide HL1)).mono ?_; rintro e w4 ⟨x4, rfl, o4, b4⟩; obtain ⟨xa4, xc4, rfl, _⟩ := o4.hasL.form; have q4 := below_next q3 b4)
  | (go_at_call 11; refine (unhide SP _ _ _ (o3.below b4).hasZ _ o4.hasL).mono ?_; rintro e w5 ⟨y5_0, rfl, o5_0, b5⟩; have q5 := below_next q4 b5))
 clear b3 o3 q3 b4 o4 q4 b5
 replace bb := below_next bb q5
 replace K0 := hide (block_kept q5 (unhide K0))
 replace K1 := hide (block_kept q5 (unhide K1))
 have z5 := q5.size
 clear q5
 have BW := hide (Below.refl w5.heap.size w5)
 obtain ⟨ya5_0, yc5_0, rfl, _⟩ := o5_0.form
 have Wr0 := hide o5_0
 clear o5_0
 obtain ⟨c_K00, c_K01⟩ := cells2 (unhide K0)
 have c_K1 := block_one (unhide K1)
 go_wp2_with fail
 clear c_K00 c_K01
 clear c_K1
 refine (toZone_own ao0 co0 ar0 cr0 n0 q0 _ ((unhide L0).below bb) (unhide HS0)).mono ?_
 rintro e w6 ⟨x6, y6, rfl, o6, b6⟩
 obtain ⟨xo6, xoc6, rfl, _⟩ := o6.hasZ.name.form
 obtain ⟨xr6, xrc6, rfl, _⟩ := o6.hasZ.recs.form
 have X0 := hide o6
 clear o6
 replace bb := below_next bb b6
 replace K0 := hide (block_kept b6 (unhide K0))
 replace K1 := hide (block_kept b6 (unhide K1))
 replace BW := hide ((unhide BW).trans (b6.mono (unhide BW).size))
 have z6 := b6.size
 clear b6
 have b7 := below_alloc (w := w6) (.cells #[.slice xo6 n0.length xoc6, .slice xr6 q0.length xrc6] 34)
 have VX0 := hide (heap_alloc_new w6 (.cells #[.slice xo6 n0.length xoc6, .slice xr6 q0.length xrc6] 34))
 obtain ⟨c_K00, c_K01⟩ := cells2 (block_kept b7 (unhide K0))
 have c_K1 := block_one (block_kept b7 (unhide K1))
 go_wp2_with fail
 clear c_K00 c_K01
 clear c_K1
 generalize w6.alloc (.cells #[.slice xo6 n0.length xoc6, .slice xr6 q0.length xrc6] 34) = w7 at *
 replace bb := below_next bb b7
 replace K0 := hide (block_kept b7 (unhide K0))
 replace K1 := hide (block_kept b7 (unhide K1))
 replace BW := hide ((unhide BW).trans (b7.mono (unhide BW).size))
 replace X0 := hide ((unhide X0).below b7)
 have z7 := b7.size
 clear b7
 have zz7 := block_lt (unhide VX0)
 obtain ⟨c_K00, c_K01⟩ := cells2 (unhide K0)
 have c_K1 := block_one (unhide K1)
 obtain ⟨c_VX00, c_VX01⟩ := cells2 (unhide VX0)
 go_wp2_with fail
 clear c_K00 c_K01
 clear c_K1
 clear c_VX00 c_VX01
 refine (toName_any a1 cap1 n1 _ ((unhide L1).below bb) hl1 (unhide HL1)).mono ?_
 rintro e w8 ⟨x8, rfl, o8, b8⟩
 obtain ⟨xa8, xc8, rfl, _⟩ := o8.hasL.form
 have X1 := hide o8.here
 clear o8
 replace bb := below_next bb b8
 replace K0 := hide (block_kept b8 (unhide K0))
 replace K1 := hide (block_kept b8 (unhide K1))
 replace BW := hide ((unhide BW).trans (b8.mono (unhide BW).size))
 replace X0 := hide ((unhide X0).below b8)
 replace VX0 := hide (block_kept b8 (unhide VX0))
 have z8 := b8.size
 clear b8
 have b9 := below_alloc (w := w8) (.cells #[.slice xa8 n1.length xc8] 32)
 have VX1 := hide (heap_alloc_new w8 (.cells #[.slice xa8 n1.length xc8] 32))
 obtain ⟨c_K00, c_K01⟩ := cells2 (block_kept b9 (unhide K0))
 have c_K1 := block_one (block_kept b9 (unhide K1))
 obtain ⟨c_VX00, c_VX01⟩ := cells2 (block_kept b9 (unhide VX0))
 go_wp2_with fail
 clear c_K00 c_K01
 clear c_K1
 clear c_VX00 c_VX01
 generalize w8.alloc (.cells #[.slice xa8 n1.length xc8] 32) = w9 at *
 replace bb := below_next bb b9
 replace K0 := hide (block_kept b9 (unhide K0))
 replace K1 := hide (block_kept b9 (unhide K1))
 replace BW := hide ((unhide BW).trans (b9.mono (unhide BW).size))
 replace X0 := hide ((unhide X0).below b9)
 replace VX0 := hide (block_kept b9 (unhide VX0))
 replace X1 := hide ((unhide X1).below b9)
 have z9 := b9.size
 clear b9
 have zz9 := block_lt (unhide VX1)
 obtain ⟨c_K00, c_K01⟩ := cells2 (unhide K0)
 have c_K1 := block_one (unhide K1)
 obtain ⟨c_VX00, c_VX01⟩ := cells2 (unhide VX0)
 have c_VX1 := block_one (unhide VX1)
 go_wp2_with fail
 clear c_K00 c_K01
 clear c_K1
 clear c_VX00 c_VX01
 clear c_VX1
 refine (unhide IM _ _ _ (unhide X0).hasZ _ (unhide X1).hasL).mono ?_
 rintro e w10 ⟨y10_0, rfl, o10_0, b10⟩
 replace bb := below_next bb b10
 replace K0 := hide (block_kept b10 (unhide K0))
 replace K1 := hide (block_kept b10 (unhide K1))
 replace BW := hide ((unhide BW).trans (b10.mono (unhide BW).size))
 replace X0 := hide ((unhide X0).below b10)
 replace VX0 := hide (block_kept b10 (unhide VX0))
 replace X1 := hide ((unhide X1).below b10)
 replace VX1 := hide (block_kept b10 (unhide VX1))
 have z10 := b10.size
 clear b10
 obtain ⟨ya10_0, yc10_0, rfl, _⟩ := o10_0.form
 have Gr0 := hide o10_0
 clear o10_0
 obtain ⟨c_K00, c_K01⟩ := cells2 (unhide K0)
 have c_K1 := block_one (unhide K1)
 obtain ⟨c_VX00, c_VX01⟩ := cells2 (unhide VX0)
 have c_VX1 := block_one (unhide VX1)
 go_wp2_with fail
 clear c_K00 c_K01
 clear c_K1
 clear c_VX00 c_VX01
 clear c_VX1
 refine (eqRrS_has (unhide Gr0).has ((unhide Wr0).below (unhide BW)) (unhide HSS0g)).mono ?_
 rintro e w11 ⟨rfl, b11⟩
 replace bb := below_next bb b11
 replace K0 := hide (block_kept b11 (unhide K0))
 replace K1 := hide (block_kept b11 (unhide K1))
 replace BW := hide ((unhide BW).trans (b11.mono (unhide BW).size))
 replace X0 := hide ((unhide X0).below b11)
 replace VX0 := hide (block_kept b11 (unhide VX0))
 replace X1 := hide ((unhide X1).below b11)
 replace VX1 := hide (block_kept b11 (unhide VX1))
 replace Gr0 := hide ((unhide Gr0).below b11)
 have z11 := b11.size
 clear b11
 have bd := below_drew (w := w11)
 have zdw11 : w11.drew.heap.size = w11.heap.size := rfl
 replace bb := below_next bb bd
 replace K0 := hide (block_kept bd (unhide K0))
 replace K1 := hide (block_kept bd (unhide K1))
 replace BW := hide ((unhide BW).trans (bd.mono (unhide BW).size))
 replace X0 := hide ((unhide X0).below bd)
 replace VX0 := hide (block_kept bd (unhide VX0))
 replace X1 := hide ((unhide X1).below bd)
 replace VX1 := hide (block_kept bd (unhide VX1))
 replace Gr0 := hide ((unhide Gr0).below bd)
 clear bd
 obtain ⟨c_K00, c_K01⟩ := cells2 (unhide K0)
 have c_K1 := block_one (unhide K1)
 obtain ⟨c_VX00, c_VX01⟩ := cells2 (unhide VX0)
 have c_VX1 := block_one (unhide VX1)
 go_wp2_with fail
 clear c_K00 c_K01
 clear c_K1
 clear c_VX00 c_VX01
 clear c_VX1
 go_region_held3 (fun w' => (w'.cell? ⟨w.heap.size, 0, none⟩ = some (.slice ao0 n0.length co0) ∧ w'.cell? ⟨w.heap.size, 1, none⟩ = some (.slice ar0 q0.length cr0)) ∧ (w'.cell? ⟨w6.heap.size, 0, none⟩ = some (.slice xo6 n0.length xoc6) ∧ w'.cell? ⟨w6.heap.size, 1, none⟩ = some (.slice xr6 q0.length xrc6)))
  (first | exact ⟨cells2 (unhide K0), cells2 (unhide VX0)⟩ | exact ⟨cells2 (block_kept b12 (unhide K0)), cells2 (block_kept b12 (unhide VX0))⟩ | exact ⟨cells2 (block_kept q13 (unhide K0)), cells2 (block_kept q13 (unhide VX0))⟩)
  (first
  | (go_at_call 12; refine (toZone_own ao0 co0 ar0 cr0 n0 q0 _ ((unhide L0).below bb) (unhide HS0)).mono ?_; rintro e w12 ⟨x12, y12, rfl, o12, b12⟩; obtain ⟨xo12, xoc12, rfl, _⟩ := o12.hasZ.name.form; obtain ⟨xr12, xrc12, rfl, _⟩ := o12.hasZ.recs.form)
  | (go_at_call 16; refine (eqZone_has ((unhide X0).below b12).hasZ o12.hasZ (unhide HSS0)).mono ?_; rintro e w13 ⟨rfl, b13⟩; have q13 := below_next b12 b13))
 clear b12 b13 o12
 replace bb := below_next bb q13
 replace K0 := hide (block_kept q13 (unhide K0))
 replace K1 := hide (block_kept q13 (unhide K1))
 replace BW := hide ((unhide BW).trans (q13.mono (unhide BW).size))
 replace X0 := hide ((unhide X0).below q13)
 replace VX0 := hide (block_kept q13 (unhide VX0))
 replace X1 := hide ((unhide X1).below q13)
 replace VX1 := hide (block_kept q13 (unhide VX1))
 replace Gr0 := hide ((unhide Gr0).below q13)
 have z13 := q13.size
 clear q13
 have bd := below_drew (w := w13)
 have zdw13 : w13.drew.heap.size = w13.heap.size := rfl
 replace bb := below_next bb bd
 replace K0 := hide (block_kept bd (unhide K0))
 replace K1 := hide (block_kept bd (unhide K1))
 replace BW := hide ((unhide BW).trans (bd.mono (unhide BW).size))
 replace X0 := hide ((unhide X0).below bd)
 replace VX0 := hide (block_kept bd (unhide VX0))
 replace X1 := hide ((unhide X1).below bd)
 replace VX1 := hide (block_kept bd (unhide VX1))
 replace Gr0 := hide ((unhide Gr0).below bd)
 clear bd
 obtain ⟨c_K00, c_K01⟩ := cells2 (unhide K0)
 have c_K1 := block_one (unhide K1)
 obtain ⟨c_VX00, c_VX01⟩ := cells2 (unhide VX0)
 have c_VX1 := block_one (unhide VX1)
 go_wp2_with fail
 clear c_K00 c_K01
 clear c_K1
 clear c_VX00 c_VX01
 clear c_VX1
 go_region_held3 (fun w' => (w'.cell? ⟨w.heap.size + 1, 0, none⟩ = some (.slice a1 n1.length cap1)) ∧ (w'.cell? ⟨w8.heap.size, 0, none⟩ = some (.slice xa8 n1.length xc8)))
  (first | exact ⟨block_one (unhide K1), block_one (unhide VX1)⟩ | exact ⟨block_one (block_kept b14 (unhide K1)), block_one (block_kept b14 (unhide VX1))⟩ | exact ⟨block_one (block_kept q15 (unhide K1)), block_one (block_kept q15 (unhide VX1))⟩)
  (first
  | (go_at_call 13; refine (toName_any a1 cap1 n1 _ ((unhide L1).below bb) hl1 (unhide HL1)).mono ?_; rintro e w14 ⟨x14, rfl, o14, b14⟩; obtain ⟨xa14, xc14, rfl, _⟩ := o14.hasL.form)
  | (go_at_call 17; refine (eqName_has ((unhide X1).below b14).hasL o14.hasL (unhide HLL1)).mono ?_; rintro e w15 ⟨rfl, b15⟩; have q15 := below_next b14 b15))
 clear b14 b15 o14
 replace bb := below_next bb q15
 replace K0 := hide (block_kept q15 (unhide K0))
 replace K1 := hide (block_kept q15 (unhide K1))
 replace BW := hide ((unhide BW).trans (q15.mono (unhide BW).size))
 replace X0 := hide ((unhide X0).below q15)
 replace VX0 := hide (block_kept q15 (unhide VX0))
 replace X1 := hide ((unhide X1).below q15)
 replace VX1 := hide (block_kept q15 (unhide VX1))
 replace Gr0 := hide ((unhide Gr0).below q15)
 have z15 := q15.size
 clear q15
 obtain ⟨c_K00, c_K01⟩ := cells2 (unhide K0)
 have c_K1 := block_one (unhide K1)
 obtain ⟨c_VX00, c_VX01⟩ := cells2 (unhide VX0)
 have c_VX1 := block_one (unhide VX1)
 go_wp2_with fail
 clear c_K00 c_K01
 clear c_K1
 clear c_VX00 c_VX01
 clear c_VX1
 refine (unhide MK0 _ _ _ _ _ (by omega) (unhide X0)).mono ?_
 rintro e w16 ⟨rfl, u16⟩
 clear X0
 replace bb := u16.below bb (by omega)
 replace K0 := hide (u16.kept (unhide K0) (by omega))
 replace K1 := hide (u16.kept (unhide K1) (by omega))
 replace BW := hide (u16.belowAt (unhide BW) (Nat.le_refl _) (by omega))
 replace VX0 := hide (u16.kept (unhide VX0) (by omega))
 replace X1 := hide ((unhide X1).outside u16 (by omega))
 replace VX1 := hide (u16.kept (unhide VX1) (by omega))
 replace Gr0 := hide ((unhide Gr0).outside u16 (by omega))
 have z16 := u16.size
 clear u16
 obtain ⟨c_K00, c_K01⟩ := cells2 (unhide K0)
 have c_K1 := block_one (unhide K1)
 obtain ⟨c_VX00, c_VX01⟩ := cells2 (unhide VX0)
 have c_VX1 := block_one (unhide VX1)
 go_wp2_with fail
 clear c_K00 c_K01
 clear c_K1
 clear c_VX00 c_VX01
 clear c_VX1
 refine (unhide MK1 _ _ _ _ (unhide X1)).mono ?_
 rintro e w17 ⟨rfl, o17, u17⟩
 clear o17 X1
 replace bb := u17.below bb (by omega)
 replace K0 := hide (u17.kept (unhide K0) (by omega))
 replace K1 := hide (u17.kept (unhide K1) (by omega))
 replace BW := hide (u17.belowAt (unhide BW) (Nat.le_refl _) (by omega))
 replace VX0 := hide (u17.kept (unhide VX0) (by omega))
 replace VX1 := hide (u17.kept (unhide VX1) (by omega))
 replace Gr0 := hide ((unhide Gr0).outside u17 (by omega))
 have z17 := u17.size
 clear u17
 obtain ⟨c_K00, c_K01⟩ := cells2 (unhide K0)
 have c_K1 := block_one (unhide K1)
 obtain ⟨c_VX00, c_VX01⟩ := cells2 (unhide VX0)
 have c_VX1 := block_one (unhide VX1)
 go_wp2_with fail
 clear c_K00 c_K01
 clear c_K1
 clear c_VX00 c_VX01
 clear c_VX1
 refine (eqRrS_has (unhide Gr0).has ((unhide Wr0).below (unhide BW)) (unhide HSS0g)).mono ?_
 rintro e w18 ⟨rfl, b18⟩
 replace bb := below_next bb b18
 replace K0 := hide (block_kept b18 (unhide K0))
 replace K1 := hide (block_kept b18 (unhide K1))
 replace BW := hide ((unhide BW).trans (b18.mono (unhide BW).size))
 replace VX0 := hide (block_kept b18 (unhide VX0))
 replace VX1 := hide (block_kept b18 (unhide VX1))
 replace Gr0 := hide ((unhide Gr0).below b18)
 have z18 := b18.size
 clear b18
 obtain ⟨c_K00, c_K01⟩ := cells2 (unhide K0)
 have c_K1 := block_one (unhide K1)
 obtain ⟨c_VX00, c_VX01⟩ := cells2 (unhide VX0)
 have c_VX1 := block_one (unhide VX1)
 go_wp2_with fail
 clear c_K00 c_K01
 clear c_K1
 clear c_VX00 c_VX01
 clear c_VX1
 refine (unhide MKG0 _ _ _ _ (by omega) (unhide Gr0)).mono ?_
 rintro e w19 ⟨rfl, MR_0, u19⟩
 clear Gr0
 replace bb := u19.below bb (by omega)
 replace K0 := hide (u19.kept (unhide K0) (by omega))
 replace K1 := hide (u19.kept (unhide K1) (by omega))
 replace BW := hide (u19.belowAt (unhide BW) (Nat.le_refl _) (by omega))
 replace VX0 := hide (u19.kept (unhide VX0) (by omega))
 replace VX1 := hide (u19.kept (unhide VX1) (by omega))
 have z19 := u19.size
 clear u19
 replace MR_0 := hide MR_0
 obtain ⟨c_K00, c_K01⟩ := cells2 (unhide K0)
 have c_K1 := block_one (unhide K1)
 obtain ⟨c_VX00, c_VX01⟩ := cells2 (unhide VX0)
 have c_VX1 := block_one (unhide VX1)
 go_wp2_with fail
 clear c_K00 c_K01
 clear c_K1
 clear c_VX00 c_VX01
 clear c_VX1
 refine (unhide HDG0 _ _ (unhide MR_0).has).mono ?_
 rintro e wh ⟨rfl, rfl⟩
 have bd := below_drew (w := w19)
 have zdw19 : w19.drew.heap.size = w19.heap.size := rfl
 replace bb := below_next bb bd
 replace K0 := hide (block_kept bd (unhide K0))
 replace K1 := hide (block_kept bd (unhide K1))
 replace BW := hide ((unhide BW).trans (bd.mono (unhide BW).size))
 replace VX0 := hide (block_kept bd (unhide VX0))
 replace VX1 := hide (block_kept bd (unhide VX1))
 replace MR_0 := hide ((unhide MR_0).below bd)
 clear bd
 obtain ⟨c_K00, c_K01⟩ := cells2 (unhide K0)
 have c_K1 := block_one (unhide K1)
 obtain ⟨c_VX00, c_VX01⟩ := cells2 (unhide VX0)
 have c_VX1 := block_one (unhide VX1)
 go_wp2_with fail
 clear c_K00 c_K01
 clear c_K1
 clear c_VX00 c_VX01
 clear c_VX1
 go_region_held3 (fun w' => (w'.cell? ⟨w.heap.size, 0, none⟩ = some (.slice ao0 n0.length co0) ∧ w'.cell? ⟨w.heap.size, 1, none⟩ = some (.slice ar0 q0.length cr0)) ∧ (w'.cell? ⟨w.heap.size + 1, 0, none⟩ = some (.slice a1 n1.length cap1)))
  (first | exact ⟨cells2 (unhide K0), block_one (unhide K1)⟩ | exact ⟨cells2 (block_kept q21 (unhide K0)), block_one (block_kept q21 (unhide K1))⟩ | exact ⟨cells2 (block_kept q22 (unhide K0)), block_one (block_kept q22 (unhide K1))⟩ | exact ⟨cells2 (block_kept q23 (unhide K0)), block_one (block_kept q23 (unhide K1))⟩)
  (first
  | (go_at_call_of 12 (Value.slice ao0 n0.length co0); refine (toZone_own ao0 co0 ar0 cr0 n0 q0 _ ((unhide L0).below bb) (unhide HS0)).mono ?_; rintro e w21 ⟨x21, y21, rfl, o21, b21⟩; obtain ⟨xo21, xoc21, rfl, _⟩ := o21.hasZ.name.form; obtain ⟨xr21, xrc21, rfl, _⟩ := o21.hasZ.recs.form; have q21 := b21)
  | (go_at_call_of 13 (Value.slice a1 n1.length cap1); refine (toName_any a1 cap1 n1 _ ((unhide L1).below (below_next bb q21)) hl1 (unhide HL1)).mono ?_; rintro e w22 ⟨x22, rfl, o22, b22⟩; obtain ⟨xa22, xc22, rfl, _⟩ := o22.hasL.form; have q22 := below_next q21 b22)
  | (go_at_call 14; refine (unhide IM _ _ _ (o21.below b22).hasZ _ o22.hasL).mono ?_; rintro e w23 ⟨y23_0, rfl, o23_0, b23⟩; have q23 := below_next q22 b23))
 clear b21 o21 q21 b22 o22 q22 b23
 replace bb := below_next bb q23
 replace K0 := hide (block_kept q23 (unhide K0))
 replace K1 := hide (block_kept q23 (unhide K1))
 replace BW := hide ((unhide BW).trans (q23.mono (unhide BW).size))
 replace VX0 := hide (block_kept q23 (unhide VX0))
 replace VX1 := hide (block_kept q23 (unhide VX1))
 replace MR_0 := hide ((unhide MR_0).below q23)
 have z23 := q23.size
 clear q23
 obtain ⟨ya23_0, yc23_0, rfl, _⟩ := o23_0.form
 have Hr0 := hide o23_0
 clear o23_0
 obtain ⟨c_K00, c_K01⟩ := cells2 (unhide K0)
 have c_K1 := block_one (unhide K1)
 obtain ⟨c_VX00, c_VX01⟩ := cells2 (unhide VX0)
 have c_VX1 := block_one (unhide VX1)
 go_wp2_with fail
 clear c_K00 c_K01
 clear c_K1
 clear c_VX00 c_VX01
 clear c_VX1
 refine (eqRrS_has (unhide Hr0).has ((unhide Wr0).below (unhide BW)) (unhide HSS0g)).mono ?_
 rintro e w24 ⟨rfl, b24⟩
 replace bb := below_next bb b24
 replace K0 := hide (block_kept b24 (unhide K0))
 replace K1 := hide (block_kept b24 (unhide K1))
 replace BW := hide ((unhide BW).trans (b24.mono (unhide BW).size))
 replace VX0 := hide (block_kept b24 (unhide VX0))
 replace VX1 := hide (block_kept b24 (unhide VX1))
 replace MR_0 := hide ((unhide MR_0).below b24)
 replace Hr0 := hide ((unhide Hr0).below b24)
 have z24 := b24.size
 clear b24
 obtain ⟨c_K00, c_K01⟩ := cells2 (unhide K0)
 have c_K1 := block_one (unhide K1)
 obtain ⟨c_VX00, c_VX01⟩ := cells2 (unhide VX0)
 have c_VX1 := block_one (unhide VX1)
 go_wp2_with fail
 clear c_K00 c_K01
 clear c_K1
 clear c_VX00 c_VX01
 clear c_VX1
 refine (unhide HDG0 _ _ (unhide MR_0).has).mono ?_
 rintro e wh ⟨rfl, rfl⟩
 go_wp2_with fail
 go_ret
 exact ⟨rfl, bb⟩
end Go.Proofs.YtmlcmkoefelolaaGreat
