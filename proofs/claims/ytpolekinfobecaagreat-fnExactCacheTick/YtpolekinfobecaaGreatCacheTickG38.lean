/-
  Contract of the specification's l10set. Contract of the specification's l10ahead.
-/
import Derived.Test.YtpolekinfobecaaGreatCacheTickG15
import Derived.Test.YtpolekinfobecaaGreatCacheTickG35
import Derived.Test.YtpolekinfobecaaGreatCacheTickG37
import Derived.Test.YtpolekinfobecaaGreatCacheTickG36
import Derived.Test.YtpolekinfobecaaGreatCacheTickG23
import Derived.Test.YtpolekinfobecaaGreatCacheTickG10
namespace Go.Proofs.YtpolekinfobecaaGreat
open Go.RowKit
set_option linter.unusedVariables false

set_option maxHeartbeats 16000000 in
set_option maxRecDepth 100000 in
theorem l10set_has {v : Value} {l : List Rec} {w : World} (h : HasRs w v l) (hsn : ∀ k, k < l.length → (l.getD k recZ).name.length ≤ 1048576) :
  Calls Tryz.prog 24 #[v] w fun e w' => e = .returned (.bool (setOk l)) ∧ Below w.heap.size w w' := by
 obtain ⟨a, cap, rfl, hcap, hmx⟩ := h.form
 unfold setOk
 by_cases hl0 : 1 ≤ l.length
 rotate_left
 ·rw [decide_eq_false hl0, Bool.false_and]
  clear h hsn
  generalize l.length = n at *
  obtain rfl : n = 0 := by omega
  go_enter Tryz.func24, Tryz.ntmps24
  go_wp2_with fail
  go_ret
  exact ⟨rfl, Below.refl _ _⟩
 rw [decide_eq_true hl0, Bool.true_and]
 by_cases hl12 : l.length ≤ 12
 rotate_left
 ·rw [decide_eq_false hl12, Bool.false_and]
  clear h hsn
  generalize l.length = n at *
  have h1 : ¬ (n : Int) < 1 := by omega
  have h2 : (12 : Int) < n := by omega
  clear hl0 hl12
  go_enter Tryz.func24, Tryz.ntmps24
  go_wp2_with fail
  go_ret
  exact ⟨rfl, Below.refl _ _⟩
 rw [decide_eq_true hl12, Bool.true_and]
 have HY := hide (fun (hs : ∀ j, j < l.length → setAt l j = true) => rangeAll_yes hs)
 have HX := hide (fun i (hi : i < l.length) (hs : setAt l i = false) => rangeAll_no hi hs)
 have HSN := hide hsn
 clear hsn
 unfold maxLen at hmx
 generalize (List.range l.length).all (setAt l) = R at *
 generalize hn : l.length = n at *
 have HN := hide hn
 have H := hide h
 clear hn h
 have h1 : ¬ (n : Int) < 1 := by omega
 have h2 : ¬ (12 : Int) < n := by omega
 go_enter Tryz.func24, Tryz.ntmps24
 go_wp2_with fail
 go_loopw [3] (fun i wr => ∃ k : Nat, k ≤ n ∧ i = .int .i64 k ∧ Hid (∀ j, j < k → setAt l j = true) ∧ Below w.heap.size w wr) (fun i _ => n - (intOf i).toNat)
 case atStart => exact ⟨0, Nat.zero_le _, rfl, hide (fun j hj => absurd hj (Nat.not_lt_zero _)), Below.refl _ _⟩
 case round =>
  clear h1 h2
  obtain ⟨k, hk, rfl, hall, hb⟩ := hrel
  by_cases hlt : k < n
  ·have hone := hide (fun (hs : setAt l k = true) => (show ∀ j, j < k + 1 → setAt l j = true from fun j hj => by
     by_cases e : j = k
     ·subst e; exact hs
     ·exact unhide hall j (by omega)))
   have HSI := hide (show setAt l k = (rrOk (l.getD k recZ) && (decide (cmpN (l.getD k recZ).name (l.getD 0 recZ).name = 0) && (decide ((l.getD k recZ).type = (l.getD 0 recZ).type) && (decide ((l.getD k recZ).ttl = (l.getD 0 recZ).ttl) && (decide (k = 0) || decide (cmpR (l.getD (k - 1) recZ) (l.getD k recZ) < 0)))))) from rfl)
   have HXK := hide (unhide HX k hlt)
   have hsk := unhide HSN k hlt
   have hs0 := unhide HSN 0 (by omega)
   have HPR := hide (fun (h : 0 < k) => setAt_rr (unhide hall (k - 1) (by omega)))
   clear hall
   obtain ⟨b, off, na, nc, ta, tc, xa, xc, ia, ic, rfl, hbl, hc, hu⟩ := ((unhide H).below hb).here (k := k) (by rw [unhide HN]; exact hlt)
   obtain ⟨b'', off'', na0, nc0, ta0, tc0, xa0, xc0, ia0, ic0, hbe, hbl'', hz, hu0⟩ := ((unhide H).below hb).here (k := 0) (by rw [unhide HN]; omega)
   simp only [Option.some.injEq, Addr.mk.injEq, and_true] at hbe
   obtain ⟨rfl, rfl⟩ := hbe
   rw [Nat.zero_mul, Nat.add_zero] at hz
   have hn0 : (0 : Int) < n := by omega
   have hnp : 0 < n := by omega
   have hkn : (k : Int) < n := by omega
   have bd := below_drew (w := wr)
   have hbd := below_next hb bd
   have HC := hide (range_below hc hbl bd)
   have H0 := hide (range_below hz hbl bd)
   have hbld : b < wr.drew.heap.size := hbl
   have HU := hide (hu.below bd)
   have HU0 := hide (hu0.below bd)
   generalize setAt l k = SI at *
   by_cases hk0 : k = 0
   ·subst hk0
    rw [Nat.zero_mul, Nat.add_zero] at HC
    have hsi2 : SI = rrOk (l.getD 0 recZ) := by rw [unhide HSI, cmpN_self]; simp
    replace HSI := hide hsi2
    clear hc hz hu hu0 hb hbl hbl'' HPR hsi2
    generalize l.getD 0 recZ = rk at *
    clear H0 HU0
    have RO := specRrOk_has (unhide HU)
    generalize rrOk rk = G1 at *
    replace RO := hide RO
    have LC := fun (w : World) (h1 : HasR w (.slice na rk.name.length nc) (.slice ta rk.to.length tc) (.slice xa rk.text.length xc) (.slice ia rk.nums.length ic) rk) (h2 : HasR w (.slice na rk.name.length nc) (.slice ta rk.to.length tc) (.slice xa rk.text.length xc) (.slice ia rk.nums.length ic) rk) => l2cmp_has h1.name h2.name hsk hs0
    rw [cmpN_self] at LC
    replace LC := hide LC
    go_wp2_with fail
    refine startF 60 (S := (fun w' => (w'.cell? ⟨b, off, none⟩ = some (.slice na rk.name.length nc) ∧ w'.cell? ⟨b, off + 1, none⟩ = some (.int .i64 rk.type) ∧ w'.cell? ⟨b, off + 2, none⟩ = some (.int .i64 rk.ttl) ∧ w'.cell? ⟨b, off + 3, none⟩ = some (.int .i64 rk.addr) ∧ w'.cell? ⟨b, off + 4, none⟩ = some (.slice ta rk.to.length tc) ∧ w'.cell? ⟨b, off + 5, none⟩ = some (.slice xa rk.text.length xc) ∧ w'.cell? ⟨b, off + 6, none⟩ = some (.slice ia rk.nums.length ic)))) (by kernel_rfl) rfl (range7 (unhide HC)) (fun hHeld => ?_)
    simp only [List.replicate]
    repeat ((first | (refine tkF ?_ rfl (by kernel_rfl) (by rfl) (fun _ _ _ h => h) ?_ hHeld ?_; rotate_left; · (intro w hSw; (try dsimp only at hSw); go_simp <;> with_reducible rfl)) | refine skF rfl (by kernel_rfl) (by rfl) (fun _ _ _ h => h) hHeld ?_); simp only [Act.put, setF, List.setIfInBounds_toArray, List.set_cons_zero, List.set_cons_succ])
    refine runI 4 rfl (by kernel_rfl) (by kernel_rfl) (fun K hK => ?_)
    have HK := hide hK
    clear hK hHeld
    go_simp
    refine (unhide RO).mono ?_
    rintro e w5 ⟨rfl, b5⟩
    refine (unhide HK).out _ _ (range7 (range_below (unhide HC) hbld b5)) (fun hHeld => ?_)
    clear HK K
    simp only [List.setIfInBounds_toArray, List.set_cons_zero, List.set_cons_succ]
    cases G1 with
    | false =>
     have hR := unhide HXK (unhide HSI)
     subst hR
     repeat ((first | (refine tkF ?_ rfl (by kernel_rfl) (by rfl) (fun _ _ _ h => h) ?_ hHeld ?_; rotate_left; · (intro w hSw; (try dsimp only at hSw); go_simp <;> with_reducible rfl)) | refine skF rfl (by kernel_rfl) (by rfl) (fun _ _ _ h => h) hHeld ?_); simp only [Act.put, setF, List.setIfInBounds_toArray, List.set_cons_zero, List.set_cons_succ])
     refine wpAnyH_done (by kernel_rfl) ?_ _
     clear hHeld
     go_wp2_with fail
     go_ret
     exact ⟨rfl, below_next hbd b5⟩
    | true =>
     have HS := hide (unhide hone (unhide HSI))
     clear hone HXK
     repeat ((first | (refine tkF ?_ rfl (by kernel_rfl) (by rfl) (fun _ _ _ h => h) ?_ hHeld ?_; rotate_left; · (intro w hSw; (try dsimp only at hSw); go_simp <;> with_reducible rfl)) | refine skF rfl (by kernel_rfl) (by rfl) (fun _ _ _ h => h) hHeld ?_); simp only [Act.put, setF, List.setIfInBounds_toArray, List.set_cons_zero, List.set_cons_succ])
     refine runI 16 rfl (by kernel_rfl) (by kernel_rfl) (fun K hK => ?_)
     have HK := hide hK
     clear hK hHeld
     go_simp
     refine (unhide LC _ ((unhide HU).below b5) ((unhide HU).below b5)).mono ?_
     rintro e w6 ⟨rfl, b6⟩
     have q6 := below_next b5 b6
     refine (unhide HK).out _ _ (range7 (range_below (unhide HC) hbld q6)) (fun hHeld => ?_)
     clear HK K
     simp only [List.setIfInBounds_toArray, List.set_cons_zero, List.set_cons_succ]
     repeat ((first | (refine tkF ?_ rfl (by kernel_rfl) (by rfl) (fun _ _ _ h => h) ?_ hHeld ?_; rotate_left; · (intro w hSw; (try dsimp only at hSw); go_simp <;> with_reducible rfl)) | refine skF rfl (by kernel_rfl) (by rfl) (fun _ _ _ h => h) hHeld ?_); simp only [Act.put, setF, List.setIfInBounds_toArray, List.set_cons_zero, List.set_cons_succ])
     refine wpAnyH_done (by kernel_rfl) ?_ _
     clear hHeld
     go_wp2_with fail
     exact ⟨⟨0 + 1, by omega, by go_num, hide (unhide HS), below_next hbd q6⟩, by simp [intOf]; omega⟩
   ·obtain ⟨k0, hke⟩ : ∃ k0, k = k0 + 1 := ⟨k - 1, by omega⟩
    rw [decide_eq_false hk0, Bool.false_or, show k - 1 = k0 by omega] at HSI
    have hpr := unhide HPR (by omega)
    rw [show k - 1 = k0 by omega] at hpr
    obtain ⟨b', off', na', nc', ta', tc', xa', xc', ia', ic', hbe, hbl', hp, hu'⟩ := ((unhide H).below hb).here (k := k0) (by rw [unhide HN]; omega)
    simp only [Option.some.injEq, Addr.mk.injEq, and_true] at hbe
    obtain ⟨rfl, rfl⟩ := hbe
    have HP := hide (range_below hp hbl bd)
    have HUP := hide (hu'.below bd)
    clear hc hz hp hu hu0 hu' hb hbl hbl' hbl'' HPR hk0
    generalize l.getD k recZ = rk at *
    generalize l.getD k0 recZ = rp at *
    generalize l.getD 0 recZ = r0 at *
    have hkp : (0 : Int) < (k : Nat) := by omega
    have hkpn : 0 < k := by omega
    have hsub : ((k : Nat) : Int) - 1 = (k0 : Nat) := by omega
    have hwr : IntKind.i64.wrap (k0 : Int) = (k0 : Nat) := by have := hlt; exact wrap_small k0 (by omega)
    have hkm : (k0 : Int) < n := by omega
    have HKE := hide hke
    clear hke
    have RO := specRrOk_has (unhide HU)
    have L3 := fun (hr : rrOk rk = true) (w : World) (h1 : HasR w (.slice na' rp.name.length nc') (.slice ta' rp.to.length tc') (.slice xa' rp.text.length xc') (.slice ia' rp.nums.length ic') rp) (h2 : HasR w (.slice na rk.name.length nc) (.slice ta rk.to.length tc) (.slice xa rk.text.length xc) (.slice ia rk.nums.length ic) rk) => l3cmp_has h1 h2 hpr hr
    have LC := fun (w : World) (h1 : HasR w (.slice na rk.name.length nc) (.slice ta rk.to.length tc) (.slice xa rk.text.length xc) (.slice ia rk.nums.length ic) rk) (h2 : HasR w (.slice na0 r0.name.length nc0) (.slice ta0 r0.to.length tc0) (.slice xa0 r0.text.length xc0) (.slice ia0 r0.nums.length ic0) r0) => l2cmp_has h1.name h2.name hsk hs0
    generalize rrOk rk = G1 at *
    generalize cmpN rk.name r0.name = N at *
    generalize cmpR rp rk = M at *
    replace RO := hide RO
    replace LC := hide LC
    replace L3 := hide L3
    clear hpr hsk hs0
    go_wp2_with fail
    refine startF 60 (S := (fun w' => (w'.cell? ⟨b, off + k * 7, none⟩ = some (.slice na rk.name.length nc) ∧ w'.cell? ⟨b, off + k * 7 + 1, none⟩ = some (.int .i64 rk.type) ∧ w'.cell? ⟨b, off + k * 7 + 2, none⟩ = some (.int .i64 rk.ttl) ∧ w'.cell? ⟨b, off + k * 7 + 3, none⟩ = some (.int .i64 rk.addr) ∧ w'.cell? ⟨b, off + k * 7 + 4, none⟩ = some (.slice ta rk.to.length tc) ∧ w'.cell? ⟨b, off + k * 7 + 5, none⟩ = some (.slice xa rk.text.length xc) ∧ w'.cell? ⟨b, off + k * 7 + 6, none⟩ = some (.slice ia rk.nums.length ic)) ∧ (w'.cell? ⟨b, off + k0 * 7, none⟩ = some (.slice na' rp.name.length nc') ∧ w'.cell? ⟨b, off + k0 * 7 + 1, none⟩ = some (.int .i64 rp.type) ∧ w'.cell? ⟨b, off + k0 * 7 + 2, none⟩ = some (.int .i64 rp.ttl) ∧ w'.cell? ⟨b, off + k0 * 7 + 3, none⟩ = some (.int .i64 rp.addr) ∧ w'.cell? ⟨b, off + k0 * 7 + 4, none⟩ = some (.slice ta' rp.to.length tc') ∧ w'.cell? ⟨b, off + k0 * 7 + 5, none⟩ = some (.slice xa' rp.text.length xc') ∧ w'.cell? ⟨b, off + k0 * 7 + 6, none⟩ = some (.slice ia' rp.nums.length ic')) ∧ (w'.cell? ⟨b, off, none⟩ = some (.slice na0 r0.name.length nc0) ∧ w'.cell? ⟨b, off + 1, none⟩ = some (.int .i64 r0.type) ∧ w'.cell? ⟨b, off + 2, none⟩ = some (.int .i64 r0.ttl) ∧ w'.cell? ⟨b, off + 3, none⟩ = some (.int .i64 r0.addr) ∧ w'.cell? ⟨b, off + 4, none⟩ = some (.slice ta0 r0.to.length tc0) ∧ w'.cell? ⟨b, off + 5, none⟩ = some (.slice xa0 r0.text.length xc0) ∧ w'.cell? ⟨b, off + 6, none⟩ = some (.slice ia0 r0.nums.length ic0)))) (by kernel_rfl) rfl ⟨range7 (unhide HC), range7 (unhide HP), range7 (unhide H0)⟩ (fun hHeld => ?_)
    simp only [List.replicate]
    repeat ((first | (refine tkF ?_ rfl (by kernel_rfl) (by rfl) (fun _ _ _ h => h) ?_ hHeld ?_; rotate_left; · (intro w hSw; (try dsimp only at hSw); go_simp <;> with_reducible rfl)) | refine skF rfl (by kernel_rfl) (by rfl) (fun _ _ _ h => h) hHeld ?_); simp only [Act.put, setF, List.setIfInBounds_toArray, List.set_cons_zero, List.set_cons_succ])
    refine runI 4 rfl (by kernel_rfl) (by kernel_rfl) (fun K hK => ?_)
    have HK := hide hK
    clear hK hHeld
    go_simp
    refine (unhide RO).mono ?_
    rintro e w5 ⟨rfl, b5⟩
    refine (unhide HK).out _ _ ⟨range7 (range_below (unhide HC) hbld b5), range7 (range_below (unhide HP) hbld b5), range7 (range_below (unhide H0) hbld b5)⟩ (fun hHeld => ?_)
    clear HK K
    simp only [List.setIfInBounds_toArray, List.set_cons_zero, List.set_cons_succ]
    cases G1 with
    | false =>
     have hR := unhide HXK (by rw [unhide HSI, Bool.false_and])
     subst hR
     repeat ((first | (refine tkF ?_ rfl (by kernel_rfl) (by rfl) (fun _ _ _ h => h) ?_ hHeld ?_; rotate_left; · (intro w hSw; (try dsimp only at hSw); go_simp <;> with_reducible rfl)) | refine skF rfl (by kernel_rfl) (by rfl) (fun _ _ _ h => h) hHeld ?_); simp only [Act.put, setF, List.setIfInBounds_toArray, List.set_cons_zero, List.set_cons_succ])
     refine wpAnyH_done (by kernel_rfl) ?_ _
     clear hHeld
     go_wp2_with fail
     go_ret
     exact ⟨rfl, below_next hbd b5⟩
    | true =>
     replace L3 := hide (unhide L3 rfl)
     rw [Bool.true_and] at HSI
     repeat ((first | (refine tkF ?_ rfl (by kernel_rfl) (by rfl) (fun _ _ _ h => h) ?_ hHeld ?_; rotate_left; · (intro w hSw; (try dsimp only at hSw); go_simp <;> with_reducible rfl)) | refine skF rfl (by kernel_rfl) (by rfl) (fun _ _ _ h => h) hHeld ?_); simp only [Act.put, setF, List.setIfInBounds_toArray, List.set_cons_zero, List.set_cons_succ])
     refine runI 16 rfl (by kernel_rfl) (by kernel_rfl) (fun K hK => ?_)
     have HK := hide hK
     clear hK hHeld
     go_simp
     refine (unhide LC _ ((unhide HU).below b5) ((unhide HU0).below b5)).mono ?_
     rintro e w6 ⟨rfl, b6⟩
     have q6 := below_next b5 b6
     refine (unhide HK).out _ _ ⟨range7 (range_below (unhide HC) hbld q6), range7 (range_below (unhide HP) hbld q6), range7 (range_below (unhide H0) hbld q6)⟩ (fun hHeld => ?_)
     clear HK K
     simp only [List.setIfInBounds_toArray, List.set_cons_zero, List.set_cons_succ]
     by_cases hN : N = 0
     rotate_left
     ·have qN : (N != 0) = true := by simpa using hN
      have hR := unhide HXK (by rw [unhide HSI, decide_eq_false hN, Bool.false_and])
      subst hR
      clear hone HXK HSI hN
      repeat ((first | (refine tkF ?_ rfl (by kernel_rfl) (by rfl) (fun _ _ _ h => h) ?_ hHeld ?_; rotate_left; · (intro w hSw; (try dsimp only at hSw); go_simp <;> with_reducible rfl)) | refine skF rfl (by kernel_rfl) (by rfl) (fun _ _ _ h => h) hHeld ?_); simp only [Act.put, setF, List.setIfInBounds_toArray, List.set_cons_zero, List.set_cons_succ])
      refine wpAnyH_done (by kernel_rfl) ?_ _
      clear hHeld
      go_wp2_with fail
      go_ret
      exact ⟨rfl, below_next hbd q6⟩
     subst hN
     rw [decide_eq_true rfl, Bool.true_and] at HSI
     repeat ((first | (refine tkF ?_ rfl (by kernel_rfl) (by rfl) (fun _ _ _ h => h) ?_ hHeld ?_; rotate_left; · (intro w hSw; (try dsimp only at hSw); go_simp <;> with_reducible rfl)) | refine skF rfl (by kernel_rfl) (by rfl) (fun _ _ _ h => h) hHeld ?_); simp only [Act.put, setF, List.setIfInBounds_toArray, List.set_cons_zero, List.set_cons_succ])
     by_cases hT : rk.type = r0.type
     rotate_left
     ·have qT : (rk.type != r0.type) = true := by simpa using hT
      have hR := unhide HXK (by rw [unhide HSI, decide_eq_false hT, Bool.false_and])
      subst hR
      clear hone HXK HSI hT
      rw [qT]
      repeat ((first | (refine tkF ?_ rfl (by kernel_rfl) (by rfl) (fun _ _ _ h => h) ?_ hHeld ?_; rotate_left; · (intro w hSw; (try dsimp only at hSw); go_simp <;> with_reducible rfl)) | refine skF rfl (by kernel_rfl) (by rfl) (fun _ _ _ h => h) hHeld ?_); simp only [Act.put, setF, List.setIfInBounds_toArray, List.set_cons_zero, List.set_cons_succ])
      refine wpAnyH_done (by kernel_rfl) ?_ _
      clear hHeld
      go_wp2_with fail
      go_ret
      exact ⟨rfl, below_next hbd q6⟩
     rw [decide_eq_true hT, Bool.true_and] at HSI
     have qT : (rk.type != r0.type) = false := by simpa using hT
     clear hT
     rw [qT]
     repeat ((first | (refine tkF ?_ rfl (by kernel_rfl) (by rfl) (fun _ _ _ h => h) ?_ hHeld ?_; rotate_left; · (intro w hSw; (try dsimp only at hSw); go_simp <;> with_reducible rfl)) | refine skF rfl (by kernel_rfl) (by rfl) (fun _ _ _ h => h) hHeld ?_); simp only [Act.put, setF, List.setIfInBounds_toArray, List.set_cons_zero, List.set_cons_succ])
     by_cases hL : rk.ttl = r0.ttl
     rotate_left
     ·have qL : (rk.ttl != r0.ttl) = true := by simpa using hL
      have hR := unhide HXK (by rw [unhide HSI, decide_eq_false hL, Bool.false_and])
      subst hR
      clear hone HXK HSI hL
      rw [qL]
      repeat ((first | (refine tkF ?_ rfl (by kernel_rfl) (by rfl) (fun _ _ _ h => h) ?_ hHeld ?_; rotate_left; · (intro w hSw; (try dsimp only at hSw); go_simp <;> with_reducible rfl)) | refine skF rfl (by kernel_rfl) (by rfl) (fun _ _ _ h => h) hHeld ?_); simp only [Act.put, setF, List.setIfInBounds_toArray, List.set_cons_zero, List.set_cons_succ])
      refine wpAnyH_done (by kernel_rfl) ?_ _
      clear hHeld
      go_wp2_with fail
      go_ret
      exact ⟨rfl, below_next hbd q6⟩
     rw [decide_eq_true hL, Bool.true_and] at HSI
     have qL : (rk.ttl != r0.ttl) = false := by simpa using hL
     clear hL
     rw [qL]
     repeat ((first | (refine tkF ?_ rfl (by kernel_rfl) (by rfl) (fun _ _ _ h => h) ?_ hHeld ?_; rotate_left; · (intro w hSw; (try dsimp only at hSw); go_simp <;> with_reducible rfl)) | refine skF rfl (by kernel_rfl) (by rfl) (fun _ _ _ h => h) hHeld ?_); simp only [Act.put, setF, List.setIfInBounds_toArray, List.set_cons_zero, List.set_cons_succ])
     refine runI 56 rfl (by kernel_rfl) (by kernel_rfl) (fun K hK => ?_)
     have HK := hide hK
     clear hK hHeld
     go_simp
     refine (unhide L3 _ ((unhide HUP).below q6) ((unhide HU).below q6)).mono ?_
     rintro e w7 ⟨rfl, b7⟩
     have q7 := below_next q6 b7
     refine (unhide HK).out _ _ ⟨range7 (range_below (unhide HC) hbld q7), range7 (range_below (unhide HP) hbld q7), range7 (range_below (unhide H0) hbld q7)⟩ (fun hHeld => ?_)
     clear HK K
     simp only [List.setIfInBounds_toArray, List.set_cons_zero, List.set_cons_succ]
     by_cases hM : M < 0
     ·have HS := hide (unhide hone (by rw [unhide HSI, decide_eq_true hM]))
      have hM' : decide (0 ≤ M) = false := decide_eq_false (by omega)
      clear hone HXK HSI
      repeat ((first | (refine tkF ?_ rfl (by kernel_rfl) (by rfl) (fun _ _ _ h => h) ?_ hHeld ?_; rotate_left; · (intro w hSw; (try dsimp only at hSw); go_simp <;> with_reducible rfl)) | refine skF rfl (by kernel_rfl) (by rfl) (fun _ _ _ h => h) hHeld ?_); simp only [Act.put, setF, List.setIfInBounds_toArray, List.set_cons_zero, List.set_cons_succ])
      refine wpAnyH_done (by kernel_rfl) ?_ _
      clear hHeld
      clear hwr hsub
      go_wp2_with fail
      exact ⟨⟨k + 1, by omega, by go_num, hide (unhide HS), below_next hbd q7⟩, by simp [intOf]; omega⟩
     ·have hR := unhide HXK (by rw [unhide HSI, decide_eq_false hM])
      have hM' : decide (0 ≤ M) = true := decide_eq_true (by omega)
      have hM2 : 0 ≤ M := by omega
      subst hR
      clear hone HXK HSI hM
      repeat ((first | (refine tkF ?_ rfl (by kernel_rfl) (by rfl) (fun _ _ _ h => h) ?_ hHeld ?_; rotate_left; · (intro w hSw; (try dsimp only at hSw); go_simp <;> with_reducible rfl)) | refine skF rfl (by kernel_rfl) (by rfl) (fun _ _ _ h => h) hHeld ?_); simp only [Act.put, setF, List.setIfInBounds_toArray, List.set_cons_zero, List.set_cons_succ])
      refine wpAnyH_done (by kernel_rfl) ?_ _
      clear hHeld
      go_wp2_with fail
      go_ret
      exact ⟨rfl, below_next hbd q7⟩
  ·obtain rfl : k = n := by omega
   have hR := unhide HY (unhide hall)
   subst hR
   go_wp2_with fail
   go_ret
   exact ⟨rfl, hb⟩
end Go.Proofs.YtpolekinfobecaaGreat

namespace Go.Proofs.YtpolekinfobecaaGreat
open Go.RowKit
set_option linter.unusedVariables false

set_option maxHeartbeats 1000000 in
set_option maxRecDepth 100000 in
theorem l10ahead_has {vn vr un ur : Value} {a b : Slt} {w : World} (h : HasS2 w vn vr a) (h' : HasS2 w un ur b) (hs : a.name.length ≤ 1048576) (hs' : b.name.length ≤ 1048576) :
  Calls Tryz.prog 23 #[.agg #[vn, .int .i64 a.type, .int .i64 a.kind, vr, .int .i64 a.rank, .int .i64 a.till, .int .i64 a.used], .agg #[un, .int .i64 b.type, .int .i64 b.kind, ur, .int .i64 b.rank, .int .i64 b.till, .int .i64 b.used]] w fun e w' => e = .returned (.bool (aheadB a b)) ∧ Below w.heap.size w w' := by
 obtain ⟨na, nc, rfl, _⟩ := h.name.form
 obtain ⟨ra, rc, rfl, _⟩ := h.rrs.form
 obtain ⟨na', nc', rfl, _⟩ := h'.name.form
 obtain ⟨ra', rc', rfl, _⟩ := h'.rrs.form
 have b0 := below2 w (.cells #[.slice na a.name.length nc, .int .i64 a.type, .int .i64 a.kind, .slice ra a.rrs.length rc, .int .i64 a.rank, .int .i64 a.till, .int .i64 a.used] 47) (.cells #[.slice na' b.name.length nc', .int .i64 b.type, .int .i64 b.kind, .slice ra' b.rrs.length rc', .int .i64 b.rank, .int .i64 b.till, .int .i64 b.used] 47)
 obtain ⟨hsz, k0, x0⟩ := box2 w (.cells #[.slice na a.name.length nc, .int .i64 a.type, .int .i64 a.kind, .slice ra a.rrs.length rc, .int .i64 a.rank, .int .i64 a.till, .int .i64 a.used] 47) #[.slice na' b.name.length nc', .int .i64 b.type, .int .i64 b.kind, .slice ra' b.rrs.length rc', .int .i64 b.rank, .int .i64 b.till, .int .i64 b.used] 47
 have NC := l2cmp_has (h.below b0).name (h'.below b0).name hs hs'
 have KK := hide k0
 have XX := hide x0
 obtain ⟨d0, d1, d2, d3, d4, d5, d6⟩ := cells7 k0
 obtain ⟨f0, f1, f2, f3, f4, f5, f6⟩ := cells7 x0
 clear h h' k0 x0 hsz
 unfold aheadB
 generalize cmpN a.name b.name = N at *
 generalize a.type = T1 at *
 generalize b.type = T2 at *
 replace NC := hide NC
 by_cases e1 : N < 0
 ·rw [decide_eq_true e1, Bool.true_or]
  go_enter Tryz.func23, Tryz.ntmps23
  go_wp2_with fail
  clear d0 d1 d2 d3 d4 d5 d6 f0 f1 f2 f3 f4 f5 f6
  refine (unhide NC).mono ?_
  rintro e w1 ⟨rfl, b1⟩
  replace b0 := below_next b0 b1
  replace KK := hide (block_kept b1 (unhide KK))
  replace XX := hide (block_kept b1 (unhide XX))
  clear b1
  obtain ⟨d0, d1, d2, d3, d4, d5, d6⟩ := cells7 (unhide KK)
  obtain ⟨f0, f1, f2, f3, f4, f5, f6⟩ := cells7 (unhide XX)
  go_wp2_with fail
  go_ret
  exact ⟨rfl, b0⟩
 ·rw [decide_eq_false e1, Bool.false_or]
  have e1' : decide (N < 0) = false := decide_eq_false e1
  by_cases e2 : N = 0
  ·subst e2
   rw [decide_eq_true rfl, Bool.true_and]
   clear e1 e1'
   by_cases e3 : T1 < T2
   ·rw [decide_eq_true e3]
    go_enter Tryz.func23, Tryz.ntmps23
    go_wp2_with fail
    clear d0 d1 d2 d3 d4 d5 d6 f0 f1 f2 f3 f4 f5 f6
    refine (unhide NC).mono ?_
    rintro e w1 ⟨rfl, b1⟩
    replace b0 := below_next b0 b1
    replace KK := hide (block_kept b1 (unhide KK))
    replace XX := hide (block_kept b1 (unhide XX))
    clear b1
    obtain ⟨d0, d1, d2, d3, d4, d5, d6⟩ := cells7 (unhide KK)
    obtain ⟨f0, f1, f2, f3, f4, f5, f6⟩ := cells7 (unhide XX)
    go_wp2_with fail
    go_ret
    exact ⟨rfl, b0⟩
   ·rw [decide_eq_false e3]
    have e3' : decide (T1 < T2) = false := decide_eq_false e3
    go_enter Tryz.func23, Tryz.ntmps23
    go_wp2_with fail
    clear d0 d1 d2 d3 d4 d5 d6 f0 f1 f2 f3 f4 f5 f6
    refine (unhide NC).mono ?_
    rintro e w1 ⟨rfl, b1⟩
    replace b0 := below_next b0 b1
    replace KK := hide (block_kept b1 (unhide KK))
    replace XX := hide (block_kept b1 (unhide XX))
    clear b1
    obtain ⟨d0, d1, d2, d3, d4, d5, d6⟩ := cells7 (unhide KK)
    obtain ⟨f0, f1, f2, f3, f4, f5, f6⟩ := cells7 (unhide XX)
    go_wp2_with fail
    go_ret
    exact ⟨rfl, b0⟩
  ·rw [decide_eq_false e2, Bool.false_and]
   have q2 : (N == 0) = false := by rw [beq_eq_false_iff_ne]; exact e2
   clear e2
   go_enter Tryz.func23, Tryz.ntmps23
   go_wp2_with fail
   clear d0 d1 d2 d3 d4 d5 d6 f0 f1 f2 f3 f4 f5 f6
   refine (unhide NC).mono ?_
   rintro e w1 ⟨rfl, b1⟩
   replace b0 := below_next b0 b1
   replace KK := hide (block_kept b1 (unhide KK))
   replace XX := hide (block_kept b1 (unhide XX))
   clear b1
   obtain ⟨d0, d1, d2, d3, d4, d5, d6⟩ := cells7 (unhide KK)
   obtain ⟨f0, f1, f2, f3, f4, f5, f6⟩ := cells7 (unhide XX)
   go_wp2_with fail
   go_ret
   exact ⟨rfl, b0⟩
end Go.Proofs.YtpolekinfobecaaGreat
