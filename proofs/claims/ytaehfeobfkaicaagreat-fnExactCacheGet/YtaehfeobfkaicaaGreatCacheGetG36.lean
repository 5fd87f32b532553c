/-
  Contract of the specification's l10set. Contract of the specification's l10ahead.
-/
import Derived.Test.YtaehfeobfkaicaaGreatCacheGetG11
import Derived.Test.YtaehfeobfkaicaaGreatCacheGetG34
import Derived.Test.YtaehfeobfkaicaaGreatCacheGetG35
import Derived.Test.YtaehfeobfkaicaaGreatCacheGetG20
import Derived.Test.YtaehfeobfkaicaaGreatCacheGetG08
namespace Go.Proofs.YtaehfeobfkaicaaGreat
open Go.RowKit
set_option linter.unusedVariables false

set_option maxHeartbeats 16000000 in
set_option maxRecDepth 100000 in
theorem l10set_has {v : Value} {l : List Rec} {w : World} (h : HasRs w v l) (hsn : ∀ k, k < l.length → (l.getD k recZ).name.length ≤ 1048576) :
  Calls Tryz.prog 29 #[v] w fun e w' => e = .returned (.bool (setOk l)) ∧ Below w.heap.size w w' := by
 obtain ⟨a, cap, rfl, hcap, hmx⟩ := h.form
 unfold setOk
 by_cases hl0 : 1 ≤ l.length
 rotate_left
 ·rw [decide_eq_false hl0, Bool.false_and]
  clear h hsn
  generalize l.length = n at *
  obtain rfl : n = 0 := by omega
  go_enter Tryz.func29, Tryz.ntmps29
  go_wp2_with fail
  go_ret
  exact ⟨rfl, Below.refl _ _⟩
 rw [decide_eq_true hl0, Bool.true_and]
 by_cases hl12 : l.length ≤ 12
 rotate_left
 ·rw [decide_eq_false hl12, Bool.false_and]
  clear h hsn
  generalize l.length = n at *
  have h1 : ¬ (n : Int) < 1 := by omega
  have h2 : (12 : Int) < n := by omega
  clear hl0 hl12
  go_enter Tryz.func29, Tryz.ntmps29
  go_wp2_with fail
  go_ret
  exact ⟨rfl, Below.refl _ _⟩
 rw [decide_eq_true hl12, Bool.true_and]
 have HY := UC (fun (hs : ∀ j, j < l.length → setAt l j = true) => rangeAll_yes hs)
 have HX := UC (fun i (hi : i < l.length) (hs : setAt l i = false) => rangeAll_no hi hs)
 have HSN := UC hsn
 clear hsn
 unfold maxLen at hmx
 generalize (List.range l.length).all (setAt l) = R at *
 generalize hn : l.length = n at *
 have HN := UC hn
 have H := UC h
 clear hn h
 have h1 : ¬ (n : Int) < 1 := by omega
 have h2 : ¬ (12 : Int) < n := by omega
 go_enter Tryz.func29, Tryz.ntmps29
 go_wp2_with fail
 go_loopw [3] (fun i wr => ∃ k : Nat, k ≤ n ∧ i = .int .i64 k ∧ Hid (∀ j, j < k → setAt l j = true) ∧ Below w.heap.size w wr) (fun i _ => n - (intOf i).toNat)
 case atStart => exact ⟨0, Nat.zero_le _, rfl, UC (fun j hj => absurd hj (Nat.not_lt_zero _)), Below.refl _ _⟩
 case round =>
  clear h1 h2
  obtain ⟨k, hk, rfl, hall, hb⟩ := hrel
  by_cases hlt : k < n
  ·have hone := UC (fun (hs : setAt l k = true) => (show ∀ j, j < k + 1 → setAt l j = true from fun j hj => by
     by_cases e : j = k
     ·subst e; exact hs
     ·exact UB hall j (by omega)))
   have HSI := UC (show setAt l k = (rrOk (l.getD k recZ) && (decide (cmpN (l.getD k recZ).name (l.getD 0 recZ).name = 0) && (decide ((l.getD k recZ).type = (l.getD 0 recZ).type) && (decide ((l.getD k recZ).ttl = (l.getD 0 recZ).ttl) && (decide (k = 0) || decide (cmpR (l.getD (k - 1) recZ) (l.getD k recZ) < 0)))))) from rfl)
   have HXK := UC (UB HX k hlt)
   have hsk := UB HSN k hlt
   have hs0 := UB HSN 0 (by omega)
   have HPR := UC (fun (h : 0 < k) => setAt_rr (UB hall (k - 1) (by omega)))
   clear hall
   obtain ⟨b, off, na, nc, ta, tc, xa, xc, ia, ic, rfl, hbl, hc, hu⟩ := ((UB H).below hb).here (k := k) (by rw [UB HN]; exact hlt)
   obtain ⟨b'', off'', na0, nc0, ta0, tc0, xa0, xc0, ia0, ic0, hbe, hbl'', hz, hu0⟩ := ((UB H).below hb).here (k := 0) (by rw [UB HN]; omega)
   simp only [Option.some.injEq, Addr.mk.injEq, and_true] at hbe
   obtain ⟨rfl, rfl⟩ := hbe
   rw [Nat.zero_mul, Nat.add_zero] at hz
   have hn0 : (0 : Int) < n := by omega
   have hnp : 0 < n := by omega
   have hkn : (k : Int) < n := by omega
   have bd := UX (w := wr)
   have hbd := UG hb bd
   have HC := UC (UW hc hbl bd)
   have H0 := UC (UW hz hbl bd)
   have hbld : b < wr.drew.heap.size := hbl
   have HU := UC (hu.below bd)
   have HU0 := UC (hu0.below bd)
   generalize setAt l k = SI at *
   by_cases hk0 : k = 0
   ·subst hk0
    rw [Nat.zero_mul, Nat.add_zero] at HC
    have hsi2 : SI = rrOk (l.getD 0 recZ) := by rw [UB HSI, cmpN_self]; simp
    replace HSI := UC hsi2
    clear hc hz hu hu0 hb hbl hbl'' HPR hsi2
    generalize l.getD 0 recZ = rk at *
    clear H0 HU0
    have RO := specRrOk_has (UB HU)
    generalize rrOk rk = G1 at *
    replace RO := UC RO
    have LC := fun (w : World) (h1 : HasR w (.slice na rk.name.length nc) (.slice ta rk.to.length tc) (.slice xa rk.text.length xc) (.slice ia rk.nums.length ic) rk) (h2 : HasR w (.slice na rk.name.length nc) (.slice ta rk.to.length tc) (.slice xa rk.text.length xc) (.slice ia rk.nums.length ic) rk) => l2cmp_has h1.name h2.name hsk hs0
    rw [cmpN_self] at LC
    replace LC := UC LC
    go_wp2_with fail
    refine startF 60 (S := (fun w' => (w'.cell? ⟨b, off, none⟩ = some (.slice na rk.name.length nc) ∧ w'.cell? ⟨b, off + 1, none⟩ = some (.int .i64 rk.type) ∧ w'.cell? ⟨b, off + 2, none⟩ = some (.int .i64 rk.ttl) ∧ w'.cell? ⟨b, off + 3, none⟩ = some (.int .i64 rk.addr) ∧ w'.cell? ⟨b, off + 4, none⟩ = some (.slice ta rk.to.length tc) ∧ w'.cell? ⟨b, off + 5, none⟩ = some (.slice xa rk.text.length xc) ∧ w'.cell? ⟨b, off + 6, none⟩ = some (.slice ia rk.nums.length ic)))) (by kernel_rfl) rfl (VH (UB HC)) (fun hHeld => ?_)
    simp only [List.replicate]
    repeat ((first | (refine tkF ?_ rfl (by kernel_rfl) (by rfl) (fun _ _ _ h => h) ?_ hHeld ?_; rotate_left; · (intro w hSw; (try dsimp only at hSw); go_simp <;> with_reducible rfl)) | refine skF rfl (by kernel_rfl) (by rfl) (fun _ _ _ h => h) hHeld ?_); simp only [Act.put, setF, List.setIfInBounds_toArray, List.set_cons_zero, List.set_cons_succ])
    refine runI 4 rfl (by kernel_rfl) (by kernel_rfl) (fun K hK => ?_)
    have HK := UC hK
    clear hK hHeld
    go_simp
    refine (UB RO).mono ?_
    rintro e w5 ⟨rfl, b5⟩
    refine (UB HK).out _ _ (VH (UW (UB HC) hbld b5)) (fun hHeld => ?_)
    clear HK K
    simp only [List.setIfInBounds_toArray, List.set_cons_zero, List.set_cons_succ]
    cases G1 with
    | false =>
     have hR := UB HXK (UB HSI)
     subst hR
     repeat ((first | (refine tkF ?_ rfl (by kernel_rfl) (by rfl) (fun _ _ _ h => h) ?_ hHeld ?_; rotate_left; · (intro w hSw; (try dsimp only at hSw); go_simp <;> with_reducible rfl)) | refine skF rfl (by kernel_rfl) (by rfl) (fun _ _ _ h => h) hHeld ?_); simp only [Act.put, setF, List.setIfInBounds_toArray, List.set_cons_zero, List.set_cons_succ])
     refine wpAnyH_done (by kernel_rfl) ?_ _
     clear hHeld
     go_wp2_with fail
     go_ret
     exact ⟨rfl, UG hbd b5⟩
    | true =>
     have HS := UC (UB hone (UB HSI))
     clear hone HXK
     repeat ((first | (refine tkF ?_ rfl (by kernel_rfl) (by rfl) (fun _ _ _ h => h) ?_ hHeld ?_; rotate_left; · (intro w hSw; (try dsimp only at hSw); go_simp <;> with_reducible rfl)) | refine skF rfl (by kernel_rfl) (by rfl) (fun _ _ _ h => h) hHeld ?_); simp only [Act.put, setF, List.setIfInBounds_toArray, List.set_cons_zero, List.set_cons_succ])
     refine runI 16 rfl (by kernel_rfl) (by kernel_rfl) (fun K hK => ?_)
     have HK := UC hK
     clear hK hHeld
     go_simp
     refine (UB LC _ ((UB HU).below b5) ((UB HU).below b5)).mono ?_
     rintro e w6 ⟨rfl, b6⟩
     have q6 := UG b5 b6
     refine (UB HK).out _ _ (VH (UW (UB HC) hbld q6)) (fun hHeld => ?_)
     clear HK K
     simp only [List.setIfInBounds_toArray, List.set_cons_zero, List.set_cons_succ]
     repeat ((first | (refine tkF ?_ rfl (by kernel_rfl) (by rfl) (fun _ _ _ h => h) ?_ hHeld ?_; rotate_left; · (intro w hSw; (try dsimp only at hSw); go_simp <;> with_reducible rfl)) | refine skF rfl (by kernel_rfl) (by rfl) (fun _ _ _ h => h) hHeld ?_); simp only [Act.put, setF, List.setIfInBounds_toArray, List.set_cons_zero, List.set_cons_succ])
     refine wpAnyH_done (by kernel_rfl) ?_ _
     clear hHeld
     go_wp2_with fail
     exact ⟨⟨0 + 1, by omega, by go_num, UC (UB HS), UG hbd q6⟩, by simp [intOf]; omega⟩
   ·obtain ⟨k0, hke⟩ : ∃ k0, k = k0 + 1 := ⟨k - 1, by omega⟩
    rw [decide_eq_false hk0, Bool.false_or, show k - 1 = k0 by omega] at HSI
    have hpr := UB HPR (by omega)
    rw [show k - 1 = k0 by omega] at hpr
    obtain ⟨b', off', na', nc', ta', tc', xa', xc', ia', ic', hbe, hbl', hp, hu'⟩ := ((UB H).below hb).here (k := k0) (by rw [UB HN]; omega)
    simp only [Option.some.injEq, Addr.mk.injEq, and_true] at hbe
    obtain ⟨rfl, rfl⟩ := hbe
    have HP := UC (UW hp hbl bd)
    have HUP := UC (hu'.below bd)
    clear hc hz hp hu hu0 hu' hb hbl hbl' hbl'' HPR hk0
    generalize l.getD k recZ = rk at *
    generalize l.getD k0 recZ = rp at *
    generalize l.getD 0 recZ = r0 at *
    have hkp : (0 : Int) < (k : Nat) := by omega
    have hkpn : 0 < k := by omega
    have hsub : ((k : Nat) : Int) - 1 = (k0 : Nat) := by omega
    have hwr : IntKind.i64.wrap (k0 : Int) = (k0 : Nat) := by have := hlt; exact wrap_small k0 (by omega)
    have hkm : (k0 : Int) < n := by omega
    have HKE := UC hke
    clear hke
    have RO := specRrOk_has (UB HU)
    have L3 := fun (hr : rrOk rk = true) (w : World) (h1 : HasR w (.slice na' rp.name.length nc') (.slice ta' rp.to.length tc') (.slice xa' rp.text.length xc') (.slice ia' rp.nums.length ic') rp) (h2 : HasR w (.slice na rk.name.length nc) (.slice ta rk.to.length tc) (.slice xa rk.text.length xc) (.slice ia rk.nums.length ic) rk) => l3cmp_has h1 h2 hpr hr
    have LC := fun (w : World) (h1 : HasR w (.slice na rk.name.length nc) (.slice ta rk.to.length tc) (.slice xa rk.text.length xc) (.slice ia rk.nums.length ic) rk) (h2 : HasR w (.slice na0 r0.name.length nc0) (.slice ta0 r0.to.length tc0) (.slice xa0 r0.text.length xc0) (.slice ia0 r0.nums.length ic0) r0) => l2cmp_has h1.name h2.name hsk hs0
    generalize rrOk rk = G1 at *
    generalize cmpN rk.name r0.name = N at *
    generalize cmpR rp rk = M at *
    replace RO := UC RO
    replace LC := UC LC
    replace L3 := UC L3
    clear hpr hsk hs0
    go_wp2_with fail
    refine startF 60 (S := (fun w' => (w'.cell? ⟨b, off + k * 7, none⟩ = some (.slice na rk.name.length nc) ∧ w'.cell? ⟨b, off + k * 7 + 1, none⟩ = some (.int .i64 rk.type) ∧ w'.cell? ⟨b, off + k * 7 + 2, none⟩ = some (.int .i64 rk.ttl) ∧ w'.cell? ⟨b, off + k * 7 + 3, none⟩ = some (.int .i64 rk.addr) ∧ w'.cell? ⟨b, off + k * 7 + 4, none⟩ = some (.slice ta rk.to.length tc) ∧ w'.cell? ⟨b, off + k * 7 + 5, none⟩ = some (.slice xa rk.text.length xc) ∧ w'.cell? ⟨b, off + k * 7 + 6, none⟩ = some (.slice ia rk.nums.length ic)) ∧ (w'.cell? ⟨b, off + k0 * 7, none⟩ = some (.slice na' rp.name.length nc') ∧ w'.cell? ⟨b, off + k0 * 7 + 1, none⟩ = some (.int .i64 rp.type) ∧ w'.cell? ⟨b, off + k0 * 7 + 2, none⟩ = some (.int .i64 rp.ttl) ∧ w'.cell? ⟨b, off + k0 * 7 + 3, none⟩ = some (.int .i64 rp.addr) ∧ w'.cell? ⟨b, off + k0 * 7 + 4, none⟩ = some (.slice ta' rp.to.length tc') ∧ w'.cell? ⟨b, off + k0 * 7 + 5, none⟩ = some (.slice xa' rp.text.length xc') ∧ w'.cell? ⟨b, off + k0 * 7 + 6, none⟩ = some (.slice ia' rp.nums.length ic')) ∧ (w'.cell? ⟨b, off, none⟩ = some (.slice na0 r0.name.length nc0) ∧ w'.cell? ⟨b, off + 1, none⟩ = some (.int .i64 r0.type) ∧ w'.cell? ⟨b, off + 2, none⟩ = some (.int .i64 r0.ttl) ∧ w'.cell? ⟨b, off + 3, none⟩ = some (.int .i64 r0.addr) ∧ w'.cell? ⟨b, off + 4, none⟩ = some (.slice ta0 r0.to.length tc0) ∧ w'.cell? ⟨b, off + 5, none⟩ = some (.slice xa0 r0.text.length xc0) ∧ w'.cell? ⟨b, off + 6, none⟩ = some (.slice ia0 r0.nums.length ic0)))) (by kernel_rfl) rfl ⟨VH (UB HC), VH (UB HP), VH (UB H0)⟩ (fun hHeld => ?_)
    simp only [List.replicate]
    repeat ((first | (refine tkF ?_ rfl (by kernel_rfl) (by rfl) (fun _ _ _ h => h) ?_ hHeld ?_; rotate_left; · (intro w hSw; (try dsimp only at hSw); go_simp <;> with_reducible rfl)) | refine skF rfl (by kernel_rfl) (by rfl) (fun _ _ _ h => h) hHeld ?_); simp only [Act.put, setF, List.setIfInBounds_toArray, List.set_cons_zero, List.set_cons_succ])
    refine runI 4 rfl (by kernel_rfl) (by kernel_rfl) (fun K hK => ?_)
    have HK := UC hK
    clear hK hHeld
    go_simp
    refine (UB RO).mono ?_
    rintro e w5 ⟨rfl, b5⟩
    refine (UB HK).out _ _ ⟨VH (UW (UB HC) hbld b5), VH (UW (UB HP) hbld b5), VH (UW (UB H0) hbld b5)⟩ (fun hHeld => ?_)
    clear HK K
    simp only [List.setIfInBounds_toArray, List.set_cons_zero, List.set_cons_succ]
    cases G1 with
    | false =>
     have hR := UB HXK (by rw [UB HSI, Bool.false_and])
     subst hR
     repeat ((first | (refine tkF ?_ rfl (by kernel_rfl) (by rfl) (fun _ _ _ h => h) ?_ hHeld ?_; rotate_left; · (intro w hSw; (try dsimp only at hSw); go_simp <;> with_reducible rfl)) | refine skF rfl (by kernel_rfl) (by rfl) (fun _ _ _ h => h) hHeld ?_); simp only [Act.put, setF, List.setIfInBounds_toArray, List.set_cons_zero, List.set_cons_succ])
     refine wpAnyH_done (by kernel_rfl) ?_ _
     clear hHeld
     go_wp2_with fail
     go_ret
     exact ⟨rfl, UG hbd b5⟩
    | true =>
     replace L3 := UC (UB L3 rfl)
     rw [Bool.true_and] at HSI
     repeat ((first | (refine tkF ?_ rfl (by kernel_rfl) (by rfl) (fun _ _ _ h => h) ?_ hHeld ?_; rotate_left; · (intro w hSw; (try dsimp only at hSw); go_simp <;> with_reducible rfl)) | refine skF rfl (by kernel_rfl) (by rfl) (fun _ _ _ h => h) hHeld ?_); simp only [Act.put, setF, List.setIfInBounds_toArray, List.set_cons_zero, List.set_cons_succ])
     refine runI 16 rfl (by kernel_rfl) (by kernel_rfl) (fun K hK => ?_)
     have HK := UC hK
     clear hK hHeld
     go_simp
     refine (UB LC _ ((UB HU).below b5) ((UB HU0).below b5)).mono ?_
     rintro e w6 ⟨rfl, b6⟩
     have q6 := UG b5 b6
     refine (UB HK).out _ _ ⟨VH (UW (UB HC) hbld q6), VH (UW (UB HP) hbld q6), VH (UW (UB H0) hbld q6)⟩ (fun hHeld => ?_)
     clear HK K
     simp only [List.setIfInBounds_toArray, List.set_cons_zero, List.set_cons_succ]
     by_cases hN : N = 0
     rotate_left
     ·have qN : (N != 0) = true := by simpa using hN
      have hR := UB HXK (by rw [UB HSI, decide_eq_false hN, Bool.false_and])
      subst hR
      clear hone HXK HSI hN
      repeat ((first | (refine tkF ?_ rfl (by kernel_rfl) (by rfl) (fun _ _ _ h => h) ?_ hHeld ?_; rotate_left; · (intro w hSw; (try dsimp only at hSw); go_simp <;> with_reducible rfl)) | refine skF rfl (by kernel_rfl) (by rfl) (fun _ _ _ h => h) hHeld ?_); simp only [Act.put, setF, List.setIfInBounds_toArray, List.set_cons_zero, List.set_cons_succ])
      refine wpAnyH_done (by kernel_rfl) ?_ _
      clear hHeld
      go_wp2_with fail
      go_ret
      exact ⟨rfl, UG hbd q6⟩
     subst hN
     rw [decide_eq_true rfl, Bool.true_and] at HSI
     repeat ((first | (refine tkF ?_ rfl (by kernel_rfl) (by rfl) (fun _ _ _ h => h) ?_ hHeld ?_; rotate_left; · (intro w hSw; (try dsimp only at hSw); go_simp <;> with_reducible rfl)) | refine skF rfl (by kernel_rfl) (by rfl) (fun _ _ _ h => h) hHeld ?_); simp only [Act.put, setF, List.setIfInBounds_toArray, List.set_cons_zero, List.set_cons_succ])
     by_cases hT : rk.type = r0.type
     rotate_left
     ·have qT : (rk.type != r0.type) = true := by simpa using hT
      have hR := UB HXK (by rw [UB HSI, decide_eq_false hT, Bool.false_and])
      subst hR
      clear hone HXK HSI hT
      rw [qT]
      repeat ((first | (refine tkF ?_ rfl (by kernel_rfl) (by rfl) (fun _ _ _ h => h) ?_ hHeld ?_; rotate_left; · (intro w hSw; (try dsimp only at hSw); go_simp <;> with_reducible rfl)) | refine skF rfl (by kernel_rfl) (by rfl) (fun _ _ _ h => h) hHeld ?_); simp only [Act.put, setF, List.setIfInBounds_toArray, List.set_cons_zero, List.set_cons_succ])
      refine wpAnyH_done (by kernel_rfl) ?_ _
      clear hHeld
      go_wp2_with fail
      go_ret
      exact ⟨rfl, UG hbd q6⟩
     rw [decide_eq_true hT, Bool.true_and] at HSI
     have qT : (rk.type != r0.type) = false := by simpa using hT
     clear hT
     rw [qT]
     repeat ((first | (refine tkF ?_ rfl (by kernel_rfl) (by rfl) (fun _ _ _ h => h) ?_ hHeld ?_; rotate_left; · (intro w hSw; (try dsimp only at hSw); go_simp <;> with_reducible rfl)) | refine skF rfl (by kernel_rfl) (by rfl) (fun _ _ _ h => h) hHeld ?_); simp only [Act.put, setF, List.setIfInBounds_toArray, List.set_cons_zero, List.set_cons_succ])
     by_cases hL : rk.ttl = r0.ttl
     rotate_left
     ·have qL : (rk.ttl != r0.ttl) = true := by simpa using hL
      have hR := UB HXK (by rw [UB HSI, decide_eq_false hL, Bool.false_and])
      subst hR
      clear hone HXK HSI hL
      rw [qL]
      repeat ((first | (refine tkF ?_ rfl (by kernel_rfl) (by rfl) (fun _ _ _ h => h) ?_ hHeld ?_; rotate_left; · (intro w hSw; (try dsimp only at hSw); go_simp <;> with_reducible rfl)) | refine skF rfl (by kernel_rfl) (by rfl) (fun _ _ _ h => h) hHeld ?_); simp only [Act.put, setF, List.setIfInBounds_toArray, List.set_cons_zero, List.set_cons_succ])
      refine wpAnyH_done (by kernel_rfl) ?_ _
      clear hHeld
      go_wp2_with fail
      go_ret
      exact ⟨rfl, UG hbd q6⟩
     rw [decide_eq_true hL, Bool.true_and] at HSI
     have qL : (rk.ttl != r0.ttl) = false := by simpa using hL
     clear hL
     rw [qL]
     repeat ((first | (refine tkF ?_ rfl (by kernel_rfl) (by rfl) (fun _ _ _ h => h) ?_ hHeld ?_; rotate_left; · (intro w hSw; (try dsimp only at hSw); go_simp <;> with_reducible rfl)) | refine skF rfl (by kernel_rfl) (by rfl) (fun _ _ _ h => h) hHeld ?_); simp only [Act.put, setF, List.setIfInBounds_toArray, List.set_cons_zero, List.set_cons_succ])
     refine runI 56 rfl (by kernel_rfl) (by kernel_rfl) (fun K hK => ?_)
     have HK := UC hK
     clear hK hHeld
     go_simp
     refine (UB L3 _ ((UB HUP).below q6) ((UB HU).below q6)).mono ?_
     rintro e w7 ⟨rfl, b7⟩
     have q7 := UG q6 b7
     refine (UB HK).out _ _ ⟨VH (UW (UB HC) hbld q7), VH (UW (UB HP) hbld q7), VH (UW (UB H0) hbld q7)⟩ (fun hHeld => ?_)
     clear HK K
     simp only [List.setIfInBounds_toArray, List.set_cons_zero, List.set_cons_succ]
     by_cases hM : M < 0
     ·have HS := UC (UB hone (by rw [UB HSI, decide_eq_true hM]))
      have hM' : decide (0 ≤ M) = false := decide_eq_false (by omega)
      clear hone HXK HSI
      repeat ((first | (refine tkF ?_ rfl (by kernel_rfl) (by rfl) (fun _ _ _ h => h) ?_ hHeld ?_; rotate_left; · (intro w hSw; (try dsimp only at hSw); go_simp <;> with_reducible rfl)) | refine skF rfl (by kernel_rfl) (by rfl) (fun _ _ _ h => h) hHeld ?_); simp only [Act.put, setF, List.setIfInBounds_toArray, List.set_cons_zero, List.set_cons_succ])
      refine wpAnyH_done (by kernel_rfl) ?_ _
      clear hHeld
      clear hwr hsub
      go_wp2_with fail
      exact ⟨⟨k + 1, by omega, by go_num, UC (UB HS), UG hbd q7⟩, by simp [intOf]; omega⟩
     ·have hR := UB HXK (by rw [UB HSI, decide_eq_false hM])
      have hM' : decide (0 ≤ M) = true := decide_eq_true (by omega)
      have hM2 : 0 ≤ M := by omega
      subst hR
      clear hone HXK HSI hM
      repeat ((first | (refine tkF ?_ rfl (by kernel_rfl) (by rfl) (fun _ _ _ h => h) ?_ hHeld ?_; rotate_left; · (intro w hSw; (try dsimp only at hSw); go_simp <;> with_reducible rfl)) | refine skF rfl (by kernel_rfl) (by rfl) (fun _ _ _ h => h) hHeld ?_); simp only [Act.put, setF, List.setIfInBounds_toArray, List.set_cons_zero, List.set_cons_succ])
      refine wpAnyH_done (by kernel_rfl) ?_ _
      clear hHeld
      go_wp2_with fail
      go_ret
      exact ⟨rfl, UG hbd q7⟩
  ·obtain rfl : k = n := by omega
   have hR := UB HY (UB hall)
   subst hR
   go_wp2_with fail
   go_ret
   exact ⟨rfl, hb⟩
set_option maxHeartbeats 1000000 in
set_option maxRecDepth 100000 in
theorem l10ahead_has {vn vr un ur : Value} {a b : Slt} {w : World} (h : HasS2 w vn vr a) (h' : HasS2 w un ur b) (hs : a.name.length ≤ 1048576) (hs' : b.name.length ≤ 1048576) :
  Calls Tryz.prog 69 #[.agg #[vn, .int .i64 a.type, .int .i64 a.kind, vr, .int .i64 a.rank, .int .i64 a.till, .int .i64 a.used], .agg #[un, .int .i64 b.type, .int .i64 b.kind, ur, .int .i64 b.rank, .int .i64 b.till, .int .i64 b.used]] w fun e w' => e = .returned (.bool (aheadB a b)) ∧ Below w.heap.size w w' := by
 obtain ⟨na, nc, rfl, _⟩ := h.name.form
 obtain ⟨ra, rc, rfl, _⟩ := h.rrs.form
 obtain ⟨na', nc', rfl, _⟩ := h'.name.form
 obtain ⟨ra', rc', rfl, _⟩ := h'.rrs.form
 have b0 := below2 w (.cells #[.slice na a.name.length nc, .int .i64 a.type, .int .i64 a.kind, .slice ra a.rrs.length rc, .int .i64 a.rank, .int .i64 a.till, .int .i64 a.used] 71) (.cells #[.slice na' b.name.length nc', .int .i64 b.type, .int .i64 b.kind, .slice ra' b.rrs.length rc', .int .i64 b.rank, .int .i64 b.till, .int .i64 b.used] 71)
 obtain ⟨hsz, k0, x0⟩ := box2 w (.cells #[.slice na a.name.length nc, .int .i64 a.type, .int .i64 a.kind, .slice ra a.rrs.length rc, .int .i64 a.rank, .int .i64 a.till, .int .i64 a.used] 71) #[.slice na' b.name.length nc', .int .i64 b.type, .int .i64 b.kind, .slice ra' b.rrs.length rc', .int .i64 b.rank, .int .i64 b.till, .int .i64 b.used] 71
 have NC := l2cmp_has (h.below b0).name (h'.below b0).name hs hs'
 have KK := UC k0
 have XX := UC x0
 obtain ⟨d0, d1, d2, d3, d4, d5, d6⟩ := UJ k0
 obtain ⟨f0, f1, f2, f3, f4, f5, f6⟩ := UJ x0
 clear h h' k0 x0 hsz
 unfold aheadB
 generalize cmpN a.name b.name = N at *
 generalize a.type = T1 at *
 generalize b.type = T2 at *
 replace NC := UC NC
 by_cases e1 : N < 0
 ·rw [decide_eq_true e1, Bool.true_or]
  go_enter Tryz.func69, Tryz.ntmps69
  go_wp2_with fail
  clear d0 d1 d2 d3 d4 d5 d6 f0 f1 f2 f3 f4 f5 f6
  refine (UB NC).mono ?_
  rintro e w1 ⟨rfl, b1⟩
  replace b0 := UG b0 b1
  replace KK := UC (UE b1 (UB KK))
  replace XX := UC (UE b1 (UB XX))
  clear b1
  obtain ⟨d0, d1, d2, d3, d4, d5, d6⟩ := UJ (UB KK)
  obtain ⟨f0, f1, f2, f3, f4, f5, f6⟩ := UJ (UB XX)
  go_wp2_with fail
  go_ret
  exact ⟨rfl, b0⟩
 ·rw [decide_eq_false e1, Bool.false_or]
  have e1' : decide (N < 0) = false := decide_eq_false e1
  by_cases e2 : N = 0
  ·subst e2
   rw [decide_eq_true rfl, Bool.true_and]
   clear e1 e1'
   by_cases e3 : T1 < T2
   ·rw [decide_eq_true e3]
    go_enter Tryz.func69, Tryz.ntmps69
    go_wp2_with fail
    clear d0 d1 d2 d3 d4 d5 d6 f0 f1 f2 f3 f4 f5 f6
    refine (UB NC).mono ?_
    rintro e w1 ⟨rfl, b1⟩
    replace b0 := UG b0 b1
    replace KK := UC (UE b1 (UB KK))
    replace XX := UC (UE b1 (UB XX))
    clear b1
    obtain ⟨d0, d1, d2, d3, d4, d5, d6⟩ := UJ (UB KK)
    obtain ⟨f0, f1, f2, f3, f4, f5, f6⟩ := UJ (UB XX)
    go_wp2_with fail
    go_ret
    exact ⟨rfl, b0⟩
   ·rw [decide_eq_false e3]
    have e3' : decide (T1 < T2) = false := decide_eq_false e3
    go_enter Tryz.func69, Tryz.ntmps69
    go_wp2_with fail
    clear d0 d1 d2 d3 d4 d5 d6 f0 f1 f2 f3 f4 f5 f6
    refine (UB NC).mono ?_
    rintro e w1 ⟨rfl, b1⟩
    replace b0 := UG b0 b1
    replace KK := UC (UE b1 (UB KK))
    replace XX := UC (UE b1 (UB XX))
    clear b1
    obtain ⟨d0, d1, d2, d3, d4, d5, d6⟩ := UJ (UB KK)
    obtain ⟨f0, f1, f2, f3, f4, f5, f6⟩ := UJ (UB XX)
    go_wp2_with fail
    go_ret
    exact ⟨rfl, b0⟩
  ·rw [decide_eq_false e2, Bool.false_and]
   have q2 : (N == 0) = false := by rw [beq_eq_false_iff_ne]; exact e2
   clear e2
   go_enter Tryz.func69, Tryz.ntmps69
   go_wp2_with fail
   clear d0 d1 d2 d3 d4 d5 d6 f0 f1 f2 f3 f4 f5 f6
   refine (UB NC).mono ?_
   rintro e w1 ⟨rfl, b1⟩
   replace b0 := UG b0 b1
   replace KK := UC (UE b1 (UB KK))
   replace XX := UC (UE b1 (UB XX))
   clear b1
   obtain ⟨d0, d1, d2, d3, d4, d5, d6⟩ := UJ (UB KK)
   obtain ⟨f0, f1, f2, f3, f4, f5, f6⟩ := UJ (UB XX)
   go_wp2_with fail
   go_ret
   exact ⟨rfl, b0⟩
end Go.Proofs.YtaehfeobfkaicaaGreat
