/-
  Contract of the program's ZoneOk.
-/
import Derived.Test.YtfneahdnpmamkaaGreatFnOwnersG39
namespace Go.Proofs.YtfneahdnpmamkaaGreat
open Go.RowKit
set_option linter.unusedVariables false

theorem Wl (n : Nat) : (((n : Nat) : Int) == 1) = decide (n = 1) := by
 rw [Bool.eq_iff_iff, beq_iff_eq, decide_eq_true_iff]
 omega

set_option maxHeartbeats 1600000 in
set_option maxRecDepth 100000 in
theorem D8 {vo vr : Value} {o : List (List Int)} {rs : List Rec} {w : World} (h : HasZ w vo vr o rs) :
  Calls Tryz.prog 17 #[.agg #[vo, vr]] w fun e w' => e = .returned (.bool (Ar o rs)) ∧ Below w.heap.size w w' := by
 obtain ⟨oa, oc, rfl, _⟩ := h.name.form
 obtain ⟨ra, rc, rfl, hrl, hrm⟩ := h.recs.form
 have b0 := UI (w := w) (.cells #[.slice oa o.length oc, .slice ra rs.length rc] 28)
 have k0 := heap_alloc_new w (.cells #[.slice oa o.length oc, .slice ra rs.length rc] 28)
 have H0 := UC (h.below b0)
 have K0 := UC k0
 have NO := VP (h.below b0).name
 clear h k0 hrl hrm
 cases hok : Ag o with
 | false =>
  rw [Lk hok]
  rw [hok] at NO
  replace NO := UC NO
  clear hok
  go_enter Tryz.func17, Tryz.ntmps17
  go_wp2_with fail
  refine (UB NO).mono ?_
  rintro e w1 ⟨rfl, b1⟩
  go_wp2_with fail
  go_ret
  exact ⟨rfl, UG b0 b1⟩
 | true =>
  rw [hok] at NO
  replace NO := UC NO
  by_cases h60 : rs.length ≤ 60
  ·generalize hzz : Ar o rs = ZZ
   have HZZ := UC hzz
   have HOK := UC hok
   clear hzz hok
   go_enter Tryz.func17, Tryz.ntmps17
   go_wp2_with fail
   generalize w.alloc (.cells #[.slice oa o.length oc, .slice ra rs.length rc] 28) = W at *
   refine (UB NO).mono ?_
   rintro e w1 ⟨rfl, b1⟩
   have K1 := UC (UE b1 (UB K0))
   have H1 := UC ((UB H0).below b1)
   have bb1 := UG b0 b1
   obtain ⟨d0, d1⟩ := UM (UB K1)
   clear NO K0 H0 b0 b1
   generalize hn : rs.length = m at *
   have HN := UC hn
   clear hn
   have h60' : ¬ ((60 : Int) < m) := by omega
   go_wp2_with fail
   clear d0 d1
   go_loopw [3, 19] (fun s i wr => ∃ (k : Nat), k ≤ m ∧ i = .int .i64 k ∧ s = .int .i64 (soas rs k : Nat) ∧ Hid (∀ j, j < k → Fj o rs j = true) ∧ Below w1.heap.size w1 wr) (fun _ i _ => m - (intOf i).toNat)
   case atStart => exact ⟨0, Nat.zero_le _, rfl, rfl, UC (fun j hj => absurd hj (Nat.not_lt_zero _)), Below.refl _ _⟩
   case round =>
    obtain ⟨k, hk, rfl, rfl, hall, hb⟩ := hrel
    have hsk := Me rs k
    by_cases hlt : k < m
    ·obtain ⟨b, off, na, nc, ta, tc, xa, xc, ia, ic, rfl, hbl, hc, hu⟩ := ((UB H1).below hb).recs.here (k := k) (by rw [UB HN]; exact hlt)
     have K2 := UC (UE hb (UB K1))
     have H2 := UC ((UB H1).below hb)
     have bb2 := UG bb1 hb
     have hgood : Fj o rs k = (Ji o (rs.getD k recZ) && (decide (k = 0) || follows (rs.getD (k - 1) recZ) (rs.getD k recZ))) := rfl
     have HGOOD := UC hgood
     have hsoa : soas rs (k + 1) = soas rs k + if (rs.getD k recZ).type = 6 then 1 else 0 := rfl
     have HSOA := UC hsoa
     clear hgood hsoa
     generalize hrk : rs.getD k recZ = rk at *
     have HRK := UC hrk
     clear hrk
     have b3 := UI (w := wr) (.cells #[.slice na rk.name.length nc, .int .i64 rk.type, .int .i64 rk.ttl, .int .i64 rk.addr, .slice ta rk.to.length tc, .slice xa rk.text.length xc, .slice ia rk.nums.length ic] 39)
     have X3 := heap_alloc_new wr (.cells #[.slice na rk.name.length nc, .int .i64 rk.type, .int .i64 rk.ttl, .int .i64 rk.addr, .slice ta rk.to.length tc, .slice xa rk.text.length xc, .slice ia rk.nums.length ic] 39)
     have bd := UX (w := wr.alloc (.cells #[.slice na rk.name.length nc, .int .i64 rk.type, .int .i64 rk.ttl, .int .i64 rk.addr, .slice ta rk.to.length tc, .slice xa rk.text.length xc, .slice ia rk.nums.length ic] 39))
     have b4 := UG b3 bd
     have X4 := UC (UE bd X3)
     have K4 := UC (UE b4 (UB K2))
     have H4 := UC ((UB H2).below b4)
     have U4 := UC (hu.below b4)
     have bb4 := UG bb2 b4
     have bw4 := UG hb b4
     have z4 := b4.size
     obtain ⟨c0, c1, c2, c3, c4, c5, c6⟩ := VH hc
     clear b3 X3 bd b4 hu hc K2 H2 hb
     cases hin : Ji o rk with
     | false =>
      have hbad : Fj o rs k = false := by rw [UB HGOOD, hin, Bool.false_and]
      have hz := Nl (by rw [UB HN]; exact hlt) hbad
      rw [UB HZZ] at hz
      subst hz
      have MB := L0 (UB H4).name (UB U4)
      rw [hin] at MB
      replace MB := UC MB
      clear hbad hin HGOOD HZZ HSOA
      go_wp2_with fail
      clear c0 c1 c2 c3 c4 c5 c6
      refine wp_region_held_drew (S := (fun w' => (w'.cell? ⟨w.heap.size, 0, none⟩ = some (.slice oa o.length oc) ∧ w'.cell? ⟨w.heap.size, 1, none⟩ = some (.slice (some ⟨b, off, none⟩) m rc)) ∧ (w'.cell? ⟨wr.heap.size, 0, none⟩ = some (.slice na rk.name.length nc) ∧ w'.cell? ⟨wr.heap.size, 1, none⟩ = some (.int .i64 rk.type) ∧ w'.cell? ⟨wr.heap.size, 2, none⟩ = some (.int .i64 rk.ttl) ∧ w'.cell? ⟨wr.heap.size, 3, none⟩ = some (.int .i64 rk.addr) ∧ w'.cell? ⟨wr.heap.size, 4, none⟩ = some (.slice ta rk.to.length tc) ∧ w'.cell? ⟨wr.heap.size, 5, none⟩ = some (.slice xa rk.text.length xc) ∧ w'.cell? ⟨wr.heap.size, 6, none⟩ = some (.slice ia rk.nums.length ic)))) (by kernel_rfl) ⟨UM (UB K4), UJ (UB X4)⟩ (fun hHeld => ?_)
      show wpAnyH _ _ _ _ _ 20 #[false, false, false, false, false, false, false, false, false, false, false, false, false, false, false, false, false, false, false, false] _ _
      iterate 3 (refine tkF ?_ rfl (by kernel_rfl) (by kernel_rfl) (fun _ _ _ h => h) ?_ hHeld ?_; rotate_left; (· (intro w hSw; (try dsimp only at hSw); go_simp <;> with_reducible rfl)); simp only [Act.put, setF, List.setIfInBounds_toArray, List.set_cons_zero, List.set_cons_succ])
      refine runI 3 rfl (by kernel_rfl) (by kernel_rfl) (fun K hK => ?_)
      have HK := UC hK
      clear hK hHeld
      go_simp
      refine (UB MB).mono ?_
      rintro e w5 ⟨rfl, b5⟩
      go_simp
      refine (UB HK).out _ _ ⟨UM (UE b5 (UB K4)), UJ (UE b5 (UB X4))⟩ (fun hHeld => ?_)
      clear HK K
      try simp only [List.setIfInBounds_toArray, List.set_cons_zero, List.set_cons_succ]
      iterate 2 (refine tkF ?_ rfl (by kernel_rfl) (by kernel_rfl) (fun _ _ _ h => h) ?_ hHeld ?_; rotate_left; (· (intro w hSw; (try dsimp only at hSw); go_simp <;> with_reducible rfl)); simp only [Act.put, setF, List.setIfInBounds_toArray, List.set_cons_zero, List.set_cons_succ])
      iterate 13 (refine skF rfl (by kernel_rfl) (by kernel_rfl) (fun _ _ _ h => h) hHeld ?_; simp only [Act.put, setF, List.setIfInBounds_toArray, List.set_cons_zero, List.set_cons_succ])
      refine tkF ?_ rfl (by kernel_rfl) (by kernel_rfl) (fun _ _ _ h => h) ?_ hHeld ?_; rotate_left; (· (intro w hSw; (try dsimp only at hSw); go_simp <;> with_reducible rfl)); simp only [Act.put, setF, List.setIfInBounds_toArray, List.set_cons_zero, List.set_cons_succ]
      refine wpAnyH_done (by kernel_rfl) ?_ _
      clear hHeld
      go_wp2_with fail
      go_ret
      exact ⟨rfl, UG bb4 b5⟩
     | true =>
      have MB := L0 (UB H4).name (UB U4)
      rw [hin] at MB
      replace MB := UC MB
      have hstep : ∀ (hg : Fj o rs k = true), ∀ j, j < k + 1 → Fj o rs j = true := fun hg j hj => by
       by_cases e : j = k
       ·subst e; exact hg
       ·exact UB hall j (by omega)
      have HSTEP := UC hstep
      clear hstep
      by_cases hk0 : k = 0
      ·have hgd : Fj o rs k = true := by rw [UB HGOOD, hin, Bool.true_and, decide_eq_true hk0, Bool.true_or]
       have HGD := UC hgd
       clear hgd hin HGOOD
       subst hk0
       simp only [Nat.zero_mul, Nat.add_zero] at c0 c1 c2 c3 c4 c5 c6
       go_wp2_with fail
       clear c0 c1 c2 c3 c4 c5 c6
       refine wp_region_held_drew (S := (fun w' => (w'.cell? ⟨w.heap.size, 0, none⟩ = some (.slice oa o.length oc) ∧ w'.cell? ⟨w.heap.size, 1, none⟩ = some (.slice (some ⟨b, off, none⟩) m rc)) ∧ (w'.cell? ⟨wr.heap.size, 0, none⟩ = some (.slice na rk.name.length nc) ∧ w'.cell? ⟨wr.heap.size, 1, none⟩ = some (.int .i64 rk.type) ∧ w'.cell? ⟨wr.heap.size, 2, none⟩ = some (.int .i64 rk.ttl) ∧ w'.cell? ⟨wr.heap.size, 3, none⟩ = some (.int .i64 rk.addr) ∧ w'.cell? ⟨wr.heap.size, 4, none⟩ = some (.slice ta rk.to.length tc) ∧ w'.cell? ⟨wr.heap.size, 5, none⟩ = some (.slice xa rk.text.length xc) ∧ w'.cell? ⟨wr.heap.size, 6, none⟩ = some (.slice ia rk.nums.length ic)))) (by kernel_rfl) ⟨UM (UB K4), UJ (UB X4)⟩ (fun hHeld => ?_)
       show wpAnyH _ _ _ _ _ 20 #[false, false, false, false, false, false, false, false, false, false, false, false, false, false, false, false, false, false, false, false] _ _
       iterate 3 (refine tkF ?_ rfl (by kernel_rfl) (by kernel_rfl) (fun _ _ _ h => h) ?_ hHeld ?_; rotate_left; (· (intro w hSw; (try dsimp only at hSw); go_simp <;> with_reducible rfl)); simp only [Act.put, setF, List.setIfInBounds_toArray, List.set_cons_zero, List.set_cons_succ])
       refine runI 3 rfl (by kernel_rfl) (by kernel_rfl) (fun K hK => ?_)
       have HK := UC hK
       clear hK hHeld
       go_simp
       refine (UB MB).mono ?_
       rintro e w5 ⟨rfl, b5⟩
       go_simp
       refine (UB HK).out _ _ ⟨UM (UE b5 (UB K4)), UJ (UE b5 (UB X4))⟩ (fun hHeld => ?_)
       clear HK K
       try simp only [List.setIfInBounds_toArray, List.set_cons_zero, List.set_cons_succ]
       iterate 2 (refine tkF ?_ rfl (by kernel_rfl) (by kernel_rfl) (fun _ _ _ h => h) ?_ hHeld ?_; rotate_left; (· (intro w hSw; (try dsimp only at hSw); go_simp <;> with_reducible rfl)); simp only [Act.put, setF, List.setIfInBounds_toArray, List.set_cons_zero, List.set_cons_succ])
       refine tkF (.int .i64 0) rfl (by kernel_rfl) (by kernel_rfl) (fun _ _ _ h => h) ?_ hHeld ?_; (· (intro w hSw; (try dsimp only at hSw); go_simp)); simp only [Act.put, setF, List.setIfInBounds_toArray, List.set_cons_zero, List.set_cons_succ]
       refine tkF (.bool false) rfl (by kernel_rfl) (by kernel_rfl) (fun _ _ _ h => h) ?_ hHeld ?_; (· (intro w hSw; (try dsimp only at hSw); go_simp)); simp only [Act.put, setF, List.setIfInBounds_toArray, List.set_cons_zero, List.set_cons_succ]
       refine tkF (.bool false) rfl (by kernel_rfl) (by kernel_rfl) (fun _ _ _ h => h) ?_ hHeld ?_; (· (intro w hSw; (try dsimp only at hSw); go_simp)); simp only [Act.put, setF, List.setIfInBounds_toArray, List.set_cons_zero, List.set_cons_succ]
       iterate 9 (refine skF rfl (by kernel_rfl) (by kernel_rfl) (fun _ _ _ h => h) hHeld ?_; simp only [Act.put, setF, List.setIfInBounds_toArray, List.set_cons_zero, List.set_cons_succ])
       iterate 2 (refine tkF ?_ rfl (by kernel_rfl) (by kernel_rfl) (fun _ _ _ h => h) ?_ hHeld ?_; rotate_left; (· (intro w hSw; (try dsimp only at hSw); go_simp <;> with_reducible rfl)); simp only [Act.put, setF, List.setIfInBounds_toArray, List.set_cons_zero, List.set_cons_succ])
       refine wpAnyH_done (by kernel_rfl) ?_ _
       clear hHeld
       have hgd := UB HGD
       clear HGD
       have bw5 := UG bw4 b5
       have X5 := UC (UE b5 (UB X4))
       clear b5 bw4 X4 K4 MB H4 U4
       have hsoa := UB HSOA
       clear HSOA
       obtain ⟨p0, p1, p2, p3, p4, p5, p6⟩ := UJ (UB X5)
       by_cases h6 : rk.type = 6
       ·rw [if_pos h6] at hsoa
        have e6 : (rk.type == 6) = true := by rw [h6]; rfl
        have HS1 := UC hsoa
        clear h6 hsoa
        go_wp2_with fail
        exact ⟨⟨0 + 1, by omega, by go_num, by rw [UB HS1]; go_num, UC (UB HSTEP hgd), bw5⟩, by simp [intOf]; omega⟩
       ·rw [if_neg h6, Nat.add_zero] at hsoa
        have e6 : (rk.type == 6) = false := by rw [beq_eq_false_iff_ne]; exact h6
        have HS1 := UC hsoa
        clear h6 hsoa
        go_wp2_with fail
        exact ⟨⟨0 + 1, by omega, by go_num, by first | (rw [UB HS1]; done) | (rw [UB HS1]; rfl), UC (UB HSTEP hgd), bw5⟩, by simp [intOf]; omega⟩
      ·obtain ⟨k0, rfl⟩ : ∃ k0, k = k0 + 1 := ⟨k - 1, by omega⟩
       have hk0' : (0 : Int) < (k0 + 1 : Nat) := by omega
       have hwr : IntKind.i64.wrap (k0 : Int) = (k0 : Nat) := by have := hlt; exact Az (by omega) (by omega)
       have hkm : (k0 : Int) < m := by omega
       rw [show k0 + 1 - 1 = k0 by omega] at HGOOD
       obtain ⟨b', off', na', nc', ta', tc', xa', xc', ia', ic', hbe, hbl', hc', hu'⟩ := (UB H4).recs.here (k := k0) (by rw [UB HN]; omega)
       simp only [Option.some.injEq, Addr.mk.injEq, and_true] at hbe
       obtain ⟨rfl, rfl⟩ := hbe
       generalize rs.getD k0 recZ = rp at *
       have HC4 := UC hc'
       have U4' := UC hu'
       clear hc' hu'
       have MF0 := fun (w : World) (h1 : HasR w (.slice na' rp.name.length nc') (.slice ta' rp.to.length tc') (.slice xa' rp.text.length xc') (.slice ia' rp.nums.length ic') rp) (h2 : HasR w (.slice na rk.name.length nc) (.slice ta rk.to.length tc) (.slice xa rk.text.length xc) (.slice ia rk.nums.length ic) rk) => Oq h1 h2
       cases hfo : follows rp rk with
       | false =>
        have hbad : Fj o rs (k0 + 1) = false := by rw [UB HGOOD, hin, hfo]; simp
        have hz := Nl (by rw [UB HN]; exact hlt) hbad
        rw [UB HZZ] at hz
        subst hz
        rw [hfo] at MF0
        replace MF0 := UC MF0
        clear hbad hin hfo HGOOD HZZ HSOA HSTEP
        go_wp2_with fail
        clear c0 c1 c2 c3 c4 c5 c6
        refine wp_region_held_drew (S := (fun w' => ((w'.cell? ⟨w.heap.size, 0, none⟩ = some (.slice oa o.length oc) ∧ w'.cell? ⟨w.heap.size, 1, none⟩ = some (.slice (some ⟨b, off, none⟩) m rc)) ∧ (w'.cell? ⟨wr.heap.size, 0, none⟩ = some (.slice na rk.name.length nc) ∧ w'.cell? ⟨wr.heap.size, 1, none⟩ = some (.int .i64 rk.type) ∧ w'.cell? ⟨wr.heap.size, 2, none⟩ = some (.int .i64 rk.ttl) ∧ w'.cell? ⟨wr.heap.size, 3, none⟩ = some (.int .i64 rk.addr) ∧ w'.cell? ⟨wr.heap.size, 4, none⟩ = some (.slice ta rk.to.length tc) ∧ w'.cell? ⟨wr.heap.size, 5, none⟩ = some (.slice xa rk.text.length xc) ∧ w'.cell? ⟨wr.heap.size, 6, none⟩ = some (.slice ia rk.nums.length ic))) ∧ (w'.cell? ⟨b, off + k0 * 7, none⟩ = some (.slice na' rp.name.length nc') ∧ w'.cell? ⟨b, off + k0 * 7 + 1, none⟩ = some (.int .i64 rp.type) ∧ w'.cell? ⟨b, off + k0 * 7 + 2, none⟩ = some (.int .i64 rp.ttl) ∧ w'.cell? ⟨b, off + k0 * 7 + 3, none⟩ = some (.int .i64 rp.addr) ∧ w'.cell? ⟨b, off + k0 * 7 + 4, none⟩ = some (.slice ta' rp.to.length tc') ∧ w'.cell? ⟨b, off + k0 * 7 + 5, none⟩ = some (.slice xa' rp.text.length xc') ∧ w'.cell? ⟨b, off + k0 * 7 + 6, none⟩ = some (.slice ia' rp.nums.length ic')))) (by kernel_rfl) ⟨⟨UM (UB K4), UJ (UB X4)⟩, VH (UB HC4)⟩ (fun hHeld => ?_)
        show wpAnyH _ _ _ _ _ 20 #[false, false, false, false, false, false, false, false, false, false, false, false, false, false, false, false, false, false, false, false] _ _
        iterate 3 (refine tkF ?_ rfl (by kernel_rfl) (by kernel_rfl) (fun _ _ _ h => h) ?_ hHeld ?_; rotate_left; (· (intro w hSw; (try dsimp only at hSw); go_simp <;> with_reducible rfl)); simp only [Act.put, setF, List.setIfInBounds_toArray, List.set_cons_zero, List.set_cons_succ])
        refine runI 3 rfl (by kernel_rfl) (by kernel_rfl) (fun K hK => ?_)
        have HK := UC hK
        clear hK hHeld
        go_simp
        refine (UB MB).mono ?_
        rintro e w5 ⟨rfl, b5⟩
        have MF := UB MF0 _ ((UB U4').below b5) ((UB U4).below b5)
        replace MF := UC MF
        go_simp
        refine (UB HK).out _ _ ⟨⟨UM (UE b5 (UB K4)), UJ (UE b5 (UB X4))⟩, VH (UW (UB HC4) hbl' b5)⟩ (fun hHeld => ?_)
        clear HK K
        try simp only [List.setIfInBounds_toArray, List.set_cons_zero, List.set_cons_succ]
        iterate 3 (refine tkF ?_ rfl (by kernel_rfl) (by kernel_rfl) (fun _ _ _ h => h) ?_ hHeld ?_; rotate_left; (· (intro w hSw; (try dsimp only at hSw); go_simp <;> with_reducible rfl)); simp only [Act.put, setF, List.setIfInBounds_toArray, List.set_cons_zero, List.set_cons_succ])
        refine tkF (.bool true) rfl (by kernel_rfl) (by kernel_rfl) (fun _ _ _ h => h) ?_ hHeld ?_; (· (intro w hSw; (try dsimp only at hSw); go_simp)); simp only [Act.put, setF, List.setIfInBounds_toArray, List.set_cons_zero, List.set_cons_succ]
        refine tkF (.bool true) rfl (by kernel_rfl) (by kernel_rfl) (fun _ _ _ h => h) ?_ hHeld ?_; (· (intro w hSw; (try dsimp only at hSw); go_simp)); simp only [Act.put, setF, List.setIfInBounds_toArray, List.set_cons_zero, List.set_cons_succ]
        iterate 2 (refine tkF ?_ rfl (by kernel_rfl) (by kernel_rfl) (fun _ _ _ h => h) ?_ hHeld ?_; rotate_left; (· (intro w hSw; (try dsimp only at hSw); go_simp <;> with_reducible rfl)); simp only [Act.put, setF, List.setIfInBounds_toArray, List.set_cons_zero, List.set_cons_succ])
        refine tkF (.int .i64 (k0 + 1 : Nat)) rfl (by kernel_rfl) (by kernel_rfl) (fun _ _ _ h => h) ?_ hHeld ?_; (· (intro w hSw; (try dsimp only at hSw); go_simp)); simp only [Act.put, setF, List.setIfInBounds_toArray, List.set_cons_zero, List.set_cons_succ]
        refine tkF (.int .i64 (k0 : Nat)) rfl (by kernel_rfl) (by kernel_rfl) (fun _ _ _ h => h) ?_ hHeld ?_; (· (intro w hSw; (try dsimp only at hSw); go_simp)); simp only [Act.put, setF, List.setIfInBounds_toArray, List.set_cons_zero, List.set_cons_succ]
        refine tkF (.pointer (some ⟨b, off + k0 * 7, none⟩)) rfl (by kernel_rfl) (by kernel_rfl) (fun _ _ _ h => h) ?_ hHeld ?_; (· (intro w hSw; (try dsimp only at hSw); go_simp)); simp only [Act.put, setF, List.setIfInBounds_toArray, List.set_cons_zero, List.set_cons_succ]
        iterate 2 (refine tkF ?_ rfl (by kernel_rfl) (by kernel_rfl) (fun _ _ _ h => h) ?_ hHeld ?_; rotate_left; (· (intro w hSw; (try dsimp only at hSw); go_simp <;> with_reducible rfl)); simp only [Act.put, setF, List.setIfInBounds_toArray, List.set_cons_zero, List.set_cons_succ])
        refine runI 16 rfl (by kernel_rfl) (by kernel_rfl) (fun K hK => ?_)
        have HK := UC hK
        clear hK hHeld
        go_simp
        refine (UB MF).mono ?_
        rintro e w6 ⟨rfl, b6⟩
        have q6 := UG b5 b6
        go_simp
        refine (UB HK).out _ _ ⟨⟨UM (UE q6 (UB K4)), UJ (UE q6 (UB X4))⟩, VH (UW (UB HC4) hbl' q6)⟩ (fun hHeld => ?_)
        clear HK K
        try simp only [List.setIfInBounds_toArray, List.set_cons_zero, List.set_cons_succ]
        iterate 3 (refine tkF ?_ rfl (by kernel_rfl) (by kernel_rfl) (fun _ _ _ h => h) ?_ hHeld ?_; rotate_left; (· (intro w hSw; (try dsimp only at hSw); go_simp <;> with_reducible rfl)); simp only [Act.put, setF, List.setIfInBounds_toArray, List.set_cons_zero, List.set_cons_succ])
        refine wpAnyH_done (by kernel_rfl) ?_ _
        clear hHeld
        go_wp2_with fail
        go_ret
        exact ⟨rfl, UG bb4 q6⟩
       | true =>
        have hgd : Fj o rs (k0 + 1) = true := by rw [UB HGOOD, hin, hfo]; simp
        have HGD := UC hgd
        rw [hfo] at MF0
        replace MF0 := UC MF0
        clear hgd hin hfo HGOOD
        go_wp2_with fail
        clear c0 c1 c2 c3 c4 c5 c6
        refine wp_region_held_drew (S := (fun w' => ((w'.cell? ⟨w.heap.size, 0, none⟩ = some (.slice oa o.length oc) ∧ w'.cell? ⟨w.heap.size, 1, none⟩ = some (.slice (some ⟨b, off, none⟩) m rc)) ∧ (w'.cell? ⟨wr.heap.size, 0, none⟩ = some (.slice na rk.name.length nc) ∧ w'.cell? ⟨wr.heap.size, 1, none⟩ = some (.int .i64 rk.type) ∧ w'.cell? ⟨wr.heap.size, 2, none⟩ = some (.int .i64 rk.ttl) ∧ w'.cell? ⟨wr.heap.size, 3, none⟩ = some (.int .i64 rk.addr) ∧ w'.cell? ⟨wr.heap.size, 4, none⟩ = some (.slice ta rk.to.length tc) ∧ w'.cell? ⟨wr.heap.size, 5, none⟩ = some (.slice xa rk.text.length xc) ∧ w'.cell? ⟨wr.heap.size, 6, none⟩ = some (.slice ia rk.nums.length ic))) ∧ (w'.cell? ⟨b, off + k0 * 7, none⟩ = some (.slice na' rp.name.length nc') ∧ w'.cell? ⟨b, off + k0 * 7 + 1, none⟩ = some (.int .i64 rp.type) ∧ w'.cell? ⟨b, off + k0 * 7 + 2, none⟩ = some (.int .i64 rp.ttl) ∧ w'.cell? ⟨b, off + k0 * 7 + 3, none⟩ = some (.int .i64 rp.addr) ∧ w'.cell? ⟨b, off + k0 * 7 + 4, none⟩ = some (.slice ta' rp.to.length tc') ∧ w'.cell? ⟨b, off + k0 * 7 + 5, none⟩ = some (.slice xa' rp.text.length xc') ∧ w'.cell? ⟨b, off + k0 * 7 + 6, none⟩ = some (.slice ia' rp.nums.length ic')))) (by kernel_rfl) ⟨⟨UM (UB K4), UJ (UB X4)⟩, VH (UB HC4)⟩ (fun hHeld => ?_)
        show wpAnyH _ _ _ _ _ 20 #[false, false, false, false, false, false, false, false, false, false, false, false, false, false, false, false, false, false, false, false] _ _
        iterate 3 (refine tkF ?_ rfl (by kernel_rfl) (by kernel_rfl) (fun _ _ _ h => h) ?_ hHeld ?_; rotate_left; (· (intro w hSw; (try dsimp only at hSw); go_simp <;> with_reducible rfl)); simp only [Act.put, setF, List.setIfInBounds_toArray, List.set_cons_zero, List.set_cons_succ])
        refine runI 3 rfl (by kernel_rfl) (by kernel_rfl) (fun K hK => ?_)
        have HK := UC hK
        clear hK hHeld
        go_simp
        refine (UB MB).mono ?_
        rintro e w5 ⟨rfl, b5⟩
        have MF := UB MF0 _ ((UB U4').below b5) ((UB U4).below b5)
        replace MF := UC MF
        go_simp
        refine (UB HK).out _ _ ⟨⟨UM (UE b5 (UB K4)), UJ (UE b5 (UB X4))⟩, VH (UW (UB HC4) hbl' b5)⟩ (fun hHeld => ?_)
        clear HK K
        try simp only [List.setIfInBounds_toArray, List.set_cons_zero, List.set_cons_succ]
        iterate 3 (refine tkF ?_ rfl (by kernel_rfl) (by kernel_rfl) (fun _ _ _ h => h) ?_ hHeld ?_; rotate_left; (· (intro w hSw; (try dsimp only at hSw); go_simp <;> with_reducible rfl)); simp only [Act.put, setF, List.setIfInBounds_toArray, List.set_cons_zero, List.set_cons_succ])
        refine tkF (.bool true) rfl (by kernel_rfl) (by kernel_rfl) (fun _ _ _ h => h) ?_ hHeld ?_; (· (intro w hSw; (try dsimp only at hSw); go_simp)); simp only [Act.put, setF, List.setIfInBounds_toArray, List.set_cons_zero, List.set_cons_succ]
        refine tkF (.bool true) rfl (by kernel_rfl) (by kernel_rfl) (fun _ _ _ h => h) ?_ hHeld ?_; (· (intro w hSw; (try dsimp only at hSw); go_simp)); simp only [Act.put, setF, List.setIfInBounds_toArray, List.set_cons_zero, List.set_cons_succ]
        iterate 2 (refine tkF ?_ rfl (by kernel_rfl) (by kernel_rfl) (fun _ _ _ h => h) ?_ hHeld ?_; rotate_left; (· (intro w hSw; (try dsimp only at hSw); go_simp <;> with_reducible rfl)); simp only [Act.put, setF, List.setIfInBounds_toArray, List.set_cons_zero, List.set_cons_succ])
        refine tkF (.int .i64 (k0 + 1 : Nat)) rfl (by kernel_rfl) (by kernel_rfl) (fun _ _ _ h => h) ?_ hHeld ?_; (· (intro w hSw; (try dsimp only at hSw); go_simp)); simp only [Act.put, setF, List.setIfInBounds_toArray, List.set_cons_zero, List.set_cons_succ]
        refine tkF (.int .i64 (k0 : Nat)) rfl (by kernel_rfl) (by kernel_rfl) (fun _ _ _ h => h) ?_ hHeld ?_; (· (intro w hSw; (try dsimp only at hSw); go_simp)); simp only [Act.put, setF, List.setIfInBounds_toArray, List.set_cons_zero, List.set_cons_succ]
        refine tkF (.pointer (some ⟨b, off + k0 * 7, none⟩)) rfl (by kernel_rfl) (by kernel_rfl) (fun _ _ _ h => h) ?_ hHeld ?_; (· (intro w hSw; (try dsimp only at hSw); go_simp)); simp only [Act.put, setF, List.setIfInBounds_toArray, List.set_cons_zero, List.set_cons_succ]
        iterate 2 (refine tkF ?_ rfl (by kernel_rfl) (by kernel_rfl) (fun _ _ _ h => h) ?_ hHeld ?_; rotate_left; (· (intro w hSw; (try dsimp only at hSw); go_simp <;> with_reducible rfl)); simp only [Act.put, setF, List.setIfInBounds_toArray, List.set_cons_zero, List.set_cons_succ])
        refine runI 16 rfl (by kernel_rfl) (by kernel_rfl) (fun K hK => ?_)
        have HK := UC hK
        clear hK hHeld
        go_simp
        refine (UB MF).mono ?_
        rintro e w6 ⟨rfl, b6⟩
        have q6 := UG b5 b6
        go_simp
        refine (UB HK).out _ _ ⟨⟨UM (UE q6 (UB K4)), UJ (UE q6 (UB X4))⟩, VH (UW (UB HC4) hbl' q6)⟩ (fun hHeld => ?_)
        clear HK K
        try simp only [List.setIfInBounds_toArray, List.set_cons_zero, List.set_cons_succ]
        iterate 3 (refine tkF ?_ rfl (by kernel_rfl) (by kernel_rfl) (fun _ _ _ h => h) ?_ hHeld ?_; rotate_left; (· (intro w hSw; (try dsimp only at hSw); go_simp <;> with_reducible rfl)); simp only [Act.put, setF, List.setIfInBounds_toArray, List.set_cons_zero, List.set_cons_succ])
        refine wpAnyH_done (by kernel_rfl) ?_ _
        clear hHeld
        have hgd := UB HGD
        clear HGD
        have bw6 := UG bw4 q6
        have X6 := UC (UE q6 (UB X4))
        clear b5 b6 q6 bw4 X4 K4 MB H4 U4 MF0 HC4 U4'
        have hsoa := UB HSOA
        clear HSOA
        obtain ⟨p0, p1, p2, p3, p4, p5, p6⟩ := UJ (UB X6)
        by_cases h6 : rk.type = 6
        ·rw [if_pos h6] at hsoa
         have e6 : (rk.type == 6) = true := by rw [h6]; rfl
         have HS1 := UC hsoa
         clear h6 hsoa
         go_wp2_with fail
         exact ⟨⟨k0 + 1 + 1, by omega, by go_num, by rw [UB HS1]; go_num, UC (UB HSTEP hgd), bw6⟩, by simp [intOf]; omega⟩
        ·rw [if_neg h6, Nat.add_zero] at hsoa
         have e6 : (rk.type == 6) = false := by rw [beq_eq_false_iff_ne]; exact h6
         have HS1 := UC hsoa
         clear h6 hsoa
         go_wp2_with fail
         exact ⟨⟨k0 + 1 + 1, by omega, by go_num, by first | (rw [UB HS1]; done) | (rw [UB HS1]; rfl), UC (UB HSTEP hgd), bw6⟩, by simp [intOf]; omega⟩
    ·obtain rfl : k = m := by omega
     have hz := Oc (UB HOK) (by rw [UB HN]; omega) (by rw [UB HN]; exact UB hall)
     rw [UB HZZ, UB HN] at hz
     have h1 := Wl (soas rs k)
     rw [← hz] at h1
     clear hz HZZ
     go_wp2
     go_ret
     exact ⟨rfl, UG bb1 hb⟩
  ·rw [Lq (by omega)]
   have h60' : (60 : Int) < rs.length := by omega
   go_enter Tryz.func17, Tryz.ntmps17
   go_wp2_with fail
   generalize w.alloc (.cells #[.slice oa o.length oc, .slice ra rs.length rc] 28) = W at *
   refine (UB NO).mono ?_
   rintro e w1 ⟨rfl, b1⟩
   obtain ⟨d0, d1⟩ := UM (UE b1 (UB K0))
   go_wp2_with fail
   go_ret
   exact ⟨rfl, UG b0 b1⟩
end Go.Proofs.YtfneahdnpmamkaaGreat
