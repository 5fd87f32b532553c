/-
  Contract of the specification's ZoneOk.
-/
import Derived.Test.YtfneahdnpmamkaaGreatFnOwnersG16
import Derived.Test.YtfneahdnpmamkaaGreatFnOwnersG21
namespace Go.Proofs.YtfneahdnpmamkaaGreat
open Go.RowKit
set_option linter.unusedVariables false

theorem Uf (n : Nat) : (((n : Nat) : Int) == 1) = decide (n = 1) := by
 rw [Bool.eq_iff_iff, beq_iff_eq, decide_eq_true_iff]
 omega

set_option maxHeartbeats 4000000 in
set_option maxRecDepth 100000 in
theorem Ec {vo vr : Value} {o : List (List Int)} {rs : List Rec} {w : World} (h : HasZ w vo vr o rs) (hs : ∀ k, k < rs.length → (rs.getD k recZ).name.length ≤ 1048576) :
  Calls Tryz.prog 6 #[.agg #[vo, vr]] w fun e w' => e = .returned (.bool (Ar o rs)) ∧ Below w.heap.size w w' := by
 obtain ⟨oa, oc, rfl, _⟩ := h.name.form
 obtain ⟨ra, rc, rfl, hrl, hrm⟩ := h.recs.form
 have b0 := UI (w := w) (.cells #[.slice oa o.length oc, .slice ra rs.length rc] 28)
 have k0 := heap_alloc_new w (.cells #[.slice oa o.length oc, .slice ra rs.length rc] 28)
 have H0 := UC (h.below b0)
 have K0 := UC k0
 have NO := VO (h.below b0).name
 have HSS := UC hs
 clear h k0 hrl hrm hs
 cases hok : Ag o with
 | false =>
  rw [Lk hok]
  rw [hok] at NO
  replace NO := UC NO
  clear hok
  go_enter Tryz.func6, Tryz.ntmps6
  go_wp2_with fail
  refine (UB NO).mono ?_
  rintro e w1 ⟨rfl, b1⟩
  go_wp2_with fail
  go_ret
  exact ⟨rfl, UG b0 b1⟩
 | true =>
  rw [hok] at NO
  replace NO := UC NO
  by_cases h60 : rs.length ≤ 60
  ·generalize hzz : Ar o rs = ZZ
   have HZZ := UC hzz
   have HOK := UC hok
   clear hzz hok
   go_enter Tryz.func6, Tryz.ntmps6
   go_wp2_with fail
   generalize w.alloc (.cells #[.slice oa o.length oc, .slice ra rs.length rc] 28) = W at *
   refine (UB NO).mono ?_
   rintro e w1 ⟨rfl, b1⟩
   have K1 := UC (UE b1 (UB K0))
   have H1 := UC ((UB H0).below b1)
   have bb1 := UG b0 b1
   obtain ⟨d0, d1⟩ := UM (UB K1)
   clear NO K0 H0 b0 b1
   generalize hn : rs.length = m at *
   have HN := UC hn
   clear hn
   have h60' : ¬ ((60 : Int) < m) := by omega
   go_wp2_with fail
   clear d0 d1
   go_loopw [3, 4] (fun s i wr => ∃ (k : Nat), k ≤ m ∧ i = .int .i64 k ∧ s = .int .i64 (soas rs k : Nat) ∧ Hid (∀ j, j < k → Mw o rs j) ∧ Below w1.heap.size w1 wr) (fun _ i _ => m - (intOf i).toNat)
   case atStart => exact ⟨0, Nat.zero_le _, rfl, rfl, UC (fun j hj => absurd hj (Nat.not_lt_zero _)), Below.refl _ _⟩
   case round =>
    obtain ⟨k, hk, rfl, rfl, hall, hb⟩ := hrel
    have hsk := Me rs k
    by_cases hlt : k < m
    ·obtain ⟨b, off, na, nc, ta, tc, xa, xc, ia, ic, rfl, hbl, hc, hu⟩ := ((UB H1).below hb).recs.here (k := k) (by rw [UB HN]; exact hlt)
     have K2 := UC (UE hb (UB K1))
     have H2 := UC ((UB H1).below hb)
     have bb2 := UG bb1 hb
     have hsoa : soas rs (k + 1) = soas rs k + if (rs.getD k recZ).type = 6 then 1 else 0 := rfl
     have HSOA := UC hsoa
     clear hsoa
     generalize hrk : rs.getD k recZ = rk at *
     have HRK := UC hrk
     clear hrk
     have b3 := UI (w := wr) (.cells #[.slice na rk.name.length nc, .int .i64 rk.type, .int .i64 rk.ttl, .int .i64 rk.addr, .slice ta rk.to.length tc, .slice xa rk.text.length xc, .slice ia rk.nums.length ic] 39)
     have X3 := heap_alloc_new wr (.cells #[.slice na rk.name.length nc, .int .i64 rk.type, .int .i64 rk.ttl, .int .i64 rk.addr, .slice ta rk.to.length tc, .slice xa rk.text.length xc, .slice ia rk.nums.length ic] 39)
     have bd := UX (w := wr.alloc (.cells #[.slice na rk.name.length nc, .int .i64 rk.type, .int .i64 rk.ttl, .int .i64 rk.addr, .slice ta rk.to.length tc, .slice xa rk.text.length xc, .slice ia rk.nums.length ic] 39))
     have b4 := UG b3 bd
     have X4 := UC (UE bd X3)
     have K4 := UC (UE b4 (UB K2))
     have H4 := UC ((UB H2).below b4)
     have U4 := UC (hu.below b4)
     have bb4 := UG bb2 b4
     have bw4 := UG hb b4
     have z4 := b4.size
     obtain ⟨c0, c1, c2, c3, c4, c5, c6⟩ := VH hc
     obtain ⟨zc0, zc1⟩ := UM (UB K2)
     clear b3 X3 bd b4 hu hc K2 H2 hb
     have RK := Gy (UB U4)
     cases hok : rrOk rk with
     | false =>
      have hz := Dc (UB HOK) (show k < rs.length by rw [UB HN]; exact hlt) (fun g => by have := g.ok; rw [UB HRK, hok] at this; cases this)
      rw [UB HZZ] at hz
      subst hz
      rw [hok] at RK
      replace RK := UC RK
      clear hok HZZ HSOA
      go_wp2_with fail
      clear c0 c1 c2 c3 c4 c5 c6 zc0 zc1
      refine wp_region_held_drew (S := (fun w' => (w'.cell? ⟨w.heap.size, 0, none⟩ = some (.slice oa o.length oc) ∧ w'.cell? ⟨w.heap.size, 1, none⟩ = some (.slice (some ⟨b, off, none⟩) m rc)) ∧ (w'.cell? ⟨wr.heap.size, 0, none⟩ = some (.slice na rk.name.length nc) ∧ w'.cell? ⟨wr.heap.size, 1, none⟩ = some (.int .i64 rk.type) ∧ w'.cell? ⟨wr.heap.size, 2, none⟩ = some (.int .i64 rk.ttl) ∧ w'.cell? ⟨wr.heap.size, 3, none⟩ = some (.int .i64 rk.addr) ∧ w'.cell? ⟨wr.heap.size, 4, none⟩ = some (.slice ta rk.to.length tc) ∧ w'.cell? ⟨wr.heap.size, 5, none⟩ = some (.slice xa rk.text.length xc) ∧ w'.cell? ⟨wr.heap.size, 6, none⟩ = some (.slice ia rk.nums.length ic)))) (by kernel_rfl) ⟨UM (UB K4), UJ (UB X4)⟩ (fun hHeld => ?_)
      show wpAnyH _ _ _ _ _ 33 #[false, false, false, false, false, false, false, false, false, false, false, false, false, false, false, false, false, false, false, false, false, false, false, false, false, false, false, false, false, false, false, false, false] _ _
      refine tkF ?_ rfl (by kernel_rfl) (by kernel_rfl) (fun _ _ _ h => h) ?_ hHeld ?_; rotate_left; (· (intro w hSw; (try dsimp only at hSw); go_simp <;> with_reducible rfl)); simp only [Act.put, setF, List.setIfInBounds_toArray, List.set_cons_zero, List.set_cons_succ]
      refine runI 1 rfl (by kernel_rfl) (by kernel_rfl) (fun K hK => ?_)
      have HK := UC hK
      clear hK hHeld
      go_simp
      refine (UB RK).mono ?_
      rintro e w5 ⟨rfl, q5⟩
      go_simp
      refine (UB HK).out _ _ ⟨UM (UE q5 (UB K4)), UJ (UE q5 (UB X4))⟩ (fun hHeld => ?_)
      clear HK K
      try simp only [List.setIfInBounds_toArray, List.set_cons_zero, List.set_cons_succ]
      iterate 2 (refine tkF ?_ rfl (by kernel_rfl) (by kernel_rfl) (fun _ _ _ h => h) ?_ hHeld ?_; rotate_left; (· (intro w hSw; (try dsimp only at hSw); go_simp <;> with_reducible rfl)); simp only [Act.put, setF, List.setIfInBounds_toArray, List.set_cons_zero, List.set_cons_succ])
      iterate 6 (refine skF rfl (by kernel_rfl) (by kernel_rfl) (fun _ _ _ h => h) hHeld ?_; simp only [Act.put, setF, List.setIfInBounds_toArray, List.set_cons_zero, List.set_cons_succ])
      iterate 2 (refine tkF ?_ rfl (by kernel_rfl) (by kernel_rfl) (fun _ _ _ h => h) ?_ hHeld ?_; rotate_left; (· (intro w hSw; (try dsimp only at hSw); go_simp <;> with_reducible rfl)); simp only [Act.put, setF, List.setIfInBounds_toArray, List.set_cons_zero, List.set_cons_succ])
      iterate 13 (refine skF rfl (by kernel_rfl) (by kernel_rfl) (fun _ _ _ h => h) hHeld ?_; simp only [Act.put, setF, List.setIfInBounds_toArray, List.set_cons_zero, List.set_cons_succ])
      iterate 2 (refine tkF ?_ rfl (by kernel_rfl) (by kernel_rfl) (fun _ _ _ h => h) ?_ hHeld ?_; rotate_left; (· (intro w hSw; (try dsimp only at hSw); go_simp <;> with_reducible rfl)); simp only [Act.put, setF, List.setIfInBounds_toArray, List.set_cons_zero, List.set_cons_succ])
      iterate 5 (refine skF rfl (by kernel_rfl) (by kernel_rfl) (fun _ _ _ h => h) hHeld ?_; simp only [Act.put, setF, List.setIfInBounds_toArray, List.set_cons_zero, List.set_cons_succ])
      refine tkF ?_ rfl (by kernel_rfl) (by kernel_rfl) (fun _ _ _ h => h) ?_ hHeld ?_; rotate_left; (· (intro w hSw; (try dsimp only at hSw); go_simp <;> with_reducible rfl)); simp only [Act.put, setF, List.setIfInBounds_toArray, List.set_cons_zero, List.set_cons_succ]
      refine wpAnyH_done (by kernel_rfl) ?_ _
      clear hHeld
      go_wp2_with fail
      go_ret
      exact ⟨rfl, UG bb4 q5⟩
     | true =>
      rw [hok] at RK
      replace RK := UC RK
      have hl1 := (Ai (Ds hok)).1
      have hl2 := (Ai (UB HOK)).1
      have UND := fun (w : World) (h1 : HasL w (.slice na rk.name.length nc) rk.name) (h2 : HasL w (.slice oa o.length oc) o) => Rh h1 h2 hl1 hl2
      have CN := fun (w : World) (h1 : HasL w (.slice na rk.name.length nc) rk.name) (h2 : HasL w (.slice oa o.length oc) o) => El h1 h2 (by omega) (by omega)
      have OKK := UC hok
      clear hl1 hl2
      cases hun : Cy rk.name o with
      | false =>
       have hz := Dc (UB HOK) (show k < rs.length by rw [UB HN]; exact hlt) (fun g => by have := g.under; rw [UB HRK, hun] at this; cases this)
       rw [UB HZZ] at hz
       subst hz
       rw [hun] at UND
       replace UND := UC UND
       replace CN := UC CN
       clear hun HZZ HSOA hok
       go_wp2_with fail
       clear c0 c1 c2 c3 c4 c5 c6 zc0 zc1
       refine wp_region_held_drew (S := (fun w' => (w'.cell? ⟨w.heap.size, 0, none⟩ = some (.slice oa o.length oc) ∧ w'.cell? ⟨w.heap.size, 1, none⟩ = some (.slice (some ⟨b, off, none⟩) m rc)) ∧ (w'.cell? ⟨wr.heap.size, 0, none⟩ = some (.slice na rk.name.length nc) ∧ w'.cell? ⟨wr.heap.size, 1, none⟩ = some (.int .i64 rk.type) ∧ w'.cell? ⟨wr.heap.size, 2, none⟩ = some (.int .i64 rk.ttl) ∧ w'.cell? ⟨wr.heap.size, 3, none⟩ = some (.int .i64 rk.addr) ∧ w'.cell? ⟨wr.heap.size, 4, none⟩ = some (.slice ta rk.to.length tc) ∧ w'.cell? ⟨wr.heap.size, 5, none⟩ = some (.slice xa rk.text.length xc) ∧ w'.cell? ⟨wr.heap.size, 6, none⟩ = some (.slice ia rk.nums.length ic)))) (by kernel_rfl) ⟨UM (UB K4), UJ (UB X4)⟩ (fun hHeld => ?_)
       show wpAnyH _ _ _ _ _ 33 #[false, false, false, false, false, false, false, false, false, false, false, false, false, false, false, false, false, false, false, false, false, false, false, false, false, false, false, false, false, false, false, false, false] _ _
       refine tkF ?_ rfl (by kernel_rfl) (by kernel_rfl) (fun _ _ _ h => h) ?_ hHeld ?_; rotate_left; (· (intro w hSw; (try dsimp only at hSw); go_simp <;> with_reducible rfl)); simp only [Act.put, setF, List.setIfInBounds_toArray, List.set_cons_zero, List.set_cons_succ]
       refine runI 1 rfl (by kernel_rfl) (by kernel_rfl) (fun K hK => ?_)
       have HK := UC hK
       clear hK hHeld
       go_simp
       refine (UB RK).mono ?_
       rintro e w5 ⟨rfl, q5⟩
       go_simp
       refine (UB HK).out _ _ ⟨UM (UE q5 (UB K4)), UJ (UE q5 (UB X4))⟩ (fun hHeld => ?_)
       clear HK K
       try simp only [List.setIfInBounds_toArray, List.set_cons_zero, List.set_cons_succ]
       iterate 6 (refine tkF ?_ rfl (by kernel_rfl) (by kernel_rfl) (fun _ _ _ h => h) ?_ hHeld ?_; rotate_left; (· (intro w hSw; (try dsimp only at hSw); go_simp <;> with_reducible rfl)); simp only [Act.put, setF, List.setIfInBounds_toArray, List.set_cons_zero, List.set_cons_succ])
       refine runI 8 rfl (by kernel_rfl) (by kernel_rfl) (fun K hK => ?_)
       have HK := UC hK
       clear hK hHeld
       go_simp
       refine (UB UND _ ((UB U4).below q5).name ((UB H4).below q5).name).mono ?_
       rintro e w6 ⟨rfl, b6⟩
       have q6 := UG q5 b6
       go_simp
       refine (UB HK).out _ _ ⟨UM (UE q6 (UB K4)), UJ (UE q6 (UB X4))⟩ (fun hHeld => ?_)
       clear HK K
       try simp only [List.setIfInBounds_toArray, List.set_cons_zero, List.set_cons_succ]
       iterate 3 (refine tkF ?_ rfl (by kernel_rfl) (by kernel_rfl) (fun _ _ _ h => h) ?_ hHeld ?_; rotate_left; (· (intro w hSw; (try dsimp only at hSw); go_simp <;> with_reducible rfl)); simp only [Act.put, setF, List.setIfInBounds_toArray, List.set_cons_zero, List.set_cons_succ])
       iterate 13 (refine skF rfl (by kernel_rfl) (by kernel_rfl) (fun _ _ _ h => h) hHeld ?_; simp only [Act.put, setF, List.setIfInBounds_toArray, List.set_cons_zero, List.set_cons_succ])
       iterate 2 (refine tkF ?_ rfl (by kernel_rfl) (by kernel_rfl) (fun _ _ _ h => h) ?_ hHeld ?_; rotate_left; (· (intro w hSw; (try dsimp only at hSw); go_simp <;> with_reducible rfl)); simp only [Act.put, setF, List.setIfInBounds_toArray, List.set_cons_zero, List.set_cons_succ])
       iterate 5 (refine skF rfl (by kernel_rfl) (by kernel_rfl) (fun _ _ _ h => h) hHeld ?_; simp only [Act.put, setF, List.setIfInBounds_toArray, List.set_cons_zero, List.set_cons_succ])
       refine tkF ?_ rfl (by kernel_rfl) (by kernel_rfl) (fun _ _ _ h => h) ?_ hHeld ?_; rotate_left; (· (intro w hSw; (try dsimp only at hSw); go_simp <;> with_reducible rfl)); simp only [Act.put, setF, List.setIfInBounds_toArray, List.set_cons_zero, List.set_cons_succ]
       refine wpAnyH_done (by kernel_rfl) ?_ _
       clear hHeld
       go_wp2_with fail
       go_ret
       exact ⟨rfl, UG bb4 q6⟩
      | true =>
       rw [hun] at UND
       replace UND := UC UND
       replace CN := UC CN
       have HUN := UC hun
       have hss := UB HSS
       have ALO := fun (w : World) (h : Cl w (.slice (some ⟨b, off, none⟩) m rc) rs) => Rg (i := k) h (by rw [UB HN]; exact hlt) (by rw [UB HN]; exact h60) (by rw [UB HN]; exact hss)
       clear hun hok hss
       have AL := Nu rs k
       by_cases hk0 : k = 0
       ·subst hk0
        simp only [Nat.zero_mul, Nat.add_zero] at c0 c1 c2 c3 c4 c5 c6
        cases hal : E2 rs (0) with
        | false =>
         have hz := Dc (UB HOK) (show 0 < rs.length by rw [UB HN]; exact hlt) (fun g => by have := AL.2 g.alone; rw [hal] at this; cases this)
         rw [UB HZZ] at hz
         subst hz
         rw [hal] at ALO
         replace ALO := UC ALO
         clear hal HZZ HSOA AL CN
         go_wp2_with fail
         clear c0 c1 c2 c3 c4 c5 c6 zc0 zc1
         refine wp_region_held_drew (S := (fun w' => (w'.cell? ⟨w.heap.size, 0, none⟩ = some (.slice oa o.length oc) ∧ w'.cell? ⟨w.heap.size, 1, none⟩ = some (.slice (some ⟨b, off, none⟩) m rc)) ∧ (w'.cell? ⟨wr.heap.size, 0, none⟩ = some (.slice na rk.name.length nc) ∧ w'.cell? ⟨wr.heap.size, 1, none⟩ = some (.int .i64 rk.type) ∧ w'.cell? ⟨wr.heap.size, 2, none⟩ = some (.int .i64 rk.ttl) ∧ w'.cell? ⟨wr.heap.size, 3, none⟩ = some (.int .i64 rk.addr) ∧ w'.cell? ⟨wr.heap.size, 4, none⟩ = some (.slice ta rk.to.length tc) ∧ w'.cell? ⟨wr.heap.size, 5, none⟩ = some (.slice xa rk.text.length xc) ∧ w'.cell? ⟨wr.heap.size, 6, none⟩ = some (.slice ia rk.nums.length ic)))) (by kernel_rfl) ⟨UM (UB K4), UJ (UB X4)⟩ (fun hHeld => ?_)
         show wpAnyH _ _ _ _ _ 33 #[false, false, false, false, false, false, false, false, false, false, false, false, false, false, false, false, false, false, false, false, false, false, false, false, false, false, false, false, false, false, false, false, false] _ _
         refine tkF ?_ rfl (by kernel_rfl) (by kernel_rfl) (fun _ _ _ h => h) ?_ hHeld ?_; rotate_left; (· (intro w hSw; (try dsimp only at hSw); go_simp <;> with_reducible rfl)); simp only [Act.put, setF, List.setIfInBounds_toArray, List.set_cons_zero, List.set_cons_succ]
         refine runI 1 rfl (by kernel_rfl) (by kernel_rfl) (fun K hK => ?_)
         have HK := UC hK
         clear hK hHeld
         go_simp
         refine (UB RK).mono ?_
         rintro e w5 ⟨rfl, q5⟩
         go_simp
         refine (UB HK).out _ _ ⟨UM (UE q5 (UB K4)), UJ (UE q5 (UB X4))⟩ (fun hHeld => ?_)
         clear HK K
         try simp only [List.setIfInBounds_toArray, List.set_cons_zero, List.set_cons_succ]
         iterate 6 (refine tkF ?_ rfl (by kernel_rfl) (by kernel_rfl) (fun _ _ _ h => h) ?_ hHeld ?_; rotate_left; (· (intro w hSw; (try dsimp only at hSw); go_simp <;> with_reducible rfl)); simp only [Act.put, setF, List.setIfInBounds_toArray, List.set_cons_zero, List.set_cons_succ])
         refine runI 8 rfl (by kernel_rfl) (by kernel_rfl) (fun K hK => ?_)
         have HK := UC hK
         clear hK hHeld
         go_simp
         refine (UB UND _ ((UB U4).below q5).name ((UB H4).below q5).name).mono ?_
         rintro e w6 ⟨rfl, b6⟩
         have q6 := UG q5 b6
         go_simp
         refine (UB HK).out _ _ ⟨UM (UE q6 (UB K4)), UJ (UE q6 (UB X4))⟩ (fun hHeld => ?_)
         clear HK K
         try simp only [List.setIfInBounds_toArray, List.set_cons_zero, List.set_cons_succ]
         iterate 3 (refine tkF ?_ rfl (by kernel_rfl) (by kernel_rfl) (fun _ _ _ h => h) ?_ hHeld ?_; rotate_left; (· (intro w hSw; (try dsimp only at hSw); go_simp <;> with_reducible rfl)); simp only [Act.put, setF, List.setIfInBounds_toArray, List.set_cons_zero, List.set_cons_succ])
         refine tkF (.int .i64 0) rfl (by kernel_rfl) (by kernel_rfl) (fun _ _ _ h => h) ?_ hHeld ?_; (· (intro w hSw; (try dsimp only at hSw); go_simp)); simp only [Act.put, setF, List.setIfInBounds_toArray, List.set_cons_zero, List.set_cons_succ]
         refine tkF (.bool false) rfl (by kernel_rfl) (by kernel_rfl) (fun _ _ _ h => h) ?_ hHeld ?_; (· (intro w hSw; (try dsimp only at hSw); go_simp)); simp only [Act.put, setF, List.setIfInBounds_toArray, List.set_cons_zero, List.set_cons_succ]
         refine tkF (.bool false) rfl (by kernel_rfl) (by kernel_rfl) (fun _ _ _ h => h) ?_ hHeld ?_; (· (intro w hSw; (try dsimp only at hSw); go_simp)); simp only [Act.put, setF, List.setIfInBounds_toArray, List.set_cons_zero, List.set_cons_succ]
         iterate 9 (refine skF rfl (by kernel_rfl) (by kernel_rfl) (fun _ _ _ h => h) hHeld ?_; simp only [Act.put, setF, List.setIfInBounds_toArray, List.set_cons_zero, List.set_cons_succ])
         iterate 6 (refine tkF ?_ rfl (by kernel_rfl) (by kernel_rfl) (fun _ _ _ h => h) ?_ hHeld ?_; rotate_left; (· (intro w hSw; (try dsimp only at hSw); go_simp <;> with_reducible rfl)); simp only [Act.put, setF, List.setIfInBounds_toArray, List.set_cons_zero, List.set_cons_succ])
         refine runI 30 rfl (by kernel_rfl) (by kernel_rfl) (fun K hK => ?_)
         have HK := UC hK
         clear hK hHeld
         go_simp
         refine (UB ALO _ ((UB H4).below q6).recs).mono ?_
         rintro e w8 ⟨rfl, b8⟩
         have q8 := UG q6 b8
         go_simp
         refine (UB HK).out _ _ ⟨UM (UE q8 (UB K4)), UJ (UE q8 (UB X4))⟩ (fun hHeld => ?_)
         clear HK K
         try simp only [List.setIfInBounds_toArray, List.set_cons_zero, List.set_cons_succ]
         iterate 2 (refine tkF ?_ rfl (by kernel_rfl) (by kernel_rfl) (fun _ _ _ h => h) ?_ hHeld ?_; rotate_left; (· (intro w hSw; (try dsimp only at hSw); go_simp <;> with_reducible rfl)); simp only [Act.put, setF, List.setIfInBounds_toArray, List.set_cons_zero, List.set_cons_succ])
         refine wpAnyH_done (by kernel_rfl) ?_ _
         clear hHeld
         go_wp2_with fail
         go_ret
         exact ⟨rfl, UG bb4 q8⟩
        | true =>
         have HALO := UC (AL.1 hal)
         rw [hal] at ALO
         replace ALO := UC ALO
         clear hal AL
         go_wp2_with fail
         clear c0 c1 c2 c3 c4 c5 c6 zc0 zc1
         refine wp_region_held_drew (S := (fun w' => (w'.cell? ⟨w.heap.size, 0, none⟩ = some (.slice oa o.length oc) ∧ w'.cell? ⟨w.heap.size, 1, none⟩ = some (.slice (some ⟨b, off, none⟩) m rc)) ∧ (w'.cell? ⟨wr.heap.size, 0, none⟩ = some (.slice na rk.name.length nc) ∧ w'.cell? ⟨wr.heap.size, 1, none⟩ = some (.int .i64 rk.type) ∧ w'.cell? ⟨wr.heap.size, 2, none⟩ = some (.int .i64 rk.ttl) ∧ w'.cell? ⟨wr.heap.size, 3, none⟩ = some (.int .i64 rk.addr) ∧ w'.cell? ⟨wr.heap.size, 4, none⟩ = some (.slice ta rk.to.length tc) ∧ w'.cell? ⟨wr.heap.size, 5, none⟩ = some (.slice xa rk.text.length xc) ∧ w'.cell? ⟨wr.heap.size, 6, none⟩ = some (.slice ia rk.nums.length ic)))) (by kernel_rfl) ⟨UM (UB K4), UJ (UB X4)⟩ (fun hHeld => ?_)
         show wpAnyH _ _ _ _ _ 33 #[false, false, false, false, false, false, false, false, false, false, false, false, false, false, false, false, false, false, false, false, false, false, false, false, false, false, false, false, false, false, false, false, false] _ _
         refine tkF ?_ rfl (by kernel_rfl) (by kernel_rfl) (fun _ _ _ h => h) ?_ hHeld ?_; rotate_left; (· (intro w hSw; (try dsimp only at hSw); go_simp <;> with_reducible rfl)); simp only [Act.put, setF, List.setIfInBounds_toArray, List.set_cons_zero, List.set_cons_succ]
         refine runI 1 rfl (by kernel_rfl) (by kernel_rfl) (fun K hK => ?_)
         have HK := UC hK
         clear hK hHeld
         go_simp
         refine (UB RK).mono ?_
         rintro e w5 ⟨rfl, q5⟩
         go_simp
         refine (UB HK).out _ _ ⟨UM (UE q5 (UB K4)), UJ (UE q5 (UB X4))⟩ (fun hHeld => ?_)
         clear HK K
         try simp only [List.setIfInBounds_toArray, List.set_cons_zero, List.set_cons_succ]
         iterate 6 (refine tkF ?_ rfl (by kernel_rfl) (by kernel_rfl) (fun _ _ _ h => h) ?_ hHeld ?_; rotate_left; (· (intro w hSw; (try dsimp only at hSw); go_simp <;> with_reducible rfl)); simp only [Act.put, setF, List.setIfInBounds_toArray, List.set_cons_zero, List.set_cons_succ])
         refine runI 8 rfl (by kernel_rfl) (by kernel_rfl) (fun K hK => ?_)
         have HK := UC hK
         clear hK hHeld
         go_simp
         refine (UB UND _ ((UB U4).below q5).name ((UB H4).below q5).name).mono ?_
         rintro e w6 ⟨rfl, b6⟩
         have q6 := UG q5 b6
         go_simp
         refine (UB HK).out _ _ ⟨UM (UE q6 (UB K4)), UJ (UE q6 (UB X4))⟩ (fun hHeld => ?_)
         clear HK K
         try simp only [List.setIfInBounds_toArray, List.set_cons_zero, List.set_cons_succ]
         iterate 3 (refine tkF ?_ rfl (by kernel_rfl) (by kernel_rfl) (fun _ _ _ h => h) ?_ hHeld ?_; rotate_left; (· (intro w hSw; (try dsimp only at hSw); go_simp <;> with_reducible rfl)); simp only [Act.put, setF, List.setIfInBounds_toArray, List.set_cons_zero, List.set_cons_succ])
         refine tkF (.int .i64 0) rfl (by kernel_rfl) (by kernel_rfl) (fun _ _ _ h => h) ?_ hHeld ?_; (· (intro w hSw; (try dsimp only at hSw); go_simp)); simp only [Act.put, setF, List.setIfInBounds_toArray, List.set_cons_zero, List.set_cons_succ]
         refine tkF (.bool false) rfl (by kernel_rfl) (by kernel_rfl) (fun _ _ _ h => h) ?_ hHeld ?_; (· (intro w hSw; (try dsimp only at hSw); go_simp)); simp only [Act.put, setF, List.setIfInBounds_toArray, List.set_cons_zero, List.set_cons_succ]
         refine tkF (.bool false) rfl (by kernel_rfl) (by kernel_rfl) (fun _ _ _ h => h) ?_ hHeld ?_; (· (intro w hSw; (try dsimp only at hSw); go_simp)); simp only [Act.put, setF, List.setIfInBounds_toArray, List.set_cons_zero, List.set_cons_succ]
         iterate 9 (refine skF rfl (by kernel_rfl) (by kernel_rfl) (fun _ _ _ h => h) hHeld ?_; simp only [Act.put, setF, List.setIfInBounds_toArray, List.set_cons_zero, List.set_cons_succ])
         iterate 6 (refine tkF ?_ rfl (by kernel_rfl) (by kernel_rfl) (fun _ _ _ h => h) ?_ hHeld ?_; rotate_left; (· (intro w hSw; (try dsimp only at hSw); go_simp <;> with_reducible rfl)); simp only [Act.put, setF, List.setIfInBounds_toArray, List.set_cons_zero, List.set_cons_succ])
         refine runI 30 rfl (by kernel_rfl) (by kernel_rfl) (fun K hK => ?_)
         have HK := UC hK
         clear hK hHeld
         go_simp
         refine (UB ALO _ ((UB H4).below q6).recs).mono ?_
         rintro e w8 ⟨rfl, b8⟩
         have q8 := UG q6 b8
         go_simp
         refine (UB HK).out _ _ ⟨UM (UE q8 (UB K4)), UJ (UE q8 (UB X4))⟩ (fun hHeld => ?_)
         clear HK K
         try simp only [List.setIfInBounds_toArray, List.set_cons_zero, List.set_cons_succ]
         iterate 2 (refine tkF ?_ rfl (by kernel_rfl) (by kernel_rfl) (fun _ _ _ h => h) ?_ hHeld ?_; rotate_left; (· (intro w hSw; (try dsimp only at hSw); go_simp <;> with_reducible rfl)); simp only [Act.put, setF, List.setIfInBounds_toArray, List.set_cons_zero, List.set_cons_succ])
         refine wpAnyH_done (by kernel_rfl) ?_ _
         clear hHeld
         have hsoa := UB HSOA
         have X8 := UC (UE q8 (UB X4))
         have K8 := UC (UE q8 (UB K4))
         have N8 := UC (((UB U4).below q8).name)
         have M8 := UC (((UB H4).below q8).name)
         have bw8 := UG bw4 q8
         have bb8 := UG bb4 q8
         have hgd : ∀ (hso : rk.type = 6 → cmpN rk.name o = 0), ∀ j, j < 0 + 1 → Mw o rs j := fun hso j hj => by
          by_cases e : j = 0
          ·subst e
           exact ⟨by rw [UB HRK]; exact UB OKK, by rw [UB HRK]; exact UB HUN, fun q => absurd q (by omega), UB HALO, by rw [UB HRK]; exact hso⟩
          ·exact UB hall j (by omega)
         have HGD := UC hgd
         clear HSOA hgd
         obtain ⟨p0, p1, p2, p3, p4, p5, p6⟩ := UJ (UB X8)
         obtain ⟨r0, r1⟩ := UM (UB K8)
         clear X4 K4 U4 H4 RK UND ALO
         by_cases h6 : rk.type = 6
         ·rw [if_pos h6] at hsoa
          have e6 : (rk.type == 6) = true := by rw [h6]; rfl
          have HS1 := UC hsoa
          have H6 := UC h6
          clear h6 hsoa
          by_cases hc0 : cmpN rk.name o = 0
          ·have CN0 := UB CN
           rw [hc0] at CN0
           have G9 := UC (UB HGD (fun _ => hc0))
           clear hc0 CN HGD
           replace CN0 := UC CN0
           go_wp2_with fail
           clear p0 p1 p2 p3 p4 p5 p6 r0 r1
           refine (UB CN0 _ (UB N8) (UB M8)).mono ?_
           rintro e w9 ⟨rfl, b9⟩
           have bw9 := UG bw8 b9
           obtain ⟨r0, r1⟩ := UM (UE b9 (UB K8))
           clear b9
           go_wp2_with fail
           exact ⟨⟨0 + 1, by omega, by go_num, by rw [UB HS1]; go_num, G9, bw9⟩, by simp [intOf]; omega⟩
          ·have hz := Dc (UB HOK) (show 0 < rs.length by rw [UB HN]; exact hlt) (fun g => hc0 (by have := g.soa; rw [UB HRK] at this; exact this (UB H6)))
           rw [UB HZZ] at hz
           subst hz
           have e0 : (cmpN rk.name o != 0) = true := by rw [bne_iff_ne]; exact hc0
           generalize cmpN rk.name o = c9 at *
           clear hc0 HZZ HGD HS1
           go_wp2_with fail
           clear p0 p1 p2 p3 p4 p5 p6 r0 r1
           refine (UB CN _ (UB N8) (UB M8)).mono ?_
           rintro e w9 ⟨rfl, b9⟩
           go_wp2_with fail
           go_ret
           exact ⟨rfl, UG bb8 b9⟩
         ·rw [if_neg h6, Nat.add_zero] at hsoa
          have e6 : (rk.type == 6) = false := by rw [beq_eq_false_iff_ne]; exact h6
          have HS1 := UC hsoa
          have G9 := UC (UB HGD (fun q => absurd q h6))
          clear h6 hsoa HGD
          go_wp2_with fail
          exact ⟨⟨0 + 1, by omega, by go_num, by first | (rw [UB HS1]; done) | (rw [UB HS1]; rfl), G9, bw8⟩, by simp [intOf]; omega⟩
       ·obtain ⟨k0, rfl⟩ : ∃ k0, k = k0 + 1 := ⟨k - 1, by omega⟩
        clear hk0
        have hk0' : (0 : Int) < (k0 + 1 : Nat) := by omega
        have hwr : IntKind.i64.wrap (k0 : Int) = (k0 : Nat) := by have := hlt; exact Az (by omega) (by omega)
        have hkm : (k0 : Int) < m := by omega
        obtain ⟨b', off', na', nc', ta', tc', xa', xc', ia', ic', hbe, hbl', hc', hu'⟩ := (UB H4).recs.here (k := k0) (by rw [UB HN]; omega)
        simp only [Option.some.injEq, Addr.mk.injEq, and_true] at hbe
        obtain ⟨rfl, rfl⟩ := hbe
        have okp := (UB hall k0 (by omega)).ok
        generalize hrp : rs.getD k0 recZ = rp at *
        have HRP := UC hrp
        have HC4 := UC hc'
        have U4' := UC hu'
        have CMP := fun (w : World) (h1 : HasR w (.slice na' rp.name.length nc') (.slice ta' rp.to.length tc') (.slice xa' rp.text.length xc') (.slice ia' rp.nums.length ic') rp) (h2 : HasR w (.slice na rk.name.length nc) (.slice ta rk.to.length tc) (.slice xa rk.text.length xc) (.slice ia rk.nums.length ic) rk) => Iv h1 h2 okp (UB OKK)
        clear hc' hu' okp hrp
        by_cases hlt0 : cmpR rp rk < 0
        ·have hnx : 0 < k0 + 1 → cmpR (rs.getD (k0 + 1 - 1) recZ) (rs.getD (k0 + 1) recZ) < 0 := fun _ => by rw [show k0 + 1 - 1 = k0 by omega, UB HRP, UB HRK]; exact hlt0
         have HNX := UC hnx
         have hge : ¬ (0 ≤ cmpR rp rk) := by omega
         generalize cmpR rp rk = cc at *
         replace CMP := UC CMP
         clear hnx hlt0
         cases hal : E2 rs (k0 + 1) with
         | false =>
          have hz := Dc (UB HOK) (show k0 + 1 < rs.length by rw [UB HN]; exact hlt) (fun g => by have := AL.2 g.alone; rw [hal] at this; cases this)
          rw [UB HZZ] at hz
          subst hz
          rw [hal] at ALO
          replace ALO := UC ALO
          clear hal HZZ HSOA AL CN
          go_wp2_with fail
          clear c0 c1 c2 c3 c4 c5 c6 zc0 zc1
          refine wp_region_held_drew (S := (fun w' => ((w'.cell? ⟨w.heap.size, 0, none⟩ = some (.slice oa o.length oc) ∧ w'.cell? ⟨w.heap.size, 1, none⟩ = some (.slice (some ⟨b, off, none⟩) m rc)) ∧ (w'.cell? ⟨wr.heap.size, 0, none⟩ = some (.slice na rk.name.length nc) ∧ w'.cell? ⟨wr.heap.size, 1, none⟩ = some (.int .i64 rk.type) ∧ w'.cell? ⟨wr.heap.size, 2, none⟩ = some (.int .i64 rk.ttl) ∧ w'.cell? ⟨wr.heap.size, 3, none⟩ = some (.int .i64 rk.addr) ∧ w'.cell? ⟨wr.heap.size, 4, none⟩ = some (.slice ta rk.to.length tc) ∧ w'.cell? ⟨wr.heap.size, 5, none⟩ = some (.slice xa rk.text.length xc) ∧ w'.cell? ⟨wr.heap.size, 6, none⟩ = some (.slice ia rk.nums.length ic))) ∧ (w'.cell? ⟨b, off + k0 * 7, none⟩ = some (.slice na' rp.name.length nc') ∧ w'.cell? ⟨b, off + k0 * 7 + 1, none⟩ = some (.int .i64 rp.type) ∧ w'.cell? ⟨b, off + k0 * 7 + 2, none⟩ = some (.int .i64 rp.ttl) ∧ w'.cell? ⟨b, off + k0 * 7 + 3, none⟩ = some (.int .i64 rp.addr) ∧ w'.cell? ⟨b, off + k0 * 7 + 4, none⟩ = some (.slice ta' rp.to.length tc') ∧ w'.cell? ⟨b, off + k0 * 7 + 5, none⟩ = some (.slice xa' rp.text.length xc') ∧ w'.cell? ⟨b, off + k0 * 7 + 6, none⟩ = some (.slice ia' rp.nums.length ic')))) (by kernel_rfl) ⟨⟨UM (UB K4), UJ (UB X4)⟩, VH (UB HC4)⟩ (fun hHeld => ?_)
          show wpAnyH _ _ _ _ _ 33 #[false, false, false, false, false, false, false, false, false, false, false, false, false, false, false, false, false, false, false, false, false, false, false, false, false, false, false, false, false, false, false, false, false] _ _
          refine tkF ?_ rfl (by kernel_rfl) (by kernel_rfl) (fun _ _ _ h => h) ?_ hHeld ?_; rotate_left; (· (intro w hSw; (try dsimp only at hSw); go_simp <;> with_reducible rfl)); simp only [Act.put, setF, List.setIfInBounds_toArray, List.set_cons_zero, List.set_cons_succ]
          refine runI 1 rfl (by kernel_rfl) (by kernel_rfl) (fun K hK => ?_)
          have HK := UC hK
          clear hK hHeld
          go_simp
          refine (UB RK).mono ?_
          rintro e w5 ⟨rfl, q5⟩
          go_simp
          refine (UB HK).out _ _ ⟨⟨UM (UE q5 (UB K4)), UJ (UE q5 (UB X4))⟩, VH (UW (UB HC4) hbl' q5)⟩ (fun hHeld => ?_)
          clear HK K
          try simp only [List.setIfInBounds_toArray, List.set_cons_zero, List.set_cons_succ]
          iterate 6 (refine tkF ?_ rfl (by kernel_rfl) (by kernel_rfl) (fun _ _ _ h => h) ?_ hHeld ?_; rotate_left; (· (intro w hSw; (try dsimp only at hSw); go_simp <;> with_reducible rfl)); simp only [Act.put, setF, List.setIfInBounds_toArray, List.set_cons_zero, List.set_cons_succ])
          refine runI 8 rfl (by kernel_rfl) (by kernel_rfl) (fun K hK => ?_)
          have HK := UC hK
          clear hK hHeld
          go_simp
          refine (UB UND _ ((UB U4).below q5).name ((UB H4).below q5).name).mono ?_
          rintro e w6 ⟨rfl, b6⟩
          have q6 := UG q5 b6
          go_simp
          refine (UB HK).out _ _ ⟨⟨UM (UE q6 (UB K4)), UJ (UE q6 (UB X4))⟩, VH (UW (UB HC4) hbl' q6)⟩ (fun hHeld => ?_)
          clear HK K
          try simp only [List.setIfInBounds_toArray, List.set_cons_zero, List.set_cons_succ]
          iterate 4 (refine tkF ?_ rfl (by kernel_rfl) (by kernel_rfl) (fun _ _ _ h => h) ?_ hHeld ?_; rotate_left; (· (intro w hSw; (try dsimp only at hSw); go_simp <;> with_reducible rfl)); simp only [Act.put, setF, List.setIfInBounds_toArray, List.set_cons_zero, List.set_cons_succ])
          refine tkF (.bool true) rfl (by kernel_rfl) (by kernel_rfl) (fun _ _ _ h => h) ?_ hHeld ?_; (· (intro w hSw; (try dsimp only at hSw); go_simp)); simp only [Act.put, setF, List.setIfInBounds_toArray, List.set_cons_zero, List.set_cons_succ]
          refine tkF (.bool true) rfl (by kernel_rfl) (by kernel_rfl) (fun _ _ _ h => h) ?_ hHeld ?_; (· (intro w hSw; (try dsimp only at hSw); go_simp)); simp only [Act.put, setF, List.setIfInBounds_toArray, List.set_cons_zero, List.set_cons_succ]
          iterate 2 (refine tkF ?_ rfl (by kernel_rfl) (by kernel_rfl) (fun _ _ _ h => h) ?_ hHeld ?_; rotate_left; (· (intro w hSw; (try dsimp only at hSw); go_simp <;> with_reducible rfl)); simp only [Act.put, setF, List.setIfInBounds_toArray, List.set_cons_zero, List.set_cons_succ])
          refine tkF (.int .i64 (k0 + 1 : Nat)) rfl (by kernel_rfl) (by kernel_rfl) (fun _ _ _ h => h) ?_ hHeld ?_; (· (intro w hSw; (try dsimp only at hSw); go_simp)); simp only [Act.put, setF, List.setIfInBounds_toArray, List.set_cons_zero, List.set_cons_succ]
          refine tkF (.int .i64 (k0 : Nat)) rfl (by kernel_rfl) (by kernel_rfl) (fun _ _ _ h => h) ?_ hHeld ?_; (· (intro w hSw; (try dsimp only at hSw); go_simp)); simp only [Act.put, setF, List.setIfInBounds_toArray, List.set_cons_zero, List.set_cons_succ]
          refine tkF (.pointer (some ⟨b, off + k0 * 7, none⟩)) rfl (by kernel_rfl) (by kernel_rfl) (fun _ _ _ h => h) ?_ hHeld ?_; (· (intro w hSw; (try dsimp only at hSw); go_simp)); simp only [Act.put, setF, List.setIfInBounds_toArray, List.set_cons_zero, List.set_cons_succ]
          iterate 2 (refine tkF ?_ rfl (by kernel_rfl) (by kernel_rfl) (fun _ _ _ h => h) ?_ hHeld ?_; rotate_left; (· (intro w hSw; (try dsimp only at hSw); go_simp <;> with_reducible rfl)); simp only [Act.put, setF, List.setIfInBounds_toArray, List.set_cons_zero, List.set_cons_succ])
          refine runI 22 rfl (by kernel_rfl) (by kernel_rfl) (fun K hK => ?_)
          have HK := UC hK
          clear hK hHeld
          go_simp
          refine (UB CMP _ ((UB U4').below q6) ((UB U4).below q6)).mono ?_
          rintro e w7 ⟨rfl, b7⟩
          have q7 := UG q6 b7
          go_simp
          refine (UB HK).out _ _ ⟨⟨UM (UE q7 (UB K4)), UJ (UE q7 (UB X4))⟩, VH (UW (UB HC4) hbl' q7)⟩ (fun hHeld => ?_)
          clear HK K
          try simp only [List.setIfInBounds_toArray, List.set_cons_zero, List.set_cons_succ]
          refine tkF (.bool false) rfl (by kernel_rfl) (by kernel_rfl) (fun _ _ _ h => h) ?_ hHeld ?_; (· (intro w hSw; (try dsimp only at hSw); go_simp)); simp only [Act.put, setF, List.setIfInBounds_toArray, List.set_cons_zero, List.set_cons_succ]
          refine tkF (.bool false) rfl (by kernel_rfl) (by kernel_rfl) (fun _ _ _ h => h) ?_ hHeld ?_; (· (intro w hSw; (try dsimp only at hSw); go_simp)); simp only [Act.put, setF, List.setIfInBounds_toArray, List.set_cons_zero, List.set_cons_succ]
          iterate 5 (refine tkF ?_ rfl (by kernel_rfl) (by kernel_rfl) (fun _ _ _ h => h) ?_ hHeld ?_; rotate_left; (· (intro w hSw; (try dsimp only at hSw); go_simp <;> with_reducible rfl)); simp only [Act.put, setF, List.setIfInBounds_toArray, List.set_cons_zero, List.set_cons_succ])
          refine runI 30 rfl (by kernel_rfl) (by kernel_rfl) (fun K hK => ?_)
          have HK := UC hK
          clear hK hHeld
          go_simp
          refine (UB ALO _ ((UB H4).below q7).recs).mono ?_
          rintro e w8 ⟨rfl, b8⟩
          have q8 := UG q7 b8
          go_simp
          refine (UB HK).out _ _ ⟨⟨UM (UE q8 (UB K4)), UJ (UE q8 (UB X4))⟩, VH (UW (UB HC4) hbl' q8)⟩ (fun hHeld => ?_)
          clear HK K
          try simp only [List.setIfInBounds_toArray, List.set_cons_zero, List.set_cons_succ]
          iterate 2 (refine tkF ?_ rfl (by kernel_rfl) (by kernel_rfl) (fun _ _ _ h => h) ?_ hHeld ?_; rotate_left; (· (intro w hSw; (try dsimp only at hSw); go_simp <;> with_reducible rfl)); simp only [Act.put, setF, List.setIfInBounds_toArray, List.set_cons_zero, List.set_cons_succ])
          refine wpAnyH_done (by kernel_rfl) ?_ _
          clear hHeld
          go_wp2_with fail
          go_ret
          exact ⟨rfl, UG bb4 q8⟩
         | true =>
          have HALO := UC (AL.1 hal)
          rw [hal] at ALO
          replace ALO := UC ALO
          clear hal AL
          go_wp2_with fail
          clear c0 c1 c2 c3 c4 c5 c6 zc0 zc1
          refine wp_region_held_drew (S := (fun w' => ((w'.cell? ⟨w.heap.size, 0, none⟩ = some (.slice oa o.length oc) ∧ w'.cell? ⟨w.heap.size, 1, none⟩ = some (.slice (some ⟨b, off, none⟩) m rc)) ∧ (w'.cell? ⟨wr.heap.size, 0, none⟩ = some (.slice na rk.name.length nc) ∧ w'.cell? ⟨wr.heap.size, 1, none⟩ = some (.int .i64 rk.type) ∧ w'.cell? ⟨wr.heap.size, 2, none⟩ = some (.int .i64 rk.ttl) ∧ w'.cell? ⟨wr.heap.size, 3, none⟩ = some (.int .i64 rk.addr) ∧ w'.cell? ⟨wr.heap.size, 4, none⟩ = some (.slice ta rk.to.length tc) ∧ w'.cell? ⟨wr.heap.size, 5, none⟩ = some (.slice xa rk.text.length xc) ∧ w'.cell? ⟨wr.heap.size, 6, none⟩ = some (.slice ia rk.nums.length ic))) ∧ (w'.cell? ⟨b, off + k0 * 7, none⟩ = some (.slice na' rp.name.length nc') ∧ w'.cell? ⟨b, off + k0 * 7 + 1, none⟩ = some (.int .i64 rp.type) ∧ w'.cell? ⟨b, off + k0 * 7 + 2, none⟩ = some (.int .i64 rp.ttl) ∧ w'.cell? ⟨b, off + k0 * 7 + 3, none⟩ = some (.int .i64 rp.addr) ∧ w'.cell? ⟨b, off + k0 * 7 + 4, none⟩ = some (.slice ta' rp.to.length tc') ∧ w'.cell? ⟨b, off + k0 * 7 + 5, none⟩ = some (.slice xa' rp.text.length xc') ∧ w'.cell? ⟨b, off + k0 * 7 + 6, none⟩ = some (.slice ia' rp.nums.length ic')))) (by kernel_rfl) ⟨⟨UM (UB K4), UJ (UB X4)⟩, VH (UB HC4)⟩ (fun hHeld => ?_)
          show wpAnyH _ _ _ _ _ 33 #[false, false, false, false, false, false, false, false, false, false, false, false, false, false, false, false, false, false, false, false, false, false, false, false, false, false, false, false, false, false, false, false, false] _ _
          refine tkF ?_ rfl (by kernel_rfl) (by kernel_rfl) (fun _ _ _ h => h) ?_ hHeld ?_; rotate_left; (· (intro w hSw; (try dsimp only at hSw); go_simp <;> with_reducible rfl)); simp only [Act.put, setF, List.setIfInBounds_toArray, List.set_cons_zero, List.set_cons_succ]
          refine runI 1 rfl (by kernel_rfl) (by kernel_rfl) (fun K hK => ?_)
          have HK := UC hK
          clear hK hHeld
          go_simp
          refine (UB RK).mono ?_
          rintro e w5 ⟨rfl, q5⟩
          go_simp
          refine (UB HK).out _ _ ⟨⟨UM (UE q5 (UB K4)), UJ (UE q5 (UB X4))⟩, VH (UW (UB HC4) hbl' q5)⟩ (fun hHeld => ?_)
          clear HK K
          try simp only [List.setIfInBounds_toArray, List.set_cons_zero, List.set_cons_succ]
          iterate 6 (refine tkF ?_ rfl (by kernel_rfl) (by kernel_rfl) (fun _ _ _ h => h) ?_ hHeld ?_; rotate_left; (· (intro w hSw; (try dsimp only at hSw); go_simp <;> with_reducible rfl)); simp only [Act.put, setF, List.setIfInBounds_toArray, List.set_cons_zero, List.set_cons_succ])
          refine runI 8 rfl (by kernel_rfl) (by kernel_rfl) (fun K hK => ?_)
          have HK := UC hK
          clear hK hHeld
          go_simp
          refine (UB UND _ ((UB U4).below q5).name ((UB H4).below q5).name).mono ?_
          rintro e w6 ⟨rfl, b6⟩
          have q6 := UG q5 b6
          go_simp
          refine (UB HK).out _ _ ⟨⟨UM (UE q6 (UB K4)), UJ (UE q6 (UB X4))⟩, VH (UW (UB HC4) hbl' q6)⟩ (fun hHeld => ?_)
          clear HK K
          try simp only [List.setIfInBounds_toArray, List.set_cons_zero, List.set_cons_succ]
          iterate 4 (refine tkF ?_ rfl (by kernel_rfl) (by kernel_rfl) (fun _ _ _ h => h) ?_ hHeld ?_; rotate_left; (· (intro w hSw; (try dsimp only at hSw); go_simp <;> with_reducible rfl)); simp only [Act.put, setF, List.setIfInBounds_toArray, List.set_cons_zero, List.set_cons_succ])
          refine tkF (.bool true) rfl (by kernel_rfl) (by kernel_rfl) (fun _ _ _ h => h) ?_ hHeld ?_; (· (intro w hSw; (try dsimp only at hSw); go_simp)); simp only [Act.put, setF, List.setIfInBounds_toArray, List.set_cons_zero, List.set_cons_succ]
          refine tkF (.bool true) rfl (by kernel_rfl) (by kernel_rfl) (fun _ _ _ h => h) ?_ hHeld ?_; (· (intro w hSw; (try dsimp only at hSw); go_simp)); simp only [Act.put, setF, List.setIfInBounds_toArray, List.set_cons_zero, List.set_cons_succ]
          iterate 2 (refine tkF ?_ rfl (by kernel_rfl) (by kernel_rfl) (fun _ _ _ h => h) ?_ hHeld ?_; rotate_left; (· (intro w hSw; (try dsimp only at hSw); go_simp <;> with_reducible rfl)); simp only [Act.put, setF, List.setIfInBounds_toArray, List.set_cons_zero, List.set_cons_succ])
          refine tkF (.int .i64 (k0 + 1 : Nat)) rfl (by kernel_rfl) (by kernel_rfl) (fun _ _ _ h => h) ?_ hHeld ?_; (· (intro w hSw; (try dsimp only at hSw); go_simp)); simp only [Act.put, setF, List.setIfInBounds_toArray, List.set_cons_zero, List.set_cons_succ]
          refine tkF (.int .i64 (k0 : Nat)) rfl (by kernel_rfl) (by kernel_rfl) (fun _ _ _ h => h) ?_ hHeld ?_; (· (intro w hSw; (try dsimp only at hSw); go_simp)); simp only [Act.put, setF, List.setIfInBounds_toArray, List.set_cons_zero, List.set_cons_succ]
          refine tkF (.pointer (some ⟨b, off + k0 * 7, none⟩)) rfl (by kernel_rfl) (by kernel_rfl) (fun _ _ _ h => h) ?_ hHeld ?_; (· (intro w hSw; (try dsimp only at hSw); go_simp)); simp only [Act.put, setF, List.setIfInBounds_toArray, List.set_cons_zero, List.set_cons_succ]
          iterate 2 (refine tkF ?_ rfl (by kernel_rfl) (by kernel_rfl) (fun _ _ _ h => h) ?_ hHeld ?_; rotate_left; (· (intro w hSw; (try dsimp only at hSw); go_simp <;> with_reducible rfl)); simp only [Act.put, setF, List.setIfInBounds_toArray, List.set_cons_zero, List.set_cons_succ])
          refine runI 22 rfl (by kernel_rfl) (by kernel_rfl) (fun K hK => ?_)
          have HK := UC hK
          clear hK hHeld
          go_simp
          refine (UB CMP _ ((UB U4').below q6) ((UB U4).below q6)).mono ?_
          rintro e w7 ⟨rfl, b7⟩
          have q7 := UG q6 b7
          go_simp
          refine (UB HK).out _ _ ⟨⟨UM (UE q7 (UB K4)), UJ (UE q7 (UB X4))⟩, VH (UW (UB HC4) hbl' q7)⟩ (fun hHeld => ?_)
          clear HK K
          try simp only [List.setIfInBounds_toArray, List.set_cons_zero, List.set_cons_succ]
          refine tkF (.bool false) rfl (by kernel_rfl) (by kernel_rfl) (fun _ _ _ h => h) ?_ hHeld ?_; (· (intro w hSw; (try dsimp only at hSw); go_simp)); simp only [Act.put, setF, List.setIfInBounds_toArray, List.set_cons_zero, List.set_cons_succ]
          refine tkF (.bool false) rfl (by kernel_rfl) (by kernel_rfl) (fun _ _ _ h => h) ?_ hHeld ?_; (· (intro w hSw; (try dsimp only at hSw); go_simp)); simp only [Act.put, setF, List.setIfInBounds_toArray, List.set_cons_zero, List.set_cons_succ]
          iterate 5 (refine tkF ?_ rfl (by kernel_rfl) (by kernel_rfl) (fun _ _ _ h => h) ?_ hHeld ?_; rotate_left; (· (intro w hSw; (try dsimp only at hSw); go_simp <;> with_reducible rfl)); simp only [Act.put, setF, List.setIfInBounds_toArray, List.set_cons_zero, List.set_cons_succ])
          refine runI 30 rfl (by kernel_rfl) (by kernel_rfl) (fun K hK => ?_)
          have HK := UC hK
          clear hK hHeld
          go_simp
          refine (UB ALO _ ((UB H4).below q7).recs).mono ?_
          rintro e w8 ⟨rfl, b8⟩
          have q8 := UG q7 b8
          go_simp
          refine (UB HK).out _ _ ⟨⟨UM (UE q8 (UB K4)), UJ (UE q8 (UB X4))⟩, VH (UW (UB HC4) hbl' q8)⟩ (fun hHeld => ?_)
          clear HK K
          try simp only [List.setIfInBounds_toArray, List.set_cons_zero, List.set_cons_succ]
          iterate 2 (refine tkF ?_ rfl (by kernel_rfl) (by kernel_rfl) (fun _ _ _ h => h) ?_ hHeld ?_; rotate_left; (· (intro w hSw; (try dsimp only at hSw); go_simp <;> with_reducible rfl)); simp only [Act.put, setF, List.setIfInBounds_toArray, List.set_cons_zero, List.set_cons_succ])
          refine wpAnyH_done (by kernel_rfl) ?_ _
          clear hHeld
          have hsoa := UB HSOA
          have X8 := UC (UE q8 (UB X4))
          have K8 := UC (UE q8 (UB K4))
          have N8 := UC (((UB U4).below q8).name)
          have M8 := UC (((UB H4).below q8).name)
          have bw8 := UG bw4 q8
          have bb8 := UG bb4 q8
          have hgd : ∀ (hso : rk.type = 6 → cmpN rk.name o = 0), ∀ j, j < k0 + 1 + 1 → Mw o rs j := fun hso j hj => by
           by_cases e : j = k0 + 1
           ·subst e
            exact ⟨by rw [UB HRK]; exact UB OKK, by rw [UB HRK]; exact UB HUN, UB HNX, UB HALO, by rw [UB HRK]; exact hso⟩
           ·exact UB hall j (by omega)
          have HGD := UC hgd
          clear HSOA hgd
          obtain ⟨p0, p1, p2, p3, p4, p5, p6⟩ := UJ (UB X8)
          obtain ⟨r0, r1⟩ := UM (UB K8)
          clear X4 K4 U4 H4 RK UND ALO
          by_cases h6 : rk.type = 6
          ·rw [if_pos h6] at hsoa
           have e6 : (rk.type == 6) = true := by rw [h6]; rfl
           have HS1 := UC hsoa
           have H6 := UC h6
           clear h6 hsoa
           by_cases hc0 : cmpN rk.name o = 0
           ·have CN0 := UB CN
            rw [hc0] at CN0
            have G9 := UC (UB HGD (fun _ => hc0))
            clear hc0 CN HGD
            replace CN0 := UC CN0
            go_wp2_with fail
            clear p0 p1 p2 p3 p4 p5 p6 r0 r1
            refine (UB CN0 _ (UB N8) (UB M8)).mono ?_
            rintro e w9 ⟨rfl, b9⟩
            have bw9 := UG bw8 b9
            obtain ⟨r0, r1⟩ := UM (UE b9 (UB K8))
            clear b9
            go_wp2_with fail
            exact ⟨⟨k0 + 1 + 1, by omega, by go_num, by rw [UB HS1]; go_num, G9, bw9⟩, by simp [intOf]; omega⟩
           ·have hz := Dc (UB HOK) (show k0 + 1 < rs.length by rw [UB HN]; exact hlt) (fun g => hc0 (by have := g.soa; rw [UB HRK] at this; exact this (UB H6)))
            rw [UB HZZ] at hz
            subst hz
            have e0 : (cmpN rk.name o != 0) = true := by rw [bne_iff_ne]; exact hc0
            generalize cmpN rk.name o = c9 at *
            clear hc0 HZZ HGD HS1
            go_wp2_with fail
            clear p0 p1 p2 p3 p4 p5 p6 r0 r1
            refine (UB CN _ (UB N8) (UB M8)).mono ?_
            rintro e w9 ⟨rfl, b9⟩
            go_wp2_with fail
            go_ret
            exact ⟨rfl, UG bb8 b9⟩
          ·rw [if_neg h6, Nat.add_zero] at hsoa
           have e6 : (rk.type == 6) = false := by rw [beq_eq_false_iff_ne]; exact h6
           have HS1 := UC hsoa
           have G9 := UC (UB HGD (fun q => absurd q h6))
           clear h6 hsoa HGD
           go_wp2_with fail
           exact ⟨⟨k0 + 1 + 1, by omega, by go_num, by first | (rw [UB HS1]; done) | (rw [UB HS1]; rfl), G9, bw8⟩, by simp [intOf]; omega⟩
        ·have hz := Dc (UB HOK) (show k0 + 1 < rs.length by rw [UB HN]; exact hlt) (fun g => hlt0 (by have := g.next (by omega); rw [show k0 + 1 - 1 = k0 by omega, UB HRP, UB HRK] at this; exact this))
         rw [UB HZZ] at hz
         subst hz
         have hge : 0 ≤ cmpR rp rk := by omega
         generalize cmpR rp rk = cc at *
         replace CMP := UC CMP
         clear hlt0 HZZ HSOA AL CN ALO
         go_wp2_with fail
         clear c0 c1 c2 c3 c4 c5 c6 zc0 zc1
         refine wp_region_held_drew (S := (fun w' => ((w'.cell? ⟨w.heap.size, 0, none⟩ = some (.slice oa o.length oc) ∧ w'.cell? ⟨w.heap.size, 1, none⟩ = some (.slice (some ⟨b, off, none⟩) m rc)) ∧ (w'.cell? ⟨wr.heap.size, 0, none⟩ = some (.slice na rk.name.length nc) ∧ w'.cell? ⟨wr.heap.size, 1, none⟩ = some (.int .i64 rk.type) ∧ w'.cell? ⟨wr.heap.size, 2, none⟩ = some (.int .i64 rk.ttl) ∧ w'.cell? ⟨wr.heap.size, 3, none⟩ = some (.int .i64 rk.addr) ∧ w'.cell? ⟨wr.heap.size, 4, none⟩ = some (.slice ta rk.to.length tc) ∧ w'.cell? ⟨wr.heap.size, 5, none⟩ = some (.slice xa rk.text.length xc) ∧ w'.cell? ⟨wr.heap.size, 6, none⟩ = some (.slice ia rk.nums.length ic))) ∧ (w'.cell? ⟨b, off + k0 * 7, none⟩ = some (.slice na' rp.name.length nc') ∧ w'.cell? ⟨b, off + k0 * 7 + 1, none⟩ = some (.int .i64 rp.type) ∧ w'.cell? ⟨b, off + k0 * 7 + 2, none⟩ = some (.int .i64 rp.ttl) ∧ w'.cell? ⟨b, off + k0 * 7 + 3, none⟩ = some (.int .i64 rp.addr) ∧ w'.cell? ⟨b, off + k0 * 7 + 4, none⟩ = some (.slice ta' rp.to.length tc') ∧ w'.cell? ⟨b, off + k0 * 7 + 5, none⟩ = some (.slice xa' rp.text.length xc') ∧ w'.cell? ⟨b, off + k0 * 7 + 6, none⟩ = some (.slice ia' rp.nums.length ic')))) (by kernel_rfl) ⟨⟨UM (UB K4), UJ (UB X4)⟩, VH (UB HC4)⟩ (fun hHeld => ?_)
         show wpAnyH _ _ _ _ _ 33 #[false, false, false, false, false, false, false, false, false, false, false, false, false, false, false, false, false, false, false, false, false, false, false, false, false, false, false, false, false, false, false, false, false] _ _
         refine tkF ?_ rfl (by kernel_rfl) (by kernel_rfl) (fun _ _ _ h => h) ?_ hHeld ?_; rotate_left; (· (intro w hSw; (try dsimp only at hSw); go_simp <;> with_reducible rfl)); simp only [Act.put, setF, List.setIfInBounds_toArray, List.set_cons_zero, List.set_cons_succ]
         refine runI 1 rfl (by kernel_rfl) (by kernel_rfl) (fun K hK => ?_)
         have HK := UC hK
         clear hK hHeld
         go_simp
         refine (UB RK).mono ?_
         rintro e w5 ⟨rfl, q5⟩
         go_simp
         refine (UB HK).out _ _ ⟨⟨UM (UE q5 (UB K4)), UJ (UE q5 (UB X4))⟩, VH (UW (UB HC4) hbl' q5)⟩ (fun hHeld => ?_)
         clear HK K
         try simp only [List.setIfInBounds_toArray, List.set_cons_zero, List.set_cons_succ]
         iterate 6 (refine tkF ?_ rfl (by kernel_rfl) (by kernel_rfl) (fun _ _ _ h => h) ?_ hHeld ?_; rotate_left; (· (intro w hSw; (try dsimp only at hSw); go_simp <;> with_reducible rfl)); simp only [Act.put, setF, List.setIfInBounds_toArray, List.set_cons_zero, List.set_cons_succ])
         refine runI 8 rfl (by kernel_rfl) (by kernel_rfl) (fun K hK => ?_)
         have HK := UC hK
         clear hK hHeld
         go_simp
         refine (UB UND _ ((UB U4).below q5).name ((UB H4).below q5).name).mono ?_
         rintro e w6 ⟨rfl, b6⟩
         have q6 := UG q5 b6
         go_simp
         refine (UB HK).out _ _ ⟨⟨UM (UE q6 (UB K4)), UJ (UE q6 (UB X4))⟩, VH (UW (UB HC4) hbl' q6)⟩ (fun hHeld => ?_)
         clear HK K
         try simp only [List.setIfInBounds_toArray, List.set_cons_zero, List.set_cons_succ]
         iterate 4 (refine tkF ?_ rfl (by kernel_rfl) (by kernel_rfl) (fun _ _ _ h => h) ?_ hHeld ?_; rotate_left; (· (intro w hSw; (try dsimp only at hSw); go_simp <;> with_reducible rfl)); simp only [Act.put, setF, List.setIfInBounds_toArray, List.set_cons_zero, List.set_cons_succ])
         refine tkF (.bool true) rfl (by kernel_rfl) (by kernel_rfl) (fun _ _ _ h => h) ?_ hHeld ?_; (· (intro w hSw; (try dsimp only at hSw); go_simp)); simp only [Act.put, setF, List.setIfInBounds_toArray, List.set_cons_zero, List.set_cons_succ]
         refine tkF (.bool true) rfl (by kernel_rfl) (by kernel_rfl) (fun _ _ _ h => h) ?_ hHeld ?_; (· (intro w hSw; (try dsimp only at hSw); go_simp)); simp only [Act.put, setF, List.setIfInBounds_toArray, List.set_cons_zero, List.set_cons_succ]
         iterate 2 (refine tkF ?_ rfl (by kernel_rfl) (by kernel_rfl) (fun _ _ _ h => h) ?_ hHeld ?_; rotate_left; (· (intro w hSw; (try dsimp only at hSw); go_simp <;> with_reducible rfl)); simp only [Act.put, setF, List.setIfInBounds_toArray, List.set_cons_zero, List.set_cons_succ])
         refine tkF (.int .i64 (k0 + 1 : Nat)) rfl (by kernel_rfl) (by kernel_rfl) (fun _ _ _ h => h) ?_ hHeld ?_; (· (intro w hSw; (try dsimp only at hSw); go_simp)); simp only [Act.put, setF, List.setIfInBounds_toArray, List.set_cons_zero, List.set_cons_succ]
         refine tkF (.int .i64 (k0 : Nat)) rfl (by kernel_rfl) (by kernel_rfl) (fun _ _ _ h => h) ?_ hHeld ?_; (· (intro w hSw; (try dsimp only at hSw); go_simp)); simp only [Act.put, setF, List.setIfInBounds_toArray, List.set_cons_zero, List.set_cons_succ]
         refine tkF (.pointer (some ⟨b, off + k0 * 7, none⟩)) rfl (by kernel_rfl) (by kernel_rfl) (fun _ _ _ h => h) ?_ hHeld ?_; (· (intro w hSw; (try dsimp only at hSw); go_simp)); simp only [Act.put, setF, List.setIfInBounds_toArray, List.set_cons_zero, List.set_cons_succ]
         iterate 2 (refine tkF ?_ rfl (by kernel_rfl) (by kernel_rfl) (fun _ _ _ h => h) ?_ hHeld ?_; rotate_left; (· (intro w hSw; (try dsimp only at hSw); go_simp <;> with_reducible rfl)); simp only [Act.put, setF, List.setIfInBounds_toArray, List.set_cons_zero, List.set_cons_succ])
         refine runI 22 rfl (by kernel_rfl) (by kernel_rfl) (fun K hK => ?_)
         have HK := UC hK
         clear hK hHeld
         go_simp
         refine (UB CMP _ ((UB U4').below q6) ((UB U4).below q6)).mono ?_
         rintro e w7 ⟨rfl, b7⟩
         have q7 := UG q6 b7
         go_simp
         refine (UB HK).out _ _ ⟨⟨UM (UE q7 (UB K4)), UJ (UE q7 (UB X4))⟩, VH (UW (UB HC4) hbl' q7)⟩ (fun hHeld => ?_)
         clear HK K
         try simp only [List.setIfInBounds_toArray, List.set_cons_zero, List.set_cons_succ]
         refine tkF (.bool true) rfl (by kernel_rfl) (by kernel_rfl) (fun _ _ _ h => h) ?_ hHeld ?_; (· (intro w hSw; (try dsimp only at hSw); go_simp)); simp only [Act.put, setF, List.setIfInBounds_toArray, List.set_cons_zero, List.set_cons_succ]
         refine tkF (.bool true) rfl (by kernel_rfl) (by kernel_rfl) (fun _ _ _ h => h) ?_ hHeld ?_; (· (intro w hSw; (try dsimp only at hSw); go_simp)); simp only [Act.put, setF, List.setIfInBounds_toArray, List.set_cons_zero, List.set_cons_succ]
         iterate 2 (refine tkF ?_ rfl (by kernel_rfl) (by kernel_rfl) (fun _ _ _ h => h) ?_ hHeld ?_; rotate_left; (· (intro w hSw; (try dsimp only at hSw); go_simp <;> with_reducible rfl)); simp only [Act.put, setF, List.setIfInBounds_toArray, List.set_cons_zero, List.set_cons_succ])
         iterate 5 (refine skF rfl (by kernel_rfl) (by kernel_rfl) (fun _ _ _ h => h) hHeld ?_; simp only [Act.put, setF, List.setIfInBounds_toArray, List.set_cons_zero, List.set_cons_succ])
         refine tkF ?_ rfl (by kernel_rfl) (by kernel_rfl) (fun _ _ _ h => h) ?_ hHeld ?_; rotate_left; (· (intro w hSw; (try dsimp only at hSw); go_simp <;> with_reducible rfl)); simp only [Act.put, setF, List.setIfInBounds_toArray, List.set_cons_zero, List.set_cons_succ]
         refine wpAnyH_done (by kernel_rfl) ?_ _
         clear hHeld
         go_wp2_with fail
         go_ret
         exact ⟨rfl, UG bb4 q7⟩
    ·obtain rfl : k = m := by omega
     have hz := Ta (UB HOK) (by rw [UB HN]; omega) (by rw [UB HN]; exact UB hall)
     rw [UB HZZ, UB HN] at hz
     have h1 := Uf (soas rs k)
     rw [← hz] at h1
     clear hz HZZ
     obtain ⟨zc0, zc1⟩ := UM (UE hb (UB K1))
     go_wp2
     go_ret
     exact ⟨rfl, UG bb1 hb⟩
  ·rw [Lq (by omega)]
   have h60' : (60 : Int) < rs.length := by omega
   go_enter Tryz.func6, Tryz.ntmps6
   go_wp2_with fail
   generalize w.alloc (.cells #[.slice oa o.length oc, .slice ra rs.length rc] 28) = W at *
   refine (UB NO).mono ?_
   rintro e w1 ⟨rfl, b1⟩
   obtain ⟨d0, d1⟩ := UM (UE b1 (UB K0))
   go_wp2_with fail
   go_ret
   exact ⟨rfl, UG b0 b1⟩
end Go.Proofs.YtfneahdnpmamkaaGreat
