/-
  Contract of the program's CacheOk.
-/
import Derived.Test.YtaehfeobfkaicaaGreatCacheGetG21
import Derived.Test.YtaehfeobfkaicaaGreatCacheGetG22
import Derived.Test.YtaehfeobfkaicaaGreatCacheGetG15
import Derived.Test.YtaehfeobfkaicaaGreatCacheGetG20
namespace Go.Proofs.YtaehfeobfkaicaaGreat
open Go.RowKit
set_option linter.unusedVariables false

set_option maxHeartbeats 8000000 in
set_option maxRecDepth 100000 in
theorem implCacheOk_has {v : Value} {c : Ca} {w : World} (h : HasSs w v c.slots) :
  Calls Tryz.prog 34 #[.agg #[.int .i64 c.now, .int .i64 c.turn, v]] w fun e w' => e = .returned (.bool (cacheOk c)) ∧ Below w.heap.size w w' := by
 obtain ⟨a, ca, rfl, hla, hma⟩ := h.form
 unfold maxLen at hma
 have HX := UC (fun i (hi : i < c.slots.length) (hs : slotAt c i = false) (hh : headB c = true) => (show cacheOk c = false by unfold cacheOk; rw [rangeAll_no hi hs, Bool.false_and, Bool.and_false]))
 have HY := UC (fun (hs : ∀ j, j < c.slots.length → slotAt c j = true) (hh : headB c = true) => (show cacheOk c = apartB c.slots by unfold cacheOk; rw [hh, rangeAll_yes hs, Bool.true_and, Bool.true_and]))
 have HH := UC (fun (hh : headB c = false) => (show cacheOk c = false by unfold cacheOk; rw [hh, Bool.false_and]))
 have hhd : headB c = (decide (0 ≤ c.now ∧ c.now ≤ 1000000) && (decide (0 ≤ c.turn ∧ c.turn ≤ 1000000) && decide (c.slots.length ≤ 8))) := rfl
 have HSA := UC (show ∀ i, slotAt c i = (slotB (c.slots.getD i VK) c.now c.turn && (decide (i = 0) || aheadB (c.slots.getD (i - 1) VK) (c.slots.getD i VK))) from fun i => rfl)
 have UA := fun (hl : c.slots.length ≤ 1048576) (w : World) (h : HasSs w (.slice a c.slots.length ca) c.slots) => usedApart_has h hl
 generalize cacheOk c = R at *
 generalize headB c = HD at *
 generalize apartB c.slots = AP at *
 generalize slotAt c = sat at *
 generalize c.now = now at *
 generalize c.turn = turn at *
 generalize c.slots = l at *
 generalize hn : l.length = n at *
 have HN := UC hn
 have H := UC h
 clear hn h
 have b0 := UI (w := w) (.cells #[.int .i64 now, .int .i64 turn, .slice a n ca] 30)
 have KK := UC (heap_alloc_new w (.cells #[.int .i64 now, .int .i64 turn, .slice a n ca] 30))
 have U1 := fun (w : World) => upTo_any now 1000000 w
 have U2 := fun (w : World) => upTo_any turn 1000000 w
 by_cases h1 : 0 ≤ now ∧ now ≤ 1000000
 rotate_left
 ·rw [decide_eq_false h1] at U1 hhd
  have hR := UB HH (by rw [hhd, Bool.false_and])
  subst hR
  replace U1 := UC U1
  clear HX HY HH HSA UA U2 hhd h1
  obtain ⟨d0, d1, d2⟩ := UL (UB KK)
  go_enter Tryz.func34, Tryz.ntmps34
  go_wp2_with fail
  clear d0 d1 d2
  refine (UB U1 _).mono ?_
  rintro e w1 ⟨rfl, rfl⟩
  obtain ⟨d0, d1, d2⟩ := UL (UB KK)
  go_wp2_with fail
  go_ret
  exact ⟨rfl, b0⟩
 rw [decide_eq_true h1] at U1 hhd
 replace U1 := UC U1
 by_cases h2 : 0 ≤ turn ∧ turn ≤ 1000000
 rotate_left
 ·rw [decide_eq_false h2] at U2 hhd
  have hR := UB HH (by rw [hhd, Bool.false_and, Bool.and_false])
  subst hR
  replace U2 := UC U2
  clear HX HY HH HSA UA hhd h1 h2
  obtain ⟨d0, d1, d2⟩ := UL (UB KK)
  go_enter Tryz.func34, Tryz.ntmps34
  go_wp2_with fail
  clear d0 d1 d2
  refine (UB U1 _).mono ?_
  rintro e w1 ⟨rfl, rfl⟩
  obtain ⟨d0, d1, d2⟩ := UL (UB KK)
  go_wp2_with fail
  clear d0 d1 d2
  refine (UB U2 _).mono ?_
  rintro e w2 ⟨rfl, rfl⟩
  obtain ⟨d0, d1, d2⟩ := UL (UB KK)
  go_wp2_with fail
  go_ret
  exact ⟨rfl, b0⟩
 rw [decide_eq_true h2] at U2 hhd
 replace U2 := UC U2
 by_cases h3 : n ≤ 8
 rotate_left
 ·have hR := UB HH (by rw [hhd, decide_eq_false h3]; rfl)
  have h3' : (8 : Int) < n := by omega
  subst hR
  clear HX HY HH HSA UA hhd h1 h2 h3
  obtain ⟨d0, d1, d2⟩ := UL (UB KK)
  go_enter Tryz.func34, Tryz.ntmps34
  go_wp2_with fail
  clear d0 d1 d2
  refine (UB U1 _).mono ?_
  rintro e w1 ⟨rfl, rfl⟩
  obtain ⟨d0, d1, d2⟩ := UL (UB KK)
  go_wp2_with fail
  clear d0 d1 d2
  refine (UB U2 _).mono ?_
  rintro e w2 ⟨rfl, rfl⟩
  obtain ⟨d0, d1, d2⟩ := UL (UB KK)
  go_wp2_with fail
  go_ret
  exact ⟨rfl, b0⟩
 have h3' : ¬ (8 : Int) < n := by omega
 have hHD : HD = true := by rw [hhd, decide_eq_true h3]; rfl
 clear hhd
 obtain ⟨hn0, hn1⟩ := h1
 have H0 := UC hn0
 have H1 := UC hn1
 replace UA := UC (UA (by omega))
 clear h2 hn0 hn1 HH
 replace HX := UC (fun i hi hs => UB HX i hi hs hHD)
 replace HY := UC (fun hs => UB HY hs hHD)
 clear hHD
 obtain ⟨d0, d1, d2⟩ := UL (UB KK)
 go_enter Tryz.func34, Tryz.ntmps34
 go_wp2_with fail
 clear d0 d1 d2
 refine (UB U1 _).mono ?_
 rintro e w1 ⟨rfl, rfl⟩
 obtain ⟨d0, d1, d2⟩ := UL (UB KK)
 go_wp2_with fail
 clear d0 d1 d2
 refine (UB U2 _).mono ?_
 rintro e w2 ⟨rfl, rfl⟩
 obtain ⟨d0, d1, d2⟩ := UL (UB KK)
 go_wp2_with fail
 clear d0 d1 d2
 generalize w.alloc (.cells #[.int .i64 now, .int .i64 turn, .slice a n ca] 30) = W at *
 have zW := b0.size
 have zK := VC (UB KK)
 go_loopw [24] (fun i wr => ∃ k : Nat, k ≤ n ∧ i = .int .i64 k ∧ Hid (∀ j, j < k → sat j = true) ∧ Below W.heap.size W wr) (fun i _ => n - (intOf i).toNat)
 case atStart => exact ⟨0, Nat.zero_le _, rfl, UC (fun j hj => absurd hj (Nat.not_lt_zero _)), Below.refl _ _⟩
 case round =>
  clear h3' U1 U2
  obtain ⟨k, hk, rfl, hall, hb⟩ := hrel
  have bw := UG b0 hb
  have KR := UC (UE hb (UB KK))
  have HR := UC (VF (UB H) bw)
  by_cases hlt : k < n
  ·have hone := UC (fun (hs : sat k = true) => (show ∀ j, j < k + 1 → sat j = true from fun j hj => by
     by_cases e : j = k
     ·subst e; exact hs
     ·exact UB hall j (by omega)))
   have HSI := UC (UB HSA k)
   have HXK := UC (UB HX k hlt)
   have HPR := UC (fun (h : 0 < k) => (show nameOk (l.getD (k - 1) VK).name = true by have := UB hall (k - 1) (by omega); rw [UB HSA, Bool.and_eq_true] at this; exact slotB_name this.1))
   clear hall
   obtain ⟨b, off, vs, rfl, hbl, hc, vn, vr, rfl, hu⟩ := (UB HR).here (k := k) (by rw [UB HN]; exact hlt)
   obtain ⟨na, nc, rfl, _⟩ := hu.name.form
   obtain ⟨ra, rc, rfl, _⟩ := hu.rrs.form
   have SO := fun (w : World) (h : HasS2 w (.slice na (l.getD k VK).name.length nc) (.slice ra (l.getD k VK).rrs.length rc) (l.getD k VK)) => slotOk_has (turn := turn) h (UB H0) (UB H1)
   have HSN := UC (fun (h : slotB (l.getD k VK) now turn = true) => slotB_name h)
   generalize sat k = SI at *
   have ba := UI (w := wr) (.cells #[.slice na (l.getD k VK).name.length nc, .int .i64 (l.getD k VK).type, .int .i64 (l.getD k VK).kind, .slice ra (l.getD k VK).rrs.length rc, .int .i64 (l.getD k VK).rank, .int .i64 (l.getD k VK).till, .int .i64 (l.getD k VK).used] 71)
   have bd := UX (w := wr.alloc (.cells #[.slice na (l.getD k VK).name.length nc, .int .i64 (l.getD k VK).type, .int .i64 (l.getD k VK).kind, .slice ra (l.getD k VK).rrs.length rc, .int .i64 (l.getD k VK).rank, .int .i64 (l.getD k VK).till, .int .i64 (l.getD k VK).used] 71))
   have bb := UG ba bd
   have KD := UC (UE bb (UB KR))
   have K1 := UC (UE bd (heap_alloc_new wr (.cells #[.slice na (l.getD k VK).name.length nc, .int .i64 (l.getD k VK).type, .int .i64 (l.getD k VK).kind, .slice ra (l.getD k VK).rrs.length rc, .int .i64 (l.getD k VK).rank, .int .i64 (l.getD k VK).till, .int .i64 (l.getD k VK).used] 71)))
   have HU := UC (hu.below bb)
   have hbw := UG hb bb
   have hbW := UG bw bb
   have hbld := Nat.lt_of_lt_of_le hbl bb.size
   by_cases hk0 : k = 0
   ·subst hk0
    rw [Nat.zero_mul, Nat.add_zero] at hc
    obtain ⟨c0, c1, c2, c3, c4, c5, c6⟩ := VH hc
    clear HPR hc hu hb bw hbl HSN
    generalize l.getD 0 VK = rk at *
    have hsi : SI = slotB rk now turn := by rw [UB HSI]; simp
    clear HSI
    generalize slotB rk now turn = G at *
    replace SO := UC SO
    cases G with
    | false =>
     have hR := UB HXK hsi
     subst hR
     clear hone HXK hsi
     go_wp2_with fail
     clear c0 c1 c2 c3 c4 c5 c6
     refine startF 22 (S := (fun w' => (w'.cell? ⟨w.heap.size, 0, none⟩ = some (.int .i64 now) ∧ w'.cell? ⟨w.heap.size, 1, none⟩ = some (.int .i64 turn) ∧ w'.cell? ⟨w.heap.size, 2, none⟩ = some (.slice (some ⟨b, off, none⟩) n ca)) ∧ (w'.cell? ⟨wr.heap.size, 0, none⟩ = some (.slice na rk.name.length nc) ∧ w'.cell? ⟨wr.heap.size, 1, none⟩ = some (.int .i64 rk.type) ∧ w'.cell? ⟨wr.heap.size, 2, none⟩ = some (.int .i64 rk.kind) ∧ w'.cell? ⟨wr.heap.size, 3, none⟩ = some (.slice ra rk.rrs.length rc) ∧ w'.cell? ⟨wr.heap.size, 4, none⟩ = some (.int .i64 rk.rank) ∧ w'.cell? ⟨wr.heap.size, 5, none⟩ = some (.int .i64 rk.till) ∧ w'.cell? ⟨wr.heap.size, 6, none⟩ = some (.int .i64 rk.used)))) (by kernel_rfl) rfl ⟨UL (UB KD), UJ (UB K1)⟩ (fun hHeld => ?_)
     simp only [List.replicate]
     repeat ((first | (refine tkF ?_ rfl (by kernel_rfl) (by rfl) (fun _ _ _ h => h) ?_ hHeld ?_; rotate_left; · (intro w hSw; (try dsimp only at hSw); go_simp <;> with_reducible rfl)) | refine skF rfl (by kernel_rfl) (by rfl) (fun _ _ _ h => h) hHeld ?_); simp only [Act.put, setF, List.setIfInBounds_toArray, List.set_cons_zero, List.set_cons_succ])
     refine runI 5 rfl (by kernel_rfl) (by kernel_rfl) (fun K hK => ?_)
     have HK := UC hK
     clear hK hHeld
     go_simp
     refine (UB SO _ (UB HU)).mono ?_
     rintro e w5 ⟨rfl, b5⟩
     refine (UB HK).out _ _ ⟨UL (UE b5 (UB KD)), UJ (UE b5 (UB K1))⟩ (fun hHeld => ?_)
     clear HK K
     simp only [List.setIfInBounds_toArray, List.set_cons_zero, List.set_cons_succ]
     repeat ((first | (refine tkF ?_ rfl (by kernel_rfl) (by rfl) (fun _ _ _ h => h) ?_ hHeld ?_; rotate_left; · (intro w hSw; (try dsimp only at hSw); go_simp <;> with_reducible rfl)) | refine skF rfl (by kernel_rfl) (by rfl) (fun _ _ _ h => h) hHeld ?_); simp only [Act.put, setF, List.setIfInBounds_toArray, List.set_cons_zero, List.set_cons_succ])
     refine wpAnyH_done (by kernel_rfl) ?_ _
     clear hHeld
     go_wp2_with fail
     go_ret
     exact ⟨rfl, UG hbW b5⟩
    | true =>
     have HS := UC (UB hone hsi)
     clear hone HXK hsi
     go_wp2_with fail
     clear c0 c1 c2 c3 c4 c5 c6
     refine startF 22 (S := (fun w' => (w'.cell? ⟨w.heap.size, 0, none⟩ = some (.int .i64 now) ∧ w'.cell? ⟨w.heap.size, 1, none⟩ = some (.int .i64 turn) ∧ w'.cell? ⟨w.heap.size, 2, none⟩ = some (.slice (some ⟨b, off, none⟩) n ca)) ∧ (w'.cell? ⟨wr.heap.size, 0, none⟩ = some (.slice na rk.name.length nc) ∧ w'.cell? ⟨wr.heap.size, 1, none⟩ = some (.int .i64 rk.type) ∧ w'.cell? ⟨wr.heap.size, 2, none⟩ = some (.int .i64 rk.kind) ∧ w'.cell? ⟨wr.heap.size, 3, none⟩ = some (.slice ra rk.rrs.length rc) ∧ w'.cell? ⟨wr.heap.size, 4, none⟩ = some (.int .i64 rk.rank) ∧ w'.cell? ⟨wr.heap.size, 5, none⟩ = some (.int .i64 rk.till) ∧ w'.cell? ⟨wr.heap.size, 6, none⟩ = some (.int .i64 rk.used)))) (by kernel_rfl) rfl ⟨UL (UB KD), UJ (UB K1)⟩ (fun hHeld => ?_)
     simp only [List.replicate]
     repeat ((first | (refine tkF ?_ rfl (by kernel_rfl) (by rfl) (fun _ _ _ h => h) ?_ hHeld ?_; rotate_left; · (intro w hSw; (try dsimp only at hSw); go_simp <;> with_reducible rfl)) | refine skF rfl (by kernel_rfl) (by rfl) (fun _ _ _ h => h) hHeld ?_); simp only [Act.put, setF, List.setIfInBounds_toArray, List.set_cons_zero, List.set_cons_succ])
     refine runI 5 rfl (by kernel_rfl) (by kernel_rfl) (fun K hK => ?_)
     have HK := UC hK
     clear hK hHeld
     go_simp
     refine (UB SO _ (UB HU)).mono ?_
     rintro e w5 ⟨rfl, b5⟩
     refine (UB HK).out _ _ ⟨UL (UE b5 (UB KD)), UJ (UE b5 (UB K1))⟩ (fun hHeld => ?_)
     clear HK K
     simp only [List.setIfInBounds_toArray, List.set_cons_zero, List.set_cons_succ]
     repeat ((first | (refine tkF ?_ rfl (by kernel_rfl) (by rfl) (fun _ _ _ h => h) ?_ hHeld ?_; rotate_left; · (intro w hSw; (try dsimp only at hSw); go_simp <;> with_reducible rfl)) | refine skF rfl (by kernel_rfl) (by rfl) (fun _ _ _ h => h) hHeld ?_); simp only [Act.put, setF, List.setIfInBounds_toArray, List.set_cons_zero, List.set_cons_succ])
     refine wpAnyH_done (by kernel_rfl) ?_ _
     clear hHeld
     go_wp2_with fail
     exact ⟨⟨0 + 1, by omega, by go_num, UC (UB HS), UG hbw b5⟩, by simp [intOf]; omega⟩
   ·obtain ⟨k0, hke⟩ : ∃ k0, k = k0 + 1 := ⟨k - 1, by omega⟩
    have hpn := UB HPR (by omega)
    rw [show k - 1 = k0 by omega] at hpn HSI
    rw [decide_eq_false hk0, Bool.false_or] at HSI
    obtain ⟨b', off', vs', hbe, hbl', hp, vn', vr', hvs', hu'⟩ := (UB HR).here (k := k0) (by rw [UB HN]; omega)
    simp only [Option.some.injEq, Addr.mk.injEq, and_true] at hbe
    obtain ⟨rfl, rfl⟩ := hbe
    subst hvs'
    obtain ⟨na', nc', rfl, _⟩ := hu'.name.form
    obtain ⟨ra', rc', rfl, _⟩ := hu'.rrs.form
    have HP := UC (UW hp hbl bb)
    have HUP := UC (hu'.below bb)
    obtain ⟨c0, c1, c2, c3, c4, c5, c6⟩ := VH hc
    have SC := fun (w : World) (h1 : HasS2 w (.slice na' (l.getD k0 VK).name.length nc') (.slice ra' (l.getD k0 VK).rrs.length rc') (l.getD k0 VK)) (h2 : HasS2 w (.slice na (l.getD k VK).name.length nc) (.slice ra (l.getD k VK).rrs.length rc) (l.getD k VK)) => slotCmp_has h1 h2
    have HAH := UC (fun (h : nameOk (l.getD k VK).name = true) => slotCmp_ahead hpn h)
    have hkp : (0 : Int) < (k : Nat) := by omega
    have hkpn : 0 < k := by omega
    have hsub : ((k : Nat) : Int) - 1 = (k0 : Nat) := by omega
    have hwr : IntKind.i64.wrap (k0 : Int) = (k0 : Nat) := wrap_small k0 (by omega)
    have hkm : (k0 : Int) < n := by omega
    have HKE := UC hke
    clear HPR hc hp hu hu' hb bw hbl hbl' hke hk0 hpn
    generalize l.getD k VK = rk at *
    generalize l.getD k0 VK = rp at *
    generalize slotCmpI rp rk = N at *
    generalize aheadB rp rk = AH at *
    replace SC := UC SC
    cases hG : slotB rk now turn with
    | false =>
     rw [hG] at SO HSI
     replace SO := UC SO
     have hR := UB HXK (by rw [UB HSI, Bool.false_and])
     subst hR
     clear hone HXK HSI hG HSN HAH
     go_wp2_with fail
     clear c0 c1 c2 c3 c4 c5 c6
     refine startF 22 (S := (fun w' => (w'.cell? ⟨w.heap.size, 0, none⟩ = some (.int .i64 now) ∧ w'.cell? ⟨w.heap.size, 1, none⟩ = some (.int .i64 turn) ∧ w'.cell? ⟨w.heap.size, 2, none⟩ = some (.slice (some ⟨b, off, none⟩) n ca)) ∧ (w'.cell? ⟨wr.heap.size, 0, none⟩ = some (.slice na rk.name.length nc) ∧ w'.cell? ⟨wr.heap.size, 1, none⟩ = some (.int .i64 rk.type) ∧ w'.cell? ⟨wr.heap.size, 2, none⟩ = some (.int .i64 rk.kind) ∧ w'.cell? ⟨wr.heap.size, 3, none⟩ = some (.slice ra rk.rrs.length rc) ∧ w'.cell? ⟨wr.heap.size, 4, none⟩ = some (.int .i64 rk.rank) ∧ w'.cell? ⟨wr.heap.size, 5, none⟩ = some (.int .i64 rk.till) ∧ w'.cell? ⟨wr.heap.size, 6, none⟩ = some (.int .i64 rk.used)) ∧ (w'.cell? ⟨b, off + k0 * 7, none⟩ = some (.slice na' rp.name.length nc') ∧ w'.cell? ⟨b, off + k0 * 7 + 1, none⟩ = some (.int .i64 rp.type) ∧ w'.cell? ⟨b, off + k0 * 7 + 2, none⟩ = some (.int .i64 rp.kind) ∧ w'.cell? ⟨b, off + k0 * 7 + 3, none⟩ = some (.slice ra' rp.rrs.length rc') ∧ w'.cell? ⟨b, off + k0 * 7 + 4, none⟩ = some (.int .i64 rp.rank) ∧ w'.cell? ⟨b, off + k0 * 7 + 5, none⟩ = some (.int .i64 rp.till) ∧ w'.cell? ⟨b, off + k0 * 7 + 6, none⟩ = some (.int .i64 rp.used)))) (by kernel_rfl) rfl ⟨UL (UB KD), UJ (UB K1), VH (UB HP)⟩ (fun hHeld => ?_)
     simp only [List.replicate]
     repeat ((first | (refine tkF ?_ rfl (by kernel_rfl) (by rfl) (fun _ _ _ h => h) ?_ hHeld ?_; rotate_left; · (intro w hSw; (try dsimp only at hSw); go_simp <;> with_reducible rfl)) | refine skF rfl (by kernel_rfl) (by rfl) (fun _ _ _ h => h) hHeld ?_); simp only [Act.put, setF, List.setIfInBounds_toArray, List.set_cons_zero, List.set_cons_succ])
     refine runI 5 rfl (by kernel_rfl) (by kernel_rfl) (fun K hK => ?_)
     have HK := UC hK
     clear hK hHeld
     go_simp
     refine (UB SO _ (UB HU)).mono ?_
     rintro e w5 ⟨rfl, b5⟩
     refine (UB HK).out _ _ ⟨UL (UE b5 (UB KD)), UJ (UE b5 (UB K1)), VH (UW (UB HP) hbld b5)⟩ (fun hHeld => ?_)
     clear HK K
     simp only [List.setIfInBounds_toArray, List.set_cons_zero, List.set_cons_succ]
     repeat ((first | (refine tkF ?_ rfl (by kernel_rfl) (by rfl) (fun _ _ _ h => h) ?_ hHeld ?_; rotate_left; · (intro w hSw; (try dsimp only at hSw); go_simp <;> with_reducible rfl)) | refine skF rfl (by kernel_rfl) (by rfl) (fun _ _ _ h => h) hHeld ?_); simp only [Act.put, setF, List.setIfInBounds_toArray, List.set_cons_zero, List.set_cons_succ])
     refine wpAnyH_done (by kernel_rfl) ?_ _
     clear hHeld
     go_wp2_with fail
     go_ret
     exact ⟨rfl, UG hbW b5⟩
    | true =>
     have hah := UB HAH (UB HSN hG)
     rw [hG] at SO HSI
     rw [Bool.true_and] at HSI
     replace SO := UC SO
     clear HSN HAH hG
     by_cases hN : N < 0
     ·rw [decide_eq_true hN] at hah
      subst hah
      have HS := UC (UB hone (UB HSI))
      have hN' : decide (0 ≤ N) = false := decide_eq_false (by omega)
      clear hone HXK HSI
      go_wp2_with fail
      clear c0 c1 c2 c3 c4 c5 c6
      refine startF 22 (S := (fun w' => (w'.cell? ⟨w.heap.size, 0, none⟩ = some (.int .i64 now) ∧ w'.cell? ⟨w.heap.size, 1, none⟩ = some (.int .i64 turn) ∧ w'.cell? ⟨w.heap.size, 2, none⟩ = some (.slice (some ⟨b, off, none⟩) n ca)) ∧ (w'.cell? ⟨wr.heap.size, 0, none⟩ = some (.slice na rk.name.length nc) ∧ w'.cell? ⟨wr.heap.size, 1, none⟩ = some (.int .i64 rk.type) ∧ w'.cell? ⟨wr.heap.size, 2, none⟩ = some (.int .i64 rk.kind) ∧ w'.cell? ⟨wr.heap.size, 3, none⟩ = some (.slice ra rk.rrs.length rc) ∧ w'.cell? ⟨wr.heap.size, 4, none⟩ = some (.int .i64 rk.rank) ∧ w'.cell? ⟨wr.heap.size, 5, none⟩ = some (.int .i64 rk.till) ∧ w'.cell? ⟨wr.heap.size, 6, none⟩ = some (.int .i64 rk.used)) ∧ (w'.cell? ⟨b, off + k0 * 7, none⟩ = some (.slice na' rp.name.length nc') ∧ w'.cell? ⟨b, off + k0 * 7 + 1, none⟩ = some (.int .i64 rp.type) ∧ w'.cell? ⟨b, off + k0 * 7 + 2, none⟩ = some (.int .i64 rp.kind) ∧ w'.cell? ⟨b, off + k0 * 7 + 3, none⟩ = some (.slice ra' rp.rrs.length rc') ∧ w'.cell? ⟨b, off + k0 * 7 + 4, none⟩ = some (.int .i64 rp.rank) ∧ w'.cell? ⟨b, off + k0 * 7 + 5, none⟩ = some (.int .i64 rp.till) ∧ w'.cell? ⟨b, off + k0 * 7 + 6, none⟩ = some (.int .i64 rp.used)))) (by kernel_rfl) rfl ⟨UL (UB KD), UJ (UB K1), VH (UB HP)⟩ (fun hHeld => ?_)
      simp only [List.replicate]
      repeat ((first | (refine tkF ?_ rfl (by kernel_rfl) (by rfl) (fun _ _ _ h => h) ?_ hHeld ?_; rotate_left; · (intro w hSw; (try dsimp only at hSw); go_simp <;> with_reducible rfl)) | refine skF rfl (by kernel_rfl) (by rfl) (fun _ _ _ h => h) hHeld ?_); simp only [Act.put, setF, List.setIfInBounds_toArray, List.set_cons_zero, List.set_cons_succ])
      refine runI 5 rfl (by kernel_rfl) (by kernel_rfl) (fun K hK => ?_)
      have HK := UC hK
      clear hK hHeld
      go_simp
      refine (UB SO _ (UB HU)).mono ?_
      rintro e w5 ⟨rfl, b5⟩
      refine (UB HK).out _ _ ⟨UL (UE b5 (UB KD)), UJ (UE b5 (UB K1)), VH (UW (UB HP) hbld b5)⟩ (fun hHeld => ?_)
      clear HK K
      simp only [List.setIfInBounds_toArray, List.set_cons_zero, List.set_cons_succ]
      repeat ((first | (refine tkF ?_ rfl (by kernel_rfl) (by rfl) (fun _ _ _ h => h) ?_ hHeld ?_; rotate_left; · (intro w hSw; (try dsimp only at hSw); go_simp <;> with_reducible rfl)) | refine skF rfl (by kernel_rfl) (by rfl) (fun _ _ _ h => h) hHeld ?_); simp only [Act.put, setF, List.setIfInBounds_toArray, List.set_cons_zero, List.set_cons_succ])
      refine runI 18 rfl (by kernel_rfl) (by kernel_rfl) (fun K hK => ?_)
      have HK := UC hK
      clear hK hHeld
      go_simp
      refine (UB SC _ ((UB HUP).below b5) ((UB HU).below b5)).mono ?_
      rintro e w6 ⟨rfl, b6⟩
      have q6 := UG b5 b6
      refine (UB HK).out _ _ ⟨UL (UE q6 (UB KD)), UJ (UE q6 (UB K1)), VH (UW (UB HP) hbld q6)⟩ (fun hHeld => ?_)
      clear HK K
      simp only [List.setIfInBounds_toArray, List.set_cons_zero, List.set_cons_succ]
      repeat ((first | (refine tkF ?_ rfl (by kernel_rfl) (by rfl) (fun _ _ _ h => h) ?_ hHeld ?_; rotate_left; · (intro w hSw; (try dsimp only at hSw); go_simp <;> with_reducible rfl)) | refine skF rfl (by kernel_rfl) (by rfl) (fun _ _ _ h => h) hHeld ?_); simp only [Act.put, setF, List.setIfInBounds_toArray, List.set_cons_zero, List.set_cons_succ])
      refine wpAnyH_done (by kernel_rfl) ?_ _
      clear hHeld
      clear hwr hsub
      go_wp2_with fail
      exact ⟨⟨k + 1, by omega, by go_num, UC (UB HS), UG hbw q6⟩, by simp [intOf]; omega⟩
     ·rw [decide_eq_false hN] at hah
      subst hah
      have hR := UB HXK (UB HSI)
      subst hR
      have hN' : decide (0 ≤ N) = true := decide_eq_true (by omega)
      have hN2 : 0 ≤ N := by omega
      clear hone HXK HSI hN
      go_wp2_with fail
      clear c0 c1 c2 c3 c4 c5 c6
      refine startF 22 (S := (fun w' => (w'.cell? ⟨w.heap.size, 0, none⟩ = some (.int .i64 now) ∧ w'.cell? ⟨w.heap.size, 1, none⟩ = some (.int .i64 turn) ∧ w'.cell? ⟨w.heap.size, 2, none⟩ = some (.slice (some ⟨b, off, none⟩) n ca)) ∧ (w'.cell? ⟨wr.heap.size, 0, none⟩ = some (.slice na rk.name.length nc) ∧ w'.cell? ⟨wr.heap.size, 1, none⟩ = some (.int .i64 rk.type) ∧ w'.cell? ⟨wr.heap.size, 2, none⟩ = some (.int .i64 rk.kind) ∧ w'.cell? ⟨wr.heap.size, 3, none⟩ = some (.slice ra rk.rrs.length rc) ∧ w'.cell? ⟨wr.heap.size, 4, none⟩ = some (.int .i64 rk.rank) ∧ w'.cell? ⟨wr.heap.size, 5, none⟩ = some (.int .i64 rk.till) ∧ w'.cell? ⟨wr.heap.size, 6, none⟩ = some (.int .i64 rk.used)) ∧ (w'.cell? ⟨b, off + k0 * 7, none⟩ = some (.slice na' rp.name.length nc') ∧ w'.cell? ⟨b, off + k0 * 7 + 1, none⟩ = some (.int .i64 rp.type) ∧ w'.cell? ⟨b, off + k0 * 7 + 2, none⟩ = some (.int .i64 rp.kind) ∧ w'.cell? ⟨b, off + k0 * 7 + 3, none⟩ = some (.slice ra' rp.rrs.length rc') ∧ w'.cell? ⟨b, off + k0 * 7 + 4, none⟩ = some (.int .i64 rp.rank) ∧ w'.cell? ⟨b, off + k0 * 7 + 5, none⟩ = some (.int .i64 rp.till) ∧ w'.cell? ⟨b, off + k0 * 7 + 6, none⟩ = some (.int .i64 rp.used)))) (by kernel_rfl) rfl ⟨UL (UB KD), UJ (UB K1), VH (UB HP)⟩ (fun hHeld => ?_)
      simp only [List.replicate]
      repeat ((first | (refine tkF ?_ rfl (by kernel_rfl) (by rfl) (fun _ _ _ h => h) ?_ hHeld ?_; rotate_left; · (intro w hSw; (try dsimp only at hSw); go_simp <;> with_reducible rfl)) | refine skF rfl (by kernel_rfl) (by rfl) (fun _ _ _ h => h) hHeld ?_); simp only [Act.put, setF, List.setIfInBounds_toArray, List.set_cons_zero, List.set_cons_succ])
      refine runI 5 rfl (by kernel_rfl) (by kernel_rfl) (fun K hK => ?_)
      have HK := UC hK
      clear hK hHeld
      go_simp
      refine (UB SO _ (UB HU)).mono ?_
      rintro e w5 ⟨rfl, b5⟩
      refine (UB HK).out _ _ ⟨UL (UE b5 (UB KD)), UJ (UE b5 (UB K1)), VH (UW (UB HP) hbld b5)⟩ (fun hHeld => ?_)
      clear HK K
      simp only [List.setIfInBounds_toArray, List.set_cons_zero, List.set_cons_succ]
      repeat ((first | (refine tkF ?_ rfl (by kernel_rfl) (by rfl) (fun _ _ _ h => h) ?_ hHeld ?_; rotate_left; · (intro w hSw; (try dsimp only at hSw); go_simp <;> with_reducible rfl)) | refine skF rfl (by kernel_rfl) (by rfl) (fun _ _ _ h => h) hHeld ?_); simp only [Act.put, setF, List.setIfInBounds_toArray, List.set_cons_zero, List.set_cons_succ])
      refine runI 18 rfl (by kernel_rfl) (by kernel_rfl) (fun K hK => ?_)
      have HK := UC hK
      clear hK hHeld
      go_simp
      refine (UB SC _ ((UB HUP).below b5) ((UB HU).below b5)).mono ?_
      rintro e w6 ⟨rfl, b6⟩
      have q6 := UG b5 b6
      refine (UB HK).out _ _ ⟨UL (UE q6 (UB KD)), UJ (UE q6 (UB K1)), VH (UW (UB HP) hbld q6)⟩ (fun hHeld => ?_)
      clear HK K
      simp only [List.setIfInBounds_toArray, List.set_cons_zero, List.set_cons_succ]
      repeat ((first | (refine tkF ?_ rfl (by kernel_rfl) (by rfl) (fun _ _ _ h => h) ?_ hHeld ?_; rotate_left; · (intro w hSw; (try dsimp only at hSw); go_simp <;> with_reducible rfl)) | refine skF rfl (by kernel_rfl) (by rfl) (fun _ _ _ h => h) hHeld ?_); simp only [Act.put, setF, List.setIfInBounds_toArray, List.set_cons_zero, List.set_cons_succ])
      refine wpAnyH_done (by kernel_rfl) ?_ _
      clear hHeld
      go_wp2_with fail
      go_ret
      exact ⟨rfl, UG hbW q6⟩
  ·obtain rfl : k = n := by omega
   have hR := UB HY (UB hall)
   subst hR
   obtain ⟨d0, d1, d2⟩ := UL (UB KR)
   go_wp2_with fail
   refine (UB UA _ (UB HR)).mono ?_
   rintro e w5 ⟨rfl, b5⟩
   go_wp2_with fail
   go_ret
   exact ⟨rfl, UG bw b5⟩
end Go.Proofs.YtaehfeobfkaicaaGreat
