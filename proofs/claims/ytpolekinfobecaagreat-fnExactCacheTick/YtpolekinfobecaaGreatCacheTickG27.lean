/-
  Contract of the program's CacheOk.
-/
import Derived.Test.YtpolekinfobecaaGreatCacheTickG25
import Derived.Test.YtpolekinfobecaaGreatCacheTickG26
import Derived.Test.YtpolekinfobecaaGreatCacheTickG16
import Derived.Test.YtpolekinfobecaaGreatCacheTickG23
namespace Go.Proofs.YtpolekinfobecaaGreat
open Go.RowKit
set_option linter.unusedVariables false

set_option maxHeartbeats 8000000 in
set_option maxRecDepth 100000 in
theorem implCacheOk_has {v : Value} {c : Ca} {w : World} (h : HasSs w v c.slots) :
  Calls Tryz.prog 9 #[.agg #[.int .i64 c.now, .int .i64 c.turn, v]] w fun e w' => e = .returned (.bool (cacheOk c)) ∧ Below w.heap.size w w' := by
 obtain ⟨a, ca, rfl, hla, hma⟩ := h.form
 unfold maxLen at hma
 have HX := hide (fun i (hi : i < c.slots.length) (hs : slotAt c i = false) (hh : headB c = true) => (show cacheOk c = false by unfold cacheOk; rw [rangeAll_no hi hs, Bool.false_and, Bool.and_false]))
 have HY := hide (fun (hs : ∀ j, j < c.slots.length → slotAt c j = true) (hh : headB c = true) => (show cacheOk c = apartB c.slots by unfold cacheOk; rw [hh, rangeAll_yes hs, Bool.true_and, Bool.true_and]))
 have HH := hide (fun (hh : headB c = false) => (show cacheOk c = false by unfold cacheOk; rw [hh, Bool.false_and]))
 have hhd : headB c = (decide (0 ≤ c.now ∧ c.now ≤ 1000000) && (decide (0 ≤ c.turn ∧ c.turn ≤ 1000000) && decide (c.slots.length ≤ 8))) := rfl
 have HSA := hide (show ∀ i, slotAt c i = (slotB (c.slots.getD i sltZ) c.now c.turn && (decide (i = 0) || aheadB (c.slots.getD (i - 1) sltZ) (c.slots.getD i sltZ))) from fun i => rfl)
 have UA := fun (hl : c.slots.length ≤ 1048576) (w : World) (h : HasSs w (.slice a c.slots.length ca) c.slots) => usedApart_has h hl
 generalize cacheOk c = R at *
 generalize headB c = HD at *
 generalize apartB c.slots = AP at *
 generalize slotAt c = sat at *
 generalize c.now = now at *
 generalize c.turn = turn at *
 generalize c.slots = l at *
 generalize hn : l.length = n at *
 have HN := hide hn
 have H := hide h
 clear hn h
 have b0 := below_alloc (w := w) (.cells #[.int .i64 now, .int .i64 turn, .slice a n ca] 29)
 have KK := hide (heap_alloc_new w (.cells #[.int .i64 now, .int .i64 turn, .slice a n ca] 29))
 have U1 := fun (w : World) => upTo_any now 1000000 w
 have U2 := fun (w : World) => upTo_any turn 1000000 w
 by_cases h1 : 0 ≤ now ∧ now ≤ 1000000
 rotate_left
 ·rw [decide_eq_false h1] at U1 hhd
  have hR := unhide HH (by rw [hhd, Bool.false_and])
  subst hR
  replace U1 := hide U1
  clear HX HY HH HSA UA U2 hhd h1
  obtain ⟨d0, d1, d2⟩ := cells3 (unhide KK)
  go_enter Tryz.func9, Tryz.ntmps9
  go_wp2_with fail
  clear d0 d1 d2
  refine (unhide U1 _).mono ?_
  rintro e w1 ⟨rfl, rfl⟩
  obtain ⟨d0, d1, d2⟩ := cells3 (unhide KK)
  go_wp2_with fail
  go_ret
  exact ⟨rfl, b0⟩
 rw [decide_eq_true h1] at U1 hhd
 replace U1 := hide U1
 by_cases h2 : 0 ≤ turn ∧ turn ≤ 1000000
 rotate_left
 ·rw [decide_eq_false h2] at U2 hhd
  have hR := unhide HH (by rw [hhd, Bool.false_and, Bool.and_false])
  subst hR
  replace U2 := hide U2
  clear HX HY HH HSA UA hhd h1 h2
  obtain ⟨d0, d1, d2⟩ := cells3 (unhide KK)
  go_enter Tryz.func9, Tryz.ntmps9
  go_wp2_with fail
  clear d0 d1 d2
  refine (unhide U1 _).mono ?_
  rintro e w1 ⟨rfl, rfl⟩
  obtain ⟨d0, d1, d2⟩ := cells3 (unhide KK)
  go_wp2_with fail
  clear d0 d1 d2
  refine (unhide U2 _).mono ?_
  rintro e w2 ⟨rfl, rfl⟩
  obtain ⟨d0, d1, d2⟩ := cells3 (unhide KK)
  go_wp2_with fail
  go_ret
  exact ⟨rfl, b0⟩
 rw [decide_eq_true h2] at U2 hhd
 replace U2 := hide U2
 by_cases h3 : n ≤ 8
 rotate_left
 ·have hR := unhide HH (by rw [hhd, decide_eq_false h3]; rfl)
  have h3' : (8 : Int) < n := by omega
  subst hR
  clear HX HY HH HSA UA hhd h1 h2 h3
  obtain ⟨d0, d1, d2⟩ := cells3 (unhide KK)
  go_enter Tryz.func9, Tryz.ntmps9
  go_wp2_with fail
  clear d0 d1 d2
  refine (unhide U1 _).mono ?_
  rintro e w1 ⟨rfl, rfl⟩
  obtain ⟨d0, d1, d2⟩ := cells3 (unhide KK)
  go_wp2_with fail
  clear d0 d1 d2
  refine (unhide U2 _).mono ?_
  rintro e w2 ⟨rfl, rfl⟩
  obtain ⟨d0, d1, d2⟩ := cells3 (unhide KK)
  go_wp2_with fail
  go_ret
  exact ⟨rfl, b0⟩
 have h3' : ¬ (8 : Int) < n := by omega
 have hHD : HD = true := by rw [hhd, decide_eq_true h3]; rfl
 clear hhd
 obtain ⟨hn0, hn1⟩ := h1
 have H0 := hide hn0
 have H1 := hide hn1
 replace UA := hide (UA (by omega))
 clear h2 hn0 hn1 HH
 replace HX := hide (fun i hi hs => unhide HX i hi hs hHD)
 replace HY := hide (fun hs => unhide HY hs hHD)
 clear hHD
 obtain ⟨d0, d1, d2⟩ := cells3 (unhide KK)
 go_enter Tryz.func9, Tryz.ntmps9
 go_wp2_with fail
 clear d0 d1 d2
 refine (unhide U1 _).mono ?_
 rintro e w1 ⟨rfl, rfl⟩
 obtain ⟨d0, d1, d2⟩ := cells3 (unhide KK)
 go_wp2_with fail
 clear d0 d1 d2
 refine (unhide U2 _).mono ?_
 rintro e w2 ⟨rfl, rfl⟩
 obtain ⟨d0, d1, d2⟩ := cells3 (unhide KK)
 go_wp2_with fail
 clear d0 d1 d2
 generalize w.alloc (.cells #[.int .i64 now, .int .i64 turn, .slice a n ca] 29) = W at *
 have zW := b0.size
 have zK := block_lt (unhide KK)
 go_loopw [24] (fun i wr => ∃ k : Nat, k ≤ n ∧ i = .int .i64 k ∧ Hid (∀ j, j < k → sat j = true) ∧ Below W.heap.size W wr) (fun i _ => n - (intOf i).toNat)
 case atStart => exact ⟨0, Nat.zero_le _, rfl, hide (fun j hj => absurd hj (Nat.not_lt_zero _)), Below.refl _ _⟩
 case round =>
  clear h3' U1 U2
  obtain ⟨k, hk, rfl, hall, hb⟩ := hrel
  have bw := below_next b0 hb
  have KR := hide (block_kept hb (unhide KK))
  have HR := hide (keptSs (unhide H) bw)
  by_cases hlt : k < n
  ·have hone := hide (fun (hs : sat k = true) => (show ∀ j, j < k + 1 → sat j = true from fun j hj => by
     by_cases e : j = k
     ·subst e; exact hs
     ·exact unhide hall j (by omega)))
   have HSI := hide (unhide HSA k)
   have HXK := hide (unhide HX k hlt)
   have HPR := hide (fun (h : 0 < k) => (show nameOk (l.getD (k - 1) sltZ).name = true by have := unhide hall (k - 1) (by omega); rw [unhide HSA, Bool.and_eq_true] at this; exact slotB_name this.1))
   clear hall
   obtain ⟨b, off, vs, rfl, hbl, hc, vn, vr, rfl, hu⟩ := (unhide HR).here (k := k) (by rw [unhide HN]; exact hlt)
   obtain ⟨na, nc, rfl, _⟩ := hu.name.form
   obtain ⟨ra, rc, rfl, _⟩ := hu.rrs.form
   have SO := fun (w : World) (h : HasS2 w (.slice na (l.getD k sltZ).name.length nc) (.slice ra (l.getD k sltZ).rrs.length rc) (l.getD k sltZ)) => slotOk_has (turn := turn) h (unhide H0) (unhide H1)
   have HSN := hide (fun (h : slotB (l.getD k sltZ) now turn = true) => slotB_name h)
   generalize sat k = SI at *
   have ba := below_alloc (w := wr) (.cells #[.slice na (l.getD k sltZ).name.length nc, .int .i64 (l.getD k sltZ).type, .int .i64 (l.getD k sltZ).kind, .slice ra (l.getD k sltZ).rrs.length rc, .int .i64 (l.getD k sltZ).rank, .int .i64 (l.getD k sltZ).till, .int .i64 (l.getD k sltZ).used] 47)
   have bd := below_drew (w := wr.alloc (.cells #[.slice na (l.getD k sltZ).name.length nc, .int .i64 (l.getD k sltZ).type, .int .i64 (l.getD k sltZ).kind, .slice ra (l.getD k sltZ).rrs.length rc, .int .i64 (l.getD k sltZ).rank, .int .i64 (l.getD k sltZ).till, .int .i64 (l.getD k sltZ).used] 47))
   have bb := below_next ba bd
   have KD := hide (block_kept bb (unhide KR))
   have K1 := hide (block_kept bd (heap_alloc_new wr (.cells #[.slice na (l.getD k sltZ).name.length nc, .int .i64 (l.getD k sltZ).type, .int .i64 (l.getD k sltZ).kind, .slice ra (l.getD k sltZ).rrs.length rc, .int .i64 (l.getD k sltZ).rank, .int .i64 (l.getD k sltZ).till, .int .i64 (l.getD k sltZ).used] 47)))
   have HU := hide (hu.below bb)
   have hbw := below_next hb bb
   have hbW := below_next bw bb
   have hbld := Nat.lt_of_lt_of_le hbl bb.size
   by_cases hk0 : k = 0
   ·subst hk0
    rw [Nat.zero_mul, Nat.add_zero] at hc
    obtain ⟨c0, c1, c2, c3, c4, c5, c6⟩ := range7 hc
    clear HPR hc hu hb bw hbl HSN
    generalize l.getD 0 sltZ = rk at *
    have hsi : SI = slotB rk now turn := by rw [unhide HSI]; simp
    clear HSI
    generalize slotB rk now turn = G at *
    replace SO := hide SO
    cases G with
    | false =>
     have hR := unhide HXK hsi
     subst hR
     clear hone HXK hsi
     go_wp2_with fail
     clear c0 c1 c2 c3 c4 c5 c6
     refine startF 22 (S := (fun w' => (w'.cell? ⟨w.heap.size, 0, none⟩ = some (.int .i64 now) ∧ w'.cell? ⟨w.heap.size, 1, none⟩ = some (.int .i64 turn) ∧ w'.cell? ⟨w.heap.size, 2, none⟩ = some (.slice (some ⟨b, off, none⟩) n ca)) ∧ (w'.cell? ⟨wr.heap.size, 0, none⟩ = some (.slice na rk.name.length nc) ∧ w'.cell? ⟨wr.heap.size, 1, none⟩ = some (.int .i64 rk.type) ∧ w'.cell? ⟨wr.heap.size, 2, none⟩ = some (.int .i64 rk.kind) ∧ w'.cell? ⟨wr.heap.size, 3, none⟩ = some (.slice ra rk.rrs.length rc) ∧ w'.cell? ⟨wr.heap.size, 4, none⟩ = some (.int .i64 rk.rank) ∧ w'.cell? ⟨wr.heap.size, 5, none⟩ = some (.int .i64 rk.till) ∧ w'.cell? ⟨wr.heap.size, 6, none⟩ = some (.int .i64 rk.used)))) (by kernel_rfl) rfl ⟨cells3 (unhide KD), cells7 (unhide K1)⟩ (fun hHeld => ?_)
     simp only [List.replicate]
     repeat ((first | (refine tkF ?_ rfl (by kernel_rfl) (by rfl) (fun _ _ _ h => h) ?_ hHeld ?_; rotate_left; · (intro w hSw; (try dsimp only at hSw); go_simp <;> with_reducible rfl)) | refine skF rfl (by kernel_rfl) (by rfl) (fun _ _ _ h => h) hHeld ?_); simp only [Act.put, setF, List.setIfInBounds_toArray, List.set_cons_zero, List.set_cons_succ])
     refine runI 5 rfl (by kernel_rfl) (by kernel_rfl) (fun K hK => ?_)
     have HK := hide hK
     clear hK hHeld
     go_simp
     refine (unhide SO _ (unhide HU)).mono ?_
     rintro e w5 ⟨rfl, b5⟩
     refine (unhide HK).out _ _ ⟨cells3 (block_kept b5 (unhide KD)), cells7 (block_kept b5 (unhide K1))⟩ (fun hHeld => ?_)
     clear HK K
     simp only [List.setIfInBounds_toArray, List.set_cons_zero, List.set_cons_succ]
     repeat ((first | (refine tkF ?_ rfl (by kernel_rfl) (by rfl) (fun _ _ _ h => h) ?_ hHeld ?_; rotate_left; · (intro w hSw; (try dsimp only at hSw); go_simp <;> with_reducible rfl)) | refine skF rfl (by kernel_rfl) (by rfl) (fun _ _ _ h => h) hHeld ?_); simp only [Act.put, setF, List.setIfInBounds_toArray, List.set_cons_zero, List.set_cons_succ])
     refine wpAnyH_done (by kernel_rfl) ?_ _
     clear hHeld
     go_wp2_with fail
     go_ret
     exact ⟨rfl, below_next hbW b5⟩
    | true =>
     have HS := hide (unhide hone hsi)
     clear hone HXK hsi
     go_wp2_with fail
     clear c0 c1 c2 c3 c4 c5 c6
     refine startF 22 (S := (fun w' => (w'.cell? ⟨w.heap.size, 0, none⟩ = some (.int .i64 now) ∧ w'.cell? ⟨w.heap.size, 1, none⟩ = some (.int .i64 turn) ∧ w'.cell? ⟨w.heap.size, 2, none⟩ = some (.slice (some ⟨b, off, none⟩) n ca)) ∧ (w'.cell? ⟨wr.heap.size, 0, none⟩ = some (.slice na rk.name.length nc) ∧ w'.cell? ⟨wr.heap.size, 1, none⟩ = some (.int .i64 rk.type) ∧ w'.cell? ⟨wr.heap.size, 2, none⟩ = some (.int .i64 rk.kind) ∧ w'.cell? ⟨wr.heap.size, 3, none⟩ = some (.slice ra rk.rrs.length rc) ∧ w'.cell? ⟨wr.heap.size, 4, none⟩ = some (.int .i64 rk.rank) ∧ w'.cell? ⟨wr.heap.size, 5, none⟩ = some (.int .i64 rk.till) ∧ w'.cell? ⟨wr.heap.size, 6, none⟩ = some (.int .i64 rk.used)))) (by kernel_rfl) rfl ⟨cells3 (unhide KD), cells7 (unhide K1)⟩ (fun hHeld => ?_)
     simp only [List.replicate]
     repeat ((first | (refine tkF ?_ rfl (by kernel_rfl) (by rfl) (fun _ _ _ h => h) ?_ hHeld ?_; rotate_left; · (intro w hSw; (try dsimp only at hSw); go_simp <;> with_reducible rfl)) | refine skF rfl (by kernel_rfl) (by rfl) (fun _ _ _ h => h) hHeld ?_); simp only [Act.put, setF, List.setIfInBounds_toArray, List.set_cons_zero, List.set_cons_succ])
     refine runI 5 rfl (by kernel_rfl) (by kernel_rfl) (fun K hK => ?_)
     have HK := hide hK
     clear hK hHeld
     go_simp
     refine (unhide SO _ (unhide HU)).mono ?_
     rintro e w5 ⟨rfl, b5⟩
     refine (unhide HK).out _ _ ⟨cells3 (block_kept b5 (unhide KD)), cells7 (block_kept b5 (unhide K1))⟩ (fun hHeld => ?_)
     clear HK K
     simp only [List.setIfInBounds_toArray, List.set_cons_zero, List.set_cons_succ]
     repeat ((first | (refine tkF ?_ rfl (by kernel_rfl) (by rfl) (fun _ _ _ h => h) ?_ hHeld ?_; rotate_left; · (intro w hSw; (try dsimp only at hSw); go_simp <;> with_reducible rfl)) | refine skF rfl (by kernel_rfl) (by rfl) (fun _ _ _ h => h) hHeld ?_); simp only [Act.put, setF, List.setIfInBounds_toArray, List.set_cons_zero, List.set_cons_succ])
     refine wpAnyH_done (by kernel_rfl) ?_ _
     clear hHeld
     go_wp2_with fail
     exact ⟨⟨0 + 1, by omega, by go_num, hide (unhide HS), below_next hbw b5⟩, by simp [intOf]; omega⟩
   ·obtain ⟨k0, hke⟩ : ∃ k0, k = k0 + 1 := ⟨k - 1, by omega⟩
    have hpn := unhide HPR (by omega)
    rw [show k - 1 = k0 by omega] at hpn HSI
    rw [decide_eq_false hk0, Bool.false_or] at HSI
    obtain ⟨b', off', vs', hbe, hbl', hp, vn', vr', hvs', hu'⟩ := (unhide HR).here (k := k0) (by rw [unhide HN]; omega)
    simp only [Option.some.injEq, Addr.mk.injEq, and_true] at hbe
    obtain ⟨rfl, rfl⟩ := hbe
    subst hvs'
    obtain ⟨na', nc', rfl, _⟩ := hu'.name.form
    obtain ⟨ra', rc', rfl, _⟩ := hu'.rrs.form
    have HP := hide (range_below hp hbl bb)
    have HUP := hide (hu'.below bb)
    obtain ⟨c0, c1, c2, c3, c4, c5, c6⟩ := range7 hc
    have SC := fun (w : World) (h1 : HasS2 w (.slice na' (l.getD k0 sltZ).name.length nc') (.slice ra' (l.getD k0 sltZ).rrs.length rc') (l.getD k0 sltZ)) (h2 : HasS2 w (.slice na (l.getD k sltZ).name.length nc) (.slice ra (l.getD k sltZ).rrs.length rc) (l.getD k sltZ)) => slotCmp_has h1 h2
    have HAH := hide (fun (h : nameOk (l.getD k sltZ).name = true) => slotCmp_ahead hpn h)
    have hkp : (0 : Int) < (k : Nat) := by omega
    have hkpn : 0 < k := by omega
    have hsub : ((k : Nat) : Int) - 1 = (k0 : Nat) := by omega
    have hwr : IntKind.i64.wrap (k0 : Int) = (k0 : Nat) := wrap_small k0 (by omega)
    have hkm : (k0 : Int) < n := by omega
    have HKE := hide hke
    clear HPR hc hp hu hu' hb bw hbl hbl' hke hk0 hpn
    generalize l.getD k sltZ = rk at *
    generalize l.getD k0 sltZ = rp at *
    generalize slotCmpI rp rk = N at *
    generalize aheadB rp rk = AH at *
    replace SC := hide SC
    cases hG : slotB rk now turn with
    | false =>
     rw [hG] at SO HSI
     replace SO := hide SO
     have hR := unhide HXK (by rw [unhide HSI, Bool.false_and])
     subst hR
     clear hone HXK HSI hG HSN HAH
     go_wp2_with fail
     clear c0 c1 c2 c3 c4 c5 c6
     refine startF 22 (S := (fun w' => (w'.cell? ⟨w.heap.size, 0, none⟩ = some (.int .i64 now) ∧ w'.cell? ⟨w.heap.size, 1, none⟩ = some (.int .i64 turn) ∧ w'.cell? ⟨w.heap.size, 2, none⟩ = some (.slice (some ⟨b, off, none⟩) n ca)) ∧ (w'.cell? ⟨wr.heap.size, 0, none⟩ = some (.slice na rk.name.length nc) ∧ w'.cell? ⟨wr.heap.size, 1, none⟩ = some (.int .i64 rk.type) ∧ w'.cell? ⟨wr.heap.size, 2, none⟩ = some (.int .i64 rk.kind) ∧ w'.cell? ⟨wr.heap.size, 3, none⟩ = some (.slice ra rk.rrs.length rc) ∧ w'.cell? ⟨wr.heap.size, 4, none⟩ = some (.int .i64 rk.rank) ∧ w'.cell? ⟨wr.heap.size, 5, none⟩ = some (.int .i64 rk.till) ∧ w'.cell? ⟨wr.heap.size, 6, none⟩ = some (.int .i64 rk.used)) ∧ (w'.cell? ⟨b, off + k0 * 7, none⟩ = some (.slice na' rp.name.length nc') ∧ w'.cell? ⟨b, off + k0 * 7 + 1, none⟩ = some (.int .i64 rp.type) ∧ w'.cell? ⟨b, off + k0 * 7 + 2, none⟩ = some (.int .i64 rp.kind) ∧ w'.cell? ⟨b, off + k0 * 7 + 3, none⟩ = some (.slice ra' rp.rrs.length rc') ∧ w'.cell? ⟨b, off + k0 * 7 + 4, none⟩ = some (.int .i64 rp.rank) ∧ w'.cell? ⟨b, off + k0 * 7 + 5, none⟩ = some (.int .i64 rp.till) ∧ w'.cell? ⟨b, off + k0 * 7 + 6, none⟩ = some (.int .i64 rp.used)))) (by kernel_rfl) rfl ⟨cells3 (unhide KD), cells7 (unhide K1), range7 (unhide HP)⟩ (fun hHeld => ?_)
     simp only [List.replicate]
     repeat ((first | (refine tkF ?_ rfl (by kernel_rfl) (by rfl) (fun _ _ _ h => h) ?_ hHeld ?_; rotate_left; · (intro w hSw; (try dsimp only at hSw); go_simp <;> with_reducible rfl)) | refine skF rfl (by kernel_rfl) (by rfl) (fun _ _ _ h => h) hHeld ?_); simp only [Act.put, setF, List.setIfInBounds_toArray, List.set_cons_zero, List.set_cons_succ])
     refine runI 5 rfl (by kernel_rfl) (by kernel_rfl) (fun K hK => ?_)
     have HK := hide hK
     clear hK hHeld
     go_simp
     refine (unhide SO _ (unhide HU)).mono ?_
     rintro e w5 ⟨rfl, b5⟩
     refine (unhide HK).out _ _ ⟨cells3 (block_kept b5 (unhide KD)), cells7 (block_kept b5 (unhide K1)), range7 (range_below (unhide HP) hbld b5)⟩ (fun hHeld => ?_)
     clear HK K
     simp only [List.setIfInBounds_toArray, List.set_cons_zero, List.set_cons_succ]
     repeat ((first | (refine tkF ?_ rfl (by kernel_rfl) (by rfl) (fun _ _ _ h => h) ?_ hHeld ?_; rotate_left; · (intro w hSw; (try dsimp only at hSw); go_simp <;> with_reducible rfl)) | refine skF rfl (by kernel_rfl) (by rfl) (fun _ _ _ h => h) hHeld ?_); simp only [Act.put, setF, List.setIfInBounds_toArray, List.set_cons_zero, List.set_cons_succ])
     refine wpAnyH_done (by kernel_rfl) ?_ _
     clear hHeld
     go_wp2_with fail
     go_ret
     exact ⟨rfl, below_next hbW b5⟩
    | true =>
     have hah := unhide HAH (unhide HSN hG)
     rw [hG] at SO HSI
     rw [Bool.true_and] at HSI
     replace SO := hide SO
     clear HSN HAH hG
     by_cases hN : N < 0
     ·rw [decide_eq_true hN] at hah
      subst hah
      have HS := hide (unhide hone (unhide HSI))
      have hN' : decide (0 ≤ N) = false := decide_eq_false (by omega)
      clear hone HXK HSI
      go_wp2_with fail
      clear c0 c1 c2 c3 c4 c5 c6
      refine startF 22 (S := (fun w' => (w'.cell? ⟨w.heap.size, 0, none⟩ = some (.int .i64 now) ∧ w'.cell? ⟨w.heap.size, 1, none⟩ = some (.int .i64 turn) ∧ w'.cell? ⟨w.heap.size, 2, none⟩ = some (.slice (some ⟨b, off, none⟩) n ca)) ∧ (w'.cell? ⟨wr.heap.size, 0, none⟩ = some (.slice na rk.name.length nc) ∧ w'.cell? ⟨wr.heap.size, 1, none⟩ = some (.int .i64 rk.type) ∧ w'.cell? ⟨wr.heap.size, 2, none⟩ = some (.int .i64 rk.kind) ∧ w'.cell? ⟨wr.heap.size, 3, none⟩ = some (.slice ra rk.rrs.length rc) ∧ w'.cell? ⟨wr.heap.size, 4, none⟩ = some (.int .i64 rk.rank) ∧ w'.cell? ⟨wr.heap.size, 5, none⟩ = some (.int .i64 rk.till) ∧ w'.cell? ⟨wr.heap.size, 6, none⟩ = some (.int .i64 rk.used)) ∧ (w'.cell? ⟨b, off + k0 * 7, none⟩ = some (.slice na' rp.name.length nc') ∧ w'.cell? ⟨b, off + k0 * 7 + 1, none⟩ = some (.int .i64 rp.type) ∧ w'.cell? ⟨b, off + k0 * 7 + 2, none⟩ = some (.int .i64 rp.kind) ∧ w'.cell? ⟨b, off + k0 * 7 + 3, none⟩ = some (.slice ra' rp.rrs.length rc') ∧ w'.cell? ⟨b, off + k0 * 7 + 4, none⟩ = some (.int .i64 rp.rank) ∧ w'.cell? ⟨b, off + k0 * 7 + 5, none⟩ = some (.int .i64 rp.till) ∧ w'.cell? ⟨b, off + k0 * 7 + 6, none⟩ = some (.int .i64 rp.used)))) (by kernel_rfl) rfl ⟨cells3 (unhide KD), cells7 (unhide K1), range7 (unhide HP)⟩ (fun hHeld => ?_)
      simp only [List.replicate]
      repeat ((first | (refine tkF ?_ rfl (by kernel_rfl) (by rfl) (fun _ _ _ h => h) ?_ hHeld ?_; rotate_left; · (intro w hSw; (try dsimp only at hSw); go_simp <;> with_reducible rfl)) | refine skF rfl (by kernel_rfl) (by rfl) (fun _ _ _ h => h) hHeld ?_); simp only [Act.put, setF, List.setIfInBounds_toArray, List.set_cons_zero, List.set_cons_succ])
      refine runI 5 rfl (by kernel_rfl) (by kernel_rfl) (fun K hK => ?_)
      have HK := hide hK
      clear hK hHeld
      go_simp
      refine (unhide SO _ (unhide HU)).mono ?_
      rintro e w5 ⟨rfl, b5⟩
      refine (unhide HK).out _ _ ⟨cells3 (block_kept b5 (unhide KD)), cells7 (block_kept b5 (unhide K1)), range7 (range_below (unhide HP) hbld b5)⟩ (fun hHeld => ?_)
      clear HK K
      simp only [List.setIfInBounds_toArray, List.set_cons_zero, List.set_cons_succ]
      repeat ((first | (refine tkF ?_ rfl (by kernel_rfl) (by rfl) (fun _ _ _ h => h) ?_ hHeld ?_; rotate_left; · (intro w hSw; (try dsimp only at hSw); go_simp <;> with_reducible rfl)) | refine skF rfl (by kernel_rfl) (by rfl) (fun _ _ _ h => h) hHeld ?_); simp only [Act.put, setF, List.setIfInBounds_toArray, List.set_cons_zero, List.set_cons_succ])
      refine runI 18 rfl (by kernel_rfl) (by kernel_rfl) (fun K hK => ?_)
      have HK := hide hK
      clear hK hHeld
      go_simp
      refine (unhide SC _ ((unhide HUP).below b5) ((unhide HU).below b5)).mono ?_
      rintro e w6 ⟨rfl, b6⟩
      have q6 := below_next b5 b6
      refine (unhide HK).out _ _ ⟨cells3 (block_kept q6 (unhide KD)), cells7 (block_kept q6 (unhide K1)), range7 (range_below (unhide HP) hbld q6)⟩ (fun hHeld => ?_)
      clear HK K
      simp only [List.setIfInBounds_toArray, List.set_cons_zero, List.set_cons_succ]
      repeat ((first | (refine tkF ?_ rfl (by kernel_rfl) (by rfl) (fun _ _ _ h => h) ?_ hHeld ?_; rotate_left; · (intro w hSw; (try dsimp only at hSw); go_simp <;> with_reducible rfl)) | refine skF rfl (by kernel_rfl) (by rfl) (fun _ _ _ h => h) hHeld ?_); simp only [Act.put, setF, List.setIfInBounds_toArray, List.set_cons_zero, List.set_cons_succ])
      refine wpAnyH_done (by kernel_rfl) ?_ _
      clear hHeld
      clear hwr hsub
      go_wp2_with fail
      exact ⟨⟨k + 1, by omega, by go_num, hide (unhide HS), below_next hbw q6⟩, by simp [intOf]; omega⟩
     ·rw [decide_eq_false hN] at hah
      subst hah
      have hR := unhide HXK (unhide HSI)
      subst hR
      have hN' : decide (0 ≤ N) = true := decide_eq_true (by omega)
      have hN2 : 0 ≤ N := by omega
      clear hone HXK HSI hN
      go_wp2_with fail
      clear c0 c1 c2 c3 c4 c5 c6
      refine startF 22 (S := (fun w' => (w'.cell? ⟨w.heap.size, 0, none⟩ = some (.int .i64 now) ∧ w'.cell? ⟨w.heap.size, 1, none⟩ = some (.int .i64 turn) ∧ w'.cell? ⟨w.heap.size, 2, none⟩ = some (.slice (some ⟨b, off, none⟩) n ca)) ∧ (w'.cell? ⟨wr.heap.size, 0, none⟩ = some (.slice na rk.name.length nc) ∧ w'.cell? ⟨wr.heap.size, 1, none⟩ = some (.int .i64 rk.type) ∧ w'.cell? ⟨wr.heap.size, 2, none⟩ = some (.int .i64 rk.kind) ∧ w'.cell? ⟨wr.heap.size, 3, none⟩ = some (.slice ra rk.rrs.length rc) ∧ w'.cell? ⟨wr.heap.size, 4, none⟩ = some (.int .i64 rk.rank) ∧ w'.cell? ⟨wr.heap.size, 5, none⟩ = some (.int .i64 rk.till) ∧ w'.cell? ⟨wr.heap.size, 6, none⟩ = some (.int .i64 rk.used)) ∧ (w'.cell? ⟨b, off + k0 * 7, none⟩ = some (.slice na' rp.name.length nc') ∧ w'.cell? ⟨b, off + k0 * 7 + 1, none⟩ = some (.int .i64 rp.type) ∧ w'.cell? ⟨b, off + k0 * 7 + 2, none⟩ = some (.int .i64 rp.kind) ∧ w'.cell? ⟨b, off + k0 * 7 + 3, none⟩ = some (.slice ra' rp.rrs.length rc') ∧ w'.cell? ⟨b, off + k0 * 7 + 4, none⟩ = some (.int .i64 rp.rank) ∧ w'.cell? ⟨b, off + k0 * 7 + 5, none⟩ = some (.int .i64 rp.till) ∧ w'.cell? ⟨b, off + k0 * 7 + 6, none⟩ = some (.int .i64 rp.used)))) (by kernel_rfl) rfl ⟨cells3 (unhide KD), cells7 (unhide K1), range7 (unhide HP)⟩ (fun hHeld => ?_)
      simp only [List.replicate]
      repeat ((first | (refine tkF ?_ rfl (by kernel_rfl) (by rfl) (fun _ _ _ h => h) ?_ hHeld ?_; rotate_left; · (intro w hSw; (try dsimp only at hSw); go_simp <;> with_reducible rfl)) | refine skF rfl (by kernel_rfl) (by rfl) (fun _ _ _ h => h) hHeld ?_); simp only [Act.put, setF, List.setIfInBounds_toArray, List.set_cons_zero, List.set_cons_succ])
      refine runI 5 rfl (by kernel_rfl) (by kernel_rfl) (fun K hK => ?_)
      have HK := hide hK
      clear hK hHeld
      go_simp
      refine (unhide SO _ (unhide HU)).mono ?_
      rintro e w5 ⟨rfl, b5⟩
      refine (unhide HK).out _ _ ⟨cells3 (block_kept b5 (unhide KD)), cells7 (block_kept b5 (unhide K1)), range7 (range_below (unhide HP) hbld b5)⟩ (fun hHeld => ?_)
      clear HK K
      simp only [List.setIfInBounds_toArray, List.set_cons_zero, List.set_cons_succ]
      repeat ((first | (refine tkF ?_ rfl (by kernel_rfl) (by rfl) (fun _ _ _ h => h) ?_ hHeld ?_; rotate_left; · (intro w hSw; (try dsimp only at hSw); go_simp <;> with_reducible rfl)) | refine skF rfl (by kernel_rfl) (by rfl) (fun _ _ _ h => h) hHeld ?_); simp only [Act.put, setF, List.setIfInBounds_toArray, List.set_cons_zero, List.set_cons_succ])
      refine runI 18 rfl (by kernel_rfl) (by kernel_rfl) (fun K hK => ?_)
      have HK := hide hK
      clear hK hHeld
      go_simp
      refine (unhide SC _ ((unhide HUP).below b5) ((unhide HU).below b5)).mono ?_
      rintro e w6 ⟨rfl, b6⟩
      have q6 := below_next b5 b6
      refine (unhide HK).out _ _ ⟨cells3 (block_kept q6 (unhide KD)), cells7 (block_kept q6 (unhide K1)), range7 (range_below (unhide HP) hbld q6)⟩ (fun hHeld => ?_)
      clear HK K
      simp only [List.setIfInBounds_toArray, List.set_cons_zero, List.set_cons_succ]
      repeat ((first | (refine tkF ?_ rfl (by kernel_rfl) (by rfl) (fun _ _ _ h => h) ?_ hHeld ?_; rotate_left; · (intro w hSw; (try dsimp only at hSw); go_simp <;> with_reducible rfl)) | refine skF rfl (by kernel_rfl) (by rfl) (fun _ _ _ h => h) hHeld ?_); simp only [Act.put, setF, List.setIfInBounds_toArray, List.set_cons_zero, List.set_cons_succ])
      refine wpAnyH_done (by kernel_rfl) ?_ _
      clear hHeld
      go_wp2_with fail
      go_ret
      exact ⟨rfl, below_next hbW q6⟩
  ·obtain rfl : k = n := by omega
   have hR := unhide HY (unhide hall)
   subst hR
   obtain ⟨d0, d1, d2⟩ := cells3 (unhide KR)
   go_wp2_with fail
   refine (unhide UA _ (unhide HR)).mono ?_
   rintro e w5 ⟨rfl, b5⟩
   go_wp2_with fail
   go_ret
   exact ⟨rfl, below_next bw b5⟩
end Go.Proofs.YtpolekinfobecaaGreat
