/-
  Contract of the program's holdsItsKind.
-/
import Derived.Test.YtpolekinfobecaaGreatCacheTickG23
import Derived.Test.YtpolekinfobecaaGreatCacheTickG16
namespace Go.Proofs.YtpolekinfobecaaGreat
open Go.RowKit
set_option linter.unusedVariables false

set_option maxHeartbeats 4000000 in
set_option maxRecDepth 100000 in
theorem holds_has {vn vr : Value} {x : Slt} {w : World} (h : HasS2 w vn vr x) (hnm : nameOk x.name = true) :
  Calls Tryz.prog 51 #[.agg #[vn, .int .i64 x.type, .int .i64 x.kind, vr, .int .i64 x.rank, .int .i64 x.till, .int .i64 x.used]] w fun e w' => e = .returned (.bool (holdsB x)) ∧ Below w.heap.size w w' := by
 obtain ⟨na, nc, rfl, _⟩ := h.name.form
 obtain ⟨ra, rc, rfl, _⟩ := h.rrs.form
 unfold holdsB
 by_cases k1 : x.kind = 1
 ·rw [if_pos k1, k1]
  clear k1
  have b0 := below_alloc (w := w) (.cells #[.slice na x.name.length nc, .int .i64 x.type, .int .i64 1, .slice ra x.rrs.length rc, .int .i64 x.rank, .int .i64 x.till, .int .i64 x.used] 47)
  have KK := hide (heap_alloc_new w (.cells #[.slice na x.name.length nc, .int .i64 x.type, .int .i64 1, .slice ra x.rrs.length rc, .int .i64 x.rank, .int .i64 x.till, .int .i64 x.used] 47))
  have H := hide (h.below b0)
  have IS := fun (w : World) (h : HasRs w (.slice ra x.rrs.length rc) x.rrs) => isSet_has h
  clear h
  cases hs : setOk x.rrs with
  | false =>
   rw [hs] at IS
   rw [Bool.false_and]
   replace IS := hide IS
   clear hs hnm
   obtain ⟨d0, d1, d2, d3, d4, d5, d6⟩ := cells7 (unhide KK)
   go_enter Tryz.func51, Tryz.ntmps51
   go_wp2_with fail
   clear d0 d1 d2 d3 d4 d5 d6
   generalize w.alloc (.cells #[.slice na x.name.length nc, .int .i64 x.type, .int .i64 1, .slice ra x.rrs.length rc, .int .i64 x.rank, .int .i64 x.till, .int .i64 x.used] 47) = W at *
   have bd := below_drew (w := W)
   replace b0 := below_next b0 bd
   have KD := hide (block_kept bd (unhide KK))
   have HR := hide ((unhide H).below bd).rrs
   refine startF 25 (S := (fun w' => (w'.cell? ⟨w.heap.size, 0, none⟩ = some (.slice na x.name.length nc) ∧ w'.cell? ⟨w.heap.size, 1, none⟩ = some (.int .i64 x.type) ∧ w'.cell? ⟨w.heap.size, 2, none⟩ = some (.int .i64 1) ∧ w'.cell? ⟨w.heap.size, 3, none⟩ = some (.slice ra x.rrs.length rc) ∧ w'.cell? ⟨w.heap.size, 4, none⟩ = some (.int .i64 x.rank) ∧ w'.cell? ⟨w.heap.size, 5, none⟩ = some (.int .i64 x.till) ∧ w'.cell? ⟨w.heap.size, 6, none⟩ = some (.int .i64 x.used)))) (by kernel_rfl) rfl (cells7 (unhide KD)) (fun hHeld => ?_)
   simp only [List.replicate]
   repeat ((first | (refine tkF ?_ rfl (by kernel_rfl) (by rfl) (fun _ _ _ h => h) ?_ hHeld ?_; rotate_left; · (intro w hSw; (try dsimp only at hSw); go_simp <;> with_reducible rfl)) | refine skF rfl (by kernel_rfl) (by rfl) (fun _ _ _ h => h) hHeld ?_); simp only [Act.put, setF, List.setIfInBounds_toArray, List.set_cons_zero, List.set_cons_succ])
   refine runI 2 rfl (by kernel_rfl) (by kernel_rfl) (fun K hK => ?_)
   have HK := hide hK
   clear hK hHeld
   go_simp
   refine (unhide IS _ (unhide HR)).mono ?_
   rintro e w5 ⟨rfl, b5⟩
   refine (unhide HK).out _ _ (cells7 (block_kept b5 (unhide KD))) (fun hHeld => ?_)
   clear HK K
   simp only [List.setIfInBounds_toArray, List.set_cons_zero, List.set_cons_succ]
   repeat ((first | (refine tkF ?_ rfl (by kernel_rfl) (by rfl) (fun _ _ _ h => h) ?_ hHeld ?_; rotate_left; · (intro w hSw; (try dsimp only at hSw); go_simp <;> with_reducible rfl)) | refine skF rfl (by kernel_rfl) (by rfl) (fun _ _ _ h => h) hHeld ?_); simp only [Act.put, setF, List.setIfInBounds_toArray, List.set_cons_zero, List.set_cons_succ])
   refine wpAnyH_done (by kernel_rfl) ?_ _
   clear hHeld
   go_wp2_with fail
   go_ret
   exact ⟨rfl, below_next b0 b5⟩
  | true =>
   rw [hs] at IS
   rw [Bool.true_and]
   obtain ⟨hrs, hl1⟩ := setOk_rrs hs
   unfold rrsOk at hrs
   rw [Bool.and_eq_true] at hrs
   have hr0 := all_at recZ hrs.2 (k := 0) (by omega)
   have eN : nameCmp (x.rrs.getD 0 recZ).name x.name = cmpN (x.rrs.getD 0 recZ).name x.name := if_pos ⟨rrOk_nameOk hr0, hnm⟩
   obtain ⟨b, off, na0, nc0, ta0, tc0, xa0, xc0, ia0, ic0, rfl, hbl, hz, hu⟩ := (unhide H).rrs.here (k := 0) (by omega)
   rw [Nat.zero_mul, Nat.add_zero] at hz
   have NC := fun (w : World) (h1 : HasL w (.slice na0 (x.rrs.getD 0 recZ).name.length nc0) (x.rrs.getD 0 recZ).name) (h2 : HasL w (.slice na x.name.length nc) x.name) => implNameCmp_has h1 h2
   rw [eN] at NC
   have hl0 : (0 : Int) < x.rrs.length := by omega
   have hnp : 0 < x.rrs.length := by omega
   clear hs hnm hrs hr0 eN hl1
   generalize x.rrs.getD 0 recZ = r0 at *
   generalize cmpN r0.name x.name = N at *
   replace IS := hide IS
   replace NC := hide NC
   generalize x.rrs.length = m at *
   have HZ := hide hz
   have HU := hide hu
   clear hz hu
   by_cases hT : r0.type = x.type
   rotate_left
   ·have qT : (r0.type == x.type) = false := by rw [beq_eq_false_iff_ne]; exact hT
    rw [decide_eq_false hT, Bool.false_and]
    clear hT
    obtain ⟨d0, d1, d2, d3, d4, d5, d6⟩ := cells7 (unhide KK)
    go_enter Tryz.func51, Tryz.ntmps51
    go_wp2_with fail
    clear d0 d1 d2 d3 d4 d5 d6
    generalize w.alloc (.cells #[.slice na x.name.length nc, .int .i64 x.type, .int .i64 1, .slice (some ⟨b, off, none⟩) m rc, .int .i64 x.rank, .int .i64 x.till, .int .i64 x.used] 47) = W at *
    have bd := below_drew (w := W)
    replace b0 := below_next b0 bd
    have KD := hide (block_kept bd (unhide KK))
    have hbld : b < W.drew.heap.size := hbl
    have H0 := hide (range_below (unhide HZ) hbl bd)
    have HR := hide ((unhide H).below bd).rrs
    refine startF 25 (S := (fun w' => (w'.cell? ⟨w.heap.size, 0, none⟩ = some (.slice na x.name.length nc) ∧ w'.cell? ⟨w.heap.size, 1, none⟩ = some (.int .i64 x.type) ∧ w'.cell? ⟨w.heap.size, 2, none⟩ = some (.int .i64 1) ∧ w'.cell? ⟨w.heap.size, 3, none⟩ = some (.slice (some ⟨b, off, none⟩) m rc) ∧ w'.cell? ⟨w.heap.size, 4, none⟩ = some (.int .i64 x.rank) ∧ w'.cell? ⟨w.heap.size, 5, none⟩ = some (.int .i64 x.till) ∧ w'.cell? ⟨w.heap.size, 6, none⟩ = some (.int .i64 x.used)) ∧ (w'.cell? ⟨b, off, none⟩ = some (.slice na0 r0.name.length nc0) ∧ w'.cell? ⟨b, off + 1, none⟩ = some (.int .i64 r0.type) ∧ w'.cell? ⟨b, off + 2, none⟩ = some (.int .i64 r0.ttl) ∧ w'.cell? ⟨b, off + 3, none⟩ = some (.int .i64 r0.addr) ∧ w'.cell? ⟨b, off + 4, none⟩ = some (.slice ta0 r0.to.length tc0) ∧ w'.cell? ⟨b, off + 5, none⟩ = some (.slice xa0 r0.text.length xc0) ∧ w'.cell? ⟨b, off + 6, none⟩ = some (.slice ia0 r0.nums.length ic0)))) (by kernel_rfl) rfl ⟨cells7 (unhide KD), range7 (unhide H0)⟩ (fun hHeld => ?_)
    simp only [List.replicate]
    repeat ((first | (refine tkF ?_ rfl (by kernel_rfl) (by rfl) (fun _ _ _ h => h) ?_ hHeld ?_; rotate_left; · (intro w hSw; (try dsimp only at hSw); go_simp <;> with_reducible rfl)) | refine skF rfl (by kernel_rfl) (by rfl) (fun _ _ _ h => h) hHeld ?_); simp only [Act.put, setF, List.setIfInBounds_toArray, List.set_cons_zero, List.set_cons_succ])
    refine runI 2 rfl (by kernel_rfl) (by kernel_rfl) (fun K hK => ?_)
    have HK := hide hK
    clear hK hHeld
    go_simp
    refine (unhide IS _ (unhide HR)).mono ?_
    rintro e w5 ⟨rfl, b5⟩
    refine (unhide HK).out _ _ ⟨cells7 (block_kept b5 (unhide KD)), range7 (range_below (unhide H0) hbld b5)⟩ (fun hHeld => ?_)
    clear HK K
    simp only [List.setIfInBounds_toArray, List.set_cons_zero, List.set_cons_succ]
    repeat ((first | (refine tkF ?_ rfl (by kernel_rfl) (by rfl) (fun _ _ _ h => h) ?_ hHeld ?_; rotate_left; · (intro w hSw; (try dsimp only at hSw); go_simp <;> with_reducible rfl)) | refine skF rfl (by kernel_rfl) (by rfl) (fun _ _ _ h => h) hHeld ?_); simp only [Act.put, setF, List.setIfInBounds_toArray, List.set_cons_zero, List.set_cons_succ])
    refine wpAnyH_done (by kernel_rfl) ?_ _
    clear hHeld
    go_wp2_with fail
    go_ret
    exact ⟨rfl, below_next b0 b5⟩
   have qT : (r0.type == x.type) = true := by rw [beq_iff_eq]; exact hT
   rw [decide_eq_true hT, Bool.true_and]
   clear hT
   by_cases hN : N = 0
   ·subst hN
    rw [decide_eq_true rfl]
    obtain ⟨d0, d1, d2, d3, d4, d5, d6⟩ := cells7 (unhide KK)
    go_enter Tryz.func51, Tryz.ntmps51
    go_wp2_with fail
    clear d0 d1 d2 d3 d4 d5 d6
    generalize w.alloc (.cells #[.slice na x.name.length nc, .int .i64 x.type, .int .i64 1, .slice (some ⟨b, off, none⟩) m rc, .int .i64 x.rank, .int .i64 x.till, .int .i64 x.used] 47) = W at *
    have bd := below_drew (w := W)
    replace b0 := below_next b0 bd
    have KD := hide (block_kept bd (unhide KK))
    have hbld : b < W.drew.heap.size := hbl
    have H0 := hide (range_below (unhide HZ) hbl bd)
    have HR := hide ((unhide H).below bd)
    have HU0 := hide ((unhide HU).below bd)
    refine startF 25 (S := (fun w' => (w'.cell? ⟨w.heap.size, 0, none⟩ = some (.slice na x.name.length nc) ∧ w'.cell? ⟨w.heap.size, 1, none⟩ = some (.int .i64 x.type) ∧ w'.cell? ⟨w.heap.size, 2, none⟩ = some (.int .i64 1) ∧ w'.cell? ⟨w.heap.size, 3, none⟩ = some (.slice (some ⟨b, off, none⟩) m rc) ∧ w'.cell? ⟨w.heap.size, 4, none⟩ = some (.int .i64 x.rank) ∧ w'.cell? ⟨w.heap.size, 5, none⟩ = some (.int .i64 x.till) ∧ w'.cell? ⟨w.heap.size, 6, none⟩ = some (.int .i64 x.used)) ∧ (w'.cell? ⟨b, off, none⟩ = some (.slice na0 r0.name.length nc0) ∧ w'.cell? ⟨b, off + 1, none⟩ = some (.int .i64 r0.type) ∧ w'.cell? ⟨b, off + 2, none⟩ = some (.int .i64 r0.ttl) ∧ w'.cell? ⟨b, off + 3, none⟩ = some (.int .i64 r0.addr) ∧ w'.cell? ⟨b, off + 4, none⟩ = some (.slice ta0 r0.to.length tc0) ∧ w'.cell? ⟨b, off + 5, none⟩ = some (.slice xa0 r0.text.length xc0) ∧ w'.cell? ⟨b, off + 6, none⟩ = some (.slice ia0 r0.nums.length ic0)))) (by kernel_rfl) rfl ⟨cells7 (unhide KD), range7 (unhide H0)⟩ (fun hHeld => ?_)
    simp only [List.replicate]
    repeat ((first | (refine tkF ?_ rfl (by kernel_rfl) (by rfl) (fun _ _ _ h => h) ?_ hHeld ?_; rotate_left; · (intro w hSw; (try dsimp only at hSw); go_simp <;> with_reducible rfl)) | refine skF rfl (by kernel_rfl) (by rfl) (fun _ _ _ h => h) hHeld ?_); simp only [Act.put, setF, List.setIfInBounds_toArray, List.set_cons_zero, List.set_cons_succ])
    refine runI 2 rfl (by kernel_rfl) (by kernel_rfl) (fun K hK => ?_)
    have HK := hide hK
    clear hK hHeld
    go_simp
    refine (unhide IS _ (unhide HR).rrs).mono ?_
    rintro e w5 ⟨rfl, b5⟩
    refine (unhide HK).out _ _ ⟨cells7 (block_kept b5 (unhide KD)), range7 (range_below (unhide H0) hbld b5)⟩ (fun hHeld => ?_)
    clear HK K
    simp only [List.setIfInBounds_toArray, List.set_cons_zero, List.set_cons_succ]
    repeat ((first | (refine tkF ?_ rfl (by kernel_rfl) (by rfl) (fun _ _ _ h => h) ?_ hHeld ?_; rotate_left; · (intro w hSw; (try dsimp only at hSw); go_simp <;> with_reducible rfl)) | refine skF rfl (by kernel_rfl) (by rfl) (fun _ _ _ h => h) hHeld ?_); simp only [Act.put, setF, List.setIfInBounds_toArray, List.set_cons_zero, List.set_cons_succ])
    refine runI 21 rfl (by kernel_rfl) (by kernel_rfl) (fun K hK => ?_)
    have HK := hide hK
    clear hK hHeld
    go_simp
    refine (unhide NC _ ((unhide HU0).below b5).name ((unhide HR).below b5).name).mono ?_
    rintro e w6 ⟨rfl, b6⟩
    have q6 := below_next b5 b6
    refine (unhide HK).out _ _ ⟨cells7 (block_kept q6 (unhide KD)), range7 (range_below (unhide H0) hbld q6)⟩ (fun hHeld => ?_)
    clear HK K
    simp only [List.setIfInBounds_toArray, List.set_cons_zero, List.set_cons_succ]
    repeat ((first | (refine tkF ?_ rfl (by kernel_rfl) (by rfl) (fun _ _ _ h => h) ?_ hHeld ?_; rotate_left; · (intro w hSw; (try dsimp only at hSw); go_simp <;> with_reducible rfl)) | refine skF rfl (by kernel_rfl) (by rfl) (fun _ _ _ h => h) hHeld ?_); simp only [Act.put, setF, List.setIfInBounds_toArray, List.set_cons_zero, List.set_cons_succ])
    refine wpAnyH_done (by kernel_rfl) ?_ _
    clear hHeld
    go_wp2_with fail
    go_ret
    exact ⟨rfl, below_next b0 q6⟩
   ·have qN : (N == 0) = false := by rw [beq_eq_false_iff_ne]; exact hN
    rw [decide_eq_false hN]
    clear hN
    obtain ⟨d0, d1, d2, d3, d4, d5, d6⟩ := cells7 (unhide KK)
    go_enter Tryz.func51, Tryz.ntmps51
    go_wp2_with fail
    clear d0 d1 d2 d3 d4 d5 d6
    generalize w.alloc (.cells #[.slice na x.name.length nc, .int .i64 x.type, .int .i64 1, .slice (some ⟨b, off, none⟩) m rc, .int .i64 x.rank, .int .i64 x.till, .int .i64 x.used] 47) = W at *
    have bd := below_drew (w := W)
    replace b0 := below_next b0 bd
    have KD := hide (block_kept bd (unhide KK))
    have hbld : b < W.drew.heap.size := hbl
    have H0 := hide (range_below (unhide HZ) hbl bd)
    have HR := hide ((unhide H).below bd)
    have HU0 := hide ((unhide HU).below bd)
    refine startF 25 (S := (fun w' => (w'.cell? ⟨w.heap.size, 0, none⟩ = some (.slice na x.name.length nc) ∧ w'.cell? ⟨w.heap.size, 1, none⟩ = some (.int .i64 x.type) ∧ w'.cell? ⟨w.heap.size, 2, none⟩ = some (.int .i64 1) ∧ w'.cell? ⟨w.heap.size, 3, none⟩ = some (.slice (some ⟨b, off, none⟩) m rc) ∧ w'.cell? ⟨w.heap.size, 4, none⟩ = some (.int .i64 x.rank) ∧ w'.cell? ⟨w.heap.size, 5, none⟩ = some (.int .i64 x.till) ∧ w'.cell? ⟨w.heap.size, 6, none⟩ = some (.int .i64 x.used)) ∧ (w'.cell? ⟨b, off, none⟩ = some (.slice na0 r0.name.length nc0) ∧ w'.cell? ⟨b, off + 1, none⟩ = some (.int .i64 r0.type) ∧ w'.cell? ⟨b, off + 2, none⟩ = some (.int .i64 r0.ttl) ∧ w'.cell? ⟨b, off + 3, none⟩ = some (.int .i64 r0.addr) ∧ w'.cell? ⟨b, off + 4, none⟩ = some (.slice ta0 r0.to.length tc0) ∧ w'.cell? ⟨b, off + 5, none⟩ = some (.slice xa0 r0.text.length xc0) ∧ w'.cell? ⟨b, off + 6, none⟩ = some (.slice ia0 r0.nums.length ic0)))) (by kernel_rfl) rfl ⟨cells7 (unhide KD), range7 (unhide H0)⟩ (fun hHeld => ?_)
    simp only [List.replicate]
    repeat ((first | (refine tkF ?_ rfl (by kernel_rfl) (by rfl) (fun _ _ _ h => h) ?_ hHeld ?_; rotate_left; · (intro w hSw; (try dsimp only at hSw); go_simp <;> with_reducible rfl)) | refine skF rfl (by kernel_rfl) (by rfl) (fun _ _ _ h => h) hHeld ?_); simp only [Act.put, setF, List.setIfInBounds_toArray, List.set_cons_zero, List.set_cons_succ])
    refine runI 2 rfl (by kernel_rfl) (by kernel_rfl) (fun K hK => ?_)
    have HK := hide hK
    clear hK hHeld
    go_simp
    refine (unhide IS _ (unhide HR).rrs).mono ?_
    rintro e w5 ⟨rfl, b5⟩
    refine (unhide HK).out _ _ ⟨cells7 (block_kept b5 (unhide KD)), range7 (range_below (unhide H0) hbld b5)⟩ (fun hHeld => ?_)
    clear HK K
    simp only [List.setIfInBounds_toArray, List.set_cons_zero, List.set_cons_succ]
    repeat ((first | (refine tkF ?_ rfl (by kernel_rfl) (by rfl) (fun _ _ _ h => h) ?_ hHeld ?_; rotate_left; · (intro w hSw; (try dsimp only at hSw); go_simp <;> with_reducible rfl)) | refine skF rfl (by kernel_rfl) (by rfl) (fun _ _ _ h => h) hHeld ?_); simp only [Act.put, setF, List.setIfInBounds_toArray, List.set_cons_zero, List.set_cons_succ])
    refine runI 21 rfl (by kernel_rfl) (by kernel_rfl) (fun K hK => ?_)
    have HK := hide hK
    clear hK hHeld
    go_simp
    refine (unhide NC _ ((unhide HU0).below b5).name ((unhide HR).below b5).name).mono ?_
    rintro e w6 ⟨rfl, b6⟩
    have q6 := below_next b5 b6
    refine (unhide HK).out _ _ ⟨cells7 (block_kept q6 (unhide KD)), range7 (range_below (unhide H0) hbld q6)⟩ (fun hHeld => ?_)
    clear HK K
    simp only [List.setIfInBounds_toArray, List.set_cons_zero, List.set_cons_succ]
    repeat ((first | (refine tkF ?_ rfl (by kernel_rfl) (by rfl) (fun _ _ _ h => h) ?_ hHeld ?_; rotate_left; · (intro w hSw; (try dsimp only at hSw); go_simp <;> with_reducible rfl)) | refine skF rfl (by kernel_rfl) (by rfl) (fun _ _ _ h => h) hHeld ?_); simp only [Act.put, setF, List.setIfInBounds_toArray, List.set_cons_zero, List.set_cons_succ])
    refine wpAnyH_done (by kernel_rfl) ?_ _
    clear hHeld
    go_wp2_with fail
    go_ret
    exact ⟨rfl, below_next b0 q6⟩
 ·rw [if_neg k1]
  have b0 := below_alloc (w := w) (.cells #[.slice na x.name.length nc, .int .i64 x.type, .int .i64 x.kind, .slice ra x.rrs.length rc, .int .i64 x.rank, .int .i64 x.till, .int .i64 x.used] 47)
  have KK := hide (heap_alloc_new w (.cells #[.slice na x.name.length nc, .int .i64 x.type, .int .i64 x.kind, .slice ra x.rrs.length rc, .int .i64 x.rank, .int .i64 x.till, .int .i64 x.used] 47))
  clear h hnm
  generalize x.kind = KI at *
  have q1 : (KI == 1) = false := by rw [beq_eq_false_iff_ne]; exact k1
  by_cases k2 : KI = 2 ∨ KI = 3
  ·rw [if_pos k2]
   generalize x.rrs.length = n at *
   by_cases hn : n = 0
   ·subst hn
    rw [decide_eq_true rfl]
    rcases k2 with rfl | rfl
    ·obtain ⟨d0, d1, d2, d3, d4, d5, d6⟩ := cells7 (unhide KK)
     go_enter Tryz.func51, Tryz.ntmps51
     go_wp2_with fail
     go_ret
     exact ⟨rfl, b0⟩
    ·obtain ⟨d0, d1, d2, d3, d4, d5, d6⟩ := cells7 (unhide KK)
     go_enter Tryz.func51, Tryz.ntmps51
     go_wp2_with fail
     go_ret
     exact ⟨rfl, b0⟩
   ·rw [decide_eq_false hn]
    have qn : ((n : Int) == 0) = false := by rw [beq_eq_false_iff_ne]; omega
    clear hn
    rcases k2 with rfl | rfl
    ·obtain ⟨d0, d1, d2, d3, d4, d5, d6⟩ := cells7 (unhide KK)
     go_enter Tryz.func51, Tryz.ntmps51
     go_wp2_with fail
     go_ret
     exact ⟨rfl, b0⟩
    ·obtain ⟨d0, d1, d2, d3, d4, d5, d6⟩ := cells7 (unhide KK)
     go_enter Tryz.func51, Tryz.ntmps51
     go_wp2_with fail
     go_ret
     exact ⟨rfl, b0⟩
  ·rw [if_neg k2]
   have q2 : (KI == 2) = false := by rw [beq_eq_false_iff_ne]; omega
   have q3 : (KI == 3) = false := by rw [beq_eq_false_iff_ne]; omega
   clear k1 k2
   obtain ⟨d0, d1, d2, d3, d4, d5, d6⟩ := cells7 (unhide KK)
   go_enter Tryz.func51, Tryz.ntmps51
   go_wp2_with fail
   go_ret
   exact ⟨rfl, b0⟩
end Go.Proofs.YtpolekinfobecaaGreat
