/-
  Contract of the program's holdsItsKind. Contract of the program's slotOk.
-/
import Derived.Test.YtaehfeobfkaicaaGreatCacheGetG20
import Derived.Test.YtaehfeobfkaicaaGreatCacheGetG15
import Derived.Test.YtaehfeobfkaicaaGreatCacheGetG05
namespace Go.Proofs.YtaehfeobfkaicaaGreat
open Go.RowKit
set_option linter.unusedVariables false

set_option maxHeartbeats 4000000 in
set_option maxRecDepth 100000 in
theorem holds_has {vn vr : Value} {x : Slt} {w : World} (h : HasS2 w vn vr x) (hnm : nameOk x.name = true) :
  Calls Tryz.prog 106 #[.agg #[vn, .int .i64 x.type, .int .i64 x.kind, vr, .int .i64 x.rank, .int .i64 x.till, .int .i64 x.used]] w fun e w' => e = .returned (.bool (holdsB x)) ∧ Below w.heap.size w w' := by
 obtain ⟨na, nc, rfl, _⟩ := h.name.form
 obtain ⟨ra, rc, rfl, _⟩ := h.rrs.form
 unfold holdsB
 by_cases k1 : x.kind = 1
 ·rw [if_pos k1, k1]
  clear k1
  have b0 := UI (w := w) (.cells #[.slice na x.name.length nc, .int .i64 x.type, .int .i64 1, .slice ra x.rrs.length rc, .int .i64 x.rank, .int .i64 x.till, .int .i64 x.used] 71)
  have KK := UC (heap_alloc_new w (.cells #[.slice na x.name.length nc, .int .i64 x.type, .int .i64 1, .slice ra x.rrs.length rc, .int .i64 x.rank, .int .i64 x.till, .int .i64 x.used] 71))
  have H := UC (h.below b0)
  have IS := fun (w : World) (h : HasRs w (.slice ra x.rrs.length rc) x.rrs) => isSet_has h
  clear h
  cases hs : setOk x.rrs with
  | false =>
   rw [hs] at IS
   rw [Bool.false_and]
   replace IS := UC IS
   clear hs hnm
   obtain ⟨d0, d1, d2, d3, d4, d5, d6⟩ := UJ (UB KK)
   go_enter Tryz.func106, Tryz.ntmps106
   go_wp2_with fail
   clear d0 d1 d2 d3 d4 d5 d6
   generalize w.alloc (.cells #[.slice na x.name.length nc, .int .i64 x.type, .int .i64 1, .slice ra x.rrs.length rc, .int .i64 x.rank, .int .i64 x.till, .int .i64 x.used] 71) = W at *
   have bd := UX (w := W)
   replace b0 := UG b0 bd
   have KD := UC (UE bd (UB KK))
   have HR := UC ((UB H).below bd).rrs
   refine startF 25 (S := (fun w' => (w'.cell? ⟨w.heap.size, 0, none⟩ = some (.slice na x.name.length nc) ∧ w'.cell? ⟨w.heap.size, 1, none⟩ = some (.int .i64 x.type) ∧ w'.cell? ⟨w.heap.size, 2, none⟩ = some (.int .i64 1) ∧ w'.cell? ⟨w.heap.size, 3, none⟩ = some (.slice ra x.rrs.length rc) ∧ w'.cell? ⟨w.heap.size, 4, none⟩ = some (.int .i64 x.rank) ∧ w'.cell? ⟨w.heap.size, 5, none⟩ = some (.int .i64 x.till) ∧ w'.cell? ⟨w.heap.size, 6, none⟩ = some (.int .i64 x.used)))) (by kernel_rfl) rfl (UJ (UB KD)) (fun hHeld => ?_)
   simp only [List.replicate]
   repeat ((first | (refine tkF ?_ rfl (by kernel_rfl) (by rfl) (fun _ _ _ h => h) ?_ hHeld ?_; rotate_left; · (intro w hSw; (try dsimp only at hSw); go_simp <;> with_reducible rfl)) | refine skF rfl (by kernel_rfl) (by rfl) (fun _ _ _ h => h) hHeld ?_); simp only [Act.put, setF, List.setIfInBounds_toArray, List.set_cons_zero, List.set_cons_succ])
   refine runI 2 rfl (by kernel_rfl) (by kernel_rfl) (fun K hK => ?_)
   have HK := UC hK
   clear hK hHeld
   go_simp
   refine (UB IS _ (UB HR)).mono ?_
   rintro e w5 ⟨rfl, b5⟩
   refine (UB HK).out _ _ (UJ (UE b5 (UB KD))) (fun hHeld => ?_)
   clear HK K
   simp only [List.setIfInBounds_toArray, List.set_cons_zero, List.set_cons_succ]
   repeat ((first | (refine tkF ?_ rfl (by kernel_rfl) (by rfl) (fun _ _ _ h => h) ?_ hHeld ?_; rotate_left; · (intro w hSw; (try dsimp only at hSw); go_simp <;> with_reducible rfl)) | refine skF rfl (by kernel_rfl) (by rfl) (fun _ _ _ h => h) hHeld ?_); simp only [Act.put, setF, List.setIfInBounds_toArray, List.set_cons_zero, List.set_cons_succ])
   refine wpAnyH_done (by kernel_rfl) ?_ _
   clear hHeld
   go_wp2_with fail
   go_ret
   exact ⟨rfl, UG b0 b5⟩
  | true =>
   rw [hs] at IS
   rw [Bool.true_and]
   obtain ⟨hrs, hl1⟩ := setOk_rrs hs
   unfold rrsOk at hrs
   rw [Bool.and_eq_true] at hrs
   have hr0 := all_at recZ hrs.2 (k := 0) (by omega)
   have eN : nameCmp (x.rrs.getD 0 recZ).name x.name = cmpN (x.rrs.getD 0 recZ).name x.name := if_pos ⟨rrOk_nameOk hr0, hnm⟩
   obtain ⟨b, off, na0, nc0, ta0, tc0, xa0, xc0, ia0, ic0, rfl, hbl, hz, hu⟩ := (UB H).rrs.here (k := 0) (by omega)
   rw [Nat.zero_mul, Nat.add_zero] at hz
   have NC := fun (w : World) (h1 : HasL w (.slice na0 (x.rrs.getD 0 recZ).name.length nc0) (x.rrs.getD 0 recZ).name) (h2 : HasL w (.slice na x.name.length nc) x.name) => implNameCmp_has h1 h2
   rw [eN] at NC
   have hl0 : (0 : Int) < x.rrs.length := by omega
   have hnp : 0 < x.rrs.length := by omega
   clear hs hnm hrs hr0 eN hl1
   generalize x.rrs.getD 0 recZ = r0 at *
   generalize cmpN r0.name x.name = N at *
   replace IS := UC IS
   replace NC := UC NC
   generalize x.rrs.length = m at *
   have HZ := UC hz
   have HU := UC hu
   clear hz hu
   by_cases hT : r0.type = x.type
   rotate_left
   ·have qT : (r0.type == x.type) = false := by rw [beq_eq_false_iff_ne]; exact hT
    rw [decide_eq_false hT, Bool.false_and]
    clear hT
    obtain ⟨d0, d1, d2, d3, d4, d5, d6⟩ := UJ (UB KK)
    go_enter Tryz.func106, Tryz.ntmps106
    go_wp2_with fail
    clear d0 d1 d2 d3 d4 d5 d6
    generalize w.alloc (.cells #[.slice na x.name.length nc, .int .i64 x.type, .int .i64 1, .slice (some ⟨b, off, none⟩) m rc, .int .i64 x.rank, .int .i64 x.till, .int .i64 x.used] 71) = W at *
    have bd := UX (w := W)
    replace b0 := UG b0 bd
    have KD := UC (UE bd (UB KK))
    have hbld : b < W.drew.heap.size := hbl
    have H0 := UC (UW (UB HZ) hbl bd)
    have HR := UC ((UB H).below bd).rrs
    refine startF 25 (S := (fun w' => (w'.cell? ⟨w.heap.size, 0, none⟩ = some (.slice na x.name.length nc) ∧ w'.cell? ⟨w.heap.size, 1, none⟩ = some (.int .i64 x.type) ∧ w'.cell? ⟨w.heap.size, 2, none⟩ = some (.int .i64 1) ∧ w'.cell? ⟨w.heap.size, 3, none⟩ = some (.slice (some ⟨b, off, none⟩) m rc) ∧ w'.cell? ⟨w.heap.size, 4, none⟩ = some (.int .i64 x.rank) ∧ w'.cell? ⟨w.heap.size, 5, none⟩ = some (.int .i64 x.till) ∧ w'.cell? ⟨w.heap.size, 6, none⟩ = some (.int .i64 x.used)) ∧ (w'.cell? ⟨b, off, none⟩ = some (.slice na0 r0.name.length nc0) ∧ w'.cell? ⟨b, off + 1, none⟩ = some (.int .i64 r0.type) ∧ w'.cell? ⟨b, off + 2, none⟩ = some (.int .i64 r0.ttl) ∧ w'.cell? ⟨b, off + 3, none⟩ = some (.int .i64 r0.addr) ∧ w'.cell? ⟨b, off + 4, none⟩ = some (.slice ta0 r0.to.length tc0) ∧ w'.cell? ⟨b, off + 5, none⟩ = some (.slice xa0 r0.text.length xc0) ∧ w'.cell? ⟨b, off + 6, none⟩ = some (.slice ia0 r0.nums.length ic0)))) (by kernel_rfl) rfl ⟨UJ (UB KD), VH (UB H0)⟩ (fun hHeld => ?_)
    simp only [List.replicate]
    repeat ((first | (refine tkF ?_ rfl (by kernel_rfl) (by rfl) (fun _ _ _ h => h) ?_ hHeld ?_; rotate_left; · (intro w hSw; (try dsimp only at hSw); go_simp <;> with_reducible rfl)) | refine skF rfl (by kernel_rfl) (by rfl) (fun _ _ _ h => h) hHeld ?_); simp only [Act.put, setF, List.setIfInBounds_toArray, List.set_cons_zero, List.set_cons_succ])
    refine runI 2 rfl (by kernel_rfl) (by kernel_rfl) (fun K hK => ?_)
    have HK := UC hK
    clear hK hHeld
    go_simp
    refine (UB IS _ (UB HR)).mono ?_
    rintro e w5 ⟨rfl, b5⟩
    refine (UB HK).out _ _ ⟨UJ (UE b5 (UB KD)), VH (UW (UB H0) hbld b5)⟩ (fun hHeld => ?_)
    clear HK K
    simp only [List.setIfInBounds_toArray, List.set_cons_zero, List.set_cons_succ]
    repeat ((first | (refine tkF ?_ rfl (by kernel_rfl) (by rfl) (fun _ _ _ h => h) ?_ hHeld ?_; rotate_left; · (intro w hSw; (try dsimp only at hSw); go_simp <;> with_reducible rfl)) | refine skF rfl (by kernel_rfl) (by rfl) (fun _ _ _ h => h) hHeld ?_); simp only [Act.put, setF, List.setIfInBounds_toArray, List.set_cons_zero, List.set_cons_succ])
    refine wpAnyH_done (by kernel_rfl) ?_ _
    clear hHeld
    go_wp2_with fail
    go_ret
    exact ⟨rfl, UG b0 b5⟩
   have qT : (r0.type == x.type) = true := by rw [beq_iff_eq]; exact hT
   rw [decide_eq_true hT, Bool.true_and]
   clear hT
   by_cases hN : N = 0
   ·subst hN
    rw [decide_eq_true rfl]
    obtain ⟨d0, d1, d2, d3, d4, d5, d6⟩ := UJ (UB KK)
    go_enter Tryz.func106, Tryz.ntmps106
    go_wp2_with fail
    clear d0 d1 d2 d3 d4 d5 d6
    generalize w.alloc (.cells #[.slice na x.name.length nc, .int .i64 x.type, .int .i64 1, .slice (some ⟨b, off, none⟩) m rc, .int .i64 x.rank, .int .i64 x.till, .int .i64 x.used] 71) = W at *
    have bd := UX (w := W)
    replace b0 := UG b0 bd
    have KD := UC (UE bd (UB KK))
    have hbld : b < W.drew.heap.size := hbl
    have H0 := UC (UW (UB HZ) hbl bd)
    have HR := UC ((UB H).below bd)
    have HU0 := UC ((UB HU).below bd)
    refine startF 25 (S := (fun w' => (w'.cell? ⟨w.heap.size, 0, none⟩ = some (.slice na x.name.length nc) ∧ w'.cell? ⟨w.heap.size, 1, none⟩ = some (.int .i64 x.type) ∧ w'.cell? ⟨w.heap.size, 2, none⟩ = some (.int .i64 1) ∧ w'.cell? ⟨w.heap.size, 3, none⟩ = some (.slice (some ⟨b, off, none⟩) m rc) ∧ w'.cell? ⟨w.heap.size, 4, none⟩ = some (.int .i64 x.rank) ∧ w'.cell? ⟨w.heap.size, 5, none⟩ = some (.int .i64 x.till) ∧ w'.cell? ⟨w.heap.size, 6, none⟩ = some (.int .i64 x.used)) ∧ (w'.cell? ⟨b, off, none⟩ = some (.slice na0 r0.name.length nc0) ∧ w'.cell? ⟨b, off + 1, none⟩ = some (.int .i64 r0.type) ∧ w'.cell? ⟨b, off + 2, none⟩ = some (.int .i64 r0.ttl) ∧ w'.cell? ⟨b, off + 3, none⟩ = some (.int .i64 r0.addr) ∧ w'.cell? ⟨b, off + 4, none⟩ = some (.slice ta0 r0.to.length tc0) ∧ w'.cell? ⟨b, off + 5, none⟩ = some (.slice xa0 r0.text.length xc0) ∧ w'.cell? ⟨b, off + 6, none⟩ = some (.slice ia0 r0.nums.length ic0)))) (by kernel_rfl) rfl ⟨UJ (UB KD), VH (UB H0)⟩ (fun hHeld => ?_)
    simp only [List.replicate]
    repeat ((first | (refine tkF ?_ rfl (by kernel_rfl) (by rfl) (fun _ _ _ h => h) ?_ hHeld ?_; rotate_left; · (intro w hSw; (try dsimp only at hSw); go_simp <;> with_reducible rfl)) | refine skF rfl (by kernel_rfl) (by rfl) (fun _ _ _ h => h) hHeld ?_); simp only [Act.put, setF, List.setIfInBounds_toArray, List.set_cons_zero, List.set_cons_succ])
    refine runI 2 rfl (by kernel_rfl) (by kernel_rfl) (fun K hK => ?_)
    have HK := UC hK
    clear hK hHeld
    go_simp
    refine (UB IS _ (UB HR).rrs).mono ?_
    rintro e w5 ⟨rfl, b5⟩
    refine (UB HK).out _ _ ⟨UJ (UE b5 (UB KD)), VH (UW (UB H0) hbld b5)⟩ (fun hHeld => ?_)
    clear HK K
    simp only [List.setIfInBounds_toArray, List.set_cons_zero, List.set_cons_succ]
    repeat ((first | (refine tkF ?_ rfl (by kernel_rfl) (by rfl) (fun _ _ _ h => h) ?_ hHeld ?_; rotate_left; · (intro w hSw; (try dsimp only at hSw); go_simp <;> with_reducible rfl)) | refine skF rfl (by kernel_rfl) (by rfl) (fun _ _ _ h => h) hHeld ?_); simp only [Act.put, setF, List.setIfInBounds_toArray, List.set_cons_zero, List.set_cons_succ])
    refine runI 21 rfl (by kernel_rfl) (by kernel_rfl) (fun K hK => ?_)
    have HK := UC hK
    clear hK hHeld
    go_simp
    refine (UB NC _ ((UB HU0).below b5).name ((UB HR).below b5).name).mono ?_
    rintro e w6 ⟨rfl, b6⟩
    have q6 := UG b5 b6
    refine (UB HK).out _ _ ⟨UJ (UE q6 (UB KD)), VH (UW (UB H0) hbld q6)⟩ (fun hHeld => ?_)
    clear HK K
    simp only [List.setIfInBounds_toArray, List.set_cons_zero, List.set_cons_succ]
    repeat ((first | (refine tkF ?_ rfl (by kernel_rfl) (by rfl) (fun _ _ _ h => h) ?_ hHeld ?_; rotate_left; · (intro w hSw; (try dsimp only at hSw); go_simp <;> with_reducible rfl)) | refine skF rfl (by kernel_rfl) (by rfl) (fun _ _ _ h => h) hHeld ?_); simp only [Act.put, setF, List.setIfInBounds_toArray, List.set_cons_zero, List.set_cons_succ])
    refine wpAnyH_done (by kernel_rfl) ?_ _
    clear hHeld
    go_wp2_with fail
    go_ret
    exact ⟨rfl, UG b0 q6⟩
   ·have qN : (N == 0) = false := by rw [beq_eq_false_iff_ne]; exact hN
    rw [decide_eq_false hN]
    clear hN
    obtain ⟨d0, d1, d2, d3, d4, d5, d6⟩ := UJ (UB KK)
    go_enter Tryz.func106, Tryz.ntmps106
    go_wp2_with fail
    clear d0 d1 d2 d3 d4 d5 d6
    generalize w.alloc (.cells #[.slice na x.name.length nc, .int .i64 x.type, .int .i64 1, .slice (some ⟨b, off, none⟩) m rc, .int .i64 x.rank, .int .i64 x.till, .int .i64 x.used] 71) = W at *
    have bd := UX (w := W)
    replace b0 := UG b0 bd
    have KD := UC (UE bd (UB KK))
    have hbld : b < W.drew.heap.size := hbl
    have H0 := UC (UW (UB HZ) hbl bd)
    have HR := UC ((UB H).below bd)
    have HU0 := UC ((UB HU).below bd)
    refine startF 25 (S := (fun w' => (w'.cell? ⟨w.heap.size, 0, none⟩ = some (.slice na x.name.length nc) ∧ w'.cell? ⟨w.heap.size, 1, none⟩ = some (.int .i64 x.type) ∧ w'.cell? ⟨w.heap.size, 2, none⟩ = some (.int .i64 1) ∧ w'.cell? ⟨w.heap.size, 3, none⟩ = some (.slice (some ⟨b, off, none⟩) m rc) ∧ w'.cell? ⟨w.heap.size, 4, none⟩ = some (.int .i64 x.rank) ∧ w'.cell? ⟨w.heap.size, 5, none⟩ = some (.int .i64 x.till) ∧ w'.cell? ⟨w.heap.size, 6, none⟩ = some (.int .i64 x.used)) ∧ (w'.cell? ⟨b, off, none⟩ = some (.slice na0 r0.name.length nc0) ∧ w'.cell? ⟨b, off + 1, none⟩ = some (.int .i64 r0.type) ∧ w'.cell? ⟨b, off + 2, none⟩ = some (.int .i64 r0.ttl) ∧ w'.cell? ⟨b, off + 3, none⟩ = some (.int .i64 r0.addr) ∧ w'.cell? ⟨b, off + 4, none⟩ = some (.slice ta0 r0.to.length tc0) ∧ w'.cell? ⟨b, off + 5, none⟩ = some (.slice xa0 r0.text.length xc0) ∧ w'.cell? ⟨b, off + 6, none⟩ = some (.slice ia0 r0.nums.length ic0)))) (by kernel_rfl) rfl ⟨UJ (UB KD), VH (UB H0)⟩ (fun hHeld => ?_)
    simp only [List.replicate]
    repeat ((first | (refine tkF ?_ rfl (by kernel_rfl) (by rfl) (fun _ _ _ h => h) ?_ hHeld ?_; rotate_left; · (intro w hSw; (try dsimp only at hSw); go_simp <;> with_reducible rfl)) | refine skF rfl (by kernel_rfl) (by rfl) (fun _ _ _ h => h) hHeld ?_); simp only [Act.put, setF, List.setIfInBounds_toArray, List.set_cons_zero, List.set_cons_succ])
    refine runI 2 rfl (by kernel_rfl) (by kernel_rfl) (fun K hK => ?_)
    have HK := UC hK
    clear hK hHeld
    go_simp
    refine (UB IS _ (UB HR).rrs).mono ?_
    rintro e w5 ⟨rfl, b5⟩
    refine (UB HK).out _ _ ⟨UJ (UE b5 (UB KD)), VH (UW (UB H0) hbld b5)⟩ (fun hHeld => ?_)
    clear HK K
    simp only [List.setIfInBounds_toArray, List.set_cons_zero, List.set_cons_succ]
    repeat ((first | (refine tkF ?_ rfl (by kernel_rfl) (by rfl) (fun _ _ _ h => h) ?_ hHeld ?_; rotate_left; · (intro w hSw; (try dsimp only at hSw); go_simp <;> with_reducible rfl)) | refine skF rfl (by kernel_rfl) (by rfl) (fun _ _ _ h => h) hHeld ?_); simp only [Act.put, setF, List.setIfInBounds_toArray, List.set_cons_zero, List.set_cons_succ])
    refine runI 21 rfl (by kernel_rfl) (by kernel_rfl) (fun K hK => ?_)
    have HK := UC hK
    clear hK hHeld
    go_simp
    refine (UB NC _ ((UB HU0).below b5).name ((UB HR).below b5).name).mono ?_
    rintro e w6 ⟨rfl, b6⟩
    have q6 := UG b5 b6
    refine (UB HK).out _ _ ⟨UJ (UE q6 (UB KD)), VH (UW (UB H0) hbld q6)⟩ (fun hHeld => ?_)
    clear HK K
    simp only [List.setIfInBounds_toArray, List.set_cons_zero, List.set_cons_succ]
    repeat ((first | (refine tkF ?_ rfl (by kernel_rfl) (by rfl) (fun _ _ _ h => h) ?_ hHeld ?_; rotate_left; · (intro w hSw; (try dsimp only at hSw); go_simp <;> with_reducible rfl)) | refine skF rfl (by kernel_rfl) (by rfl) (fun _ _ _ h => h) hHeld ?_); simp only [Act.put, setF, List.setIfInBounds_toArray, List.set_cons_zero, List.set_cons_succ])
    refine wpAnyH_done (by kernel_rfl) ?_ _
    clear hHeld
    go_wp2_with fail
    go_ret
    exact ⟨rfl, UG b0 q6⟩
 ·rw [if_neg k1]
  have b0 := UI (w := w) (.cells #[.slice na x.name.length nc, .int .i64 x.type, .int .i64 x.kind, .slice ra x.rrs.length rc, .int .i64 x.rank, .int .i64 x.till, .int .i64 x.used] 71)
  have KK := UC (heap_alloc_new w (.cells #[.slice na x.name.length nc, .int .i64 x.type, .int .i64 x.kind, .slice ra x.rrs.length rc, .int .i64 x.rank, .int .i64 x.till, .int .i64 x.used] 71))
  clear h hnm
  generalize x.kind = KI at *
  have q1 : (KI == 1) = false := by rw [beq_eq_false_iff_ne]; exact k1
  by_cases k2 : KI = 2 ∨ KI = 3
  ·rw [if_pos k2]
   generalize x.rrs.length = n at *
   by_cases hn : n = 0
   ·subst hn
    rw [decide_eq_true rfl]
    rcases k2 with rfl | rfl
    ·obtain ⟨d0, d1, d2, d3, d4, d5, d6⟩ := UJ (UB KK)
     go_enter Tryz.func106, Tryz.ntmps106
     go_wp2_with fail
     go_ret
     exact ⟨rfl, b0⟩
    ·obtain ⟨d0, d1, d2, d3, d4, d5, d6⟩ := UJ (UB KK)
     go_enter Tryz.func106, Tryz.ntmps106
     go_wp2_with fail
     go_ret
     exact ⟨rfl, b0⟩
   ·rw [decide_eq_false hn]
    have qn : ((n : Int) == 0) = false := by rw [beq_eq_false_iff_ne]; omega
    clear hn
    rcases k2 with rfl | rfl
    ·obtain ⟨d0, d1, d2, d3, d4, d5, d6⟩ := UJ (UB KK)
     go_enter Tryz.func106, Tryz.ntmps106
     go_wp2_with fail
     go_ret
     exact ⟨rfl, b0⟩
    ·obtain ⟨d0, d1, d2, d3, d4, d5, d6⟩ := UJ (UB KK)
     go_enter Tryz.func106, Tryz.ntmps106
     go_wp2_with fail
     go_ret
     exact ⟨rfl, b0⟩
  ·rw [if_neg k2]
   have q2 : (KI == 2) = false := by rw [beq_eq_false_iff_ne]; omega
   have q3 : (KI == 3) = false := by rw [beq_eq_false_iff_ne]; omega
   clear k1 k2
   obtain ⟨d0, d1, d2, d3, d4, d5, d6⟩ := UJ (UB KK)
   go_enter Tryz.func106, Tryz.ntmps106
   go_wp2_with fail
   go_ret
   exact ⟨rfl, b0⟩
set_option maxHeartbeats 4000000 in
set_option maxRecDepth 100000 in
theorem slotOk_has {vn vr : Value} {x : Slt} {now turn : Int} {w : World} (h : HasS2 w vn vr x) (hn0 : 0 ≤ now) (hn1 : now ≤ 1000000) :
  Calls Tryz.prog 78 #[.agg #[vn, .int .i64 x.type, .int .i64 x.kind, vr, .int .i64 x.rank, .int .i64 x.till, .int .i64 x.used], .int .i64 now, .int .i64 turn] w fun e w' => e = .returned (.bool (slotB x now turn)) ∧ Below w.heap.size w w' := by
 obtain ⟨na, nc, rfl, _⟩ := h.name.form
 obtain ⟨ra, rc, rfl, _⟩ := h.rrs.form
 have b0 := UI (w := w) (.cells #[.slice na x.name.length nc, .int .i64 x.type, .int .i64 x.kind, .slice ra x.rrs.length rc, .int .i64 x.rank, .int .i64 x.till, .int .i64 x.used] 71)
 have KK := UC (heap_alloc_new w (.cells #[.slice na x.name.length nc, .int .i64 x.type, .int .i64 x.kind, .slice ra x.rrs.length rc, .int .i64 x.rank, .int .i64 x.till, .int .i64 x.used] 71))
 have NO := VP (h.below b0).name
 have H := UC (h.below b0)
 have TO := fun (w : World) => implTypeOk_any x.type w
 have UP := fun (w : World) => upTo_any x.rank 3 w
 clear h
 unfold slotB toldB
 generalize decide (0 ≤ x.rank ∧ x.rank ≤ 3) = G3 at *
 generalize typeOk x.type = G2 at *
 cases hG1 : nameOk x.name with
 | false =>
  rw [hG1] at NO
  replace NO := UC NO
  rw [Bool.false_and, Bool.false_and]
  clear TO UP hG1
  by_cases l1 : now < x.till <;> by_cases u1 : 1 ≤ x.used
  all_goals
   obtain ⟨d0, d1, d2, d3, d4, d5, d6⟩ := UJ (UB KK)
   go_enter Tryz.func78, Tryz.ntmps78
   go_wp2_with fail
   clear d0 d1 d2 d3 d4 d5 d6
   refine (UB NO).mono ?_
   rintro e w1 ⟨rfl, b1⟩
   replace b0 := UG b0 b1
   replace KK := UC (UE b1 (UB KK))
   replace H := UC ((UB H).below b1)
   clear b1
   obtain ⟨d0, d1, d2, d3, d4, d5, d6⟩ := UJ (UB KK)
   go_wp2_with fail
   go_ret
   exact ⟨rfl, b0⟩
 | true =>
  rw [hG1] at NO
  have HB := fun (w : World) (h : HasS2 w (.slice na x.name.length nc) (.slice ra x.rrs.length rc) x) => holds_has h hG1
  generalize holdsB x = HBv at *
  replace HB := UC HB
  replace NO := UC NO
  rw [Bool.true_and]
  clear hG1
  cases G2 with
  | false =>
   rw [Bool.false_and, Bool.false_and]
   replace TO := UC TO
   clear UP HB
   by_cases l1 : now < x.till <;> by_cases u1 : 1 ≤ x.used
   all_goals
    obtain ⟨d0, d1, d2, d3, d4, d5, d6⟩ := UJ (UB KK)
    go_enter Tryz.func78, Tryz.ntmps78
    go_wp2_with fail
    clear d0 d1 d2 d3 d4 d5 d6
    refine (UB NO).mono ?_
    rintro e w1 ⟨rfl, b1⟩
    replace b0 := UG b0 b1
    replace KK := UC (UE b1 (UB KK))
    replace H := UC ((UB H).below b1)
    clear b1
    obtain ⟨d0, d1, d2, d3, d4, d5, d6⟩ := UJ (UB KK)
    go_wp2_with fail
    clear d0 d1 d2 d3 d4 d5 d6
    refine (UB TO _).mono ?_
    rintro e w2 ⟨rfl, rfl⟩
    obtain ⟨d0, d1, d2, d3, d4, d5, d6⟩ := UJ (UB KK)
    go_wp2_with fail
    go_ret
    exact ⟨rfl, b0⟩
  | true =>
   replace TO := UC TO
   rw [Bool.true_and]
   cases G3 with
   | false =>
    rw [Bool.false_and]
    replace UP := UC UP
    clear HB
    by_cases l1 : now < x.till <;> by_cases u1 : 1 ≤ x.used
    all_goals
     obtain ⟨d0, d1, d2, d3, d4, d5, d6⟩ := UJ (UB KK)
     go_enter Tryz.func78, Tryz.ntmps78
     go_wp2_with fail
     clear d0 d1 d2 d3 d4 d5 d6
     refine (UB NO).mono ?_
     rintro e w1 ⟨rfl, b1⟩
     replace b0 := UG b0 b1
     replace KK := UC (UE b1 (UB KK))
     replace H := UC ((UB H).below b1)
     clear b1
     obtain ⟨d0, d1, d2, d3, d4, d5, d6⟩ := UJ (UB KK)
     go_wp2_with fail
     clear d0 d1 d2 d3 d4 d5 d6
     refine (UB TO _).mono ?_
     rintro e w2 ⟨rfl, rfl⟩
     obtain ⟨d0, d1, d2, d3, d4, d5, d6⟩ := UJ (UB KK)
     go_wp2_with fail
     clear d0 d1 d2 d3 d4 d5 d6
     refine (UB UP _).mono ?_
     rintro e w3 ⟨rfl, rfl⟩
     obtain ⟨d0, d1, d2, d3, d4, d5, d6⟩ := UJ (UB KK)
     go_wp2_with fail
     go_ret
     exact ⟨rfl, b0⟩
   | true =>
    rw [Bool.true_and]
    replace UP := UC UP
    by_cases l1 : now < x.till
    rotate_left
    ·rw [decide_eq_false l1, Bool.false_and, Bool.false_and]
     clear HB
     by_cases u1 : 1 ≤ x.used
     all_goals
      obtain ⟨d0, d1, d2, d3, d4, d5, d6⟩ := UJ (UB KK)
      go_enter Tryz.func78, Tryz.ntmps78
      go_wp2_with fail
      clear d0 d1 d2 d3 d4 d5 d6
      refine (UB NO).mono ?_
      rintro e w1 ⟨rfl, b1⟩
      replace b0 := UG b0 b1
      replace KK := UC (UE b1 (UB KK))
      replace H := UC ((UB H).below b1)
      clear b1
      obtain ⟨d0, d1, d2, d3, d4, d5, d6⟩ := UJ (UB KK)
      go_wp2_with fail
      clear d0 d1 d2 d3 d4 d5 d6
      refine (UB TO _).mono ?_
      rintro e w2 ⟨rfl, rfl⟩
      obtain ⟨d0, d1, d2, d3, d4, d5, d6⟩ := UJ (UB KK)
      go_wp2_with fail
      clear d0 d1 d2 d3 d4 d5 d6
      refine (UB UP _).mono ?_
      rintro e w3 ⟨rfl, rfl⟩
      obtain ⟨d0, d1, d2, d3, d4, d5, d6⟩ := UJ (UB KK)
      go_wp2_with fail
      go_ret
      exact ⟨rfl, b0⟩
    rw [decide_eq_true l1, Bool.true_and]
    by_cases l2 : x.till ≤ now + 1000
    rotate_left
    ·rw [decide_eq_false l2, Bool.false_and]
     have l2' : decide (x.till ≤ now + 1000) = false := decide_eq_false l2
     clear HB
     by_cases u1 : 1 ≤ x.used
     all_goals
      obtain ⟨d0, d1, d2, d3, d4, d5, d6⟩ := UJ (UB KK)
      go_enter Tryz.func78, Tryz.ntmps78
      go_wp2_with fail
      clear d0 d1 d2 d3 d4 d5 d6
      refine (UB NO).mono ?_
      rintro e w1 ⟨rfl, b1⟩
      replace b0 := UG b0 b1
      replace KK := UC (UE b1 (UB KK))
      replace H := UC ((UB H).below b1)
      clear b1
      obtain ⟨d0, d1, d2, d3, d4, d5, d6⟩ := UJ (UB KK)
      go_wp2_with fail
      clear d0 d1 d2 d3 d4 d5 d6
      refine (UB TO _).mono ?_
      rintro e w2 ⟨rfl, rfl⟩
      obtain ⟨d0, d1, d2, d3, d4, d5, d6⟩ := UJ (UB KK)
      go_wp2_with fail
      clear d0 d1 d2 d3 d4 d5 d6
      refine (UB UP _).mono ?_
      rintro e w3 ⟨rfl, rfl⟩
      obtain ⟨d0, d1, d2, d3, d4, d5, d6⟩ := UJ (UB KK)
      go_wp2_with fail
      go_ret
      exact ⟨rfl, b0⟩
    rw [decide_eq_true l2, Bool.true_and]
    by_cases u1 : 1 ≤ x.used
    rotate_left
    ·rw [decide_eq_false u1, Bool.false_and, Bool.false_and]
     clear HB
     obtain ⟨d0, d1, d2, d3, d4, d5, d6⟩ := UJ (UB KK)
     go_enter Tryz.func78, Tryz.ntmps78
     go_wp2_with fail
     clear d0 d1 d2 d3 d4 d5 d6
     refine (UB NO).mono ?_
     rintro e w1 ⟨rfl, b1⟩
     replace b0 := UG b0 b1
     replace KK := UC (UE b1 (UB KK))
     replace H := UC ((UB H).below b1)
     clear b1
     obtain ⟨d0, d1, d2, d3, d4, d5, d6⟩ := UJ (UB KK)
     go_wp2_with fail
     clear d0 d1 d2 d3 d4 d5 d6
     refine (UB TO _).mono ?_
     rintro e w2 ⟨rfl, rfl⟩
     obtain ⟨d0, d1, d2, d3, d4, d5, d6⟩ := UJ (UB KK)
     go_wp2_with fail
     clear d0 d1 d2 d3 d4 d5 d6
     refine (UB UP _).mono ?_
     rintro e w3 ⟨rfl, rfl⟩
     obtain ⟨d0, d1, d2, d3, d4, d5, d6⟩ := UJ (UB KK)
     go_wp2_with fail
     go_ret
     exact ⟨rfl, b0⟩
    rw [decide_eq_true u1, Bool.true_and]
    by_cases u2 : x.used ≤ turn
    rotate_left
    ·rw [decide_eq_false u2, Bool.false_and]
     have u2' : decide (x.used ≤ turn) = false := decide_eq_false u2
     clear HB
     obtain ⟨d0, d1, d2, d3, d4, d5, d6⟩ := UJ (UB KK)
     go_enter Tryz.func78, Tryz.ntmps78
     go_wp2_with fail
     clear d0 d1 d2 d3 d4 d5 d6
     refine (UB NO).mono ?_
     rintro e w1 ⟨rfl, b1⟩
     replace b0 := UG b0 b1
     replace KK := UC (UE b1 (UB KK))
     replace H := UC ((UB H).below b1)
     clear b1
     obtain ⟨d0, d1, d2, d3, d4, d5, d6⟩ := UJ (UB KK)
     go_wp2_with fail
     clear d0 d1 d2 d3 d4 d5 d6
     refine (UB TO _).mono ?_
     rintro e w2 ⟨rfl, rfl⟩
     obtain ⟨d0, d1, d2, d3, d4, d5, d6⟩ := UJ (UB KK)
     go_wp2_with fail
     clear d0 d1 d2 d3 d4 d5 d6
     refine (UB UP _).mono ?_
     rintro e w3 ⟨rfl, rfl⟩
     obtain ⟨d0, d1, d2, d3, d4, d5, d6⟩ := UJ (UB KK)
     go_wp2_with fail
     go_ret
     exact ⟨rfl, b0⟩
    rw [decide_eq_true u2, Bool.true_and]
    obtain ⟨d0, d1, d2, d3, d4, d5, d6⟩ := UJ (UB KK)
    go_enter Tryz.func78, Tryz.ntmps78
    go_wp2_with fail
    clear d0 d1 d2 d3 d4 d5 d6
    refine (UB NO).mono ?_
    rintro e w1 ⟨rfl, b1⟩
    replace b0 := UG b0 b1
    replace KK := UC (UE b1 (UB KK))
    replace H := UC ((UB H).below b1)
    clear b1
    obtain ⟨d0, d1, d2, d3, d4, d5, d6⟩ := UJ (UB KK)
    go_wp2_with fail
    clear d0 d1 d2 d3 d4 d5 d6
    refine (UB TO _).mono ?_
    rintro e w2 ⟨rfl, rfl⟩
    obtain ⟨d0, d1, d2, d3, d4, d5, d6⟩ := UJ (UB KK)
    go_wp2_with fail
    clear d0 d1 d2 d3 d4 d5 d6
    refine (UB UP _).mono ?_
    rintro e w3 ⟨rfl, rfl⟩
    obtain ⟨d0, d1, d2, d3, d4, d5, d6⟩ := UJ (UB KK)
    go_wp2_with fail
    clear d0 d1 d2 d3 d4 d5 d6
    refine (UB HB _ (UB H)).mono ?_
    rintro e w4 ⟨rfl, b4⟩
    replace b0 := UG b0 b4
    go_wp2_with fail
    go_ret
    exact ⟨rfl, b0⟩
end Go.Proofs.YtaehfeobfkaicaaGreat
