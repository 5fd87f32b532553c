/-
  Contract of the specification's CacheOk.
-/
import Derived.Test.YtaehfeobfkaicaaGreatCacheGetG14
import Derived.Test.YtaehfeobfkaicaaGreatCacheGetG36
import Derived.Test.YtaehfeobfkaicaaGreatCacheGetG32
import Derived.Test.YtaehfeobfkaicaaGreatCacheGetG35
import Derived.Test.YtaehfeobfkaicaaGreatCacheGetG05
import Derived.Test.YtaehfeobfkaicaaGreatCacheGetG25
namespace Go.Proofs.YtaehfeobfkaicaaGreat
open Go.RowKit
set_option linter.unusedVariables false

set_option maxHeartbeats 40000000 in
set_option maxRecDepth 100000 in
theorem specCacheOk_has {v : Value} {c : Ca} {w : World} (h : HasSs w v c.slots) (hz : SizeCa 1048576 c) :
  Calls Tryz.prog 28 #[.agg #[.int .i64 c.now, .int .i64 c.turn, v]] w fun e w' => e = .returned (.bool (cacheOk c)) ∧ Below w.heap.size w w' := by
 obtain ⟨a, ca, rfl, hla, hma⟩ := h.form
 unfold maxLen at hma
 have HX := UC (fun i (hi : i < c.slots.length) (hs : slotAt c i = false) => (show cacheOk c = false by unfold cacheOk; rw [rangeAll_no hi hs, Bool.false_and, Bool.and_false]))
 have HF := UC (fun i (hi : i < c.slots.length) (hs : freshAt c.slots i = false) => (show cacheOk c = false by unfold cacheOk apartB; rw [rangeAll_no hi hs, Bool.and_false, Bool.and_false]))
 have HY := UC (fun (hs : ∀ j, j < c.slots.length → slotAt c j = true) (hf : ∀ j, j < c.slots.length → freshAt c.slots j = true) (hh : headB c = true) => (show cacheOk c = true by unfold cacheOk apartB; rw [hh, rangeAll_yes hs, rangeAll_yes hf]; rfl))
 have HH := UC (fun (hh : headB c = false) => (show cacheOk c = false by unfold cacheOk; rw [hh, Bool.false_and]))
 have hhd : headB c = (decide (0 ≤ c.now ∧ c.now ≤ 1000000) && (decide (0 ≤ c.turn ∧ c.turn ≤ 1000000) && decide (c.slots.length ≤ 8))) := rfl
 have HSA := UC (show ∀ i, slotAt c i = (((nameOk (c.slots.getD i VK).name && (typeOk (c.slots.getD i VK).type && decide (0 ≤ (c.slots.getD i VK).rank ∧ (c.slots.getD i VK).rank ≤ 3))) && ((decide (c.now < (c.slots.getD i VK).till) && decide ((c.slots.getD i VK).till ≤ c.now + 1000)) && ((decide (1 ≤ (c.slots.getD i VK).used) && decide ((c.slots.getD i VK).used ≤ c.turn)) && holdsB (c.slots.getD i VK)))) && (decide (i = 0) || aheadB (c.slots.getD (i - 1) VK) (c.slots.getD i VK))) from fun i => rfl)
 have HFA := UC (show ∀ i, freshAt c.slots i = (List.range i).all (fun k => decide ((c.slots.getD k VK).used ≠ (c.slots.getD i VK).used)) from fun i => rfl)
 have HZS := UC hz.each
 generalize cacheOk c = R at *
 generalize headB c = HD at *
 generalize slotAt c = sat at *
 generalize freshAt c.slots = fre at *
 generalize c.now = now at *
 generalize c.turn = turn at *
 generalize c.slots = l at *
 generalize hn : l.length = n at *
 have HN := UC hn
 have H := UC h
 clear hn h hz
 have b0 := UI (w := w) (.cells #[.int .i64 now, .int .i64 turn, .slice a n ca] 30)
 have KK := UC (heap_alloc_new w (.cells #[.int .i64 now, .int .i64 turn, .slice a n ca] 30))
 by_cases m0 : now < 0
 ·have hR := UB HH (by rw [hhd]; rw [decide_eq_false (p := 0 ≤ now ∧ now ≤ 1000000) (by omega), Bool.false_and])
  subst hR
  clear HX HF HY HH HSA HFA HZS hhd
  obtain ⟨d0, d1, d2⟩ := UL (UB KK)
  go_enter Tryz.func28, Tryz.ntmps28
  go_wp2_with fail
  go_ret
  exact ⟨rfl, b0⟩
 by_cases m1 : 1000000 < now
 ·have hR := UB HH (by rw [hhd]; rw [decide_eq_false (p := 0 ≤ now ∧ now ≤ 1000000) (by omega), Bool.false_and])
  subst hR
  clear HX HF HY HH HSA HFA HZS hhd
  obtain ⟨d0, d1, d2⟩ := UL (UB KK)
  go_enter Tryz.func28, Tryz.ntmps28
  go_wp2_with fail
  go_ret
  exact ⟨rfl, b0⟩
 by_cases m2 : turn < 0
 ·have hR := UB HH (by rw [hhd]; rw [decide_eq_false (p := 0 ≤ turn ∧ turn ≤ 1000000) (by omega), Bool.false_and, Bool.and_false])
  subst hR
  clear HX HF HY HH HSA HFA HZS hhd
  obtain ⟨d0, d1, d2⟩ := UL (UB KK)
  go_enter Tryz.func28, Tryz.ntmps28
  go_wp2_with fail
  go_ret
  exact ⟨rfl, b0⟩
 by_cases m3 : 1000000 < turn
 ·have hR := UB HH (by rw [hhd]; rw [decide_eq_false (p := 0 ≤ turn ∧ turn ≤ 1000000) (by omega), Bool.false_and, Bool.and_false])
  subst hR
  clear HX HF HY HH HSA HFA HZS hhd
  obtain ⟨d0, d1, d2⟩ := UL (UB KK)
  go_enter Tryz.func28, Tryz.ntmps28
  go_wp2_with fail
  go_ret
  exact ⟨rfl, b0⟩
 by_cases m4 : (8 : Int) < n
 ·have hR := UB HH (by rw [hhd]; rw [decide_eq_false (p := n ≤ 8) (by omega), Bool.and_false, Bool.and_false])
  subst hR
  clear HX HF HY HH HSA HFA HZS hhd
  obtain ⟨d0, d1, d2⟩ := UL (UB KK)
  go_enter Tryz.func28, Tryz.ntmps28
  go_wp2_with fail
  go_ret
  exact ⟨rfl, b0⟩
 have hHD : HD = true := by rw [hhd, decide_eq_true (p := 0 ≤ now ∧ now ≤ 1000000) (by omega), decide_eq_true (p := 0 ≤ turn ∧ turn ≤ 1000000) (by omega), decide_eq_true (p := n ≤ 8) (by omega)]; rfl
 clear hhd HH
 replace HY := UC (fun hs hf => UB HY hs hf hHD)
 clear hHD
 obtain ⟨d0, d1, d2⟩ := UL (UB KK)
 go_enter Tryz.func28, Tryz.ntmps28
 go_wp2_with fail
 clear d0 d1 d2
 generalize w.alloc (.cells #[.int .i64 now, .int .i64 turn, .slice a n ca] 30) = W at *
 have zK := VC (UB KK)
 go_loopw [3] (fun i wr => ∃ k : Nat, k ≤ n ∧ i = .int .i64 k ∧ Hid (∀ j, j < k → sat j = true) ∧ Hid (∀ j, j < k → fre j = true) ∧ Below W.heap.size W wr) (fun i _ => n - (intOf i).toNat)
 case atStart => exact ⟨0, Nat.zero_le _, rfl, UC (fun j hj => absurd hj (Nat.not_lt_zero _)), UC (fun j hj => absurd hj (Nat.not_lt_zero _)), Below.refl _ _⟩
 case round =>
  obtain ⟨k, hk, rfl, hall, half, hb⟩ := hrel
  have bw0 := UG b0 hb
  have KR := UC (UE hb (UB KK))
  have HR0 := UC (VF (UB H) bw0)
  by_cases hlt : k < n
  ·have hone := UC (fun (hs : sat k = true) => (show ∀ j, j < k + 1 → sat j = true from fun j hj => by
     by_cases e : j = k
     ·subst e; exact hs
     ·exact UB hall j (by omega)))
   have honf := UC (fun (hs : fre k = true) => (show ∀ j, j < k + 1 → fre j = true from fun j hj => by
     by_cases e : j = k
     ·subst e; exact hs
     ·exact UB half j (by omega)))
   have HSI := UC (UB HSA k)
   have HXK := UC (UB HX k hlt)
   have HFB := UC (fun j (hj : j < k) (hs : decide ((l.getD j VK).used ≠ (l.getD k VK).used) = false) => UB HF k hlt (by rw [UB HFA]; exact rangeAll_no hj hs))
   have HFY := UC (fun (hs : ∀ q, q < k → decide ((l.getD q VK).used ≠ (l.getD k VK).used) = true) => (show fre k = true by rw [UB HFA]; exact rangeAll_yes hs))
   have HZK := UC (UB HZS k hlt)
   clear hall half
   obtain ⟨b, off, vs, rfl, hbl0, hc, vn, vr, rfl, hu⟩ := (UB HR0).here (k := k) (by rw [UB HN]; exact hlt)
   obtain ⟨na, nc, rfl, _⟩ := hu.name.form
   obtain ⟨ra, rc, rfl, _⟩ := hu.rrs.form
   have NO := fun (w : World) (h : HasL w (.slice na (l.getD k VK).name.length nc) (l.getD k VK).name) => VO h
   have TO := fun (w : World) => specTypeOk_any (l.getD k VK).type w
   have ba := UI (w := wr) (.cells #[.slice na (l.getD k VK).name.length nc, .int .i64 (l.getD k VK).type, .int .i64 (l.getD k VK).kind, .slice ra (l.getD k VK).rrs.length rc, .int .i64 (l.getD k VK).rank, .int .i64 (l.getD k VK).till, .int .i64 (l.getD k VK).used] 71)
   have KD := UC (UE ba (UB KR))
   have K1 := UC (heap_alloc_new wr (.cells #[.slice na (l.getD k VK).name.length nc, .int .i64 (l.getD k VK).type, .int .i64 (l.getD k VK).kind, .slice ra (l.getD k VK).rrs.length rc, .int .i64 (l.getD k VK).rank, .int .i64 (l.getD k VK).till, .int .i64 (l.getD k VK).used] 71))
   have HU := UC (hu.below ba)
   have HR := UC (VF (UB HR0) ba)
   have bw := UG hb ba
   have bW := UG bw0 ba
   have hbl := Nat.lt_of_lt_of_le hbl0 ba.size
   have hkn : (k : Int) < n := by omega
   have hw1000 : IntKind.i64.wrap (now + 1000) = now + 1000 := by have := wrap_small (now + 1000).toNat (by omega); rwa [Int.toNat_of_nonneg (by omega)] at this
   generalize sat k = SI at *
   obtain ⟨d0, d1, d2⟩ := UL (UB KR)
   by_cases hk0 : k = 0
   ·subst hk0
    rw [Nat.zero_mul, Nat.add_zero] at hc
    obtain ⟨c0, c1, c2, c3, c4, c5, c6⟩ := VH hc
    rw [show decide ((0 : Nat) = 0) = true from rfl, Bool.true_or, Bool.and_true] at HSI
    clear hc hu hb bw0 hbl0 ba KR HR0
    have hnp : 0 < n := by omega
    generalize l.getD 0 VK = rk at *
    as_aux_lemma =>
     generalize nameOk rk.name = G1 at *
     generalize typeOk rk.type = G2 at *
     replace NO := UC NO
     replace TO := UC TO
     go_wp2_with fail
     clear c0 c1 c2 c3 c4 c5 c6 d0 d1 d2
     generalize wr.alloc (.cells #[.slice na rk.name.length nc, .int .i64 rk.type, .int .i64 rk.kind, .slice ra rk.rrs.length rc, .int .i64 rk.rank, .int .i64 rk.till, .int .i64 rk.used] 71) = WA at *
     have bd := UX (w := WA)
     replace bw := UG bw bd
     replace bW := UG bW bd
     replace KD := UC (UE bd (UB KD))
     replace K1 := UC (UE bd (UB K1))
     replace HU := UC ((UB HU).below bd)
     replace HR := UC (VF (UB HR) bd)
     have hblN := Nat.lt_of_lt_of_le hbl bd.size
     clear bd hbl
     have hbl := hblN
     clear hblN
     refine startA (by kernel_rfl) ⟨by kernel_rfl, by kernel_rfl⟩ (fun w' => (w'.cell? ⟨w.heap.size, 0, none⟩ = some (.int .i64 now) ∧ w'.cell? ⟨w.heap.size, 1, none⟩ = some (.int .i64 turn) ∧ w'.cell? ⟨w.heap.size, 2, none⟩ = some (.slice (some ⟨b, off, none⟩) n ca)) ∧ (w'.cell? ⟨wr.heap.size, 0, none⟩ = some (.slice na rk.name.length nc) ∧ w'.cell? ⟨wr.heap.size, 1, none⟩ = some (.int .i64 rk.type) ∧ w'.cell? ⟨wr.heap.size, 2, none⟩ = some (.int .i64 rk.kind) ∧ w'.cell? ⟨wr.heap.size, 3, none⟩ = some (.slice ra rk.rrs.length rc) ∧ w'.cell? ⟨wr.heap.size, 4, none⟩ = some (.int .i64 rk.rank) ∧ w'.cell? ⟨wr.heap.size, 5, none⟩ = some (.int .i64 rk.till) ∧ w'.cell? ⟨wr.heap.size, 6, none⟩ = some (.int .i64 rk.used))) ⟨UL (UB KD), UJ (UB K1)⟩ (fun hA hHeld => ?_)
     replace hA := UC hA
     repeat ((first | (refine takeA ?_ (UB hA) rfl rfl (by rfl) (fun _ _ _ h => h) ?_ hHeld ?_; rotate_left; · (intro w hSw; (try dsimp only at hSw); go_simp <;> with_reducible rfl)) | refine skipA (UB hA) rfl (by rfl) (fun _ _ _ h => h) hHeld ?_); simp only [Act.put, List.setIfInBounds_toArray, List.set_cons_zero, List.set_cons_succ, Nat.reduceAdd])
     refine runA (UB hA) rfl (by kernel_rfl) (by kernel_rfl) (fun K hK => ?_)
     have HK := UC hK
     clear hK hHeld
     go_simp
     refine (UB NO _ (UB HU).name).mono ?_
     rintro e w1 ⟨rfl, b1⟩
     replace bw := UG bw b1
     replace bW := UG bW b1
     replace KD := UC (UE b1 (UB KD))
     replace K1 := UC (UE b1 (UB K1))
     replace HU := UC ((UB HU).below b1)
     replace HR := UC (VF (UB HR) b1)
     have hblN := Nat.lt_of_lt_of_le hbl b1.size
     clear b1 hbl
     have hbl := hblN
     clear hblN
     refine (UB HK).out _ _ ⟨UL (UB KD), UJ (UB K1)⟩ (fun hHeld => ?_)
     clear HK K
     simp only [Nat.reduceAdd]
     cases G1 with
     | false =>
      as_aux_lemma =>
       have hR := UB HXK (by rw [UB HSI]; simp)
       subst hR
       ((first | (refine takeA ?_ (UB hA) rfl rfl (by rfl) (fun _ _ _ h => h) ?_ hHeld ?_; rotate_left; · (intro w hSw; (try dsimp only at hSw); go_simp <;> with_reducible rfl)) | refine skipA (UB hA) rfl (by rfl) (fun _ _ _ h => h) hHeld ?_); simp only [Act.put, List.setIfInBounds_toArray, List.set_cons_zero, List.set_cons_succ, Nat.reduceAdd])
       refine leaf_all (UB hA) (fun _ _ _ _ _ h => h) hHeld [(46, some true), (47, none), (48, none), (49, none), (50, none), (51, some true), (52, some true), (53, none), (54, none), (55, none), (56, some true), (57, some true), (58, none), (59, none), (60, none), (61, some true), (62, some true), (63, none), (64, none), (65, none), (66, some true), (67, some true), (68, none), (69, none), (70, none), (71, some true), (72, some true), (73, none), (74, none), (75, none), (76, none), (77, none), (78, some true), (79, some true), (80, none), (81, none), (82, none), (83, none), (84, none), (85, none), (86, some true), (87, some true), (88, none), (89, none), (90, none), (91, some true), (92, some true), (93, none), (94, none), (95, none), (96, none), (97, none), (98, some true), (99, some true), (100, none), (101, none), (102, none), (103, none), (104, none), (105, none), (106, none), (107, none), (108, none), (109, none), (110, none), (111, none), (112, none), (113, some true)] (by kernel_rfl) ?_
       simp only [putsF, valF, List.setIfInBounds_toArray, List.set_cons_zero, List.set_cons_succ]
       clear hHeld hA
       go_wp2_with fail
       go_ret
       exact ⟨rfl, bW⟩
     | true =>
      repeat ((first | (refine takeA ?_ (UB hA) rfl rfl (by rfl) (fun _ _ _ h => h) ?_ hHeld ?_; rotate_left; · (intro w hSw; (try dsimp only at hSw); go_simp <;> with_reducible rfl)) | refine skipA (UB hA) rfl (by rfl) (fun _ _ _ h => h) hHeld ?_); simp only [Act.put, List.setIfInBounds_toArray, List.set_cons_zero, List.set_cons_succ, Nat.reduceAdd])
      refine runA (UB hA) rfl (by kernel_rfl) (by kernel_rfl) (fun K hK => ?_)
      have HK := UC hK
      clear hK hHeld
      go_simp
      refine (UB TO _).mono ?_
      rintro e w2 ⟨rfl, rfl⟩
      refine (UB HK).out _ _ ⟨UL (UB KD), UJ (UB K1)⟩ (fun hHeld => ?_)
      clear HK K
      simp only [Nat.reduceAdd]
      cases G2 with
      | false =>
       as_aux_lemma =>
        have hR := UB HXK (by rw [UB HSI]; simp)
        subst hR
        ((first | (refine takeA ?_ (UB hA) rfl rfl (by rfl) (fun _ _ _ h => h) ?_ hHeld ?_; rotate_left; · (intro w hSw; (try dsimp only at hSw); go_simp <;> with_reducible rfl)) | refine skipA (UB hA) rfl (by rfl) (fun _ _ _ h => h) hHeld ?_); simp only [Act.put, List.setIfInBounds_toArray, List.set_cons_zero, List.set_cons_succ, Nat.reduceAdd])
        refine leaf_all (UB hA) (fun _ _ _ _ _ h => h) hHeld [(51, some true), (52, some true), (53, none), (54, none), (55, none), (56, some true), (57, some true), (58, none), (59, none), (60, none), (61, some true), (62, some true), (63, none), (64, none), (65, none), (66, some true), (67, some true), (68, none), (69, none), (70, none), (71, some true), (72, some true), (73, none), (74, none), (75, none), (76, none), (77, none), (78, some true), (79, some true), (80, none), (81, none), (82, none), (83, none), (84, none), (85, none), (86, some true), (87, some true), (88, none), (89, none), (90, none), (91, some true), (92, some true), (93, none), (94, none), (95, none), (96, none), (97, none), (98, some true), (99, some true), (100, none), (101, none), (102, none), (103, none), (104, none), (105, none), (106, none), (107, none), (108, none), (109, none), (110, none), (111, none), (112, none), (113, some true)] (by kernel_rfl) ?_
        simp only [putsF, valF, List.setIfInBounds_toArray, List.set_cons_zero, List.set_cons_succ]
        clear hHeld hA
        go_wp2_with fail
        go_ret
        exact ⟨rfl, bW⟩
      | true =>
       repeat ((first | (refine takeA ?_ (UB hA) rfl rfl (by rfl) (fun _ _ _ h => h) ?_ hHeld ?_; rotate_left; · (intro w hSw; (try dsimp only at hSw); go_simp <;> with_reducible rfl)) | refine skipA (UB hA) rfl (by rfl) (fun _ _ _ h => h) hHeld ?_); simp only [Act.put, List.setIfInBounds_toArray, List.set_cons_zero, List.set_cons_succ, Nat.reduceAdd])
       by_cases k1 : rk.kind < 1
       ·as_aux_lemma =>
         rw [decide_eq_true k1]
         have hR := UB HXK (by rw [UB HSI]; rw [holdsB_out (.inl k1)]; simp)
         subst hR
         refine leaf_all (UB hA) (fun _ _ _ _ _ h => h) hHeld [(58, none), (59, none), (60, none), (61, some true), (62, some true), (63, none), (64, none), (65, none), (66, some true), (67, some true), (68, none), (69, none), (70, none), (71, some true), (72, some true), (73, none), (74, none), (75, none), (76, none), (77, none), (78, some true), (79, some true), (80, none), (81, none), (82, none), (83, none), (84, none), (85, none), (86, some true), (87, some true), (88, none), (89, none), (90, none), (91, some true), (92, some true), (93, none), (94, none), (95, none), (96, none), (97, none), (98, some true), (99, some true), (100, none), (101, none), (102, none), (103, none), (104, none), (105, none), (106, none), (107, none), (108, none), (109, none), (110, none), (111, none), (112, none), (113, some true)] (by kernel_rfl) ?_
         simp only [putsF, valF, List.setIfInBounds_toArray, List.set_cons_zero, List.set_cons_succ]
         clear hHeld hA
         go_wp2_with fail
         go_ret
         exact ⟨rfl, bW⟩
       ·as_aux_lemma =>
         rw [decide_eq_false k1]
         have k1n := UC k1
         repeat ((first | (refine takeA ?_ (UB hA) rfl rfl (by rfl) (fun _ _ _ h => h) ?_ hHeld ?_; rotate_left; · (intro w hSw; (try dsimp only at hSw); go_simp <;> with_reducible rfl)) | refine skipA (UB hA) rfl (by rfl) (fun _ _ _ h => h) hHeld ?_); simp only [Act.put, List.setIfInBounds_toArray, List.set_cons_zero, List.set_cons_succ, Nat.reduceAdd])
         by_cases k3 : 3 < rk.kind
         ·as_aux_lemma =>
           rw [decide_eq_true k3]
           have hR := UB HXK (by rw [UB HSI]; rw [holdsB_out (.inr k3)]; simp)
           subst hR
           refine leaf_all (UB hA) (fun _ _ _ _ _ h => h) hHeld [(63, none), (64, none), (65, none), (66, some true), (67, some true), (68, none), (69, none), (70, none), (71, some true), (72, some true), (73, none), (74, none), (75, none), (76, none), (77, none), (78, some true), (79, some true), (80, none), (81, none), (82, none), (83, none), (84, none), (85, none), (86, some true), (87, some true), (88, none), (89, none), (90, none), (91, some true), (92, some true), (93, none), (94, none), (95, none), (96, none), (97, none), (98, some true), (99, some true), (100, none), (101, none), (102, none), (103, none), (104, none), (105, none), (106, none), (107, none), (108, none), (109, none), (110, none), (111, none), (112, none), (113, some true)] (by kernel_rfl) ?_
           simp only [putsF, valF, List.setIfInBounds_toArray, List.set_cons_zero, List.set_cons_succ]
           clear hHeld hA
           go_wp2_with fail
           go_ret
           exact ⟨rfl, bW⟩
         ·as_aux_lemma =>
           rw [decide_eq_false k3]
           have k3n := UC k3
           repeat ((first | (refine takeA ?_ (UB hA) rfl rfl (by rfl) (fun _ _ _ h => h) ?_ hHeld ?_; rotate_left; · (intro w hSw; (try dsimp only at hSw); go_simp <;> with_reducible rfl)) | refine skipA (UB hA) rfl (by rfl) (fun _ _ _ h => h) hHeld ?_); simp only [Act.put, List.setIfInBounds_toArray, List.set_cons_zero, List.set_cons_succ, Nat.reduceAdd])
           by_cases r0 : rk.rank < 0
           ·as_aux_lemma =>
             rw [decide_eq_true r0]
             have hR := UB HXK (by rw [UB HSI]; rw [decide_eq_false (p := 0 ≤ rk.rank ∧ rk.rank ≤ 3) (by omega)]; simp)
             subst hR
             refine leaf_all (UB hA) (fun _ _ _ _ _ h => h) hHeld [(68, none), (69, none), (70, none), (71, some true), (72, some true), (73, none), (74, none), (75, none), (76, none), (77, none), (78, some true), (79, some true), (80, none), (81, none), (82, none), (83, none), (84, none), (85, none), (86, some true), (87, some true), (88, none), (89, none), (90, none), (91, some true), (92, some true), (93, none), (94, none), (95, none), (96, none), (97, none), (98, some true), (99, some true), (100, none), (101, none), (102, none), (103, none), (104, none), (105, none), (106, none), (107, none), (108, none), (109, none), (110, none), (111, none), (112, none), (113, some true)] (by kernel_rfl) ?_
             simp only [putsF, valF, List.setIfInBounds_toArray, List.set_cons_zero, List.set_cons_succ]
             clear hHeld hA
             go_wp2_with fail
             go_ret
             exact ⟨rfl, bW⟩
           ·as_aux_lemma =>
             rw [decide_eq_false r0]
             have r0n := UC r0
             repeat ((first | (refine takeA ?_ (UB hA) rfl rfl (by rfl) (fun _ _ _ h => h) ?_ hHeld ?_; rotate_left; · (intro w hSw; (try dsimp only at hSw); go_simp <;> with_reducible rfl)) | refine skipA (UB hA) rfl (by rfl) (fun _ _ _ h => h) hHeld ?_); simp only [Act.put, List.setIfInBounds_toArray, List.set_cons_zero, List.set_cons_succ, Nat.reduceAdd])
             by_cases r3 : 3 < rk.rank
             ·as_aux_lemma =>
               rw [decide_eq_true r3]
               have hR := UB HXK (by rw [UB HSI]; rw [decide_eq_false (p := 0 ≤ rk.rank ∧ rk.rank ≤ 3) (by omega)]; simp)
               subst hR
               refine leaf_all (UB hA) (fun _ _ _ _ _ h => h) hHeld [(73, none), (74, none), (75, none), (76, none), (77, none), (78, some true), (79, some true), (80, none), (81, none), (82, none), (83, none), (84, none), (85, none), (86, some true), (87, some true), (88, none), (89, none), (90, none), (91, some true), (92, some true), (93, none), (94, none), (95, none), (96, none), (97, none), (98, some true), (99, some true), (100, none), (101, none), (102, none), (103, none), (104, none), (105, none), (106, none), (107, none), (108, none), (109, none), (110, none), (111, none), (112, none), (113, some true)] (by kernel_rfl) ?_
               simp only [putsF, valF, List.setIfInBounds_toArray, List.set_cons_zero, List.set_cons_succ]
               clear hHeld hA
               go_wp2_with fail
               go_ret
               exact ⟨rfl, bW⟩
             ·as_aux_lemma =>
               rw [decide_eq_false r3]
               have r3n := UC r3
               repeat ((first | (refine takeA ?_ (UB hA) rfl rfl (by rfl) (fun _ _ _ h => h) ?_ hHeld ?_; rotate_left; · (intro w hSw; (try dsimp only at hSw); go_simp <;> with_reducible rfl)) | refine skipA (UB hA) rfl (by rfl) (fun _ _ _ h => h) hHeld ?_); simp only [Act.put, List.setIfInBounds_toArray, List.set_cons_zero, List.set_cons_succ, Nat.reduceAdd])
               by_cases t1 : rk.till ≤ now
               ·as_aux_lemma =>
                 rw [decide_eq_true t1]
                 have hR := UB HXK (by rw [UB HSI]; rw [decide_eq_false (p := now < rk.till) (by omega)]; simp)
                 subst hR
                 refine leaf_all (UB hA) (fun _ _ _ _ _ h => h) hHeld [(80, none), (81, none), (82, none), (83, none), (84, none), (85, none), (86, some true), (87, some true), (88, none), (89, none), (90, none), (91, some true), (92, some true), (93, none), (94, none), (95, none), (96, none), (97, none), (98, some true), (99, some true), (100, none), (101, none), (102, none), (103, none), (104, none), (105, none), (106, none), (107, none), (108, none), (109, none), (110, none), (111, none), (112, none), (113, some true)] (by kernel_rfl) ?_
                 simp only [putsF, valF, List.setIfInBounds_toArray, List.set_cons_zero, List.set_cons_succ]
                 clear hHeld hA
                 go_wp2_with fail
                 go_ret
                 exact ⟨rfl, bW⟩
               ·as_aux_lemma =>
                 rw [decide_eq_false t1]
                 have t1n := UC t1
                 repeat ((first | (refine takeA ?_ (UB hA) rfl rfl (by rfl) (fun _ _ _ h => h) ?_ hHeld ?_; rotate_left; · (intro w hSw; (try dsimp only at hSw); go_simp <;> with_reducible rfl)) | refine skipA (UB hA) rfl (by rfl) (fun _ _ _ h => h) hHeld ?_); simp only [Act.put, List.setIfInBounds_toArray, List.set_cons_zero, List.set_cons_succ, Nat.reduceAdd])
                 by_cases t2 : now + 1000 < rk.till
                 ·as_aux_lemma =>
                   rw [decide_eq_true t2]
                   have hR := UB HXK (by rw [UB HSI]; rw [decide_eq_false (p := rk.till ≤ now + 1000) (by omega)]; simp)
                   subst hR
                   refine leaf_all (UB hA) (fun _ _ _ _ _ h => h) hHeld [(88, none), (89, none), (90, none), (91, some true), (92, some true), (93, none), (94, none), (95, none), (96, none), (97, none), (98, some true), (99, some true), (100, none), (101, none), (102, none), (103, none), (104, none), (105, none), (106, none), (107, none), (108, none), (109, none), (110, none), (111, none), (112, none), (113, some true)] (by kernel_rfl) ?_
                   simp only [putsF, valF, List.setIfInBounds_toArray, List.set_cons_zero, List.set_cons_succ]
                   clear hHeld hA
                   go_wp2_with fail
                   go_ret
                   exact ⟨rfl, bW⟩
                 ·as_aux_lemma =>
                   rw [decide_eq_false t2]
                   have t2n := UC t2
                   repeat ((first | (refine takeA ?_ (UB hA) rfl rfl (by rfl) (fun _ _ _ h => h) ?_ hHeld ?_; rotate_left; · (intro w hSw; (try dsimp only at hSw); go_simp <;> with_reducible rfl)) | refine skipA (UB hA) rfl (by rfl) (fun _ _ _ h => h) hHeld ?_); simp only [Act.put, List.setIfInBounds_toArray, List.set_cons_zero, List.set_cons_succ, Nat.reduceAdd])
                   by_cases u1 : rk.used < 1
                   ·as_aux_lemma =>
                     rw [decide_eq_true u1]
                     have hR := UB HXK (by rw [UB HSI]; rw [decide_eq_false (p := 1 ≤ rk.used) (by omega)]; simp)
                     subst hR
                     refine leaf_all (UB hA) (fun _ _ _ _ _ h => h) hHeld [(93, none), (94, none), (95, none), (96, none), (97, none), (98, some true), (99, some true), (100, none), (101, none), (102, none), (103, none), (104, none), (105, none), (106, none), (107, none), (108, none), (109, none), (110, none), (111, none), (112, none), (113, some true)] (by kernel_rfl) ?_
                     simp only [putsF, valF, List.setIfInBounds_toArray, List.set_cons_zero, List.set_cons_succ]
                     clear hHeld hA
                     go_wp2_with fail
                     go_ret
                     exact ⟨rfl, bW⟩
                   ·as_aux_lemma =>
                     rw [decide_eq_false u1]
                     have u1n := UC u1
                     repeat ((first | (refine takeA ?_ (UB hA) rfl rfl (by rfl) (fun _ _ _ h => h) ?_ hHeld ?_; rotate_left; · (intro w hSw; (try dsimp only at hSw); go_simp <;> with_reducible rfl)) | refine skipA (UB hA) rfl (by rfl) (fun _ _ _ h => h) hHeld ?_); simp only [Act.put, List.setIfInBounds_toArray, List.set_cons_zero, List.set_cons_succ, Nat.reduceAdd])
                     by_cases u2 : turn < rk.used
                     ·as_aux_lemma =>
                       rw [decide_eq_true u2]
                       have hR := UB HXK (by rw [UB HSI]; rw [decide_eq_false (p := rk.used ≤ turn) (by omega)]; simp)
                       subst hR
                       refine leaf_all (UB hA) (fun _ _ _ _ _ h => h) hHeld [(100, none), (101, none), (102, none), (103, none), (104, none), (105, none), (106, none), (107, none), (108, none), (109, none), (110, none), (111, none), (112, none), (113, some true)] (by kernel_rfl) ?_
                       simp only [putsF, valF, List.setIfInBounds_toArray, List.set_cons_zero, List.set_cons_succ]
                       clear hHeld hA
                       go_wp2_with fail
                       go_ret
                       exact ⟨rfl, bW⟩
                     ·as_aux_lemma =>
                       rw [decide_eq_false u2]
                       have u2n := UC u2
                       repeat ((first | (refine takeA ?_ (UB hA) rfl rfl (by rfl) (fun _ _ _ h => h) ?_ hHeld ?_; rotate_left; · (intro w hSw; (try dsimp only at hSw); go_simp <;> with_reducible rfl)) | refine skipA (UB hA) rfl (by rfl) (fun _ _ _ h => h) hHeld ?_); simp only [Act.put, List.setIfInBounds_toArray, List.set_cons_zero, List.set_cons_succ, Nat.reduceAdd])
                       rw [decide_eq_true (p := 0 ≤ rk.rank ∧ rk.rank ≤ 3) (by omega), decide_eq_true (p := now < rk.till) (by omega), decide_eq_true (p := rk.till ≤ now + 1000) (by omega), decide_eq_true (p := 1 ≤ rk.used) (by omega), decide_eq_true (p := rk.used ≤ turn) (by omega)] at HSI
                       simp only [Bool.true_and, Bool.and_true] at HSI
                       refine doneA rfl ?_
                       clear hHeld hA
                       go_wp2_with fail
                       as_aux_lemma =>
                        have LS := fun (w : World) (h : HasRs w (.slice ra rk.rrs.length rc) rk.rrs) => l10set_has h (fun q hq => ((UB HZK).rrss q hq).name)
                        by_cases q1 : rk.kind = 1
                        ·have e1 : (rk.kind == 1) = true := by rw [beq_iff_eq]; exact q1
                         have e1' : (rk.kind != 1) = false := by simpa using q1
                         rw [holdsB_one q1] at HSI
                         clear q1
                         cases hG : setOk rk.rrs with
                         | false =>
                          rw [hG] at LS HSI
                          replace LS := UC LS
                          have hR := UB HXK (by rw [UB HSI, Bool.false_and])
                          subst hR
                          have bd := UX (w := w1)
                          replace bw := UG bw bd
                          replace bW := UG bW bd
                          replace KD := UC (UE bd (UB KD))
                          replace K1 := UC (UE bd (UB K1))
                          replace HU := UC ((UB HU).below bd)
                          replace HR := UC (VF (UB HR) bd)
                          have hblN := Nat.lt_of_lt_of_le hbl bd.size
                          clear bd hbl
                          have hbl := hblN
                          clear hblN
                          refine startA (by kernel_rfl) ⟨by kernel_rfl, by kernel_rfl⟩ (fun w' => (w'.cell? ⟨wr.heap.size, 0, none⟩ = some (.slice na rk.name.length nc) ∧ w'.cell? ⟨wr.heap.size, 1, none⟩ = some (.int .i64 rk.type) ∧ w'.cell? ⟨wr.heap.size, 2, none⟩ = some (.int .i64 rk.kind) ∧ w'.cell? ⟨wr.heap.size, 3, none⟩ = some (.slice ra rk.rrs.length rc) ∧ w'.cell? ⟨wr.heap.size, 4, none⟩ = some (.int .i64 rk.rank) ∧ w'.cell? ⟨wr.heap.size, 5, none⟩ = some (.int .i64 rk.till) ∧ w'.cell? ⟨wr.heap.size, 6, none⟩ = some (.int .i64 rk.used))) (UJ (UB K1)) (fun hA hHeld => ?_)
                          replace hA := UC hA
                          repeat ((first | (refine takeA ?_ (UB hA) rfl rfl (by rfl) (fun _ _ _ h => h) ?_ hHeld ?_; rotate_left; · (intro w hSw; (try dsimp only at hSw); go_simp <;> with_reducible rfl)) | refine skipA (UB hA) rfl (by rfl) (fun _ _ _ h => h) hHeld ?_); simp only [Act.put, List.setIfInBounds_toArray, List.set_cons_zero, List.set_cons_succ, Nat.reduceAdd])
                          refine runA (UB hA) rfl (by kernel_rfl) (by kernel_rfl) (fun K hK => ?_)
                          have HK := UC hK
                          clear hK hHeld
                          go_simp
                          refine (UB LS _ (UB HU).rrs).mono ?_
                          rintro e w5 ⟨rfl, b5⟩
                          refine (UB HK).out _ _ (UJ (UE b5 (UB K1))) (fun hHeld => ?_)
                          clear HK K
                          simp only [Nat.reduceAdd]
                          repeat ((first | (refine takeA ?_ (UB hA) rfl rfl (by rfl) (fun _ _ _ h => h) ?_ hHeld ?_; rotate_left; · (intro w hSw; (try dsimp only at hSw); go_simp <;> with_reducible rfl)) | refine skipA (UB hA) rfl (by rfl) (fun _ _ _ h => h) hHeld ?_); simp only [Act.put, List.setIfInBounds_toArray, List.set_cons_zero, List.set_cons_succ, Nat.reduceAdd])
                          refine doneA rfl ?_
                          clear hHeld hA
                          replace bw := UG bw b5
                          replace bW := UG bW b5
                          replace KD := UC (UE b5 (UB KD))
                          replace K1 := UC (UE b5 (UB K1))
                          replace HU := UC ((UB HU).below b5)
                          replace HR := UC (VF (UB HR) b5)
                          have hblN := Nat.lt_of_lt_of_le hbl b5.size
                          clear b5 hbl
                          have hbl := hblN
                          clear hblN
                          obtain ⟨d0, d1, d2⟩ := UL (UB KD)
                          obtain ⟨e0, e1, e2, e3, e4, e5, e6⟩ := UJ (UB K1)
                          go_wp2_with fail
                          clear d0 d1 d2 e0 e1 e2 e3 e4 e5 e6
                          go_ret
                          exact ⟨rfl, bW⟩
                         | true =>
                          rw [hG] at LS HSI
                          replace LS := UC LS
                          rw [Bool.true_and] at HSI
                          have hl1 := (setOk_rrs hG).2
                          clear hG
                          have bd := UX (w := w1)
                          replace bw := UG bw bd
                          replace bW := UG bW bd
                          replace KD := UC (UE bd (UB KD))
                          replace K1 := UC (UE bd (UB K1))
                          replace HU := UC ((UB HU).below bd)
                          replace HR := UC (VF (UB HR) bd)
                          have hblN := Nat.lt_of_lt_of_le hbl bd.size
                          clear bd hbl
                          have hbl := hblN
                          clear hblN
                          refine startA (by kernel_rfl) ⟨by kernel_rfl, by kernel_rfl⟩ (fun w' => (w'.cell? ⟨wr.heap.size, 0, none⟩ = some (.slice na rk.name.length nc) ∧ w'.cell? ⟨wr.heap.size, 1, none⟩ = some (.int .i64 rk.type) ∧ w'.cell? ⟨wr.heap.size, 2, none⟩ = some (.int .i64 rk.kind) ∧ w'.cell? ⟨wr.heap.size, 3, none⟩ = some (.slice ra rk.rrs.length rc) ∧ w'.cell? ⟨wr.heap.size, 4, none⟩ = some (.int .i64 rk.rank) ∧ w'.cell? ⟨wr.heap.size, 5, none⟩ = some (.int .i64 rk.till) ∧ w'.cell? ⟨wr.heap.size, 6, none⟩ = some (.int .i64 rk.used))) (UJ (UB K1)) (fun hA hHeld => ?_)
                          replace hA := UC hA
                          repeat ((first | (refine takeA ?_ (UB hA) rfl rfl (by rfl) (fun _ _ _ h => h) ?_ hHeld ?_; rotate_left; · (intro w hSw; (try dsimp only at hSw); go_simp <;> with_reducible rfl)) | refine skipA (UB hA) rfl (by rfl) (fun _ _ _ h => h) hHeld ?_); simp only [Act.put, List.setIfInBounds_toArray, List.set_cons_zero, List.set_cons_succ, Nat.reduceAdd])
                          refine runA (UB hA) rfl (by kernel_rfl) (by kernel_rfl) (fun K hK => ?_)
                          have HK := UC hK
                          clear hK hHeld
                          go_simp
                          refine (UB LS _ (UB HU).rrs).mono ?_
                          rintro e w5 ⟨rfl, b5⟩
                          refine (UB HK).out _ _ (UJ (UE b5 (UB K1))) (fun hHeld => ?_)
                          clear HK K
                          simp only [Nat.reduceAdd]
                          repeat ((first | (refine takeA ?_ (UB hA) rfl rfl (by rfl) (fun _ _ _ h => h) ?_ hHeld ?_; rotate_left; · (intro w hSw; (try dsimp only at hSw); go_simp <;> with_reducible rfl)) | refine skipA (UB hA) rfl (by rfl) (fun _ _ _ h => h) hHeld ?_); simp only [Act.put, List.setIfInBounds_toArray, List.set_cons_zero, List.set_cons_succ, Nat.reduceAdd])
                          refine doneA rfl ?_
                          clear hHeld hA
                          replace bw := UG bw b5
                          replace bW := UG bW b5
                          replace KD := UC (UE b5 (UB KD))
                          replace K1 := UC (UE b5 (UB K1))
                          replace HU := UC ((UB HU).below b5)
                          replace HR := UC (VF (UB HR) b5)
                          have hblN := Nat.lt_of_lt_of_le hbl b5.size
                          clear b5 hbl
                          have hbl := hblN
                          clear hblN
                          obtain ⟨d0, d1, d2⟩ := UL (UB KD)
                          obtain ⟨e0, e1, e2, e3, e4, e5, e6⟩ := UJ (UB K1)
                          go_wp2_with fail
                          clear d0 d1 d2 e0 e1 e2 e3 e4 e5 e6
                          obtain ⟨br, offr, na0, nc0, ta0, tc0, xa0, xc0, ia0, ic0, rfl, hbr, hz, hu0⟩ := (UB HU).rrs.here (k := 0) (by omega)
                          rw [Nat.zero_mul, Nat.add_zero] at hz
                          have hs0 := ((UB HZK).rrss 0 (by omega)).name
                          have hsk := (UB HZK).name
                          have hnr : 0 < rk.rrs.length := by omega
                          have LC := fun (w : World) (h1 : HasL w (.slice na0 (rk.rrs.getD 0 recZ).name.length nc0) (rk.rrs.getD 0 recZ).name) (h2 : HasL w (.slice na rk.name.length nc) rk.name) => l2cmp_has h1 h2 hs0 hsk
                          have bd := UX (w := w5)
                          have HZ := UC (UW hz hbr bd)
                          have HU0 := UC (hu0.below bd)
                          have hbrN := Nat.lt_of_lt_of_le hbr bd.size
                          clear hz hu0 hs0 hsk hbr hl1
                          have hbr := hbrN
                          clear hbrN
                          replace bw := UG bw bd
                          replace bW := UG bW bd
                          replace KD := UC (UE bd (UB KD))
                          replace K1 := UC (UE bd (UB K1))
                          replace HU := UC ((UB HU).below bd)
                          replace HR := UC (VF (UB HR) bd)
                          have hblN := Nat.lt_of_lt_of_le hbl bd.size
                          clear bd hbl
                          have hbl := hblN
                          clear hblN
                          generalize rk.rrs.getD 0 recZ = r0 at *
                          generalize cmpN r0.name rk.name = N at *
                          generalize rk.rrs.length = m at *
                          replace LC := UC LC
                          by_cases hN : N = 0
                          rotate_left
                          ·have qN : (N != 0) = true := by simpa using hN
                           have hR := UB HXK (by rw [UB HSI, decide_eq_false hN, Bool.and_false])
                           subst hR
                           clear hN
                           refine startA (by kernel_rfl) ⟨by kernel_rfl, by kernel_rfl⟩ (fun w' => (w'.cell? ⟨wr.heap.size, 0, none⟩ = some (.slice na rk.name.length nc) ∧ w'.cell? ⟨wr.heap.size, 1, none⟩ = some (.int .i64 rk.type) ∧ w'.cell? ⟨wr.heap.size, 2, none⟩ = some (.int .i64 rk.kind) ∧ w'.cell? ⟨wr.heap.size, 3, none⟩ = some (.slice (some ⟨br, offr, none⟩) m rc) ∧ w'.cell? ⟨wr.heap.size, 4, none⟩ = some (.int .i64 rk.rank) ∧ w'.cell? ⟨wr.heap.size, 5, none⟩ = some (.int .i64 rk.till) ∧ w'.cell? ⟨wr.heap.size, 6, none⟩ = some (.int .i64 rk.used)) ∧ (w'.cell? ⟨br, offr, none⟩ = some (.slice na0 r0.name.length nc0) ∧ w'.cell? ⟨br, offr + 1, none⟩ = some (.int .i64 r0.type) ∧ w'.cell? ⟨br, offr + 2, none⟩ = some (.int .i64 r0.ttl) ∧ w'.cell? ⟨br, offr + 3, none⟩ = some (.int .i64 r0.addr) ∧ w'.cell? ⟨br, offr + 4, none⟩ = some (.slice ta0 r0.to.length tc0) ∧ w'.cell? ⟨br, offr + 5, none⟩ = some (.slice xa0 r0.text.length xc0) ∧ w'.cell? ⟨br, offr + 6, none⟩ = some (.slice ia0 r0.nums.length ic0))) ⟨UJ (UB K1), VH (UB HZ)⟩ (fun hA hHeld => ?_)
                           replace hA := UC hA
                           repeat ((first | (refine takeA ?_ (UB hA) rfl rfl (by rfl) (fun _ _ _ h => h) ?_ hHeld ?_; rotate_left; · (intro w hSw; (try dsimp only at hSw); go_simp <;> with_reducible rfl)) | refine skipA (UB hA) rfl (by rfl) (fun _ _ _ h => h) hHeld ?_); simp only [Act.put, List.setIfInBounds_toArray, List.set_cons_zero, List.set_cons_succ, Nat.reduceAdd])
                           refine runA (UB hA) rfl (by kernel_rfl) (by kernel_rfl) (fun K hK => ?_)
                           have HK := UC hK
                           clear hK hHeld
                           go_simp
                           refine (UB LC _ (UB HU0).name (UB HU).name).mono ?_
                           rintro e w6 ⟨rfl, b6⟩
                           refine (UB HK).out _ _ ⟨UJ (UE b6 (UB K1)), VH (UW (UB HZ) hbr b6)⟩ (fun hHeld => ?_)
                           clear HK K
                           simp only [Nat.reduceAdd]
                           repeat ((first | (refine takeA ?_ (UB hA) rfl rfl (by rfl) (fun _ _ _ h => h) ?_ hHeld ?_; rotate_left; · (intro w hSw; (try dsimp only at hSw); go_simp <;> with_reducible rfl)) | refine skipA (UB hA) rfl (by rfl) (fun _ _ _ h => h) hHeld ?_); simp only [Act.put, List.setIfInBounds_toArray, List.set_cons_zero, List.set_cons_succ, Nat.reduceAdd])
                           refine doneA rfl ?_
                           clear hHeld hA
                           go_wp2_with fail
                           go_ret
                           exact ⟨rfl, UG bW b6⟩
                          subst hN
                          rw [decide_eq_true rfl, Bool.and_true] at HSI
                          by_cases hT : r0.type = rk.type
                          rotate_left
                          ·have qT : (r0.type != rk.type) = true := by simpa using hT
                           have hR := UB HXK (by rw [UB HSI, decide_eq_false hT])
                           subst hR
                           clear hT
                           refine startA (by kernel_rfl) ⟨by kernel_rfl, by kernel_rfl⟩ (fun w' => (w'.cell? ⟨wr.heap.size, 0, none⟩ = some (.slice na rk.name.length nc) ∧ w'.cell? ⟨wr.heap.size, 1, none⟩ = some (.int .i64 rk.type) ∧ w'.cell? ⟨wr.heap.size, 2, none⟩ = some (.int .i64 rk.kind) ∧ w'.cell? ⟨wr.heap.size, 3, none⟩ = some (.slice (some ⟨br, offr, none⟩) m rc) ∧ w'.cell? ⟨wr.heap.size, 4, none⟩ = some (.int .i64 rk.rank) ∧ w'.cell? ⟨wr.heap.size, 5, none⟩ = some (.int .i64 rk.till) ∧ w'.cell? ⟨wr.heap.size, 6, none⟩ = some (.int .i64 rk.used)) ∧ (w'.cell? ⟨br, offr, none⟩ = some (.slice na0 r0.name.length nc0) ∧ w'.cell? ⟨br, offr + 1, none⟩ = some (.int .i64 r0.type) ∧ w'.cell? ⟨br, offr + 2, none⟩ = some (.int .i64 r0.ttl) ∧ w'.cell? ⟨br, offr + 3, none⟩ = some (.int .i64 r0.addr) ∧ w'.cell? ⟨br, offr + 4, none⟩ = some (.slice ta0 r0.to.length tc0) ∧ w'.cell? ⟨br, offr + 5, none⟩ = some (.slice xa0 r0.text.length xc0) ∧ w'.cell? ⟨br, offr + 6, none⟩ = some (.slice ia0 r0.nums.length ic0))) ⟨UJ (UB K1), VH (UB HZ)⟩ (fun hA hHeld => ?_)
                           replace hA := UC hA
                           repeat ((first | (refine takeA ?_ (UB hA) rfl rfl (by rfl) (fun _ _ _ h => h) ?_ hHeld ?_; rotate_left; · (intro w hSw; (try dsimp only at hSw); go_simp <;> with_reducible rfl)) | refine skipA (UB hA) rfl (by rfl) (fun _ _ _ h => h) hHeld ?_); simp only [Act.put, List.setIfInBounds_toArray, List.set_cons_zero, List.set_cons_succ, Nat.reduceAdd])
                           refine runA (UB hA) rfl (by kernel_rfl) (by kernel_rfl) (fun K hK => ?_)
                           have HK := UC hK
                           clear hK hHeld
                           go_simp
                           refine (UB LC _ (UB HU0).name (UB HU).name).mono ?_
                           rintro e w6 ⟨rfl, b6⟩
                           refine (UB HK).out _ _ ⟨UJ (UE b6 (UB K1)), VH (UW (UB HZ) hbr b6)⟩ (fun hHeld => ?_)
                           clear HK K
                           simp only [Nat.reduceAdd]
                           repeat ((first | (refine takeA ?_ (UB hA) rfl rfl (by rfl) (fun _ _ _ h => h) ?_ hHeld ?_; rotate_left; · (intro w hSw; (try dsimp only at hSw); go_simp <;> with_reducible rfl)) | refine skipA (UB hA) rfl (by rfl) (fun _ _ _ h => h) hHeld ?_); simp only [Act.put, List.setIfInBounds_toArray, List.set_cons_zero, List.set_cons_succ, Nat.reduceAdd])
                           refine doneA rfl ?_
                           clear hHeld hA
                           go_wp2_with fail
                           go_ret
                           exact ⟨rfl, UG bW b6⟩
                          rw [decide_eq_true hT] at HSI
                          have qT : (r0.type != rk.type) = false := by simpa using hT
                          have HSK := UC (UB HSI)
                          clear hT HSI HXK
                          refine startA (by kernel_rfl) ⟨by kernel_rfl, by kernel_rfl⟩ (fun w' => (w'.cell? ⟨wr.heap.size, 0, none⟩ = some (.slice na rk.name.length nc) ∧ w'.cell? ⟨wr.heap.size, 1, none⟩ = some (.int .i64 rk.type) ∧ w'.cell? ⟨wr.heap.size, 2, none⟩ = some (.int .i64 rk.kind) ∧ w'.cell? ⟨wr.heap.size, 3, none⟩ = some (.slice (some ⟨br, offr, none⟩) m rc) ∧ w'.cell? ⟨wr.heap.size, 4, none⟩ = some (.int .i64 rk.rank) ∧ w'.cell? ⟨wr.heap.size, 5, none⟩ = some (.int .i64 rk.till) ∧ w'.cell? ⟨wr.heap.size, 6, none⟩ = some (.int .i64 rk.used)) ∧ (w'.cell? ⟨br, offr, none⟩ = some (.slice na0 r0.name.length nc0) ∧ w'.cell? ⟨br, offr + 1, none⟩ = some (.int .i64 r0.type) ∧ w'.cell? ⟨br, offr + 2, none⟩ = some (.int .i64 r0.ttl) ∧ w'.cell? ⟨br, offr + 3, none⟩ = some (.int .i64 r0.addr) ∧ w'.cell? ⟨br, offr + 4, none⟩ = some (.slice ta0 r0.to.length tc0) ∧ w'.cell? ⟨br, offr + 5, none⟩ = some (.slice xa0 r0.text.length xc0) ∧ w'.cell? ⟨br, offr + 6, none⟩ = some (.slice ia0 r0.nums.length ic0))) ⟨UJ (UB K1), VH (UB HZ)⟩ (fun hA hHeld => ?_)
                          replace hA := UC hA
                          repeat ((first | (refine takeA ?_ (UB hA) rfl rfl (by rfl) (fun _ _ _ h => h) ?_ hHeld ?_; rotate_left; · (intro w hSw; (try dsimp only at hSw); go_simp <;> with_reducible rfl)) | refine skipA (UB hA) rfl (by rfl) (fun _ _ _ h => h) hHeld ?_); simp only [Act.put, List.setIfInBounds_toArray, List.set_cons_zero, List.set_cons_succ, Nat.reduceAdd])
                          refine runA (UB hA) rfl (by kernel_rfl) (by kernel_rfl) (fun K hK => ?_)
                          have HK := UC hK
                          clear hK hHeld
                          go_simp
                          refine (UB LC _ (UB HU0).name (UB HU).name).mono ?_
                          rintro e w6 ⟨rfl, b6⟩
                          refine (UB HK).out _ _ ⟨UJ (UE b6 (UB K1)), VH (UW (UB HZ) hbr b6)⟩ (fun hHeld => ?_)
                          clear HK K
                          simp only [Nat.reduceAdd]
                          repeat ((first | (refine takeA ?_ (UB hA) rfl rfl (by rfl) (fun _ _ _ h => h) ?_ hHeld ?_; rotate_left; · (intro w hSw; (try dsimp only at hSw); go_simp <;> with_reducible rfl)) | refine skipA (UB hA) rfl (by rfl) (fun _ _ _ h => h) hHeld ?_); simp only [Act.put, List.setIfInBounds_toArray, List.set_cons_zero, List.set_cons_succ, Nat.reduceAdd])
                          refine doneA rfl ?_
                          clear hHeld hA
                          replace bw := UG bw b6
                          replace bW := UG bW b6
                          replace KD := UC (UE b6 (UB KD))
                          replace K1 := UC (UE b6 (UB K1))
                          replace HU := UC ((UB HU).below b6)
                          replace HR := UC (VF (UB HR) b6)
                          have hblN := Nat.lt_of_lt_of_le hbl b6.size
                          clear b6 hbl
                          have hbl := hblN
                          clear hblN
                          go_wp2_with fail
                          generalize hwc : w6 = WC at *
                          clear hwc
                          have HB0 := UC bw
                          have HB1 := UC bW
                          have HKD := UC (UB KD)
                          have HK1 := UC (UB K1)
                          have HRR := UC (UB HR)
                          have HHB := UC hbl
                          clear KD K1 HR bw bW HU
                          generalize wr.heap.size = BB at *
                          go_loopw [5] (fun i wx => ∃ j : Nat, j ≤ 0 ∧ i = .int .i64 j ∧ Hid (∀ q, q < j → decide ((l.getD q VK).used ≠ rk.used) = true) ∧ Below WC.heap.size WC wx) (fun i _ => 0 - (intOf i).toNat)
                          case atStart => exact ⟨0, Nat.zero_le _, rfl, UC (fun q hq => absurd hq (Nat.not_lt_zero _)), Below.refl _ _⟩
                          case round =>
                           obtain ⟨j, hj, rfl, hal, hx⟩ := hrel
                           have bw := UG (UB HB0) hx
                           have bW := UG (UB HB1) hx
                           have KD := UC (UE hx (UB HKD))
                           have K1 := UC (UE hx (UB HK1))
                           have HR := VF (UB HRR) hx
                           by_cases hjk : j < 0
                           ·exact absurd hjk (Nat.not_lt_zero _)
                           ·obtain rfl : j = 0 := by omega
                            have HS2 := UC (UB HFY (UB hal))
                            go_wp2_with fail
                            exact ⟨⟨0 + 1, by omega, by go_num, UC (UB hone (UB HSK)), UC (UB honf (UB HS2)), bw⟩, by simp [intOf]; omega⟩
                        ·have e1 : (rk.kind == 1) = false := by rw [beq_eq_false_iff_ne]; exact q1
                         have e1' : (rk.kind != 1) = true := by simpa using q1
                         rw [holdsB_two q1 (by have := UB k1n; omega) (by have := UB k3n; omega)] at HSI
                         clear q1
                         cases hG : setOk rk.rrs with
                         | true =>
                          rw [hG] at LS
                          replace LS := UC LS
                          have hl1 := (setOk_rrs hG).2
                          have hR := UB HXK (by rw [UB HSI, decide_eq_false (by omega)])
                          subst hR
                          clear hG hl1
                          have bd := UX (w := w1)
                          replace bw := UG bw bd
                          replace bW := UG bW bd
                          replace KD := UC (UE bd (UB KD))
                          replace K1 := UC (UE bd (UB K1))
                          replace HU := UC ((UB HU).below bd)
                          replace HR := UC (VF (UB HR) bd)
                          have hblN := Nat.lt_of_lt_of_le hbl bd.size
                          clear bd hbl
                          have hbl := hblN
                          clear hblN
                          refine startA (by kernel_rfl) ⟨by kernel_rfl, by kernel_rfl⟩ (fun w' => (w'.cell? ⟨wr.heap.size, 0, none⟩ = some (.slice na rk.name.length nc) ∧ w'.cell? ⟨wr.heap.size, 1, none⟩ = some (.int .i64 rk.type) ∧ w'.cell? ⟨wr.heap.size, 2, none⟩ = some (.int .i64 rk.kind) ∧ w'.cell? ⟨wr.heap.size, 3, none⟩ = some (.slice ra rk.rrs.length rc) ∧ w'.cell? ⟨wr.heap.size, 4, none⟩ = some (.int .i64 rk.rank) ∧ w'.cell? ⟨wr.heap.size, 5, none⟩ = some (.int .i64 rk.till) ∧ w'.cell? ⟨wr.heap.size, 6, none⟩ = some (.int .i64 rk.used))) (UJ (UB K1)) (fun hA hHeld => ?_)
                          replace hA := UC hA
                          repeat ((first | (refine takeA ?_ (UB hA) rfl rfl (by rfl) (fun _ _ _ h => h) ?_ hHeld ?_; rotate_left; · (intro w hSw; (try dsimp only at hSw); go_simp <;> with_reducible rfl)) | refine skipA (UB hA) rfl (by rfl) (fun _ _ _ h => h) hHeld ?_); simp only [Act.put, List.setIfInBounds_toArray, List.set_cons_zero, List.set_cons_succ, Nat.reduceAdd])
                          refine runA (UB hA) rfl (by kernel_rfl) (by kernel_rfl) (fun K hK => ?_)
                          have HK := UC hK
                          clear hK hHeld
                          go_simp
                          refine (UB LS _ (UB HU).rrs).mono ?_
                          rintro e w5 ⟨rfl, b5⟩
                          refine (UB HK).out _ _ (UJ (UE b5 (UB K1))) (fun hHeld => ?_)
                          clear HK K
                          simp only [Nat.reduceAdd]
                          repeat ((first | (refine takeA ?_ (UB hA) rfl rfl (by rfl) (fun _ _ _ h => h) ?_ hHeld ?_; rotate_left; · (intro w hSw; (try dsimp only at hSw); go_simp <;> with_reducible rfl)) | refine skipA (UB hA) rfl (by rfl) (fun _ _ _ h => h) hHeld ?_); simp only [Act.put, List.setIfInBounds_toArray, List.set_cons_zero, List.set_cons_succ, Nat.reduceAdd])
                          refine doneA rfl ?_
                          clear hHeld hA
                          replace bw := UG bw b5
                          replace bW := UG bW b5
                          replace KD := UC (UE b5 (UB KD))
                          replace K1 := UC (UE b5 (UB K1))
                          replace HU := UC ((UB HU).below b5)
                          replace HR := UC (VF (UB HR) b5)
                          have hblN := Nat.lt_of_lt_of_le hbl b5.size
                          clear b5 hbl
                          have hbl := hblN
                          clear hblN
                          obtain ⟨d0, d1, d2⟩ := UL (UB KD)
                          obtain ⟨e0, e1, e2, e3, e4, e5, e6⟩ := UJ (UB K1)
                          go_wp2_with fail
                          clear d0 d1 d2 e0 e1 e2 e3 e4 e5 e6
                          go_ret
                          exact ⟨rfl, bW⟩
                         | false =>
                          rw [hG] at LS
                          replace LS := UC LS
                          clear hG
                          by_cases hl : rk.rrs.length = 0
                          rotate_left
                          ·have hR := UB HXK (by rw [UB HSI, decide_eq_false hl])
                           subst hR
                           have hl2 : (0 : Int) < rk.rrs.length := by omega
                           have bd := UX (w := w1)
                           replace bw := UG bw bd
                           replace bW := UG bW bd
                           replace KD := UC (UE bd (UB KD))
                           replace K1 := UC (UE bd (UB K1))
                           replace HU := UC ((UB HU).below bd)
                           replace HR := UC (VF (UB HR) bd)
                           have hblN := Nat.lt_of_lt_of_le hbl bd.size
                           clear bd hbl
                           have hbl := hblN
                           clear hblN
                           refine startA (by kernel_rfl) ⟨by kernel_rfl, by kernel_rfl⟩ (fun w' => (w'.cell? ⟨wr.heap.size, 0, none⟩ = some (.slice na rk.name.length nc) ∧ w'.cell? ⟨wr.heap.size, 1, none⟩ = some (.int .i64 rk.type) ∧ w'.cell? ⟨wr.heap.size, 2, none⟩ = some (.int .i64 rk.kind) ∧ w'.cell? ⟨wr.heap.size, 3, none⟩ = some (.slice ra rk.rrs.length rc) ∧ w'.cell? ⟨wr.heap.size, 4, none⟩ = some (.int .i64 rk.rank) ∧ w'.cell? ⟨wr.heap.size, 5, none⟩ = some (.int .i64 rk.till) ∧ w'.cell? ⟨wr.heap.size, 6, none⟩ = some (.int .i64 rk.used))) (UJ (UB K1)) (fun hA hHeld => ?_)
                           replace hA := UC hA
                           repeat ((first | (refine takeA ?_ (UB hA) rfl rfl (by rfl) (fun _ _ _ h => h) ?_ hHeld ?_; rotate_left; · (intro w hSw; (try dsimp only at hSw); go_simp <;> with_reducible rfl)) | refine skipA (UB hA) rfl (by rfl) (fun _ _ _ h => h) hHeld ?_); simp only [Act.put, List.setIfInBounds_toArray, List.set_cons_zero, List.set_cons_succ, Nat.reduceAdd])
                           refine runA (UB hA) rfl (by kernel_rfl) (by kernel_rfl) (fun K hK => ?_)
                           have HK := UC hK
                           clear hK hHeld
                           go_simp
                           refine (UB LS _ (UB HU).rrs).mono ?_
                           rintro e w5 ⟨rfl, b5⟩
                           refine (UB HK).out _ _ (UJ (UE b5 (UB K1))) (fun hHeld => ?_)
                           clear HK K
                           simp only [Nat.reduceAdd]
                           repeat ((first | (refine takeA ?_ (UB hA) rfl rfl (by rfl) (fun _ _ _ h => h) ?_ hHeld ?_; rotate_left; · (intro w hSw; (try dsimp only at hSw); go_simp <;> with_reducible rfl)) | refine skipA (UB hA) rfl (by rfl) (fun _ _ _ h => h) hHeld ?_); simp only [Act.put, List.setIfInBounds_toArray, List.set_cons_zero, List.set_cons_succ, Nat.reduceAdd])
                           refine doneA rfl ?_
                           clear hHeld hA
                           replace bw := UG bw b5
                           replace bW := UG bW b5
                           replace KD := UC (UE b5 (UB KD))
                           replace K1 := UC (UE b5 (UB K1))
                           replace HU := UC ((UB HU).below b5)
                           replace HR := UC (VF (UB HR) b5)
                           have hblN := Nat.lt_of_lt_of_le hbl b5.size
                           clear b5 hbl
                           have hbl := hblN
                           clear hblN
                           obtain ⟨d0, d1, d2⟩ := UL (UB KD)
                           obtain ⟨e0, e1, e2, e3, e4, e5, e6⟩ := UJ (UB K1)
                           go_wp2_with fail
                           clear d0 d1 d2 e0 e1 e2 e3 e4 e5 e6
                           go_ret
                           exact ⟨rfl, bW⟩
                          rw [decide_eq_true hl] at HSI
                          have HSK := UC (UB HSI)
                          clear HSI HXK
                          generalize rk.rrs.length = m at *
                          subst hl
                          have bd := UX (w := w1)
                          replace bw := UG bw bd
                          replace bW := UG bW bd
                          replace KD := UC (UE bd (UB KD))
                          replace K1 := UC (UE bd (UB K1))
                          replace HU := UC ((UB HU).below bd)
                          replace HR := UC (VF (UB HR) bd)
                          have hblN := Nat.lt_of_lt_of_le hbl bd.size
                          clear bd hbl
                          have hbl := hblN
                          clear hblN
                          refine startA (by kernel_rfl) ⟨by kernel_rfl, by kernel_rfl⟩ (fun w' => (w'.cell? ⟨wr.heap.size, 0, none⟩ = some (.slice na rk.name.length nc) ∧ w'.cell? ⟨wr.heap.size, 1, none⟩ = some (.int .i64 rk.type) ∧ w'.cell? ⟨wr.heap.size, 2, none⟩ = some (.int .i64 rk.kind) ∧ w'.cell? ⟨wr.heap.size, 3, none⟩ = some (.slice ra 0 rc) ∧ w'.cell? ⟨wr.heap.size, 4, none⟩ = some (.int .i64 rk.rank) ∧ w'.cell? ⟨wr.heap.size, 5, none⟩ = some (.int .i64 rk.till) ∧ w'.cell? ⟨wr.heap.size, 6, none⟩ = some (.int .i64 rk.used))) (UJ (UB K1)) (fun hA hHeld => ?_)
                          replace hA := UC hA
                          repeat ((first | (refine takeA ?_ (UB hA) rfl rfl (by rfl) (fun _ _ _ h => h) ?_ hHeld ?_; rotate_left; · (intro w hSw; (try dsimp only at hSw); go_simp <;> with_reducible rfl)) | refine skipA (UB hA) rfl (by rfl) (fun _ _ _ h => h) hHeld ?_); simp only [Act.put, List.setIfInBounds_toArray, List.set_cons_zero, List.set_cons_succ, Nat.reduceAdd])
                          refine runA (UB hA) rfl (by kernel_rfl) (by kernel_rfl) (fun K hK => ?_)
                          have HK := UC hK
                          clear hK hHeld
                          go_simp
                          refine (UB LS _ (UB HU).rrs).mono ?_
                          rintro e w5 ⟨rfl, b5⟩
                          refine (UB HK).out _ _ (UJ (UE b5 (UB K1))) (fun hHeld => ?_)
                          clear HK K
                          simp only [Nat.reduceAdd]
                          repeat ((first | (refine takeA ?_ (UB hA) rfl rfl (by rfl) (fun _ _ _ h => h) ?_ hHeld ?_; rotate_left; · (intro w hSw; (try dsimp only at hSw); go_simp <;> with_reducible rfl)) | refine skipA (UB hA) rfl (by rfl) (fun _ _ _ h => h) hHeld ?_); simp only [Act.put, List.setIfInBounds_toArray, List.set_cons_zero, List.set_cons_succ, Nat.reduceAdd])
                          refine doneA rfl ?_
                          clear hHeld hA
                          replace bw := UG bw b5
                          replace bW := UG bW b5
                          replace KD := UC (UE b5 (UB KD))
                          replace K1 := UC (UE b5 (UB K1))
                          replace HU := UC ((UB HU).below b5)
                          replace HR := UC (VF (UB HR) b5)
                          have hblN := Nat.lt_of_lt_of_le hbl b5.size
                          clear b5 hbl
                          have hbl := hblN
                          clear hblN
                          obtain ⟨d0, d1, d2⟩ := UL (UB KD)
                          obtain ⟨e0, e1, e2, e3, e4, e5, e6⟩ := UJ (UB K1)
                          go_wp2_with fail
                          clear d0 d1 d2 e0 e1 e2 e3 e4 e5 e6
                          have bd := UX (w := w5)
                          replace bw := UG bw bd
                          replace bW := UG bW bd
                          replace KD := UC (UE bd (UB KD))
                          replace K1 := UC (UE bd (UB K1))
                          replace HU := UC ((UB HU).below bd)
                          replace HR := UC (VF (UB HR) bd)
                          have hblN := Nat.lt_of_lt_of_le hbl bd.size
                          clear bd hbl
                          have hbl := hblN
                          clear hblN
                          refine startA (by kernel_rfl) ⟨by kernel_rfl, by kernel_rfl⟩ (fun w' => (w'.cell? ⟨wr.heap.size, 0, none⟩ = some (.slice na rk.name.length nc) ∧ w'.cell? ⟨wr.heap.size, 1, none⟩ = some (.int .i64 rk.type) ∧ w'.cell? ⟨wr.heap.size, 2, none⟩ = some (.int .i64 rk.kind) ∧ w'.cell? ⟨wr.heap.size, 3, none⟩ = some (.slice ra 0 rc) ∧ w'.cell? ⟨wr.heap.size, 4, none⟩ = some (.int .i64 rk.rank) ∧ w'.cell? ⟨wr.heap.size, 5, none⟩ = some (.int .i64 rk.till) ∧ w'.cell? ⟨wr.heap.size, 6, none⟩ = some (.int .i64 rk.used))) (UJ (UB K1)) (fun hA hHeld => ?_)
                          replace hA := UC hA
                          repeat ((first | (refine takeA ?_ (UB hA) rfl rfl (by rfl) (fun _ _ _ h => h) ?_ hHeld ?_; rotate_left; · (intro w hSw; (try dsimp only at hSw); go_simp <;> with_reducible rfl)) | refine skipA (UB hA) rfl (by rfl) (fun _ _ _ h => h) hHeld ?_); simp only [Act.put, List.setIfInBounds_toArray, List.set_cons_zero, List.set_cons_succ, Nat.reduceAdd])
                          refine doneA rfl ?_
                          clear hHeld hA
                          go_wp2_with fail
                          generalize hwc : w5.drew = WC at *
                          clear hwc
                          have HB0 := UC bw
                          have HB1 := UC bW
                          have HKD := UC (UB KD)
                          have HK1 := UC (UB K1)
                          have HRR := UC (UB HR)
                          have HHB := UC hbl
                          clear KD K1 HR bw bW HU
                          generalize wr.heap.size = BB at *
                          go_loopw [5] (fun i wx => ∃ j : Nat, j ≤ 0 ∧ i = .int .i64 j ∧ Hid (∀ q, q < j → decide ((l.getD q VK).used ≠ rk.used) = true) ∧ Below WC.heap.size WC wx) (fun i _ => 0 - (intOf i).toNat)
                          case atStart => exact ⟨0, Nat.zero_le _, rfl, UC (fun q hq => absurd hq (Nat.not_lt_zero _)), Below.refl _ _⟩
                          case round =>
                           obtain ⟨j, hj, rfl, hal, hx⟩ := hrel
                           have bw := UG (UB HB0) hx
                           have bW := UG (UB HB1) hx
                           have KD := UC (UE hx (UB HKD))
                           have K1 := UC (UE hx (UB HK1))
                           have HR := VF (UB HRR) hx
                           by_cases hjk : j < 0
                           ·exact absurd hjk (Nat.not_lt_zero _)
                           ·obtain rfl : j = 0 := by omega
                            have HS2 := UC (UB HFY (UB hal))
                            go_wp2_with fail
                            exact ⟨⟨0 + 1, by omega, by go_num, UC (UB hone (UB HSK)), UC (UB honf (UB HS2)), bw⟩, by simp [intOf]; omega⟩
   ·obtain ⟨k0, hke⟩ : ∃ k0, k = k0 + 1 := ⟨k - 1, by omega⟩
    rw [decide_eq_false hk0, Bool.false_or, show k - 1 = k0 by omega] at HSI
    obtain ⟨b', off', vs', hbe, hbl', hp, vn', vr', hvs', hu'⟩ := (UB HR0).here (k := k0) (by rw [UB HN]; omega)
    simp only [Option.some.injEq, Addr.mk.injEq, and_true] at hbe
    obtain ⟨rfl, rfl⟩ := hbe
    subst hvs'
    obtain ⟨na', nc', rfl, _⟩ := hu'.name.form
    obtain ⟨ra', rc', rfl, _⟩ := hu'.rrs.form
    have HP := UC (UW hp hbl0 ba)
    have HUP := UC (hu'.below ba)
    obtain ⟨c0, c1, c2, c3, c4, c5, c6⟩ := VH hc
    have hs1 := (UB HZS k0 (by omega)).name
    have hs2 := (UB HZK).name
    have AHD := fun (w : World) (h1 : HasS2 w (.slice na' (l.getD k0 VK).name.length nc') (.slice ra' (l.getD k0 VK).rrs.length rc') (l.getD k0 VK)) (h2 : HasS2 w (.slice na (l.getD k VK).name.length nc) (.slice ra (l.getD k VK).rrs.length rc) (l.getD k VK)) => l10ahead_has h1 h2 hs1 hs2
    have hkp : (0 : Int) < (k : Nat) := by omega
    have hkpn : 0 < k := by omega
    have hsub : ((k : Nat) : Int) - 1 = (k0 : Nat) := by omega
    have hwr : IntKind.i64.wrap (k0 : Int) = (k0 : Nat) := wrap_small k0 (by omega)
    have hkm : (k0 : Int) < n := by omega
    have HKE := UC hke
    clear hc hp hu hu' hb bw0 hbl0 hbl' hke hk0 ba KR HR0 hs1 hs2
    generalize l.getD k VK = rk at *
    generalize l.getD k0 VK = rp at *
    generalize aheadB rp rk = AH at *
    replace AHD := UC AHD
    as_aux_lemma =>
     generalize nameOk rk.name = G1 at *
     generalize typeOk rk.type = G2 at *
     replace NO := UC NO
     replace TO := UC TO
     go_wp2_with fail
     clear c0 c1 c2 c3 c4 c5 c6 d0 d1 d2
     generalize wr.alloc (.cells #[.slice na rk.name.length nc, .int .i64 rk.type, .int .i64 rk.kind, .slice ra rk.rrs.length rc, .int .i64 rk.rank, .int .i64 rk.till, .int .i64 rk.used] 71) = WA at *
     have bd := UX (w := WA)
     replace HUP := UC ((UB HUP).below bd)
     replace HP := UC (UW (UB HP) hbl bd)
     replace bw := UG bw bd
     replace bW := UG bW bd
     replace KD := UC (UE bd (UB KD))
     replace K1 := UC (UE bd (UB K1))
     replace HU := UC ((UB HU).below bd)
     replace HR := UC (VF (UB HR) bd)
     have hblN := Nat.lt_of_lt_of_le hbl bd.size
     clear bd hbl
     have hbl := hblN
     clear hblN
     refine startA (by kernel_rfl) ⟨by kernel_rfl, by kernel_rfl⟩ (fun w' => (w'.cell? ⟨w.heap.size, 0, none⟩ = some (.int .i64 now) ∧ w'.cell? ⟨w.heap.size, 1, none⟩ = some (.int .i64 turn) ∧ w'.cell? ⟨w.heap.size, 2, none⟩ = some (.slice (some ⟨b, off, none⟩) n ca)) ∧ (w'.cell? ⟨wr.heap.size, 0, none⟩ = some (.slice na rk.name.length nc) ∧ w'.cell? ⟨wr.heap.size, 1, none⟩ = some (.int .i64 rk.type) ∧ w'.cell? ⟨wr.heap.size, 2, none⟩ = some (.int .i64 rk.kind) ∧ w'.cell? ⟨wr.heap.size, 3, none⟩ = some (.slice ra rk.rrs.length rc) ∧ w'.cell? ⟨wr.heap.size, 4, none⟩ = some (.int .i64 rk.rank) ∧ w'.cell? ⟨wr.heap.size, 5, none⟩ = some (.int .i64 rk.till) ∧ w'.cell? ⟨wr.heap.size, 6, none⟩ = some (.int .i64 rk.used)) ∧ (w'.cell? ⟨b, off + k0 * 7, none⟩ = some (.slice na' rp.name.length nc') ∧ w'.cell? ⟨b, off + k0 * 7 + 1, none⟩ = some (.int .i64 rp.type) ∧ w'.cell? ⟨b, off + k0 * 7 + 2, none⟩ = some (.int .i64 rp.kind) ∧ w'.cell? ⟨b, off + k0 * 7 + 3, none⟩ = some (.slice ra' rp.rrs.length rc') ∧ w'.cell? ⟨b, off + k0 * 7 + 4, none⟩ = some (.int .i64 rp.rank) ∧ w'.cell? ⟨b, off + k0 * 7 + 5, none⟩ = some (.int .i64 rp.till) ∧ w'.cell? ⟨b, off + k0 * 7 + 6, none⟩ = some (.int .i64 rp.used))) ⟨UL (UB KD), UJ (UB K1), VH (UB HP)⟩ (fun hA hHeld => ?_)
     replace hA := UC hA
     repeat ((first | (refine takeA ?_ (UB hA) rfl rfl (by rfl) (fun _ _ _ h => h) ?_ hHeld ?_; rotate_left; · (intro w hSw; (try dsimp only at hSw); go_simp <;> with_reducible rfl)) | refine skipA (UB hA) rfl (by rfl) (fun _ _ _ h => h) hHeld ?_); simp only [Act.put, List.setIfInBounds_toArray, List.set_cons_zero, List.set_cons_succ, Nat.reduceAdd])
     refine runA (UB hA) rfl (by kernel_rfl) (by kernel_rfl) (fun K hK => ?_)
     have HK := UC hK
     clear hK hHeld
     go_simp
     refine (UB NO _ (UB HU).name).mono ?_
     rintro e w1 ⟨rfl, b1⟩
     replace HUP := UC ((UB HUP).below b1)
     replace HP := UC (UW (UB HP) hbl b1)
     replace bw := UG bw b1
     replace bW := UG bW b1
     replace KD := UC (UE b1 (UB KD))
     replace K1 := UC (UE b1 (UB K1))
     replace HU := UC ((UB HU).below b1)
     replace HR := UC (VF (UB HR) b1)
     have hblN := Nat.lt_of_lt_of_le hbl b1.size
     clear b1 hbl
     have hbl := hblN
     clear hblN
     refine (UB HK).out _ _ ⟨UL (UB KD), UJ (UB K1), VH (UB HP)⟩ (fun hHeld => ?_)
     clear HK K
     simp only [Nat.reduceAdd]
     cases G1 with
     | false =>
      as_aux_lemma =>
       have hR := UB HXK (by rw [UB HSI]; simp)
       subst hR
       ((first | (refine takeA ?_ (UB hA) rfl rfl (by rfl) (fun _ _ _ h => h) ?_ hHeld ?_; rotate_left; · (intro w hSw; (try dsimp only at hSw); go_simp <;> with_reducible rfl)) | refine skipA (UB hA) rfl (by rfl) (fun _ _ _ h => h) hHeld ?_); simp only [Act.put, List.setIfInBounds_toArray, List.set_cons_zero, List.set_cons_succ, Nat.reduceAdd])
       refine leaf_all (UB hA) (fun _ _ _ _ _ h => h) hHeld [(46, some true), (47, none), (48, none), (49, none), (50, none), (51, some true), (52, some true), (53, none), (54, none), (55, none), (56, some true), (57, some true), (58, none), (59, none), (60, none), (61, some true), (62, some true), (63, none), (64, none), (65, none), (66, some true), (67, some true), (68, none), (69, none), (70, none), (71, some true), (72, some true), (73, none), (74, none), (75, none), (76, none), (77, none), (78, some true), (79, some true), (80, none), (81, none), (82, none), (83, none), (84, none), (85, none), (86, some true), (87, some true), (88, none), (89, none), (90, none), (91, some true), (92, some true), (93, none), (94, none), (95, none), (96, none), (97, none), (98, some true), (99, some true), (100, none), (101, none), (102, none), (103, none), (104, none), (105, none), (106, none), (107, none), (108, none), (109, none), (110, none), (111, none), (112, none), (113, some true)] (by kernel_rfl) ?_
       simp only [putsF, valF, List.setIfInBounds_toArray, List.set_cons_zero, List.set_cons_succ]
       clear hHeld hA
       go_wp2_with fail
       go_ret
       exact ⟨rfl, bW⟩
     | true =>
      repeat ((first | (refine takeA ?_ (UB hA) rfl rfl (by rfl) (fun _ _ _ h => h) ?_ hHeld ?_; rotate_left; · (intro w hSw; (try dsimp only at hSw); go_simp <;> with_reducible rfl)) | refine skipA (UB hA) rfl (by rfl) (fun _ _ _ h => h) hHeld ?_); simp only [Act.put, List.setIfInBounds_toArray, List.set_cons_zero, List.set_cons_succ, Nat.reduceAdd])
      refine runA (UB hA) rfl (by kernel_rfl) (by kernel_rfl) (fun K hK => ?_)
      have HK := UC hK
      clear hK hHeld
      go_simp
      refine (UB TO _).mono ?_
      rintro e w2 ⟨rfl, rfl⟩
      refine (UB HK).out _ _ ⟨UL (UB KD), UJ (UB K1), VH (UB HP)⟩ (fun hHeld => ?_)
      clear HK K
      simp only [Nat.reduceAdd]
      cases G2 with
      | false =>
       as_aux_lemma =>
        have hR := UB HXK (by rw [UB HSI]; simp)
        subst hR
        ((first | (refine takeA ?_ (UB hA) rfl rfl (by rfl) (fun _ _ _ h => h) ?_ hHeld ?_; rotate_left; · (intro w hSw; (try dsimp only at hSw); go_simp <;> with_reducible rfl)) | refine skipA (UB hA) rfl (by rfl) (fun _ _ _ h => h) hHeld ?_); simp only [Act.put, List.setIfInBounds_toArray, List.set_cons_zero, List.set_cons_succ, Nat.reduceAdd])
        refine leaf_all (UB hA) (fun _ _ _ _ _ h => h) hHeld [(51, some true), (52, some true), (53, none), (54, none), (55, none), (56, some true), (57, some true), (58, none), (59, none), (60, none), (61, some true), (62, some true), (63, none), (64, none), (65, none), (66, some true), (67, some true), (68, none), (69, none), (70, none), (71, some true), (72, some true), (73, none), (74, none), (75, none), (76, none), (77, none), (78, some true), (79, some true), (80, none), (81, none), (82, none), (83, none), (84, none), (85, none), (86, some true), (87, some true), (88, none), (89, none), (90, none), (91, some true), (92, some true), (93, none), (94, none), (95, none), (96, none), (97, none), (98, some true), (99, some true), (100, none), (101, none), (102, none), (103, none), (104, none), (105, none), (106, none), (107, none), (108, none), (109, none), (110, none), (111, none), (112, none), (113, some true)] (by kernel_rfl) ?_
        simp only [putsF, valF, List.setIfInBounds_toArray, List.set_cons_zero, List.set_cons_succ]
        clear hHeld hA
        go_wp2_with fail
        go_ret
        exact ⟨rfl, bW⟩
      | true =>
       repeat ((first | (refine takeA ?_ (UB hA) rfl rfl (by rfl) (fun _ _ _ h => h) ?_ hHeld ?_; rotate_left; · (intro w hSw; (try dsimp only at hSw); go_simp <;> with_reducible rfl)) | refine skipA (UB hA) rfl (by rfl) (fun _ _ _ h => h) hHeld ?_); simp only [Act.put, List.setIfInBounds_toArray, List.set_cons_zero, List.set_cons_succ, Nat.reduceAdd])
       by_cases k1 : rk.kind < 1
       ·as_aux_lemma =>
         rw [decide_eq_true k1]
         have hR := UB HXK (by rw [UB HSI]; rw [holdsB_out (.inl k1)]; simp)
         subst hR
         refine leaf_all (UB hA) (fun _ _ _ _ _ h => h) hHeld [(58, none), (59, none), (60, none), (61, some true), (62, some true), (63, none), (64, none), (65, none), (66, some true), (67, some true), (68, none), (69, none), (70, none), (71, some true), (72, some true), (73, none), (74, none), (75, none), (76, none), (77, none), (78, some true), (79, some true), (80, none), (81, none), (82, none), (83, none), (84, none), (85, none), (86, some true), (87, some true), (88, none), (89, none), (90, none), (91, some true), (92, some true), (93, none), (94, none), (95, none), (96, none), (97, none), (98, some true), (99, some true), (100, none), (101, none), (102, none), (103, none), (104, none), (105, none), (106, none), (107, none), (108, none), (109, none), (110, none), (111, none), (112, none), (113, some true)] (by kernel_rfl) ?_
         simp only [putsF, valF, List.setIfInBounds_toArray, List.set_cons_zero, List.set_cons_succ]
         clear hHeld hA
         go_wp2_with fail
         go_ret
         exact ⟨rfl, bW⟩
       ·as_aux_lemma =>
         rw [decide_eq_false k1]
         have k1n := UC k1
         repeat ((first | (refine takeA ?_ (UB hA) rfl rfl (by rfl) (fun _ _ _ h => h) ?_ hHeld ?_; rotate_left; · (intro w hSw; (try dsimp only at hSw); go_simp <;> with_reducible rfl)) | refine skipA (UB hA) rfl (by rfl) (fun _ _ _ h => h) hHeld ?_); simp only [Act.put, List.setIfInBounds_toArray, List.set_cons_zero, List.set_cons_succ, Nat.reduceAdd])
         by_cases k3 : 3 < rk.kind
         ·as_aux_lemma =>
           rw [decide_eq_true k3]
           have hR := UB HXK (by rw [UB HSI]; rw [holdsB_out (.inr k3)]; simp)
           subst hR
           refine leaf_all (UB hA) (fun _ _ _ _ _ h => h) hHeld [(63, none), (64, none), (65, none), (66, some true), (67, some true), (68, none), (69, none), (70, none), (71, some true), (72, some true), (73, none), (74, none), (75, none), (76, none), (77, none), (78, some true), (79, some true), (80, none), (81, none), (82, none), (83, none), (84, none), (85, none), (86, some true), (87, some true), (88, none), (89, none), (90, none), (91, some true), (92, some true), (93, none), (94, none), (95, none), (96, none), (97, none), (98, some true), (99, some true), (100, none), (101, none), (102, none), (103, none), (104, none), (105, none), (106, none), (107, none), (108, none), (109, none), (110, none), (111, none), (112, none), (113, some true)] (by kernel_rfl) ?_
           simp only [putsF, valF, List.setIfInBounds_toArray, List.set_cons_zero, List.set_cons_succ]
           clear hHeld hA
           go_wp2_with fail
           go_ret
           exact ⟨rfl, bW⟩
         ·as_aux_lemma =>
           rw [decide_eq_false k3]
           have k3n := UC k3
           repeat ((first | (refine takeA ?_ (UB hA) rfl rfl (by rfl) (fun _ _ _ h => h) ?_ hHeld ?_; rotate_left; · (intro w hSw; (try dsimp only at hSw); go_simp <;> with_reducible rfl)) | refine skipA (UB hA) rfl (by rfl) (fun _ _ _ h => h) hHeld ?_); simp only [Act.put, List.setIfInBounds_toArray, List.set_cons_zero, List.set_cons_succ, Nat.reduceAdd])
           by_cases r0 : rk.rank < 0
           ·as_aux_lemma =>
             rw [decide_eq_true r0]
             have hR := UB HXK (by rw [UB HSI]; rw [decide_eq_false (p := 0 ≤ rk.rank ∧ rk.rank ≤ 3) (by omega)]; simp)
             subst hR
             refine leaf_all (UB hA) (fun _ _ _ _ _ h => h) hHeld [(68, none), (69, none), (70, none), (71, some true), (72, some true), (73, none), (74, none), (75, none), (76, none), (77, none), (78, some true), (79, some true), (80, none), (81, none), (82, none), (83, none), (84, none), (85, none), (86, some true), (87, some true), (88, none), (89, none), (90, none), (91, some true), (92, some true), (93, none), (94, none), (95, none), (96, none), (97, none), (98, some true), (99, some true), (100, none), (101, none), (102, none), (103, none), (104, none), (105, none), (106, none), (107, none), (108, none), (109, none), (110, none), (111, none), (112, none), (113, some true)] (by kernel_rfl) ?_
             simp only [putsF, valF, List.setIfInBounds_toArray, List.set_cons_zero, List.set_cons_succ]
             clear hHeld hA
             go_wp2_with fail
             go_ret
             exact ⟨rfl, bW⟩
           ·as_aux_lemma =>
             rw [decide_eq_false r0]
             have r0n := UC r0
             repeat ((first | (refine takeA ?_ (UB hA) rfl rfl (by rfl) (fun _ _ _ h => h) ?_ hHeld ?_; rotate_left; · (intro w hSw; (try dsimp only at hSw); go_simp <;> with_reducible rfl)) | refine skipA (UB hA) rfl (by rfl) (fun _ _ _ h => h) hHeld ?_); simp only [Act.put, List.setIfInBounds_toArray, List.set_cons_zero, List.set_cons_succ, Nat.reduceAdd])
             by_cases r3 : 3 < rk.rank
             ·as_aux_lemma =>
               rw [decide_eq_true r3]
               have hR := UB HXK (by rw [UB HSI]; rw [decide_eq_false (p := 0 ≤ rk.rank ∧ rk.rank ≤ 3) (by omega)]; simp)
               subst hR
               refine leaf_all (UB hA) (fun _ _ _ _ _ h => h) hHeld [(73, none), (74, none), (75, none), (76, none), (77, none), (78, some true), (79, some true), (80, none), (81, none), (82, none), (83, none), (84, none), (85, none), (86, some true), (87, some true), (88, none), (89, none), (90, none), (91, some true), (92, some true), (93, none), (94, none), (95, none), (96, none), (97, none), (98, some true), (99, some true), (100, none), (101, none), (102, none), (103, none), (104, none), (105, none), (106, none), (107, none), (108, none), (109, none), (110, none), (111, none), (112, none), (113, some true)] (by kernel_rfl) ?_
               simp only [putsF, valF, List.setIfInBounds_toArray, List.set_cons_zero, List.set_cons_succ]
               clear hHeld hA
               go_wp2_with fail
               go_ret
               exact ⟨rfl, bW⟩
             ·as_aux_lemma =>
               rw [decide_eq_false r3]
               have r3n := UC r3
               repeat ((first | (refine takeA ?_ (UB hA) rfl rfl (by rfl) (fun _ _ _ h => h) ?_ hHeld ?_; rotate_left; · (intro w hSw; (try dsimp only at hSw); go_simp <;> with_reducible rfl)) | refine skipA (UB hA) rfl (by rfl) (fun _ _ _ h => h) hHeld ?_); simp only [Act.put, List.setIfInBounds_toArray, List.set_cons_zero, List.set_cons_succ, Nat.reduceAdd])
               by_cases t1 : rk.till ≤ now
               ·as_aux_lemma =>
                 rw [decide_eq_true t1]
                 have hR := UB HXK (by rw [UB HSI]; rw [decide_eq_false (p := now < rk.till) (by omega)]; simp)
                 subst hR
                 refine leaf_all (UB hA) (fun _ _ _ _ _ h => h) hHeld [(80, none), (81, none), (82, none), (83, none), (84, none), (85, none), (86, some true), (87, some true), (88, none), (89, none), (90, none), (91, some true), (92, some true), (93, none), (94, none), (95, none), (96, none), (97, none), (98, some true), (99, some true), (100, none), (101, none), (102, none), (103, none), (104, none), (105, none), (106, none), (107, none), (108, none), (109, none), (110, none), (111, none), (112, none), (113, some true)] (by kernel_rfl) ?_
                 simp only [putsF, valF, List.setIfInBounds_toArray, List.set_cons_zero, List.set_cons_succ]
                 clear hHeld hA
                 go_wp2_with fail
                 go_ret
                 exact ⟨rfl, bW⟩
               ·as_aux_lemma =>
                 rw [decide_eq_false t1]
                 have t1n := UC t1
                 repeat ((first | (refine takeA ?_ (UB hA) rfl rfl (by rfl) (fun _ _ _ h => h) ?_ hHeld ?_; rotate_left; · (intro w hSw; (try dsimp only at hSw); go_simp <;> with_reducible rfl)) | refine skipA (UB hA) rfl (by rfl) (fun _ _ _ h => h) hHeld ?_); simp only [Act.put, List.setIfInBounds_toArray, List.set_cons_zero, List.set_cons_succ, Nat.reduceAdd])
                 by_cases t2 : now + 1000 < rk.till
                 ·as_aux_lemma =>
                   rw [decide_eq_true t2]
                   have hR := UB HXK (by rw [UB HSI]; rw [decide_eq_false (p := rk.till ≤ now + 1000) (by omega)]; simp)
                   subst hR
                   refine leaf_all (UB hA) (fun _ _ _ _ _ h => h) hHeld [(88, none), (89, none), (90, none), (91, some true), (92, some true), (93, none), (94, none), (95, none), (96, none), (97, none), (98, some true), (99, some true), (100, none), (101, none), (102, none), (103, none), (104, none), (105, none), (106, none), (107, none), (108, none), (109, none), (110, none), (111, none), (112, none), (113, some true)] (by kernel_rfl) ?_
                   simp only [putsF, valF, List.setIfInBounds_toArray, List.set_cons_zero, List.set_cons_succ]
                   clear hHeld hA
                   go_wp2_with fail
                   go_ret
                   exact ⟨rfl, bW⟩
                 ·as_aux_lemma =>
                   rw [decide_eq_false t2]
                   have t2n := UC t2
                   repeat ((first | (refine takeA ?_ (UB hA) rfl rfl (by rfl) (fun _ _ _ h => h) ?_ hHeld ?_; rotate_left; · (intro w hSw; (try dsimp only at hSw); go_simp <;> with_reducible rfl)) | refine skipA (UB hA) rfl (by rfl) (fun _ _ _ h => h) hHeld ?_); simp only [Act.put, List.setIfInBounds_toArray, List.set_cons_zero, List.set_cons_succ, Nat.reduceAdd])
                   by_cases u1 : rk.used < 1
                   ·as_aux_lemma =>
                     rw [decide_eq_true u1]
                     have hR := UB HXK (by rw [UB HSI]; rw [decide_eq_false (p := 1 ≤ rk.used) (by omega)]; simp)
                     subst hR
                     refine leaf_all (UB hA) (fun _ _ _ _ _ h => h) hHeld [(93, none), (94, none), (95, none), (96, none), (97, none), (98, some true), (99, some true), (100, none), (101, none), (102, none), (103, none), (104, none), (105, none), (106, none), (107, none), (108, none), (109, none), (110, none), (111, none), (112, none), (113, some true)] (by kernel_rfl) ?_
                     simp only [putsF, valF, List.setIfInBounds_toArray, List.set_cons_zero, List.set_cons_succ]
                     clear hHeld hA
                     go_wp2_with fail
                     go_ret
                     exact ⟨rfl, bW⟩
                   ·as_aux_lemma =>
                     rw [decide_eq_false u1]
                     have u1n := UC u1
                     repeat ((first | (refine takeA ?_ (UB hA) rfl rfl (by rfl) (fun _ _ _ h => h) ?_ hHeld ?_; rotate_left; · (intro w hSw; (try dsimp only at hSw); go_simp <;> with_reducible rfl)) | refine skipA (UB hA) rfl (by rfl) (fun _ _ _ h => h) hHeld ?_); simp only [Act.put, List.setIfInBounds_toArray, List.set_cons_zero, List.set_cons_succ, Nat.reduceAdd])
                     by_cases u2 : turn < rk.used
                     ·as_aux_lemma =>
                       rw [decide_eq_true u2]
                       have hR := UB HXK (by rw [UB HSI]; rw [decide_eq_false (p := rk.used ≤ turn) (by omega)]; simp)
                       subst hR
                       refine leaf_all (UB hA) (fun _ _ _ _ _ h => h) hHeld [(100, none), (101, none), (102, none), (103, none), (104, none), (105, none), (106, none), (107, none), (108, none), (109, none), (110, none), (111, none), (112, none), (113, some true)] (by kernel_rfl) ?_
                       simp only [putsF, valF, List.setIfInBounds_toArray, List.set_cons_zero, List.set_cons_succ]
                       clear hHeld hA
                       go_wp2_with fail
                       go_ret
                       exact ⟨rfl, bW⟩
                     ·as_aux_lemma =>
                       rw [decide_eq_false u2]
                       have u2n := UC u2
                       repeat ((first | (refine takeA ?_ (UB hA) rfl rfl (by rfl) (fun _ _ _ h => h) ?_ hHeld ?_; rotate_left; · (intro w hSw; (try dsimp only at hSw); go_simp <;> with_reducible rfl)) | refine skipA (UB hA) rfl (by rfl) (fun _ _ _ h => h) hHeld ?_); simp only [Act.put, List.setIfInBounds_toArray, List.set_cons_zero, List.set_cons_succ, Nat.reduceAdd])
                       rw [decide_eq_true (p := 0 ≤ rk.rank ∧ rk.rank ≤ 3) (by omega), decide_eq_true (p := now < rk.till) (by omega), decide_eq_true (p := rk.till ≤ now + 1000) (by omega), decide_eq_true (p := 1 ≤ rk.used) (by omega), decide_eq_true (p := rk.used ≤ turn) (by omega)] at HSI
                       simp only [Bool.true_and, Bool.and_true] at HSI
                       refine runA (UB hA) rfl (by kernel_rfl) (by kernel_rfl) (fun K hK => ?_)
                       have HK := UC hK
                       clear hK hHeld
                       go_simp
                       refine (UB AHD _ (UB HUP) (UB HU)).mono ?_
                       rintro e w3 ⟨rfl, b3⟩
                       replace HUP := UC ((UB HUP).below b3)
                       replace HP := UC (UW (UB HP) hbl b3)
                       replace bw := UG bw b3
                       replace bW := UG bW b3
                       replace KD := UC (UE b3 (UB KD))
                       replace K1 := UC (UE b3 (UB K1))
                       replace HU := UC ((UB HU).below b3)
                       replace HR := UC (VF (UB HR) b3)
                       have hblN := Nat.lt_of_lt_of_le hbl b3.size
                       clear b3 hbl
                       have hbl := hblN
                       clear hblN
                       refine (UB HK).out _ _ ⟨UL (UB KD), UJ (UB K1), VH (UB HP)⟩ (fun hHeld => ?_)
                       clear HK K
                       simp only [Nat.reduceAdd]
                       cases AH with
                       | false =>
                        as_aux_lemma =>
                         have hR := UB HXK (by rw [UB HSI]; simp)
                         subst hR
                         ((first | (refine takeA ?_ (UB hA) rfl rfl (by rfl) (fun _ _ _ h => h) ?_ hHeld ?_; rotate_left; · (intro w hSw; (try dsimp only at hSw); go_simp <;> with_reducible rfl)) | refine skipA (UB hA) rfl (by rfl) (fun _ _ _ h => h) hHeld ?_); simp only [Act.put, List.setIfInBounds_toArray, List.set_cons_zero, List.set_cons_succ, Nat.reduceAdd])
                         refine leaf_all (UB hA) (fun _ _ _ _ _ h => h) hHeld [(112, some true), (113, some true)] (by kernel_rfl) ?_
                         simp only [putsF, valF, List.setIfInBounds_toArray, List.set_cons_zero, List.set_cons_succ]
                         clear hHeld hA
                         go_wp2_with fail
                         go_ret
                         exact ⟨rfl, bW⟩
                       | true =>
                        try simp only [Bool.and_true] at HSI
                        repeat ((first | (refine takeA ?_ (UB hA) rfl rfl (by rfl) (fun _ _ _ h => h) ?_ hHeld ?_; rotate_left; · (intro w hSw; (try dsimp only at hSw); go_simp <;> with_reducible rfl)) | refine skipA (UB hA) rfl (by rfl) (fun _ _ _ h => h) hHeld ?_); simp only [Act.put, List.setIfInBounds_toArray, List.set_cons_zero, List.set_cons_succ, Nat.reduceAdd])
                        refine doneA rfl ?_
                        clear hHeld hA
                        clear hwr hsub
                        go_wp2_with fail
                        as_aux_lemma =>
                         have LS := fun (w : World) (h : HasRs w (.slice ra rk.rrs.length rc) rk.rrs) => l10set_has h (fun q hq => ((UB HZK).rrss q hq).name)
                         by_cases q1 : rk.kind = 1
                         ·have e1 : (rk.kind == 1) = true := by rw [beq_iff_eq]; exact q1
                          have e1' : (rk.kind != 1) = false := by simpa using q1
                          rw [holdsB_one q1] at HSI
                          clear q1
                          cases hG : setOk rk.rrs with
                          | false =>
                           rw [hG] at LS HSI
                           replace LS := UC LS
                           have hR := UB HXK (by rw [UB HSI, Bool.false_and])
                           subst hR
                           have bd := UX (w := w3)
                           replace bw := UG bw bd
                           replace bW := UG bW bd
                           replace KD := UC (UE bd (UB KD))
                           replace K1 := UC (UE bd (UB K1))
                           replace HU := UC ((UB HU).below bd)
                           replace HR := UC (VF (UB HR) bd)
                           have hblN := Nat.lt_of_lt_of_le hbl bd.size
                           clear bd hbl
                           have hbl := hblN
                           clear hblN
                           refine startA (by kernel_rfl) ⟨by kernel_rfl, by kernel_rfl⟩ (fun w' => (w'.cell? ⟨wr.heap.size, 0, none⟩ = some (.slice na rk.name.length nc) ∧ w'.cell? ⟨wr.heap.size, 1, none⟩ = some (.int .i64 rk.type) ∧ w'.cell? ⟨wr.heap.size, 2, none⟩ = some (.int .i64 rk.kind) ∧ w'.cell? ⟨wr.heap.size, 3, none⟩ = some (.slice ra rk.rrs.length rc) ∧ w'.cell? ⟨wr.heap.size, 4, none⟩ = some (.int .i64 rk.rank) ∧ w'.cell? ⟨wr.heap.size, 5, none⟩ = some (.int .i64 rk.till) ∧ w'.cell? ⟨wr.heap.size, 6, none⟩ = some (.int .i64 rk.used))) (UJ (UB K1)) (fun hA hHeld => ?_)
                           replace hA := UC hA
                           repeat ((first | (refine takeA ?_ (UB hA) rfl rfl (by rfl) (fun _ _ _ h => h) ?_ hHeld ?_; rotate_left; · (intro w hSw; (try dsimp only at hSw); go_simp <;> with_reducible rfl)) | refine skipA (UB hA) rfl (by rfl) (fun _ _ _ h => h) hHeld ?_); simp only [Act.put, List.setIfInBounds_toArray, List.set_cons_zero, List.set_cons_succ, Nat.reduceAdd])
                           refine runA (UB hA) rfl (by kernel_rfl) (by kernel_rfl) (fun K hK => ?_)
                           have HK := UC hK
                           clear hK hHeld
                           go_simp
                           refine (UB LS _ (UB HU).rrs).mono ?_
                           rintro e w5 ⟨rfl, b5⟩
                           refine (UB HK).out _ _ (UJ (UE b5 (UB K1))) (fun hHeld => ?_)
                           clear HK K
                           simp only [Nat.reduceAdd]
                           repeat ((first | (refine takeA ?_ (UB hA) rfl rfl (by rfl) (fun _ _ _ h => h) ?_ hHeld ?_; rotate_left; · (intro w hSw; (try dsimp only at hSw); go_simp <;> with_reducible rfl)) | refine skipA (UB hA) rfl (by rfl) (fun _ _ _ h => h) hHeld ?_); simp only [Act.put, List.setIfInBounds_toArray, List.set_cons_zero, List.set_cons_succ, Nat.reduceAdd])
                           refine doneA rfl ?_
                           clear hHeld hA
                           replace bw := UG bw b5
                           replace bW := UG bW b5
                           replace KD := UC (UE b5 (UB KD))
                           replace K1 := UC (UE b5 (UB K1))
                           replace HU := UC ((UB HU).below b5)
                           replace HR := UC (VF (UB HR) b5)
                           have hblN := Nat.lt_of_lt_of_le hbl b5.size
                           clear b5 hbl
                           have hbl := hblN
                           clear hblN
                           obtain ⟨d0, d1, d2⟩ := UL (UB KD)
                           obtain ⟨e0, e1, e2, e3, e4, e5, e6⟩ := UJ (UB K1)
                           go_wp2_with fail
                           clear d0 d1 d2 e0 e1 e2 e3 e4 e5 e6
                           go_ret
                           exact ⟨rfl, bW⟩
                          | true =>
                           rw [hG] at LS HSI
                           replace LS := UC LS
                           rw [Bool.true_and] at HSI
                           have hl1 := (setOk_rrs hG).2
                           clear hG
                           have bd := UX (w := w3)
                           replace bw := UG bw bd
                           replace bW := UG bW bd
                           replace KD := UC (UE bd (UB KD))
                           replace K1 := UC (UE bd (UB K1))
                           replace HU := UC ((UB HU).below bd)
                           replace HR := UC (VF (UB HR) bd)
                           have hblN := Nat.lt_of_lt_of_le hbl bd.size
                           clear bd hbl
                           have hbl := hblN
                           clear hblN
                           refine startA (by kernel_rfl) ⟨by kernel_rfl, by kernel_rfl⟩ (fun w' => (w'.cell? ⟨wr.heap.size, 0, none⟩ = some (.slice na rk.name.length nc) ∧ w'.cell? ⟨wr.heap.size, 1, none⟩ = some (.int .i64 rk.type) ∧ w'.cell? ⟨wr.heap.size, 2, none⟩ = some (.int .i64 rk.kind) ∧ w'.cell? ⟨wr.heap.size, 3, none⟩ = some (.slice ra rk.rrs.length rc) ∧ w'.cell? ⟨wr.heap.size, 4, none⟩ = some (.int .i64 rk.rank) ∧ w'.cell? ⟨wr.heap.size, 5, none⟩ = some (.int .i64 rk.till) ∧ w'.cell? ⟨wr.heap.size, 6, none⟩ = some (.int .i64 rk.used))) (UJ (UB K1)) (fun hA hHeld => ?_)
                           replace hA := UC hA
                           repeat ((first | (refine takeA ?_ (UB hA) rfl rfl (by rfl) (fun _ _ _ h => h) ?_ hHeld ?_; rotate_left; · (intro w hSw; (try dsimp only at hSw); go_simp <;> with_reducible rfl)) | refine skipA (UB hA) rfl (by rfl) (fun _ _ _ h => h) hHeld ?_); simp only [Act.put, List.setIfInBounds_toArray, List.set_cons_zero, List.set_cons_succ, Nat.reduceAdd])
                           refine runA (UB hA) rfl (by kernel_rfl) (by kernel_rfl) (fun K hK => ?_)
                           have HK := UC hK
                           clear hK hHeld
                           go_simp
                           refine (UB LS _ (UB HU).rrs).mono ?_
                           rintro e w5 ⟨rfl, b5⟩
                           refine (UB HK).out _ _ (UJ (UE b5 (UB K1))) (fun hHeld => ?_)
                           clear HK K
                           simp only [Nat.reduceAdd]
                           repeat ((first | (refine takeA ?_ (UB hA) rfl rfl (by rfl) (fun _ _ _ h => h) ?_ hHeld ?_; rotate_left; · (intro w hSw; (try dsimp only at hSw); go_simp <;> with_reducible rfl)) | refine skipA (UB hA) rfl (by rfl) (fun _ _ _ h => h) hHeld ?_); simp only [Act.put, List.setIfInBounds_toArray, List.set_cons_zero, List.set_cons_succ, Nat.reduceAdd])
                           refine doneA rfl ?_
                           clear hHeld hA
                           replace bw := UG bw b5
                           replace bW := UG bW b5
                           replace KD := UC (UE b5 (UB KD))
                           replace K1 := UC (UE b5 (UB K1))
                           replace HU := UC ((UB HU).below b5)
                           replace HR := UC (VF (UB HR) b5)
                           have hblN := Nat.lt_of_lt_of_le hbl b5.size
                           clear b5 hbl
                           have hbl := hblN
                           clear hblN
                           obtain ⟨d0, d1, d2⟩ := UL (UB KD)
                           obtain ⟨e0, e1, e2, e3, e4, e5, e6⟩ := UJ (UB K1)
                           go_wp2_with fail
                           clear d0 d1 d2 e0 e1 e2 e3 e4 e5 e6
                           obtain ⟨br, offr, na0, nc0, ta0, tc0, xa0, xc0, ia0, ic0, rfl, hbr, hz, hu0⟩ := (UB HU).rrs.here (k := 0) (by omega)
                           rw [Nat.zero_mul, Nat.add_zero] at hz
                           have hs0 := ((UB HZK).rrss 0 (by omega)).name
                           have hsk := (UB HZK).name
                           have hnr : 0 < rk.rrs.length := by omega
                           have LC := fun (w : World) (h1 : HasL w (.slice na0 (rk.rrs.getD 0 recZ).name.length nc0) (rk.rrs.getD 0 recZ).name) (h2 : HasL w (.slice na rk.name.length nc) rk.name) => l2cmp_has h1 h2 hs0 hsk
                           have bd := UX (w := w5)
                           have HZ := UC (UW hz hbr bd)
                           have HU0 := UC (hu0.below bd)
                           have hbrN := Nat.lt_of_lt_of_le hbr bd.size
                           clear hz hu0 hs0 hsk hbr hl1
                           have hbr := hbrN
                           clear hbrN
                           replace bw := UG bw bd
                           replace bW := UG bW bd
                           replace KD := UC (UE bd (UB KD))
                           replace K1 := UC (UE bd (UB K1))
                           replace HU := UC ((UB HU).below bd)
                           replace HR := UC (VF (UB HR) bd)
                           have hblN := Nat.lt_of_lt_of_le hbl bd.size
                           clear bd hbl
                           have hbl := hblN
                           clear hblN
                           generalize rk.rrs.getD 0 recZ = r0 at *
                           generalize cmpN r0.name rk.name = N at *
                           generalize rk.rrs.length = m at *
                           replace LC := UC LC
                           by_cases hN : N = 0
                           rotate_left
                           ·have qN : (N != 0) = true := by simpa using hN
                            have hR := UB HXK (by rw [UB HSI, decide_eq_false hN, Bool.and_false])
                            subst hR
                            clear hN
                            refine startA (by kernel_rfl) ⟨by kernel_rfl, by kernel_rfl⟩ (fun w' => (w'.cell? ⟨wr.heap.size, 0, none⟩ = some (.slice na rk.name.length nc) ∧ w'.cell? ⟨wr.heap.size, 1, none⟩ = some (.int .i64 rk.type) ∧ w'.cell? ⟨wr.heap.size, 2, none⟩ = some (.int .i64 rk.kind) ∧ w'.cell? ⟨wr.heap.size, 3, none⟩ = some (.slice (some ⟨br, offr, none⟩) m rc) ∧ w'.cell? ⟨wr.heap.size, 4, none⟩ = some (.int .i64 rk.rank) ∧ w'.cell? ⟨wr.heap.size, 5, none⟩ = some (.int .i64 rk.till) ∧ w'.cell? ⟨wr.heap.size, 6, none⟩ = some (.int .i64 rk.used)) ∧ (w'.cell? ⟨br, offr, none⟩ = some (.slice na0 r0.name.length nc0) ∧ w'.cell? ⟨br, offr + 1, none⟩ = some (.int .i64 r0.type) ∧ w'.cell? ⟨br, offr + 2, none⟩ = some (.int .i64 r0.ttl) ∧ w'.cell? ⟨br, offr + 3, none⟩ = some (.int .i64 r0.addr) ∧ w'.cell? ⟨br, offr + 4, none⟩ = some (.slice ta0 r0.to.length tc0) ∧ w'.cell? ⟨br, offr + 5, none⟩ = some (.slice xa0 r0.text.length xc0) ∧ w'.cell? ⟨br, offr + 6, none⟩ = some (.slice ia0 r0.nums.length ic0))) ⟨UJ (UB K1), VH (UB HZ)⟩ (fun hA hHeld => ?_)
                            replace hA := UC hA
                            repeat ((first | (refine takeA ?_ (UB hA) rfl rfl (by rfl) (fun _ _ _ h => h) ?_ hHeld ?_; rotate_left; · (intro w hSw; (try dsimp only at hSw); go_simp <;> with_reducible rfl)) | refine skipA (UB hA) rfl (by rfl) (fun _ _ _ h => h) hHeld ?_); simp only [Act.put, List.setIfInBounds_toArray, List.set_cons_zero, List.set_cons_succ, Nat.reduceAdd])
                            refine runA (UB hA) rfl (by kernel_rfl) (by kernel_rfl) (fun K hK => ?_)
                            have HK := UC hK
                            clear hK hHeld
                            go_simp
                            refine (UB LC _ (UB HU0).name (UB HU).name).mono ?_
                            rintro e w6 ⟨rfl, b6⟩
                            refine (UB HK).out _ _ ⟨UJ (UE b6 (UB K1)), VH (UW (UB HZ) hbr b6)⟩ (fun hHeld => ?_)
                            clear HK K
                            simp only [Nat.reduceAdd]
                            repeat ((first | (refine takeA ?_ (UB hA) rfl rfl (by rfl) (fun _ _ _ h => h) ?_ hHeld ?_; rotate_left; · (intro w hSw; (try dsimp only at hSw); go_simp <;> with_reducible rfl)) | refine skipA (UB hA) rfl (by rfl) (fun _ _ _ h => h) hHeld ?_); simp only [Act.put, List.setIfInBounds_toArray, List.set_cons_zero, List.set_cons_succ, Nat.reduceAdd])
                            refine doneA rfl ?_
                            clear hHeld hA
                            go_wp2_with fail
                            go_ret
                            exact ⟨rfl, UG bW b6⟩
                           subst hN
                           rw [decide_eq_true rfl, Bool.and_true] at HSI
                           by_cases hT : r0.type = rk.type
                           rotate_left
                           ·have qT : (r0.type != rk.type) = true := by simpa using hT
                            have hR := UB HXK (by rw [UB HSI, decide_eq_false hT])
                            subst hR
                            clear hT
                            refine startA (by kernel_rfl) ⟨by kernel_rfl, by kernel_rfl⟩ (fun w' => (w'.cell? ⟨wr.heap.size, 0, none⟩ = some (.slice na rk.name.length nc) ∧ w'.cell? ⟨wr.heap.size, 1, none⟩ = some (.int .i64 rk.type) ∧ w'.cell? ⟨wr.heap.size, 2, none⟩ = some (.int .i64 rk.kind) ∧ w'.cell? ⟨wr.heap.size, 3, none⟩ = some (.slice (some ⟨br, offr, none⟩) m rc) ∧ w'.cell? ⟨wr.heap.size, 4, none⟩ = some (.int .i64 rk.rank) ∧ w'.cell? ⟨wr.heap.size, 5, none⟩ = some (.int .i64 rk.till) ∧ w'.cell? ⟨wr.heap.size, 6, none⟩ = some (.int .i64 rk.used)) ∧ (w'.cell? ⟨br, offr, none⟩ = some (.slice na0 r0.name.length nc0) ∧ w'.cell? ⟨br, offr + 1, none⟩ = some (.int .i64 r0.type) ∧ w'.cell? ⟨br, offr + 2, none⟩ = some (.int .i64 r0.ttl) ∧ w'.cell? ⟨br, offr + 3, none⟩ = some (.int .i64 r0.addr) ∧ w'.cell? ⟨br, offr + 4, none⟩ = some (.slice ta0 r0.to.length tc0) ∧ w'.cell? ⟨br, offr + 5, none⟩ = some (.slice xa0 r0.text.length xc0) ∧ w'.cell? ⟨br, offr + 6, none⟩ = some (.slice ia0 r0.nums.length ic0))) ⟨UJ (UB K1), VH (UB HZ)⟩ (fun hA hHeld => ?_)
                            replace hA := UC hA
                            repeat ((first | (refine takeA ?_ (UB hA) rfl rfl (by rfl) (fun _ _ _ h => h) ?_ hHeld ?_; rotate_left; · (intro w hSw; (try dsimp only at hSw); go_simp <;> with_reducible rfl)) | refine skipA (UB hA) rfl (by rfl) (fun _ _ _ h => h) hHeld ?_); simp only [Act.put, List.setIfInBounds_toArray, List.set_cons_zero, List.set_cons_succ, Nat.reduceAdd])
                            refine runA (UB hA) rfl (by kernel_rfl) (by kernel_rfl) (fun K hK => ?_)
                            have HK := UC hK
                            clear hK hHeld
                            go_simp
                            refine (UB LC _ (UB HU0).name (UB HU).name).mono ?_
                            rintro e w6 ⟨rfl, b6⟩
                            refine (UB HK).out _ _ ⟨UJ (UE b6 (UB K1)), VH (UW (UB HZ) hbr b6)⟩ (fun hHeld => ?_)
                            clear HK K
                            simp only [Nat.reduceAdd]
                            repeat ((first | (refine takeA ?_ (UB hA) rfl rfl (by rfl) (fun _ _ _ h => h) ?_ hHeld ?_; rotate_left; · (intro w hSw; (try dsimp only at hSw); go_simp <;> with_reducible rfl)) | refine skipA (UB hA) rfl (by rfl) (fun _ _ _ h => h) hHeld ?_); simp only [Act.put, List.setIfInBounds_toArray, List.set_cons_zero, List.set_cons_succ, Nat.reduceAdd])
                            refine doneA rfl ?_
                            clear hHeld hA
                            go_wp2_with fail
                            go_ret
                            exact ⟨rfl, UG bW b6⟩
                           rw [decide_eq_true hT] at HSI
                           have qT : (r0.type != rk.type) = false := by simpa using hT
                           have HSK := UC (UB HSI)
                           clear hT HSI HXK
                           refine startA (by kernel_rfl) ⟨by kernel_rfl, by kernel_rfl⟩ (fun w' => (w'.cell? ⟨wr.heap.size, 0, none⟩ = some (.slice na rk.name.length nc) ∧ w'.cell? ⟨wr.heap.size, 1, none⟩ = some (.int .i64 rk.type) ∧ w'.cell? ⟨wr.heap.size, 2, none⟩ = some (.int .i64 rk.kind) ∧ w'.cell? ⟨wr.heap.size, 3, none⟩ = some (.slice (some ⟨br, offr, none⟩) m rc) ∧ w'.cell? ⟨wr.heap.size, 4, none⟩ = some (.int .i64 rk.rank) ∧ w'.cell? ⟨wr.heap.size, 5, none⟩ = some (.int .i64 rk.till) ∧ w'.cell? ⟨wr.heap.size, 6, none⟩ = some (.int .i64 rk.used)) ∧ (w'.cell? ⟨br, offr, none⟩ = some (.slice na0 r0.name.length nc0) ∧ w'.cell? ⟨br, offr + 1, none⟩ = some (.int .i64 r0.type) ∧ w'.cell? ⟨br, offr + 2, none⟩ = some (.int .i64 r0.ttl) ∧ w'.cell? ⟨br, offr + 3, none⟩ = some (.int .i64 r0.addr) ∧ w'.cell? ⟨br, offr + 4, none⟩ = some (.slice ta0 r0.to.length tc0) ∧ w'.cell? ⟨br, offr + 5, none⟩ = some (.slice xa0 r0.text.length xc0) ∧ w'.cell? ⟨br, offr + 6, none⟩ = some (.slice ia0 r0.nums.length ic0))) ⟨UJ (UB K1), VH (UB HZ)⟩ (fun hA hHeld => ?_)
                           replace hA := UC hA
                           repeat ((first | (refine takeA ?_ (UB hA) rfl rfl (by rfl) (fun _ _ _ h => h) ?_ hHeld ?_; rotate_left; · (intro w hSw; (try dsimp only at hSw); go_simp <;> with_reducible rfl)) | refine skipA (UB hA) rfl (by rfl) (fun _ _ _ h => h) hHeld ?_); simp only [Act.put, List.setIfInBounds_toArray, List.set_cons_zero, List.set_cons_succ, Nat.reduceAdd])
                           refine runA (UB hA) rfl (by kernel_rfl) (by kernel_rfl) (fun K hK => ?_)
                           have HK := UC hK
                           clear hK hHeld
                           go_simp
                           refine (UB LC _ (UB HU0).name (UB HU).name).mono ?_
                           rintro e w6 ⟨rfl, b6⟩
                           refine (UB HK).out _ _ ⟨UJ (UE b6 (UB K1)), VH (UW (UB HZ) hbr b6)⟩ (fun hHeld => ?_)
                           clear HK K
                           simp only [Nat.reduceAdd]
                           repeat ((first | (refine takeA ?_ (UB hA) rfl rfl (by rfl) (fun _ _ _ h => h) ?_ hHeld ?_; rotate_left; · (intro w hSw; (try dsimp only at hSw); go_simp <;> with_reducible rfl)) | refine skipA (UB hA) rfl (by rfl) (fun _ _ _ h => h) hHeld ?_); simp only [Act.put, List.setIfInBounds_toArray, List.set_cons_zero, List.set_cons_succ, Nat.reduceAdd])
                           refine doneA rfl ?_
                           clear hHeld hA
                           replace bw := UG bw b6
                           replace bW := UG bW b6
                           replace KD := UC (UE b6 (UB KD))
                           replace K1 := UC (UE b6 (UB K1))
                           replace HU := UC ((UB HU).below b6)
                           replace HR := UC (VF (UB HR) b6)
                           have hblN := Nat.lt_of_lt_of_le hbl b6.size
                           clear b6 hbl
                           have hbl := hblN
                           clear hblN
                           go_wp2_with fail
                           generalize hwc : w6 = WC at *
                           clear hwc
                           have HB0 := UC bw
                           have HB1 := UC bW
                           have HKD := UC (UB KD)
                           have HK1 := UC (UB K1)
                           have HRR := UC (UB HR)
                           have HHB := UC hbl
                           clear KD K1 HR bw bW HU
                           generalize wr.heap.size = BB at *
                           go_loopw [5] (fun i wx => ∃ j : Nat, j ≤ k ∧ i = .int .i64 j ∧ Hid (∀ q, q < j → decide ((l.getD q VK).used ≠ rk.used) = true) ∧ Below WC.heap.size WC wx) (fun i _ => k - (intOf i).toNat)
                           case atStart => exact ⟨0, Nat.zero_le _, rfl, UC (fun q hq => absurd hq (Nat.not_lt_zero _)), Below.refl _ _⟩
                           case round =>
                            obtain ⟨j, hj, rfl, hal, hx⟩ := hrel
                            have bw := UG (UB HB0) hx
                            have bW := UG (UB HB1) hx
                            have KD := UC (UE hx (UB HKD))
                            have K1 := UC (UE hx (UB HK1))
                            have HR := VF (UB HRR) hx
                            by_cases hjk : j < k
                            ·obtain ⟨b2, off2, vs2, hbe, hbl2, hc2, vn2, vr2, hvs2, hu2⟩ := HR.here (k := j) (by rw [UB HN]; omega)
                             simp only [Option.some.injEq, Addr.mk.injEq, and_true] at hbe
                             obtain ⟨rfl, rfl⟩ := hbe
                             subst hvs2
                             obtain ⟨na2, nc2, rfl, _⟩ := hu2.name.form
                             obtain ⟨ra2, rc2, rfl, _⟩ := hu2.rrs.form
                             have hstep := UC (fun (hs : decide ((l.getD j VK).used ≠ rk.used) = true) => (show ∀ q, q < j + 1 → decide ((l.getD q VK).used ≠ rk.used) = true from fun q hq => by
                               by_cases e : q = j
                               ·subst e; exact hs
                               ·exact UB hal q (by omega)))
                             have HFJ := UC (fun (hs : decide ((l.getD j VK).used ≠ rk.used) = false) => UB HFB j hjk hs)
                             have bd := UX (w := wr)
                             have KD' := UC (UE bd (UB KD))
                             have K1' := UC (UE bd (UB K1))
                             have H2 := UC (UW hc2 hbl2 bd)
                             have hjn : (j : Int) < n := by omega
                             have hjk' : (j : Int) < k := by omega
                             generalize l.getD j VK = rj at *
                             obtain ⟨d0, d1, d2⟩ := UL (UB KD)
                             clear hc2 hu2 HR hal
                             by_cases hq : rj.used = rk.used
                             ·have hR := UB HFJ (by rw [decide_eq_false (by simpa using hq)])
                              subst hR
                              have qq : (rj.used == rk.used) = true := by rw [beq_iff_eq]; exact hq
                              clear hq hstep HFJ
                              go_wp2_with fail
                              clear d0 d1 d2
                              refine startA (by kernel_rfl) ⟨by kernel_rfl, by kernel_rfl⟩ (fun w' => (w'.cell? ⟨w.heap.size, 0, none⟩ = some (.int .i64 now) ∧ w'.cell? ⟨w.heap.size, 1, none⟩ = some (.int .i64 turn) ∧ w'.cell? ⟨w.heap.size, 2, none⟩ = some (.slice (some ⟨b, off, none⟩) n ca)) ∧ (w'.cell? ⟨BB, 0, none⟩ = some (.slice na rk.name.length nc) ∧ w'.cell? ⟨BB, 1, none⟩ = some (.int .i64 rk.type) ∧ w'.cell? ⟨BB, 2, none⟩ = some (.int .i64 rk.kind) ∧ w'.cell? ⟨BB, 3, none⟩ = some (.slice (some ⟨br, offr, none⟩) m rc) ∧ w'.cell? ⟨BB, 4, none⟩ = some (.int .i64 rk.rank) ∧ w'.cell? ⟨BB, 5, none⟩ = some (.int .i64 rk.till) ∧ w'.cell? ⟨BB, 6, none⟩ = some (.int .i64 rk.used)) ∧ (w'.cell? ⟨b, off + j * 7, none⟩ = some (.slice na2 rj.name.length nc2) ∧ w'.cell? ⟨b, off + j * 7 + 1, none⟩ = some (.int .i64 rj.type) ∧ w'.cell? ⟨b, off + j * 7 + 2, none⟩ = some (.int .i64 rj.kind) ∧ w'.cell? ⟨b, off + j * 7 + 3, none⟩ = some (.slice ra2 rj.rrs.length rc2) ∧ w'.cell? ⟨b, off + j * 7 + 4, none⟩ = some (.int .i64 rj.rank) ∧ w'.cell? ⟨b, off + j * 7 + 5, none⟩ = some (.int .i64 rj.till) ∧ w'.cell? ⟨b, off + j * 7 + 6, none⟩ = some (.int .i64 rj.used))) ⟨UL (UB KD'), UJ (UB K1'), VH (UB H2)⟩ (fun hA hHeld => ?_)
                              replace hA := UC hA
                              repeat ((first | (refine takeA ?_ (UB hA) rfl rfl (by rfl) (fun _ _ _ h => h) ?_ hHeld ?_; rotate_left; · (intro w hSw; (try dsimp only at hSw); go_simp <;> with_reducible rfl)) | refine skipA (UB hA) rfl (by rfl) (fun _ _ _ h => h) hHeld ?_); simp only [Act.put, List.setIfInBounds_toArray, List.set_cons_zero, List.set_cons_succ, Nat.reduceAdd])
                              refine doneA rfl ?_
                              clear hHeld hA
                              go_wp2_with fail
                              go_ret
                              exact ⟨rfl, UG bW bd⟩
                             ·have HS2 := UC (UB hstep (decide_eq_true hq))
                              have qq : (rj.used == rk.used) = false := by rw [beq_eq_false_iff_ne]; exact hq
                              clear hq hstep HFJ
                              go_wp2_with fail
                              clear d0 d1 d2
                              refine startA (by kernel_rfl) ⟨by kernel_rfl, by kernel_rfl⟩ (fun w' => (w'.cell? ⟨w.heap.size, 0, none⟩ = some (.int .i64 now) ∧ w'.cell? ⟨w.heap.size, 1, none⟩ = some (.int .i64 turn) ∧ w'.cell? ⟨w.heap.size, 2, none⟩ = some (.slice (some ⟨b, off, none⟩) n ca)) ∧ (w'.cell? ⟨BB, 0, none⟩ = some (.slice na rk.name.length nc) ∧ w'.cell? ⟨BB, 1, none⟩ = some (.int .i64 rk.type) ∧ w'.cell? ⟨BB, 2, none⟩ = some (.int .i64 rk.kind) ∧ w'.cell? ⟨BB, 3, none⟩ = some (.slice (some ⟨br, offr, none⟩) m rc) ∧ w'.cell? ⟨BB, 4, none⟩ = some (.int .i64 rk.rank) ∧ w'.cell? ⟨BB, 5, none⟩ = some (.int .i64 rk.till) ∧ w'.cell? ⟨BB, 6, none⟩ = some (.int .i64 rk.used)) ∧ (w'.cell? ⟨b, off + j * 7, none⟩ = some (.slice na2 rj.name.length nc2) ∧ w'.cell? ⟨b, off + j * 7 + 1, none⟩ = some (.int .i64 rj.type) ∧ w'.cell? ⟨b, off + j * 7 + 2, none⟩ = some (.int .i64 rj.kind) ∧ w'.cell? ⟨b, off + j * 7 + 3, none⟩ = some (.slice ra2 rj.rrs.length rc2) ∧ w'.cell? ⟨b, off + j * 7 + 4, none⟩ = some (.int .i64 rj.rank) ∧ w'.cell? ⟨b, off + j * 7 + 5, none⟩ = some (.int .i64 rj.till) ∧ w'.cell? ⟨b, off + j * 7 + 6, none⟩ = some (.int .i64 rj.used))) ⟨UL (UB KD'), UJ (UB K1'), VH (UB H2)⟩ (fun hA hHeld => ?_)
                              replace hA := UC hA
                              repeat ((first | (refine takeA ?_ (UB hA) rfl rfl (by rfl) (fun _ _ _ h => h) ?_ hHeld ?_; rotate_left; · (intro w hSw; (try dsimp only at hSw); go_simp <;> with_reducible rfl)) | refine skipA (UB hA) rfl (by rfl) (fun _ _ _ h => h) hHeld ?_); simp only [Act.put, List.setIfInBounds_toArray, List.set_cons_zero, List.set_cons_succ, Nat.reduceAdd])
                              refine doneA rfl ?_
                              clear hHeld hA
                              go_wp2_with fail
                              exact ⟨⟨j + 1, by omega, by go_num, UC (UB HS2), UG hx bd⟩, by simp [intOf]; omega⟩
                            ·obtain rfl : j = k := by omega
                             have HS2 := UC (UB HFY (UB hal))
                             have hjk' : ¬ (j : Int) < j := by omega
                             go_wp2_with fail
                             exact ⟨⟨j + 1, by omega, by go_num, UC (UB hone (UB HSK)), UC (UB honf (UB HS2)), bw⟩, by simp [intOf]; omega⟩
                         ·have e1 : (rk.kind == 1) = false := by rw [beq_eq_false_iff_ne]; exact q1
                          have e1' : (rk.kind != 1) = true := by simpa using q1
                          rw [holdsB_two q1 (by have := UB k1n; omega) (by have := UB k3n; omega)] at HSI
                          clear q1
                          cases hG : setOk rk.rrs with
                          | true =>
                           rw [hG] at LS
                           replace LS := UC LS
                           have hl1 := (setOk_rrs hG).2
                           have hR := UB HXK (by rw [UB HSI, decide_eq_false (by omega)])
                           subst hR
                           clear hG hl1
                           have bd := UX (w := w3)
                           replace bw := UG bw bd
                           replace bW := UG bW bd
                           replace KD := UC (UE bd (UB KD))
                           replace K1 := UC (UE bd (UB K1))
                           replace HU := UC ((UB HU).below bd)
                           replace HR := UC (VF (UB HR) bd)
                           have hblN := Nat.lt_of_lt_of_le hbl bd.size
                           clear bd hbl
                           have hbl := hblN
                           clear hblN
                           refine startA (by kernel_rfl) ⟨by kernel_rfl, by kernel_rfl⟩ (fun w' => (w'.cell? ⟨wr.heap.size, 0, none⟩ = some (.slice na rk.name.length nc) ∧ w'.cell? ⟨wr.heap.size, 1, none⟩ = some (.int .i64 rk.type) ∧ w'.cell? ⟨wr.heap.size, 2, none⟩ = some (.int .i64 rk.kind) ∧ w'.cell? ⟨wr.heap.size, 3, none⟩ = some (.slice ra rk.rrs.length rc) ∧ w'.cell? ⟨wr.heap.size, 4, none⟩ = some (.int .i64 rk.rank) ∧ w'.cell? ⟨wr.heap.size, 5, none⟩ = some (.int .i64 rk.till) ∧ w'.cell? ⟨wr.heap.size, 6, none⟩ = some (.int .i64 rk.used))) (UJ (UB K1)) (fun hA hHeld => ?_)
                           replace hA := UC hA
                           repeat ((first | (refine takeA ?_ (UB hA) rfl rfl (by rfl) (fun _ _ _ h => h) ?_ hHeld ?_; rotate_left; · (intro w hSw; (try dsimp only at hSw); go_simp <;> with_reducible rfl)) | refine skipA (UB hA) rfl (by rfl) (fun _ _ _ h => h) hHeld ?_); simp only [Act.put, List.setIfInBounds_toArray, List.set_cons_zero, List.set_cons_succ, Nat.reduceAdd])
                           refine runA (UB hA) rfl (by kernel_rfl) (by kernel_rfl) (fun K hK => ?_)
                           have HK := UC hK
                           clear hK hHeld
                           go_simp
                           refine (UB LS _ (UB HU).rrs).mono ?_
                           rintro e w5 ⟨rfl, b5⟩
                           refine (UB HK).out _ _ (UJ (UE b5 (UB K1))) (fun hHeld => ?_)
                           clear HK K
                           simp only [Nat.reduceAdd]
                           repeat ((first | (refine takeA ?_ (UB hA) rfl rfl (by rfl) (fun _ _ _ h => h) ?_ hHeld ?_; rotate_left; · (intro w hSw; (try dsimp only at hSw); go_simp <;> with_reducible rfl)) | refine skipA (UB hA) rfl (by rfl) (fun _ _ _ h => h) hHeld ?_); simp only [Act.put, List.setIfInBounds_toArray, List.set_cons_zero, List.set_cons_succ, Nat.reduceAdd])
                           refine doneA rfl ?_
                           clear hHeld hA
                           replace bw := UG bw b5
                           replace bW := UG bW b5
                           replace KD := UC (UE b5 (UB KD))
                           replace K1 := UC (UE b5 (UB K1))
                           replace HU := UC ((UB HU).below b5)
                           replace HR := UC (VF (UB HR) b5)
                           have hblN := Nat.lt_of_lt_of_le hbl b5.size
                           clear b5 hbl
                           have hbl := hblN
                           clear hblN
                           obtain ⟨d0, d1, d2⟩ := UL (UB KD)
                           obtain ⟨e0, e1, e2, e3, e4, e5, e6⟩ := UJ (UB K1)
                           go_wp2_with fail
                           clear d0 d1 d2 e0 e1 e2 e3 e4 e5 e6
                           go_ret
                           exact ⟨rfl, bW⟩
                          | false =>
                           rw [hG] at LS
                           replace LS := UC LS
                           clear hG
                           by_cases hl : rk.rrs.length = 0
                           rotate_left
                           ·have hR := UB HXK (by rw [UB HSI, decide_eq_false hl])
                            subst hR
                            have hl2 : (0 : Int) < rk.rrs.length := by omega
                            have bd := UX (w := w3)
                            replace bw := UG bw bd
                            replace bW := UG bW bd
                            replace KD := UC (UE bd (UB KD))
                            replace K1 := UC (UE bd (UB K1))
                            replace HU := UC ((UB HU).below bd)
                            replace HR := UC (VF (UB HR) bd)
                            have hblN := Nat.lt_of_lt_of_le hbl bd.size
                            clear bd hbl
                            have hbl := hblN
                            clear hblN
                            refine startA (by kernel_rfl) ⟨by kernel_rfl, by kernel_rfl⟩ (fun w' => (w'.cell? ⟨wr.heap.size, 0, none⟩ = some (.slice na rk.name.length nc) ∧ w'.cell? ⟨wr.heap.size, 1, none⟩ = some (.int .i64 rk.type) ∧ w'.cell? ⟨wr.heap.size, 2, none⟩ = some (.int .i64 rk.kind) ∧ w'.cell? ⟨wr.heap.size, 3, none⟩ = some (.slice ra rk.rrs.length rc) ∧ w'.cell? ⟨wr.heap.size, 4, none⟩ = some (.int .i64 rk.rank) ∧ w'.cell? ⟨wr.heap.size, 5, none⟩ = some (.int .i64 rk.till) ∧ w'.cell? ⟨wr.heap.size, 6, none⟩ = some (.int .i64 rk.used))) (UJ (UB K1)) (fun hA hHeld => ?_)
                            replace hA := UC hA
                            repeat ((first | (refine takeA ?_ (UB hA) rfl rfl (by rfl) (fun _ _ _ h => h) ?_ hHeld ?_; rotate_left; · (intro w hSw; (try dsimp only at hSw); go_simp <;> with_reducible rfl)) | refine skipA (UB hA) rfl (by rfl) (fun _ _ _ h => h) hHeld ?_); simp only [Act.put, List.setIfInBounds_toArray, List.set_cons_zero, List.set_cons_succ, Nat.reduceAdd])
                            refine runA (UB hA) rfl (by kernel_rfl) (by kernel_rfl) (fun K hK => ?_)
                            have HK := UC hK
                            clear hK hHeld
                            go_simp
                            refine (UB LS _ (UB HU).rrs).mono ?_
                            rintro e w5 ⟨rfl, b5⟩
                            refine (UB HK).out _ _ (UJ (UE b5 (UB K1))) (fun hHeld => ?_)
                            clear HK K
                            simp only [Nat.reduceAdd]
                            repeat ((first | (refine takeA ?_ (UB hA) rfl rfl (by rfl) (fun _ _ _ h => h) ?_ hHeld ?_; rotate_left; · (intro w hSw; (try dsimp only at hSw); go_simp <;> with_reducible rfl)) | refine skipA (UB hA) rfl (by rfl) (fun _ _ _ h => h) hHeld ?_); simp only [Act.put, List.setIfInBounds_toArray, List.set_cons_zero, List.set_cons_succ, Nat.reduceAdd])
                            refine doneA rfl ?_
                            clear hHeld hA
                            replace bw := UG bw b5
                            replace bW := UG bW b5
                            replace KD := UC (UE b5 (UB KD))
                            replace K1 := UC (UE b5 (UB K1))
                            replace HU := UC ((UB HU).below b5)
                            replace HR := UC (VF (UB HR) b5)
                            have hblN := Nat.lt_of_lt_of_le hbl b5.size
                            clear b5 hbl
                            have hbl := hblN
                            clear hblN
                            obtain ⟨d0, d1, d2⟩ := UL (UB KD)
                            obtain ⟨e0, e1, e2, e3, e4, e5, e6⟩ := UJ (UB K1)
                            go_wp2_with fail
                            clear d0 d1 d2 e0 e1 e2 e3 e4 e5 e6
                            go_ret
                            exact ⟨rfl, bW⟩
                           rw [decide_eq_true hl] at HSI
                           have HSK := UC (UB HSI)
                           clear HSI HXK
                           generalize rk.rrs.length = m at *
                           subst hl
                           have bd := UX (w := w3)
                           replace bw := UG bw bd
                           replace bW := UG bW bd
                           replace KD := UC (UE bd (UB KD))
                           replace K1 := UC (UE bd (UB K1))
                           replace HU := UC ((UB HU).below bd)
                           replace HR := UC (VF (UB HR) bd)
                           have hblN := Nat.lt_of_lt_of_le hbl bd.size
                           clear bd hbl
                           have hbl := hblN
                           clear hblN
                           refine startA (by kernel_rfl) ⟨by kernel_rfl, by kernel_rfl⟩ (fun w' => (w'.cell? ⟨wr.heap.size, 0, none⟩ = some (.slice na rk.name.length nc) ∧ w'.cell? ⟨wr.heap.size, 1, none⟩ = some (.int .i64 rk.type) ∧ w'.cell? ⟨wr.heap.size, 2, none⟩ = some (.int .i64 rk.kind) ∧ w'.cell? ⟨wr.heap.size, 3, none⟩ = some (.slice ra 0 rc) ∧ w'.cell? ⟨wr.heap.size, 4, none⟩ = some (.int .i64 rk.rank) ∧ w'.cell? ⟨wr.heap.size, 5, none⟩ = some (.int .i64 rk.till) ∧ w'.cell? ⟨wr.heap.size, 6, none⟩ = some (.int .i64 rk.used))) (UJ (UB K1)) (fun hA hHeld => ?_)
                           replace hA := UC hA
                           repeat ((first | (refine takeA ?_ (UB hA) rfl rfl (by rfl) (fun _ _ _ h => h) ?_ hHeld ?_; rotate_left; · (intro w hSw; (try dsimp only at hSw); go_simp <;> with_reducible rfl)) | refine skipA (UB hA) rfl (by rfl) (fun _ _ _ h => h) hHeld ?_); simp only [Act.put, List.setIfInBounds_toArray, List.set_cons_zero, List.set_cons_succ, Nat.reduceAdd])
                           refine runA (UB hA) rfl (by kernel_rfl) (by kernel_rfl) (fun K hK => ?_)
                           have HK := UC hK
                           clear hK hHeld
                           go_simp
                           refine (UB LS _ (UB HU).rrs).mono ?_
                           rintro e w5 ⟨rfl, b5⟩
                           refine (UB HK).out _ _ (UJ (UE b5 (UB K1))) (fun hHeld => ?_)
                           clear HK K
                           simp only [Nat.reduceAdd]
                           repeat ((first | (refine takeA ?_ (UB hA) rfl rfl (by rfl) (fun _ _ _ h => h) ?_ hHeld ?_; rotate_left; · (intro w hSw; (try dsimp only at hSw); go_simp <;> with_reducible rfl)) | refine skipA (UB hA) rfl (by rfl) (fun _ _ _ h => h) hHeld ?_); simp only [Act.put, List.setIfInBounds_toArray, List.set_cons_zero, List.set_cons_succ, Nat.reduceAdd])
                           refine doneA rfl ?_
                           clear hHeld hA
                           replace bw := UG bw b5
                           replace bW := UG bW b5
                           replace KD := UC (UE b5 (UB KD))
                           replace K1 := UC (UE b5 (UB K1))
                           replace HU := UC ((UB HU).below b5)
                           replace HR := UC (VF (UB HR) b5)
                           have hblN := Nat.lt_of_lt_of_le hbl b5.size
                           clear b5 hbl
                           have hbl := hblN
                           clear hblN
                           obtain ⟨d0, d1, d2⟩ := UL (UB KD)
                           obtain ⟨e0, e1, e2, e3, e4, e5, e6⟩ := UJ (UB K1)
                           go_wp2_with fail
                           clear d0 d1 d2 e0 e1 e2 e3 e4 e5 e6
                           have bd := UX (w := w5)
                           replace bw := UG bw bd
                           replace bW := UG bW bd
                           replace KD := UC (UE bd (UB KD))
                           replace K1 := UC (UE bd (UB K1))
                           replace HU := UC ((UB HU).below bd)
                           replace HR := UC (VF (UB HR) bd)
                           have hblN := Nat.lt_of_lt_of_le hbl bd.size
                           clear bd hbl
                           have hbl := hblN
                           clear hblN
                           refine startA (by kernel_rfl) ⟨by kernel_rfl, by kernel_rfl⟩ (fun w' => (w'.cell? ⟨wr.heap.size, 0, none⟩ = some (.slice na rk.name.length nc) ∧ w'.cell? ⟨wr.heap.size, 1, none⟩ = some (.int .i64 rk.type) ∧ w'.cell? ⟨wr.heap.size, 2, none⟩ = some (.int .i64 rk.kind) ∧ w'.cell? ⟨wr.heap.size, 3, none⟩ = some (.slice ra 0 rc) ∧ w'.cell? ⟨wr.heap.size, 4, none⟩ = some (.int .i64 rk.rank) ∧ w'.cell? ⟨wr.heap.size, 5, none⟩ = some (.int .i64 rk.till) ∧ w'.cell? ⟨wr.heap.size, 6, none⟩ = some (.int .i64 rk.used))) (UJ (UB K1)) (fun hA hHeld => ?_)
                           replace hA := UC hA
                           repeat ((first | (refine takeA ?_ (UB hA) rfl rfl (by rfl) (fun _ _ _ h => h) ?_ hHeld ?_; rotate_left; · (intro w hSw; (try dsimp only at hSw); go_simp <;> with_reducible rfl)) | refine skipA (UB hA) rfl (by rfl) (fun _ _ _ h => h) hHeld ?_); simp only [Act.put, List.setIfInBounds_toArray, List.set_cons_zero, List.set_cons_succ, Nat.reduceAdd])
                           refine doneA rfl ?_
                           clear hHeld hA
                           go_wp2_with fail
                           generalize hwc : w5.drew = WC at *
                           clear hwc
                           have HB0 := UC bw
                           have HB1 := UC bW
                           have HKD := UC (UB KD)
                           have HK1 := UC (UB K1)
                           have HRR := UC (UB HR)
                           have HHB := UC hbl
                           clear KD K1 HR bw bW HU
                           generalize wr.heap.size = BB at *
                           go_loopw [5] (fun i wx => ∃ j : Nat, j ≤ k ∧ i = .int .i64 j ∧ Hid (∀ q, q < j → decide ((l.getD q VK).used ≠ rk.used) = true) ∧ Below WC.heap.size WC wx) (fun i _ => k - (intOf i).toNat)
                           case atStart => exact ⟨0, Nat.zero_le _, rfl, UC (fun q hq => absurd hq (Nat.not_lt_zero _)), Below.refl _ _⟩
                           case round =>
                            obtain ⟨j, hj, rfl, hal, hx⟩ := hrel
                            have bw := UG (UB HB0) hx
                            have bW := UG (UB HB1) hx
                            have KD := UC (UE hx (UB HKD))
                            have K1 := UC (UE hx (UB HK1))
                            have HR := VF (UB HRR) hx
                            by_cases hjk : j < k
                            ·obtain ⟨b2, off2, vs2, hbe, hbl2, hc2, vn2, vr2, hvs2, hu2⟩ := HR.here (k := j) (by rw [UB HN]; omega)
                             simp only [Option.some.injEq, Addr.mk.injEq, and_true] at hbe
                             obtain ⟨rfl, rfl⟩ := hbe
                             subst hvs2
                             obtain ⟨na2, nc2, rfl, _⟩ := hu2.name.form
                             obtain ⟨ra2, rc2, rfl, _⟩ := hu2.rrs.form
                             have hstep := UC (fun (hs : decide ((l.getD j VK).used ≠ rk.used) = true) => (show ∀ q, q < j + 1 → decide ((l.getD q VK).used ≠ rk.used) = true from fun q hq => by
                               by_cases e : q = j
                               ·subst e; exact hs
                               ·exact UB hal q (by omega)))
                             have HFJ := UC (fun (hs : decide ((l.getD j VK).used ≠ rk.used) = false) => UB HFB j hjk hs)
                             have bd := UX (w := wr)
                             have KD' := UC (UE bd (UB KD))
                             have K1' := UC (UE bd (UB K1))
                             have H2 := UC (UW hc2 hbl2 bd)
                             have hjn : (j : Int) < n := by omega
                             have hjk' : (j : Int) < k := by omega
                             generalize l.getD j VK = rj at *
                             obtain ⟨d0, d1, d2⟩ := UL (UB KD)
                             clear hc2 hu2 HR hal
                             by_cases hq : rj.used = rk.used
                             ·have hR := UB HFJ (by rw [decide_eq_false (by simpa using hq)])
                              subst hR
                              have qq : (rj.used == rk.used) = true := by rw [beq_iff_eq]; exact hq
                              clear hq hstep HFJ
                              go_wp2_with fail
                              clear d0 d1 d2
                              refine startA (by kernel_rfl) ⟨by kernel_rfl, by kernel_rfl⟩ (fun w' => (w'.cell? ⟨w.heap.size, 0, none⟩ = some (.int .i64 now) ∧ w'.cell? ⟨w.heap.size, 1, none⟩ = some (.int .i64 turn) ∧ w'.cell? ⟨w.heap.size, 2, none⟩ = some (.slice (some ⟨b, off, none⟩) n ca)) ∧ (w'.cell? ⟨BB, 0, none⟩ = some (.slice na rk.name.length nc) ∧ w'.cell? ⟨BB, 1, none⟩ = some (.int .i64 rk.type) ∧ w'.cell? ⟨BB, 2, none⟩ = some (.int .i64 rk.kind) ∧ w'.cell? ⟨BB, 3, none⟩ = some (.slice ra 0 rc) ∧ w'.cell? ⟨BB, 4, none⟩ = some (.int .i64 rk.rank) ∧ w'.cell? ⟨BB, 5, none⟩ = some (.int .i64 rk.till) ∧ w'.cell? ⟨BB, 6, none⟩ = some (.int .i64 rk.used)) ∧ (w'.cell? ⟨b, off + j * 7, none⟩ = some (.slice na2 rj.name.length nc2) ∧ w'.cell? ⟨b, off + j * 7 + 1, none⟩ = some (.int .i64 rj.type) ∧ w'.cell? ⟨b, off + j * 7 + 2, none⟩ = some (.int .i64 rj.kind) ∧ w'.cell? ⟨b, off + j * 7 + 3, none⟩ = some (.slice ra2 rj.rrs.length rc2) ∧ w'.cell? ⟨b, off + j * 7 + 4, none⟩ = some (.int .i64 rj.rank) ∧ w'.cell? ⟨b, off + j * 7 + 5, none⟩ = some (.int .i64 rj.till) ∧ w'.cell? ⟨b, off + j * 7 + 6, none⟩ = some (.int .i64 rj.used))) ⟨UL (UB KD'), UJ (UB K1'), VH (UB H2)⟩ (fun hA hHeld => ?_)
                              replace hA := UC hA
                              repeat ((first | (refine takeA ?_ (UB hA) rfl rfl (by rfl) (fun _ _ _ h => h) ?_ hHeld ?_; rotate_left; · (intro w hSw; (try dsimp only at hSw); go_simp <;> with_reducible rfl)) | refine skipA (UB hA) rfl (by rfl) (fun _ _ _ h => h) hHeld ?_); simp only [Act.put, List.setIfInBounds_toArray, List.set_cons_zero, List.set_cons_succ, Nat.reduceAdd])
                              refine doneA rfl ?_
                              clear hHeld hA
                              go_wp2_with fail
                              go_ret
                              exact ⟨rfl, UG bW bd⟩
                             ·have HS2 := UC (UB hstep (decide_eq_true hq))
                              have qq : (rj.used == rk.used) = false := by rw [beq_eq_false_iff_ne]; exact hq
                              clear hq hstep HFJ
                              go_wp2_with fail
                              clear d0 d1 d2
                              refine startA (by kernel_rfl) ⟨by kernel_rfl, by kernel_rfl⟩ (fun w' => (w'.cell? ⟨w.heap.size, 0, none⟩ = some (.int .i64 now) ∧ w'.cell? ⟨w.heap.size, 1, none⟩ = some (.int .i64 turn) ∧ w'.cell? ⟨w.heap.size, 2, none⟩ = some (.slice (some ⟨b, off, none⟩) n ca)) ∧ (w'.cell? ⟨BB, 0, none⟩ = some (.slice na rk.name.length nc) ∧ w'.cell? ⟨BB, 1, none⟩ = some (.int .i64 rk.type) ∧ w'.cell? ⟨BB, 2, none⟩ = some (.int .i64 rk.kind) ∧ w'.cell? ⟨BB, 3, none⟩ = some (.slice ra 0 rc) ∧ w'.cell? ⟨BB, 4, none⟩ = some (.int .i64 rk.rank) ∧ w'.cell? ⟨BB, 5, none⟩ = some (.int .i64 rk.till) ∧ w'.cell? ⟨BB, 6, none⟩ = some (.int .i64 rk.used)) ∧ (w'.cell? ⟨b, off + j * 7, none⟩ = some (.slice na2 rj.name.length nc2) ∧ w'.cell? ⟨b, off + j * 7 + 1, none⟩ = some (.int .i64 rj.type) ∧ w'.cell? ⟨b, off + j * 7 + 2, none⟩ = some (.int .i64 rj.kind) ∧ w'.cell? ⟨b, off + j * 7 + 3, none⟩ = some (.slice ra2 rj.rrs.length rc2) ∧ w'.cell? ⟨b, off + j * 7 + 4, none⟩ = some (.int .i64 rj.rank) ∧ w'.cell? ⟨b, off + j * 7 + 5, none⟩ = some (.int .i64 rj.till) ∧ w'.cell? ⟨b, off + j * 7 + 6, none⟩ = some (.int .i64 rj.used))) ⟨UL (UB KD'), UJ (UB K1'), VH (UB H2)⟩ (fun hA hHeld => ?_)
                              replace hA := UC hA
                              repeat ((first | (refine takeA ?_ (UB hA) rfl rfl (by rfl) (fun _ _ _ h => h) ?_ hHeld ?_; rotate_left; · (intro w hSw; (try dsimp only at hSw); go_simp <;> with_reducible rfl)) | refine skipA (UB hA) rfl (by rfl) (fun _ _ _ h => h) hHeld ?_); simp only [Act.put, List.setIfInBounds_toArray, List.set_cons_zero, List.set_cons_succ, Nat.reduceAdd])
                              refine doneA rfl ?_
                              clear hHeld hA
                              go_wp2_with fail
                              exact ⟨⟨j + 1, by omega, by go_num, UC (UB HS2), UG hx bd⟩, by simp [intOf]; omega⟩
                            ·obtain rfl : j = k := by omega
                             have HS2 := UC (UB HFY (UB hal))
                             have hjk' : ¬ (j : Int) < j := by omega
                             go_wp2_with fail
                             exact ⟨⟨j + 1, by omega, by go_num, UC (UB hone (UB HSK)), UC (UB honf (UB HS2)), bw⟩, by simp [intOf]; omega⟩
  ·obtain rfl : k = n := by omega
   have hR := UB HY (UB hall) (UB half)
   subst hR
   obtain ⟨d0, d1, d2⟩ := UL (UB KR)
   go_wp2_with fail
   go_ret
   exact ⟨rfl, bw0⟩
end Go.Proofs.YtaehfeobfkaicaaGreat
