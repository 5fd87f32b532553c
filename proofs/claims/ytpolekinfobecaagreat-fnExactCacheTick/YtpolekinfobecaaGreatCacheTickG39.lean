/-
  Contract of the specification's CacheOk.
-/
import Derived.Test.YtpolekinfobecaaGreatCacheTickG15
import Derived.Test.YtpolekinfobecaaGreatCacheTickG38
import Derived.Test.YtpolekinfobecaaGreatCacheTickG33
import Derived.Test.YtpolekinfobecaaGreatCacheTickG36
import Derived.Test.YtpolekinfobecaaGreatCacheTickG08
import Derived.Test.YtpolekinfobecaaGreatCacheTickG29
namespace Go.Proofs.YtpolekinfobecaaGreat
open Go.RowKit
set_option linter.unusedVariables false

set_option maxHeartbeats 40000000 in
set_option maxRecDepth 100000 in
theorem specCacheOk_has {v : Value} {c : Ca} {w : World} (h : HasSs w v c.slots) (hz : SizeCa 1048576 c) :
  Calls Tryz.prog 7 #[.agg #[.int .i64 c.now, .int .i64 c.turn, v]] w fun e w' => e = .returned (.bool (cacheOk c)) ∧ Below w.heap.size w w' := by
 obtain ⟨a, ca, rfl, hla, hma⟩ := h.form
 unfold maxLen at hma
 have HX := hide (fun i (hi : i < c.slots.length) (hs : slotAt c i = false) => (show cacheOk c = false by unfold cacheOk; rw [rangeAll_no hi hs, Bool.false_and, Bool.and_false]))
 have HF := hide (fun i (hi : i < c.slots.length) (hs : freshAt c.slots i = false) => (show cacheOk c = false by unfold cacheOk apartB; rw [rangeAll_no hi hs, Bool.and_false, Bool.and_false]))
 have HY := hide (fun (hs : ∀ j, j < c.slots.length → slotAt c j = true) (hf : ∀ j, j < c.slots.length → freshAt c.slots j = true) (hh : headB c = true) => (show cacheOk c = true by unfold cacheOk apartB; rw [hh, rangeAll_yes hs, rangeAll_yes hf]; rfl))
 have HH := hide (fun (hh : headB c = false) => (show cacheOk c = false by unfold cacheOk; rw [hh, Bool.false_and]))
 have hhd : headB c = (decide (0 ≤ c.now ∧ c.now ≤ 1000000) && (decide (0 ≤ c.turn ∧ c.turn ≤ 1000000) && decide (c.slots.length ≤ 8))) := rfl
 have HSA := hide (show ∀ i, slotAt c i = (((nameOk (c.slots.getD i sltZ).name && (typeOk (c.slots.getD i sltZ).type && decide (0 ≤ (c.slots.getD i sltZ).rank ∧ (c.slots.getD i sltZ).rank ≤ 3))) && ((decide (c.now < (c.slots.getD i sltZ).till) && decide ((c.slots.getD i sltZ).till ≤ c.now + 1000)) && ((decide (1 ≤ (c.slots.getD i sltZ).used) && decide ((c.slots.getD i sltZ).used ≤ c.turn)) && holdsB (c.slots.getD i sltZ)))) && (decide (i = 0) || aheadB (c.slots.getD (i - 1) sltZ) (c.slots.getD i sltZ))) from fun i => rfl)
 have HFA := hide (show ∀ i, freshAt c.slots i = (List.range i).all (fun k => decide ((c.slots.getD k sltZ).used ≠ (c.slots.getD i sltZ).used)) from fun i => rfl)
 have HZS := hide hz.each
 generalize cacheOk c = R at *
 generalize headB c = HD at *
 generalize slotAt c = sat at *
 generalize freshAt c.slots = fre at *
 generalize c.now = now at *
 generalize c.turn = turn at *
 generalize c.slots = l at *
 generalize hn : l.length = n at *
 have HN := hide hn
 have H := hide h
 clear hn h hz
 have b0 := below_alloc (w := w) (.cells #[.int .i64 now, .int .i64 turn, .slice a n ca] 29)
 have KK := hide (heap_alloc_new w (.cells #[.int .i64 now, .int .i64 turn, .slice a n ca] 29))
 by_cases m0 : now < 0
 ·have hR := unhide HH (by rw [hhd]; rw [decide_eq_false (p := 0 ≤ now ∧ now ≤ 1000000) (by omega), Bool.false_and])
  subst hR
  clear HX HF HY HH HSA HFA HZS hhd
  obtain ⟨d0, d1, d2⟩ := cells3 (unhide KK)
  go_enter Tryz.func7, Tryz.ntmps7
  go_wp2_with fail
  go_ret
  exact ⟨rfl, b0⟩
 by_cases m1 : 1000000 < now
 ·have hR := unhide HH (by rw [hhd]; rw [decide_eq_false (p := 0 ≤ now ∧ now ≤ 1000000) (by omega), Bool.false_and])
  subst hR
  clear HX HF HY HH HSA HFA HZS hhd
  obtain ⟨d0, d1, d2⟩ := cells3 (unhide KK)
  go_enter Tryz.func7, Tryz.ntmps7
  go_wp2_with fail
  go_ret
  exact ⟨rfl, b0⟩
 by_cases m2 : turn < 0
 ·have hR := unhide HH (by rw [hhd]; rw [decide_eq_false (p := 0 ≤ turn ∧ turn ≤ 1000000) (by omega), Bool.false_and, Bool.and_false])
  subst hR
  clear HX HF HY HH HSA HFA HZS hhd
  obtain ⟨d0, d1, d2⟩ := cells3 (unhide KK)
  go_enter Tryz.func7, Tryz.ntmps7
  go_wp2_with fail
  go_ret
  exact ⟨rfl, b0⟩
 by_cases m3 : 1000000 < turn
 ·have hR := unhide HH (by rw [hhd]; rw [decide_eq_false (p := 0 ≤ turn ∧ turn ≤ 1000000) (by omega), Bool.false_and, Bool.and_false])
  subst hR
  clear HX HF HY HH HSA HFA HZS hhd
  obtain ⟨d0, d1, d2⟩ := cells3 (unhide KK)
  go_enter Tryz.func7, Tryz.ntmps7
  go_wp2_with fail
  go_ret
  exact ⟨rfl, b0⟩
 by_cases m4 : (8 : Int) < n
 ·have hR := unhide HH (by rw [hhd]; rw [decide_eq_false (p := n ≤ 8) (by omega), Bool.and_false, Bool.and_false])
  subst hR
  clear HX HF HY HH HSA HFA HZS hhd
  obtain ⟨d0, d1, d2⟩ := cells3 (unhide KK)
  go_enter Tryz.func7, Tryz.ntmps7
  go_wp2_with fail
  go_ret
  exact ⟨rfl, b0⟩
 have hHD : HD = true := by rw [hhd, decide_eq_true (p := 0 ≤ now ∧ now ≤ 1000000) (by omega), decide_eq_true (p := 0 ≤ turn ∧ turn ≤ 1000000) (by omega), decide_eq_true (p := n ≤ 8) (by omega)]; rfl
 clear hhd HH
 replace HY := hide (fun hs hf => unhide HY hs hf hHD)
 clear hHD
 obtain ⟨d0, d1, d2⟩ := cells3 (unhide KK)
 go_enter Tryz.func7, Tryz.ntmps7
 go_wp2_with fail
 clear d0 d1 d2
 generalize w.alloc (.cells #[.int .i64 now, .int .i64 turn, .slice a n ca] 29) = W at *
 have zK := block_lt (unhide KK)
 go_loopw [3] (fun i wr => ∃ k : Nat, k ≤ n ∧ i = .int .i64 k ∧ Hid (∀ j, j < k → sat j = true) ∧ Hid (∀ j, j < k → fre j = true) ∧ Below W.heap.size W wr) (fun i _ => n - (intOf i).toNat)
 case atStart => exact ⟨0, Nat.zero_le _, rfl, hide (fun j hj => absurd hj (Nat.not_lt_zero _)), hide (fun j hj => absurd hj (Nat.not_lt_zero _)), Below.refl _ _⟩
 case round =>
  obtain ⟨k, hk, rfl, hall, half, hb⟩ := hrel
  have bw0 := below_next b0 hb
  have KR := hide (block_kept hb (unhide KK))
  have HR0 := hide (keptSs (unhide H) bw0)
  by_cases hlt : k < n
  ·have hone := hide (fun (hs : sat k = true) => (show ∀ j, j < k + 1 → sat j = true from fun j hj => by
     by_cases e : j = k
     ·subst e; exact hs
     ·exact unhide hall j (by omega)))
   have honf := hide (fun (hs : fre k = true) => (show ∀ j, j < k + 1 → fre j = true from fun j hj => by
     by_cases e : j = k
     ·subst e; exact hs
     ·exact unhide half j (by omega)))
   have HSI := hide (unhide HSA k)
   have HXK := hide (unhide HX k hlt)
   have HFB := hide (fun j (hj : j < k) (hs : decide ((l.getD j sltZ).used ≠ (l.getD k sltZ).used) = false) => unhide HF k hlt (by rw [unhide HFA]; exact rangeAll_no hj hs))
   have HFY := hide (fun (hs : ∀ q, q < k → decide ((l.getD q sltZ).used ≠ (l.getD k sltZ).used) = true) => (show fre k = true by rw [unhide HFA]; exact rangeAll_yes hs))
   have HZK := hide (unhide HZS k hlt)
   clear hall half
   obtain ⟨b, off, vs, rfl, hbl0, hc, vn, vr, rfl, hu⟩ := (unhide HR0).here (k := k) (by rw [unhide HN]; exact hlt)
   obtain ⟨na, nc, rfl, _⟩ := hu.name.form
   obtain ⟨ra, rc, rfl, _⟩ := hu.rrs.form
   have NO := fun (w : World) (h : HasL w (.slice na (l.getD k sltZ).name.length nc) (l.getD k sltZ).name) => specNameOk_has h
   have TO := fun (w : World) => specTypeOk_any (l.getD k sltZ).type w
   have ba := below_alloc (w := wr) (.cells #[.slice na (l.getD k sltZ).name.length nc, .int .i64 (l.getD k sltZ).type, .int .i64 (l.getD k sltZ).kind, .slice ra (l.getD k sltZ).rrs.length rc, .int .i64 (l.getD k sltZ).rank, .int .i64 (l.getD k sltZ).till, .int .i64 (l.getD k sltZ).used] 47)
   have KD := hide (block_kept ba (unhide KR))
   have K1 := hide (heap_alloc_new wr (.cells #[.slice na (l.getD k sltZ).name.length nc, .int .i64 (l.getD k sltZ).type, .int .i64 (l.getD k sltZ).kind, .slice ra (l.getD k sltZ).rrs.length rc, .int .i64 (l.getD k sltZ).rank, .int .i64 (l.getD k sltZ).till, .int .i64 (l.getD k sltZ).used] 47))
   have HU := hide (hu.below ba)
   have HR := hide (keptSs (unhide HR0) ba)
   have bw := below_next hb ba
   have bW := below_next bw0 ba
   have hbl := Nat.lt_of_lt_of_le hbl0 ba.size
   have hkn : (k : Int) < n := by omega
   have hw1000 : IntKind.i64.wrap (now + 1000) = now + 1000 := by have := wrap_small (now + 1000).toNat (by omega); rwa [Int.toNat_of_nonneg (by omega)] at this
   generalize sat k = SI at *
   obtain ⟨d0, d1, d2⟩ := cells3 (unhide KR)
   by_cases hk0 : k = 0
   ·subst hk0
    rw [Nat.zero_mul, Nat.add_zero] at hc
    obtain ⟨c0, c1, c2, c3, c4, c5, c6⟩ := range7 hc
    rw [show decide ((0 : Nat) = 0) = true from rfl, Bool.true_or, Bool.and_true] at HSI
    clear hc hu hb bw0 hbl0 ba KR HR0
    have hnp : 0 < n := by omega
    generalize l.getD 0 sltZ = rk at *
    as_aux_lemma =>
     generalize nameOk rk.name = G1 at *
     generalize typeOk rk.type = G2 at *
     replace NO := hide NO
     replace TO := hide TO
     go_wp2_with fail
     clear c0 c1 c2 c3 c4 c5 c6 d0 d1 d2
     generalize wr.alloc (.cells #[.slice na rk.name.length nc, .int .i64 rk.type, .int .i64 rk.kind, .slice ra rk.rrs.length rc, .int .i64 rk.rank, .int .i64 rk.till, .int .i64 rk.used] 47) = WA at *
     have bd := below_drew (w := WA)
     replace bw := below_next bw bd
     replace bW := below_next bW bd
     replace KD := hide (block_kept bd (unhide KD))
     replace K1 := hide (block_kept bd (unhide K1))
     replace HU := hide ((unhide HU).below bd)
     replace HR := hide (keptSs (unhide HR) bd)
     have hblN := Nat.lt_of_lt_of_le hbl bd.size
     clear bd hbl
     have hbl := hblN
     clear hblN
     refine startA (by kernel_rfl) ⟨by kernel_rfl, by kernel_rfl⟩ (fun w' => (w'.cell? ⟨w.heap.size, 0, none⟩ = some (.int .i64 now) ∧ w'.cell? ⟨w.heap.size, 1, none⟩ = some (.int .i64 turn) ∧ w'.cell? ⟨w.heap.size, 2, none⟩ = some (.slice (some ⟨b, off, none⟩) n ca)) ∧ (w'.cell? ⟨wr.heap.size, 0, none⟩ = some (.slice na rk.name.length nc) ∧ w'.cell? ⟨wr.heap.size, 1, none⟩ = some (.int .i64 rk.type) ∧ w'.cell? ⟨wr.heap.size, 2, none⟩ = some (.int .i64 rk.kind) ∧ w'.cell? ⟨wr.heap.size, 3, none⟩ = some (.slice ra rk.rrs.length rc) ∧ w'.cell? ⟨wr.heap.size, 4, none⟩ = some (.int .i64 rk.rank) ∧ w'.cell? ⟨wr.heap.size, 5, none⟩ = some (.int .i64 rk.till) ∧ w'.cell? ⟨wr.heap.size, 6, none⟩ = some (.int .i64 rk.used))) ⟨cells3 (unhide KD), cells7 (unhide K1)⟩ (fun hA hHeld => ?_)
     replace hA := hide hA
     repeat ((first | (refine takeA ?_ (unhide hA) rfl rfl (by rfl) (fun _ _ _ h => h) ?_ hHeld ?_; rotate_left; · (intro w hSw; (try dsimp only at hSw); go_simp <;> with_reducible rfl)) | refine skipA (unhide hA) rfl (by rfl) (fun _ _ _ h => h) hHeld ?_); simp only [Act.put, List.setIfInBounds_toArray, List.set_cons_zero, List.set_cons_succ, Nat.reduceAdd])
     refine runA (unhide hA) rfl (by kernel_rfl) (by kernel_rfl) (fun K hK => ?_)
     have HK := hide hK
     clear hK hHeld
     go_simp
     refine (unhide NO _ (unhide HU).name).mono ?_
     rintro e w1 ⟨rfl, b1⟩
     replace bw := below_next bw b1
     replace bW := below_next bW b1
     replace KD := hide (block_kept b1 (unhide KD))
     replace K1 := hide (block_kept b1 (unhide K1))
     replace HU := hide ((unhide HU).below b1)
     replace HR := hide (keptSs (unhide HR) b1)
     have hblN := Nat.lt_of_lt_of_le hbl b1.size
     clear b1 hbl
     have hbl := hblN
     clear hblN
     refine (unhide HK).out _ _ ⟨cells3 (unhide KD), cells7 (unhide K1)⟩ (fun hHeld => ?_)
     clear HK K
     simp only [Nat.reduceAdd]
     cases G1 with
     | false =>
      as_aux_lemma =>
       have hR := unhide HXK (by rw [unhide HSI]; simp)
       subst hR
       ((first | (refine takeA ?_ (unhide hA) rfl rfl (by rfl) (fun _ _ _ h => h) ?_ hHeld ?_; rotate_left; · (intro w hSw; (try dsimp only at hSw); go_simp <;> with_reducible rfl)) | refine skipA (unhide hA) rfl (by rfl) (fun _ _ _ h => h) hHeld ?_); simp only [Act.put, List.setIfInBounds_toArray, List.set_cons_zero, List.set_cons_succ, Nat.reduceAdd])
       refine leaf_all (unhide hA) (fun _ _ _ _ _ h => h) hHeld [(46, some true), (47, none), (48, none), (49, none), (50, none), (51, some true), (52, some true), (53, none), (54, none), (55, none), (56, some true), (57, some true), (58, none), (59, none), (60, none), (61, some true), (62, some true), (63, none), (64, none), (65, none), (66, some true), (67, some true), (68, none), (69, none), (70, none), (71, some true), (72, some true), (73, none), (74, none), (75, none), (76, none), (77, none), (78, some true), (79, some true), (80, none), (81, none), (82, none), (83, none), (84, none), (85, none), (86, some true), (87, some true), (88, none), (89, none), (90, none), (91, some true), (92, some true), (93, none), (94, none), (95, none), (96, none), (97, none), (98, some true), (99, some true), (100, none), (101, none), (102, none), (103, none), (104, none), (105, none), (106, none), (107, none), (108, none), (109, none), (110, none), (111, none), (112, none), (113, some true)] (by kernel_rfl) ?_
       simp only [putsF, valF, List.setIfInBounds_toArray, List.set_cons_zero, List.set_cons_succ]
       clear hHeld hA
       go_wp2_with fail
       go_ret
       exact ⟨rfl, bW⟩
     | true =>
      repeat ((first | (refine takeA ?_ (unhide hA) rfl rfl (by rfl) (fun _ _ _ h => h) ?_ hHeld ?_; rotate_left; · (intro w hSw; (try dsimp only at hSw); go_simp <;> with_reducible rfl)) | refine skipA (unhide hA) rfl (by rfl) (fun _ _ _ h => h) hHeld ?_); simp only [Act.put, List.setIfInBounds_toArray, List.set_cons_zero, List.set_cons_succ, Nat.reduceAdd])
      refine runA (unhide hA) rfl (by kernel_rfl) (by kernel_rfl) (fun K hK => ?_)
      have HK := hide hK
      clear hK hHeld
      go_simp
      refine (unhide TO _).mono ?_
      rintro e w2 ⟨rfl, rfl⟩
      refine (unhide HK).out _ _ ⟨cells3 (unhide KD), cells7 (unhide K1)⟩ (fun hHeld => ?_)
      clear HK K
      simp only [Nat.reduceAdd]
      cases G2 with
      | false =>
       as_aux_lemma =>
        have hR := unhide HXK (by rw [unhide HSI]; simp)
        subst hR
        ((first | (refine takeA ?_ (unhide hA) rfl rfl (by rfl) (fun _ _ _ h => h) ?_ hHeld ?_; rotate_left; · (intro w hSw; (try dsimp only at hSw); go_simp <;> with_reducible rfl)) | refine skipA (unhide hA) rfl (by rfl) (fun _ _ _ h => h) hHeld ?_); simp only [Act.put, List.setIfInBounds_toArray, List.set_cons_zero, List.set_cons_succ, Nat.reduceAdd])
        refine leaf_all (unhide hA) (fun _ _ _ _ _ h => h) hHeld [(51, some true), (52, some true), (53, none), (54, none), (55, none), (56, some true), (57, some true), (58, none), (59, none), (60, none), (61, some true), (62, some true), (63, none), (64, none), (65, none), (66, some true), (67, some true), (68, none), (69, none), (70, none), (71, some true), (72, some true), (73, none), (74, none), (75, none), (76, none), (77, none), (78, some true), (79, some true), (80, none), (81, none), (82, none), (83, none), (84, none), (85, none), (86, some true), (87, some true), (88, none), (89, none), (90, none), (91, some true), (92, some true), (93, none), (94, none), (95, none), (96, none), (97, none), (98, some true), (99, some true), (100, none), (101, none), (102, none), (103, none), (104, none), (105, none), (106, none), (107, none), (108, none), (109, none), (110, none), (111, none), (112, none), (113, some true)] (by kernel_rfl) ?_
        simp only [putsF, valF, List.setIfInBounds_toArray, List.set_cons_zero, List.set_cons_succ]
        clear hHeld hA
        go_wp2_with fail
        go_ret
        exact ⟨rfl, bW⟩
      | true =>
       repeat ((first | (refine takeA ?_ (unhide hA) rfl rfl (by rfl) (fun _ _ _ h => h) ?_ hHeld ?_; rotate_left; · (intro w hSw; (try dsimp only at hSw); go_simp <;> with_reducible rfl)) | refine skipA (unhide hA) rfl (by rfl) (fun _ _ _ h => h) hHeld ?_); simp only [Act.put, List.setIfInBounds_toArray, List.set_cons_zero, List.set_cons_succ, Nat.reduceAdd])
       by_cases k1 : rk.kind < 1
       ·as_aux_lemma =>
         rw [decide_eq_true k1]
         have hR := unhide HXK (by rw [unhide HSI]; rw [holdsB_out (.inl k1)]; simp)
         subst hR
         refine leaf_all (unhide hA) (fun _ _ _ _ _ h => h) hHeld [(58, none), (59, none), (60, none), (61, some true), (62, some true), (63, none), (64, none), (65, none), (66, some true), (67, some true), (68, none), (69, none), (70, none), (71, some true), (72, some true), (73, none), (74, none), (75, none), (76, none), (77, none), (78, some true), (79, some true), (80, none), (81, none), (82, none), (83, none), (84, none), (85, none), (86, some true), (87, some true), (88, none), (89, none), (90, none), (91, some true), (92, some true), (93, none), (94, none), (95, none), (96, none), (97, none), (98, some true), (99, some true), (100, none), (101, none), (102, none), (103, none), (104, none), (105, none), (106, none), (107, none), (108, none), (109, none), (110, none), (111, none), (112, none), (113, some true)] (by kernel_rfl) ?_
         simp only [putsF, valF, List.setIfInBounds_toArray, List.set_cons_zero, List.set_cons_succ]
         clear hHeld hA
         go_wp2_with fail
         go_ret
         exact ⟨rfl, bW⟩
       ·as_aux_lemma =>
         rw [decide_eq_false k1]
         have k1n := hide k1
         repeat ((first | (refine takeA ?_ (unhide hA) rfl rfl (by rfl) (fun _ _ _ h => h) ?_ hHeld ?_; rotate_left; · (intro w hSw; (try dsimp only at hSw); go_simp <;> with_reducible rfl)) | refine skipA (unhide hA) rfl (by rfl) (fun _ _ _ h => h) hHeld ?_); simp only [Act.put, List.setIfInBounds_toArray, List.set_cons_zero, List.set_cons_succ, Nat.reduceAdd])
         by_cases k3 : 3 < rk.kind
         ·as_aux_lemma =>
           rw [decide_eq_true k3]
           have hR := unhide HXK (by rw [unhide HSI]; rw [holdsB_out (.inr k3)]; simp)
           subst hR
           refine leaf_all (unhide hA) (fun _ _ _ _ _ h => h) hHeld [(63, none), (64, none), (65, none), (66, some true), (67, some true), (68, none), (69, none), (70, none), (71, some true), (72, some true), (73, none), (74, none), (75, none), (76, none), (77, none), (78, some true), (79, some true), (80, none), (81, none), (82, none), (83, none), (84, none), (85, none), (86, some true), (87, some true), (88, none), (89, none), (90, none), (91, some true), (92, some true), (93, none), (94, none), (95, none), (96, none), (97, none), (98, some true), (99, some true), (100, none), (101, none), (102, none), (103, none), (104, none), (105, none), (106, none), (107, none), (108, none), (109, none), (110, none), (111, none), (112, none), (113, some true)] (by kernel_rfl) ?_
           simp only [putsF, valF, List.setIfInBounds_toArray, List.set_cons_zero, List.set_cons_succ]
           clear hHeld hA
           go_wp2_with fail
           go_ret
           exact ⟨rfl, bW⟩
         ·as_aux_lemma =>
           rw [decide_eq_false k3]
           have k3n := hide k3
           repeat ((first | (refine takeA ?_ (unhide hA) rfl rfl (by rfl) (fun _ _ _ h => h) ?_ hHeld ?_; rotate_left; · (intro w hSw; (try dsimp only at hSw); go_simp <;> with_reducible rfl)) | refine skipA (unhide hA) rfl (by rfl) (fun _ _ _ h => h) hHeld ?_); simp only [Act.put, List.setIfInBounds_toArray, List.set_cons_zero, List.set_cons_succ, Nat.reduceAdd])
           by_cases r0 : rk.rank < 0
           ·as_aux_lemma =>
             rw [decide_eq_true r0]
             have hR := unhide HXK (by rw [unhide HSI]; rw [decide_eq_false (p := 0 ≤ rk.rank ∧ rk.rank ≤ 3) (by omega)]; simp)
             subst hR
             refine leaf_all (unhide hA) (fun _ _ _ _ _ h => h) hHeld [(68, none), (69, none), (70, none), (71, some true), (72, some true), (73, none), (74, none), (75, none), (76, none), (77, none), (78, some true), (79, some true), (80, none), (81, none), (82, none), (83, none), (84, none), (85, none), (86, some true), (87, some true), (88, none), (89, none), (90, none), (91, some true), (92, some true), (93, none), (94, none), (95, none), (96, none), (97, none), (98, some true), (99, some true), (100, none), (101, none), (102, none), (103, none), (104, none), (105, none), (106, none), (107, none), (108, none), (109, none), (110, none), (111, none), (112, none), (113, some true)] (by kernel_rfl) ?_
             simp only [putsF, valF, List.setIfInBounds_toArray, List.set_cons_zero, List.set_cons_succ]
             clear hHeld hA
             go_wp2_with fail
             go_ret
             exact ⟨rfl, bW⟩
           ·as_aux_lemma =>
             rw [decide_eq_false r0]
             have r0n := hide r0
             repeat ((first | (refine takeA ?_ (unhide hA) rfl rfl (by rfl) (fun _ _ _ h => h) ?_ hHeld ?_; rotate_left; · (intro w hSw; (try dsimp only at hSw); go_simp <;> with_reducible rfl)) | refine skipA (unhide hA) rfl (by rfl) (fun _ _ _ h => h) hHeld ?_); simp only [Act.put, List.setIfInBounds_toArray, List.set_cons_zero, List.set_cons_succ, Nat.reduceAdd])
             by_cases r3 : 3 < rk.rank
             ·as_aux_lemma =>
               rw [decide_eq_true r3]
               have hR := unhide HXK (by rw [unhide HSI]; rw [decide_eq_false (p := 0 ≤ rk.rank ∧ rk.rank ≤ 3) (by omega)]; simp)
               subst hR
               refine leaf_all (unhide hA) (fun _ _ _ _ _ h => h) hHeld [(73, none), (74, none), (75, none), (76, none), (77, none), (78, some true), (79, some true), (80, none), (81, none), (82, none), (83, none), (84, none), (85, none), (86, some true), (87, some true), (88, none), (89, none), (90, none), (91, some true), (92, some true), (93, none), (94, none), (95, none), (96, none), (97, none), (98, some true), (99, some true), (100, none), (101, none), (102, none), (103, none), (104, none), (105, none), (106, none), (107, none), (108, none), (109, none), (110, none), (111, none), (112, none), (113, some true)] (by kernel_rfl) ?_
               simp only [putsF, valF, List.setIfInBounds_toArray, List.set_cons_zero, List.set_cons_succ]
               clear hHeld hA
               go_wp2_with fail
               go_ret
               exact ⟨rfl, bW⟩
             ·as_aux_lemma =>
               rw [decide_eq_false r3]
               have r3n := hide r3
               repeat ((first | (refine takeA ?_ (unhide hA) rfl rfl (by rfl) (fun _ _ _ h => h) ?_ hHeld ?_; rotate_left; · (intro w hSw; (try dsimp only at hSw); go_simp <;> with_reducible rfl)) | refine skipA (unhide hA) rfl (by rfl) (fun _ _ _ h => h) hHeld ?_); simp only [Act.put, List.setIfInBounds_toArray, List.set_cons_zero, List.set_cons_succ, Nat.reduceAdd])
               by_cases t1 : rk.till ≤ now
               ·as_aux_lemma =>
                 rw [decide_eq_true t1]
                 have hR := unhide HXK (by rw [unhide HSI]; rw [decide_eq_false (p := now < rk.till) (by omega)]; simp)
                 subst hR
                 refine leaf_all (unhide hA) (fun _ _ _ _ _ h => h) hHeld [(80, none), (81, none), (82, none), (83, none), (84, none), (85, none), (86, some true), (87, some true), (88, none), (89, none), (90, none), (91, some true), (92, some true), (93, none), (94, none), (95, none), (96, none), (97, none), (98, some true), (99, some true), (100, none), (101, none), (102, none), (103, none), (104, none), (105, none), (106, none), (107, none), (108, none), (109, none), (110, none), (111, none), (112, none), (113, some true)] (by kernel_rfl) ?_
                 simp only [putsF, valF, List.setIfInBounds_toArray, List.set_cons_zero, List.set_cons_succ]
                 clear hHeld hA
                 go_wp2_with fail
                 go_ret
                 exact ⟨rfl, bW⟩
               ·as_aux_lemma =>
                 rw [decide_eq_false t1]
                 have t1n := hide t1
                 repeat ((first | (refine takeA ?_ (unhide hA) rfl rfl (by rfl) (fun _ _ _ h => h) ?_ hHeld ?_; rotate_left; · (intro w hSw; (try dsimp only at hSw); go_simp <;> with_reducible rfl)) | refine skipA (unhide hA) rfl (by rfl) (fun _ _ _ h => h) hHeld ?_); simp only [Act.put, List.setIfInBounds_toArray, List.set_cons_zero, List.set_cons_succ, Nat.reduceAdd])
                 by_cases t2 : now + 1000 < rk.till
                 ·as_aux_lemma =>
                   rw [decide_eq_true t2]
                   have hR := unhide HXK (by rw [unhide HSI]; rw [decide_eq_false (p := rk.till ≤ now + 1000) (by omega)]; simp)
                   subst hR
                   refine leaf_all (unhide hA) (fun _ _ _ _ _ h => h) hHeld [(88, none), (89, none), (90, none), (91, some true), (92, some true), (93, none), (94, none), (95, none), (96, none), (97, none), (98, some true), (99, some true), (100, none), (101, none), (102, none), (103, none), (104, none), (105, none), (106, none), (107, none), (108, none), (109, none), (110, none), (111, none), (112, none), (113, some true)] (by kernel_rfl) ?_
                   simp only [putsF, valF, List.setIfInBounds_toArray, List.set_cons_zero, List.set_cons_succ]
                   clear hHeld hA
                   go_wp2_with fail
                   go_ret
                   exact ⟨rfl, bW⟩
                 ·as_aux_lemma =>
                   rw [decide_eq_false t2]
                   have t2n := hide t2
                   repeat ((first | (refine takeA ?_ (unhide hA) rfl rfl (by rfl) (fun _ _ _ h => h) ?_ hHeld ?_; rotate_left; · (intro w hSw; (try dsimp only at hSw); go_simp <;> with_reducible rfl)) | refine skipA (unhide hA) rfl (by rfl) (fun _ _ _ h => h) hHeld ?_); simp only [Act.put, List.setIfInBounds_toArray, List.set_cons_zero, List.set_cons_succ, Nat.reduceAdd])
                   by_cases u1 : rk.used < 1
                   ·as_aux_lemma =>
                     rw [decide_eq_true u1]
                     have hR := unhide HXK (by rw [unhide HSI]; rw [decide_eq_false (p := 1 ≤ rk.used) (by omega)]; simp)
                     subst hR
                     refine leaf_all (unhide hA) (fun _ _ _ _ _ h => h) hHeld [(93, none), (94, none), (95, none), (96, none), (97, none), (98, some true), (99, some true), (100, none), (101, none), (102, none), (103, none), (104, none), (105, none), (106, none), (107, none), (108, none), (109, none), (110, none), (111, none), (112, none), (113, some true)] (by kernel_rfl) ?_
                     simp only [putsF, valF, List.setIfInBounds_toArray, List.set_cons_zero, List.set_cons_succ]
                     clear hHeld hA
                     go_wp2_with fail
                     go_ret
                     exact ⟨rfl, bW⟩
                   ·as_aux_lemma =>
                     rw [decide_eq_false u1]
                     have u1n := hide u1
                     repeat ((first | (refine takeA ?_ (unhide hA) rfl rfl (by rfl) (fun _ _ _ h => h) ?_ hHeld ?_; rotate_left; · (intro w hSw; (try dsimp only at hSw); go_simp <;> with_reducible rfl)) | refine skipA (unhide hA) rfl (by rfl) (fun _ _ _ h => h) hHeld ?_); simp only [Act.put, List.setIfInBounds_toArray, List.set_cons_zero, List.set_cons_succ, Nat.reduceAdd])
                     by_cases u2 : turn < rk.used
                     ·as_aux_lemma =>
                       rw [decide_eq_true u2]
                       have hR := unhide HXK (by rw [unhide HSI]; rw [decide_eq_false (p := rk.used ≤ turn) (by omega)]; simp)
                       subst hR
                       refine leaf_all (unhide hA) (fun _ _ _ _ _ h => h) hHeld [(100, none), (101, none), (102, none), (103, none), (104, none), (105, none), (106, none), (107, none), (108, none), (109, none), (110, none), (111, none), (112, none), (113, some true)] (by kernel_rfl) ?_
                       simp only [putsF, valF, List.setIfInBounds_toArray, List.set_cons_zero, List.set_cons_succ]
                       clear hHeld hA
                       go_wp2_with fail
                       go_ret
                       exact ⟨rfl, bW⟩
                     ·as_aux_lemma =>
                       rw [decide_eq_false u2]
                       have u2n := hide u2
                       repeat ((first | (refine takeA ?_ (unhide hA) rfl rfl (by rfl) (fun _ _ _ h => h) ?_ hHeld ?_; rotate_left; · (intro w hSw; (try dsimp only at hSw); go_simp <;> with_reducible rfl)) | refine skipA (unhide hA) rfl (by rfl) (fun _ _ _ h => h) hHeld ?_); simp only [Act.put, List.setIfInBounds_toArray, List.set_cons_zero, List.set_cons_succ, Nat.reduceAdd])
                       rw [decide_eq_true (p := 0 ≤ rk.rank ∧ rk.rank ≤ 3) (by omega), decide_eq_true (p := now < rk.till) (by omega), decide_eq_true (p := rk.till ≤ now + 1000) (by omega), decide_eq_true (p := 1 ≤ rk.used) (by omega), decide_eq_true (p := rk.used ≤ turn) (by omega)] at HSI
                       simp only [Bool.true_and, Bool.and_true] at HSI
                       refine doneA rfl ?_
                       clear hHeld hA
                       go_wp2_with fail
                       as_aux_lemma =>
                        have LS := fun (w : World) (h : HasRs w (.slice ra rk.rrs.length rc) rk.rrs) => l10set_has h (fun q hq => ((unhide HZK).rrss q hq).name)
                        by_cases q1 : rk.kind = 1
                        ·have e1 : (rk.kind == 1) = true := by rw [beq_iff_eq]; exact q1
                         have e1' : (rk.kind != 1) = false := by simpa using q1
                         rw [holdsB_one q1] at HSI
                         clear q1
                         cases hG : setOk rk.rrs with
                         | false =>
                          rw [hG] at LS HSI
                          replace LS := hide LS
                          have hR := unhide HXK (by rw [unhide HSI, Bool.false_and])
                          subst hR
                          have bd := below_drew (w := w1)
                          replace bw := below_next bw bd
                          replace bW := below_next bW bd
                          replace KD := hide (block_kept bd (unhide KD))
                          replace K1 := hide (block_kept bd (unhide K1))
                          replace HU := hide ((unhide HU).below bd)
                          replace HR := hide (keptSs (unhide HR) bd)
                          have hblN := Nat.lt_of_lt_of_le hbl bd.size
                          clear bd hbl
                          have hbl := hblN
                          clear hblN
                          refine startA (by kernel_rfl) ⟨by kernel_rfl, by kernel_rfl⟩ (fun w' => (w'.cell? ⟨wr.heap.size, 0, none⟩ = some (.slice na rk.name.length nc) ∧ w'.cell? ⟨wr.heap.size, 1, none⟩ = some (.int .i64 rk.type) ∧ w'.cell? ⟨wr.heap.size, 2, none⟩ = some (.int .i64 rk.kind) ∧ w'.cell? ⟨wr.heap.size, 3, none⟩ = some (.slice ra rk.rrs.length rc) ∧ w'.cell? ⟨wr.heap.size, 4, none⟩ = some (.int .i64 rk.rank) ∧ w'.cell? ⟨wr.heap.size, 5, none⟩ = some (.int .i64 rk.till) ∧ w'.cell? ⟨wr.heap.size, 6, none⟩ = some (.int .i64 rk.used))) (cells7 (unhide K1)) (fun hA hHeld => ?_)
                          replace hA := hide hA
                          repeat ((first | (refine takeA ?_ (unhide hA) rfl rfl (by rfl) (fun _ _ _ h => h) ?_ hHeld ?_; rotate_left; · (intro w hSw; (try dsimp only at hSw); go_simp <;> with_reducible rfl)) | refine skipA (unhide hA) rfl (by rfl) (fun _ _ _ h => h) hHeld ?_); simp only [Act.put, List.setIfInBounds_toArray, List.set_cons_zero, List.set_cons_succ, Nat.reduceAdd])
                          refine runA (unhide hA) rfl (by kernel_rfl) (by kernel_rfl) (fun K hK => ?_)
                          have HK := hide hK
                          clear hK hHeld
                          go_simp
                          refine (unhide LS _ (unhide HU).rrs).mono ?_
                          rintro e w5 ⟨rfl, b5⟩
                          refine (unhide HK).out _ _ (cells7 (block_kept b5 (unhide K1))) (fun hHeld => ?_)
                          clear HK K
                          simp only [Nat.reduceAdd]
                          repeat ((first | (refine takeA ?_ (unhide hA) rfl rfl (by rfl) (fun _ _ _ h => h) ?_ hHeld ?_; rotate_left; · (intro w hSw; (try dsimp only at hSw); go_simp <;> with_reducible rfl)) | refine skipA (unhide hA) rfl (by rfl) (fun _ _ _ h => h) hHeld ?_); simp only [Act.put, List.setIfInBounds_toArray, List.set_cons_zero, List.set_cons_succ, Nat.reduceAdd])
                          refine doneA rfl ?_
                          clear hHeld hA
                          replace bw := below_next bw b5
                          replace bW := below_next bW b5
                          replace KD := hide (block_kept b5 (unhide KD))
                          replace K1 := hide (block_kept b5 (unhide K1))
                          replace HU := hide ((unhide HU).below b5)
                          replace HR := hide (keptSs (unhide HR) b5)
                          have hblN := Nat.lt_of_lt_of_le hbl b5.size
                          clear b5 hbl
                          have hbl := hblN
                          clear hblN
                          obtain ⟨d0, d1, d2⟩ := cells3 (unhide KD)
                          obtain ⟨e0, e1, e2, e3, e4, e5, e6⟩ := cells7 (unhide K1)
                          go_wp2_with fail
                          clear d0 d1 d2 e0 e1 e2 e3 e4 e5 e6
                          go_ret
                          exact ⟨rfl, bW⟩
                         | true =>
                          rw [hG] at LS HSI
                          replace LS := hide LS
                          rw [Bool.true_and] at HSI
                          have hl1 := (setOk_rrs hG).2
                          clear hG
                          have bd := below_drew (w := w1)
                          replace bw := below_next bw bd
                          replace bW := below_next bW bd
                          replace KD := hide (block_kept bd (unhide KD))
                          replace K1 := hide (block_kept bd (unhide K1))
                          replace HU := hide ((unhide HU).below bd)
                          replace HR := hide (keptSs (unhide HR) bd)
                          have hblN := Nat.lt_of_lt_of_le hbl bd.size
                          clear bd hbl
                          have hbl := hblN
                          clear hblN
                          refine startA (by kernel_rfl) ⟨by kernel_rfl, by kernel_rfl⟩ (fun w' => (w'.cell? ⟨wr.heap.size, 0, none⟩ = some (.slice na rk.name.length nc) ∧ w'.cell? ⟨wr.heap.size, 1, none⟩ = some (.int .i64 rk.type) ∧ w'.cell? ⟨wr.heap.size, 2, none⟩ = some (.int .i64 rk.kind) ∧ w'.cell? ⟨wr.heap.size, 3, none⟩ = some (.slice ra rk.rrs.length rc) ∧ w'.cell? ⟨wr.heap.size, 4, none⟩ = some (.int .i64 rk.rank) ∧ w'.cell? ⟨wr.heap.size, 5, none⟩ = some (.int .i64 rk.till) ∧ w'.cell? ⟨wr.heap.size, 6, none⟩ = some (.int .i64 rk.used))) (cells7 (unhide K1)) (fun hA hHeld => ?_)
                          replace hA := hide hA
                          repeat ((first | (refine takeA ?_ (unhide hA) rfl rfl (by rfl) (fun _ _ _ h => h) ?_ hHeld ?_; rotate_left; · (intro w hSw; (try dsimp only at hSw); go_simp <;> with_reducible rfl)) | refine skipA (unhide hA) rfl (by rfl) (fun _ _ _ h => h) hHeld ?_); simp only [Act.put, List.setIfInBounds_toArray, List.set_cons_zero, List.set_cons_succ, Nat.reduceAdd])
                          refine runA (unhide hA) rfl (by kernel_rfl) (by kernel_rfl) (fun K hK => ?_)
                          have HK := hide hK
                          clear hK hHeld
                          go_simp
                          refine (unhide LS _ (unhide HU).rrs).mono ?_
                          rintro e w5 ⟨rfl, b5⟩
                          refine (unhide HK).out _ _ (cells7 (block_kept b5 (unhide K1))) (fun hHeld => ?_)
                          clear HK K
                          simp only [Nat.reduceAdd]
                          repeat ((first | (refine takeA ?_ (unhide hA) rfl rfl (by rfl) (fun _ _ _ h => h) ?_ hHeld ?_; rotate_left; · (intro w hSw; (try dsimp only at hSw); go_simp <;> with_reducible rfl)) | refine skipA (unhide hA) rfl (by rfl) (fun _ _ _ h => h) hHeld ?_); simp only [Act.put, List.setIfInBounds_toArray, List.set_cons_zero, List.set_cons_succ, Nat.reduceAdd])
                          refine doneA rfl ?_
                          clear hHeld hA
                          replace bw := below_next bw b5
                          replace bW := below_next bW b5
                          replace KD := hide (block_kept b5 (unhide KD))
                          replace K1 := hide (block_kept b5 (unhide K1))
                          replace HU := hide ((unhide HU).below b5)
                          replace HR := hide (keptSs (unhide HR) b5)
                          have hblN := Nat.lt_of_lt_of_le hbl b5.size
                          clear b5 hbl
                          have hbl := hblN
                          clear hblN
                          obtain ⟨d0, d1, d2⟩ := cells3 (unhide KD)
                          obtain ⟨e0, e1, e2, e3, e4, e5, e6⟩ := cells7 (unhide K1)
                          go_wp2_with fail
                          clear d0 d1 d2 e0 e1 e2 e3 e4 e5 e6
                          obtain ⟨br, offr, na0, nc0, ta0, tc0, xa0, xc0, ia0, ic0, rfl, hbr, hz, hu0⟩ := (unhide HU).rrs.here (k := 0) (by omega)
                          rw [Nat.zero_mul, Nat.add_zero] at hz
                          have hs0 := ((unhide HZK).rrss 0 (by omega)).name
                          have hsk := (unhide HZK).name
                          have hnr : 0 < rk.rrs.length := by omega
                          have LC := fun (w : World) (h1 : HasL w (.slice na0 (rk.rrs.getD 0 recZ).name.length nc0) (rk.rrs.getD 0 recZ).name) (h2 : HasL w (.slice na rk.name.length nc) rk.name) => l2cmp_has h1 h2 hs0 hsk
                          have bd := below_drew (w := w5)
                          have HZ := hide (range_below hz hbr bd)
                          have HU0 := hide (hu0.below bd)
                          have hbrN := Nat.lt_of_lt_of_le hbr bd.size
                          clear hz hu0 hs0 hsk hbr hl1
                          have hbr := hbrN
                          clear hbrN
                          replace bw := below_next bw bd
                          replace bW := below_next bW bd
                          replace KD := hide (block_kept bd (unhide KD))
                          replace K1 := hide (block_kept bd (unhide K1))
                          replace HU := hide ((unhide HU).below bd)
                          replace HR := hide (keptSs (unhide HR) bd)
                          have hblN := Nat.lt_of_lt_of_le hbl bd.size
                          clear bd hbl
                          have hbl := hblN
                          clear hblN
                          generalize rk.rrs.getD 0 recZ = r0 at *
                          generalize cmpN r0.name rk.name = N at *
                          generalize rk.rrs.length = m at *
                          replace LC := hide LC
                          by_cases hN : N = 0
                          rotate_left
                          ·have qN : (N != 0) = true := by simpa using hN
                           have hR := unhide HXK (by rw [unhide HSI, decide_eq_false hN, Bool.and_false])
                           subst hR
                           clear hN
                           refine startA (by kernel_rfl) ⟨by kernel_rfl, by kernel_rfl⟩ (fun w' => (w'.cell? ⟨wr.heap.size, 0, none⟩ = some (.slice na rk.name.length nc) ∧ w'.cell? ⟨wr.heap.size, 1, none⟩ = some (.int .i64 rk.type) ∧ w'.cell? ⟨wr.heap.size, 2, none⟩ = some (.int .i64 rk.kind) ∧ w'.cell? ⟨wr.heap.size, 3, none⟩ = some (.slice (some ⟨br, offr, none⟩) m rc) ∧ w'.cell? ⟨wr.heap.size, 4, none⟩ = some (.int .i64 rk.rank) ∧ w'.cell? ⟨wr.heap.size, 5, none⟩ = some (.int .i64 rk.till) ∧ w'.cell? ⟨wr.heap.size, 6, none⟩ = some (.int .i64 rk.used)) ∧ (w'.cell? ⟨br, offr, none⟩ = some (.slice na0 r0.name.length nc0) ∧ w'.cell? ⟨br, offr + 1, none⟩ = some (.int .i64 r0.type) ∧ w'.cell? ⟨br, offr + 2, none⟩ = some (.int .i64 r0.ttl) ∧ w'.cell? ⟨br, offr + 3, none⟩ = some (.int .i64 r0.addr) ∧ w'.cell? ⟨br, offr + 4, none⟩ = some (.slice ta0 r0.to.length tc0) ∧ w'.cell? ⟨br, offr + 5, none⟩ = some (.slice xa0 r0.text.length xc0) ∧ w'.cell? ⟨br, offr + 6, none⟩ = some (.slice ia0 r0.nums.length ic0))) ⟨cells7 (unhide K1), range7 (unhide HZ)⟩ (fun hA hHeld => ?_)
                           replace hA := hide hA
                           repeat ((first | (refine takeA ?_ (unhide hA) rfl rfl (by rfl) (fun _ _ _ h => h) ?_ hHeld ?_; rotate_left; · (intro w hSw; (try dsimp only at hSw); go_simp <;> with_reducible rfl)) | refine skipA (unhide hA) rfl (by rfl) (fun _ _ _ h => h) hHeld ?_); simp only [Act.put, List.setIfInBounds_toArray, List.set_cons_zero, List.set_cons_succ, Nat.reduceAdd])
                           refine runA (unhide hA) rfl (by kernel_rfl) (by kernel_rfl) (fun K hK => ?_)
                           have HK := hide hK
                           clear hK hHeld
                           go_simp
                           refine (unhide LC _ (unhide HU0).name (unhide HU).name).mono ?_
                           rintro e w6 ⟨rfl, b6⟩
                           refine (unhide HK).out _ _ ⟨cells7 (block_kept b6 (unhide K1)), range7 (range_below (unhide HZ) hbr b6)⟩ (fun hHeld => ?_)
                           clear HK K
                           simp only [Nat.reduceAdd]
                           repeat ((first | (refine takeA ?_ (unhide hA) rfl rfl (by rfl) (fun _ _ _ h => h) ?_ hHeld ?_; rotate_left; · (intro w hSw; (try dsimp only at hSw); go_simp <;> with_reducible rfl)) | refine skipA (unhide hA) rfl (by rfl) (fun _ _ _ h => h) hHeld ?_); simp only [Act.put, List.setIfInBounds_toArray, List.set_cons_zero, List.set_cons_succ, Nat.reduceAdd])
                           refine doneA rfl ?_
                           clear hHeld hA
                           go_wp2_with fail
                           go_ret
                           exact ⟨rfl, below_next bW b6⟩
                          subst hN
                          rw [decide_eq_true rfl, Bool.and_true] at HSI
                          by_cases hT : r0.type = rk.type
                          rotate_left
                          ·have qT : (r0.type != rk.type) = true := by simpa using hT
                           have hR := unhide HXK (by rw [unhide HSI, decide_eq_false hT])
                           subst hR
                           clear hT
                           refine startA (by kernel_rfl) ⟨by kernel_rfl, by kernel_rfl⟩ (fun w' => (w'.cell? ⟨wr.heap.size, 0, none⟩ = some (.slice na rk.name.length nc) ∧ w'.cell? ⟨wr.heap.size, 1, none⟩ = some (.int .i64 rk.type) ∧ w'.cell? ⟨wr.heap.size, 2, none⟩ = some (.int .i64 rk.kind) ∧ w'.cell? ⟨wr.heap.size, 3, none⟩ = some (.slice (some ⟨br, offr, none⟩) m rc) ∧ w'.cell? ⟨wr.heap.size, 4, none⟩ = some (.int .i64 rk.rank) ∧ w'.cell? ⟨wr.heap.size, 5, none⟩ = some (.int .i64 rk.till) ∧ w'.cell? ⟨wr.heap.size, 6, none⟩ = some (.int .i64 rk.used)) ∧ (w'.cell? ⟨br, offr, none⟩ = some (.slice na0 r0.name.length nc0) ∧ w'.cell? ⟨br, offr + 1, none⟩ = some (.int .i64 r0.type) ∧ w'.cell? ⟨br, offr + 2, none⟩ = some (.int .i64 r0.ttl) ∧ w'.cell? ⟨br, offr + 3, none⟩ = some (.int .i64 r0.addr) ∧ w'.cell? ⟨br, offr + 4, none⟩ = some (.slice ta0 r0.to.length tc0) ∧ w'.cell? ⟨br, offr + 5, none⟩ = some (.slice xa0 r0.text.length xc0) ∧ w'.cell? ⟨br, offr + 6, none⟩ = some (.slice ia0 r0.nums.length ic0))) ⟨cells7 (unhide K1), range7 (unhide HZ)⟩ (fun hA hHeld => ?_)
                           replace hA := hide hA
                           repeat ((first | (refine takeA ?_ (unhide hA) rfl rfl (by rfl) (fun _ _ _ h => h) ?_ hHeld ?_; rotate_left; · (intro w hSw; (try dsimp only at hSw); go_simp <;> with_reducible rfl)) | refine skipA (unhide hA) rfl (by rfl) (fun _ _ _ h => h) hHeld ?_); simp only [Act.put, List.setIfInBounds_toArray, List.set_cons_zero, List.set_cons_succ, Nat.reduceAdd])
                           refine runA (unhide hA) rfl (by kernel_rfl) (by kernel_rfl) (fun K hK => ?_)
                           have HK := hide hK
                           clear hK hHeld
                           go_simp
                           refine (unhide LC _ (unhide HU0).name (unhide HU).name).mono ?_
                           rintro e w6 ⟨rfl, b6⟩
                           refine (unhide HK).out _ _ ⟨cells7 (block_kept b6 (unhide K1)), range7 (range_below (unhide HZ) hbr b6)⟩ (fun hHeld => ?_)
                           clear HK K
                           simp only [Nat.reduceAdd]
                           repeat ((first | (refine takeA ?_ (unhide hA) rfl rfl (by rfl) (fun _ _ _ h => h) ?_ hHeld ?_; rotate_left; · (intro w hSw; (try dsimp only at hSw); go_simp <;> with_reducible rfl)) | refine skipA (unhide hA) rfl (by rfl) (fun _ _ _ h => h) hHeld ?_); simp only [Act.put, List.setIfInBounds_toArray, List.set_cons_zero, List.set_cons_succ, Nat.reduceAdd])
                           refine doneA rfl ?_
                           clear hHeld hA
                           go_wp2_with fail
                           go_ret
                           exact ⟨rfl, below_next bW b6⟩
                          rw [decide_eq_true hT] at HSI
                          have qT : (r0.type != rk.type) = false := by simpa using hT
                          have HSK := hide (unhide HSI)
                          clear hT HSI HXK
                          refine startA (by kernel_rfl) ⟨by kernel_rfl, by kernel_rfl⟩ (fun w' => (w'.cell? ⟨wr.heap.size, 0, none⟩ = some (.slice na rk.name.length nc) ∧ w'.cell? ⟨wr.heap.size, 1, none⟩ = some (.int .i64 rk.type) ∧ w'.cell? ⟨wr.heap.size, 2, none⟩ = some (.int .i64 rk.kind) ∧ w'.cell? ⟨wr.heap.size, 3, none⟩ = some (.slice (some ⟨br, offr, none⟩) m rc) ∧ w'.cell? ⟨wr.heap.size, 4, none⟩ = some (.int .i64 rk.rank) ∧ w'.cell? ⟨wr.heap.size, 5, none⟩ = some (.int .i64 rk.till) ∧ w'.cell? ⟨wr.heap.size, 6, none⟩ = some (.int .i64 rk.used)) ∧ (w'.cell? ⟨br, offr, none⟩ = some (.slice na0 r0.name.length nc0) ∧ w'.cell? ⟨br, offr + 1, none⟩ = some (.int .i64 r0.type) ∧ w'.cell? ⟨br, offr + 2, none⟩ = some (.int .i64 r0.ttl) ∧ w'.cell? ⟨br, offr + 3, none⟩ = some (.int .i64 r0.addr) ∧ w'.cell? ⟨br, offr + 4, none⟩ = some (.slice ta0 r0.to.length tc0) ∧ w'.cell? ⟨br, offr + 5, none⟩ = some (.slice xa0 r0.text.length xc0) ∧ w'.cell? ⟨br, offr + 6, none⟩ = some (.slice ia0 r0.nums.length ic0))) ⟨cells7 (unhide K1), range7 (unhide HZ)⟩ (fun hA hHeld => ?_)
                          replace hA := hide hA
                          repeat ((first | (refine takeA ?_ (unhide hA) rfl rfl (by rfl) (fun _ _ _ h => h) ?_ hHeld ?_; rotate_left; · (intro w hSw; (try dsimp only at hSw); go_simp <;> with_reducible rfl)) | refine skipA (unhide hA) rfl (by rfl) (fun _ _ _ h => h) hHeld ?_); simp only [Act.put, List.setIfInBounds_toArray, List.set_cons_zero, List.set_cons_succ, Nat.reduceAdd])
                          refine runA (unhide hA) rfl (by kernel_rfl) (by kernel_rfl) (fun K hK => ?_)
                          have HK := hide hK
                          clear hK hHeld
                          go_simp
                          refine (unhide LC _ (unhide HU0).name (unhide HU).name).mono ?_
                          rintro e w6 ⟨rfl, b6⟩
                          refine (unhide HK).out _ _ ⟨cells7 (block_kept b6 (unhide K1)), range7 (range_below (unhide HZ) hbr b6)⟩ (fun hHeld => ?_)
                          clear HK K
                          simp only [Nat.reduceAdd]
                          repeat ((first | (refine takeA ?_ (unhide hA) rfl rfl (by rfl) (fun _ _ _ h => h) ?_ hHeld ?_; rotate_left; · (intro w hSw; (try dsimp only at hSw); go_simp <;> with_reducible rfl)) | refine skipA (unhide hA) rfl (by rfl) (fun _ _ _ h => h) hHeld ?_); simp only [Act.put, List.setIfInBounds_toArray, List.set_cons_zero, List.set_cons_succ, Nat.reduceAdd])
                          refine doneA rfl ?_
                          clear hHeld hA
                          replace bw := below_next bw b6
                          replace bW := below_next bW b6
                          replace KD := hide (block_kept b6 (unhide KD))
                          replace K1 := hide (block_kept b6 (unhide K1))
                          replace HU := hide ((unhide HU).below b6)
                          replace HR := hide (keptSs (unhide HR) b6)
                          have hblN := Nat.lt_of_lt_of_le hbl b6.size
                          clear b6 hbl
                          have hbl := hblN
                          clear hblN
                          go_wp2_with fail
                          generalize hwc : w6 = WC at *
                          clear hwc
                          have HB0 := hide bw
                          have HB1 := hide bW
                          have HKD := hide (unhide KD)
                          have HK1 := hide (unhide K1)
                          have HRR := hide (unhide HR)
                          have HHB := hide hbl
                          clear KD K1 HR bw bW HU
                          generalize wr.heap.size = BB at *
                          go_loopw [5] (fun i wx => ∃ j : Nat, j ≤ 0 ∧ i = .int .i64 j ∧ Hid (∀ q, q < j → decide ((l.getD q sltZ).used ≠ rk.used) = true) ∧ Below WC.heap.size WC wx) (fun i _ => 0 - (intOf i).toNat)
                          case atStart => exact ⟨0, Nat.zero_le _, rfl, hide (fun q hq => absurd hq (Nat.not_lt_zero _)), Below.refl _ _⟩
                          case round =>
                           obtain ⟨j, hj, rfl, hal, hx⟩ := hrel
                           have bw := below_next (unhide HB0) hx
                           have bW := below_next (unhide HB1) hx
                           have KD := hide (block_kept hx (unhide HKD))
                           have K1 := hide (block_kept hx (unhide HK1))
                           have HR := keptSs (unhide HRR) hx
                           by_cases hjk : j < 0
                           ·exact absurd hjk (Nat.not_lt_zero _)
                           ·obtain rfl : j = 0 := by omega
                            have HS2 := hide (unhide HFY (unhide hal))
                            go_wp2_with fail
                            exact ⟨⟨0 + 1, by omega, by go_num, hide (unhide hone (unhide HSK)), hide (unhide honf (unhide HS2)), bw⟩, by simp [intOf]; omega⟩
                        ·have e1 : (rk.kind == 1) = false := by rw [beq_eq_false_iff_ne]; exact q1
                         have e1' : (rk.kind != 1) = true := by simpa using q1
                         rw [holdsB_two q1 (by have := unhide k1n; omega) (by have := unhide k3n; omega)] at HSI
                         clear q1
                         cases hG : setOk rk.rrs with
                         | true =>
                          rw [hG] at LS
                          replace LS := hide LS
                          have hl1 := (setOk_rrs hG).2
                          have hR := unhide HXK (by rw [unhide HSI, decide_eq_false (by omega)])
                          subst hR
                          clear hG hl1
                          have bd := below_drew (w := w1)
                          replace bw := below_next bw bd
                          replace bW := below_next bW bd
                          replace KD := hide (block_kept bd (unhide KD))
                          replace K1 := hide (block_kept bd (unhide K1))
                          replace HU := hide ((unhide HU).below bd)
                          replace HR := hide (keptSs (unhide HR) bd)
                          have hblN := Nat.lt_of_lt_of_le hbl bd.size
                          clear bd hbl
                          have hbl := hblN
                          clear hblN
                          refine startA (by kernel_rfl) ⟨by kernel_rfl, by kernel_rfl⟩ (fun w' => (w'.cell? ⟨wr.heap.size, 0, none⟩ = some (.slice na rk.name.length nc) ∧ w'.cell? ⟨wr.heap.size, 1, none⟩ = some (.int .i64 rk.type) ∧ w'.cell? ⟨wr.heap.size, 2, none⟩ = some (.int .i64 rk.kind) ∧ w'.cell? ⟨wr.heap.size, 3, none⟩ = some (.slice ra rk.rrs.length rc) ∧ w'.cell? ⟨wr.heap.size, 4, none⟩ = some (.int .i64 rk.rank) ∧ w'.cell? ⟨wr.heap.size, 5, none⟩ = some (.int .i64 rk.till) ∧ w'.cell? ⟨wr.heap.size, 6, none⟩ = some (.int .i64 rk.used))) (cells7 (unhide K1)) (fun hA hHeld => ?_)
                          replace hA := hide hA
                          repeat ((first | (refine takeA ?_ (unhide hA) rfl rfl (by rfl) (fun _ _ _ h => h) ?_ hHeld ?_; rotate_left; · (intro w hSw; (try dsimp only at hSw); go_simp <;> with_reducible rfl)) | refine skipA (unhide hA) rfl (by rfl) (fun _ _ _ h => h) hHeld ?_); simp only [Act.put, List.setIfInBounds_toArray, List.set_cons_zero, List.set_cons_succ, Nat.reduceAdd])
                          refine runA (unhide hA) rfl (by kernel_rfl) (by kernel_rfl) (fun K hK => ?_)
                          have HK := hide hK
                          clear hK hHeld
                          go_simp
                          refine (unhide LS _ (unhide HU).rrs).mono ?_
                          rintro e w5 ⟨rfl, b5⟩
                          refine (unhide HK).out _ _ (cells7 (block_kept b5 (unhide K1))) (fun hHeld => ?_)
                          clear HK K
                          simp only [Nat.reduceAdd]
                          repeat ((first | (refine takeA ?_ (unhide hA) rfl rfl (by rfl) (fun _ _ _ h => h) ?_ hHeld ?_; rotate_left; · (intro w hSw; (try dsimp only at hSw); go_simp <;> with_reducible rfl)) | refine skipA (unhide hA) rfl (by rfl) (fun _ _ _ h => h) hHeld ?_); simp only [Act.put, List.setIfInBounds_toArray, List.set_cons_zero, List.set_cons_succ, Nat.reduceAdd])
                          refine doneA rfl ?_
                          clear hHeld hA
                          replace bw := below_next bw b5
                          replace bW := below_next bW b5
                          replace KD := hide (block_kept b5 (unhide KD))
                          replace K1 := hide (block_kept b5 (unhide K1))
                          replace HU := hide ((unhide HU).below b5)
                          replace HR := hide (keptSs (unhide HR) b5)
                          have hblN := Nat.lt_of_lt_of_le hbl b5.size
                          clear b5 hbl
                          have hbl := hblN
                          clear hblN
                          obtain ⟨d0, d1, d2⟩ := cells3 (unhide KD)
                          obtain ⟨e0, e1, e2, e3, e4, e5, e6⟩ := cells7 (unhide K1)
                          go_wp2_with fail
                          clear d0 d1 d2 e0 e1 e2 e3 e4 e5 e6
                          go_ret
                          exact ⟨rfl, bW⟩
                         | false =>
                          rw [hG] at LS
                          replace LS := hide LS
                          clear hG
                          by_cases hl : rk.rrs.length = 0
                          rotate_left
                          ·have hR := unhide HXK (by rw [unhide HSI, decide_eq_false hl])
                           subst hR
                           have hl2 : (0 : Int) < rk.rrs.length := by omega
                           have bd := below_drew (w := w1)
                           replace bw := below_next bw bd
                           replace bW := below_next bW bd
                           replace KD := hide (block_kept bd (unhide KD))
                           replace K1 := hide (block_kept bd (unhide K1))
                           replace HU := hide ((unhide HU).below bd)
                           replace HR := hide (keptSs (unhide HR) bd)
                           have hblN := Nat.lt_of_lt_of_le hbl bd.size
                           clear bd hbl
                           have hbl := hblN
                           clear hblN
                           refine startA (by kernel_rfl) ⟨by kernel_rfl, by kernel_rfl⟩ (fun w' => (w'.cell? ⟨wr.heap.size, 0, none⟩ = some (.slice na rk.name.length nc) ∧ w'.cell? ⟨wr.heap.size, 1, none⟩ = some (.int .i64 rk.type) ∧ w'.cell? ⟨wr.heap.size, 2, none⟩ = some (.int .i64 rk.kind) ∧ w'.cell? ⟨wr.heap.size, 3, none⟩ = some (.slice ra rk.rrs.length rc) ∧ w'.cell? ⟨wr.heap.size, 4, none⟩ = some (.int .i64 rk.rank) ∧ w'.cell? ⟨wr.heap.size, 5, none⟩ = some (.int .i64 rk.till) ∧ w'.cell? ⟨wr.heap.size, 6, none⟩ = some (.int .i64 rk.used))) (cells7 (unhide K1)) (fun hA hHeld => ?_)
                           replace hA := hide hA
                           repeat ((first | (refine takeA ?_ (unhide hA) rfl rfl (by rfl) (fun _ _ _ h => h) ?_ hHeld ?_; rotate_left; · (intro w hSw; (try dsimp only at hSw); go_simp <;> with_reducible rfl)) | refine skipA (unhide hA) rfl (by rfl) (fun _ _ _ h => h) hHeld ?_); simp only [Act.put, List.setIfInBounds_toArray, List.set_cons_zero, List.set_cons_succ, Nat.reduceAdd])
                           refine runA (unhide hA) rfl (by kernel_rfl) (by kernel_rfl) (fun K hK => ?_)
                           have HK := hide hK
                           clear hK hHeld
                           go_simp
                           refine (unhide LS _ (unhide HU).rrs).mono ?_
                           rintro e w5 ⟨rfl, b5⟩
                           refine (unhide HK).out _ _ (cells7 (block_kept b5 (unhide K1))) (fun hHeld => ?_)
                           clear HK K
                           simp only [Nat.reduceAdd]
                           repeat ((first | (refine takeA ?_ (unhide hA) rfl rfl (by rfl) (fun _ _ _ h => h) ?_ hHeld ?_; rotate_left; · (intro w hSw; (try dsimp only at hSw); go_simp <;> with_reducible rfl)) | refine skipA (unhide hA) rfl (by rfl) (fun _ _ _ h => h) hHeld ?_); simp only [Act.put, List.setIfInBounds_toArray, List.set_cons_zero, List.set_cons_succ, Nat.reduceAdd])
                           refine doneA rfl ?_
                           clear hHeld hA
                           replace bw := below_next bw b5
                           replace bW := below_next bW b5
                           replace KD := hide (block_kept b5 (unhide KD))
                           replace K1 := hide (block_kept b5 (unhide K1))
                           replace HU := hide ((unhide HU).below b5)
                           replace HR := hide (keptSs (unhide HR) b5)
                           have hblN := Nat.lt_of_lt_of_le hbl b5.size
                           clear b5 hbl
                           have hbl := hblN
                           clear hblN
                           obtain ⟨d0, d1, d2⟩ := cells3 (unhide KD)
                           obtain ⟨e0, e1, e2, e3, e4, e5, e6⟩ := cells7 (unhide K1)
                           go_wp2_with fail
                           clear d0 d1 d2 e0 e1 e2 e3 e4 e5 e6
                           go_ret
                           exact ⟨rfl, bW⟩
                          rw [decide_eq_true hl] at HSI
                          have HSK := hide (unhide HSI)
                          clear HSI HXK
                          generalize rk.rrs.length = m at *
                          subst hl
                          have bd := below_drew (w := w1)
                          replace bw := below_next bw bd
                          replace bW := below_next bW bd
                          replace KD := hide (block_kept bd (unhide KD))
                          replace K1 := hide (block_kept bd (unhide K1))
                          replace HU := hide ((unhide HU).below bd)
                          replace HR := hide (keptSs (unhide HR) bd)
                          have hblN := Nat.lt_of_lt_of_le hbl bd.size
                          clear bd hbl
                          have hbl := hblN
                          clear hblN
                          refine startA (by kernel_rfl) ⟨by kernel_rfl, by kernel_rfl⟩ (fun w' => (w'.cell? ⟨wr.heap.size, 0, none⟩ = some (.slice na rk.name.length nc) ∧ w'.cell? ⟨wr.heap.size, 1, none⟩ = some (.int .i64 rk.type) ∧ w'.cell? ⟨wr.heap.size, 2, none⟩ = some (.int .i64 rk.kind) ∧ w'.cell? ⟨wr.heap.size, 3, none⟩ = some (.slice ra 0 rc) ∧ w'.cell? ⟨wr.heap.size, 4, none⟩ = some (.int .i64 rk.rank) ∧ w'.cell? ⟨wr.heap.size, 5, none⟩ = some (.int .i64 rk.till) ∧ w'.cell? ⟨wr.heap.size, 6, none⟩ = some (.int .i64 rk.used))) (cells7 (unhide K1)) (fun hA hHeld => ?_)
                          replace hA := hide hA
                          repeat ((first | (refine takeA ?_ (unhide hA) rfl rfl (by rfl) (fun _ _ _ h => h) ?_ hHeld ?_; rotate_left; · (intro w hSw; (try dsimp only at hSw); go_simp <;> with_reducible rfl)) | refine skipA (unhide hA) rfl (by rfl) (fun _ _ _ h => h) hHeld ?_); simp only [Act.put, List.setIfInBounds_toArray, List.set_cons_zero, List.set_cons_succ, Nat.reduceAdd])
                          refine runA (unhide hA) rfl (by kernel_rfl) (by kernel_rfl) (fun K hK => ?_)
                          have HK := hide hK
                          clear hK hHeld
                          go_simp
                          refine (unhide LS _ (unhide HU).rrs).mono ?_
                          rintro e w5 ⟨rfl, b5⟩
                          refine (unhide HK).out _ _ (cells7 (block_kept b5 (unhide K1))) (fun hHeld => ?_)
                          clear HK K
                          simp only [Nat.reduceAdd]
                          repeat ((first | (refine takeA ?_ (unhide hA) rfl rfl (by rfl) (fun _ _ _ h => h) ?_ hHeld ?_; rotate_left; · (intro w hSw; (try dsimp only at hSw); go_simp <;> with_reducible rfl)) | refine skipA (unhide hA) rfl (by rfl) (fun _ _ _ h => h) hHeld ?_); simp only [Act.put, List.setIfInBounds_toArray, List.set_cons_zero, List.set_cons_succ, Nat.reduceAdd])
                          refine doneA rfl ?_
                          clear hHeld hA
                          replace bw := below_next bw b5
                          replace bW := below_next bW b5
                          replace KD := hide (block_kept b5 (unhide KD))
                          replace K1 := hide (block_kept b5 (unhide K1))
                          replace HU := hide ((unhide HU).below b5)
                          replace HR := hide (keptSs (unhide HR) b5)
                          have hblN := Nat.lt_of_lt_of_le hbl b5.size
                          clear b5 hbl
                          have hbl := hblN
                          clear hblN
                          obtain ⟨d0, d1, d2⟩ := cells3 (unhide KD)
                          obtain ⟨e0, e1, e2, e3, e4, e5, e6⟩ := cells7 (unhide K1)
                          go_wp2_with fail
                          clear d0 d1 d2 e0 e1 e2 e3 e4 e5 e6
                          have bd := below_drew (w := w5)
                          replace bw := below_next bw bd
                          replace bW := below_next bW bd
                          replace KD := hide (block_kept bd (unhide KD))
                          replace K1 := hide (block_kept bd (unhide K1))
                          replace HU := hide ((unhide HU).below bd)
                          replace HR := hide (keptSs (unhide HR) bd)
                          have hblN := Nat.lt_of_lt_of_le hbl bd.size
                          clear bd hbl
                          have hbl := hblN
                          clear hblN
                          refine startA (by kernel_rfl) ⟨by kernel_rfl, by kernel_rfl⟩ (fun w' => (w'.cell? ⟨wr.heap.size, 0, none⟩ = some (.slice na rk.name.length nc) ∧ w'.cell? ⟨wr.heap.size, 1, none⟩ = some (.int .i64 rk.type) ∧ w'.cell? ⟨wr.heap.size, 2, none⟩ = some (.int .i64 rk.kind) ∧ w'.cell? ⟨wr.heap.size, 3, none⟩ = some (.slice ra 0 rc) ∧ w'.cell? ⟨wr.heap.size, 4, none⟩ = some (.int .i64 rk.rank) ∧ w'.cell? ⟨wr.heap.size, 5, none⟩ = some (.int .i64 rk.till) ∧ w'.cell? ⟨wr.heap.size, 6, none⟩ = some (.int .i64 rk.used))) (cells7 (unhide K1)) (fun hA hHeld => ?_)
                          replace hA := hide hA
                          repeat ((first | (refine takeA ?_ (unhide hA) rfl rfl (by rfl) (fun _ _ _ h => h) ?_ hHeld ?_; rotate_left; · (intro w hSw; (try dsimp only at hSw); go_simp <;> with_reducible rfl)) | refine skipA (unhide hA) rfl (by rfl) (fun _ _ _ h => h) hHeld ?_); simp only [Act.put, List.setIfInBounds_toArray, List.set_cons_zero, List.set_cons_succ, Nat.reduceAdd])
                          refine doneA rfl ?_
                          clear hHeld hA
                          go_wp2_with fail
                          generalize hwc : w5.drew = WC at *
                          clear hwc
                          have HB0 := hide bw
                          have HB1 := hide bW
                          have HKD := hide (unhide KD)
                          have HK1 := hide (unhide K1)
                          have HRR := hide (unhide HR)
                          have HHB := hide hbl
                          clear KD K1 HR bw bW HU
                          generalize wr.heap.size = BB at *
                          go_loopw [5] (fun i wx => ∃ j : Nat, j ≤ 0 ∧ i = .int .i64 j ∧ Hid (∀ q, q < j → decide ((l.getD q sltZ).used ≠ rk.used) = true) ∧ Below WC.heap.size WC wx) (fun i _ => 0 - (intOf i).toNat)
                          case atStart => exact ⟨0, Nat.zero_le _, rfl, hide (fun q hq => absurd hq (Nat.not_lt_zero _)), Below.refl _ _⟩
                          case round =>
                           obtain ⟨j, hj, rfl, hal, hx⟩ := hrel
                           have bw := below_next (unhide HB0) hx
                           have bW := below_next (unhide HB1) hx
                           have KD := hide (block_kept hx (unhide HKD))
                           have K1 := hide (block_kept hx (unhide HK1))
                           have HR := keptSs (unhide HRR) hx
                           by_cases hjk : j < 0
                           ·exact absurd hjk (Nat.not_lt_zero _)
                           ·obtain rfl : j = 0 := by omega
                            have HS2 := hide (unhide HFY (unhide hal))
                            go_wp2_with fail
                            exact ⟨⟨0 + 1, by omega, by go_num, hide (unhide hone (unhide HSK)), hide (unhide honf (unhide HS2)), bw⟩, by simp [intOf]; omega⟩
   ·obtain ⟨k0, hke⟩ : ∃ k0, k = k0 + 1 := ⟨k - 1, by omega⟩
    rw [decide_eq_false hk0, Bool.false_or, show k - 1 = k0 by omega] at HSI
    obtain ⟨b', off', vs', hbe, hbl', hp, vn', vr', hvs', hu'⟩ := (unhide HR0).here (k := k0) (by rw [unhide HN]; omega)
    simp only [Option.some.injEq, Addr.mk.injEq, and_true] at hbe
    obtain ⟨rfl, rfl⟩ := hbe
    subst hvs'
    obtain ⟨na', nc', rfl, _⟩ := hu'.name.form
    obtain ⟨ra', rc', rfl, _⟩ := hu'.rrs.form
    have HP := hide (range_below hp hbl0 ba)
    have HUP := hide (hu'.below ba)
    obtain ⟨c0, c1, c2, c3, c4, c5, c6⟩ := range7 hc
    have hs1 := (unhide HZS k0 (by omega)).name
    have hs2 := (unhide HZK).name
    have AHD := fun (w : World) (h1 : HasS2 w (.slice na' (l.getD k0 sltZ).name.length nc') (.slice ra' (l.getD k0 sltZ).rrs.length rc') (l.getD k0 sltZ)) (h2 : HasS2 w (.slice na (l.getD k sltZ).name.length nc) (.slice ra (l.getD k sltZ).rrs.length rc) (l.getD k sltZ)) => l10ahead_has h1 h2 hs1 hs2
    have hkp : (0 : Int) < (k : Nat) := by omega
    have hkpn : 0 < k := by omega
    have hsub : ((k : Nat) : Int) - 1 = (k0 : Nat) := by omega
    have hwr : IntKind.i64.wrap (k0 : Int) = (k0 : Nat) := wrap_small k0 (by omega)
    have hkm : (k0 : Int) < n := by omega
    have HKE := hide hke
    clear hc hp hu hu' hb bw0 hbl0 hbl' hke hk0 ba KR HR0 hs1 hs2
    generalize l.getD k sltZ = rk at *
    generalize l.getD k0 sltZ = rp at *
    generalize aheadB rp rk = AH at *
    replace AHD := hide AHD
    as_aux_lemma =>
     generalize nameOk rk.name = G1 at *
     generalize typeOk rk.type = G2 at *
     replace NO := hide NO
     replace TO := hide TO
     go_wp2_with fail
     clear c0 c1 c2 c3 c4 c5 c6 d0 d1 d2
     generalize wr.alloc (.cells #[.slice na rk.name.length nc, .int .i64 rk.type, .int .i64 rk.kind, .slice ra rk.rrs.length rc, .int .i64 rk.rank, .int .i64 rk.till, .int .i64 rk.used] 47) = WA at *
     have bd := below_drew (w := WA)
     replace HUP := hide ((unhide HUP).below bd)
     replace HP := hide (range_below (unhide HP) hbl bd)
     replace bw := below_next bw bd
     replace bW := below_next bW bd
     replace KD := hide (block_kept bd (unhide KD))
     replace K1 := hide (block_kept bd (unhide K1))
     replace HU := hide ((unhide HU).below bd)
     replace HR := hide (keptSs (unhide HR) bd)
     have hblN := Nat.lt_of_lt_of_le hbl bd.size
     clear bd hbl
     have hbl := hblN
     clear hblN
     refine startA (by kernel_rfl) ⟨by kernel_rfl, by kernel_rfl⟩ (fun w' => (w'.cell? ⟨w.heap.size, 0, none⟩ = some (.int .i64 now) ∧ w'.cell? ⟨w.heap.size, 1, none⟩ = some (.int .i64 turn) ∧ w'.cell? ⟨w.heap.size, 2, none⟩ = some (.slice (some ⟨b, off, none⟩) n ca)) ∧ (w'.cell? ⟨wr.heap.size, 0, none⟩ = some (.slice na rk.name.length nc) ∧ w'.cell? ⟨wr.heap.size, 1, none⟩ = some (.int .i64 rk.type) ∧ w'.cell? ⟨wr.heap.size, 2, none⟩ = some (.int .i64 rk.kind) ∧ w'.cell? ⟨wr.heap.size, 3, none⟩ = some (.slice ra rk.rrs.length rc) ∧ w'.cell? ⟨wr.heap.size, 4, none⟩ = some (.int .i64 rk.rank) ∧ w'.cell? ⟨wr.heap.size, 5, none⟩ = some (.int .i64 rk.till) ∧ w'.cell? ⟨wr.heap.size, 6, none⟩ = some (.int .i64 rk.used)) ∧ (w'.cell? ⟨b, off + k0 * 7, none⟩ = some (.slice na' rp.name.length nc') ∧ w'.cell? ⟨b, off + k0 * 7 + 1, none⟩ = some (.int .i64 rp.type) ∧ w'.cell? ⟨b, off + k0 * 7 + 2, none⟩ = some (.int .i64 rp.kind) ∧ w'.cell? ⟨b, off + k0 * 7 + 3, none⟩ = some (.slice ra' rp.rrs.length rc') ∧ w'.cell? ⟨b, off + k0 * 7 + 4, none⟩ = some (.int .i64 rp.rank) ∧ w'.cell? ⟨b, off + k0 * 7 + 5, none⟩ = some (.int .i64 rp.till) ∧ w'.cell? ⟨b, off + k0 * 7 + 6, none⟩ = some (.int .i64 rp.used))) ⟨cells3 (unhide KD), cells7 (unhide K1), range7 (unhide HP)⟩ (fun hA hHeld => ?_)
     replace hA := hide hA
     repeat ((first | (refine takeA ?_ (unhide hA) rfl rfl (by rfl) (fun _ _ _ h => h) ?_ hHeld ?_; rotate_left; · (intro w hSw; (try dsimp only at hSw); go_simp <;> with_reducible rfl)) | refine skipA (unhide hA) rfl (by rfl) (fun _ _ _ h => h) hHeld ?_); simp only [Act.put, List.setIfInBounds_toArray, List.set_cons_zero, List.set_cons_succ, Nat.reduceAdd])
     refine runA (unhide hA) rfl (by kernel_rfl) (by kernel_rfl) (fun K hK => ?_)
     have HK := hide hK
     clear hK hHeld
     go_simp
     refine (unhide NO _ (unhide HU).name).mono ?_
     rintro e w1 ⟨rfl, b1⟩
     replace HUP := hide ((unhide HUP).below b1)
     replace HP := hide (range_below (unhide HP) hbl b1)
     replace bw := below_next bw b1
     replace bW := below_next bW b1
     replace KD := hide (block_kept b1 (unhide KD))
     replace K1 := hide (block_kept b1 (unhide K1))
     replace HU := hide ((unhide HU).below b1)
     replace HR := hide (keptSs (unhide HR) b1)
     have hblN := Nat.lt_of_lt_of_le hbl b1.size
     clear b1 hbl
     have hbl := hblN
     clear hblN
     refine (unhide HK).out _ _ ⟨cells3 (unhide KD), cells7 (unhide K1), range7 (unhide HP)⟩ (fun hHeld => ?_)
     clear HK K
     simp only [Nat.reduceAdd]
     cases G1 with
     | false =>
      as_aux_lemma =>
       have hR := unhide HXK (by rw [unhide HSI]; simp)
       subst hR
       ((first | (refine takeA ?_ (unhide hA) rfl rfl (by rfl) (fun _ _ _ h => h) ?_ hHeld ?_; rotate_left; · (intro w hSw; (try dsimp only at hSw); go_simp <;> with_reducible rfl)) | refine skipA (unhide hA) rfl (by rfl) (fun _ _ _ h => h) hHeld ?_); simp only [Act.put, List.setIfInBounds_toArray, List.set_cons_zero, List.set_cons_succ, Nat.reduceAdd])
       refine leaf_all (unhide hA) (fun _ _ _ _ _ h => h) hHeld [(46, some true), (47, none), (48, none), (49, none), (50, none), (51, some true), (52, some true), (53, none), (54, none), (55, none), (56, some true), (57, some true), (58, none), (59, none), (60, none), (61, some true), (62, some true), (63, none), (64, none), (65, none), (66, some true), (67, some true), (68, none), (69, none), (70, none), (71, some true), (72, some true), (73, none), (74, none), (75, none), (76, none), (77, none), (78, some true), (79, some true), (80, none), (81, none), (82, none), (83, none), (84, none), (85, none), (86, some true), (87, some true), (88, none), (89, none), (90, none), (91, some true), (92, some true), (93, none), (94, none), (95, none), (96, none), (97, none), (98, some true), (99, some true), (100, none), (101, none), (102, none), (103, none), (104, none), (105, none), (106, none), (107, none), (108, none), (109, none), (110, none), (111, none), (112, none), (113, some true)] (by kernel_rfl) ?_
       simp only [putsF, valF, List.setIfInBounds_toArray, List.set_cons_zero, List.set_cons_succ]
       clear hHeld hA
       go_wp2_with fail
       go_ret
       exact ⟨rfl, bW⟩
     | true =>
      repeat ((first | (refine takeA ?_ (unhide hA) rfl rfl (by rfl) (fun _ _ _ h => h) ?_ hHeld ?_; rotate_left; · (intro w hSw; (try dsimp only at hSw); go_simp <;> with_reducible rfl)) | refine skipA (unhide hA) rfl (by rfl) (fun _ _ _ h => h) hHeld ?_); simp only [Act.put, List.setIfInBounds_toArray, List.set_cons_zero, List.set_cons_succ, Nat.reduceAdd])
      refine runA (unhide hA) rfl (by kernel_rfl) (by kernel_rfl) (fun K hK => ?_)
      have HK := hide hK
      clear hK hHeld
      go_simp
      refine (unhide TO _).mono ?_
      rintro e w2 ⟨rfl, rfl⟩
      refine (unhide HK).out _ _ ⟨cells3 (unhide KD), cells7 (unhide K1), range7 (unhide HP)⟩ (fun hHeld => ?_)
      clear HK K
      simp only [Nat.reduceAdd]
      cases G2 with
      | false =>
       as_aux_lemma =>
        have hR := unhide HXK (by rw [unhide HSI]; simp)
        subst hR
        ((first | (refine takeA ?_ (unhide hA) rfl rfl (by rfl) (fun _ _ _ h => h) ?_ hHeld ?_; rotate_left; · (intro w hSw; (try dsimp only at hSw); go_simp <;> with_reducible rfl)) | refine skipA (unhide hA) rfl (by rfl) (fun _ _ _ h => h) hHeld ?_); simp only [Act.put, List.setIfInBounds_toArray, List.set_cons_zero, List.set_cons_succ, Nat.reduceAdd])
        refine leaf_all (unhide hA) (fun _ _ _ _ _ h => h) hHeld [(51, some true), (52, some true), (53, none), (54, none), (55, none), (56, some true), (57, some true), (58, none), (59, none), (60, none), (61, some true), (62, some true), (63, none), (64, none), (65, none), (66, some true), (67, some true), (68, none), (69, none), (70, none), (71, some true), (72, some true), (73, none), (74, none), (75, none), (76, none), (77, none), (78, some true), (79, some true), (80, none), (81, none), (82, none), (83, none), (84, none), (85, none), (86, some true), (87, some true), (88, none), (89, none), (90, none), (91, some true), (92, some true), (93, none), (94, none), (95, none), (96, none), (97, none), (98, some true), (99, some true), (100, none), (101, none), (102, none), (103, none), (104, none), (105, none), (106, none), (107, none), (108, none), (109, none), (110, none), (111, none), (112, none), (113, some true)] (by kernel_rfl) ?_
        simp only [putsF, valF, List.setIfInBounds_toArray, List.set_cons_zero, List.set_cons_succ]
        clear hHeld hA
        go_wp2_with fail
        go_ret
        exact ⟨rfl, bW⟩
      | true =>
       repeat ((first | (refine takeA ?_ (unhide hA) rfl rfl (by rfl) (fun _ _ _ h => h) ?_ hHeld ?_; rotate_left; · (intro w hSw; (try dsimp only at hSw); go_simp <;> with_reducible rfl)) | refine skipA (unhide hA) rfl (by rfl) (fun _ _ _ h => h) hHeld ?_); simp only [Act.put, List.setIfInBounds_toArray, List.set_cons_zero, List.set_cons_succ, Nat.reduceAdd])
       by_cases k1 : rk.kind < 1
       ·as_aux_lemma =>
         rw [decide_eq_true k1]
         have hR := unhide HXK (by rw [unhide HSI]; rw [holdsB_out (.inl k1)]; simp)
         subst hR
         refine leaf_all (unhide hA) (fun _ _ _ _ _ h => h) hHeld [(58, none), (59, none), (60, none), (61, some true), (62, some true), (63, none), (64, none), (65, none), (66, some true), (67, some true), (68, none), (69, none), (70, none), (71, some true), (72, some true), (73, none), (74, none), (75, none), (76, none), (77, none), (78, some true), (79, some true), (80, none), (81, none), (82, none), (83, none), (84, none), (85, none), (86, some true), (87, some true), (88, none), (89, none), (90, none), (91, some true), (92, some true), (93, none), (94, none), (95, none), (96, none), (97, none), (98, some true), (99, some true), (100, none), (101, none), (102, none), (103, none), (104, none), (105, none), (106, none), (107, none), (108, none), (109, none), (110, none), (111, none), (112, none), (113, some true)] (by kernel_rfl) ?_
         simp only [putsF, valF, List.setIfInBounds_toArray, List.set_cons_zero, List.set_cons_succ]
         clear hHeld hA
         go_wp2_with fail
         go_ret
         exact ⟨rfl, bW⟩
       ·as_aux_lemma =>
         rw [decide_eq_false k1]
         have k1n := hide k1
         repeat ((first | (refine takeA ?_ (unhide hA) rfl rfl (by rfl) (fun _ _ _ h => h) ?_ hHeld ?_; rotate_left; · (intro w hSw; (try dsimp only at hSw); go_simp <;> with_reducible rfl)) | refine skipA (unhide hA) rfl (by rfl) (fun _ _ _ h => h) hHeld ?_); simp only [Act.put, List.setIfInBounds_toArray, List.set_cons_zero, List.set_cons_succ, Nat.reduceAdd])
         by_cases k3 : 3 < rk.kind
         ·as_aux_lemma =>
           rw [decide_eq_true k3]
           have hR := unhide HXK (by rw [unhide HSI]; rw [holdsB_out (.inr k3)]; simp)
           subst hR
           refine leaf_all (unhide hA) (fun _ _ _ _ _ h => h) hHeld [(63, none), (64, none), (65, none), (66, some true), (67, some true), (68, none), (69, none), (70, none), (71, some true), (72, some true), (73, none), (74, none), (75, none), (76, none), (77, none), (78, some true), (79, some true), (80, none), (81, none), (82, none), (83, none), (84, none), (85, none), (86, some true), (87, some true), (88, none), (89, none), (90, none), (91, some true), (92, some true), (93, none), (94, none), (95, none), (96, none), (97, none), (98, some true), (99, some true), (100, none), (101, none), (102, none), (103, none), (104, none), (105, none), (106, none), (107, none), (108, none), (109, none), (110, none), (111, none), (112, none), (113, some true)] (by kernel_rfl) ?_
           simp only [putsF, valF, List.setIfInBounds_toArray, List.set_cons_zero, List.set_cons_succ]
           clear hHeld hA
           go_wp2_with fail
           go_ret
           exact ⟨rfl, bW⟩
         ·as_aux_lemma =>
           rw [decide_eq_false k3]
           have k3n := hide k3
           repeat ((first | (refine takeA ?_ (unhide hA) rfl rfl (by rfl) (fun _ _ _ h => h) ?_ hHeld ?_; rotate_left; · (intro w hSw; (try dsimp only at hSw); go_simp <;> with_reducible rfl)) | refine skipA (unhide hA) rfl (by rfl) (fun _ _ _ h => h) hHeld ?_); simp only [Act.put, List.setIfInBounds_toArray, List.set_cons_zero, List.set_cons_succ, Nat.reduceAdd])
           by_cases r0 : rk.rank < 0
           ·as_aux_lemma =>
             rw [decide_eq_true r0]
             have hR := unhide HXK (by rw [unhide HSI]; rw [decide_eq_false (p := 0 ≤ rk.rank ∧ rk.rank ≤ 3) (by omega)]; simp)
             subst hR
             refine leaf_all (unhide hA) (fun _ _ _ _ _ h => h) hHeld [(68, none), (69, none), (70, none), (71, some true), (72, some true), (73, none), (74, none), (75, none), (76, none), (77, none), (78, some true), (79, some true), (80, none), (81, none), (82, none), (83, none), (84, none), (85, none), (86, some true), (87, some true), (88, none), (89, none), (90, none), (91, some true), (92, some true), (93, none), (94, none), (95, none), (96, none), (97, none), (98, some true), (99, some true), (100, none), (101, none), (102, none), (103, none), (104, none), (105, none), (106, none), (107, none), (108, none), (109, none), (110, none), (111, none), (112, none), (113, some true)] (by kernel_rfl) ?_
             simp only [putsF, valF, List.setIfInBounds_toArray, List.set_cons_zero, List.set_cons_succ]
             clear hHeld hA
             go_wp2_with fail
             go_ret
             exact ⟨rfl, bW⟩
           ·as_aux_lemma =>
             rw [decide_eq_false r0]
             have r0n := hide r0
             repeat ((first | (refine takeA ?_ (unhide hA) rfl rfl (by rfl) (fun _ _ _ h => h) ?_ hHeld ?_; rotate_left; · (intro w hSw; (try dsimp only at hSw); go_simp <;> with_reducible rfl)) | refine skipA (unhide hA) rfl (by rfl) (fun _ _ _ h => h) hHeld ?_); simp only [Act.put, List.setIfInBounds_toArray, List.set_cons_zero, List.set_cons_succ, Nat.reduceAdd])
             by_cases r3 : 3 < rk.rank
             ·as_aux_lemma =>
               rw [decide_eq_true r3]
               have hR := unhide HXK (by rw [unhide HSI]; rw [decide_eq_false (p := 0 ≤ rk.rank ∧ rk.rank ≤ 3) (by omega)]; simp)
               subst hR
               refine leaf_all (unhide hA) (fun _ _ _ _ _ h => h) hHeld [(73, none), (74, none), (75, none), (76, none), (77, none), (78, some true), (79, some true), (80, none), (81, none), (82, none), (83, none), (84, none), (85, none), (86, some true), (87, some true), (88, none), (89, none), (90, none), (91, some true), (92, some true), (93, none), (94, none), (95, none), (96, none), (97, none), (98, some true), (99, some true), (100, none), (101, none), (102, none), (103, none), (104, none), (105, none), (106, none), (107, none), (108, none), (109, none), (110, none), (111, none), (112, none), (113, some true)] (by kernel_rfl) ?_
               simp only [putsF, valF, List.setIfInBounds_toArray, List.set_cons_zero, List.set_cons_succ]
               clear hHeld hA
               go_wp2_with fail
               go_ret
               exact ⟨rfl, bW⟩
             ·as_aux_lemma =>
               rw [decide_eq_false r3]
               have r3n := hide r3
               repeat ((first | (refine takeA ?_ (unhide hA) rfl rfl (by rfl) (fun _ _ _ h => h) ?_ hHeld ?_; rotate_left; · (intro w hSw; (try dsimp only at hSw); go_simp <;> with_reducible rfl)) | refine skipA (unhide hA) rfl (by rfl) (fun _ _ _ h => h) hHeld ?_); simp only [Act.put, List.setIfInBounds_toArray, List.set_cons_zero, List.set_cons_succ, Nat.reduceAdd])
               by_cases t1 : rk.till ≤ now
               ·as_aux_lemma =>
                 rw [decide_eq_true t1]
                 have hR := unhide HXK (by rw [unhide HSI]; rw [decide_eq_false (p := now < rk.till) (by omega)]; simp)
                 subst hR
                 refine leaf_all (unhide hA) (fun _ _ _ _ _ h => h) hHeld [(80, none), (81, none), (82, none), (83, none), (84, none), (85, none), (86, some true), (87, some true), (88, none), (89, none), (90, none), (91, some true), (92, some true), (93, none), (94, none), (95, none), (96, none), (97, none), (98, some true), (99, some true), (100, none), (101, none), (102, none), (103, none), (104, none), (105, none), (106, none), (107, none), (108, none), (109, none), (110, none), (111, none), (112, none), (113, some true)] (by kernel_rfl) ?_
                 simp only [putsF, valF, List.setIfInBounds_toArray, List.set_cons_zero, List.set_cons_succ]
                 clear hHeld hA
                 go_wp2_with fail
                 go_ret
                 exact ⟨rfl, bW⟩
               ·as_aux_lemma =>
                 rw [decide_eq_false t1]
                 have t1n := hide t1
                 repeat ((first | (refine takeA ?_ (unhide hA) rfl rfl (by rfl) (fun _ _ _ h => h) ?_ hHeld ?_; rotate_left; · (intro w hSw; (try dsimp only at hSw); go_simp <;> with_reducible rfl)) | refine skipA (unhide hA) rfl (by rfl) (fun _ _ _ h => h) hHeld ?_); simp only [Act.put, List.setIfInBounds_toArray, List.set_cons_zero, List.set_cons_succ, Nat.reduceAdd])
                 by_cases t2 : now + 1000 < rk.till
                 ·as_aux_lemma =>
                   rw [decide_eq_true t2]
                   have hR := unhide HXK (by rw [unhide HSI]; rw [decide_eq_false (p := rk.till ≤ now + 1000) (by omega)]; simp)
                   subst hR
                   refine leaf_all (unhide hA) (fun _ _ _ _ _ h => h) hHeld [(88, none), (89, none), (90, none), (91, some true), (92, some true), (93, none), (94, none), (95, none), (96, none), (97, none), (98, some true), (99, some true), (100, none), (101, none), (102, none), (103, none), (104, none), (105, none), (106, none), (107, none), (108, none), (109, none), (110, none), (111, none), (112, none), (113, some true)] (by kernel_rfl) ?_
                   simp only [putsF, valF, List.setIfInBounds_toArray, List.set_cons_zero, List.set_cons_succ]
                   clear hHeld hA
                   go_wp2_with fail
                   go_ret
                   exact ⟨rfl, bW⟩
                 ·as_aux_lemma =>
                   rw [decide_eq_false t2]
                   have t2n := hide t2
                   repeat ((first | (refine takeA ?_ (unhide hA) rfl rfl (by rfl) (fun _ _ _ h => h) ?_ hHeld ?_; rotate_left; · (intro w hSw; (try dsimp only at hSw); go_simp <;> with_reducible rfl)) | refine skipA (unhide hA) rfl (by rfl) (fun _ _ _ h => h) hHeld ?_); simp only [Act.put, List.setIfInBounds_toArray, List.set_cons_zero, List.set_cons_succ, Nat.reduceAdd])
                   by_cases u1 : rk.used < 1
                   ·as_aux_lemma =>
                     rw [decide_eq_true u1]
                     have hR := unhide HXK (by rw [unhide HSI]; rw [decide_eq_false (p := 1 ≤ rk.used) (by omega)]; simp)
                     subst hR
                     refine leaf_all (unhide hA) (fun _ _ _ _ _ h => h) hHeld [(93, none), (94, none), (95, none), (96, none), (97, none), (98, some true), (99, some true), (100, none), (101, none), (102, none), (103, none), (104, none), (105, none), (106, none), (107, none), (108, none), (109, none), (110, none), (111, none), (112, none), (113, some true)] (by kernel_rfl) ?_
                     simp only [putsF, valF, List.setIfInBounds_toArray, List.set_cons_zero, List.set_cons_succ]
                     clear hHeld hA
                     go_wp2_with fail
                     go_ret
                     exact ⟨rfl, bW⟩
                   ·as_aux_lemma =>
                     rw [decide_eq_false u1]
                     have u1n := hide u1
                     repeat ((first | (refine takeA ?_ (unhide hA) rfl rfl (by rfl) (fun _ _ _ h => h) ?_ hHeld ?_; rotate_left; · (intro w hSw; (try dsimp only at hSw); go_simp <;> with_reducible rfl)) | refine skipA (unhide hA) rfl (by rfl) (fun _ _ _ h => h) hHeld ?_); simp only [Act.put, List.setIfInBounds_toArray, List.set_cons_zero, List.set_cons_succ, Nat.reduceAdd])
                     by_cases u2 : turn < rk.used
                     ·as_aux_lemma =>
                       rw [decide_eq_true u2]
                       have hR := unhide HXK (by rw [unhide HSI]; rw [decide_eq_false (p := rk.used ≤ turn) (by omega)]; simp)
                       subst hR
                       refine leaf_all (unhide hA) (fun _ _ _ _ _ h => h) hHeld [(100, none), (101, none), (102, none), (103, none), (104, none), (105, none), (106, none), (107, none), (108, none), (109, none), (110, none), (111, none), (112, none), (113, some true)] (by kernel_rfl) ?_
                       simp only [putsF, valF, List.setIfInBounds_toArray, List.set_cons_zero, List.set_cons_succ]
                       clear hHeld hA
                       go_wp2_with fail
                       go_ret
                       exact ⟨rfl, bW⟩
                     ·as_aux_lemma =>
                       rw [decide_eq_false u2]
                       have u2n := hide u2
                       repeat ((first | (refine takeA ?_ (unhide hA) rfl rfl (by rfl) (fun _ _ _ h => h) ?_ hHeld ?_; rotate_left; · (intro w hSw; (try dsimp only at hSw); go_simp <;> with_reducible rfl)) | refine skipA (unhide hA) rfl (by rfl) (fun _ _ _ h => h) hHeld ?_); simp only [Act.put, List.setIfInBounds_toArray, List.set_cons_zero, List.set_cons_succ, Nat.reduceAdd])
                       rw [decide_eq_true (p := 0 ≤ rk.rank ∧ rk.rank ≤ 3) (by omega), decide_eq_true (p := now < rk.till) (by omega), decide_eq_true (p := rk.till ≤ now + 1000) (by omega), decide_eq_true (p := 1 ≤ rk.used) (by omega), decide_eq_true (p := rk.used ≤ turn) (by omega)] at HSI
                       simp only [Bool.true_and, Bool.and_true] at HSI
                       refine runA (unhide hA) rfl (by kernel_rfl) (by kernel_rfl) (fun K hK => ?_)
                       have HK := hide hK
                       clear hK hHeld
                       go_simp
                       refine (unhide AHD _ (unhide HUP) (unhide HU)).mono ?_
                       rintro e w3 ⟨rfl, b3⟩
                       replace HUP := hide ((unhide HUP).below b3)
                       replace HP := hide (range_below (unhide HP) hbl b3)
                       replace bw := below_next bw b3
                       replace bW := below_next bW b3
                       replace KD := hide (block_kept b3 (unhide KD))
                       replace K1 := hide (block_kept b3 (unhide K1))
                       replace HU := hide ((unhide HU).below b3)
                       replace HR := hide (keptSs (unhide HR) b3)
                       have hblN := Nat.lt_of_lt_of_le hbl b3.size
                       clear b3 hbl
                       have hbl := hblN
                       clear hblN
                       refine (unhide HK).out _ _ ⟨cells3 (unhide KD), cells7 (unhide K1), range7 (unhide HP)⟩ (fun hHeld => ?_)
                       clear HK K
                       simp only [Nat.reduceAdd]
                       cases AH with
                       | false =>
                        as_aux_lemma =>
                         have hR := unhide HXK (by rw [unhide HSI]; simp)
                         subst hR
                         ((first | (refine takeA ?_ (unhide hA) rfl rfl (by rfl) (fun _ _ _ h => h) ?_ hHeld ?_; rotate_left; · (intro w hSw; (try dsimp only at hSw); go_simp <;> with_reducible rfl)) | refine skipA (unhide hA) rfl (by rfl) (fun _ _ _ h => h) hHeld ?_); simp only [Act.put, List.setIfInBounds_toArray, List.set_cons_zero, List.set_cons_succ, Nat.reduceAdd])
                         refine leaf_all (unhide hA) (fun _ _ _ _ _ h => h) hHeld [(112, some true), (113, some true)] (by kernel_rfl) ?_
                         simp only [putsF, valF, List.setIfInBounds_toArray, List.set_cons_zero, List.set_cons_succ]
                         clear hHeld hA
                         go_wp2_with fail
                         go_ret
                         exact ⟨rfl, bW⟩
                       | true =>
                        try simp only [Bool.and_true] at HSI
                        repeat ((first | (refine takeA ?_ (unhide hA) rfl rfl (by rfl) (fun _ _ _ h => h) ?_ hHeld ?_; rotate_left; · (intro w hSw; (try dsimp only at hSw); go_simp <;> with_reducible rfl)) | refine skipA (unhide hA) rfl (by rfl) (fun _ _ _ h => h) hHeld ?_); simp only [Act.put, List.setIfInBounds_toArray, List.set_cons_zero, List.set_cons_succ, Nat.reduceAdd])
                        refine doneA rfl ?_
                        clear hHeld hA
                        clear hwr hsub
                        go_wp2_with fail
                        as_aux_lemma =>
                         have LS := fun (w : World) (h : HasRs w (.slice ra rk.rrs.length rc) rk.rrs) => l10set_has h (fun q hq => ((unhide HZK).rrss q hq).name)
                         by_cases q1 : rk.kind = 1
                         ·have e1 : (rk.kind == 1) = true := by rw [beq_iff_eq]; exact q1
                          have e1' : (rk.kind != 1) = false := by simpa using q1
                          rw [holdsB_one q1] at HSI
                          clear q1
                          cases hG : setOk rk.rrs with
                          | false =>
                           rw [hG] at LS HSI
                           replace LS := hide LS
                           have hR := unhide HXK (by rw [unhide HSI, Bool.false_and])
                           subst hR
                           have bd := below_drew (w := w3)
                           replace bw := below_next bw bd
                           replace bW := below_next bW bd
                           replace KD := hide (block_kept bd (unhide KD))
                           replace K1 := hide (block_kept bd (unhide K1))
                           replace HU := hide ((unhide HU).below bd)
                           replace HR := hide (keptSs (unhide HR) bd)
                           have hblN := Nat.lt_of_lt_of_le hbl bd.size
                           clear bd hbl
                           have hbl := hblN
                           clear hblN
                           refine startA (by kernel_rfl) ⟨by kernel_rfl, by kernel_rfl⟩ (fun w' => (w'.cell? ⟨wr.heap.size, 0, none⟩ = some (.slice na rk.name.length nc) ∧ w'.cell? ⟨wr.heap.size, 1, none⟩ = some (.int .i64 rk.type) ∧ w'.cell? ⟨wr.heap.size, 2, none⟩ = some (.int .i64 rk.kind) ∧ w'.cell? ⟨wr.heap.size, 3, none⟩ = some (.slice ra rk.rrs.length rc) ∧ w'.cell? ⟨wr.heap.size, 4, none⟩ = some (.int .i64 rk.rank) ∧ w'.cell? ⟨wr.heap.size, 5, none⟩ = some (.int .i64 rk.till) ∧ w'.cell? ⟨wr.heap.size, 6, none⟩ = some (.int .i64 rk.used))) (cells7 (unhide K1)) (fun hA hHeld => ?_)
                           replace hA := hide hA
                           repeat ((first | (refine takeA ?_ (unhide hA) rfl rfl (by rfl) (fun _ _ _ h => h) ?_ hHeld ?_; rotate_left; · (intro w hSw; (try dsimp only at hSw); go_simp <;> with_reducible rfl)) | refine skipA (unhide hA) rfl (by rfl) (fun _ _ _ h => h) hHeld ?_); simp only [Act.put, List.setIfInBounds_toArray, List.set_cons_zero, List.set_cons_succ, Nat.reduceAdd])
                           refine runA (unhide hA) rfl (by kernel_rfl) (by kernel_rfl) (fun K hK => ?_)
                           have HK := hide hK
                           clear hK hHeld
                           go_simp
                           refine (unhide LS _ (unhide HU).rrs).mono ?_
                           rintro e w5 ⟨rfl, b5⟩
                           refine (unhide HK).out _ _ (cells7 (block_kept b5 (unhide K1))) (fun hHeld => ?_)
                           clear HK K
                           simp only [Nat.reduceAdd]
                           repeat ((first | (refine takeA ?_ (unhide hA) rfl rfl (by rfl) (fun _ _ _ h => h) ?_ hHeld ?_; rotate_left; · (intro w hSw; (try dsimp only at hSw); go_simp <;> with_reducible rfl)) | refine skipA (unhide hA) rfl (by rfl) (fun _ _ _ h => h) hHeld ?_); simp only [Act.put, List.setIfInBounds_toArray, List.set_cons_zero, List.set_cons_succ, Nat.reduceAdd])
                           refine doneA rfl ?_
                           clear hHeld hA
                           replace bw := below_next bw b5
                           replace bW := below_next bW b5
                           replace KD := hide (block_kept b5 (unhide KD))
                           replace K1 := hide (block_kept b5 (unhide K1))
                           replace HU := hide ((unhide HU).below b5)
                           replace HR := hide (keptSs (unhide HR) b5)
                           have hblN := Nat.lt_of_lt_of_le hbl b5.size
                           clear b5 hbl
                           have hbl := hblN
                           clear hblN
                           obtain ⟨d0, d1, d2⟩ := cells3 (unhide KD)
                           obtain ⟨e0, e1, e2, e3, e4, e5, e6⟩ := cells7 (unhide K1)
                           go_wp2_with fail
                           clear d0 d1 d2 e0 e1 e2 e3 e4 e5 e6
                           go_ret
                           exact ⟨rfl, bW⟩
                          | true =>
                           rw [hG] at LS HSI
                           replace LS := hide LS
                           rw [Bool.true_and] at HSI
                           have hl1 := (setOk_rrs hG).2
                           clear hG
                           have bd := below_drew (w := w3)
                           replace bw := below_next bw bd
                           replace bW := below_next bW bd
                           replace KD := hide (block_kept bd (unhide KD))
                           replace K1 := hide (block_kept bd (unhide K1))
                           replace HU := hide ((unhide HU).below bd)
                           replace HR := hide (keptSs (unhide HR) bd)
                           have hblN := Nat.lt_of_lt_of_le hbl bd.size
                           clear bd hbl
                           have hbl := hblN
                           clear hblN
                           refine startA (by kernel_rfl) ⟨by kernel_rfl, by kernel_rfl⟩ (fun w' => (w'.cell? ⟨wr.heap.size, 0, none⟩ = some (.slice na rk.name.length nc) ∧ w'.cell? ⟨wr.heap.size, 1, none⟩ = some (.int .i64 rk.type) ∧ w'.cell? ⟨wr.heap.size, 2, none⟩ = some (.int .i64 rk.kind) ∧ w'.cell? ⟨wr.heap.size, 3, none⟩ = some (.slice ra rk.rrs.length rc) ∧ w'.cell? ⟨wr.heap.size, 4, none⟩ = some (.int .i64 rk.rank) ∧ w'.cell? ⟨wr.heap.size, 5, none⟩ = some (.int .i64 rk.till) ∧ w'.cell? ⟨wr.heap.size, 6, none⟩ = some (.int .i64 rk.used))) (cells7 (unhide K1)) (fun hA hHeld => ?_)
                           replace hA := hide hA
                           repeat ((first | (refine takeA ?_ (unhide hA) rfl rfl (by rfl) (fun _ _ _ h => h) ?_ hHeld ?_; rotate_left; · (intro w hSw; (try dsimp only at hSw); go_simp <;> with_reducible rfl)) | refine skipA (unhide hA) rfl (by rfl) (fun _ _ _ h => h) hHeld ?_); simp only [Act.put, List.setIfInBounds_toArray, List.set_cons_zero, List.set_cons_succ, Nat.reduceAdd])
                           refine runA (unhide hA) rfl (by kernel_rfl) (by kernel_rfl) (fun K hK => ?_)
                           have HK := hide hK
                           clear hK hHeld
                           go_simp
                           refine (unhide LS _ (unhide HU).rrs).mono ?_
                           rintro e w5 ⟨rfl, b5⟩
                           refine (unhide HK).out _ _ (cells7 (block_kept b5 (unhide K1))) (fun hHeld => ?_)
                           clear HK K
                           simp only [Nat.reduceAdd]
                           repeat ((first | (refine takeA ?_ (unhide hA) rfl rfl (by rfl) (fun _ _ _ h => h) ?_ hHeld ?_; rotate_left; · (intro w hSw; (try dsimp only at hSw); go_simp <;> with_reducible rfl)) | refine skipA (unhide hA) rfl (by rfl) (fun _ _ _ h => h) hHeld ?_); simp only [Act.put, List.setIfInBounds_toArray, List.set_cons_zero, List.set_cons_succ, Nat.reduceAdd])
                           refine doneA rfl ?_
                           clear hHeld hA
                           replace bw := below_next bw b5
                           replace bW := below_next bW b5
                           replace KD := hide (block_kept b5 (unhide KD))
                           replace K1 := hide (block_kept b5 (unhide K1))
                           replace HU := hide ((unhide HU).below b5)
                           replace HR := hide (keptSs (unhide HR) b5)
                           have hblN := Nat.lt_of_lt_of_le hbl b5.size
                           clear b5 hbl
                           have hbl := hblN
                           clear hblN
                           obtain ⟨d0, d1, d2⟩ := cells3 (unhide KD)
                           obtain ⟨e0, e1, e2, e3, e4, e5, e6⟩ := cells7 (unhide K1)
                           go_wp2_with fail
                           clear d0 d1 d2 e0 e1 e2 e3 e4 e5 e6
                           obtain ⟨br, offr, na0, nc0, ta0, tc0, xa0, xc0, ia0, ic0, rfl, hbr, hz, hu0⟩ := (unhide HU).rrs.here (k := 0) (by omega)
                           rw [Nat.zero_mul, Nat.add_zero] at hz
                           have hs0 := ((unhide HZK).rrss 0 (by omega)).name
                           have hsk := (unhide HZK).name
                           have hnr : 0 < rk.rrs.length := by omega
                           have LC := fun (w : World) (h1 : HasL w (.slice na0 (rk.rrs.getD 0 recZ).name.length nc0) (rk.rrs.getD 0 recZ).name) (h2 : HasL w (.slice na rk.name.length nc) rk.name) => l2cmp_has h1 h2 hs0 hsk
                           have bd := below_drew (w := w5)
                           have HZ := hide (range_below hz hbr bd)
                           have HU0 := hide (hu0.below bd)
                           have hbrN := Nat.lt_of_lt_of_le hbr bd.size
                           clear hz hu0 hs0 hsk hbr hl1
                           have hbr := hbrN
                           clear hbrN
                           replace bw := below_next bw bd
                           replace bW := below_next bW bd
                           replace KD := hide (block_kept bd (unhide KD))
                           replace K1 := hide (block_kept bd (unhide K1))
                           replace HU := hide ((unhide HU).below bd)
                           replace HR := hide (keptSs (unhide HR) bd)
                           have hblN := Nat.lt_of_lt_of_le hbl bd.size
                           clear bd hbl
                           have hbl := hblN
                           clear hblN
                           generalize rk.rrs.getD 0 recZ = r0 at *
                           generalize cmpN r0.name rk.name = N at *
                           generalize rk.rrs.length = m at *
                           replace LC := hide LC
                           by_cases hN : N = 0
                           rotate_left
                           ·have qN : (N != 0) = true := by simpa using hN
                            have hR := unhide HXK (by rw [unhide HSI, decide_eq_false hN, Bool.and_false])
                            subst hR
                            clear hN
                            refine startA (by kernel_rfl) ⟨by kernel_rfl, by kernel_rfl⟩ (fun w' => (w'.cell? ⟨wr.heap.size, 0, none⟩ = some (.slice na rk.name.length nc) ∧ w'.cell? ⟨wr.heap.size, 1, none⟩ = some (.int .i64 rk.type) ∧ w'.cell? ⟨wr.heap.size, 2, none⟩ = some (.int .i64 rk.kind) ∧ w'.cell? ⟨wr.heap.size, 3, none⟩ = some (.slice (some ⟨br, offr, none⟩) m rc) ∧ w'.cell? ⟨wr.heap.size, 4, none⟩ = some (.int .i64 rk.rank) ∧ w'.cell? ⟨wr.heap.size, 5, none⟩ = some (.int .i64 rk.till) ∧ w'.cell? ⟨wr.heap.size, 6, none⟩ = some (.int .i64 rk.used)) ∧ (w'.cell? ⟨br, offr, none⟩ = some (.slice na0 r0.name.length nc0) ∧ w'.cell? ⟨br, offr + 1, none⟩ = some (.int .i64 r0.type) ∧ w'.cell? ⟨br, offr + 2, none⟩ = some (.int .i64 r0.ttl) ∧ w'.cell? ⟨br, offr + 3, none⟩ = some (.int .i64 r0.addr) ∧ w'.cell? ⟨br, offr + 4, none⟩ = some (.slice ta0 r0.to.length tc0) ∧ w'.cell? ⟨br, offr + 5, none⟩ = some (.slice xa0 r0.text.length xc0) ∧ w'.cell? ⟨br, offr + 6, none⟩ = some (.slice ia0 r0.nums.length ic0))) ⟨cells7 (unhide K1), range7 (unhide HZ)⟩ (fun hA hHeld => ?_)
                            replace hA := hide hA
                            repeat ((first | (refine takeA ?_ (unhide hA) rfl rfl (by rfl) (fun _ _ _ h => h) ?_ hHeld ?_; rotate_left; · (intro w hSw; (try dsimp only at hSw); go_simp <;> with_reducible rfl)) | refine skipA (unhide hA) rfl (by rfl) (fun _ _ _ h => h) hHeld ?_); simp only [Act.put, List.setIfInBounds_toArray, List.set_cons_zero, List.set_cons_succ, Nat.reduceAdd])
                            refine runA (unhide hA) rfl (by kernel_rfl) (by kernel_rfl) (fun K hK => ?_)
                            have HK := hide hK
                            clear hK hHeld
                            go_simp
                            refine (unhide LC _ (unhide HU0).name (unhide HU).name).mono ?_
                            rintro e w6 ⟨rfl, b6⟩
                            refine (unhide HK).out _ _ ⟨cells7 (block_kept b6 (unhide K1)), range7 (range_below (unhide HZ) hbr b6)⟩ (fun hHeld => ?_)
                            clear HK K
                            simp only [Nat.reduceAdd]
                            repeat ((first | (refine takeA ?_ (unhide hA) rfl rfl (by rfl) (fun _ _ _ h => h) ?_ hHeld ?_; rotate_left; · (intro w hSw; (try dsimp only at hSw); go_simp <;> with_reducible rfl)) | refine skipA (unhide hA) rfl (by rfl) (fun _ _ _ h => h) hHeld ?_); simp only [Act.put, List.setIfInBounds_toArray, List.set_cons_zero, List.set_cons_succ, Nat.reduceAdd])
                            refine doneA rfl ?_
                            clear hHeld hA
                            go_wp2_with fail
                            go_ret
                            exact ⟨rfl, below_next bW b6⟩
                           subst hN
                           rw [decide_eq_true rfl, Bool.and_true] at HSI
                           by_cases hT : r0.type = rk.type
                           rotate_left
                           ·have qT : (r0.type != rk.type) = true := by simpa using hT
                            have hR := unhide HXK (by rw [unhide HSI, decide_eq_false hT])
                            subst hR
                            clear hT
                            refine startA (by kernel_rfl) ⟨by kernel_rfl, by kernel_rfl⟩ (fun w' => (w'.cell? ⟨wr.heap.size, 0, none⟩ = some (.slice na rk.name.length nc) ∧ w'.cell? ⟨wr.heap.size, 1, none⟩ = some (.int .i64 rk.type) ∧ w'.cell? ⟨wr.heap.size, 2, none⟩ = some (.int .i64 rk.kind) ∧ w'.cell? ⟨wr.heap.size, 3, none⟩ = some (.slice (some ⟨br, offr, none⟩) m rc) ∧ w'.cell? ⟨wr.heap.size, 4, none⟩ = some (.int .i64 rk.rank) ∧ w'.cell? ⟨wr.heap.size, 5, none⟩ = some (.int .i64 rk.till) ∧ w'.cell? ⟨wr.heap.size, 6, none⟩ = some (.int .i64 rk.used)) ∧ (w'.cell? ⟨br, offr, none⟩ = some (.slice na0 r0.name.length nc0) ∧ w'.cell? ⟨br, offr + 1, none⟩ = some (.int .i64 r0.type) ∧ w'.cell? ⟨br, offr + 2, none⟩ = some (.int .i64 r0.ttl) ∧ w'.cell? ⟨br, offr + 3, none⟩ = some (.int .i64 r0.addr) ∧ w'.cell? ⟨br, offr + 4, none⟩ = some (.slice ta0 r0.to.length tc0) ∧ w'.cell? ⟨br, offr + 5, none⟩ = some (.slice xa0 r0.text.length xc0) ∧ w'.cell? ⟨br, offr + 6, none⟩ = some (.slice ia0 r0.nums.length ic0))) ⟨cells7 (unhide K1), range7 (unhide HZ)⟩ (fun hA hHeld => ?_)
                            replace hA := hide hA
                            repeat ((first | (refine takeA ?_ (unhide hA) rfl rfl (by rfl) (fun _ _ _ h => h) ?_ hHeld ?_; rotate_left; · (intro w hSw; (try dsimp only at hSw); go_simp <;> with_reducible rfl)) | refine skipA (unhide hA) rfl (by rfl) (fun _ _ _ h => h) hHeld ?_); simp only [Act.put, List.setIfInBounds_toArray, List.set_cons_zero, List.set_cons_succ, Nat.reduceAdd])
                            refine runA (unhide hA) rfl (by kernel_rfl) (by kernel_rfl) (fun K hK => ?_)
                            have HK := hide hK
                            clear hK hHeld
                            go_simp
                            refine (unhide LC _ (unhide HU0).name (unhide HU).name).mono ?_
                            rintro e w6 ⟨rfl, b6⟩
                            refine (unhide HK).out _ _ ⟨cells7 (block_kept b6 (unhide K1)), range7 (range_below (unhide HZ) hbr b6)⟩ (fun hHeld => ?_)
                            clear HK K
                            simp only [Nat.reduceAdd]
                            repeat ((first | (refine takeA ?_ (unhide hA) rfl rfl (by rfl) (fun _ _ _ h => h) ?_ hHeld ?_; rotate_left; · (intro w hSw; (try dsimp only at hSw); go_simp <;> with_reducible rfl)) | refine skipA (unhide hA) rfl (by rfl) (fun _ _ _ h => h) hHeld ?_); simp only [Act.put, List.setIfInBounds_toArray, List.set_cons_zero, List.set_cons_succ, Nat.reduceAdd])
                            refine doneA rfl ?_
                            clear hHeld hA
                            go_wp2_with fail
                            go_ret
                            exact ⟨rfl, below_next bW b6⟩
                           rw [decide_eq_true hT] at HSI
                           have qT : (r0.type != rk.type) = false := by simpa using hT
                           have HSK := hide (unhide HSI)
                           clear hT HSI HXK
                           refine startA (by kernel_rfl) ⟨by kernel_rfl, by kernel_rfl⟩ (fun w' => (w'.cell? ⟨wr.heap.size, 0, none⟩ = some (.slice na rk.name.length nc) ∧ w'.cell? ⟨wr.heap.size, 1, none⟩ = some (.int .i64 rk.type) ∧ w'.cell? ⟨wr.heap.size, 2, none⟩ = some (.int .i64 rk.kind) ∧ w'.cell? ⟨wr.heap.size, 3, none⟩ = some (.slice (some ⟨br, offr, none⟩) m rc) ∧ w'.cell? ⟨wr.heap.size, 4, none⟩ = some (.int .i64 rk.rank) ∧ w'.cell? ⟨wr.heap.size, 5, none⟩ = some (.int .i64 rk.till) ∧ w'.cell? ⟨wr.heap.size, 6, none⟩ = some (.int .i64 rk.used)) ∧ (w'.cell? ⟨br, offr, none⟩ = some (.slice na0 r0.name.length nc0) ∧ w'.cell? ⟨br, offr + 1, none⟩ = some (.int .i64 r0.type) ∧ w'.cell? ⟨br, offr + 2, none⟩ = some (.int .i64 r0.ttl) ∧ w'.cell? ⟨br, offr + 3, none⟩ = some (.int .i64 r0.addr) ∧ w'.cell? ⟨br, offr + 4, none⟩ = some (.slice ta0 r0.to.length tc0) ∧ w'.cell? ⟨br, offr + 5, none⟩ = some (.slice xa0 r0.text.length xc0) ∧ w'.cell? ⟨br, offr + 6, none⟩ = some (.slice ia0 r0.nums.length ic0))) ⟨cells7 (unhide K1), range7 (unhide HZ)⟩ (fun hA hHeld => ?_)
                           replace hA := hide hA
                           repeat ((first | (refine takeA ?_ (unhide hA) rfl rfl (by rfl) (fun _ _ _ h => h) ?_ hHeld ?_; rotate_left; · (intro w hSw; (try dsimp only at hSw); go_simp <;> with_reducible rfl)) | refine skipA (unhide hA) rfl (by rfl) (fun _ _ _ h => h) hHeld ?_); simp only [Act.put, List.setIfInBounds_toArray, List.set_cons_zero, List.set_cons_succ, Nat.reduceAdd])
                           refine runA (unhide hA) rfl (by kernel_rfl) (by kernel_rfl) (fun K hK => ?_)
                           have HK := hide hK
                           clear hK hHeld
                           go_simp
                           refine (unhide LC _ (unhide HU0).name (unhide HU).name).mono ?_
                           rintro e w6 ⟨rfl, b6⟩
                           refine (unhide HK).out _ _ ⟨cells7 (block_kept b6 (unhide K1)), range7 (range_below (unhide HZ) hbr b6)⟩ (fun hHeld => ?_)
                           clear HK K
                           simp only [Nat.reduceAdd]
                           repeat ((first | (refine takeA ?_ (unhide hA) rfl rfl (by rfl) (fun _ _ _ h => h) ?_ hHeld ?_; rotate_left; · (intro w hSw; (try dsimp only at hSw); go_simp <;> with_reducible rfl)) | refine skipA (unhide hA) rfl (by rfl) (fun _ _ _ h => h) hHeld ?_); simp only [Act.put, List.setIfInBounds_toArray, List.set_cons_zero, List.set_cons_succ, Nat.reduceAdd])
                           refine doneA rfl ?_
                           clear hHeld hA
                           replace bw := below_next bw b6
                           replace bW := below_next bW b6
                           replace KD := hide (block_kept b6 (unhide KD))
                           replace K1 := hide (block_kept b6 (unhide K1))
                           replace HU := hide ((unhide HU).below b6)
                           replace HR := hide (keptSs (unhide HR) b6)
                           have hblN := Nat.lt_of_lt_of_le hbl b6.size
                           clear b6 hbl
                           have hbl := hblN
                           clear hblN
                           go_wp2_with fail
                           generalize hwc : w6 = WC at *
                           clear hwc
                           have HB0 := hide bw
                           have HB1 := hide bW
                           have HKD := hide (unhide KD)
                           have HK1 := hide (unhide K1)
                           have HRR := hide (unhide HR)
                           have HHB := hide hbl
                           clear KD K1 HR bw bW HU
                           generalize wr.heap.size = BB at *
                           go_loopw [5] (fun i wx => ∃ j : Nat, j ≤ k ∧ i = .int .i64 j ∧ Hid (∀ q, q < j → decide ((l.getD q sltZ).used ≠ rk.used) = true) ∧ Below WC.heap.size WC wx) (fun i _ => k - (intOf i).toNat)
                           case atStart => exact ⟨0, Nat.zero_le _, rfl, hide (fun q hq => absurd hq (Nat.not_lt_zero _)), Below.refl _ _⟩
                           case round =>
                            obtain ⟨j, hj, rfl, hal, hx⟩ := hrel
                            have bw := below_next (unhide HB0) hx
                            have bW := below_next (unhide HB1) hx
                            have KD := hide (block_kept hx (unhide HKD))
                            have K1 := hide (block_kept hx (unhide HK1))
                            have HR := keptSs (unhide HRR) hx
                            by_cases hjk : j < k
                            ·obtain ⟨b2, off2, vs2, hbe, hbl2, hc2, vn2, vr2, hvs2, hu2⟩ := HR.here (k := j) (by rw [unhide HN]; omega)
                             simp only [Option.some.injEq, Addr.mk.injEq, and_true] at hbe
                             obtain ⟨rfl, rfl⟩ := hbe
                             subst hvs2
                             obtain ⟨na2, nc2, rfl, _⟩ := hu2.name.form
                             obtain ⟨ra2, rc2, rfl, _⟩ := hu2.rrs.form
                             have hstep := hide (fun (hs : decide ((l.getD j sltZ).used ≠ rk.used) = true) => (show ∀ q, q < j + 1 → decide ((l.getD q sltZ).used ≠ rk.used) = true from fun q hq => by
                               by_cases e : q = j
                               ·subst e; exact hs
                               ·exact unhide hal q (by omega)))
                             have HFJ := hide (fun (hs : decide ((l.getD j sltZ).used ≠ rk.used) = false) => unhide HFB j hjk hs)
                             have bd := below_drew (w := wr)
                             have KD' := hide (block_kept bd (unhide KD))
                             have K1' := hide (block_kept bd (unhide K1))
                             have H2 := hide (range_below hc2 hbl2 bd)
                             have hjn : (j : Int) < n := by omega
                             have hjk' : (j : Int) < k := by omega
                             generalize l.getD j sltZ = rj at *
                             obtain ⟨d0, d1, d2⟩ := cells3 (unhide KD)
                             clear hc2 hu2 HR hal
                             by_cases hq : rj.used = rk.used
                             ·have hR := unhide HFJ (by rw [decide_eq_false (by simpa using hq)])
                              subst hR
                              have qq : (rj.used == rk.used) = true := by rw [beq_iff_eq]; exact hq
                              clear hq hstep HFJ
                              go_wp2_with fail
                              clear d0 d1 d2
                              refine startA (by kernel_rfl) ⟨by kernel_rfl, by kernel_rfl⟩ (fun w' => (w'.cell? ⟨w.heap.size, 0, none⟩ = some (.int .i64 now) ∧ w'.cell? ⟨w.heap.size, 1, none⟩ = some (.int .i64 turn) ∧ w'.cell? ⟨w.heap.size, 2, none⟩ = some (.slice (some ⟨b, off, none⟩) n ca)) ∧ (w'.cell? ⟨BB, 0, none⟩ = some (.slice na rk.name.length nc) ∧ w'.cell? ⟨BB, 1, none⟩ = some (.int .i64 rk.type) ∧ w'.cell? ⟨BB, 2, none⟩ = some (.int .i64 rk.kind) ∧ w'.cell? ⟨BB, 3, none⟩ = some (.slice (some ⟨br, offr, none⟩) m rc) ∧ w'.cell? ⟨BB, 4, none⟩ = some (.int .i64 rk.rank) ∧ w'.cell? ⟨BB, 5, none⟩ = some (.int .i64 rk.till) ∧ w'.cell? ⟨BB, 6, none⟩ = some (.int .i64 rk.used)) ∧ (w'.cell? ⟨b, off + j * 7, none⟩ = some (.slice na2 rj.name.length nc2) ∧ w'.cell? ⟨b, off + j * 7 + 1, none⟩ = some (.int .i64 rj.type) ∧ w'.cell? ⟨b, off + j * 7 + 2, none⟩ = some (.int .i64 rj.kind) ∧ w'.cell? ⟨b, off + j * 7 + 3, none⟩ = some (.slice ra2 rj.rrs.length rc2) ∧ w'.cell? ⟨b, off + j * 7 + 4, none⟩ = some (.int .i64 rj.rank) ∧ w'.cell? ⟨b, off + j * 7 + 5, none⟩ = some (.int .i64 rj.till) ∧ w'.cell? ⟨b, off + j * 7 + 6, none⟩ = some (.int .i64 rj.used))) ⟨cells3 (unhide KD'), cells7 (unhide K1'), range7 (unhide H2)⟩ (fun hA hHeld => ?_)
                              replace hA := hide hA
                              repeat ((first | (refine takeA ?_ (unhide hA) rfl rfl (by rfl) (fun _ _ _ h => h) ?_ hHeld ?_; rotate_left; · (intro w hSw; (try dsimp only at hSw); go_simp <;> with_reducible rfl)) | refine skipA (unhide hA) rfl (by rfl) (fun _ _ _ h => h) hHeld ?_); simp only [Act.put, List.setIfInBounds_toArray, List.set_cons_zero, List.set_cons_succ, Nat.reduceAdd])
                              refine doneA rfl ?_
                              clear hHeld hA
                              go_wp2_with fail
                              go_ret
                              exact ⟨rfl, below_next bW bd⟩
                             ·have HS2 := hide (unhide hstep (decide_eq_true hq))
                              have qq : (rj.used == rk.used) = false := by rw [beq_eq_false_iff_ne]; exact hq
                              clear hq hstep HFJ
                              go_wp2_with fail
                              clear d0 d1 d2
                              refine startA (by kernel_rfl) ⟨by kernel_rfl, by kernel_rfl⟩ (fun w' => (w'.cell? ⟨w.heap.size, 0, none⟩ = some (.int .i64 now) ∧ w'.cell? ⟨w.heap.size, 1, none⟩ = some (.int .i64 turn) ∧ w'.cell? ⟨w.heap.size, 2, none⟩ = some (.slice (some ⟨b, off, none⟩) n ca)) ∧ (w'.cell? ⟨BB, 0, none⟩ = some (.slice na rk.name.length nc) ∧ w'.cell? ⟨BB, 1, none⟩ = some (.int .i64 rk.type) ∧ w'.cell? ⟨BB, 2, none⟩ = some (.int .i64 rk.kind) ∧ w'.cell? ⟨BB, 3, none⟩ = some (.slice (some ⟨br, offr, none⟩) m rc) ∧ w'.cell? ⟨BB, 4, none⟩ = some (.int .i64 rk.rank) ∧ w'.cell? ⟨BB, 5, none⟩ = some (.int .i64 rk.till) ∧ w'.cell? ⟨BB, 6, none⟩ = some (.int .i64 rk.used)) ∧ (w'.cell? ⟨b, off + j * 7, none⟩ = some (.slice na2 rj.name.length nc2) ∧ w'.cell? ⟨b, off + j * 7 + 1, none⟩ = some (.int .i64 rj.type) ∧ w'.cell? ⟨b, off + j * 7 + 2, none⟩ = some (.int .i64 rj.kind) ∧ w'.cell? ⟨b, off + j * 7 + 3, none⟩ = some (.slice ra2 rj.rrs.length rc2) ∧ w'.cell? ⟨b, off + j * 7 + 4, none⟩ = some (.int .i64 rj.rank) ∧ w'.cell? ⟨b, off + j * 7 + 5, none⟩ = some (.int .i64 rj.till) ∧ w'.cell? ⟨b, off + j * 7 + 6, none⟩ = some (.int .i64 rj.used))) ⟨cells3 (unhide KD'), cells7 (unhide K1'), range7 (unhide H2)⟩ (fun hA hHeld => ?_)
                              replace hA := hide hA
                              repeat ((first | (refine takeA ?_ (unhide hA) rfl rfl (by rfl) (fun _ _ _ h => h) ?_ hHeld ?_; rotate_left; · (intro w hSw; (try dsimp only at hSw); go_simp <;> with_reducible rfl)) | refine skipA (unhide hA) rfl (by rfl) (fun _ _ _ h => h) hHeld ?_); simp only [Act.put, List.setIfInBounds_toArray, List.set_cons_zero, List.set_cons_succ, Nat.reduceAdd])
                              refine doneA rfl ?_
                              clear hHeld hA
                              go_wp2_with fail
                              exact ⟨⟨j + 1, by omega, by go_num, hide (unhide HS2), below_next hx bd⟩, by simp [intOf]; omega⟩
                            ·obtain rfl : j = k := by omega
                             have HS2 := hide (unhide HFY (unhide hal))
                             have hjk' : ¬ (j : Int) < j := by omega
                             go_wp2_with fail
                             exact ⟨⟨j + 1, by omega, by go_num, hide (unhide hone (unhide HSK)), hide (unhide honf (unhide HS2)), bw⟩, by simp [intOf]; omega⟩
                         ·have e1 : (rk.kind == 1) = false := by rw [beq_eq_false_iff_ne]; exact q1
                          have e1' : (rk.kind != 1) = true := by simpa using q1
                          rw [holdsB_two q1 (by have := unhide k1n; omega) (by have := unhide k3n; omega)] at HSI
                          clear q1
                          cases hG : setOk rk.rrs with
                          | true =>
                           rw [hG] at LS
                           replace LS := hide LS
                           have hl1 := (setOk_rrs hG).2
                           have hR := unhide HXK (by rw [unhide HSI, decide_eq_false (by omega)])
                           subst hR
                           clear hG hl1
                           have bd := below_drew (w := w3)
                           replace bw := below_next bw bd
                           replace bW := below_next bW bd
                           replace KD := hide (block_kept bd (unhide KD))
                           replace K1 := hide (block_kept bd (unhide K1))
                           replace HU := hide ((unhide HU).below bd)
                           replace HR := hide (keptSs (unhide HR) bd)
                           have hblN := Nat.lt_of_lt_of_le hbl bd.size
                           clear bd hbl
                           have hbl := hblN
                           clear hblN
                           refine startA (by kernel_rfl) ⟨by kernel_rfl, by kernel_rfl⟩ (fun w' => (w'.cell? ⟨wr.heap.size, 0, none⟩ = some (.slice na rk.name.length nc) ∧ w'.cell? ⟨wr.heap.size, 1, none⟩ = some (.int .i64 rk.type) ∧ w'.cell? ⟨wr.heap.size, 2, none⟩ = some (.int .i64 rk.kind) ∧ w'.cell? ⟨wr.heap.size, 3, none⟩ = some (.slice ra rk.rrs.length rc) ∧ w'.cell? ⟨wr.heap.size, 4, none⟩ = some (.int .i64 rk.rank) ∧ w'.cell? ⟨wr.heap.size, 5, none⟩ = some (.int .i64 rk.till) ∧ w'.cell? ⟨wr.heap.size, 6, none⟩ = some (.int .i64 rk.used))) (cells7 (unhide K1)) (fun hA hHeld => ?_)
                           replace hA := hide hA
                           repeat ((first | (refine takeA ?_ (unhide hA) rfl rfl (by rfl) (fun _ _ _ h => h) ?_ hHeld ?_; rotate_left; · (intro w hSw; (try dsimp only at hSw); go_simp <;> with_reducible rfl)) | refine skipA (unhide hA) rfl (by rfl) (fun _ _ _ h => h) hHeld ?_); simp only [Act.put, List.setIfInBounds_toArray, List.set_cons_zero, List.set_cons_succ, Nat.reduceAdd])
                           refine runA (unhide hA) rfl (by kernel_rfl) (by kernel_rfl) (fun K hK => ?_)
                           have HK := hide hK
                           clear hK hHeld
                           go_simp
                           refine (unhide LS _ (unhide HU).rrs).mono ?_
                           rintro e w5 ⟨rfl, b5⟩
                           refine (unhide HK).out _ _ (cells7 (block_kept b5 (unhide K1))) (fun hHeld => ?_)
                           clear HK K
                           simp only [Nat.reduceAdd]
                           repeat ((first | (refine takeA ?_ (unhide hA) rfl rfl (by rfl) (fun _ _ _ h => h) ?_ hHeld ?_; rotate_left; · (intro w hSw; (try dsimp only at hSw); go_simp <;> with_reducible rfl)) | refine skipA (unhide hA) rfl (by rfl) (fun _ _ _ h => h) hHeld ?_); simp only [Act.put, List.setIfInBounds_toArray, List.set_cons_zero, List.set_cons_succ, Nat.reduceAdd])
                           refine doneA rfl ?_
                           clear hHeld hA
                           replace bw := below_next bw b5
                           replace bW := below_next bW b5
                           replace KD := hide (block_kept b5 (unhide KD))
                           replace K1 := hide (block_kept b5 (unhide K1))
                           replace HU := hide ((unhide HU).below b5)
                           replace HR := hide (keptSs (unhide HR) b5)
                           have hblN := Nat.lt_of_lt_of_le hbl b5.size
                           clear b5 hbl
                           have hbl := hblN
                           clear hblN
                           obtain ⟨d0, d1, d2⟩ := cells3 (unhide KD)
                           obtain ⟨e0, e1, e2, e3, e4, e5, e6⟩ := cells7 (unhide K1)
                           go_wp2_with fail
                           clear d0 d1 d2 e0 e1 e2 e3 e4 e5 e6
                           go_ret
                           exact ⟨rfl, bW⟩
                          | false =>
                           rw [hG] at LS
                           replace LS := hide LS
                           clear hG
                           by_cases hl : rk.rrs.length = 0
                           rotate_left
                           ·have hR := unhide HXK (by rw [unhide HSI, decide_eq_false hl])
                            subst hR
                            have hl2 : (0 : Int) < rk.rrs.length := by omega
                            have bd := below_drew (w := w3)
                            replace bw := below_next bw bd
                            replace bW := below_next bW bd
                            replace KD := hide (block_kept bd (unhide KD))
                            replace K1 := hide (block_kept bd (unhide K1))
                            replace HU := hide ((unhide HU).below bd)
                            replace HR := hide (keptSs (unhide HR) bd)
                            have hblN := Nat.lt_of_lt_of_le hbl bd.size
                            clear bd hbl
                            have hbl := hblN
                            clear hblN
                            refine startA (by kernel_rfl) ⟨by kernel_rfl, by kernel_rfl⟩ (fun w' => (w'.cell? ⟨wr.heap.size, 0, none⟩ = some (.slice na rk.name.length nc) ∧ w'.cell? ⟨wr.heap.size, 1, none⟩ = some (.int .i64 rk.type) ∧ w'.cell? ⟨wr.heap.size, 2, none⟩ = some (.int .i64 rk.kind) ∧ w'.cell? ⟨wr.heap.size, 3, none⟩ = some (.slice ra rk.rrs.length rc) ∧ w'.cell? ⟨wr.heap.size, 4, none⟩ = some (.int .i64 rk.rank) ∧ w'.cell? ⟨wr.heap.size, 5, none⟩ = some (.int .i64 rk.till) ∧ w'.cell? ⟨wr.heap.size, 6, none⟩ = some (.int .i64 rk.used))) (cells7 (unhide K1)) (fun hA hHeld => ?_)
                            replace hA := hide hA
                            repeat ((first | (refine takeA ?_ (unhide hA) rfl rfl (by rfl) (fun _ _ _ h => h) ?_ hHeld ?_; rotate_left; · (intro w hSw; (try dsimp only at hSw); go_simp <;> with_reducible rfl)) | refine skipA (unhide hA) rfl (by rfl) (fun _ _ _ h => h) hHeld ?_); simp only [Act.put, List.setIfInBounds_toArray, List.set_cons_zero, List.set_cons_succ, Nat.reduceAdd])
                            refine runA (unhide hA) rfl (by kernel_rfl) (by kernel_rfl) (fun K hK => ?_)
                            have HK := hide hK
                            clear hK hHeld
                            go_simp
                            refine (unhide LS _ (unhide HU).rrs).mono ?_
                            rintro e w5 ⟨rfl, b5⟩
                            refine (unhide HK).out _ _ (cells7 (block_kept b5 (unhide K1))) (fun hHeld => ?_)
                            clear HK K
                            simp only [Nat.reduceAdd]
                            repeat ((first | (refine takeA ?_ (unhide hA) rfl rfl (by rfl) (fun _ _ _ h => h) ?_ hHeld ?_; rotate_left; · (intro w hSw; (try dsimp only at hSw); go_simp <;> with_reducible rfl)) | refine skipA (unhide hA) rfl (by rfl) (fun _ _ _ h => h) hHeld ?_); simp only [Act.put, List.setIfInBounds_toArray, List.set_cons_zero, List.set_cons_succ, Nat.reduceAdd])
                            refine doneA rfl ?_
                            clear hHeld hA
                            replace bw := below_next bw b5
                            replace bW := below_next bW b5
                            replace KD := hide (block_kept b5 (unhide KD))
                            replace K1 := hide (block_kept b5 (unhide K1))
                            replace HU := hide ((unhide HU).below b5)
                            replace HR := hide (keptSs (unhide HR) b5)
                            have hblN := Nat.lt_of_lt_of_le hbl b5.size
                            clear b5 hbl
                            have hbl := hblN
                            clear hblN
                            obtain ⟨d0, d1, d2⟩ := cells3 (unhide KD)
                            obtain ⟨e0, e1, e2, e3, e4, e5, e6⟩ := cells7 (unhide K1)
                            go_wp2_with fail
                            clear d0 d1 d2 e0 e1 e2 e3 e4 e5 e6
                            go_ret
                            exact ⟨rfl, bW⟩
                           rw [decide_eq_true hl] at HSI
                           have HSK := hide (unhide HSI)
                           clear HSI HXK
                           generalize rk.rrs.length = m at *
                           subst hl
                           have bd := below_drew (w := w3)
                           replace bw := below_next bw bd
                           replace bW := below_next bW bd
                           replace KD := hide (block_kept bd (unhide KD))
                           replace K1 := hide (block_kept bd (unhide K1))
                           replace HU := hide ((unhide HU).below bd)
                           replace HR := hide (keptSs (unhide HR) bd)
                           have hblN := Nat.lt_of_lt_of_le hbl bd.size
                           clear bd hbl
                           have hbl := hblN
                           clear hblN
                           refine startA (by kernel_rfl) ⟨by kernel_rfl, by kernel_rfl⟩ (fun w' => (w'.cell? ⟨wr.heap.size, 0, none⟩ = some (.slice na rk.name.length nc) ∧ w'.cell? ⟨wr.heap.size, 1, none⟩ = some (.int .i64 rk.type) ∧ w'.cell? ⟨wr.heap.size, 2, none⟩ = some (.int .i64 rk.kind) ∧ w'.cell? ⟨wr.heap.size, 3, none⟩ = some (.slice ra 0 rc) ∧ w'.cell? ⟨wr.heap.size, 4, none⟩ = some (.int .i64 rk.rank) ∧ w'.cell? ⟨wr.heap.size, 5, none⟩ = some (.int .i64 rk.till) ∧ w'.cell? ⟨wr.heap.size, 6, none⟩ = some (.int .i64 rk.used))) (cells7 (unhide K1)) (fun hA hHeld => ?_)
                           replace hA := hide hA
                           repeat ((first | (refine takeA ?_ (unhide hA) rfl rfl (by rfl) (fun _ _ _ h => h) ?_ hHeld ?_; rotate_left; · (intro w hSw; (try dsimp only at hSw); go_simp <;> with_reducible rfl)) | refine skipA (unhide hA) rfl (by rfl) (fun _ _ _ h => h) hHeld ?_); simp only [Act.put, List.setIfInBounds_toArray, List.set_cons_zero, List.set_cons_succ, Nat.reduceAdd])
                           refine runA (unhide hA) rfl (by kernel_rfl) (by kernel_rfl) (fun K hK => ?_)
                           have HK := hide hK
                           clear hK hHeld
                           go_simp
                           refine (unhide LS _ (unhide HU).rrs).mono ?_
                           rintro e w5 ⟨rfl, b5⟩
                           refine (unhide HK).out _ _ (cells7 (block_kept b5 (unhide K1))) (fun hHeld => ?_)
                           clear HK K
                           simp only [Nat.reduceAdd]
                           repeat ((first | (refine takeA ?_ (unhide hA) rfl rfl (by rfl) (fun _ _ _ h => h) ?_ hHeld ?_; rotate_left; · (intro w hSw; (try dsimp only at hSw); go_simp <;> with_reducible rfl)) | refine skipA (unhide hA) rfl (by rfl) (fun _ _ _ h => h) hHeld ?_); simp only [Act.put, List.setIfInBounds_toArray, List.set_cons_zero, List.set_cons_succ, Nat.reduceAdd])
                           refine doneA rfl ?_
                           clear hHeld hA
                           replace bw := below_next bw b5
                           replace bW := below_next bW b5
                           replace KD := hide (block_kept b5 (unhide KD))
                           replace K1 := hide (block_kept b5 (unhide K1))
                           replace HU := hide ((unhide HU).below b5)
                           replace HR := hide (keptSs (unhide HR) b5)
                           have hblN := Nat.lt_of_lt_of_le hbl b5.size
                           clear b5 hbl
                           have hbl := hblN
                           clear hblN
                           obtain ⟨d0, d1, d2⟩ := cells3 (unhide KD)
                           obtain ⟨e0, e1, e2, e3, e4, e5, e6⟩ := cells7 (unhide K1)
                           go_wp2_with fail
                           clear d0 d1 d2 e0 e1 e2 e3 e4 e5 e6
                           have bd := below_drew (w := w5)
                           replace bw := below_next bw bd
                           replace bW := below_next bW bd
                           replace KD := hide (block_kept bd (unhide KD))
                           replace K1 := hide (block_kept bd (unhide K1))
                           replace HU := hide ((unhide HU).below bd)
                           replace HR := hide (keptSs (unhide HR) bd)
                           have hblN := Nat.lt_of_lt_of_le hbl bd.size
                           clear bd hbl
                           have hbl := hblN
                           clear hblN
                           refine startA (by kernel_rfl) ⟨by kernel_rfl, by kernel_rfl⟩ (fun w' => (w'.cell? ⟨wr.heap.size, 0, none⟩ = some (.slice na rk.name.length nc) ∧ w'.cell? ⟨wr.heap.size, 1, none⟩ = some (.int .i64 rk.type) ∧ w'.cell? ⟨wr.heap.size, 2, none⟩ = some (.int .i64 rk.kind) ∧ w'.cell? ⟨wr.heap.size, 3, none⟩ = some (.slice ra 0 rc) ∧ w'.cell? ⟨wr.heap.size, 4, none⟩ = some (.int .i64 rk.rank) ∧ w'.cell? ⟨wr.heap.size, 5, none⟩ = some (.int .i64 rk.till) ∧ w'.cell? ⟨wr.heap.size, 6, none⟩ = some (.int .i64 rk.used))) (cells7 (unhide K1)) (fun hA hHeld => ?_)
                           replace hA := hide hA
                           repeat ((first | (refine takeA ?_ (unhide hA) rfl rfl (by rfl) (fun _ _ _ h => h) ?_ hHeld ?_; rotate_left; · (intro w hSw; (try dsimp only at hSw); go_simp <;> with_reducible rfl)) | refine skipA (unhide hA) rfl (by rfl) (fun _ _ _ h => h) hHeld ?_); simp only [Act.put, List.setIfInBounds_toArray, List.set_cons_zero, List.set_cons_succ, Nat.reduceAdd])
                           refine doneA rfl ?_
                           clear hHeld hA
                           go_wp2_with fail
                           generalize hwc : w5.drew = WC at *
                           clear hwc
                           have HB0 := hide bw
                           have HB1 := hide bW
                           have HKD := hide (unhide KD)
                           have HK1 := hide (unhide K1)
                           have HRR := hide (unhide HR)
                           have HHB := hide hbl
                           clear KD K1 HR bw bW HU
                           generalize wr.heap.size = BB at *
                           go_loopw [5] (fun i wx => ∃ j : Nat, j ≤ k ∧ i = .int .i64 j ∧ Hid (∀ q, q < j → decide ((l.getD q sltZ).used ≠ rk.used) = true) ∧ Below WC.heap.size WC wx) (fun i _ => k - (intOf i).toNat)
                           case atStart => exact ⟨0, Nat.zero_le _, rfl, hide (fun q hq => absurd hq (Nat.not_lt_zero _)), Below.refl _ _⟩
                           case round =>
                            obtain ⟨j, hj, rfl, hal, hx⟩ := hrel
                            have bw := below_next (unhide HB0) hx
                            have bW := below_next (unhide HB1) hx
                            have KD := hide (block_kept hx (unhide HKD))
                            have K1 := hide (block_kept hx (unhide HK1))
                            have HR := keptSs (unhide HRR) hx
                            by_cases hjk : j < k
                            ·obtain ⟨b2, off2, vs2, hbe, hbl2, hc2, vn2, vr2, hvs2, hu2⟩ := HR.here (k := j) (by rw [unhide HN]; omega)
                             simp only [Option.some.injEq, Addr.mk.injEq, and_true] at hbe
                             obtain ⟨rfl, rfl⟩ := hbe
                             subst hvs2
                             obtain ⟨na2, nc2, rfl, _⟩ := hu2.name.form
                             obtain ⟨ra2, rc2, rfl, _⟩ := hu2.rrs.form
                             have hstep := hide (fun (hs : decide ((l.getD j sltZ).used ≠ rk.used) = true) => (show ∀ q, q < j + 1 → decide ((l.getD q sltZ).used ≠ rk.used) = true from fun q hq => by
                               by_cases e : q = j
                               ·subst e; exact hs
                               ·exact unhide hal q (by omega)))
                             have HFJ := hide (fun (hs : decide ((l.getD j sltZ).used ≠ rk.used) = false) => unhide HFB j hjk hs)
                             have bd := below_drew (w := wr)
                             have KD' := hide (block_kept bd (unhide KD))
                             have K1' := hide (block_kept bd (unhide K1))
                             have H2 := hide (range_below hc2 hbl2 bd)
                             have hjn : (j : Int) < n := by omega
                             have hjk' : (j : Int) < k := by omega
                             generalize l.getD j sltZ = rj at *
                             obtain ⟨d0, d1, d2⟩ := cells3 (unhide KD)
                             clear hc2 hu2 HR hal
                             by_cases hq : rj.used = rk.used
                             ·have hR := unhide HFJ (by rw [decide_eq_false (by simpa using hq)])
                              subst hR
                              have qq : (rj.used == rk.used) = true := by rw [beq_iff_eq]; exact hq
                              clear hq hstep HFJ
                              go_wp2_with fail
                              clear d0 d1 d2
                              refine startA (by kernel_rfl) ⟨by kernel_rfl, by kernel_rfl⟩ (fun w' => (w'.cell? ⟨w.heap.size, 0, none⟩ = some (.int .i64 now) ∧ w'.cell? ⟨w.heap.size, 1, none⟩ = some (.int .i64 turn) ∧ w'.cell? ⟨w.heap.size, 2, none⟩ = some (.slice (some ⟨b, off, none⟩) n ca)) ∧ (w'.cell? ⟨BB, 0, none⟩ = some (.slice na rk.name.length nc) ∧ w'.cell? ⟨BB, 1, none⟩ = some (.int .i64 rk.type) ∧ w'.cell? ⟨BB, 2, none⟩ = some (.int .i64 rk.kind) ∧ w'.cell? ⟨BB, 3, none⟩ = some (.slice ra 0 rc) ∧ w'.cell? ⟨BB, 4, none⟩ = some (.int .i64 rk.rank) ∧ w'.cell? ⟨BB, 5, none⟩ = some (.int .i64 rk.till) ∧ w'.cell? ⟨BB, 6, none⟩ = some (.int .i64 rk.used)) ∧ (w'.cell? ⟨b, off + j * 7, none⟩ = some (.slice na2 rj.name.length nc2) ∧ w'.cell? ⟨b, off + j * 7 + 1, none⟩ = some (.int .i64 rj.type) ∧ w'.cell? ⟨b, off + j * 7 + 2, none⟩ = some (.int .i64 rj.kind) ∧ w'.cell? ⟨b, off + j * 7 + 3, none⟩ = some (.slice ra2 rj.rrs.length rc2) ∧ w'.cell? ⟨b, off + j * 7 + 4, none⟩ = some (.int .i64 rj.rank) ∧ w'.cell? ⟨b, off + j * 7 + 5, none⟩ = some (.int .i64 rj.till) ∧ w'.cell? ⟨b, off + j * 7 + 6, none⟩ = some (.int .i64 rj.used))) ⟨cells3 (unhide KD'), cells7 (unhide K1'), range7 (unhide H2)⟩ (fun hA hHeld => ?_)
                              replace hA := hide hA
                              repeat ((first | (refine takeA ?_ (unhide hA) rfl rfl (by rfl) (fun _ _ _ h => h) ?_ hHeld ?_; rotate_left; · (intro w hSw; (try dsimp only at hSw); go_simp <;> with_reducible rfl)) | refine skipA (unhide hA) rfl (by rfl) (fun _ _ _ h => h) hHeld ?_); simp only [Act.put, List.setIfInBounds_toArray, List.set_cons_zero, List.set_cons_succ, Nat.reduceAdd])
                              refine doneA rfl ?_
                              clear hHeld hA
                              go_wp2_with fail
                              go_ret
                              exact ⟨rfl, below_next bW bd⟩
                             ·have HS2 := hide (unhide hstep (decide_eq_true hq))
                              have qq : (rj.used == rk.used) = false := by rw [beq_eq_false_iff_ne]; exact hq
                              clear hq hstep HFJ
                              go_wp2_with fail
                              clear d0 d1 d2
                              refine startA (by kernel_rfl) ⟨by kernel_rfl, by kernel_rfl⟩ (fun w' => (w'.cell? ⟨w.heap.size, 0, none⟩ = some (.int .i64 now) ∧ w'.cell? ⟨w.heap.size, 1, none⟩ = some (.int .i64 turn) ∧ w'.cell? ⟨w.heap.size, 2, none⟩ = some (.slice (some ⟨b, off, none⟩) n ca)) ∧ (w'.cell? ⟨BB, 0, none⟩ = some (.slice na rk.name.length nc) ∧ w'.cell? ⟨BB, 1, none⟩ = some (.int .i64 rk.type) ∧ w'.cell? ⟨BB, 2, none⟩ = some (.int .i64 rk.kind) ∧ w'.cell? ⟨BB, 3, none⟩ = some (.slice ra 0 rc) ∧ w'.cell? ⟨BB, 4, none⟩ = some (.int .i64 rk.rank) ∧ w'.cell? ⟨BB, 5, none⟩ = some (.int .i64 rk.till) ∧ w'.cell? ⟨BB, 6, none⟩ = some (.int .i64 rk.used)) ∧ (w'.cell? ⟨b, off + j * 7, none⟩ = some (.slice na2 rj.name.length nc2) ∧ w'.cell? ⟨b, off + j * 7 + 1, none⟩ = some (.int .i64 rj.type) ∧ w'.cell? ⟨b, off + j * 7 + 2, none⟩ = some (.int .i64 rj.kind) ∧ w'.cell? ⟨b, off + j * 7 + 3, none⟩ = some (.slice ra2 rj.rrs.length rc2) ∧ w'.cell? ⟨b, off + j * 7 + 4, none⟩ = some (.int .i64 rj.rank) ∧ w'.cell? ⟨b, off + j * 7 + 5, none⟩ = some (.int .i64 rj.till) ∧ w'.cell? ⟨b, off + j * 7 + 6, none⟩ = some (.int .i64 rj.used))) ⟨cells3 (unhide KD'), cells7 (unhide K1'), range7 (unhide H2)⟩ (fun hA hHeld => ?_)
                              replace hA := hide hA
                              repeat ((first | (refine takeA ?_ (unhide hA) rfl rfl (by rfl) (fun _ _ _ h => h) ?_ hHeld ?_; rotate_left; · (intro w hSw; (try dsimp only at hSw); go_simp <;> with_reducible rfl)) | refine skipA (unhide hA) rfl (by rfl) (fun _ _ _ h => h) hHeld ?_); simp only [Act.put, List.setIfInBounds_toArray, List.set_cons_zero, List.set_cons_succ, Nat.reduceAdd])
                              refine doneA rfl ?_
                              clear hHeld hA
                              go_wp2_with fail
                              exact ⟨⟨j + 1, by omega, by go_num, hide (unhide HS2), below_next hx bd⟩, by simp [intOf]; omega⟩
                            ·obtain rfl : j = k := by omega
                             have HS2 := hide (unhide HFY (unhide hal))
                             have hjk' : ¬ (j : Int) < j := by omega
                             go_wp2_with fail
                             exact ⟨⟨j + 1, by omega, by go_num, hide (unhide hone (unhide HSK)), hide (unhide honf (unhide HS2)), bw⟩, by simp [intOf]; omega⟩
  ·obtain rfl : k = n := by omega
   have hR := unhide HY (unhide hall) (unhide half)
   subst hR
   obtain ⟨d0, d1, d2⟩ := cells3 (unhide KR)
   go_wp2_with fail
   go_ret
   exact ⟨rfl, bw0⟩
end Go.Proofs.YtpolekinfobecaaGreat
