/-
  Contract of the specification's CacheNames. Contract of a helper of the laws for rows of names (eqNameS).
-/
import Derived.Test.YtpolekinfobecaaGreatCacheNamesG17
import Derived.Test.YtpolekinfobecaaGreatCacheNamesG39
import Derived.Test.YtpolekinfobecaaGreatCacheNamesG40
import Derived.Test.YtpolekinfobecaaGreatCacheNamesG29
import Derived.Test.YtpolekinfobecaaGreatCacheNamesG30
import Derived.Test.YtpolekinfobecaaGreatCacheNamesG15
import Derived.Test.YtpolekinfobecaaGreatCacheNamesG11
import Derived.Deep.RegionHeld3
namespace Go.Proofs.YtpolekinfobecaaGreat
open Go.RowKit
set_option linter.unusedVariables false

theorem info_NmC2 : (Tryz.prog.info? 44).map (fun i => (i.zero, i.size, i.bytes)) = some (some (.agg #[.slice none 0 0]), 1, 24) := by kernel_rfl

set_option maxHeartbeats 4000000 in
set_option maxRecDepth 100000 in
theorem specCacheNames_own {v : Value} {c : Ca} {w : World} (h : HasSs w v c.slots) (hz : SizeCa 1048576 c) :
  Calls Tryz.prog 15 #[.agg #[.int .i64 c.now, .int .i64 c.turn, v]] w fun e w' => ∃ v', e = .returned v' ∧ RowX 1 (OwnNm 53 5) namZ w.heap.size w'.heap.size 44 w' v' (cacheNames c) ∧ Below w.heap.size w w' := by
 obtain ⟨a, ca, rfl, hla, hma⟩ := h.form
 unfold maxLen at hma
 have CO := fun (w : World) (h : HasSs w (.slice a c.slots.length ca) c.slots) => specCacheOk_has (c := c) h hz
 have b0 := below_alloc (w := w) (.cells #[.int .i64 c.now, .int .i64 c.turn, .slice a c.slots.length ca] 29)
 have KK := hide (heap_alloc_new w (.cells #[.int .i64 c.now, .int .i64 c.turn, .slice a c.slots.length ca] 29))
 cases hok : cacheOk c with
 | false =>
  rw [show cacheNames c = [] from if_neg (by rw [hok]; simp)]
  rw [hok] at CO
  replace CO := hide (CO _ (keptSs h b0))
  clear h hok hla hz
  generalize c.now = now at *
  generalize c.turn = turn at *
  generalize c.slots.length = n at *
  obtain ⟨d0, d1, d2⟩ := cells3 (unhide KK)
  go_enter Tryz.func15, Tryz.ntmps15
  go_wp2_with fail
  refine (unhide CO).mono ?_
  rintro e w1 ⟨rfl, b1⟩
  go_wp2_with fail
  go_ret
  exact ⟨_, rfl, RowX.nil _, below_next b0 b1⟩
 | true =>
  rw [show cacheNames c = namesC c.slots c.slots.length from if_pos hok]
  obtain ⟨h8, hnk⟩ := cacheOk_names hok
  rw [hok] at CO
  replace CO := hide (CO _ (keptSs h b0))
  have HMN := hide (fun k (hb : newB c.slots k = true) => namesC_new hb)
  have HMO := hide (fun k (hb : newB c.slots k = false) => namesC_old hb)
  have HLE := hide (namesC_len c.slots)
  have HNB := hide (fun k => (show newB c.slots k = (decide (k = 0) || decide (cmpN (c.slots.getD (k - 1) sltZ).name (c.slots.getD k sltZ).name ≠ 0)) from rfl))
  have HNK := hide hnk
  have HLAST := hide (namesC_last hnk)
  clear hok hnk
  generalize namesC c.slots = M at *
  generalize newB c.slots = NB at *
  generalize c.now = now at *
  generalize c.turn = turn at *
  generalize c.slots = l at *
  generalize hn : l.length = n at *
  have HN := hide hn
  have H := hide h
  clear hn h hz
  obtain ⟨d0, d1, d2⟩ := cells3 (unhide KK)
  go_enter Tryz.func15, Tryz.ntmps15
  go_wp2_with fail
  clear d0 d1 d2
  generalize w.alloc (.cells #[.int .i64 now, .int .i64 turn, .slice a n ca] 29) = W0 at *
  refine (unhide CO).mono ?_
  rintro e W ⟨rfl, b1⟩
  have bW0 := below_next b0 b1
  have KD0 := hide (block_kept b1 (unhide KK))
  have zW0 := bW0.size
  have zK := block_lt (unhide KK)
  clear CO KK b0 b1
  obtain ⟨d0, d1, d2⟩ := cells3 (unhide KD0)
  go_wp2_with fail
  clear d0 d1 d2
  go_loopw [3, 4] (fun o i wr => ∃ k : Nat, k ≤ n ∧ i = .int .i64 k ∧ RowX 1 (OwnNm 53 5) namZ W.heap.size wr.heap.size 44 wr o (M k) ∧ Below W.heap.size W wr) (fun _ i _ => n - (intOf i).toNat)
  case atStart => exact ⟨0, Nat.zero_le _, rfl, by rw [show M 0 = [] from List.eq_nil_of_length_eq_zero (by have := unhide HLE 0; omega)]; exact RowX.nil _, Below.refl _ _⟩
  case round =>
   obtain ⟨k, hk, rfl, hr, hb⟩ := hrel
   have bWr := below_next bW0 hb
   have KR := hide (block_kept hb (unhide KD0))
   have HR := hide (keptSs (unhide H) bWr)
   obtain ⟨va, vc, rfl, _⟩ := hr.form
   have hL := unhide HLE k
   by_cases hlt : k < n
   ·obtain ⟨b, off, vs, rfl, hbl, hc, vn, vr, rfl, hu⟩ := (unhide HR).here (k := k) (by rw [unhide HN]; exact hlt)
    obtain ⟨na, nc, rfl, _⟩ := hu.name.form
    obtain ⟨ra, rc, rfl, _⟩ := hu.rrs.form
    have HNKK := hide (unhide HNK k hlt)
    have HNBK := hide (unhide HNB k)
    have HMSK := hide (unhide HMN k)
    have HMOK := hide (unhide HMO k)
    have hki : (k : Int) < n := by omega
    by_cases hk0 : k = 0
    ·subst hk0
     rw [Nat.zero_mul, Nat.add_zero] at hc
     obtain ⟨c0, c1, c2, c3, c4, c5, c6⟩ := range7 hc
     have hnew : NB 0 = true := by rw [unhide HNBK]; rfl
     have HMS := hide (unhide HMSK hnew)
     have hL0 : (M 0).length = 0 := by omega
     rw [hL0] at hr
     have HLEN := hide hL0
     have HU0 := hide hu
     have RO0 := hide hr
     have HC0 := hide hc
     have hnp : 0 < n := hlt
     clear hc hu hr HNBK HMSK HMOK hnew HR
     generalize l.getD 0 sltZ = rk at *
     obtain ⟨d0, d1, d2⟩ := cells3 (unhide KR)
     rw [hL0]
     go_wp2_with fail
     clear c0 c1 c2 c3 c4 c5 c6 d0 d1 d2 hL0
     have bd := below_drew (w := wr)
     have bw := below_next hb bd
     have KD := hide (block_kept bd (unhide KR))
     have HC := hide (range_below (unhide HC0) hbl bd)
     have HU := hide ((unhide HU0).below bd)
     have RO := hide (RowX.below (ownsNm 53 5) (unhide RO0) bd)
     have hz5 : wr.heap.size ≤ wr.drew.heap.size := bd.size
     clear hb bd HU0 RO0 HC0 KR
     refine startA (by kernel_rfl) ⟨by kernel_rfl, by kernel_rfl⟩ (fun w' => (w'.cell? ⟨w.heap.size, 0, none⟩ = some (.int .i64 now) ∧ w'.cell? ⟨w.heap.size, 1, none⟩ = some (.int .i64 turn) ∧ w'.cell? ⟨w.heap.size, 2, none⟩ = some (.slice (some ⟨b, off, none⟩) n ca)) ∧ (w'.cell? ⟨b, off, none⟩ = some (.slice na rk.name.length nc) ∧ w'.cell? ⟨b, off + 1, none⟩ = some (.int .i64 rk.type) ∧ w'.cell? ⟨b, off + 2, none⟩ = some (.int .i64 rk.kind) ∧ w'.cell? ⟨b, off + 3, none⟩ = some (.slice ra rk.rrs.length rc) ∧ w'.cell? ⟨b, off + 4, none⟩ = some (.int .i64 rk.rank) ∧ w'.cell? ⟨b, off + 5, none⟩ = some (.int .i64 rk.till) ∧ w'.cell? ⟨b, off + 6, none⟩ = some (.int .i64 rk.used))) ⟨cells3 (unhide KD), range7 (unhide HC)⟩ (fun hA hHeld => ?_)
     replace hA := hide hA
     repeat ((first | (refine takeA ?_ (unhide hA) rfl rfl (by rfl) (fun _ _ _ h => h) ?_ hHeld ?_; rotate_left; · (intro w hSw; (try dsimp only at hSw); go_simp <;> with_reducible rfl)) | refine skipA (unhide hA) rfl (by rfl) (fun _ _ _ h => h) hHeld ?_); simp only [Act.put, List.setIfInBounds_toArray, List.set_cons_zero, List.set_cons_succ, Nat.reduceAdd])
     refine doneA rfl ?_
     clear hHeld hA
     have NK := unhide HNKK
     have CN := hide (l2own_has (unhide HU).name (nameOk_parts NK).1 (fun q hq => (labelOk_length ((nameOk_parts NK).2 q hq)).2))
     clear NK
     obtain ⟨d0, d1, d2⟩ := cells3 (unhide KD)
     obtain ⟨c0, c1, c2, c3, c4, c5, c6⟩ := range7 (unhide HC)
     go_wp2_with fail
     clear d0 d1 d2 c0 c1 c2 c3 c4 c5 c6
     refine (unhide CN).mono ?_
     rintro e w6 ⟨v6, rfl, o6, b6⟩
     obtain ⟨n6, m6, rfl, _⟩ := o6.hasL.form
     have b7 := below_alloc (w := w6) (.cells #[.slice n6 rk.name.length m6] 44)
     have G7 := hide (heap_alloc_new w6 (.cells #[.slice n6 rk.name.length m6] 44))
     have O6 := hide (o6.here.below b7)
     have RO7 := hide (RowX.below (ownsNm 53 5) (RowX.below (ownsNm 53 5) (unhide RO) b6) b7)
     have q7 := below_next (below_next bw b6) b7
     have z5 := hz5
     have zW := bw.size
     have z6 := b6.size
     have z7 := b7.size
     obtain ⟨cs0, f0, g0, hx0, _⟩ := unhide RO7
     rw [unhide HLEN] at hx0
     clear o6 b6 b7 RO CN
     go_wp2_with (at_builtin; refine append_oneX rfl _ _ 37 44 rfl Tryz.underlying37 _ 1 24 (by omega) (by omega) info_NmC2 rfl W.heap.size (.slice va 0 vc) 0 rfl w6.heap.size [.slice n6 rk.name.length m6] rfl ⟨cs0, hx0⟩ (unhide G7) rfl (by simp [Value.oneCell']) (by omega) q7.size ?_)
     intro v8 w8 h8 g8 hw8
     have row8 := RowX.snoc (ownsNm 53 5) (x := rk.name) (us := [.slice n6 rk.name.length m6]) (unhide RO7) (C := wr.drew.heap.size) (D := w6.heap.size) (by omega) (by omega) (by omega) ⟨_, rfl, unhide O6⟩ (by omega) g8 (by rw [World.size_alloc]; exact hw8) (by rw [unhide HLEN]; exact h8)
     rw [← unhide HMS] at row8
     have ROW8 := hide row8
     have bb8 := q7.grown g8 q7.size (fun j e => (World.ownsRow.lt hx0 j e).1)
     clear hx0 h8 g8 hw8 O6 RO7 q7 row8 G7
     go_wp2_with fail
     exact ⟨⟨0 + 1, by omega, by go_num, unhide ROW8, bb8⟩, by simp [intOf]; omega⟩
    ·have HNB2 := hide (show NB k = decide (cmpN (l.getD (k - 1) sltZ).name (l.getD k sltZ).name ≠ 0) by rw [unhide HNBK, decide_eq_false hk0, Bool.false_or])
     obtain ⟨hl0, hl1⟩ := unhide HLAST k (by omega) (by omega)
     obtain ⟨L1, hL1⟩ : ∃ L1, (M k).length = L1 + 1 := ⟨(M k).length - 1, by omega⟩
     rw [hL1, Nat.add_sub_cancel] at hl1
     obtain ⟨bo, oo, vso, hbo, hblo, hco, vno, hvso, huo⟩ := (RowX.has (ownsNm 53 5) OwnNm.has hr).here (k := L1) (by omega)
     rw [hl1] at huo
     rw [Nat.mul_one] at hco
     subst hvso hbo
     have HNKP := hide (unhide HNK (k - 1) (by omega))
     generalize (l.getD (k - 1) sltZ).name = rp at *
     obtain ⟨no, co, rfl, _⟩ := huo.form
     have hLk : L1 < k := by omega
     generalize hLL : (M k).length = L at *
     have HLEN := hide hLL
     have hkp : (0 : Int) < L := by omega
     have hkpn : 0 < L := by omega
     have hke0 : ((L : Nat) == (0 : Int)) = false := by rw [beq_eq_false_iff_ne]; omega
     have hsub : ((L : Nat) : Int) - 1 = (L1 : Nat) := by omega
     have hwr : IntKind.i64.wrap (L1 : Int) = (L1 : Nat) := wrap_small L1 (by omega)
     have hkm : (L1 : Int) < L := by omega
     have hkmn : L1 < L := by omega
     have hLn : L ≤ 8 := by omega
     have HL1 := hide hL1
     have HK0 := hide hk0
     obtain ⟨c0, c1, c2, c3, c4, c5, c6⟩ := range7 hc
     have HU0 := hide hu
     have RO0 := hide hr
     have HC0 := hide hc
     have HO0 := hide hco
     have HUO0 := hide huo
     clear hc hu hr HNBK HR hLL hl0 hl1 hk0 hL1 hco huo hL
     generalize l.getD k sltZ = rk at *
     have hs1 := nameOk_parts (unhide HNKP)
     have hs2 := nameOk_parts (unhide HNKK)
     have NC := hide (fun (w : World) (h1 : HasL w (.slice no rp.length co) rp) (h2 : HasL w (.slice na rk.name.length nc) rk.name) => l2cmp_has h1 h2 (by have := hs1.1; omega) (by have := hs2.1; omega))
     clear hs1 hs2
     generalize cmpN rp rk.name = N at *
     obtain ⟨d0, d1, d2⟩ := cells3 (unhide KR)
     go_wp2_with fail
     clear c0 c1 c2 c3 c4 c5 c6 d0 d1 d2
     have bd := below_drew (w := wr)
     have bw1 := below_next hb bd
     have KD1 := hide (block_kept bd (unhide KR))
     have HC1 := hide (range_below (unhide HC0) hbl bd)
     have HO1 := hide (range_below (unhide HO0) hblo bd)
     have HU1 := hide ((unhide HU0).below bd)
     have HUO := hide ((unhide HUO0).below bd)
     have RO1 := hide (RowX.below (ownsNm 53 5) (unhide RO0) bd)
     have hbl1 := Nat.lt_of_lt_of_le hbl bd.size
     have hblo1 := Nat.lt_of_lt_of_le hblo bd.size
     have hz1 : wr.heap.size ≤ wr.drew.heap.size := bd.size
     clear hb bd HU0 RO0 HUO0 HC0 HO0 KR hbl hblo
     refine startA (by kernel_rfl) ⟨by kernel_rfl, by kernel_rfl⟩ (fun w' => (w'.cell? ⟨w.heap.size, 0, none⟩ = some (.int .i64 now) ∧ w'.cell? ⟨w.heap.size, 1, none⟩ = some (.int .i64 turn) ∧ w'.cell? ⟨w.heap.size, 2, none⟩ = some (.slice (some ⟨b, off, none⟩) n ca)) ∧ (w'.cell? ⟨b, off + k * 7, none⟩ = some (.slice na rk.name.length nc) ∧ w'.cell? ⟨b, off + k * 7 + 1, none⟩ = some (.int .i64 rk.type) ∧ w'.cell? ⟨b, off + k * 7 + 2, none⟩ = some (.int .i64 rk.kind) ∧ w'.cell? ⟨b, off + k * 7 + 3, none⟩ = some (.slice ra rk.rrs.length rc) ∧ w'.cell? ⟨b, off + k * 7 + 4, none⟩ = some (.int .i64 rk.rank) ∧ w'.cell? ⟨b, off + k * 7 + 5, none⟩ = some (.int .i64 rk.till) ∧ w'.cell? ⟨b, off + k * 7 + 6, none⟩ = some (.int .i64 rk.used)) ∧ w'.cell? ⟨bo, oo + L1, none⟩ = some (.slice no rp.length co)) ⟨cells3 (unhide KD1), range7 (unhide HC1), range1 (unhide HO1)⟩ (fun hA hHeld => ?_)
     replace hA := hide hA
     repeat ((first | (refine takeA ?_ (unhide hA) rfl rfl (by rfl) (fun _ _ _ h => h) ?_ hHeld ?_; rotate_left; · (intro w hSw; (try dsimp only at hSw); go_simp <;> with_reducible rfl)) | refine skipA (unhide hA) rfl (by rfl) (fun _ _ _ h => h) hHeld ?_); simp only [Act.put, List.setIfInBounds_toArray, List.set_cons_zero, List.set_cons_succ, Nat.reduceAdd])
     refine runA (unhide hA) rfl (by kernel_rfl) (by kernel_rfl) (fun K hK => ?_)
     have HK := hide hK
     clear hK hHeld
     go_simp
     refine (unhide NC _ (unhide HUO) (unhide HU1).name).mono ?_
     rintro e w5 ⟨rfl, b5⟩
     have bw := below_next bw1 b5
     have KD := hide (block_kept b5 (unhide KD1))
     have HU := hide ((unhide HU1).below b5)
     have HC := hide (range_below (unhide HC1) hbl1 b5)
     have HO := hide (range_below (unhide HO1) hblo1 b5)
     have RO := hide (RowX.below (ownsNm 53 5) (unhide RO1) b5)
     have hz5 : wr.heap.size ≤ w5.heap.size := Nat.le_trans hz1 b5.size
     clear b5 bw1 KD1 HU1 HUO HC1 HO1 RO1 hz1 hbl1 hblo1
     refine (unhide HK).out _ _ ⟨cells3 (unhide KD), range7 (unhide HC), range1 (unhide HO)⟩ (fun hHeld => ?_)
     clear HK K
     simp only [Nat.reduceAdd]
     by_cases hN : N = 0
     ·subst hN
      have hMO := unhide HMOK (by rw [unhide HNB2]; simp)
      repeat ((first | (refine takeA ?_ (unhide hA) rfl rfl (by rfl) (fun _ _ _ h => h) ?_ hHeld ?_; rotate_left; · (intro w hSw; (try dsimp only at hSw); go_simp <;> with_reducible rfl)) | refine skipA (unhide hA) rfl (by rfl) (fun _ _ _ h => h) hHeld ?_); simp only [Act.put, List.setIfInBounds_toArray, List.set_cons_zero, List.set_cons_succ, Nat.reduceAdd])
      refine doneA rfl ?_
      clear hHeld hA
      clear hsub hwr
      go_wp2_with fail
      exact ⟨⟨k + 1, by omega, by go_num, by rw [hMO]; exact RowX.wide (unhide RO) (Nat.le_refl _) hz5, bw⟩, by simp [intOf]; omega⟩
     ·have HMS := hide (unhide HMSK (by rw [unhide HNB2]; simpa using hN))
      have qN : (N != 0) = true := by simpa using hN
      repeat ((first | (refine takeA ?_ (unhide hA) rfl rfl (by rfl) (fun _ _ _ h => h) ?_ hHeld ?_; rotate_left; · (intro w hSw; (try dsimp only at hSw); go_simp <;> with_reducible rfl)) | refine skipA (unhide hA) rfl (by rfl) (fun _ _ _ h => h) hHeld ?_); simp only [Act.put, List.setIfInBounds_toArray, List.set_cons_zero, List.set_cons_succ, Nat.reduceAdd])
      refine doneA rfl ?_
      clear hHeld hA
      clear hsub hwr
      have NK := unhide HNKK
      have CN := hide (l2own_has (unhide HU).name (nameOk_parts NK).1 (fun q hq => (labelOk_length ((nameOk_parts NK).2 q hq)).2))
      clear NK
      obtain ⟨d0, d1, d2⟩ := cells3 (unhide KD)
      obtain ⟨c0, c1, c2, c3, c4, c5, c6⟩ := range7 (unhide HC)
      go_wp2_with fail
      clear d0 d1 d2 c0 c1 c2 c3 c4 c5 c6
      refine (unhide CN).mono ?_
      rintro e w6 ⟨v6, rfl, o6, b6⟩
      obtain ⟨n6, m6, rfl, _⟩ := o6.hasL.form
      have b7 := below_alloc (w := w6) (.cells #[.slice n6 rk.name.length m6] 44)
      have G7 := hide (heap_alloc_new w6 (.cells #[.slice n6 rk.name.length m6] 44))
      have O6 := hide (o6.here.below b7)
      have RO7 := hide (RowX.below (ownsNm 53 5) (RowX.below (ownsNm 53 5) (unhide RO) b6) b7)
      have q7 := below_next (below_next bw b6) b7
      have z5 := hz5
      have zW := bw.size
      have z6 := b6.size
      have z7 := b7.size
      obtain ⟨cs0, f0, g0, hx0, _⟩ := unhide RO7
      rw [unhide HLEN] at hx0
      clear o6 b6 b7 RO CN
      go_wp2_with (at_builtin; refine append_oneX rfl _ _ 37 44 rfl Tryz.underlying37 _ 1 24 (by omega) (by omega) info_NmC2 rfl W.heap.size (.slice (some ⟨bo, oo, none⟩) L vc) L rfl w6.heap.size [.slice n6 rk.name.length m6] rfl ⟨cs0, hx0⟩ (unhide G7) rfl (by simp [Value.oneCell']) (by omega) q7.size ?_)
      intro v8 w8 h8 g8 hw8
      have row8 := RowX.snoc (ownsNm 53 5) (x := rk.name) (us := [.slice n6 rk.name.length m6]) (unhide RO7) (C := w5.heap.size) (D := w6.heap.size) (by omega) (by omega) (by omega) ⟨_, rfl, unhide O6⟩ (by omega) g8 (by rw [World.size_alloc]; exact hw8) (by rw [unhide HLEN]; exact h8)
      rw [← unhide HMS] at row8
      have ROW8 := hide row8
      have bb8 := q7.grown g8 q7.size (fun j e => (World.ownsRow.lt hx0 j e).1)
      clear hx0 h8 g8 hw8 O6 RO7 q7 row8 G7
      go_wp2_with fail
      exact ⟨⟨k + 1, by omega, by go_num, unhide ROW8, bb8⟩, by simp [intOf]; omega⟩
   ·obtain rfl : k = n := by omega
    obtain ⟨d0, d1, d2⟩ := cells3 (unhide KR)
    go_wp2_with fail
    go_ret
    exact ⟨_, rfl, RowX.wide hr (by omega) (Nat.le_refl _), bWr⟩
end Go.Proofs.YtpolekinfobecaaGreat

namespace Go.Proofs.YtpolekinfobecaaGreat
open Go.RowKit
set_option linter.unusedVariables false

set_option maxHeartbeats 1000000 in
set_option maxRecDepth 100000 in
theorem eqNameS_has {v v' : Value} {xs : List (List (List Int))} {w : World} (h : HasNms w v xs) (h' : HasNms w v' xs) (hl2 : ∀ i, i < xs.length → SizeNm 2097152 (xs.getD i namZ)) :
  Calls Tryz.prog 17 #[v, v'] w fun e w' => e = .returned (.bool true) ∧ Below w.heap.size w w' := by
 obtain ⟨a, cap, rfl, hl, hm⟩ := h.form
 obtain ⟨a', cap', rfl, hl', hm'⟩ := h'.form
 unfold maxLen at hm hm'
 have HL := hide hl2
 clear hl2
 generalize hn : xs.length = m at *
 have HN := hide hn
 clear hn
 go_enter Tryz.func17, Tryz.ntmps17
 go_wp2
 go_loopw [5] (fun i wr => ∃ k : Nat, k ≤ m ∧ i = .int .i64 k ∧ Below w.heap.size w wr) (fun i _ => m - (intOf i).toNat)
 case atStart => exact ⟨0, Nat.zero_le _, rfl, Below.refl _ _⟩
 case round =>
  obtain ⟨k, hk, rfl, hb⟩ := hrel
  by_cases hlt : k < m
  ·obtain ⟨b, off, vs, rfl, hbl, hc, vn, rfl, hu⟩ := (keptNms h hb).here (k := k) (by rw [unhide HN]; exact hlt)
   obtain ⟨b', off', vs', rfl, hbl', hc', vn', rfl, hu'⟩ := (keptNms h' hb).here (k := k) (by rw [unhide HN]; exact hlt)
   have HLK := hide (unhide HL k hlt)
   generalize xs.getD k namZ = rk at *
   obtain ⟨na, nc, rfl, _⟩ := hu.form
   obtain ⟨na', nc', rfl, _⟩ := hu'.form
   rw [Nat.mul_one] at hc hc'
   have bd := below_drew (w := wr)
   have HU := hide (hu.below bd)
   have HU' := hide (hu'.below bd)
   have hbd := below_next hb bd
   have HC := hide (range_below hc hbl bd)
   have HC' := hide (range_below hc' hbl' bd)
   have hbld : b < wr.drew.heap.size := hbl
   have hbld' : b' < wr.drew.heap.size := hbl'
   clear hu hu' hc hc' hb
   go_wp2_with fail
   go_region_held3 (fun w' => w'.cell? ⟨b, off + k, none⟩ = some (.slice na rk.length nc) ∧ w'.cell? ⟨b', off' + k, none⟩ = some (.slice na' rk.length nc'))
    (first | exact ⟨range1 (unhide HC), range1 (unhide HC')⟩ | exact ⟨range1 (range_below (unhide HC) hbld b2), range1 (range_below (unhide HC') hbld' b2)⟩)
    (first
    | (go_at_call 40; refine (eqName_has (unhide HU) (unhide HU') (unhide HLK).names).mono ?_; rintro e w2 ⟨rfl, b2⟩))
   go_wp2
   exact ⟨⟨k + 1, by omega, by go_num, below_next hbd b2⟩, by simp [intOf]; omega⟩
  ·go_wp2
   go_ret
   exact ⟨rfl, hb⟩
end Go.Proofs.YtpolekinfobecaaGreat
