/-
  Contract of the program's CacheNames. Contracts of the specification's LabelOk.
-/
import Derived.Test.YtpolekinfobecaaGreatCacheNamesG17
import Derived.Test.YtpolekinfobecaaGreatCacheNamesG28
import Derived.Test.YtpolekinfobecaaGreatCacheNamesG29
import Derived.Test.YtpolekinfobecaaGreatCacheNamesG30
import Derived.Test.YtpolekinfobecaaGreatCacheNamesG08
import Derived.Test.YtpolekinfobecaaGreatCacheNamesG01
namespace Go.Proofs.YtpolekinfobecaaGreat
open Go.RowKit
set_option linter.unusedVariables false

theorem info_NmC : (Tryz.prog.info? 44).map (fun i => (i.zero, i.size, i.bytes)) = some (some (.agg #[.slice none 0 0]), 1, 24) := by kernel_rfl

set_option maxHeartbeats 4000000 in
set_option maxRecDepth 100000 in
theorem implCacheNames_own {v : Value} {c : Ca} {w : World} (h : HasSs w v c.slots) :
  Calls Tryz.prog 16 #[.agg #[.int .i64 c.now, .int .i64 c.turn, v]] w fun e w' => ∃ v', e = .returned v' ∧ RowX 1 (OwnNm 53 5) namZ w.heap.size w'.heap.size 44 w' v' (cacheNames c) ∧ Below w.heap.size w w' := by
 obtain ⟨a, ca, rfl, hla, hma⟩ := h.form
 unfold maxLen at hma
 have CO := fun (w : World) (h : HasSs w (.slice a c.slots.length ca) c.slots) => implCacheOk_has (c := c) h
 have b0 := below_alloc (w := w) (.cells #[.int .i64 c.now, .int .i64 c.turn, .slice a c.slots.length ca] 29)
 have KK := hide (heap_alloc_new w (.cells #[.int .i64 c.now, .int .i64 c.turn, .slice a c.slots.length ca] 29))
 cases hok : cacheOk c with
 | false =>
  rw [show cacheNames c = [] from if_neg (by rw [hok]; simp)]
  rw [hok] at CO
  replace CO := hide (CO _ (keptSs h b0))
  clear h hok hla
  generalize c.now = now at *
  generalize c.turn = turn at *
  generalize c.slots.length = n at *
  obtain ⟨d0, d1, d2⟩ := cells3 (unhide KK)
  go_enter Tryz.func16, Tryz.ntmps16
  go_wp2_with fail
  refine (unhide CO).mono ?_
  rintro e w1 ⟨rfl, b1⟩
  go_wp2_with fail
  go_ret
  exact ⟨_, rfl, RowX.nil _, below_next b0 b1⟩
 | true =>
  rw [show cacheNames c = namesC c.slots c.slots.length from if_pos hok]
  obtain ⟨h8, hnk⟩ := cacheOk_names hok
  rw [hok] at CO
  replace CO := hide (CO _ (keptSs h b0))
  have HMN := hide (fun k (hb : newB c.slots k = true) => namesC_new hb)
  have HMO := hide (fun k (hb : newB c.slots k = false) => namesC_old hb)
  have HLE := hide (namesC_len c.slots)
  have HNB := hide (fun k => (show newB c.slots k = (decide (k = 0) || decide (cmpN (c.slots.getD (k - 1) sltZ).name (c.slots.getD k sltZ).name ≠ 0)) from rfl))
  have HNK := hide hnk
  clear hok hnk
  generalize namesC c.slots = M at *
  generalize newB c.slots = NB at *
  generalize c.now = now at *
  generalize c.turn = turn at *
  generalize c.slots = l at *
  generalize hn : l.length = n at *
  have HN := hide hn
  have H := hide h
  clear hn h
  obtain ⟨d0, d1, d2⟩ := cells3 (unhide KK)
  go_enter Tryz.func16, Tryz.ntmps16
  go_wp2_with fail
  clear d0 d1 d2
  generalize w.alloc (.cells #[.int .i64 now, .int .i64 turn, .slice a n ca] 29) = W0 at *
  refine (unhide CO).mono ?_
  rintro e W ⟨rfl, b1⟩
  have bW0 := below_next b0 b1
  have KD0 := hide (block_kept b1 (unhide KK))
  have zW0 := bW0.size
  have zK := block_lt (unhide KK)
  clear CO KK b0 b1
  obtain ⟨d0, d1, d2⟩ := cells3 (unhide KD0)
  go_wp2_with fail
  clear d0 d1 d2
  go_loopw [3, 12] (fun o i wr => ∃ k : Nat, k ≤ n ∧ i = .int .i64 k ∧ RowX 1 (OwnNm 53 5) namZ W.heap.size wr.heap.size 44 wr o (M k) ∧ Below W.heap.size W wr) (fun _ i _ => n - (intOf i).toNat)
  case atStart => exact ⟨0, Nat.zero_le _, rfl, by rw [show M 0 = [] from List.eq_nil_of_length_eq_zero (by have := unhide HLE 0; omega)]; exact RowX.nil _, Below.refl _ _⟩
  case round =>
   obtain ⟨k, hk, rfl, hr, hb⟩ := hrel
   have bWr := below_next bW0 hb
   have KR := hide (block_kept hb (unhide KD0))
   have HR := hide (keptSs (unhide H) bWr)
   obtain ⟨va, vc, rfl, _⟩ := hr.form
   have hL := unhide HLE k
   by_cases hlt : k < n
   ·obtain ⟨b, off, vs, rfl, hbl, hc, vn, vr, rfl, hu⟩ := (unhide HR).here (k := k) (by rw [unhide HN]; exact hlt)
    obtain ⟨na, nc, rfl, _⟩ := hu.name.form
    obtain ⟨ra, rc, rfl, _⟩ := hu.rrs.form
    have HNKK := hide (unhide HNK k hlt)
    have HNBK := hide (unhide HNB k)
    have HMSK := hide (unhide HMN k)
    have HMOK := hide (unhide HMO k)
    have ba := below_alloc (w := wr) (.cells #[.slice na (l.getD k sltZ).name.length nc, .int .i64 (l.getD k sltZ).type, .int .i64 (l.getD k sltZ).kind, .slice ra (l.getD k sltZ).rrs.length rc, .int .i64 (l.getD k sltZ).rank, .int .i64 (l.getD k sltZ).till, .int .i64 (l.getD k sltZ).used] 47)
    have K10 := hide (heap_alloc_new wr (.cells #[.slice na (l.getD k sltZ).name.length nc, .int .i64 (l.getD k sltZ).type, .int .i64 (l.getD k sltZ).kind, .slice ra (l.getD k sltZ).rrs.length rc, .int .i64 (l.getD k sltZ).rank, .int .i64 (l.getD k sltZ).till, .int .i64 (l.getD k sltZ).used] 47))
    have KD := hide (block_kept ba (unhide KR))
    have HU0 := hide (hu.below ba)
    have RO0 := hide (RowX.below (ownsNm 53 5) hr ba)
    have bw0 := below_next hb ba
    have hbl0 := Nat.lt_of_lt_of_le hbl ba.size
    have hzA := ba.size
    have hki : (k : Int) < n := by omega
    generalize hLL : (M k).length = L at *
    have HLEN := hide hLL
    clear hLL
    by_cases hk0 : k = 0
    ·subst hk0
     rw [Nat.zero_mul, Nat.add_zero] at hc
     obtain ⟨c0, c1, c2, c3, c4, c5, c6⟩ := range7 hc
     have hnew : NB 0 = true := by rw [unhide HNBK]; rfl
     have HMS := hide (unhide HMSK hnew)
     clear hc hu hb hr HNBK HMSK HMOK hnew HR KR ba
     generalize l.getD 0 sltZ = rk at *
     go_wp2_with fail
     clear c0 c1 c2 c3 c4 c5 c6
     generalize wr.alloc (.cells #[.slice na rk.name.length nc, .int .i64 rk.type, .int .i64 rk.kind, .slice ra rk.rrs.length rc, .int .i64 rk.rank, .int .i64 rk.till, .int .i64 rk.used] 47) = WA at *
     have bd := below_drew (w := WA)
     have bw := below_next bw0 bd
     have K1 := hide (block_kept bd (unhide K10))
     have HU := hide ((unhide HU0).below bd)
     have RO := hide (RowX.below (ownsNm 53 5) (unhide RO0) bd)
     have hz5 : wr.heap.size ≤ WA.drew.heap.size := Nat.le_trans hzA bd.size
     clear bw0 bd K10 HU0 RO0
     refine startA (by kernel_rfl) ⟨by kernel_rfl, by kernel_rfl⟩ (fun w' => (w'.cell? ⟨wr.heap.size, 0, none⟩ = some (.slice na rk.name.length nc) ∧ w'.cell? ⟨wr.heap.size, 1, none⟩ = some (.int .i64 rk.type) ∧ w'.cell? ⟨wr.heap.size, 2, none⟩ = some (.int .i64 rk.kind) ∧ w'.cell? ⟨wr.heap.size, 3, none⟩ = some (.slice ra rk.rrs.length rc) ∧ w'.cell? ⟨wr.heap.size, 4, none⟩ = some (.int .i64 rk.rank) ∧ w'.cell? ⟨wr.heap.size, 5, none⟩ = some (.int .i64 rk.till) ∧ w'.cell? ⟨wr.heap.size, 6, none⟩ = some (.int .i64 rk.used))) (cells7 (unhide K1)) (fun hA hHeld => ?_)
     replace hA := hide hA
     repeat ((first | (refine takeA ?_ (unhide hA) rfl rfl (by rfl) (fun _ _ _ h => h) ?_ hHeld ?_; rotate_left; · (intro w hSw; (try dsimp only at hSw); go_simp <;> with_reducible rfl)) | refine skipA (unhide hA) rfl (by rfl) (fun _ _ _ h => h) hHeld ?_); simp only [Act.put, List.setIfInBounds_toArray, List.set_cons_zero, List.set_cons_succ, Nat.reduceAdd])
     refine doneA rfl ?_
     clear hHeld hA
     have NK := unhide HNKK
     have CN := hide (copyName_has (unhide HU).name (nameOk_parts NK).1 (fun q hq => (labelOk_length ((nameOk_parts NK).2 q hq)).2))
     clear NK
     obtain ⟨e0, e1, e2, e3, e4, e5, e6⟩ := cells7 (unhide K1)
     go_wp2_with fail
     clear e0 e1 e2 e3 e4 e5 e6
     refine (unhide CN).mono ?_
     rintro e w6 ⟨v6, rfl, o6, b6⟩
     obtain ⟨n6, m6, rfl, _⟩ := o6.hasL.form
     have b7 := below_alloc (w := w6) (.cells #[.slice n6 rk.name.length m6] 44)
     have G7 := hide (heap_alloc_new w6 (.cells #[.slice n6 rk.name.length m6] 44))
     have O6 := hide (o6.here.below b7)
     have RO7 := hide (RowX.below (ownsNm 53 5) (RowX.below (ownsNm 53 5) (unhide RO) b6) b7)
     have q7 := below_next (below_next bw b6) b7
     have z5 := hz5
     have zW := bw.size
     have z6 := b6.size
     have z7 := b7.size
     obtain ⟨cs0, f0, g0, hx0, _⟩ := unhide RO7
     rw [unhide HLEN] at hx0
     clear o6 b6 b7 RO CN
     go_wp2_with (at_builtin; refine append_oneX rfl _ _ 37 44 rfl Tryz.underlying37 _ 1 24 (by omega) (by omega) info_NmC rfl W.heap.size (.slice va L vc) L rfl w6.heap.size [.slice n6 rk.name.length m6] rfl ⟨cs0, hx0⟩ (unhide G7) rfl (by simp [Value.oneCell']) (by omega) q7.size ?_)
     intro v8 w8 h8 g8 hw8
     have row8 := RowX.snoc (ownsNm 53 5) (x := rk.name) (us := [.slice n6 rk.name.length m6]) (unhide RO7) (C := WA.drew.heap.size) (D := w6.heap.size) (by omega) (by omega) (by omega) ⟨_, rfl, unhide O6⟩ (by omega) g8 (by rw [World.size_alloc]; exact hw8) (by rw [unhide HLEN]; exact h8)
     rw [← unhide HMS] at row8
     have ROW8 := hide row8
     have bb8 := q7.grown g8 q7.size (fun j e => (World.ownsRow.lt hx0 j e).1)
     clear hx0 h8 g8 hw8 O6 RO7 q7 row8 G7
     go_wp2_with fail
     exact ⟨⟨0 + 1, by omega, by go_num, unhide ROW8, bb8⟩, by simp [intOf]; omega⟩
    ·obtain ⟨k0, hke⟩ : ∃ k0, k = k0 + 1 := ⟨k - 1, by omega⟩
     have HNB2 := hide (show NB k = decide (cmpN (l.getD k0 sltZ).name (l.getD k sltZ).name ≠ 0) by rw [unhide HNBK, decide_eq_false hk0, Bool.false_or, show k - 1 = k0 by omega])
     obtain ⟨b', off', vs', hbe, hbl', hp, vn', vr', hvs', hu'⟩ := (unhide HR).here (k := k0) (by rw [unhide HN]; omega)
     simp only [Option.some.injEq, Addr.mk.injEq, and_true] at hbe
     obtain ⟨rfl, rfl⟩ := hbe
     subst hvs'
     obtain ⟨na', nc', rfl, _⟩ := hu'.name.form
     obtain ⟨ra', rc', rfl, _⟩ := hu'.rrs.form
     have HP0 := hide (range_below hp hbl ba)
     have HUP0 := hide (hu'.below ba)
     have HNKP := hide (unhide HNK k0 (by omega))
     obtain ⟨c0, c1, c2, c3, c4, c5, c6⟩ := range7 hc
     have hkp : (0 : Int) < (k : Nat) := by omega
     have hkpn : 0 < k := by omega
     have hke0 : ((k : Nat) == (0 : Int)) = false := by rw [beq_eq_false_iff_ne]; omega
     have hsub : ((k : Nat) : Int) - 1 = (k0 : Nat) := by omega
     have hwr : IntKind.i64.wrap (k0 : Int) = (k0 : Nat) := wrap_small k0 (by omega)
     have hkm : (k0 : Int) < n := by omega
     have hkmn : k0 < n := by omega
     have HKE := hide hke
     clear hc hp hu hu' hb hr HNBK HR KR ba hke hk0 hbl hbl'
     generalize l.getD k sltZ = rk at *
     generalize l.getD k0 sltZ = rp at *
     have NC := hide (fun (w : World) (h1 : HasL w (.slice na' rp.name.length nc') rp.name) (h2 : HasL w (.slice na rk.name.length nc) rk.name) => (implNameCmp_has h1 h2).mono (R' := fun e w' => e = .returned (.int .i64 (cmpN rp.name rk.name)) ∧ Below w.heap.size w w') (fun e w' hh => by rw [show nameCmp rp.name rk.name = cmpN rp.name rk.name from if_pos ⟨unhide HNKP, unhide HNKK⟩] at hh; exact hh))
     generalize cmpN rp.name rk.name = N at *
     go_wp2_with fail
     clear c0 c1 c2 c3 c4 c5 c6
     generalize wr.alloc (.cells #[.slice na rk.name.length nc, .int .i64 rk.type, .int .i64 rk.kind, .slice ra rk.rrs.length rc, .int .i64 rk.rank, .int .i64 rk.till, .int .i64 rk.used] 47) = WA at *
     have bd := below_drew (w := WA)
     have bw1 := below_next bw0 bd
     have K11 := hide (block_kept bd (unhide K10))
     have KD1 := hide (block_kept bd (unhide KD))
     have HU1 := hide ((unhide HU0).below bd)
     have HUP := hide ((unhide HUP0).below bd)
     have HP1 := hide (range_below (unhide HP0) hbl0 bd)
     have RO1 := hide (RowX.below (ownsNm 53 5) (unhide RO0) bd)
     have hbl1 := Nat.lt_of_lt_of_le hbl0 bd.size
     have hz1 : wr.heap.size ≤ WA.drew.heap.size := Nat.le_trans hzA bd.size
     clear bw0 bd K10 HU0 RO0 HUP0 HP0 KD hbl0
     refine startA (by kernel_rfl) ⟨by kernel_rfl, by kernel_rfl⟩ (fun w' => (w'.cell? ⟨w.heap.size, 0, none⟩ = some (.int .i64 now) ∧ w'.cell? ⟨w.heap.size, 1, none⟩ = some (.int .i64 turn) ∧ w'.cell? ⟨w.heap.size, 2, none⟩ = some (.slice (some ⟨b, off, none⟩) n ca)) ∧ (w'.cell? ⟨wr.heap.size, 0, none⟩ = some (.slice na rk.name.length nc) ∧ w'.cell? ⟨wr.heap.size, 1, none⟩ = some (.int .i64 rk.type) ∧ w'.cell? ⟨wr.heap.size, 2, none⟩ = some (.int .i64 rk.kind) ∧ w'.cell? ⟨wr.heap.size, 3, none⟩ = some (.slice ra rk.rrs.length rc) ∧ w'.cell? ⟨wr.heap.size, 4, none⟩ = some (.int .i64 rk.rank) ∧ w'.cell? ⟨wr.heap.size, 5, none⟩ = some (.int .i64 rk.till) ∧ w'.cell? ⟨wr.heap.size, 6, none⟩ = some (.int .i64 rk.used)) ∧ (w'.cell? ⟨b, off + k0 * 7, none⟩ = some (.slice na' rp.name.length nc') ∧ w'.cell? ⟨b, off + k0 * 7 + 1, none⟩ = some (.int .i64 rp.type) ∧ w'.cell? ⟨b, off + k0 * 7 + 2, none⟩ = some (.int .i64 rp.kind) ∧ w'.cell? ⟨b, off + k0 * 7 + 3, none⟩ = some (.slice ra' rp.rrs.length rc') ∧ w'.cell? ⟨b, off + k0 * 7 + 4, none⟩ = some (.int .i64 rp.rank) ∧ w'.cell? ⟨b, off + k0 * 7 + 5, none⟩ = some (.int .i64 rp.till) ∧ w'.cell? ⟨b, off + k0 * 7 + 6, none⟩ = some (.int .i64 rp.used))) ⟨cells3 (unhide KD1), cells7 (unhide K11), range7 (unhide HP1)⟩ (fun hA hHeld => ?_)
     replace hA := hide hA
     repeat ((first | (refine takeA ?_ (unhide hA) rfl rfl (by rfl) (fun _ _ _ h => h) ?_ hHeld ?_; rotate_left; · (intro w hSw; (try dsimp only at hSw); go_simp <;> with_reducible rfl)) | refine skipA (unhide hA) rfl (by rfl) (fun _ _ _ h => h) hHeld ?_); simp only [Act.put, List.setIfInBounds_toArray, List.set_cons_zero, List.set_cons_succ, Nat.reduceAdd])
     refine runA (unhide hA) rfl (by kernel_rfl) (by kernel_rfl) (fun K hK => ?_)
     have HK := hide hK
     clear hK hHeld
     go_simp
     refine (unhide NC _ (unhide HUP).name (unhide HU1).name).mono ?_
     rintro e w5 ⟨rfl, b5⟩
     have bw := below_next bw1 b5
     have K1 := hide (block_kept b5 (unhide K11))
     have KD := hide (block_kept b5 (unhide KD1))
     have HU := hide ((unhide HU1).below b5)
     have HP := hide (range_below (unhide HP1) hbl1 b5)
     have RO := hide (RowX.below (ownsNm 53 5) (unhide RO1) b5)
     have hz5 : wr.heap.size ≤ w5.heap.size := Nat.le_trans hz1 b5.size
     clear b5 bw1 K11 KD1 HU1 HUP HP1 RO1 hz1
     refine (unhide HK).out _ _ ⟨cells3 (unhide KD), cells7 (unhide K1), range7 (unhide HP)⟩ (fun hHeld => ?_)
     clear HK K
     simp only [Nat.reduceAdd]
     by_cases hN : N = 0
     ·subst hN
      have hMO := unhide HMOK (by rw [unhide HNB2]; simp)
      repeat ((first | (refine takeA ?_ (unhide hA) rfl rfl (by rfl) (fun _ _ _ h => h) ?_ hHeld ?_; rotate_left; · (intro w hSw; (try dsimp only at hSw); go_simp <;> with_reducible rfl)) | refine skipA (unhide hA) rfl (by rfl) (fun _ _ _ h => h) hHeld ?_); simp only [Act.put, List.setIfInBounds_toArray, List.set_cons_zero, List.set_cons_succ, Nat.reduceAdd])
      refine doneA rfl ?_
      clear hHeld hA
      clear hsub hwr
      go_wp2_with fail
      exact ⟨⟨k + 1, by omega, by go_num, by rw [hMO]; exact RowX.wide (unhide RO) (Nat.le_refl _) hz5, bw⟩, by simp [intOf]; omega⟩
     ·have HMS := hide (unhide HMSK (by rw [unhide HNB2]; simpa using hN))
      have qN : (N != 0) = true := by simpa using hN
      repeat ((first | (refine takeA ?_ (unhide hA) rfl rfl (by rfl) (fun _ _ _ h => h) ?_ hHeld ?_; rotate_left; · (intro w hSw; (try dsimp only at hSw); go_simp <;> with_reducible rfl)) | refine skipA (unhide hA) rfl (by rfl) (fun _ _ _ h => h) hHeld ?_); simp only [Act.put, List.setIfInBounds_toArray, List.set_cons_zero, List.set_cons_succ, Nat.reduceAdd])
      refine doneA rfl ?_
      clear hHeld hA
      clear hsub hwr
      have NK := unhide HNKK
      have CN := hide (copyName_has (unhide HU).name (nameOk_parts NK).1 (fun q hq => (labelOk_length ((nameOk_parts NK).2 q hq)).2))
      clear NK
      obtain ⟨e0, e1, e2, e3, e4, e5, e6⟩ := cells7 (unhide K1)
      go_wp2_with fail
      clear e0 e1 e2 e3 e4 e5 e6
      refine (unhide CN).mono ?_
      rintro e w6 ⟨v6, rfl, o6, b6⟩
      obtain ⟨n6, m6, rfl, _⟩ := o6.hasL.form
      have b7 := below_alloc (w := w6) (.cells #[.slice n6 rk.name.length m6] 44)
      have G7 := hide (heap_alloc_new w6 (.cells #[.slice n6 rk.name.length m6] 44))
      have O6 := hide (o6.here.below b7)
      have RO7 := hide (RowX.below (ownsNm 53 5) (RowX.below (ownsNm 53 5) (unhide RO) b6) b7)
      have q7 := below_next (below_next bw b6) b7
      have z5 := hz5
      have zW := bw.size
      have z6 := b6.size
      have z7 := b7.size
      obtain ⟨cs0, f0, g0, hx0, _⟩ := unhide RO7
      rw [unhide HLEN] at hx0
      clear o6 b6 b7 RO CN
      go_wp2_with (at_builtin; refine append_oneX rfl _ _ 37 44 rfl Tryz.underlying37 _ 1 24 (by omega) (by omega) info_NmC rfl W.heap.size (.slice va L vc) L rfl w6.heap.size [.slice n6 rk.name.length m6] rfl ⟨cs0, hx0⟩ (unhide G7) rfl (by simp [Value.oneCell']) (by omega) q7.size ?_)
      intro v8 w8 h8 g8 hw8
      have row8 := RowX.snoc (ownsNm 53 5) (x := rk.name) (us := [.slice n6 rk.name.length m6]) (unhide RO7) (C := w5.heap.size) (D := w6.heap.size) (by omega) (by omega) (by omega) ⟨_, rfl, unhide O6⟩ (by omega) g8 (by rw [World.size_alloc]; exact hw8) (by rw [unhide HLEN]; exact h8)
      rw [← unhide HMS] at row8
      have ROW8 := hide row8
      have bb8 := q7.grown g8 q7.size (fun j e => (World.ownsRow.lt hx0 j e).1)
      clear hx0 h8 g8 hw8 O6 RO7 q7 row8 G7
      go_wp2_with fail
      exact ⟨⟨k + 1, by omega, by go_num, unhide ROW8, bb8⟩, by simp [intOf]; omega⟩
   ·obtain rfl : k = n := by omega
    go_wp2_with fail
    go_ret
    exact ⟨_, rfl, RowX.wide hr (by omega) (Nat.le_refl _), bWr⟩
end Go.Proofs.YtpolekinfobecaaGreat

namespace Go.Proofs.YtpolekinfobecaaGreat
open Go.RowKit
set_option linter.unusedVariables false

theorem ssign_cases (c : Int) : (97 ≤ c ∧ c ≤ 122) ∨ (97 ≤ c ∧ 122 < c) ∨ (c < 97 ∧ 48 ≤ c ∧ c ≤ 57) ∨ (c < 97 ∧ 48 ≤ c ∧ 57 < c ∧ c ≠ 45) ∨ (c < 97 ∧ c < 48 ∧ c = 45) ∨ (c < 97 ∧ c < 48 ∧ c ≠ 45) := by omega

set_option maxHeartbeats 1600000 in
set_option maxRecDepth 100000 in
theorem specLabelOk_has {v : Value} {l : List Int} {w : World} (h : Has w v l) :
  Calls Tryz.prog 44 #[v] w fun e w' => e = .returned (.bool (labelOk l)) ∧ w = w' := by
 have hbd := h.bound
 unfold maxLen at hbd
 obtain ⟨a, cap, rfl, hL⟩ := h.form
 by_cases h0 : l.length = 0
 ·rw [labelOk_short (by omega), h0]
  go_enter Tryz.func44, Tryz.ntmps44
  go_wp2
  go_ret
  exact ⟨rfl, rfl⟩
 ·by_cases h1 : 15 < l.length
  ·rw [labelOk_short (by omega)]
   generalize hn : l.length = n at *
   go_enter Tryz.func44, Tryz.ntmps44
   go_wp2
   go_ret
   exact ⟨rfl, rfl⟩
  ·have h2 : l.length ≤ 15 := by omega
   have hyes := hide (fun (hs : ∀ j, j < l.length → signOk (l.getD j 0) = true) => labelOk_yes (l := l) (by omega) h2 hs)
   have hno := hide (fun (j : Nat) (hj : j < l.length) (hs : signOk (l.getD j 0) = false) => labelOk_sign hj hs)
   generalize hok : labelOk l = ok at *
   clear hok
   generalize hn : l.length = n at *
   have HN := hide hn
   clear hn
   have hn1 : (1 : Int) ≤ n := by omega
   go_enter Tryz.func44, Tryz.ntmps44
   go_wp2
   go_loop [3] (fun i => ∃ k : Nat, k ≤ n ∧ i = .int .i64 k ∧ Hid (∀ j, j < k → signOk (l.getD j 0) = true)) (fun i => n - (intOf i).toNat)
   case atStart => exact ⟨0, Nat.zero_le _, rfl, hide (fun j hj => absurd hj (Nat.not_lt_zero _))⟩
   case round =>
    obtain ⟨k, hk, rfl, hall⟩ := hrel
    by_cases hlt : k < n
    ·obtain ⟨b, off, rfl, hbl, hc⟩ := hL.here (k := k) (by rw [unhide HN]; exact hlt)
     have hone := hide (fun (hs : signOk (l.getD k 0) = true) => (show ∀ j, j < k + 1 → signOk (l.getD j 0) = true from fun j hj => by
      by_cases e : j = k
      ·subst e; exact hs
      ·exact unhide hall j (by omega)))
     have hnok := hide (fun (hs : signOk (l.getD k 0) = false) => unhide hno k hlt hs)
     generalize hx : l.getD k 0 = x at *
     rcases ssign_cases x with ⟨h1, h2⟩ | ⟨h1, h2⟩ | ⟨h1, h2, h3⟩ | ⟨h1, h2, h3, h4⟩ | ⟨h1, h2, rfl⟩ | ⟨h1, h2, h3⟩
     ·have hs : signOk x = true := decide_eq_true (by omega)
      go_wp2
      exact ⟨⟨k + 1, by omega, by go_num, hide (unhide hone hs)⟩, by simp [intOf]; omega⟩
     ·have hs : signOk x = false := decide_eq_false (by omega)
      have hq := unhide hnok hs
      subst hq
      have h8 : (x == 45) = false := by simp; omega
      have h5 : 48 ≤ x := by omega
      have h6 : ¬ x ≤ 57 := by omega
      have h7 : ¬ x ≤ 122 := by omega
      go_wp2
      go_ret
      exact ⟨rfl, rfl⟩
     ·have hs : signOk x = true := decide_eq_true (by omega)
      have h5 : ¬ 97 ≤ x := by omega
      go_wp2
      exact ⟨⟨k + 1, by omega, by go_num, hide (unhide hone hs)⟩, by simp [intOf]; omega⟩
     ·have hs : signOk x = false := decide_eq_false (by omega)
      have hq := unhide hnok hs
      subst hq
      have h8 : (x == 45) = false := by simp; omega
      have h5 : ¬ 97 ≤ x := by omega
      have h6 : ¬ x ≤ 57 := by omega
      go_wp2
      go_ret
      exact ⟨rfl, rfl⟩
     ·have hs : signOk 45 = true := rfl
      go_wp2
      exact ⟨⟨k + 1, by omega, by go_num, hide (unhide hone hs)⟩, by simp [intOf]; omega⟩
     ·have hs : signOk x = false := decide_eq_false (by omega)
      have hq := unhide hnok hs
      subst hq
      have h8 : (x == 45) = false := by simp; omega
      have h5 : ¬ 97 ≤ x := by omega
      have h6 : ¬ 48 ≤ x := by omega
      go_wp2
      go_ret
      exact ⟨rfl, rfl⟩
    ·obtain rfl : k = n := by omega
     have hq := unhide hyes (unhide hall)
     subst hq
     go_wp2
     go_ret
     exact ⟨rfl, rfl⟩
end Go.Proofs.YtpolekinfobecaaGreat
