/-
  Contract of the program's CacheTick.
-/
import Derived.Test.YtpolekinfobecaaGreatCacheTickG15
import Derived.Test.YtpolekinfobecaaGreatCacheTickG27
import Derived.Test.YtpolekinfobecaaGreatCacheTickG31
import Derived.Test.YtpolekinfobecaaGreatCacheTickG25
import Derived.Test.YtpolekinfobecaaGreatCacheTickG30
namespace Go.Proofs.YtpolekinfobecaaGreat
open Go.RowKit
set_option linter.unusedVariables false

theorem info_SlC : (Tryz.prog.info? 47).map (fun i => (i.zero, i.size, i.bytes)) = some (some (.agg #[.slice none 0 0, .int .i64 0, .int .i64 0, .slice none 0 0, .int .i64 0, .int .i64 0, .int .i64 0]), 7, 88) := by kernel_rfl

set_option maxHeartbeats 4000000 in
set_option maxRecDepth 100000 in
theorem implCacheTick_own {v : Value} {c : Ca} {w : World} (now : Int) (h : HasSs w v c.slots) :
  Calls Tryz.prog 12 #[.agg #[.int .i64 c.now, .int .i64 c.turn, v], .int .i64 now] w fun e w' => ∃ v', e = .returned (.tuple #[.agg #[.int .i64 (tickC c now).now, .int .i64 (tickC c now).turn, v'], .int .i64 (tickN c now)]) ∧ RowX 7 (OwnSl 56 53 5 3) sltZ w.heap.size w'.heap.size 47 w' v' (tickC c now).slots ∧ Below w.heap.size w w' := by
 obtain ⟨a, ca, rfl, hla, hma⟩ := h.form
 unfold maxLen at hma
 have CO := fun (w : World) (h : HasSs w (.slice a c.slots.length ca) c.slots) => implCacheOk_has (c := c) h
 obtain ⟨hsz, k0, r0⟩ := box2 w (.cells #[.int .i64 c.now, .int .i64 c.turn, .slice a c.slots.length ca] 29) #[.int .i64 0, .int .i64 0, .slice none 0 0] 29
 have b0 := below2 w (.cells #[.int .i64 c.now, .int .i64 c.turn, .slice a c.slots.length ca] 29) (.cells #[.int .i64 0, .int .i64 0, .slice none 0 0] 29)
 have KK := hide k0
 have KR := hide r0
 have zr := block_lt r0
 clear hsz k0 r0
 cases hok : cacheOk c with
 | false =>
  have htk : tickOk c now = false := by unfold tickOk; rw [hok, Bool.false_and]
  rw [show tickC c now = ⟨0, 0, []⟩ from if_neg (by rw [htk]; simp), show tickN c now = 0 from if_neg (by rw [htk]; simp)]
  rw [hok] at CO
  replace CO := hide (CO _ (keptSs h b0))
  clear h hok hla htk
  generalize c.now = now0 at *
  generalize c.turn = turn at *
  generalize c.slots.length = n at *
  obtain ⟨d0, d1, d2⟩ := cells3 (unhide KK)
  go_enter Tryz.func12, Tryz.ntmps12
  go_wp2_with fail
  clear d0 d1 d2
  generalize (w.alloc (.cells #[.int .i64 now0, .int .i64 turn, .slice a n ca] 29)).alloc (.cells #[.int .i64 0, .int .i64 0, .slice none 0 0] 29) = W at *
  refine (unhide CO).mono ?_
  rintro e w1 ⟨rfl, b1⟩
  have bb := below_next b0 b1
  have R1 := hide (block_kept b1 (unhide KR))
  obtain ⟨g0, g1, g2⟩ := cells3 (unhide R1)
  obtain ⟨f0, f1, f2⟩ := frozen3 (unhide R1)
  go_wp2_with fail
  clear g0 g1 g2 f0 f1 f2
  have kf : (((w1.setCell ⟨w.heap.size + 1, 0, none⟩ (.int .i64 0)).setCell ⟨w.heap.size + 1, 1, none⟩ (.int .i64 0)).setCell ⟨w.heap.size + 1, 2, none⟩ (.slice none 0 0)).heap[w.heap.size + 1]? = some (.cells #[.int .i64 0, .int .i64 0, .slice none 0 0] 29) := block_setAt (block_setAt (block_setAt (unhide R1) 0 _) 1 _) 2 _
  have u5 := ((outside_set w1 (w.heap.size + 1) 0 (.int .i64 0)).trans (outside_set _ (w.heap.size + 1) 1 (.int .i64 0))).trans (outside_set _ (w.heap.size + 1) 2 (.slice none 0 0))
  refine bodyPost_ret (results_cell_tmp_row rfl _ _ (w.heap.size + 1) 29 #[.int .i64 0, .int .i64 0, .slice none 0 0] (0, 0) _ rfl kf Tryz.underlying29 rfl (by kernel_rfl)) rfl ?_
  exact ⟨_, rfl, RowX.nil _, u5.below bb (by omega)⟩
 | true =>
  obtain ⟨h8, hsh⟩ := cacheOk_short hok
  have hts : tickOk c now = (decide (c.now ≤ now) && decide (now ≤ 1000000)) := by unfold tickOk; rw [hok, Bool.true_and]
  rw [hok] at CO
  replace CO := hide (CO _ (keptSs h b0))
  have L8 := hide (show (liveL c.slots now c.slots.length).length ≤ c.slots.length from liveL_len _ _ _)
  clear hok
  by_cases hn1 : now < c.now
  ·have htk : tickOk c now = false := by rw [hts, decide_eq_false (by omega), Bool.false_and]
   rw [show tickC c now = ⟨0, 0, []⟩ from if_neg (by rw [htk]; simp), show tickN c now = 0 from if_neg (by rw [htk]; simp)]
   clear hts htk h hla h8 hsh L8
   generalize c.now = now0 at *
   generalize c.turn = turn at *
   generalize c.slots.length = n at *
   have qn1 : decide (now < now0) = true := decide_eq_true hn1
   obtain ⟨d0, d1, d2⟩ := cells3 (unhide KK)
   go_enter Tryz.func12, Tryz.ntmps12
   go_wp2_with fail
   clear d0 d1 d2
   generalize (w.alloc (.cells #[.int .i64 now0, .int .i64 turn, .slice a n ca] 29)).alloc (.cells #[.int .i64 0, .int .i64 0, .slice none 0 0] 29) = W at *
   refine (unhide CO).mono ?_
   rintro e w1 ⟨rfl, b1⟩
   have bb := below_next b0 b1
   have R1 := hide (block_kept b1 (unhide KR))
   obtain ⟨d0, d1, d2⟩ := cells3 (block_kept b1 (unhide KK))
   obtain ⟨g0, g1, g2⟩ := cells3 (unhide R1)
   obtain ⟨f0, f1, f2⟩ := frozen3 (unhide R1)
   go_wp2_with fail
   clear d0 d1 d2 g0 g1 g2 f0 f1 f2
   have kf : (((w1.setCell ⟨w.heap.size + 1, 0, none⟩ (.int .i64 0)).setCell ⟨w.heap.size + 1, 1, none⟩ (.int .i64 0)).setCell ⟨w.heap.size + 1, 2, none⟩ (.slice none 0 0)).heap[w.heap.size + 1]? = some (.cells #[.int .i64 0, .int .i64 0, .slice none 0 0] 29) := block_setAt (block_setAt (block_setAt (unhide R1) 0 _) 1 _) 2 _
   have u5 := ((outside_set w1 (w.heap.size + 1) 0 (.int .i64 0)).trans (outside_set _ (w.heap.size + 1) 1 (.int .i64 0))).trans (outside_set _ (w.heap.size + 1) 2 (.slice none 0 0))
   refine bodyPost_ret (results_cell_tmp_row rfl _ _ (w.heap.size + 1) 29 #[.int .i64 0, .int .i64 0, .slice none 0 0] (0, 0) _ rfl kf Tryz.underlying29 rfl (by kernel_rfl)) rfl ?_
   exact ⟨_, rfl, RowX.nil _, u5.below bb (by omega)⟩
  by_cases hn2 : 1000000 < now
  ·have htk : tickOk c now = false := by rw [hts, decide_eq_false (p := now ≤ 1000000) (by omega), Bool.and_false]
   rw [show tickC c now = ⟨0, 0, []⟩ from if_neg (by rw [htk]; simp), show tickN c now = 0 from if_neg (by rw [htk]; simp)]
   clear hts htk h hla h8 hsh L8
   generalize c.now = now0 at *
   generalize c.turn = turn at *
   generalize c.slots.length = n at *
   have qn1 : decide (now < now0) = false := decide_eq_false hn1
   obtain ⟨d0, d1, d2⟩ := cells3 (unhide KK)
   go_enter Tryz.func12, Tryz.ntmps12
   go_wp2_with fail
   clear d0 d1 d2
   generalize (w.alloc (.cells #[.int .i64 now0, .int .i64 turn, .slice a n ca] 29)).alloc (.cells #[.int .i64 0, .int .i64 0, .slice none 0 0] 29) = W at *
   refine (unhide CO).mono ?_
   rintro e w1 ⟨rfl, b1⟩
   have bb := below_next b0 b1
   have R1 := hide (block_kept b1 (unhide KR))
   obtain ⟨d0, d1, d2⟩ := cells3 (block_kept b1 (unhide KK))
   obtain ⟨g0, g1, g2⟩ := cells3 (unhide R1)
   obtain ⟨f0, f1, f2⟩ := frozen3 (unhide R1)
   go_wp2_with fail
   clear d0 d1 d2 g0 g1 g2 f0 f1 f2
   have kf : (((w1.setCell ⟨w.heap.size + 1, 0, none⟩ (.int .i64 0)).setCell ⟨w.heap.size + 1, 1, none⟩ (.int .i64 0)).setCell ⟨w.heap.size + 1, 2, none⟩ (.slice none 0 0)).heap[w.heap.size + 1]? = some (.cells #[.int .i64 0, .int .i64 0, .slice none 0 0] 29) := block_setAt (block_setAt (block_setAt (unhide R1) 0 _) 1 _) 2 _
   have u5 := ((outside_set w1 (w.heap.size + 1) 0 (.int .i64 0)).trans (outside_set _ (w.heap.size + 1) 1 (.int .i64 0))).trans (outside_set _ (w.heap.size + 1) 2 (.slice none 0 0))
   refine bodyPost_ret (results_cell_tmp_row rfl _ _ (w.heap.size + 1) 29 #[.int .i64 0, .int .i64 0, .slice none 0 0] (0, 0) _ rfl kf Tryz.underlying29 rfl (by kernel_rfl)) rfl ?_
   exact ⟨_, rfl, RowX.nil _, u5.below bb (by omega)⟩
  have htk : tickOk c now = true := by rw [hts, decide_eq_true (p := c.now ≤ now) (by omega), decide_eq_true (p := now ≤ 1000000) (by omega)]; rfl
  rw [show tickC c now = ⟨now, c.turn, liveL c.slots now c.slots.length⟩ from if_pos htk, show tickN c now = c.slots.length - (liveL c.slots now c.slots.length).length from if_pos htk]
  have qn1 : decide (now < c.now) = false := decide_eq_false hn1
  have qn2 : decide (1000000 < now) = false := decide_eq_false hn2
  have HYES := hide (fun k (hb : now < (c.slots.getD k sltZ).till) => liveL_yes (l := c.slots) hb)
  have HNO := hide (fun k (hb : ¬ now < (c.slots.getD k sltZ).till) => liveL_no (l := c.slots) hb)
  have HLE := hide (liveL_len c.slots now)
  have HSH := hide hsh
  have HQ1 := hide hn1
  have HQ2 := hide hn2
  clear hts htk hsh hn1 hn2 L8
  generalize liveL c.slots now = M at *
  generalize c.now = now0 at *
  generalize c.turn = turn at *
  generalize c.slots = l at *
  generalize hn : l.length = n at *
  have HN := hide hn
  have H := hide h
  clear hn h
  obtain ⟨d0, d1, d2⟩ := cells3 (unhide KK)
  go_enter Tryz.func12, Tryz.ntmps12
  go_wp2_with fail
  clear d0 d1 d2
  generalize (w.alloc (.cells #[.int .i64 now0, .int .i64 turn, .slice a n ca] 29)).alloc (.cells #[.int .i64 0, .int .i64 0, .slice none 0 0] 29) = W at *
  refine (unhide CO).mono ?_
  rintro e W1 ⟨rfl, b1⟩
  have bW := below_next b0 b1
  have KC := hide (block_kept b1 (unhide KK))
  have KS := hide (block_kept b1 (unhide KR))
  have zW := bW.size
  have zK := block_lt (unhide KC)
  have zS := block_lt (unhide KS)
  clear CO KK KR b0 b1 zr
  have b2 := below_alloc (w := W1) (.cells #[.int .i64 now, .int .i64 turn, .slice none 0 0] 29)
  have KO2 := hide (heap_alloc_new W1 (.cells #[.int .i64 now, .int .i64 turn, .slice none 0 0] 29))
  obtain ⟨d0, d1, d2⟩ := cells3 (unhide KC)
  obtain ⟨x0, x1, x2⟩ := cells3 (block_kept b2 (unhide KC))
  go_wp2_with fail
  clear d0 d1 d2 x0 x1 x2
  have zO := block_lt (unhide KO2)
  have z2 := b2.size
  have z2u : (W1.alloc (.cells #[.int .i64 now, .int .i64 turn, .slice none 0 0] 29)).heap.size ≤ W1.heap.size + 1 := by rw [World.size_alloc]; exact Nat.le_refl _
  generalize hW2 : W1.alloc (.cells #[.int .i64 now, .int .i64 turn, .slice none 0 0] 29) = W2 at *
  clear hW2
  go_loopw [30] (fun i wr => ∃ (k : Nat) (o : Value), k ≤ n ∧ i = .int .i64 k ∧ wr.heap[W1.heap.size]? = some (.cells #[.int .i64 now, .int .i64 turn, o] 29) ∧ RowX 7 (OwnSl 56 53 5 3) sltZ W2.heap.size wr.heap.size 47 wr o (M k) ∧ Below W1.heap.size W1 wr) (fun i _ => n - (intOf i).toNat)
  case atStart => exact ⟨0, .slice none 0 0, Nat.zero_le _, rfl, unhide KO2, by rw [show M 0 = [] from List.eq_nil_of_length_eq_zero (by have := unhide HLE 0; omega)]; exact RowX.nil _, b2⟩
  case round =>
   obtain ⟨k, o, hk, rfl, ko, hr, hb⟩ := hrel
   have bWr := below_next bW hb
   have HR := hide (keptSs (unhide H) bWr)
   have KCr := hide (block_kept hb (unhide KC))
   obtain ⟨va, vc, rfl, _⟩ := hr.form
   have hL := unhide HLE k
   by_cases hlt : k < n
   ·obtain ⟨b, off, vs, rfl, hbl, hc, vn, vr, rfl, hu⟩ := (unhide HR).here (k := k) (by rw [unhide HN]; exact hlt)
    obtain ⟨na, nc, rfl, _⟩ := hu.name.form
    obtain ⟨ra, rc, rfl, _⟩ := hu.rrs.form
    have HSHK := hide (unhide HSH k hlt)
    have HYK := hide (unhide HYES k)
    have HNK := hide (unhide HNO k)
    have hki : (k : Int) < n := by omega
    obtain ⟨c0, c1, c2, c3, c4, c5, c6⟩ := range7 hc
    have ba := below_alloc (w := wr) (.cells #[.slice na (l.getD k sltZ).name.length nc, .int .i64 (l.getD k sltZ).type, .int .i64 (l.getD k sltZ).kind, .slice ra (l.getD k sltZ).rrs.length rc, .int .i64 (l.getD k sltZ).rank, .int .i64 (l.getD k sltZ).till, .int .i64 (l.getD k sltZ).used] 47)
    have K10 := hide (heap_alloc_new wr (.cells #[.slice na (l.getD k sltZ).name.length nc, .int .i64 (l.getD k sltZ).type, .int .i64 (l.getD k sltZ).kind, .slice ra (l.getD k sltZ).rrs.length rc, .int .i64 (l.getD k sltZ).rank, .int .i64 (l.getD k sltZ).till, .int .i64 (l.getD k sltZ).used] 47))
    have HU0 := hide (hu.below ba)
    have RO0 := hide (RowX.below (ownsSl 56 53 5 3) hr ba)
    have KO0 := hide (block_kept ba ko)
    have bb0 := below_next hb ba
    have hzA := ba.size
    have zob := block_lt ko
    obtain ⟨o0, o1, o2⟩ := cells3 (unhide KO0)
    obtain ⟨s0, s1, s2, s3, s4, s5, s6⟩ := cells7 (unhide K10)
    generalize hLL : (M k).length = L at *
    have HLEN := hide hLL
    clear hLL hc hu hr ba HR ko hb
    generalize l.getD k sltZ = rk at *
    by_cases hlv : now < rk.till
    ·have HMS := hide (unhide HYK (by omega))
     have qlv : decide (now < rk.till) = true := decide_eq_true hlv
     clear HYK HNK hlv
     go_wp2_with fail
     clear c0 s0 c1 s1 c2 s2 c3 s3 c4 s4 c5 s5 c6 s6 o0 o1 o2
     generalize wr.alloc (.cells #[.slice na rk.name.length nc, .int .i64 rk.type, .int .i64 rk.kind, .slice ra rk.rrs.length rc, .int .i64 rk.rank, .int .i64 rk.till, .int .i64 rk.used] 47) = WA at *
     have bd := below_drew (w := WA)
     have bb := below_next bb0 bd
     have K1 := hide (block_kept bd (unhide K10))
     have KO := hide (block_kept bd (unhide KO0))
     have HU := hide ((unhide HU0).below bd)
     have RO := hide (RowX.below (ownsSl 56 53 5 3) (unhide RO0) bd)
     have hz5 : wr.heap.size ≤ WA.drew.heap.size := Nat.le_trans hzA bd.size
     have zob5 := Nat.lt_of_lt_of_le (Nat.lt_of_lt_of_le zob hzA) bd.size
     clear bb0 bd K10 KO0 HU0 RO0
     refine startC [0, 1, 2, 3, 4, 5, 6, 7] (by kernel_rfl) ⟨by kernel_rfl, by kernel_rfl, by kernel_rfl, by kernel_rfl⟩ 4 [(1, fun w' => w'.cell? ⟨W1.heap.size, 2, none⟩ = some (.slice va L vc)), (2, fun w' => (fun w' => (w'.cell? ⟨wr.heap.size, 0, none⟩ = some (.slice na rk.name.length nc) ∧ w'.cell? ⟨wr.heap.size, 1, none⟩ = some (.int .i64 rk.type) ∧ w'.cell? ⟨wr.heap.size, 2, none⟩ = some (.int .i64 rk.kind) ∧ w'.cell? ⟨wr.heap.size, 3, none⟩ = some (.slice ra rk.rrs.length rc) ∧ w'.cell? ⟨wr.heap.size, 4, none⟩ = some (.int .i64 rk.rank) ∧ w'.cell? ⟨wr.heap.size, 5, none⟩ = some (.int .i64 rk.till) ∧ w'.cell? ⟨wr.heap.size, 6, none⟩ = some (.int .i64 rk.used))) w')] (fun hA => ?_)
     replace hA := hide hA
     repeat ((first | (refine lookC ?_ (unhide hA) rfl rfl rfl (by rfl) (fun _ _ _ h => h) ?_ ?_; rotate_left; · (intro w; go_simp <;> with_reducible rfl)) | refine skipC (unhide hA) rfl rfl (by rfl) (fun _ _ _ h => h) ?_); go_simp)
     refine takeC ?_ (unhide hA) rfl rfl rfl (by rfl) (fun _ _ _ h => h) (.head _) (cells3 (unhide KO)).2.2 ?_ ?_; rotate_left; (· (intro w hSw; (try dsimp only at hSw); go_simp <;> with_reducible rfl)); go_simp
     repeat ((first | (refine lookC ?_ (unhide hA) rfl rfl rfl (by rfl) (fun _ _ _ h => h) ?_ ?_; rotate_left; · (intro w; go_simp <;> with_reducible rfl)) | refine skipC (unhide hA) rfl rfl (by rfl) (fun _ _ _ h => h) ?_); go_simp)
     refine takeC ?_ (unhide hA) rfl rfl rfl (by rfl) (fun _ _ _ h => h) (.tail _ (.head _)) (cells7 (unhide K1)) ?_ ?_; rotate_left; (· (intro w hSw; (try dsimp only at hSw); go_simp <;> with_reducible rfl)); go_simp
     refine runC (unhide hA) rfl rfl (by kernel_rfl) (by kernel_rfl) (fun K hK => ?_)
     have HK := hide hK
     clear hK
     go_simp
     refine (copySlot_own (unhide HU) (unhide HSHK)).mono ?_
     rintro e w6 ⟨un, ur, rfl, o6, b6⟩
     obtain ⟨s6, t1, t2, p6, r6⟩ := id o6
     obtain ⟨na6, nc6, rfl, _⟩ := p6.hasL.form
     obtain ⟨ra6, rc6, rfl, _⟩ := r6.form
     have KO6 := hide (block_kept b6 (unhide KO))
     have K16 := hide (block_kept b6 (unhide K1))
     have O6 := hide o6
     have RO6 := hide (RowX.below (ownsSl 56 53 5 3) (unhide RO) b6)
     have bb6 := below_next bb b6
     have z6 := b6.size
     clear o6 p6 r6 b6 RO KO K1 HU
     refine (unhide HK).out _ _ (keepC_yes (cells3 (unhide KO6)).2.2 (keepC_late (by kernel_rfl) keepC_nil)) ?_
     clear HK K
     go_simp
     repeat ((first | (refine lookC ?_ (unhide hA) rfl rfl rfl (by rfl) (fun _ _ _ h => h) ?_ ?_; rotate_left; · (intro w; go_simp <;> with_reducible rfl)) | refine skipC (unhide hA) rfl rfl (by rfl) (fun _ _ _ h => h) ?_); go_simp)
     refine runC (unhide hA) rfl rfl (by kernel_rfl) (by kernel_rfl) (fun K hK => ?_)
     have HK := hide hK
     clear hK
     go_simp
     have b7 := below_alloc (w := w6) (.cells #[.slice na6 rk.name.length nc6, .int .i64 rk.type, .int .i64 rk.kind, .slice ra6 rk.rrs.length rc6, .int .i64 rk.rank, .int .i64 rk.till, .int .i64 rk.used] 47)
     have G7 := hide (heap_alloc_new w6 (.cells #[.slice na6 rk.name.length nc6, .int .i64 rk.type, .int .i64 rk.kind, .slice ra6 rk.rrs.length rc6, .int .i64 rk.rank, .int .i64 rk.till, .int .i64 rk.used] 47))
     have KO7 := hide (block_kept b7 (unhide KO6))
     have RO7 := hide (RowX.below (ownsSl 56 53 5 3) (unhide RO6) b7)
     have O7 := hide (OwnS2.below (unhide O6) b7)
     have bb7 := below_next bb6 b7
     have z7 := b7.size
     clear b7 RO6 KO6 O6 K16
     refine (unhide HK).out _ _ (keepC_yes (cells3 (unhide KO7)).2.2 (keepC_late (by kernel_rfl) keepC_nil)) ?_
     clear HK K
     go_simp
     obtain ⟨cs0, f0, g0, hx0, _⟩ := unhide RO7
     rw [unhide HLEN] at hx0
     refine runC (unhide hA) rfl rfl (by kernel_rfl) (by kernel_rfl) (fun K hK => ?_)
     have HK := hide hK
     clear hK
     refine append_oneW _ _ 27 47 rfl Tryz.underlying27 _ 7 88 (by omega) (by omega) info_SlC rfl W2.heap.size (.slice va L vc) L rfl w6.heap.size [.slice na6 rk.name.length nc6, .int .i64 rk.type, .int .i64 rk.kind, .slice ra6 rk.rrs.length rc6, .int .i64 rk.rank, .int .i64 rk.till, .int .i64 rk.used] rfl ⟨cs0, hx0⟩ (unhide G7) rfl (by simp [Value.oneCell']) (by omega) (by omega) ?_
     intro v8 w8 h8 g8 hw8
     have row8 := RowX.snoc (ownsSl 56 53 5 3) (x := rk) (us := [.slice na6 rk.name.length nc6, .int .i64 rk.type, .int .i64 rk.kind, .slice ra6 rk.rrs.length rc6, .int .i64 rk.rank, .int .i64 rk.till, .int .i64 rk.used]) (unhide RO7) (C := WA.drew.heap.size) (D := w6.heap.size) (by omega) (by omega) (by omega) ⟨_, _, rfl, unhide O7⟩ (by omega) g8 hw8 (by rw [unhide HLEN]; exact h8)
     have hown : ∀ j, (Value.slice va L vc).ownBlock = some j → W2.heap.size ≤ j := fun j e => (World.ownsRow.lt hx0 j e).1
     have KO8 : Hid (w8.heap[W1.heap.size]? = some (.cells #[.int .i64 now, .int .i64 turn, .slice va L vc] 29)) := (g8.block W1.heap.size (by omega) (fun e => by have := hown _ e.symm; omega)).trans (unhide KO7)
     have bb8 := below_grow bb7 g8 (fun j e => by have := hown j e; omega)
     have z8 := g8.size
     rw [← unhide HMS] at row8
     obtain ⟨va8, vc8, rfl, _⟩ := row8.form
     have ROW8 := hide row8
     obtain ⟨o0, o1, o2⟩ := cells3 (unhide KO8)
     obtain ⟨f0, f1, f2⟩ := frozen3 (unhide KO8)
     clear hx0 h8 g8 hw8 row8 RO7 O7 KO7 G7 hown
     refine (unhide HK).out _ _ (keepC_late (by kernel_rfl) (keepC_late (by kernel_rfl) keepC_nil)) ?_
     clear HK K
     go_simp
     repeat ((first | (refine lookC ?_ (unhide hA) rfl rfl rfl (by rfl) (fun _ _ _ h => h) ?_ ?_; rotate_left; · (intro w; go_simp <;> with_reducible rfl)) | refine skipC (unhide hA) rfl rfl (by rfl) (fun _ _ _ h => h) ?_); go_simp)
     refine runC (unhide hA) rfl rfl (by kernel_rfl) (by kernel_rfl) (fun K hK => ?_)
     have HK := hide hK
     clear hK
     go_simp
     refine (unhide HK).out _ _ (keepC_late (by kernel_rfl) (keepC_late (by kernel_rfl) keepC_nil)) ?_
     clear HK K
     go_simp
     refine doneC (unhide hA) rfl ?_
     clear hA
     clear o0 o1 o2 f0 f1 f2
     have u9 := outside_set w8 W1.heap.size 2 (.slice va8 (M (k + 1)).length vc8)
     have KO9 : Hid ((w8.setCell ⟨W1.heap.size, 2, none⟩ (.slice va8 (M (k + 1)).length vc8)).heap[W1.heap.size]? = some (.cells #[.int .i64 now, .int .i64 turn, .slice va8 (M (k + 1)).length vc8] 29)) := block_setAt (unhide KO8) 2 _
     have RO9 := hide (RowX.wide (RowX.outside (ownsSl 56 53 5 3) (unhide ROW8) u9 (.inr (by omega))) (Nat.le_refl _) u9.size)
     have bb9 := u9.below bb8 (Nat.le_refl _)
     clear u9 KO8 ROW8 bb8 bb7 bb6 bb
     go_wp2_with fail
     exact ⟨⟨k + 1, (.slice va8 (M (k + 1)).length vc8), by omega, by go_num, unhide KO9, unhide RO9, bb9⟩, by simp [intOf]; omega⟩
    ·have HMO := hide (unhide HNK (by omega))
     have qlv : decide (now < rk.till) = false := decide_eq_false hlv
     clear HYK HNK hlv
     go_wp2_with fail
     have RO := RowX.wide (unhide RO0) (Nat.le_refl _) hzA
     exact ⟨⟨k + 1, _, by omega, by go_num, unhide KO0, by rw [unhide HMO]; exact RO, bb0⟩, by simp [intOf]; omega⟩
   ·obtain rfl : k = n := by omega
    have hkl : (M k).length ≤ k := hL
    generalize hLL : (M k).length = L at *
    have HLEN := hide hLL
    clear hLL
    have hwn : IntKind.i64.wrap ((k : Int) - (L : Int)) = (k : Int) - (L : Int) := by have := wrap_small (k - L) (by omega); rwa [show ((k - L : Nat) : Int) = (k : Int) - (L : Int) by omega] at this
    have HW := hide hwn
    clear hwn
    have bd := below_drew (w := wr)
    have KO := hide (block_kept bd ko)
    have KCd := hide (block_kept bd (unhide KCr))
    have KSd := hide (block_kept bd (block_kept hb (unhide KS)))
    have RO := hide (RowX.wide (RowX.below (ownsSl 56 53 5 3) hr bd) (Nat.le_refl _) bd.size)
    have bb := below_next bWr bd
    have zob := block_lt (unhide KO)
    clear bd ko hr hb bWr HR KCr
    go_wp2_with fail
    refine startC [0, 1, 2, 3, 4, 5, 6, 7, 8, 9] (by kernel_rfl) ⟨by kernel_rfl, by kernel_rfl, by kernel_rfl, by kernel_rfl⟩ 4 [(0, fun w' => (fun w' => (w'.cell? ⟨W1.heap.size, 0, none⟩ = some (.int .i64 now) ∧ w'.cell? ⟨W1.heap.size, 1, none⟩ = some (.int .i64 turn) ∧ w'.cell? ⟨W1.heap.size, 2, none⟩ = some (.slice va L vc))) w'), (2, fun w' => w'.cell? ⟨w.heap.size, 2, none⟩ = some (.slice a k ca)), (5, fun w' => w'.cell? ⟨W1.heap.size, 2, none⟩ = some (.slice va L vc))] (fun hA => ?_)
    replace hA := hide hA
    generalize wr.drew = WD at *
    refine takeC ?_ (unhide hA) rfl rfl rfl (by rfl) (fun _ _ _ h => h) (.head _) (cells3 (unhide KO)) ?_ ?_; rotate_left; (· (intro w hSw; (try dsimp only at hSw); go_simp <;> with_reducible rfl)); go_simp
    repeat ((first | (refine lookC ?_ (unhide hA) rfl rfl rfl (by rfl) (fun _ _ _ h => h) ?_ ?_; rotate_left; · (intro w; go_simp <;> with_reducible rfl)) | refine skipC (unhide hA) rfl rfl (by rfl) (fun _ _ _ h => h) ?_); go_simp)
    refine takeC ?_ (unhide hA) rfl rfl rfl (by rfl) (fun _ _ _ h => h) (.tail _ (.head _)) (cells3 (unhide KCd)).2.2 ?_ ?_; rotate_left; (· (intro w hSw; (try dsimp only at hSw); go_simp <;> with_reducible rfl)); go_simp
    repeat ((first | (refine lookC ?_ (unhide hA) rfl rfl rfl (by rfl) (fun _ _ _ h => h) ?_ ?_; rotate_left; · (intro w; go_simp <;> with_reducible rfl)) | refine skipC (unhide hA) rfl rfl (by rfl) (fun _ _ _ h => h) ?_); go_simp)
    have hwn := unhide HW
    refine takeC ?_ (unhide hA) rfl rfl rfl (by rfl) (fun _ _ _ h => h) (.tail _ (.tail _ (.head _))) (cells3 (unhide KO)).2.2 ?_ ?_; rotate_left; (· (intro w hSw; (try dsimp only at hSw); go_simp <;> with_reducible rfl)); go_simp
    repeat ((first | (refine lookC ?_ (unhide hA) rfl rfl rfl (by rfl) (fun _ _ _ h => h) ?_ ?_; rotate_left; · (intro w; go_simp <;> with_reducible rfl)) | refine skipC (unhide hA) rfl rfl (by rfl) (fun _ _ _ h => h) ?_); go_simp)
    clear hwn
    obtain ⟨g0, g1, g2⟩ := cells3 (unhide KSd)
    obtain ⟨f0, f1, f2⟩ := frozen3 (unhide KSd)
    have u5 := ((outside_set WD (w.heap.size + 1) 0 (.int .i64 now)).trans (outside_set _ (w.heap.size + 1) 1 (.int .i64 turn))).trans (outside_set _ (w.heap.size + 1) 2 (.slice va L vc))
    have KO9 := hide (u5.kept (unhide KO) (by omega))
    have KC9 := hide (u5.kept (unhide KCd) (by omega))
    refine runC (unhide hA) rfl rfl (by kernel_rfl) (by kernel_rfl) (fun K hK => ?_)
    have HK := hide hK
    clear hK
    go_simp
    refine (unhide HK).out _ _ (keepC_yes (cells3 (unhide KO9)) (keepC_yes (cells3 (unhide KC9)).2.2 (keepC_yes (cells3 (unhide KO9)).2.2 keepC_nil))) ?_
    clear HK K
    go_simp
    repeat ((first | (refine lookC ?_ (unhide hA) rfl rfl rfl (by rfl) (fun _ _ _ h => h) ?_ ?_; rotate_left; · (intro w; go_simp <;> with_reducible rfl)) | refine skipC (unhide hA) rfl rfl (by rfl) (fun _ _ _ h => h) ?_); go_simp)
    refine doneC (unhide hA) rfl ?_
    clear hA
    go_wp2_with fail
    clear g0 g1 g2 f0 f1 f2
    have kf : (((WD.setCell ⟨w.heap.size + 1, 0, none⟩ (.int .i64 now)).setCell ⟨w.heap.size + 1, 1, none⟩ (.int .i64 turn)).setCell ⟨w.heap.size + 1, 2, none⟩ (.slice va L vc)).heap[w.heap.size + 1]? = some (.cells #[.int .i64 now, .int .i64 turn, .slice va L vc] 29) := block_setAt (block_setAt (block_setAt (unhide KSd) 0 _) 1 _) 2 _
    refine bodyPost_ret (results_cell_tmp_row rfl _ _ (w.heap.size + 1) 29 #[.int .i64 now, .int .i64 turn, .slice va L vc] (0, 0) _ rfl kf Tryz.underlying29 rfl (by kernel_rfl)) rfl ?_
    exact ⟨_, by have e := unhide HLEN; subst e; rfl, RowX.wide (RowX.outside (ownsSl 56 53 5 3) (unhide RO) u5 (.inr (by omega))) (by omega) u5.size, u5.below bb (by omega)⟩
end Go.Proofs.YtpolekinfobecaaGreat
