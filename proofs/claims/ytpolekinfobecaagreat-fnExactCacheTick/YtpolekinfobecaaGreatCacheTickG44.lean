/-
  Contract of the specification's CacheTick. Contracts of the byte helpers of the laws (markByteS, heldByteS): what each answers and what it leaves in memory. Contracts of the name helpers of the laws (markName, heldName): what each answers and what it leaves in memory. Plain facts: what a slice has lies behind its head. No program is named here.
-/
import Derived.Test.YtpolekinfobecaaGreatCacheTickG15
import Derived.Test.YtpolekinfobecaaGreatCacheTickG39
import Derived.Test.YtpolekinfobecaaGreatCacheTickG42
import Derived.Test.YtpolekinfobecaaGreatCacheTickG43
import Derived.Test.YtpolekinfobecaaGreatCacheTickG09
import Derived.Test.YtpolekinfobecaaGreatCacheTickG02
import Derived.Test.YtpolekinfobecaaGreatCacheTickG03
namespace Go.Proofs.YtpolekinfobecaaGreat
open Go.RowKit
set_option linter.unusedVariables false

set_option maxHeartbeats 4000000 in
set_option maxRecDepth 100000 in
theorem specCacheTick_own {v : Value} {c : Ca} {w : World} (now : Int) (h : HasSs w v c.slots) (hz : SizeCa 1048576 c) :
  Calls Tryz.prog 11 #[.agg #[.int .i64 c.now, .int .i64 c.turn, v], .int .i64 now] w fun e w' => ∃ v', e = .returned (.tuple #[.agg #[.int .i64 (tickC c now).now, .int .i64 (tickC c now).turn, v'], .int .i64 (tickN c now)]) ∧ HasSs w' v' (tickC c now).slots ∧ Below w.heap.size w w' := by
 obtain ⟨a, ca, rfl, hla, hma⟩ := h.form
 unfold maxLen at hma
 have CO := fun (w : World) (h : HasSs w (.slice a c.slots.length ca) c.slots) => specCacheOk_has (c := c) h hz
 obtain ⟨hsz, k0, r0⟩ := box2 w (.cells #[.int .i64 c.now, .int .i64 c.turn, .slice a c.slots.length ca] 29) #[.int .i64 0, .int .i64 0, .slice none 0 0] 29
 have b0 := below2 w (.cells #[.int .i64 c.now, .int .i64 c.turn, .slice a c.slots.length ca] 29) (.cells #[.int .i64 0, .int .i64 0, .slice none 0 0] 29)
 have KK := hide k0
 have KR := hide r0
 have zr := block_lt r0
 clear hsz k0 r0
 cases hok : cacheOk c with
 | false =>
  have htk : tickOk c now = false := by unfold tickOk; rw [hok, Bool.false_and]
  rw [show tickC c now = ⟨0, 0, []⟩ from if_neg (by rw [htk]; simp), show tickN c now = 0 from if_neg (by rw [htk]; simp)]
  rw [hok] at CO
  replace CO := hide (CO _ (keptSs h b0))
  clear h hok hla htk hz
  generalize c.now = now0 at *
  generalize c.turn = turn at *
  generalize c.slots.length = n at *
  obtain ⟨d0, d1, d2⟩ := cells3 (unhide KK)
  go_enter Tryz.func11, Tryz.ntmps11
  go_wp2_with fail
  clear d0 d1 d2
  generalize (w.alloc (.cells #[.int .i64 now0, .int .i64 turn, .slice a n ca] 29)).alloc (.cells #[.int .i64 0, .int .i64 0, .slice none 0 0] 29) = W at *
  refine (unhide CO).mono ?_
  rintro e w1 ⟨rfl, b1⟩
  have bb := below_next b0 b1
  have R1 := hide (block_kept b1 (unhide KR))
  obtain ⟨g0, g1, g2⟩ := cells3 (unhide R1)
  obtain ⟨f0, f1, f2⟩ := frozen3 (unhide R1)
  go_wp2_with fail
  clear g0 g1 g2 f0 f1 f2
  have kf : (((w1.setCell ⟨w.heap.size + 1, 0, none⟩ (.int .i64 0)).setCell ⟨w.heap.size + 1, 1, none⟩ (.int .i64 0)).setCell ⟨w.heap.size + 1, 2, none⟩ (.slice none 0 0)).heap[w.heap.size + 1]? = some (.cells #[.int .i64 0, .int .i64 0, .slice none 0 0] 29) := block_setAt (block_setAt (block_setAt (unhide R1) 0 _) 1 _) 2 _
  have u5 := ((outside_set w1 (w.heap.size + 1) 0 (.int .i64 0)).trans (outside_set _ (w.heap.size + 1) 1 (.int .i64 0))).trans (outside_set _ (w.heap.size + 1) 2 (.slice none 0 0))
  refine bodyPost_ret (results_cell_tmp_row rfl _ _ (w.heap.size + 1) 29 #[.int .i64 0, .int .i64 0, .slice none 0 0] (0, 0) _ rfl kf Tryz.underlying29 rfl (by kernel_rfl)) rfl ?_
  exact ⟨_, rfl, .inl ⟨rfl, rfl⟩, u5.below bb (by omega)⟩
 | true =>
  obtain ⟨h8, hsh⟩ := cacheOk_short hok
  have hts : tickOk c now = (decide (c.now ≤ now) && decide (now ≤ 1000000)) := by unfold tickOk; rw [hok, Bool.true_and]
  rw [hok] at CO
  replace CO := hide (CO _ (keptSs h b0))
  have L8 := hide (show (liveL c.slots now c.slots.length).length ≤ c.slots.length from liveL_len _ _ _)
  clear hok hz
  by_cases hn1 : now < c.now
  ·have htk : tickOk c now = false := by rw [hts, decide_eq_false (by omega), Bool.false_and]
   rw [show tickC c now = ⟨0, 0, []⟩ from if_neg (by rw [htk]; simp), show tickN c now = 0 from if_neg (by rw [htk]; simp)]
   clear hts htk h hla h8 hsh L8
   generalize c.now = now0 at *
   generalize c.turn = turn at *
   generalize c.slots.length = n at *
   have qn1 : decide (now < now0) = true := decide_eq_true hn1
   obtain ⟨d0, d1, d2⟩ := cells3 (unhide KK)
   go_enter Tryz.func11, Tryz.ntmps11
   go_wp2_with fail
   clear d0 d1 d2
   generalize (w.alloc (.cells #[.int .i64 now0, .int .i64 turn, .slice a n ca] 29)).alloc (.cells #[.int .i64 0, .int .i64 0, .slice none 0 0] 29) = W at *
   refine (unhide CO).mono ?_
   rintro e w1 ⟨rfl, b1⟩
   have bb := below_next b0 b1
   have R1 := hide (block_kept b1 (unhide KR))
   obtain ⟨d0, d1, d2⟩ := cells3 (block_kept b1 (unhide KK))
   obtain ⟨g0, g1, g2⟩ := cells3 (unhide R1)
   obtain ⟨f0, f1, f2⟩ := frozen3 (unhide R1)
   go_wp2_with fail
   clear d0 d1 d2 g0 g1 g2 f0 f1 f2
   have kf : (((w1.setCell ⟨w.heap.size + 1, 0, none⟩ (.int .i64 0)).setCell ⟨w.heap.size + 1, 1, none⟩ (.int .i64 0)).setCell ⟨w.heap.size + 1, 2, none⟩ (.slice none 0 0)).heap[w.heap.size + 1]? = some (.cells #[.int .i64 0, .int .i64 0, .slice none 0 0] 29) := block_setAt (block_setAt (block_setAt (unhide R1) 0 _) 1 _) 2 _
   have u5 := ((outside_set w1 (w.heap.size + 1) 0 (.int .i64 0)).trans (outside_set _ (w.heap.size + 1) 1 (.int .i64 0))).trans (outside_set _ (w.heap.size + 1) 2 (.slice none 0 0))
   refine bodyPost_ret (results_cell_tmp_row rfl _ _ (w.heap.size + 1) 29 #[.int .i64 0, .int .i64 0, .slice none 0 0] (0, 0) _ rfl kf Tryz.underlying29 rfl (by kernel_rfl)) rfl ?_
   exact ⟨_, rfl, .inl ⟨rfl, rfl⟩, u5.below bb (by omega)⟩
  by_cases hn2 : 1000000 < now
  ·have htk : tickOk c now = false := by rw [hts, decide_eq_false (p := now ≤ 1000000) (by omega), Bool.and_false]
   rw [show tickC c now = ⟨0, 0, []⟩ from if_neg (by rw [htk]; simp), show tickN c now = 0 from if_neg (by rw [htk]; simp)]
   clear hts htk h hla h8 hsh L8
   generalize c.now = now0 at *
   generalize c.turn = turn at *
   generalize c.slots.length = n at *
   have qn1 : decide (now < now0) = false := decide_eq_false hn1
   obtain ⟨d0, d1, d2⟩ := cells3 (unhide KK)
   go_enter Tryz.func11, Tryz.ntmps11
   go_wp2_with fail
   clear d0 d1 d2
   generalize (w.alloc (.cells #[.int .i64 now0, .int .i64 turn, .slice a n ca] 29)).alloc (.cells #[.int .i64 0, .int .i64 0, .slice none 0 0] 29) = W at *
   refine (unhide CO).mono ?_
   rintro e w1 ⟨rfl, b1⟩
   have bb := below_next b0 b1
   have R1 := hide (block_kept b1 (unhide KR))
   obtain ⟨d0, d1, d2⟩ := cells3 (block_kept b1 (unhide KK))
   obtain ⟨g0, g1, g2⟩ := cells3 (unhide R1)
   obtain ⟨f0, f1, f2⟩ := frozen3 (unhide R1)
   go_wp2_with fail
   clear d0 d1 d2 g0 g1 g2 f0 f1 f2
   have kf : (((w1.setCell ⟨w.heap.size + 1, 0, none⟩ (.int .i64 0)).setCell ⟨w.heap.size + 1, 1, none⟩ (.int .i64 0)).setCell ⟨w.heap.size + 1, 2, none⟩ (.slice none 0 0)).heap[w.heap.size + 1]? = some (.cells #[.int .i64 0, .int .i64 0, .slice none 0 0] 29) := block_setAt (block_setAt (block_setAt (unhide R1) 0 _) 1 _) 2 _
   have u5 := ((outside_set w1 (w.heap.size + 1) 0 (.int .i64 0)).trans (outside_set _ (w.heap.size + 1) 1 (.int .i64 0))).trans (outside_set _ (w.heap.size + 1) 2 (.slice none 0 0))
   refine bodyPost_ret (results_cell_tmp_row rfl _ _ (w.heap.size + 1) 29 #[.int .i64 0, .int .i64 0, .slice none 0 0] (0, 0) _ rfl kf Tryz.underlying29 rfl (by kernel_rfl)) rfl ?_
   exact ⟨_, rfl, .inl ⟨rfl, rfl⟩, u5.below bb (by omega)⟩
  have htk : tickOk c now = true := by rw [hts, decide_eq_true (p := c.now ≤ now) (by omega), decide_eq_true (p := now ≤ 1000000) (by omega)]; rfl
  rw [show tickC c now = ⟨now, c.turn, liveL c.slots now c.slots.length⟩ from if_pos htk, show tickN c now = c.slots.length - (liveL c.slots now c.slots.length).length from if_pos htk]
  have qn1 : decide (now < c.now) = false := decide_eq_false hn1
  have qn2 : decide (1000000 < now) = false := decide_eq_false hn2
  have HYES := hide (fun k (hb : now < (c.slots.getD k sltZ).till) => liveL_yes (l := c.slots) hb)
  have HNO := hide (fun k (hb : ¬ now < (c.slots.getD k sltZ).till) => liveL_no (l := c.slots) hb)
  have HLE := hide (liveL_len c.slots now)
  have HSH := hide hsh
  have HQ1 := hide hn1
  have HQ2 := hide hn2
  have LTK := hide (fun (bp : Nat) (w0 w : World) (v : Value) (hk : w.heap[bp]? = some (.cells #[.int .i64 c.now, .int .i64 c.turn, v] 29)) (h : HasSs w0 v c.slots) (hw : w0.heap.size ≤ bp) (hb : Below w0.heap.size w0 w) => l10tick_has (now := now) hk h hw hb h8)
  have OW1 := hide (fun (w : World) (v : Value) (h : HasSs w v c.slots) => l10own_has (now := c.now) (turn := c.turn) h h8 hsh)
  have OW2 := hide (fun (w : World) (v : Value) (h : HasSs w v (liveL c.slots now c.slots.length)) => l10own_has (now := now) (turn := c.turn) h (Nat.le_trans (liveL_len _ _ _) h8) (live_short hsh))
  clear hts htk hsh hn1 hn2 L8
  generalize liveL c.slots now = M at *
  generalize c.now = now0 at *
  generalize c.turn = turn at *
  generalize c.slots = l at *
  generalize hn : l.length = n at *
  have HN := hide hn
  have H := hide h
  clear hn h
  obtain ⟨d0, d1, d2⟩ := cells3 (unhide KK)
  go_enter Tryz.func11, Tryz.ntmps11
  go_wp2_with fail
  clear d0 d1 d2
  generalize (w.alloc (.cells #[.int .i64 now0, .int .i64 turn, .slice a n ca] 29)).alloc (.cells #[.int .i64 0, .int .i64 0, .slice none 0 0] 29) = W at *
  refine (unhide CO).mono ?_
  rintro e W1 ⟨rfl, b1⟩
  have bW := below_next b0 b1
  have KC := hide (block_kept b1 (unhide KK))
  have KS := hide (block_kept b1 (unhide KR))
  have zW := bW.size
  have zK := block_lt (unhide KC)
  have zS := block_lt (unhide KS)
  clear CO KK KR b0 b1 zr
  obtain ⟨d0, d1, d2⟩ := cells3 (unhide KC)
  go_wp2_with fail
  clear d0 d1 d2
  refine (unhide OW1 _ _ (keptSs (unhide H) bW)).mono ?_
  rintro e w2 ⟨v2, rfl, o2, b2⟩
  have h2 := RowX.has (ownsSQ 56 53 5 3) OwnSQ.has o2
  obtain ⟨a2, c2, rfl, _⟩ := h2.form
  rw [unhide HN] at h2 ⊢
  clear o2
  have b3 := below_alloc (w := w2) (.cells #[.int .i64 now0, .int .i64 turn, .slice a2 n c2] 29)
  have K3 := hide (heap_alloc_new w2 (.cells #[.int .i64 now0, .int .i64 turn, .slice a2 n c2] 29))
  have H2 := hide h2
  have bW2 := below_next bW b2
  have KS2 := hide (block_kept b2 (unhide KS))
  have z2 := b2.size
  clear h2 b2 KS
  go_wp2_with fail
  refine (unhide LTK w2.heap.size w2 _ _ (unhide K3) (unhide H2) (Nat.le_refl _) b3).mono ?_
  rintro e w4 ⟨v4, rfl, k4, h4, b4⟩
  obtain ⟨a4, c4, rfl, _⟩ := h4.form
  have KS4 := hide (block_kept b4 (unhide KS2))
  have bW4 := below_next bW2 b4
  have H4 := hide h4
  obtain ⟨d0, d1, d2⟩ := cells3 k4
  have z4 := b4.size
  clear h4 k4 b3 b4 K3
  go_wp2_with fail
  clear d0 d1 d2
  refine (unhide OW2 _ _ (unhide H4)).mono ?_
  rintro e w5 ⟨v5, rfl, h5, b5⟩
  obtain ⟨a5, c5, rfl, _⟩ := h5.form
  have KS5 := hide (block_kept b5 (unhide KS4))
  have bb := below_next bW4 b5
  have kf : (((w5.setCell ⟨w.heap.size + 1, 0, none⟩ (.int .i64 now)).setCell ⟨w.heap.size + 1, 1, none⟩ (.int .i64 turn)).setCell ⟨w.heap.size + 1, 2, none⟩ (.slice a5 (M n).length c5)).heap[w.heap.size + 1]? = some (.cells #[.int .i64 now, .int .i64 turn, .slice a5 (M n).length c5] 29) := block_setAt (block_setAt (block_setAt (unhide KS5) 0 _) 1 _) 2 _
  have u6 := ((outside_set w5 (w.heap.size + 1) 0 (.int .i64 now)).trans (outside_set _ (w.heap.size + 1) 1 (.int .i64 turn))).trans (outside_set _ (w.heap.size + 1) 2 (.slice a5 (M n).length c5))
  have z5 := b5.size
  have H6 := hide (RowX.has (ownsSQ 56 53 5 3) OwnSQ.has (RowX.outside (ownsSQ 56 53 5 3) h5 u6 (.inr (by omega))))
  obtain ⟨g0, g1, g2⟩ := cells3 (unhide KS5)
  obtain ⟨f0, f1, f2⟩ := frozen3 (unhide KS5)
  clear h5 b5
  go_wp2_with fail
  refine bodyPost_ret (results_cell_tmp_row rfl _ _ (w.heap.size + 1) 29 #[.int .i64 now, .int .i64 turn, .slice a5 (M n).length c5] (0, 0) _ rfl kf Tryz.underlying29 rfl (by kernel_rfl)) rfl ?_
  exact ⟨_, rfl, unhide H6, u6.below bb (by omega)⟩
end Go.Proofs.YtpolekinfobecaaGreat

namespace Go.Proofs.YtpolekinfobecaaGreat
open Go.RowKit
set_option linter.unusedVariables false

set_option maxHeartbeats 400000 in
set_option maxRecDepth 100000 in
theorem markByteS_some (B g cap : Nat) (k0 : Int) (l : List Int) (w : World) (h : Own B 5 w (.slice (some ⟨g, 0, none⟩) l.length cap) l) (hl : l.length ≤ 2097152) (hk0 : 0 ≤ k0) (hk1 : k0 ≤ 9000000000000000000) :
  Calls Tryz.prog 64 #[.slice (some ⟨g, 0, none⟩) l.length cap, .int .i64 k0] w fun e w' => e = .returned (.int .i64 (k0 + l.length)) ∧
   Own B 5 w' (.slice (some ⟨g, 0, none⟩) l.length cap) (marks k0 l.length) ∧ w.grownBy w' (some g) := by
 generalize hn : l.length = n at *
 have HN := hide hn
 clear hn
 go_enter Tryz.func64, Tryz.ntmps64
 go_wp2
 go_loopw [1, 5] (fun kk i wr => ∃ k : Nat, k ≤ n ∧ i = .int .i64 k ∧ kk = .int .i64 (k0 + k) ∧ wr.ownsRow B 5 1 (.slice (some ⟨g, 0, none⟩) n cap) n ((marked l k0 k).map (Value.int .u8)) ∧ w.grownBy wr (some g)) (fun _ i _ => n - (intOf i).toNat)
 case atStart => exact ⟨0, Nat.zero_le _, rfl, by simp, by rw [marked_zero]; have h1 := h; unfold Own at h1; rw [unhide HN] at h1; exact h1, ⟨rfl, rfl, rfl, Nat.le_refl _, fun _ _ _ => rfl⟩⟩
 case round =>
  obtain ⟨k, hk, rfl, rfl, ho, hg⟩ := hrel
  by_cases hlt : k < n
  ·have hc := ho.cellAt k (by omega)
   rw [map_at _ _ (by rw [marked_length, unhide HN]; exact hlt)] at hc
   have hf := ho.frozenAt k
   have HO := hide ho
   clear ho
   go_wp2
   have hst := (unhide HO).stored k (.int .u8 ((k0 + k) % 256))
   refine ⟨⟨k + 1, by omega, by go_num, by go_num, ?_, ?_⟩, by simp [intOf]; omega⟩
   ·rw [← marked_succ, List.map_set]
    exact hst.1
   ·exact grown_trans hg hst.2
  ·go_wp2
   go_ret
   obtain rfl : k = n := by omega
   refine ⟨rfl, ?_, hg⟩
   unfold Own
   rw [marks_length]
   have e : marked l k0 k = marks k0 k := by have := marked_all l k0; rw [unhide HN] at this; exact this
   rw [← e]
   exact ho

set_option maxHeartbeats 400000 in
set_option maxRecDepth 100000 in
theorem markByteS_nil (k0 : Int) (w : World) (hk0 : 0 ≤ k0) (hk1 : k0 ≤ 9000000000000000000) :
  Calls Tryz.prog 64 #[.slice none 0 0, .int .i64 k0] w fun e w' => e = .returned (.int .i64 k0) ∧ w = w' := by
 go_enter Tryz.func64, Tryz.ntmps64
 go_wp2
 go_loop [1, 5] (fun kk i => i = .int .i64 0 ∧ kk = .int .i64 k0) (fun _ i => 0)
 case atStart => exact ⟨rfl, rfl⟩
 case round =>
  obtain ⟨rfl, rfl⟩ := hrel
  go_wp2
  go_ret
  exact ⟨rfl, rfl⟩

theorem markByteS_any {B : Nat} {v : Value} {l : List Int} (k0 : Int) {w : World} (h : Own B 5 w v l) (hl : l.length ≤ 2097152) (hk0 : 0 ≤ k0) (hk1 : k0 ≤ 9000000000000000000) :
  Calls Tryz.prog 64 #[v, .int .i64 k0] w fun e w' => e = .returned (.int .i64 (k0 + l.length)) ∧ Own B 5 w' v (marks k0 l.length) ∧ w.grownBy w' v.ownBlock := by
 rcases h.form with ⟨rfl, rfl⟩ | ⟨g, cap, rfl, _⟩
 ·refine (markByteS_nil k0 w hk0 hk1).mono fun e w' ⟨he, hw⟩ => ?_
  subst hw
  exact ⟨by simpa using he, h, ⟨rfl, rfl, rfl, Nat.le_refl _, fun _ _ _ => rfl⟩⟩
 ·exact markByteS_some B g cap k0 l w h hl hk0 hk1

set_option maxHeartbeats 400000 in
set_option maxRecDepth 100000 in
theorem heldByteS_marks (a : Option Addr) (cap n : Nat) (k0 : Int) (w : World) (h : Lies w a (marks k0 n)) (hl : n ≤ 2097152) (hk0 : 0 ≤ k0) (hk1 : k0 ≤ 9000000000000000000) :
  Calls Tryz.prog 65 #[.slice a n cap, .int .i64 k0] w fun e w' => e = .returned (.int .i64 (k0 + n)) ∧ w = w' := by
 go_enter Tryz.func65, Tryz.ntmps65
 go_wp2
 go_loop [1, 5] (fun kk i => ∃ k : Nat, k ≤ n ∧ i = .int .i64 k ∧ kk = .int .i64 (k0 + k)) (fun _ i => n - (intOf i).toNat)
 case atStart => exact ⟨0, Nat.zero_le _, rfl, by simp⟩
 case round =>
  obtain ⟨k, hk, rfl, rfl⟩ := hrel
  by_cases hlt : k < n
  ·obtain ⟨b, off, rfl, hbl, hc⟩ := h.here (k := k) (by rw [marks_length]; exact hlt)
   rw [marks_getD _ _ _ hlt] at hc
   go_wp2
   exact ⟨⟨k + 1, by omega, by go_num, by go_num⟩, by simp [intOf]; omega⟩
  ·go_wp2
   go_ret
   obtain rfl : k = n := by omega
   exact ⟨rfl, rfl⟩

end Go.Proofs.YtpolekinfobecaaGreat

namespace Go.Proofs.YtpolekinfobecaaGreat
open Go.RowKit
set_option linter.unusedVariables false

set_option maxHeartbeats 800000 in
set_option maxRecDepth 100000 in
theorem markByteSS_any {B E : Nat} {v : Value} {n : List (List Int)} (k0 : Int) {w : World} (h : OwnN B E 53 5 w v n) (hl : n.length ≤ 1048576) (hl2 : ∀ i, i < n.length → (n.getD i []).length ≤ 1048576) (hk0 : 0 ≤ k0) (hk1 : k0 ≤ 8000000000000000000) :
  Calls Tryz.prog 41 #[v, .int .i64 k0] w fun e w' => e = .returned (.int .i64 (pos n k0 n.length)) ∧ OwnN B E 53 5 w' v (markL n k0) ∧ Outside B E w w' := by
 obtain ⟨a, cap, rfl, hcl, hcm⟩ := h.ownL.hasL.form
 unfold maxLen at hcm
 obtain ⟨vs, ho, hu, hd, hv, he⟩ := h
 have hP := hide (fun j (hj : j ≤ n.length) => (show k0 ≤ pos n k0 j ∧ pos n k0 j ≤ 8000002000000000000 from by
  have := pos_le n k0 1048576 hl2 j hj
  have : j * 1048576 ≤ 1048576 * 1048576 := Nat.mul_le_mul_right _ (by omega)
  omega))
 have hPS := hide (pos_succ n k0)
 have hP0 := hide (pos_zero n k0)
 have hMG := hide (markL_getD n k0)
 have hML := hide (markL_length n k0)
 have HU := hide hu
 have HD := hide hd
 have HE := hide he
 have HV := hide hv
 have HO := hide ho
 have HL2 := hide hl2
 have hvl : vs.length = n.length := by have := ho.1; simpa using this
 clear hu hd he hv ho hl2
 generalize pos n k0 = P at *
 generalize markL n k0 = M at *
 generalize hn : n.length = m at *
 have HN := hide hn
 clear hn
 go_enter Tryz.func41, Tryz.ntmps41
 go_wp2
 go_loopw [1, 5] (fun kk i wr => ∃ k : Nat, k ≤ m ∧ i = .int .i64 k ∧ kk = .int .i64 (P k) ∧ Outside B E w wr ∧ wr.ownsRow B 53 1 (.slice a m cap) m vs ∧ Hid (∀ j, j < m → ∃ u, vs[j]? = some u ∧ Own B 5 wr u (if j < k then M.getD j [] else n.getD j []))) (fun _ i _ => m - (intOf i).toNat)
 case atStart => exact ⟨0, Nat.zero_le _, rfl, by rw [unhide hP0], Outside.refl _ _ _, unhide HO, hide (fun j hj => by obtain ⟨u, h1, h2⟩ := unhide HU j hj; exact ⟨u, h1, by simpa using h2⟩)⟩
 case round =>
  obtain ⟨k, hk, rfl, rfl, hout, hrow, hall⟩ := hrel
  by_cases hlt : k < m
  ·obtain ⟨u, hu1, hu2⟩ := unhide hall k hlt
   simp only [Nat.lt_irrefl, if_false] at hu2
   have hlk := unhide HL2 k hlt
   have hpk := unhide hP k (by omega)
   have hps := unhide hPS k hlt
   have hmg := unhide hMG k hlt
   have hcell : ∃ g, a = some ⟨g, 0, none⟩ := by
    rcases hrow.2 with ⟨hv, h0⟩ | ⟨g, cap', cur, hv, _⟩
    ·omega
    ·simp only [Value.slice.injEq] at hv; exact ⟨g, hv.1⟩
   obtain ⟨g, rfl⟩ := hcell
   have hc := World.ownsRow.cellAt hrow k (by omega)
   rw [hu1] at hc
   have hgl := (World.ownsRow.lt hrow g rfl)
   have hue := unhide HE k u
   have hude := hide hue
   clear hue
   generalize n.getD k [] = lab at *
   have HU2 := hide hu2
   have hur : ∃ ua uc, u = .slice ua lab.length uc := by obtain ⟨ua, uc, e, _⟩ := hu2.lies; exact ⟨ua, uc, e⟩
   clear hu2
   obtain ⟨ua, uc, rfl⟩ := hur
   have HR := hide hrow
   clear hrow
   go_wp2_with fail
   refine (markByteS_any (P k) (unhide HU2) (by omega) (by omega) (by omega)).mono ?_
   rintro e w1 ⟨rfl, o1, g1⟩
   go_wp2_with fail
   have hrange : ∀ q, (Value.slice ua lab.length uc).ownBlock = some q → B ≤ q ∧ q < E := fun q hq => ⟨((unhide HU2).lt q hq).1, unhide hude q hu1 hq⟩
   have hner : ∀ q, (Value.slice ua lab.length uc).ownBlock = some q → q ≠ g := by
    intro q hq e
    subst e
    rcases (unhide HU2).2 with ⟨h1, _⟩ | ⟨g', c', cur, h1, _, h2, _⟩
    ·rw [h1] at hq; simp [Value.ownBlock] at hq
    ·rw [h1] at hq
     simp [Value.ownBlock] at hq
     subst hq
     rcases (unhide HR).2 with ⟨h3, _⟩ | ⟨g3, c3, cur3, h3, _, h4, _⟩
     ·simp at h3
     ·simp only [Value.slice.injEq, Option.some.injEq, Addr.mk.injEq] at h3
      obtain ⟨⟨h5, _⟩, _⟩ := h3
      subst h5
      rw [h2] at h4
      simp at h4
   refine ⟨⟨k + 1, by omega, by go_num, by rw [hps], hout.trans (outside_grown g1 hrange), World.ownsRow.kept (unhide HR) g1 (.inr (fun e => hner g e.symm rfl)), hide ?_⟩, by simp [intOf]; omega⟩
   intro j hj
   by_cases e : j = k
   ·subst e
    refine ⟨_, hu1, ?_⟩
    rw [if_pos (by omega), hmg]
    exact o1
   ·obtain ⟨u', h1, h2⟩ := unhide hall j hj
    have : j < k + 1 ↔ j < k := by omega
    rw [show (if j < k + 1 then M.getD j [] else n.getD j []) = (if j < k then M.getD j [] else n.getD j []) by simp [this]]
    refine ⟨u', h1, h2.kept g1 ?_⟩
    rcases Nat.lt_or_gt_of_ne e with e1 | e1
    ·exact unhide HD j k u' _ e1 h1 hu1
    ·rcases unhide HD k j _ u' e1 hu1 h1 with e2 | e2
     ·cases hq : u'.ownBlock with
      | none => exact .inl rfl
      | some q => right; rw [e2]; simp
     ·exact .inr (fun e3 => e2 e3.symm)
  ·obtain rfl : k = m := by omega
   go_wp2_with fail
   go_ret
   have hMk := unhide hML
   refine ⟨rfl, ⟨vs, by rw [hMk]; exact hrow, fun i hi => ?_, unhide HD, unhide HV, unhide HE⟩, hout⟩
   rw [hMk] at hi
   obtain ⟨u, h1, h2⟩ := unhide hall i hi
   rw [if_pos hi] at h2
   exact ⟨u, h1, h2⟩
end Go.Proofs.YtpolekinfobecaaGreat

namespace Go.Proofs.YtpolekinfobecaaGreat
open Go.RowKit
set_option linter.unusedVariables false

theorem has_lies {w : World} {a : Option Addr} {n cap : Nat} {l : List Int} (h : Has w (.slice a n cap) l) (hn : l.length = n) : Lies w a l := by
 obtain ⟨a', cap', e, hl⟩ := h.form
 injection e with e1 e2 e3
 subst e1
 exact hl
theorem hasI_lies {w : World} {a : Option Addr} {n cap : Nat} {l : List Int} (h : HasI w (.slice a n cap) l) (hn : l.length = n) : LiesI w a l := by
 obtain ⟨a', cap', e, hl⟩ := h.form
 injection e with e1 e2 e3
 subst e1
 exact hl
end Go.Proofs.YtpolekinfobecaaGreat
