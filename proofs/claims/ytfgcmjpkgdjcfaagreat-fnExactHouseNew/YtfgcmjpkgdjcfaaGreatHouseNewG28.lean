/-
  Contract of the program's ZoneNew. Plain facts: a new house. No program is named here. Plain facts: what a slice has lies behind its head. No program is named here.
-/
import Derived.Test.YtfgcmjpkgdjcfaaGreatHouseNewG17
import Derived.Test.YtfgcmjpkgdjcfaaGreatHouseNewG27
import Derived.Test.YtfgcmjpkgdjcfaaGreatHouseNewG09
import Derived.Test.YtfgcmjpkgdjcfaaGreatHouseNewG02
import Derived.Test.YtfgcmjpkgdjcfaaGreatHouseNewG10
namespace Go.Proofs.YtfgcmjpkgdjcfaaGreat
open Go.RowKit Go.Shelf
set_option linter.unusedVariables false

theorem ownN_nilZ (B E : Nat) (el eb : TypeId) (w : World) : OwnN B E el eb w (.slice none 0 0) [] := ⟨[], World.ownsRow_nil _ _ _ _, (fun i hi => absurd hi (by simp)), by simp, (fun q hq => by cases hq), by simp⟩
set_option maxHeartbeats 4000000 in
set_option maxRecDepth 100000 in
theorem implZoneNew_own {vo : Value} {o : List (List Int)} {s : Int} {w : World} (h : HasL w vo o) :
  Calls Tryz.prog 47 #[.agg #[vo], .int .i64 s] w fun e w' => ∃ uo ur, e = .returned (.tuple #[.agg #[uo, ur], .bool (zoneNewOf o s).2]) ∧ OwnZ w.heap.size w'.heap.size w' uo ur (zoneNewOf o s).1.1 (zoneNewOf o s).1.2 ∧ Below w.heap.size w w' := by
 obtain ⟨oa, oc, rfl, _⟩ := h.form
 have k1 : ((((((w.alloc (.cells #[.slice oa o.length oc] 30)).alloc (.cells #[.slice none 0 0, .slice none 0 0] 33)).alloc (.cells #[.int .i64 s, .int .i64 60] 3)).alloc (.cells #[.slice oa o.length oc, .int .i64 6, .int .i64 60, .int .i64 0, .slice oa o.length oc, .slice none 0 0, .slice (some ⟨w.heap.size + 1 + 1, 0, none⟩) 2 2] 59)).alloc (.cells #[.slice oa o.length oc, .int .i64 6, .int .i64 60, .int .i64 0, .slice oa o.length oc, .slice none 0 0, .slice (some ⟨w.heap.size + 1 + 1, 0, none⟩) 2 2] 59)).alloc (.cells #[.slice oa o.length oc, .slice (some ⟨w.heap.size + 1 + 1 + 1 + 1, 0, none⟩) 1 1] 33)).heap[w.heap.size + 1]? = some (.cells #[.slice none 0 0, .slice none 0 0] 33) := by
   have := block_kept (below_alloc (w := (((((w.alloc (.cells #[.slice oa o.length oc] 30)).alloc (.cells #[.slice none 0 0, .slice none 0 0] 33)).alloc (.cells #[.int .i64 s, .int .i64 60] 3)).alloc (.cells #[.slice oa o.length oc, .int .i64 6, .int .i64 60, .int .i64 0, .slice oa o.length oc, .slice none 0 0, .slice (some ⟨w.heap.size + 1 + 1, 0, none⟩) 2 2] 59)).alloc (.cells #[.slice oa o.length oc, .int .i64 6, .int .i64 60, .int .i64 0, .slice oa o.length oc, .slice none 0 0, .slice (some ⟨w.heap.size + 1 + 1, 0, none⟩) 2 2] 59))) (.cells #[.slice oa o.length oc, .slice (some ⟨w.heap.size + 1 + 1 + 1 + 1, 0, none⟩) 1 1] 33)) (block_kept (below_alloc (w := ((((w.alloc (.cells #[.slice oa o.length oc] 30)).alloc (.cells #[.slice none 0 0, .slice none 0 0] 33)).alloc (.cells #[.int .i64 s, .int .i64 60] 3)).alloc (.cells #[.slice oa o.length oc, .int .i64 6, .int .i64 60, .int .i64 0, .slice oa o.length oc, .slice none 0 0, .slice (some ⟨w.heap.size + 1 + 1, 0, none⟩) 2 2] 59))) (.cells #[.slice oa o.length oc, .int .i64 6, .int .i64 60, .int .i64 0, .slice oa o.length oc, .slice none 0 0, .slice (some ⟨w.heap.size + 1 + 1, 0, none⟩) 2 2] 59)) (block_kept (below_alloc (w := (((w.alloc (.cells #[.slice oa o.length oc] 30)).alloc (.cells #[.slice none 0 0, .slice none 0 0] 33)).alloc (.cells #[.int .i64 s, .int .i64 60] 3))) (.cells #[.slice oa o.length oc, .int .i64 6, .int .i64 60, .int .i64 0, .slice oa o.length oc, .slice none 0 0, .slice (some ⟨w.heap.size + 1 + 1, 0, none⟩) 2 2] 59)) (block_kept (below_alloc (w := ((w.alloc (.cells #[.slice oa o.length oc] 30)).alloc (.cells #[.slice none 0 0, .slice none 0 0] 33))) (.cells #[.int .i64 s, .int .i64 60] 3)) (heap_alloc_new (w.alloc (.cells #[.slice oa o.length oc] 30)) (.cells #[.slice none 0 0, .slice none 0 0] 33)))))
   simpa using this
 have k2 : ((((((w.alloc (.cells #[.slice oa o.length oc] 30)).alloc (.cells #[.slice none 0 0, .slice none 0 0] 33)).alloc (.cells #[.int .i64 s, .int .i64 60] 3)).alloc (.cells #[.slice oa o.length oc, .int .i64 6, .int .i64 60, .int .i64 0, .slice oa o.length oc, .slice none 0 0, .slice (some ⟨w.heap.size + 1 + 1, 0, none⟩) 2 2] 59)).alloc (.cells #[.slice oa o.length oc, .int .i64 6, .int .i64 60, .int .i64 0, .slice oa o.length oc, .slice none 0 0, .slice (some ⟨w.heap.size + 1 + 1, 0, none⟩) 2 2] 59)).alloc (.cells #[.slice oa o.length oc, .slice (some ⟨w.heap.size + 1 + 1 + 1 + 1, 0, none⟩) 1 1] 33)).heap[w.heap.size + 1 + 1]? = some (.cells #[.int .i64 s, .int .i64 60] 3) := by
   have := block_kept (below_alloc (w := (((((w.alloc (.cells #[.slice oa o.length oc] 30)).alloc (.cells #[.slice none 0 0, .slice none 0 0] 33)).alloc (.cells #[.int .i64 s, .int .i64 60] 3)).alloc (.cells #[.slice oa o.length oc, .int .i64 6, .int .i64 60, .int .i64 0, .slice oa o.length oc, .slice none 0 0, .slice (some ⟨w.heap.size + 1 + 1, 0, none⟩) 2 2] 59)).alloc (.cells #[.slice oa o.length oc, .int .i64 6, .int .i64 60, .int .i64 0, .slice oa o.length oc, .slice none 0 0, .slice (some ⟨w.heap.size + 1 + 1, 0, none⟩) 2 2] 59))) (.cells #[.slice oa o.length oc, .slice (some ⟨w.heap.size + 1 + 1 + 1 + 1, 0, none⟩) 1 1] 33)) (block_kept (below_alloc (w := ((((w.alloc (.cells #[.slice oa o.length oc] 30)).alloc (.cells #[.slice none 0 0, .slice none 0 0] 33)).alloc (.cells #[.int .i64 s, .int .i64 60] 3)).alloc (.cells #[.slice oa o.length oc, .int .i64 6, .int .i64 60, .int .i64 0, .slice oa o.length oc, .slice none 0 0, .slice (some ⟨w.heap.size + 1 + 1, 0, none⟩) 2 2] 59))) (.cells #[.slice oa o.length oc, .int .i64 6, .int .i64 60, .int .i64 0, .slice oa o.length oc, .slice none 0 0, .slice (some ⟨w.heap.size + 1 + 1, 0, none⟩) 2 2] 59)) (block_kept (below_alloc (w := (((w.alloc (.cells #[.slice oa o.length oc] 30)).alloc (.cells #[.slice none 0 0, .slice none 0 0] 33)).alloc (.cells #[.int .i64 s, .int .i64 60] 3))) (.cells #[.slice oa o.length oc, .int .i64 6, .int .i64 60, .int .i64 0, .slice oa o.length oc, .slice none 0 0, .slice (some ⟨w.heap.size + 1 + 1, 0, none⟩) 2 2] 59)) (heap_alloc_new ((w.alloc (.cells #[.slice oa o.length oc] 30)).alloc (.cells #[.slice none 0 0, .slice none 0 0] 33)) (.cells #[.int .i64 s, .int .i64 60] 3))))
   simpa using this
 have k4 : ((((((w.alloc (.cells #[.slice oa o.length oc] 30)).alloc (.cells #[.slice none 0 0, .slice none 0 0] 33)).alloc (.cells #[.int .i64 s, .int .i64 60] 3)).alloc (.cells #[.slice oa o.length oc, .int .i64 6, .int .i64 60, .int .i64 0, .slice oa o.length oc, .slice none 0 0, .slice (some ⟨w.heap.size + 1 + 1, 0, none⟩) 2 2] 59)).alloc (.cells #[.slice oa o.length oc, .int .i64 6, .int .i64 60, .int .i64 0, .slice oa o.length oc, .slice none 0 0, .slice (some ⟨w.heap.size + 1 + 1, 0, none⟩) 2 2] 59)).alloc (.cells #[.slice oa o.length oc, .slice (some ⟨w.heap.size + 1 + 1 + 1 + 1, 0, none⟩) 1 1] 33)).heap[w.heap.size + 1 + 1 + 1 + 1]? = some (.cells #[.slice oa o.length oc, .int .i64 6, .int .i64 60, .int .i64 0, .slice oa o.length oc, .slice none 0 0, .slice (some ⟨w.heap.size + 1 + 1, 0, none⟩) 2 2] 59) := by
   have := block_kept (below_alloc (w := (((((w.alloc (.cells #[.slice oa o.length oc] 30)).alloc (.cells #[.slice none 0 0, .slice none 0 0] 33)).alloc (.cells #[.int .i64 s, .int .i64 60] 3)).alloc (.cells #[.slice oa o.length oc, .int .i64 6, .int .i64 60, .int .i64 0, .slice oa o.length oc, .slice none 0 0, .slice (some ⟨w.heap.size + 1 + 1, 0, none⟩) 2 2] 59)).alloc (.cells #[.slice oa o.length oc, .int .i64 6, .int .i64 60, .int .i64 0, .slice oa o.length oc, .slice none 0 0, .slice (some ⟨w.heap.size + 1 + 1, 0, none⟩) 2 2] 59))) (.cells #[.slice oa o.length oc, .slice (some ⟨w.heap.size + 1 + 1 + 1 + 1, 0, none⟩) 1 1] 33)) (heap_alloc_new ((((w.alloc (.cells #[.slice oa o.length oc] 30)).alloc (.cells #[.slice none 0 0, .slice none 0 0] 33)).alloc (.cells #[.int .i64 s, .int .i64 60] 3)).alloc (.cells #[.slice oa o.length oc, .int .i64 6, .int .i64 60, .int .i64 0, .slice oa o.length oc, .slice none 0 0, .slice (some ⟨w.heap.size + 1 + 1, 0, none⟩) 2 2] 59)) (.cells #[.slice oa o.length oc, .int .i64 6, .int .i64 60, .int .i64 0, .slice oa o.length oc, .slice none 0 0, .slice (some ⟨w.heap.size + 1 + 1, 0, none⟩) 2 2] 59))
   simpa using this
 have k5 : ((((((w.alloc (.cells #[.slice oa o.length oc] 30)).alloc (.cells #[.slice none 0 0, .slice none 0 0] 33)).alloc (.cells #[.int .i64 s, .int .i64 60] 3)).alloc (.cells #[.slice oa o.length oc, .int .i64 6, .int .i64 60, .int .i64 0, .slice oa o.length oc, .slice none 0 0, .slice (some ⟨w.heap.size + 1 + 1, 0, none⟩) 2 2] 59)).alloc (.cells #[.slice oa o.length oc, .int .i64 6, .int .i64 60, .int .i64 0, .slice oa o.length oc, .slice none 0 0, .slice (some ⟨w.heap.size + 1 + 1, 0, none⟩) 2 2] 59)).alloc (.cells #[.slice oa o.length oc, .slice (some ⟨w.heap.size + 1 + 1 + 1 + 1, 0, none⟩) 1 1] 33)).heap[w.heap.size + 1 + 1 + 1 + 1 + 1]? = some (.cells #[.slice oa o.length oc, .slice (some ⟨w.heap.size + 1 + 1 + 1 + 1, 0, none⟩) 1 1] 33) := by
   have := heap_alloc_new (((((w.alloc (.cells #[.slice oa o.length oc] 30)).alloc (.cells #[.slice none 0 0, .slice none 0 0] 33)).alloc (.cells #[.int .i64 s, .int .i64 60] 3)).alloc (.cells #[.slice oa o.length oc, .int .i64 6, .int .i64 60, .int .i64 0, .slice oa o.length oc, .slice none 0 0, .slice (some ⟨w.heap.size + 1 + 1, 0, none⟩) 2 2] 59)).alloc (.cells #[.slice oa o.length oc, .int .i64 6, .int .i64 60, .int .i64 0, .slice oa o.length oc, .slice none 0 0, .slice (some ⟨w.heap.size + 1 + 1, 0, none⟩) 2 2] 59)) (.cells #[.slice oa o.length oc, .slice (some ⟨w.heap.size + 1 + 1 + 1 + 1, 0, none⟩) 1 1] 33)
   simpa using this
 have b0 : Below w.heap.size w ((((((w.alloc (.cells #[.slice oa o.length oc] 30)).alloc (.cells #[.slice none 0 0, .slice none 0 0] 33)).alloc (.cells #[.int .i64 s, .int .i64 60] 3)).alloc (.cells #[.slice oa o.length oc, .int .i64 6, .int .i64 60, .int .i64 0, .slice oa o.length oc, .slice none 0 0, .slice (some ⟨w.heap.size + 1 + 1, 0, none⟩) 2 2] 59)).alloc (.cells #[.slice oa o.length oc, .int .i64 6, .int .i64 60, .int .i64 0, .slice oa o.length oc, .slice none 0 0, .slice (some ⟨w.heap.size + 1 + 1, 0, none⟩) 2 2] 59)).alloc (.cells #[.slice oa o.length oc, .slice (some ⟨w.heap.size + 1 + 1 + 1 + 1, 0, none⟩) 1 1] 33)) := ((((((Below.refl _ w).alloc (by simp) (.cells #[.slice oa o.length oc] 30)).alloc (by simp) (.cells #[.slice none 0 0, .slice none 0 0] 33)).alloc (by simp; omega) (.cells #[.int .i64 s, .int .i64 60] 3)).alloc (by simp; omega) (.cells #[.slice oa o.length oc, .int .i64 6, .int .i64 60, .int .i64 0, .slice oa o.length oc, .slice none 0 0, .slice (some ⟨w.heap.size + 1 + 1, 0, none⟩) 2 2] 59)).alloc (by simp; omega) (.cells #[.slice oa o.length oc, .int .i64 6, .int .i64 60, .int .i64 0, .slice oa o.length oc, .slice none 0 0, .slice (some ⟨w.heap.size + 1 + 1, 0, none⟩) 2 2] 59)).alloc (by simp; omega) (.cells #[.slice oa o.length oc, .slice (some ⟨w.heap.size + 1 + 1 + 1 + 1, 0, none⟩) 1 1] 33)
 have ez : ((((((w.alloc (.cells #[.slice oa o.length oc] 30)).alloc (.cells #[.slice none 0 0, .slice none 0 0] 33)).alloc (.cells #[.int .i64 s, .int .i64 60] 3)).alloc (.cells #[.slice oa o.length oc, .int .i64 6, .int .i64 60, .int .i64 0, .slice oa o.length oc, .slice none 0 0, .slice (some ⟨w.heap.size + 1 + 1, 0, none⟩) 2 2] 59)).alloc (.cells #[.slice oa o.length oc, .int .i64 6, .int .i64 60, .int .i64 0, .slice oa o.length oc, .slice none 0 0, .slice (some ⟨w.heap.size + 1 + 1, 0, none⟩) 2 2] 59)).alloc (.cells #[.slice oa o.length oc, .slice (some ⟨w.heap.size + 1 + 1 + 1 + 1, 0, none⟩) 1 1] 33)).heap.size = w.heap.size + 1 + 1 + 1 + 1 + 1 + 1 := by simp
 have HZ := hide (soa_has (h.below b0) k4 k2)
 have K1 := hide k1
 have K9 := hide k5
 have zz : w.heap.size + 6 ≤ ((((((w.alloc (.cells #[.slice oa o.length oc] 30)).alloc (.cells #[.slice none 0 0, .slice none 0 0] 33)).alloc (.cells #[.int .i64 s, .int .i64 60] 3)).alloc (.cells #[.slice oa o.length oc, .int .i64 6, .int .i64 60, .int .i64 0, .slice oa o.length oc, .slice none 0 0, .slice (some ⟨w.heap.size + 1 + 1, 0, none⟩) 2 2] 59)).alloc (.cells #[.slice oa o.length oc, .int .i64 6, .int .i64 60, .int .i64 0, .slice oa o.length oc, .slice none 0 0, .slice (some ⟨w.heap.size + 1 + 1, 0, none⟩) 2 2] 59)).alloc (.cells #[.slice oa o.length oc, .slice (some ⟨w.heap.size + 1 + 1 + 1 + 1, 0, none⟩) 1 1] 33)).heap.size := by omega
 clear k1 k2 k4 k5 h ez
 generalize hRes : zoneNewOf o s = Res
 have HQ0 := hide hRes
 clear hRes
 go_enter Tryz.func47, Tryz.ntmps47
 go_wp2_with fail
 generalize ((((((w.alloc (.cells #[.slice oa o.length oc] 30)).alloc (.cells #[.slice none 0 0, .slice none 0 0] 33)).alloc (.cells #[.int .i64 s, .int .i64 60] 3)).alloc (.cells #[.slice oa o.length oc, .int .i64 6, .int .i64 60, .int .i64 0, .slice oa o.length oc, .slice none 0 0, .slice (some ⟨w.heap.size + 1 + 1, 0, none⟩) 2 2] 59)).alloc (.cells #[.slice oa o.length oc, .int .i64 6, .int .i64 60, .int .i64 0, .slice oa o.length oc, .slice none 0 0, .slice (some ⟨w.heap.size + 1 + 1, 0, none⟩) 2 2] 59)).alloc (.cells #[.slice oa o.length oc, .slice (some ⟨w.heap.size + 1 + 1 + 1 + 1, 0, none⟩) 1 1] 33)) = W at *
 refine (implZoneOk_has (unhide HZ)).mono ?_
 rintro e w1 ⟨rfl, b1⟩
 have bb := below_next b0 b1
 have r1 := block_kept b1 (unhide K1)
 have K2 := hide (block_kept b1 (unhide K9))
 have H1 := hide ((unhide HZ).below b1)
 have z1 := b1.size
 clear b0 b1 HZ K1 K9
 have hRes := unhide HQ0
 unfold zoneNewOf at hRes
 clear HQ0
 cases hok : zoneOk o [soaOf o s] with
 | false =>
  rw [hok, if_neg (by simp)] at hRes
  subst hRes
  obtain ⟨d0, d1⟩ := cells2 r1
  obtain ⟨f0, f1⟩ := frozen2 r1
  have R1 := hide r1
  clear r1 hok
  go_wp2_with fail
  clear d0 d1 f0 f1
  have kf : ((w1.setCell ⟨w.heap.size + 1, 0, none⟩ (.slice none 0 0)).setCell ⟨w.heap.size + 1, 1, none⟩ (.slice none 0 0)).heap[w.heap.size + 1]? = some (.cells #[.slice none 0 0, .slice none 0 0] 33) := block_setAt (block_setAt (unhide R1) 0 _) 1 _
  have u5 := (outside_set w1 (w.heap.size + 1) 0 (.slice none 0 0)).trans (outside_set _ (w.heap.size + 1) 1 (.slice none 0 0))
  have z5 := u5.size
  refine bodyPost_ret (results_cell_tmp_row rfl _ _ (w.heap.size + 1) 33 #[.slice none 0 0, .slice none 0 0] (0, 0) _ rfl kf Tryz.underlying33 rfl (by kernel_rfl)) rfl ?_
  exact ⟨_, _, rfl, ⟨w.heap.size, Nat.le_refl _, by omega, ownN_nilZ _ _ _ _ _, RowO.nil _ _ _ _ _ _ _⟩, u5.below bb (by omega)⟩
 | true =>
  rw [hok, if_pos rfl] at hRes
  subst hRes
  have HC := hide (copyZone_own (unhide H1) (zone_short hok).1.1 (zone_short hok).1.2 (zone_short hok).2.1 (Nat.le_trans (zone_short hok).2.2 (by decide)))
  have R1 := hide r1
  obtain ⟨c0, c1⟩ := cells2 (unhide K2)
  clear r1 hok
  go_wp2_with fail
  clear c0 c1
  refine (unhide HC).mono ?_
  rintro e w2 ⟨uo, ur, rfl, ⟨t, t1, t2, oN, oR⟩, b2⟩
  obtain ⟨pa, pc, rfl, _⟩ := oN.hasL.form
  obtain ⟨qa, qc, rfl, _⟩ := oR.form
  have ON := hide oN
  have OR := hide oR
  have R2 := hide (block_kept b2 (unhide R1))
  replace bb := below_next bb b2
  have z2 := b2.size
  obtain ⟨d0, d1⟩ := cells2 (unhide R2)
  obtain ⟨f0, f1⟩ := frozen2 (unhide R2)
  clear b2 oN oR HC R1 K2
  go_wp2_with fail
  clear d0 d1 f0 f1
  have kf : ((w2.setCell ⟨w.heap.size + 1, 0, none⟩ (.slice pa o.length pc)).setCell ⟨w.heap.size + 1, 1, none⟩ (.slice qa 1 qc)).heap[w.heap.size + 1]? = some (.cells #[.slice pa o.length pc, .slice qa 1 qc] 33) := block_setAt (block_setAt (unhide R2) 0 _) 1 _
  have u5 := (outside_set w2 (w.heap.size + 1) 0 (.slice pa o.length pc)).trans (outside_set _ (w.heap.size + 1) 1 (.slice qa 1 qc))
  have z5 := u5.size
  refine bodyPost_ret (results_cell_tmp_row rfl _ _ (w.heap.size + 1) 33 #[.slice pa o.length pc, .slice qa 1 qc] (0, 0) _ rfl kf Tryz.underlying33 rfl (by kernel_rfl)) rfl ?_
  exact ⟨_, _, rfl, ⟨t, by omega, by omega, ((unhide ON).outside u5 (.inr (by omega))).wide (by omega) (Nat.le_refl _), ((unhide OR).outside u5 (.inr (by omega))).wide (Nat.le_refl _) (by omega)⟩, u5.below bb (by omega)⟩
end Go.Proofs.YtfgcmjpkgdjcfaaGreat

namespace Go.Proofs.YtfgcmjpkgdjcfaaGreat
open Go.RowKit
set_option linter.unusedVariables false

def homeT : ByteArray := ⟨#[104, 111, 109, 101, 46]⟩
def backT : ByteArray := ⟨#[48, 46, 48, 46, 49, 48, 46, 105, 110, 45, 97, 100, 100, 114, 46, 97, 114, 112, 97, 46]⟩
def homeN : List (List Int) := (nameRead (numsOf homeT)).1
def backN : List (List Int) := (nameRead (numsOf backT)).1
/-- Whether there is a house, and its two zones. -/
def newOk (s : Int) : Bool := (zoneNewOf homeN s).2 && (zoneNewOf backN s).2
def newO (s : Int) : List (List Int) := if newOk s = true then (zoneNewOf homeN s).1.1 else []
def newR (s : Int) : List Rec := if newOk s = true then (zoneNewOf homeN s).1.2 else []
def newP (s : Int) : List (List Int) := if newOk s = true then (zoneNewOf backN s).1.1 else []
def newQ (s : Int) : List Rec := if newOk s = true then (zoneNewOf backN s).1.2 else []
theorem sizeZ_nil : SizeZ 1048576 [] [] := ⟨by simp, fun i hi => absurd hi (by simp), by simp, fun i hi => absurd hi (by simp)⟩
theorem newZ_size (s : Int) : SizeZ 1048576 (newO s) (newR s) := by
 unfold newO newR
 split
 ·exact zoneNew_size _ _
 ·exact sizeZ_nil
theorem newB_size (s : Int) : SizeZ 1048576 (newP s) (newQ s) := by
 unfold newP newQ
 split
 ·exact zoneNew_size _ _
 ·exact sizeZ_nil
end Go.Proofs.YtfgcmjpkgdjcfaaGreat

namespace Go.Proofs.YtfgcmjpkgdjcfaaGreat
open Go.RowKit
set_option linter.unusedVariables false

theorem has_lies {w : World} {a : Option Addr} {n cap : Nat} {l : List Int} (h : Has w (.slice a n cap) l) (hn : l.length = n) : Lies w a l := by
 obtain ⟨a', cap', e, hl⟩ := h.form
 injection e with e1 e2 e3
 subst e1
 exact hl
theorem hasI_lies {w : World} {a : Option Addr} {n cap : Nat} {l : List Int} (h : HasI w (.slice a n cap) l) (hn : l.length = n) : LiesI w a l := by
 obtain ⟨a', cap', e, hl⟩ := h.form
 injection e with e1 e2 e3
 subst e1
 exact hl
end Go.Proofs.YtfgcmjpkgdjcfaaGreat
