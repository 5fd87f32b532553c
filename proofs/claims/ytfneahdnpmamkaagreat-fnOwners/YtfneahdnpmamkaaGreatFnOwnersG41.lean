/-
  Contract of the program's ZoneNew. Contracts of the program's soaAt, and of the library's IndexFunc at records. Contract of the program's Serial. Contract of the laws' name: a name out of a text. Contract of the laws' zones: a new zone has its serial.
-/
import Derived.Test.YtfneahdnpmamkaaGreatFnOwnersG40
namespace Go.Proofs.YtfneahdnpmamkaaGreat
open Go.RowKit Go.Shelf
set_option linter.unusedVariables false

theorem Vl (B E : Nat) (el eb : TypeId) (w : World) : OwnN B E el eb w (.slice none 0 0) [] := ⟨[], World.ownsRow_nil _ _ _ _, (fun i hi => absurd hi (by simp)), by simp, (fun q hq => by cases hq), by simp⟩
set_option maxHeartbeats 4000000 in
set_option maxRecDepth 100000 in
theorem Ma {vo : Value} {o : List (List Int)} {s : Int} {w : World} (h : HasL w vo o) :
  Calls Tryz.prog 28 #[.agg #[vo], .int .i64 s] w fun e w' => ∃ uo ur, e = .returned (.tuple #[.agg #[uo, ur], .bool (Cb o s).2]) ∧ OwnZ w.heap.size w'.heap.size w' uo ur (Cb o s).1.1 (Cb o s).1.2 ∧ Below w.heap.size w w' := by
 obtain ⟨oa, oc, rfl, _⟩ := h.form
 have k1 : ((((((w.alloc (.cells #[.slice oa o.length oc] 25)).alloc (.cells #[.slice none 0 0, .slice none 0 0] 28)).alloc (.cells #[.int .i64 s, .int .i64 60] 3)).alloc (.cells #[.slice oa o.length oc, .int .i64 6, .int .i64 60, .int .i64 0, .slice oa o.length oc, .slice none 0 0, .slice (some ⟨w.heap.size + 1 + 1, 0, none⟩) 2 2] 39)).alloc (.cells #[.slice oa o.length oc, .int .i64 6, .int .i64 60, .int .i64 0, .slice oa o.length oc, .slice none 0 0, .slice (some ⟨w.heap.size + 1 + 1, 0, none⟩) 2 2] 39)).alloc (.cells #[.slice oa o.length oc, .slice (some ⟨w.heap.size + 1 + 1 + 1 + 1, 0, none⟩) 1 1] 28)).heap[w.heap.size + 1]? = some (.cells #[.slice none 0 0, .slice none 0 0] 28) := by
   have := UE (UI (w := (((((w.alloc (.cells #[.slice oa o.length oc] 25)).alloc (.cells #[.slice none 0 0, .slice none 0 0] 28)).alloc (.cells #[.int .i64 s, .int .i64 60] 3)).alloc (.cells #[.slice oa o.length oc, .int .i64 6, .int .i64 60, .int .i64 0, .slice oa o.length oc, .slice none 0 0, .slice (some ⟨w.heap.size + 1 + 1, 0, none⟩) 2 2] 39)).alloc (.cells #[.slice oa o.length oc, .int .i64 6, .int .i64 60, .int .i64 0, .slice oa o.length oc, .slice none 0 0, .slice (some ⟨w.heap.size + 1 + 1, 0, none⟩) 2 2] 39))) (.cells #[.slice oa o.length oc, .slice (some ⟨w.heap.size + 1 + 1 + 1 + 1, 0, none⟩) 1 1] 28)) (UE (UI (w := ((((w.alloc (.cells #[.slice oa o.length oc] 25)).alloc (.cells #[.slice none 0 0, .slice none 0 0] 28)).alloc (.cells #[.int .i64 s, .int .i64 60] 3)).alloc (.cells #[.slice oa o.length oc, .int .i64 6, .int .i64 60, .int .i64 0, .slice oa o.length oc, .slice none 0 0, .slice (some ⟨w.heap.size + 1 + 1, 0, none⟩) 2 2] 39))) (.cells #[.slice oa o.length oc, .int .i64 6, .int .i64 60, .int .i64 0, .slice oa o.length oc, .slice none 0 0, .slice (some ⟨w.heap.size + 1 + 1, 0, none⟩) 2 2] 39)) (UE (UI (w := (((w.alloc (.cells #[.slice oa o.length oc] 25)).alloc (.cells #[.slice none 0 0, .slice none 0 0] 28)).alloc (.cells #[.int .i64 s, .int .i64 60] 3))) (.cells #[.slice oa o.length oc, .int .i64 6, .int .i64 60, .int .i64 0, .slice oa o.length oc, .slice none 0 0, .slice (some ⟨w.heap.size + 1 + 1, 0, none⟩) 2 2] 39)) (UE (UI (w := ((w.alloc (.cells #[.slice oa o.length oc] 25)).alloc (.cells #[.slice none 0 0, .slice none 0 0] 28))) (.cells #[.int .i64 s, .int .i64 60] 3)) (heap_alloc_new (w.alloc (.cells #[.slice oa o.length oc] 25)) (.cells #[.slice none 0 0, .slice none 0 0] 28)))))
   simpa using this
 have k2 : ((((((w.alloc (.cells #[.slice oa o.length oc] 25)).alloc (.cells #[.slice none 0 0, .slice none 0 0] 28)).alloc (.cells #[.int .i64 s, .int .i64 60] 3)).alloc (.cells #[.slice oa o.length oc, .int .i64 6, .int .i64 60, .int .i64 0, .slice oa o.length oc, .slice none 0 0, .slice (some ⟨w.heap.size + 1 + 1, 0, none⟩) 2 2] 39)).alloc (.cells #[.slice oa o.length oc, .int .i64 6, .int .i64 60, .int .i64 0, .slice oa o.length oc, .slice none 0 0, .slice (some ⟨w.heap.size + 1 + 1, 0, none⟩) 2 2] 39)).alloc (.cells #[.slice oa o.length oc, .slice (some ⟨w.heap.size + 1 + 1 + 1 + 1, 0, none⟩) 1 1] 28)).heap[w.heap.size + 1 + 1]? = some (.cells #[.int .i64 s, .int .i64 60] 3) := by
   have := UE (UI (w := (((((w.alloc (.cells #[.slice oa o.length oc] 25)).alloc (.cells #[.slice none 0 0, .slice none 0 0] 28)).alloc (.cells #[.int .i64 s, .int .i64 60] 3)).alloc (.cells #[.slice oa o.length oc, .int .i64 6, .int .i64 60, .int .i64 0, .slice oa o.length oc, .slice none 0 0, .slice (some ⟨w.heap.size + 1 + 1, 0, none⟩) 2 2] 39)).alloc (.cells #[.slice oa o.length oc, .int .i64 6, .int .i64 60, .int .i64 0, .slice oa o.length oc, .slice none 0 0, .slice (some ⟨w.heap.size + 1 + 1, 0, none⟩) 2 2] 39))) (.cells #[.slice oa o.length oc, .slice (some ⟨w.heap.size + 1 + 1 + 1 + 1, 0, none⟩) 1 1] 28)) (UE (UI (w := ((((w.alloc (.cells #[.slice oa o.length oc] 25)).alloc (.cells #[.slice none 0 0, .slice none 0 0] 28)).alloc (.cells #[.int .i64 s, .int .i64 60] 3)).alloc (.cells #[.slice oa o.length oc, .int .i64 6, .int .i64 60, .int .i64 0, .slice oa o.length oc, .slice none 0 0, .slice (some ⟨w.heap.size + 1 + 1, 0, none⟩) 2 2] 39))) (.cells #[.slice oa o.length oc, .int .i64 6, .int .i64 60, .int .i64 0, .slice oa o.length oc, .slice none 0 0, .slice (some ⟨w.heap.size + 1 + 1, 0, none⟩) 2 2] 39)) (UE (UI (w := (((w.alloc (.cells #[.slice oa o.length oc] 25)).alloc (.cells #[.slice none 0 0, .slice none 0 0] 28)).alloc (.cells #[.int .i64 s, .int .i64 60] 3))) (.cells #[.slice oa o.length oc, .int .i64 6, .int .i64 60, .int .i64 0, .slice oa o.length oc, .slice none 0 0, .slice (some ⟨w.heap.size + 1 + 1, 0, none⟩) 2 2] 39)) (heap_alloc_new ((w.alloc (.cells #[.slice oa o.length oc] 25)).alloc (.cells #[.slice none 0 0, .slice none 0 0] 28)) (.cells #[.int .i64 s, .int .i64 60] 3))))
   simpa using this
 have k4 : ((((((w.alloc (.cells #[.slice oa o.length oc] 25)).alloc (.cells #[.slice none 0 0, .slice none 0 0] 28)).alloc (.cells #[.int .i64 s, .int .i64 60] 3)).alloc (.cells #[.slice oa o.length oc, .int .i64 6, .int .i64 60, .int .i64 0, .slice oa o.length oc, .slice none 0 0, .slice (some ⟨w.heap.size + 1 + 1, 0, none⟩) 2 2] 39)).alloc (.cells #[.slice oa o.length oc, .int .i64 6, .int .i64 60, .int .i64 0, .slice oa o.length oc, .slice none 0 0, .slice (some ⟨w.heap.size + 1 + 1, 0, none⟩) 2 2] 39)).alloc (.cells #[.slice oa o.length oc, .slice (some ⟨w.heap.size + 1 + 1 + 1 + 1, 0, none⟩) 1 1] 28)).heap[w.heap.size + 1 + 1 + 1 + 1]? = some (.cells #[.slice oa o.length oc, .int .i64 6, .int .i64 60, .int .i64 0, .slice oa o.length oc, .slice none 0 0, .slice (some ⟨w.heap.size + 1 + 1, 0, none⟩) 2 2] 39) := by
   have := UE (UI (w := (((((w.alloc (.cells #[.slice oa o.length oc] 25)).alloc (.cells #[.slice none 0 0, .slice none 0 0] 28)).alloc (.cells #[.int .i64 s, .int .i64 60] 3)).alloc (.cells #[.slice oa o.length oc, .int .i64 6, .int .i64 60, .int .i64 0, .slice oa o.length oc, .slice none 0 0, .slice (some ⟨w.heap.size + 1 + 1, 0, none⟩) 2 2] 39)).alloc (.cells #[.slice oa o.length oc, .int .i64 6, .int .i64 60, .int .i64 0, .slice oa o.length oc, .slice none 0 0, .slice (some ⟨w.heap.size + 1 + 1, 0, none⟩) 2 2] 39))) (.cells #[.slice oa o.length oc, .slice (some ⟨w.heap.size + 1 + 1 + 1 + 1, 0, none⟩) 1 1] 28)) (heap_alloc_new ((((w.alloc (.cells #[.slice oa o.length oc] 25)).alloc (.cells #[.slice none 0 0, .slice none 0 0] 28)).alloc (.cells #[.int .i64 s, .int .i64 60] 3)).alloc (.cells #[.slice oa o.length oc, .int .i64 6, .int .i64 60, .int .i64 0, .slice oa o.length oc, .slice none 0 0, .slice (some ⟨w.heap.size + 1 + 1, 0, none⟩) 2 2] 39)) (.cells #[.slice oa o.length oc, .int .i64 6, .int .i64 60, .int .i64 0, .slice oa o.length oc, .slice none 0 0, .slice (some ⟨w.heap.size + 1 + 1, 0, none⟩) 2 2] 39))
   simpa using this
 have k5 : ((((((w.alloc (.cells #[.slice oa o.length oc] 25)).alloc (.cells #[.slice none 0 0, .slice none 0 0] 28)).alloc (.cells #[.int .i64 s, .int .i64 60] 3)).alloc (.cells #[.slice oa o.length oc, .int .i64 6, .int .i64 60, .int .i64 0, .slice oa o.length oc, .slice none 0 0, .slice (some ⟨w.heap.size + 1 + 1, 0, none⟩) 2 2] 39)).alloc (.cells #[.slice oa o.length oc, .int .i64 6, .int .i64 60, .int .i64 0, .slice oa o.length oc, .slice none 0 0, .slice (some ⟨w.heap.size + 1 + 1, 0, none⟩) 2 2] 39)).alloc (.cells #[.slice oa o.length oc, .slice (some ⟨w.heap.size + 1 + 1 + 1 + 1, 0, none⟩) 1 1] 28)).heap[w.heap.size + 1 + 1 + 1 + 1 + 1]? = some (.cells #[.slice oa o.length oc, .slice (some ⟨w.heap.size + 1 + 1 + 1 + 1, 0, none⟩) 1 1] 28) := by
   have := heap_alloc_new (((((w.alloc (.cells #[.slice oa o.length oc] 25)).alloc (.cells #[.slice none 0 0, .slice none 0 0] 28)).alloc (.cells #[.int .i64 s, .int .i64 60] 3)).alloc (.cells #[.slice oa o.length oc, .int .i64 6, .int .i64 60, .int .i64 0, .slice oa o.length oc, .slice none 0 0, .slice (some ⟨w.heap.size + 1 + 1, 0, none⟩) 2 2] 39)).alloc (.cells #[.slice oa o.length oc, .int .i64 6, .int .i64 60, .int .i64 0, .slice oa o.length oc, .slice none 0 0, .slice (some ⟨w.heap.size + 1 + 1, 0, none⟩) 2 2] 39)) (.cells #[.slice oa o.length oc, .slice (some ⟨w.heap.size + 1 + 1 + 1 + 1, 0, none⟩) 1 1] 28)
   simpa using this
 have b0 : Below w.heap.size w ((((((w.alloc (.cells #[.slice oa o.length oc] 25)).alloc (.cells #[.slice none 0 0, .slice none 0 0] 28)).alloc (.cells #[.int .i64 s, .int .i64 60] 3)).alloc (.cells #[.slice oa o.length oc, .int .i64 6, .int .i64 60, .int .i64 0, .slice oa o.length oc, .slice none 0 0, .slice (some ⟨w.heap.size + 1 + 1, 0, none⟩) 2 2] 39)).alloc (.cells #[.slice oa o.length oc, .int .i64 6, .int .i64 60, .int .i64 0, .slice oa o.length oc, .slice none 0 0, .slice (some ⟨w.heap.size + 1 + 1, 0, none⟩) 2 2] 39)).alloc (.cells #[.slice oa o.length oc, .slice (some ⟨w.heap.size + 1 + 1 + 1 + 1, 0, none⟩) 1 1] 28)) := ((((((Below.refl _ w).alloc (by simp) (.cells #[.slice oa o.length oc] 25)).alloc (by simp) (.cells #[.slice none 0 0, .slice none 0 0] 28)).alloc (by simp; omega) (.cells #[.int .i64 s, .int .i64 60] 3)).alloc (by simp; omega) (.cells #[.slice oa o.length oc, .int .i64 6, .int .i64 60, .int .i64 0, .slice oa o.length oc, .slice none 0 0, .slice (some ⟨w.heap.size + 1 + 1, 0, none⟩) 2 2] 39)).alloc (by simp; omega) (.cells #[.slice oa o.length oc, .int .i64 6, .int .i64 60, .int .i64 0, .slice oa o.length oc, .slice none 0 0, .slice (some ⟨w.heap.size + 1 + 1, 0, none⟩) 2 2] 39)).alloc (by simp; omega) (.cells #[.slice oa o.length oc, .slice (some ⟨w.heap.size + 1 + 1 + 1 + 1, 0, none⟩) 1 1] 28)
 have ez : ((((((w.alloc (.cells #[.slice oa o.length oc] 25)).alloc (.cells #[.slice none 0 0, .slice none 0 0] 28)).alloc (.cells #[.int .i64 s, .int .i64 60] 3)).alloc (.cells #[.slice oa o.length oc, .int .i64 6, .int .i64 60, .int .i64 0, .slice oa o.length oc, .slice none 0 0, .slice (some ⟨w.heap.size + 1 + 1, 0, none⟩) 2 2] 39)).alloc (.cells #[.slice oa o.length oc, .int .i64 6, .int .i64 60, .int .i64 0, .slice oa o.length oc, .slice none 0 0, .slice (some ⟨w.heap.size + 1 + 1, 0, none⟩) 2 2] 39)).alloc (.cells #[.slice oa o.length oc, .slice (some ⟨w.heap.size + 1 + 1 + 1 + 1, 0, none⟩) 1 1] 28)).heap.size = w.heap.size + 1 + 1 + 1 + 1 + 1 + 1 := by simp
 have HZ := UC (Uy (h.below b0) k4 k2)
 have K1 := UC k1
 have K9 := UC k5
 have zz : w.heap.size + 6 ≤ ((((((w.alloc (.cells #[.slice oa o.length oc] 25)).alloc (.cells #[.slice none 0 0, .slice none 0 0] 28)).alloc (.cells #[.int .i64 s, .int .i64 60] 3)).alloc (.cells #[.slice oa o.length oc, .int .i64 6, .int .i64 60, .int .i64 0, .slice oa o.length oc, .slice none 0 0, .slice (some ⟨w.heap.size + 1 + 1, 0, none⟩) 2 2] 39)).alloc (.cells #[.slice oa o.length oc, .int .i64 6, .int .i64 60, .int .i64 0, .slice oa o.length oc, .slice none 0 0, .slice (some ⟨w.heap.size + 1 + 1, 0, none⟩) 2 2] 39)).alloc (.cells #[.slice oa o.length oc, .slice (some ⟨w.heap.size + 1 + 1 + 1 + 1, 0, none⟩) 1 1] 28)).heap.size := by omega
 clear k1 k2 k4 k5 h ez
 generalize hRes : Cb o s = Res
 have HQ0 := UC hRes
 clear hRes
 go_enter Tryz.func28, Tryz.ntmps28
 go_wp2_with fail
 generalize ((((((w.alloc (.cells #[.slice oa o.length oc] 25)).alloc (.cells #[.slice none 0 0, .slice none 0 0] 28)).alloc (.cells #[.int .i64 s, .int .i64 60] 3)).alloc (.cells #[.slice oa o.length oc, .int .i64 6, .int .i64 60, .int .i64 0, .slice oa o.length oc, .slice none 0 0, .slice (some ⟨w.heap.size + 1 + 1, 0, none⟩) 2 2] 39)).alloc (.cells #[.slice oa o.length oc, .int .i64 6, .int .i64 60, .int .i64 0, .slice oa o.length oc, .slice none 0 0, .slice (some ⟨w.heap.size + 1 + 1, 0, none⟩) 2 2] 39)).alloc (.cells #[.slice oa o.length oc, .slice (some ⟨w.heap.size + 1 + 1 + 1 + 1, 0, none⟩) 1 1] 28)) = W at *
 refine (D8 (UB HZ)).mono ?_
 rintro e w1 ⟨rfl, b1⟩
 have bb := UG b0 b1
 have r1 := UE b1 (UB K1)
 have K2 := UC (UE b1 (UB K9))
 have H1 := UC ((UB HZ).below b1)
 have z1 := b1.size
 clear b0 b1 HZ K1 K9
 have hRes := UB HQ0
 unfold Cb at hRes
 clear HQ0
 cases hok : Ar o [Fx o s] with
 | false =>
  rw [hok, if_neg (by simp)] at hRes
  subst hRes
  obtain ⟨d0, d1⟩ := UM r1
  obtain ⟨f0, f1⟩ := Am r1
  have R1 := UC r1
  clear r1 hok
  go_wp2_with fail
  clear d0 d1 f0 f1
  have kf : ((w1.setCell ⟨w.heap.size + 1, 0, none⟩ (.slice none 0 0)).setCell ⟨w.heap.size + 1, 1, none⟩ (.slice none 0 0)).heap[w.heap.size + 1]? = some (.cells #[.slice none 0 0, .slice none 0 0] 28) := UV (UV (UB R1) 0 _) 1 _
  have u5 := (UT w1 (w.heap.size + 1) 0 (.slice none 0 0)).trans (UT _ (w.heap.size + 1) 1 (.slice none 0 0))
  have z5 := u5.size
  refine bodyPost_ret (Ak rfl _ _ (w.heap.size + 1) 28 #[.slice none 0 0, .slice none 0 0] (0, 0) _ rfl kf Tryz.underlying28 rfl (by kernel_rfl)) rfl ?_
  exact ⟨_, _, rfl, ⟨w.heap.size, Nat.le_refl _, by omega, Vl _ _ _ _ _, RowO.nil _ _ _ _ _ _ _⟩, u5.below bb (by omega)⟩
 | true =>
  rw [hok, if_pos rfl] at hRes
  subst hRes
  have HC := UC (Qe (UB H1) (Bs hok).1.1 (Bs hok).1.2 (Bs hok).2.1 (Nat.le_trans (Bs hok).2.2 (by decide)))
  have R1 := UC r1
  obtain ⟨c0, c1⟩ := UM (UB K2)
  clear r1 hok
  go_wp2_with fail
  clear c0 c1
  refine (UB HC).mono ?_
  rintro e w2 ⟨uo, ur, rfl, ⟨t, t1, t2, oN, oR⟩, b2⟩
  obtain ⟨pa, pc, rfl, _⟩ := oN.hasL.form
  obtain ⟨qa, qc, rfl, _⟩ := oR.form
  have ON := UC oN
  have OR := UC oR
  have R2 := UC (UE b2 (UB R1))
  replace bb := UG bb b2
  have z2 := b2.size
  obtain ⟨d0, d1⟩ := UM (UB R2)
  obtain ⟨f0, f1⟩ := Am (UB R2)
  clear b2 oN oR HC R1 K2
  go_wp2_with fail
  clear d0 d1 f0 f1
  have kf : ((w2.setCell ⟨w.heap.size + 1, 0, none⟩ (.slice pa o.length pc)).setCell ⟨w.heap.size + 1, 1, none⟩ (.slice qa 1 qc)).heap[w.heap.size + 1]? = some (.cells #[.slice pa o.length pc, .slice qa 1 qc] 28) := UV (UV (UB R2) 0 _) 1 _
  have u5 := (UT w2 (w.heap.size + 1) 0 (.slice pa o.length pc)).trans (UT _ (w.heap.size + 1) 1 (.slice qa 1 qc))
  have z5 := u5.size
  refine bodyPost_ret (Ak rfl _ _ (w.heap.size + 1) 28 #[.slice pa o.length pc, .slice qa 1 qc] (0, 0) _ rfl kf Tryz.underlying28 rfl (by kernel_rfl)) rfl ?_
  exact ⟨_, _, rfl, ⟨t, by omega, by omega, ((UB ON).outside u5 (.inr (by omega))).wide (by omega) (Nat.le_refl _), ((UB OR).outside u5 (.inr (by omega))).wide (Nat.le_refl _) (by omega)⟩, u5.below bb (by omega)⟩
end Go.Proofs.YtfneahdnpmamkaaGreat

namespace Go.Proofs.YtfneahdnpmamkaaGreat
open Go.RowKit
set_option linter.unusedVariables false
set_option maxHeartbeats 1000000
set_option maxRecDepth 100000

theorem P5 {vn vt vx vi : Value} {r : Rec} {w : World} (h : HasR w vn vt vx vi r) :
  Calls Tryz.prog 86 #[.agg #[vn, .int .i64 r.type, .int .i64 r.ttl, .int .i64 r.addr, vt, vx, vi]] w fun e w' => e = .returned (.bool (r.type == 6)) ∧ Below w.heap.size w w' := by
 obtain ⟨na, nc, rfl, _⟩ := h.name.form
 obtain ⟨ta, tc, rfl, _⟩ := h.to.form
 obtain ⟨xa, xc, rfl, _⟩ := h.text.form
 obtain ⟨ia, ic, rfl, _⟩ := h.nums.form
 have b0 := UI (w := w) (.cells #[.slice na r.name.length nc, .int .i64 r.type, .int .i64 r.ttl, .int .i64 r.addr, .slice ta r.to.length tc, .slice xa r.text.length xc, .slice ia r.nums.length ic] 39)
 clear h
 go_enter Tryz.func86, Tryz.ntmps86
 go_wp2_with fail
 go_ret
 exact ⟨rfl, b0⟩

theorem Qx {v : Value} {rs : List Rec} {w : World} {s : Nat} (h : Cl w v rs) (hs : s < rs.length) (h6 : (rs.getD s recZ).type = 6) (hb : ∀ j, j < s → (rs.getD j recZ).type ≠ 6) (h60 : rs.length ≤ 60) :
  Calls Tryz.prog 85 #[v, .func (Fn.func 86) #[] #[]] w fun e w' => e = .returned (.int .i64 s) ∧ Below w.heap.size w w' := by
 obtain ⟨a, cap, rfl, _⟩ := h.form
 generalize hm : rs.length = m at *
 have HN := UC hm
 have H6 := UC h6
 have HB := UC hb
 clear hm h6 hb
 go_enter Tryz.func85, Tryz.ntmps85
 go_wp2_with fail
 go_loopw [8] (fun i wr => ∃ k : Nat, k ≤ s ∧ i = .int .i64 k ∧ Below w.heap.size w wr) (fun i _ => m - (intOf i).toNat)
 case atStart => exact ⟨0, Nat.zero_le _, rfl, Below.refl _ _⟩
 case round =>
  obtain ⟨k, hk, rfl, hbw⟩ := hrel
  have hkm : (k : Int) < m := by omega
  obtain ⟨b, off, na, nc, ta, tc, xa, xc, ia, ic, rfl, hbl, hc, hu⟩ := (h.below hbw).here (k := k) (by rw [UB HN]; omega)
  by_cases e : k = s
  ·subst e
   have h6 := UB H6
   generalize rs.getD k recZ = rk at *
   have CL := P5 hu
   rw [show (rk.type == 6) = true by rw [h6]; rfl] at CL
   replace CL := UC CL
   obtain ⟨c0, c1, c2, c3, c4, c5, c6⟩ := VH hc
   clear hu hc h6
   go_wp2_with fail
   refine (UB CL).mono ?_
   rintro e w2 ⟨rfl, b2⟩
   clear c0 c1 c2 c3 c4 c5 c6
   go_wp2_with fail
   go_ret
   exact ⟨rfl, UG hbw b2⟩
  ·have h6 := UB HB k (by omega)
   generalize rs.getD k recZ = rk at *
   have CL := P5 hu
   rw [show (rk.type == 6) = false by rw [beq_eq_false_iff_ne]; exact h6] at CL
   replace CL := UC CL
   obtain ⟨c0, c1, c2, c3, c4, c5, c6⟩ := VH hc
   clear hu hc h6
   go_wp2_with fail
   refine (UB CL).mono ?_
   rintro e w2 ⟨rfl, b2⟩
   clear c0 c1 c2 c3 c4 c5 c6
   go_wp2_with fail
   exact ⟨⟨k + 1, by omega, by go_num, UG hbw b2⟩, by simp [intOf]; omega⟩

theorem Vg {vo vr : Value} {o : List (List Int)} {rs : List Rec} {w : World} {s : Nat} (h : HasZ w vo vr o rs) (hs : s < rs.length) (h6 : (rs.getD s recZ).type = 6) (hb : ∀ j, j < s → (rs.getD j recZ).type ≠ 6) (h60 : rs.length ≤ 60) :
  Calls Tryz.prog 56 #[.agg #[vo, vr]] w fun e w' => e = .returned (.int .i64 s) ∧ Below w.heap.size w w' := by
 obtain ⟨oa, oc, rfl, _⟩ := h.name.form
 obtain ⟨ra, rc, rfl, _⟩ := h.recs.form
 have b0 := UI (w := w) (.cells #[.slice oa o.length oc, .slice ra rs.length rc] 28)
 have K0 := UC (heap_alloc_new w (.cells #[.slice oa o.length oc, .slice ra rs.length rc] 28))
 have H0 := UC (h.below b0)
 clear h
 obtain ⟨d0, d1⟩ := UM (UB K0)
 go_enter Tryz.func56, Tryz.ntmps56
 go_wp2_with fail
 clear d0 d1
 refine (Qx (UB H0).recs hs h6 hb h60).mono ?_
 rintro e w1 ⟨rfl, b1⟩
 go_wp2_with fail
 go_ret
 exact ⟨rfl, UG b0 b1⟩
set_option maxHeartbeats 1000000 in
set_option maxRecDepth 100000 in
theorem Oh {vo vr : Value} {o : List (List Int)} {rs : List Rec} {w : World} (h : HasZ w vo vr o rs) :
  Calls Tryz.prog 30 #[.agg #[vo, vr]] w fun e w' => e = .returned (.int .i64 (Nm o rs)) ∧ Below w.heap.size w w' := by
 obtain ⟨oa, oc, rfl, _⟩ := h.name.form
 obtain ⟨ra, rc, rfl, _⟩ := h.recs.form
 have b0 := UI (w := w) (.cells #[.slice oa o.length oc, .slice ra rs.length rc] 28)
 have K0 := UC (heap_alloc_new w (.cells #[.slice oa o.length oc, .slice ra rs.length rc] 28))
 have H0 := UC (h.below b0)
 have ZO := D8 (h.below b0)
 unfold Nm
 clear h
 cases hok : Ar o rs with
 | false =>
  rw [hok] at ZO
  replace ZO := UC ZO
  rw [if_neg (by simp)]
  clear hok
  obtain ⟨d0, d1⟩ := UM (UB K0)
  go_enter Tryz.func30, Tryz.ntmps30
  go_wp2_with fail
  refine (UB ZO).mono ?_
  rintro e w1 ⟨rfl, b1⟩
  go_wp2_with fail
  go_ret
  exact ⟨rfl, UG b0 b1⟩
 | true =>
  rw [hok] at ZO
  replace ZO := UC ZO
  rw [if_pos rfl]
  obtain ⟨s, hs1, h6, hbf, hl, hg, hnum⟩ := Yk hok
  have h60 := (of_decide_eq_true hok).2.1
  rw [hg]
  have SA := fun (w : World) (h : HasZ w (.slice oa o.length oc) (.slice ra rs.length rc) o rs) => Vg h hs1 h6 hbf h60
  replace SA := UC SA
  have hsm : (s : Int) < rs.length := by omega
  obtain ⟨x, y, hxy⟩ := Q1 hnum
  have ex : (rs.getD s recZ).nums.getD 0 0 = x := by rw [hxy]; rfl
  rw [ex]
  have HXY := UC hxy
  have HS := UC hs1
  clear hok hg hl hnum hxy ex h6 hbf hs1
  go_enter Tryz.func30, Tryz.ntmps30
  go_wp2_with fail
  generalize w.alloc (.cells #[.slice oa o.length oc, .slice ra rs.length rc] 28) = W at *
  refine (UB ZO).mono ?_
  rintro e w1 ⟨rfl, b1⟩
  have bd := UG b1 (UX (w := w1))
  have bb := UG b0 bd
  have H1 := UC ((UB H0).below bd)
  have K1 := UC (UE bd (UB K0))
  obtain ⟨b, off, na, nc, ta, tc, xa, xc, ia, ic, rfl, hbl, hc, hu⟩ := (UB H1).recs.here (UB HS)
  have hnu := hu.nums
  have hne : (rs.getD s recZ).nums.length = 2 := by rw [UB HXY]; rfl
  rw [hne] at hc hnu
  rw [UB HXY] at hnu
  obtain ⟨gi, oi, ci, hvi, hgi, q0, q1⟩ := hnu.two
  simp only [Value.slice.injEq, true_and] at hvi
  obtain ⟨rfl, rfl⟩ := hvi
  have HC := UC hc
  have Q0 := UC q0
  have hgil : gi < w1.drew.heap.size := hgi
  clear hc hu hnu q0 q1 hne ZO K0 H0 b0 bd b1
  generalize rs.getD s recZ = rk at *
  go_wp2_with fail
  go_region_held3 (fun w' => (w'.cell? ⟨w.heap.size, 0, none⟩ = some (.slice oa o.length oc) ∧ w'.cell? ⟨w.heap.size, 1, none⟩ = some (.slice (some ⟨b, off, none⟩) rs.length rc)) ∧ w'.cell? ⟨b, off + s * 7 + 6, none⟩ = some (.slice (some ⟨gi, oi, none⟩) 2 ic) ∧ w'.cell? ⟨gi, oi, none⟩ = some (.int .i64 x))
   (first | exact ⟨UM (UB K1), (VH (UB HC)).2.2.2.2.2.2, UB Q0⟩ | exact ⟨UM (UE b2 (UB K1)), (VH (UW (UB HC) hbl b2)).2.2.2.2.2.2, (b2.cell (p := ⟨gi, oi, none⟩) hgil).trans (UB Q0)⟩)
   (first
   | (go_at_call 56; refine (UB SA _ (UB H1)).mono ?_; rintro e w2 ⟨rfl, b2⟩))
  go_wp2_with fail
  go_ret
  exact ⟨rfl, UG bb b2⟩
set_option maxHeartbeats 1000000 in
set_option maxRecDepth 100000 in
theorem Xu (s : ByteArray) (w : World) (hs : s.size ≤ 1048576) :
  Calls Tryz.prog 29 #[.string s] w fun e w' => ∃ v', e = .returned (.agg #[v']) ∧ OwnL w.heap.size 22 5 w' v' (A3 (Bz s)).1 ∧ Below w.heap.size w w' := by
 have b0 := UI (w := w) (.cells #[.slice none 0 0] 25)
 have k0 := heap_alloc_new w (.cells #[.slice none 0 0] 25)
 have hcv := run_bytes_of_string (P := Tryz.prog) (w.alloc (.cells #[.slice none 0 0] 25)) 9 22 5 s Tryz.underlying9 Tryz.underlying22 Tryz.underlying5
 have hcap := grownCap_ge (w.alloc (.cells #[.slice none 0 0] 25)) s.size 0 5
 have hcap2 := grownCap_le_maxLen (w.alloc (.cells #[.slice none 0 0] 25)) s.size 0 5 (by unfold maxLen; omega)
 have hnl := Bq s
 generalize grownCap (w.alloc (.cells #[.slice none 0 0] 25)) s.size 0 5 = C at *
 have esz : (w.alloc (.cells #[.slice none 0 0] 25)).heap.size = w.heap.size + 1 := by show (w.heap.push _).size = _; simp
 have ba := UI (w := w.alloc (.cells #[.slice none 0 0] 25)) (.cells (bytesRow s C) 5 ((bytesRow s C).size, (bytesRow s C).size + 1))
 have bd := UX (w := (w.alloc (.cells #[.slice none 0 0] 25)).alloc (.cells (bytesRow s C) 5 ((bytesRow s C).size, (bytesRow s C).size + 1)))
 have HR := Gf ((Hc (w.alloc (.cells #[.slice none 0 0] 25)) 5 s C ((bytesRow s C).size, (bytesRow s C).size + 1) hcap hcap2).below bd) (by omega) (Gs s)
 rw [esz] at HR
 have HR := UC HR
 have K1 := UC (UE bd (UE ba k0))
 have bb1 := UG (UG b0 ba) bd
 have z0 := VC k0
 have z1 := bb1.size
 have zk := VC (UB K1)
 clear k0 b0 bd ba hcap hcap2 hnl esz
 generalize (A3 (Bz s)).1 = R at *
 generalize (A3 (Bz s)).2 = R2 at *
 go_enter Tryz.func29, Tryz.ntmps29
 go_wp2_with fail
 generalize ((w.alloc (.cells #[.slice none 0 0] 25)).alloc (.cells (bytesRow s C) 5 ((bytesRow s C).size, (bytesRow s C).size + 1))).drew = W at *
 refine (UB HR).mono ?_
 rintro e w1 ⟨v1, rfl, o1, b1⟩
 obtain ⟨oa, oc, rfl, _⟩ := o1.hasL.form
 have bm := UI (w := w1) (.cells #[.slice oa R.length oc] 25)
 have cm := US (heap_alloc_new w1 (.cells #[.slice oa R.length oc] 25))
 have k2 := UE bm (UE b1 (UB K1))
 have c2 := US k2
 have f2 := VG k2 0
 have K2 := UC (Av k2 (.slice oa R.length oc))
 have O2 := UC (o1.below bm)
 have bb2 := UG (UG bb1 b1) bm
 have z2 := b1.size
 clear HR hcv o1 b1 bm k2 K1 bb1
 go_wp2_with fail
 refine bodyPost_ret (results_cell_row rfl _ _ w.heap.size 25 #[.slice oa R.length oc] (0, 0) _ rfl (UB K2) Tryz.underlying25 rfl (by kernel_rfl)) rfl ?_
 exact ⟨_, rfl, ((UB O2).kept (Ab _ _ _) (by show w.heap.size < _; omega)).mono (by omega), bb2.setCell (Nat.le_refl _) _⟩
theorem Tf : (A3 (Bz { data := #[104, 111, 109, 101, 46] })).1 = Aj := by decide +kernel
theorem V7 : Cb Aj 5 = ((Aj, [Fx Aj 5]), true) := by unfold Cb; rw [if_pos (by decide +kernel)]
theorem Qa : Nm Aj [Fx Aj 5] = 5 := by decide +kernel
set_option maxHeartbeats 4000000 in
set_option maxRecDepth 100000 in
theorem Gp (w : World) : Calls Tryz.prog 7 #[] w fun e w' => e = .returned (.bool true) ∧ Below w.heap.size w w' := by
 have NM := fun (w : World) => Xu { data := #[104, 111, 109, 101, 46] } w (by decide)
 rw [Tf] at NM
 replace NM := UC NM
 have ZN := fun (w : World) (v : Value) (h : HasL w v Aj) => Ma (s := 5) h
 rw [V7] at ZN
 replace ZN := UC ZN
 have SR := fun (w : World) (vo vr : Value) (h : HasZ w vo vr Aj [Fx Aj 5]) => Oh h
 rw [Qa] at SR
 replace SR := UC SR
 generalize hrs : [Fx Aj 5] = rs at *
 have h1 : rs.length = 1 := by rw [← hrs]; rfl
 have H1 := UC h1
 clear h1 hrs
 go_enter Tryz.func7, Tryz.ntmps7
 go_wp2_with fail
 refine (UB NM _).mono ?_
 rintro e w1 ⟨v1, rfl, o1, b1⟩
 obtain ⟨x1, y1, rfl, _⟩ := o1.hasL.form
 have O1 := UC o1.hasL
 clear o1
 go_wp2_with fail
 refine (UB ZN _ _ (UB O1)).mono ?_
 rintro e w2 ⟨uo, ur, rfl, oz, b2⟩
 have bb := UG b1 b2
 have hz := oz.hasZ
 obtain ⟨za, zc, rfl, _⟩ := hz.name.form
 obtain ⟨ya, yc, e1, _⟩ := hz.recs.form
 have h1 := UB H1
 rw [h1] at e1
 subst e1
 clear h1
 have b3 := UI (w := w2) (.cells #[.slice za Aj.length zc, .slice ya 1 yc] 28)
 have k3 := heap_alloc_new w2 (.cells #[.slice za Aj.length zc, .slice ya 1 yc] 28)
 have HZ := UC (hz.below b3)
 obtain ⟨d0, d1⟩ := UM k3
 replace bb := UG bb b3
 clear hz oz b1 b2 b3 k3 O1
 go_wp2_with fail
 clear d0 d1
 generalize w2.alloc (.cells #[.slice za Aj.length zc, .slice ya 1 yc] 28) = w3 at *
 refine (UB SR _ _ _ (UB HZ)).mono ?_
 rintro e w4 ⟨rfl, b4⟩
 go_wp2_with fail
 go_ret
 exact ⟨rfl, UG bb b4⟩
end Go.Proofs.YtfneahdnpmamkaaGreat
