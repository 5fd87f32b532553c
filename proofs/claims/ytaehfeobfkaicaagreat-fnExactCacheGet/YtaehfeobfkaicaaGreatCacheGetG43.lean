/-
  Contract of the specification's CacheGet. Contracts of the byte helpers of the laws (markByteS, heldByteS): what each answers and what it leaves in memory.
-/
import Derived.Test.YtaehfeobfkaicaaGreatCacheGetG14
import Derived.Test.YtaehfeobfkaicaaGreatCacheGetG37
import Derived.Test.YtaehfeobfkaicaaGreatCacheGetG32
import Derived.Test.YtaehfeobfkaicaaGreatCacheGetG05
import Derived.Test.YtaehfeobfkaicaaGreatCacheGetG40
import Derived.Test.YtaehfeobfkaicaaGreatCacheGetG42
import Derived.Test.YtaehfeobfkaicaaGreatCacheGetG07
namespace Go.Proofs.YtaehfeobfkaicaaGreat
open Go.RowKit
set_option linter.unusedVariables false
set_option maxHeartbeats 4000000
set_option maxRecDepth 100000

theorem specCacheGet_bad {v vn : Value} {c : Ca} {n : List (List Int)} {t : Int} {w : World} (h : HasSs w v c.slots) (hn : HasL w vn n) (hz : SizeCa 1048576 c) (hg : getOk c n t = false) :
  Calls Tryz.prog 23 #[.agg #[.int .i64 c.now, .int .i64 c.turn, v], .agg #[vn], .int .i64 t] w fun e w' => ∃ v' u B1, e = .returned (.tuple #[.agg #[.int .i64 (getC c n t).now, .int .i64 (getC c n t).turn, v'], u, .int .i64 (getK c n t)]) ∧ RowX 7 (OwnSQ 67 56 5 3) VK w.heap.size w'.heap.size 71 w' v' (getC c n t).slots ∧ w.heap.size ≤ B1 ∧ RowQ B1 67 56 5 3 w' u (getL c n t) ∧ Below w.heap.size w w' := by
 obtain ⟨a, ca, rfl, _⟩ := h.form
 obtain ⟨na, nc, rfl, _⟩ := hn.form
 have b1 := UI (w := w) (.cells #[.int .i64 c.now, .int .i64 c.turn, .slice a c.slots.length ca] 30)
 have b2 := b1.alloc b1.size (.cells #[.slice na n.length nc] 46)
 have b3 := b2.alloc b2.size (.cells #[.int .i64 0, .int .i64 0, .slice none 0 0] 30)
 have KC := UC (UE (UI (w := (w.alloc (.cells #[.int .i64 c.now, .int .i64 c.turn, .slice a c.slots.length ca] 30)).alloc (.cells #[.slice na n.length nc] 46)) (.cells #[.int .i64 0, .int .i64 0, .slice none 0 0] 30)) (UE (UI (w := w.alloc (.cells #[.int .i64 c.now, .int .i64 c.turn, .slice a c.slots.length ca] 30)) (.cells #[.slice na n.length nc] 46)) (heap_alloc_new w (.cells #[.int .i64 c.now, .int .i64 c.turn, .slice a c.slots.length ca] 30))))
 have KN := UE (UI (w := (w.alloc (.cells #[.int .i64 c.now, .int .i64 c.turn, .slice a c.slots.length ca] 30)).alloc (.cells #[.slice na n.length nc] 46)) (.cells #[.int .i64 0, .int .i64 0, .slice none 0 0] 30)) (heap_alloc_new (w.alloc (.cells #[.int .i64 c.now, .int .i64 c.turn, .slice a c.slots.length ca] 30)) (.cells #[.slice na n.length nc] 46))
 have KR := heap_alloc_new ((w.alloc (.cells #[.int .i64 c.now, .int .i64 c.turn, .slice a c.slots.length ca] 30)).alloc (.cells #[.slice na n.length nc] 46)) (.cells #[.int .i64 0, .int .i64 0, .slice none 0 0] 30)
 simp only [World.size_alloc] at KN KR
 replace KN := UC KN
 replace KR := UC KR
 have zz : (((w.alloc (.cells #[.int .i64 c.now, .int .i64 c.turn, .slice a c.slots.length ca] 30)).alloc (.cells #[.slice na n.length nc] 46)).alloc (.cells #[.int .i64 0, .int .i64 0, .slice none 0 0] 30)).heap.size = w.heap.size + 3 := by simp only [World.size_alloc]
 have CO := fun (w : World) (h : HasSs w (.slice a c.slots.length ca) c.slots) => specCacheOk_has (c := c) h hz
 have NO := fun (w : World) (h : HasL w (.slice na n.length nc) n) => VO h
 have TO := fun (w : World) => specTypeOk_any t w
 have H := UC (VF h b3)
 have HN := UC (hn.below b3)
 obtain ⟨r1, r2, r3⟩ := getC_bad hg
 rw [r1, r2, r3]
 unfold getOk at hg
 clear h hn hz b1 b2 r1 r2 r3
 cases hok : cacheOk c with
 | false =>
  rw [hok] at CO
  replace CO := UC CO
  clear hg hok NO TO
  obtain ⟨d0, d1, d2⟩ := UL (UB KC)
  have e0 := US (UB KN)
  go_enter Tryz.func23, Tryz.ntmps23
  go_wp2_with fail
  clear d0 d1 d2 e0
  generalize (((w.alloc (.cells #[.int .i64 c.now, .int .i64 c.turn, .slice a c.slots.length ca] 30)).alloc (.cells #[.slice na n.length nc] 46)).alloc (.cells #[.int .i64 0, .int .i64 0, .slice none 0 0] 30)) = W at *
  refine (UB CO _ (UB H)).mono ?_
  rintro e w1 ⟨rfl, q1⟩
  have bb := UG b3 q1
  replace KC := UC (UE q1 (UB KC))
  replace KN := UC (UE q1 (UB KN))
  replace KR := UC (UE q1 (UB KR))
  replace H := UC (VF (UB H) q1)
  replace HN := UC ((UB HN).below q1)
  have z1 := q1.size
  clear q1 b3 CO
  obtain ⟨d0, d1, d2⟩ := UL (UB KC)
  have e0 := US (UB KN)
  obtain ⟨g0, g1, g2⟩ := UL (UB KR)
  obtain ⟨f0, f1, f2⟩ := frozen3 (UB KR)
  go_wp2_with fail
  clear d0 d1 d2 e0 g0 g1 g2 f0 f1 f2
  have kf : (((w1.setCell ⟨w.heap.size + 1 + 1, 0, none⟩ (.int .i64 0)).setCell ⟨w.heap.size + 1 + 1, 1, none⟩ (.int .i64 0)).setCell ⟨w.heap.size + 1 + 1, 2, none⟩ (.slice none 0 0)).heap[w.heap.size + 1 + 1]? = some (.cells #[.int .i64 0, .int .i64 0, .slice none 0 0] 30) := UV (UV (UV (UB KR) 0 _) 1 _) 2 _
  have u5 := ((UT w1 (w.heap.size + 1 + 1) 0 (.int .i64 0)).trans (UT _ (w.heap.size + 1 + 1) 1 (.int .i64 0))).trans (UT _ (w.heap.size + 1 + 1) 2 (.slice none 0 0))
  have z5 := u5.size
  refine bodyPost_ret (results_ctt rfl _ _ (w.heap.size + 1 + 1) 30 #[.int .i64 0, .int .i64 0, .slice none 0 0] (0, 0) _ rfl kf Tryz.underlying30 rfl (by kernel_rfl)) rfl ?_
  exact ⟨_, _, w.heap.size, rfl, RowX.nil _, Nat.le_refl _, ⟨[], World.ownsRow_nil _ _ _ _, fun i hi => absurd hi (Nat.not_lt_zero _)⟩, u5.below bb (by omega)⟩
 | true =>
  rw [hok] at CO hg
  replace CO := UC CO
  rw [Bool.true_and] at hg
  cases hno : nameOk n with
  | false =>
   rw [hno] at NO
   replace NO := UC NO
   clear hg hok hno TO
   obtain ⟨d0, d1, d2⟩ := UL (UB KC)
   have e0 := US (UB KN)
   go_enter Tryz.func23, Tryz.ntmps23
   go_wp2_with fail
   clear d0 d1 d2 e0
   generalize (((w.alloc (.cells #[.int .i64 c.now, .int .i64 c.turn, .slice a c.slots.length ca] 30)).alloc (.cells #[.slice na n.length nc] 46)).alloc (.cells #[.int .i64 0, .int .i64 0, .slice none 0 0] 30)) = W at *
   refine (UB CO _ (UB H)).mono ?_
   rintro e w1 ⟨rfl, q1⟩
   have bb := UG b3 q1
   replace KC := UC (UE q1 (UB KC))
   replace KN := UC (UE q1 (UB KN))
   replace KR := UC (UE q1 (UB KR))
   replace H := UC (VF (UB H) q1)
   replace HN := UC ((UB HN).below q1)
   have z1 := q1.size
   clear q1 b3 CO
   obtain ⟨d0, d1, d2⟩ := UL (UB KC)
   have e0 := US (UB KN)
   go_wp2_with fail
   clear d0 d1 d2 e0
   refine (UB NO _ (UB HN)).mono ?_
   rintro e w2 ⟨rfl, q2⟩
   replace bb := UG bb q2
   replace KC := UC (UE q2 (UB KC))
   replace KN := UC (UE q2 (UB KN))
   replace KR := UC (UE q2 (UB KR))
   replace H := UC (VF (UB H) q2)
   replace HN := UC ((UB HN).below q2)
   have z2 := q2.size
   clear q2 NO
   obtain ⟨d0, d1, d2⟩ := UL (UB KC)
   have e0 := US (UB KN)
   obtain ⟨g0, g1, g2⟩ := UL (UB KR)
   obtain ⟨f0, f1, f2⟩ := frozen3 (UB KR)
   go_wp2_with fail
   clear d0 d1 d2 e0 g0 g1 g2 f0 f1 f2
   have kf : (((w2.setCell ⟨w.heap.size + 1 + 1, 0, none⟩ (.int .i64 0)).setCell ⟨w.heap.size + 1 + 1, 1, none⟩ (.int .i64 0)).setCell ⟨w.heap.size + 1 + 1, 2, none⟩ (.slice none 0 0)).heap[w.heap.size + 1 + 1]? = some (.cells #[.int .i64 0, .int .i64 0, .slice none 0 0] 30) := UV (UV (UV (UB KR) 0 _) 1 _) 2 _
   have u5 := ((UT w2 (w.heap.size + 1 + 1) 0 (.int .i64 0)).trans (UT _ (w.heap.size + 1 + 1) 1 (.int .i64 0))).trans (UT _ (w.heap.size + 1 + 1) 2 (.slice none 0 0))
   have z5 := u5.size
   refine bodyPost_ret (results_ctt rfl _ _ (w.heap.size + 1 + 1) 30 #[.int .i64 0, .int .i64 0, .slice none 0 0] (0, 0) _ rfl kf Tryz.underlying30 rfl (by kernel_rfl)) rfl ?_
   exact ⟨_, _, w.heap.size, rfl, RowX.nil _, Nat.le_refl _, ⟨[], World.ownsRow_nil _ _ _ _, fun i hi => absurd hi (Nat.not_lt_zero _)⟩, u5.below bb (by omega)⟩
  | true =>
   rw [hno] at NO hg
   replace NO := UC NO
   rw [Bool.true_and] at hg
   rw [hg] at TO
   replace TO := UC TO
   clear hg hok hno
   obtain ⟨d0, d1, d2⟩ := UL (UB KC)
   have e0 := US (UB KN)
   go_enter Tryz.func23, Tryz.ntmps23
   go_wp2_with fail
   clear d0 d1 d2 e0
   generalize (((w.alloc (.cells #[.int .i64 c.now, .int .i64 c.turn, .slice a c.slots.length ca] 30)).alloc (.cells #[.slice na n.length nc] 46)).alloc (.cells #[.int .i64 0, .int .i64 0, .slice none 0 0] 30)) = W at *
   refine (UB CO _ (UB H)).mono ?_
   rintro e w1 ⟨rfl, q1⟩
   have bb := UG b3 q1
   replace KC := UC (UE q1 (UB KC))
   replace KN := UC (UE q1 (UB KN))
   replace KR := UC (UE q1 (UB KR))
   replace H := UC (VF (UB H) q1)
   replace HN := UC ((UB HN).below q1)
   have z1 := q1.size
   clear q1 b3 CO
   obtain ⟨d0, d1, d2⟩ := UL (UB KC)
   have e0 := US (UB KN)
   go_wp2_with fail
   clear d0 d1 d2 e0
   refine (UB NO _ (UB HN)).mono ?_
   rintro e w2 ⟨rfl, q2⟩
   replace bb := UG bb q2
   replace KC := UC (UE q2 (UB KC))
   replace KN := UC (UE q2 (UB KN))
   replace KR := UC (UE q2 (UB KR))
   replace H := UC (VF (UB H) q2)
   replace HN := UC ((UB HN).below q2)
   have z2 := q2.size
   clear q2 NO
   obtain ⟨d0, d1, d2⟩ := UL (UB KC)
   have e0 := US (UB KN)
   go_wp2_with fail
   clear d0 d1 d2 e0
   refine (UB TO _).mono ?_
   rintro e w3 ⟨rfl, rfl⟩
   obtain ⟨d0, d1, d2⟩ := UL (UB KC)
   have e0 := US (UB KN)
   obtain ⟨g0, g1, g2⟩ := UL (UB KR)
   obtain ⟨f0, f1, f2⟩ := frozen3 (UB KR)
   go_wp2_with fail
   clear d0 d1 d2 e0 g0 g1 g2 f0 f1 f2
   have kf : (((w2.setCell ⟨w.heap.size + 1 + 1, 0, none⟩ (.int .i64 0)).setCell ⟨w.heap.size + 1 + 1, 1, none⟩ (.int .i64 0)).setCell ⟨w.heap.size + 1 + 1, 2, none⟩ (.slice none 0 0)).heap[w.heap.size + 1 + 1]? = some (.cells #[.int .i64 0, .int .i64 0, .slice none 0 0] 30) := UV (UV (UV (UB KR) 0 _) 1 _) 2 _
   have u5 := ((UT w2 (w.heap.size + 1 + 1) 0 (.int .i64 0)).trans (UT _ (w.heap.size + 1 + 1) 1 (.int .i64 0))).trans (UT _ (w.heap.size + 1 + 1) 2 (.slice none 0 0))
   have z5 := u5.size
   refine bodyPost_ret (results_ctt rfl _ _ (w.heap.size + 1 + 1) 30 #[.int .i64 0, .int .i64 0, .slice none 0 0] (0, 0) _ rfl kf Tryz.underlying30 rfl (by kernel_rfl)) rfl ?_
   exact ⟨_, _, w.heap.size, rfl, RowX.nil _, Nat.le_refl _, ⟨[], World.ownsRow_nil _ _ _ _, fun i hi => absurd hi (Nat.not_lt_zero _)⟩, u5.below bb (by omega)⟩

theorem specCacheGet_none {v vn : Value} {c : Ca} {n : List (List Int)} {t : Int} {w : World} (h : HasSs w v c.slots) (hn : HasL w vn n) (hz : SizeCa 1048576 c) (hg : getOk c n t = true) (hf : findS n t c.slots = none) :
  Calls Tryz.prog 23 #[.agg #[.int .i64 c.now, .int .i64 c.turn, v], .agg #[vn], .int .i64 t] w fun e w' => ∃ v' u B1, e = .returned (.tuple #[.agg #[.int .i64 (getC c n t).now, .int .i64 (getC c n t).turn, v'], u, .int .i64 (getK c n t)]) ∧ RowX 7 (OwnSQ 67 56 5 3) VK w.heap.size w'.heap.size 71 w' v' (getC c n t).slots ∧ w.heap.size ≤ B1 ∧ RowQ B1 67 56 5 3 w' u (getL c n t) ∧ Below w.heap.size w w' := by
 obtain ⟨a, ca, rfl, _⟩ := h.form
 obtain ⟨na, nc, rfl, _⟩ := hn.form
 have b1 := UI (w := w) (.cells #[.int .i64 c.now, .int .i64 c.turn, .slice a c.slots.length ca] 30)
 have b2 := b1.alloc b1.size (.cells #[.slice na n.length nc] 46)
 have b3 := b2.alloc b2.size (.cells #[.int .i64 0, .int .i64 0, .slice none 0 0] 30)
 have KC := UC (UE (UI (w := (w.alloc (.cells #[.int .i64 c.now, .int .i64 c.turn, .slice a c.slots.length ca] 30)).alloc (.cells #[.slice na n.length nc] 46)) (.cells #[.int .i64 0, .int .i64 0, .slice none 0 0] 30)) (UE (UI (w := w.alloc (.cells #[.int .i64 c.now, .int .i64 c.turn, .slice a c.slots.length ca] 30)) (.cells #[.slice na n.length nc] 46)) (heap_alloc_new w (.cells #[.int .i64 c.now, .int .i64 c.turn, .slice a c.slots.length ca] 30))))
 have KN := UE (UI (w := (w.alloc (.cells #[.int .i64 c.now, .int .i64 c.turn, .slice a c.slots.length ca] 30)).alloc (.cells #[.slice na n.length nc] 46)) (.cells #[.int .i64 0, .int .i64 0, .slice none 0 0] 30)) (heap_alloc_new (w.alloc (.cells #[.int .i64 c.now, .int .i64 c.turn, .slice a c.slots.length ca] 30)) (.cells #[.slice na n.length nc] 46))
 have KR := heap_alloc_new ((w.alloc (.cells #[.int .i64 c.now, .int .i64 c.turn, .slice a c.slots.length ca] 30)).alloc (.cells #[.slice na n.length nc] 46)) (.cells #[.int .i64 0, .int .i64 0, .slice none 0 0] 30)
 simp only [World.size_alloc] at KN KR
 replace KN := UC KN
 replace KR := UC KR
 have zz : (((w.alloc (.cells #[.int .i64 c.now, .int .i64 c.turn, .slice a c.slots.length ca] 30)).alloc (.cells #[.slice na n.length nc] 46)).alloc (.cells #[.int .i64 0, .int .i64 0, .slice none 0 0] 30)).heap.size = w.heap.size + 3 := by simp only [World.size_alloc]
 have CO := fun (w : World) (h : HasSs w (.slice a c.slots.length ca) c.slots) => specCacheOk_has (c := c) h hz
 have NO := fun (w : World) (h : HasL w (.slice na n.length nc) n) => VO h
 have TO := fun (w : World) => specTypeOk_any t w
 have H := UC (VF h b3)
 have HN := UC (hn.below b3)
 obtain ⟨r1, r2, r3⟩ := getC_none hg hf
 rw [r1, r2, r3]
 have hg' := hg
 unfold getOk at hg'
 simp only [Bool.and_eq_true] at hg'
 obtain ⟨hok, hno, hto⟩ := hg'
 rw [hok] at CO
 rw [hno] at NO
 rw [hto] at TO
 replace CO := UC CO
 replace NO := UC NO
 replace TO := UC TO
 obtain ⟨h8, hsh⟩ := cacheOk_short hok
 have hnl : n.length ≤ 1048576 := Nat.le_trans (nameOk_parts hno).1 (by decide)
 have HTL := UC (cacheOk_till hok)
 have OW := UC (fun (w : World) (h : HasSs w (.slice a c.slots.length ca) c.slots) => l10own_has (now := c.now) (turn := c.turn) h h8 hsh)
 have HSH := UC hsh
 have HF := UC hf
 have hL8 := UC h8
 clear h hn hz b1 b2 r1 r2 r3 hg hok hno hto hsh hf
 obtain ⟨d0, d1, d2⟩ := UL (UB KC)
 have e0 := US (UB KN)
 go_enter Tryz.func23, Tryz.ntmps23
 go_wp2_with fail
 clear d0 d1 d2 e0
 generalize (((w.alloc (.cells #[.int .i64 c.now, .int .i64 c.turn, .slice a c.slots.length ca] 30)).alloc (.cells #[.slice na n.length nc] 46)).alloc (.cells #[.int .i64 0, .int .i64 0, .slice none 0 0] 30)) = W at *
 refine (UB CO _ (UB H)).mono ?_
 rintro e w1 ⟨rfl, q1⟩
 have bb := UG b3 q1
 replace KC := UC (UE q1 (UB KC))
 replace KN := UC (UE q1 (UB KN))
 replace KR := UC (UE q1 (UB KR))
 replace H := UC (VF (UB H) q1)
 replace HN := UC ((UB HN).below q1)
 have z1 := q1.size
 clear q1 b3 CO
 obtain ⟨d0, d1, d2⟩ := UL (UB KC)
 have e0 := US (UB KN)
 go_wp2_with fail
 clear d0 d1 d2 e0
 refine (UB NO _ (UB HN)).mono ?_
 rintro e w2 ⟨rfl, q2⟩
 replace bb := UG bb q2
 replace KC := UC (UE q2 (UB KC))
 replace KN := UC (UE q2 (UB KN))
 replace KR := UC (UE q2 (UB KR))
 replace H := UC (VF (UB H) q2)
 replace HN := UC ((UB HN).below q2)
 have z2 := q2.size
 clear q2 NO
 obtain ⟨d0, d1, d2⟩ := UL (UB KC)
 have e0 := US (UB KN)
 go_wp2_with fail
 clear d0 d1 d2 e0
 refine (UB TO _).mono ?_
 rintro e w3 ⟨rfl, rfl⟩
 obtain ⟨d0, d1, d2⟩ := UL (UB KC)
 have e0 := US (UB KN)
 go_wp2_with fail
 clear d0 d1 d2 e0
 refine (UB OW _ (UB H)).mono ?_
 rintro e w4 ⟨v4, rfl, o4, q4⟩
 obtain ⟨a4, c4, rfl, _⟩ := o4.form
 have b5 := UI (w := w4) (.cells #[.int .i64 c.now, .int .i64 c.turn, .slice a4 c.slots.length c4] 30)
 have KO := UC (heap_alloc_new w4 (.cells #[.int .i64 c.now, .int .i64 c.turn, .slice a4 c.slots.length c4] 30))
 have O5 := UC (RowX.below (ownsSQ 67 56 5 3) o4 b5)
 have KN5 := UC (UE b5 (UE q4 (UB KN)))
 have HN5 := UC (((UB HN).below q4).below b5)
 have q5 := UG q4 b5
 have z4 := q4.size
 clear o4 b5 OW
 have e0 := US (UB KN5)
 go_wp2_with fail
 clear e0
 refine (l10get_none (t := t) (UB KO) (UB O5) (Nat.le_refl _) (Nat.le_refl _) z4 q5 (UB HN5) (UB hL8) hnl (UB HSH) (UB HF)).mono ?_
 rintro e w6 ⟨rfl, k6, o6, q6⟩
 have KR6 := UC (UE q6 (UB KR))
 have zr := VC (UB KR)
 have bb6 := UG bb q6
 have K6 := UC k6
 have O6 := UC o6
 have z6 := VC k6
 have zb := bb.size
 clear k6 o6 q6 q5 KO O5 HN5 KN5
 obtain ⟨d0, d1, d2⟩ := UL (UB K6)
 obtain ⟨g0, g1, g2⟩ := UL (UB KR6)
 obtain ⟨f0, f1, f2⟩ := frozen3 (UB KR6)
 go_wp2_with fail
 clear d0 d1 d2 g0 g1 g2 f0 f1 f2
 have kf : (((w6.setCell ⟨w.heap.size + 1 + 1, 0, none⟩ (.int .i64 c.now)).setCell ⟨w.heap.size + 1 + 1, 1, none⟩ (.int .i64 c.turn)).setCell ⟨w.heap.size + 1 + 1, 2, none⟩ (.slice a4 c.slots.length c4)).heap[w.heap.size + 1 + 1]? = some (.cells #[.int .i64 c.now, .int .i64 c.turn, .slice a4 c.slots.length c4] 30) := UV (UV (UV (UB KR6) 0 _) 1 _) 2 _
 have u5 := ((UT w6 (w.heap.size + 1 + 1) 0 (.int .i64 c.now)).trans (UT _ (w.heap.size + 1 + 1) 1 (.int .i64 c.turn))).trans (UT _ (w.heap.size + 1 + 1) 2 (.slice a4 c.slots.length c4))
 refine bodyPost_ret (results_ctt rfl _ _ (w.heap.size + 1 + 1) 30 #[.int .i64 c.now, .int .i64 c.turn, .slice a4 c.slots.length c4] (0, 0) _ rfl kf Tryz.underlying30 rfl (by kernel_rfl)) rfl ?_
 have z5 := u5.size
 exact ⟨_, _, w.heap.size, rfl, RowX.wide (RowX.outside (ownsSQ 67 56 5 3) (UB O6) u5 (.inr (by omega))) (by omega) (by omega), by omega, ⟨[], World.ownsRow_nil _ _ _ _, fun i hi => absurd hi (Nat.not_lt_zero _)⟩, u5.below bb6 (by omega)⟩

theorem specCacheGet_some {v vn : Value} {c : Ca} {n : List (List Int)} {t : Int} {w : World} (h : HasSs w v c.slots) (hn : HasL w vn n) (hz : SizeCa 1048576 c) {i : Nat} (hg : getOk c n t = true) (hf : findS n t c.slots = some i) :
  Calls Tryz.prog 23 #[.agg #[.int .i64 c.now, .int .i64 c.turn, v], .agg #[vn], .int .i64 t] w fun e w' => ∃ v' u B1, e = .returned (.tuple #[.agg #[.int .i64 (getC c n t).now, .int .i64 (getC c n t).turn, v'], u, .int .i64 (getK c n t)]) ∧ RowX 7 (OwnSQ 67 56 5 3) VK w.heap.size w'.heap.size 71 w' v' (getC c n t).slots ∧ w.heap.size ≤ B1 ∧ RowQ B1 67 56 5 3 w' u (getL c n t) ∧ Below w.heap.size w w' := by
 obtain ⟨a, ca, rfl, _⟩ := h.form
 obtain ⟨na, nc, rfl, _⟩ := hn.form
 have b1 := UI (w := w) (.cells #[.int .i64 c.now, .int .i64 c.turn, .slice a c.slots.length ca] 30)
 have b2 := b1.alloc b1.size (.cells #[.slice na n.length nc] 46)
 have b3 := b2.alloc b2.size (.cells #[.int .i64 0, .int .i64 0, .slice none 0 0] 30)
 have KC := UC (UE (UI (w := (w.alloc (.cells #[.int .i64 c.now, .int .i64 c.turn, .slice a c.slots.length ca] 30)).alloc (.cells #[.slice na n.length nc] 46)) (.cells #[.int .i64 0, .int .i64 0, .slice none 0 0] 30)) (UE (UI (w := w.alloc (.cells #[.int .i64 c.now, .int .i64 c.turn, .slice a c.slots.length ca] 30)) (.cells #[.slice na n.length nc] 46)) (heap_alloc_new w (.cells #[.int .i64 c.now, .int .i64 c.turn, .slice a c.slots.length ca] 30))))
 have KN := UE (UI (w := (w.alloc (.cells #[.int .i64 c.now, .int .i64 c.turn, .slice a c.slots.length ca] 30)).alloc (.cells #[.slice na n.length nc] 46)) (.cells #[.int .i64 0, .int .i64 0, .slice none 0 0] 30)) (heap_alloc_new (w.alloc (.cells #[.int .i64 c.now, .int .i64 c.turn, .slice a c.slots.length ca] 30)) (.cells #[.slice na n.length nc] 46))
 have KR := heap_alloc_new ((w.alloc (.cells #[.int .i64 c.now, .int .i64 c.turn, .slice a c.slots.length ca] 30)).alloc (.cells #[.slice na n.length nc] 46)) (.cells #[.int .i64 0, .int .i64 0, .slice none 0 0] 30)
 simp only [World.size_alloc] at KN KR
 replace KN := UC KN
 replace KR := UC KR
 have zz : (((w.alloc (.cells #[.int .i64 c.now, .int .i64 c.turn, .slice a c.slots.length ca] 30)).alloc (.cells #[.slice na n.length nc] 46)).alloc (.cells #[.int .i64 0, .int .i64 0, .slice none 0 0] 30)).heap.size = w.heap.size + 3 := by simp only [World.size_alloc]
 have CO := fun (w : World) (h : HasSs w (.slice a c.slots.length ca) c.slots) => specCacheOk_has (c := c) h hz
 have NO := fun (w : World) (h : HasL w (.slice na n.length nc) n) => VO h
 have TO := fun (w : World) => specTypeOk_any t w
 have H := UC (VF h b3)
 have HN := UC (hn.below b3)
 obtain ⟨r1, r2, r3⟩ := getC_some hg hf
 rw [r1, r2, r3]
 have hg' := hg
 unfold getOk at hg'
 simp only [Bool.and_eq_true] at hg'
 obtain ⟨hok, hno, hto⟩ := hg'
 rw [hok] at CO
 rw [hno] at NO
 rw [hto] at TO
 replace CO := UC CO
 replace NO := UC NO
 replace TO := UC TO
 obtain ⟨h8, hsh⟩ := cacheOk_short hok
 have hnl : n.length ≤ 1048576 := Nat.le_trans (nameOk_parts hno).1 (by decide)
 have HTL := UC (cacheOk_till hok)
 have OW := UC (fun (w : World) (h : HasSs w (.slice a c.slots.length ca) c.slots) => l10own_has (now := c.now) (turn := c.turn) h h8 hsh)
 have HSH := UC hsh
 have HF := UC hf
 have hL8 := UC h8
 clear h hn hz b1 b2 r1 r2 r3 hg hok hno hto hsh hf
 obtain ⟨d0, d1, d2⟩ := UL (UB KC)
 have e0 := US (UB KN)
 go_enter Tryz.func23, Tryz.ntmps23
 go_wp2_with fail
 clear d0 d1 d2 e0
 generalize (((w.alloc (.cells #[.int .i64 c.now, .int .i64 c.turn, .slice a c.slots.length ca] 30)).alloc (.cells #[.slice na n.length nc] 46)).alloc (.cells #[.int .i64 0, .int .i64 0, .slice none 0 0] 30)) = W at *
 refine (UB CO _ (UB H)).mono ?_
 rintro e w1 ⟨rfl, q1⟩
 have bb := UG b3 q1
 replace KC := UC (UE q1 (UB KC))
 replace KN := UC (UE q1 (UB KN))
 replace KR := UC (UE q1 (UB KR))
 replace H := UC (VF (UB H) q1)
 replace HN := UC ((UB HN).below q1)
 have z1 := q1.size
 clear q1 b3 CO
 obtain ⟨d0, d1, d2⟩ := UL (UB KC)
 have e0 := US (UB KN)
 go_wp2_with fail
 clear d0 d1 d2 e0
 refine (UB NO _ (UB HN)).mono ?_
 rintro e w2 ⟨rfl, q2⟩
 replace bb := UG bb q2
 replace KC := UC (UE q2 (UB KC))
 replace KN := UC (UE q2 (UB KN))
 replace KR := UC (UE q2 (UB KR))
 replace H := UC (VF (UB H) q2)
 replace HN := UC ((UB HN).below q2)
 have z2 := q2.size
 clear q2 NO
 obtain ⟨d0, d1, d2⟩ := UL (UB KC)
 have e0 := US (UB KN)
 go_wp2_with fail
 clear d0 d1 d2 e0
 refine (UB TO _).mono ?_
 rintro e w3 ⟨rfl, rfl⟩
 obtain ⟨d0, d1, d2⟩ := UL (UB KC)
 have e0 := US (UB KN)
 go_wp2_with fail
 clear d0 d1 d2 e0
 refine (UB OW _ (UB H)).mono ?_
 rintro e w4 ⟨v4, rfl, o4, q4⟩
 obtain ⟨a4, c4, rfl, _⟩ := o4.form
 have b5 := UI (w := w4) (.cells #[.int .i64 c.now, .int .i64 c.turn, .slice a4 c.slots.length c4] 30)
 have KO := UC (heap_alloc_new w4 (.cells #[.int .i64 c.now, .int .i64 c.turn, .slice a4 c.slots.length c4] 30))
 have O5 := UC (RowX.below (ownsSQ 67 56 5 3) o4 b5)
 have KN5 := UC (UE b5 (UE q4 (UB KN)))
 have HN5 := UC (((UB HN).below q4).below b5)
 have q5 := UG q4 b5
 have z4 := q4.size
 clear o4 b5 OW
 have e0 := US (UB KN5)
 go_wp2_with fail
 clear e0
 refine (l10get_some (t := t) (UB KO) (UB O5) (Nat.le_refl _) (Nat.le_refl _) z4 q5 (UB HN5) (UB hL8) hnl (UB HSH) (UB HF) (UB HTL).2.1 (UB HTL).1 ((UB HTL).2.2 i (findS_at (UB HF)).1)).mono ?_
 rintro e w6 ⟨v6, x6, B6, rfl, k6, o6, hB6, p6, q6⟩
 obtain ⟨xa, xc, rfl, _⟩ := p6.form
 obtain ⟨a6, c6, hv6, _⟩ := o6.form
 rw [List.length_set] at hv6
 subst hv6
 have KR6 := UC (UE q6 (UB KR))
 have zr := VC (UB KR)
 have bb6 := UG bb q6
 have K6 := UC k6
 have O6 := UC o6
 have z6 := VC k6
 have zb := bb.size
 clear k6 o6 q6 q5 KO O5 HN5 KN5
 obtain ⟨d0, d1, d2⟩ := UL (UB K6)
 obtain ⟨g0, g1, g2⟩ := UL (UB KR6)
 obtain ⟨f0, f1, f2⟩ := frozen3 (UB KR6)
 go_wp2_with fail
 clear d0 d1 d2 g0 g1 g2 f0 f1 f2
 have kf : (((w6.setCell ⟨w.heap.size + 1 + 1, 0, none⟩ (.int .i64 c.now)).setCell ⟨w.heap.size + 1 + 1, 1, none⟩ (.int .i64 (turnN c.turn))).setCell ⟨w.heap.size + 1 + 1, 2, none⟩ (.slice a6 c.slots.length c6)).heap[w.heap.size + 1 + 1]? = some (.cells #[.int .i64 c.now, .int .i64 (turnN c.turn), .slice a6 c.slots.length c6] 30) := UV (UV (UV (UB KR6) 0 _) 1 _) 2 _
 have u5 := ((UT w6 (w.heap.size + 1 + 1) 0 (.int .i64 c.now)).trans (UT _ (w.heap.size + 1 + 1) 1 (.int .i64 (turnN c.turn)))).trans (UT _ (w.heap.size + 1 + 1) 2 (.slice a6 c.slots.length c6))
 refine bodyPost_ret (results_ctt rfl _ _ (w.heap.size + 1 + 1) 30 #[.int .i64 c.now, .int .i64 (turnN c.turn), .slice a6 c.slots.length c6] (0, 0) _ rfl kf Tryz.underlying30 rfl (by kernel_rfl)) rfl ?_
 have z5 := u5.size
 exact ⟨_, _, B6, rfl, RowX.wide (RowX.outside (ownsSQ 67 56 5 3) (UB O6) u5 (.inr (by omega))) (by omega) (by omega), by omega, (RowQ.after p6 ⟨u5.os, u5.tape, u5.output, u5.size, fun k hk hor => u5.block k hk (by omega)⟩), u5.below bb6 (by omega)⟩

theorem specCacheGet_own {v vn : Value} {c : Ca} {n : List (List Int)} {t : Int} {w : World} (h : HasSs w v c.slots) (hn : HasL w vn n) (hz : SizeCa 1048576 c) :
  Calls Tryz.prog 23 #[.agg #[.int .i64 c.now, .int .i64 c.turn, v], .agg #[vn], .int .i64 t] w fun e w' => ∃ v' u B1, e = .returned (.tuple #[.agg #[.int .i64 (getC c n t).now, .int .i64 (getC c n t).turn, v'], u, .int .i64 (getK c n t)]) ∧ RowX 7 (OwnSQ 67 56 5 3) VK w.heap.size w'.heap.size 71 w' v' (getC c n t).slots ∧ w.heap.size ≤ B1 ∧ RowQ B1 67 56 5 3 w' u (getL c n t) ∧ Below w.heap.size w w' := by
 cases hg : getOk c n t with
 | false => exact specCacheGet_bad h hn hz hg
 | true =>
  cases hf : findS n t c.slots with
  | none => exact specCacheGet_none h hn hz hg hf
  | some i => exact specCacheGet_some h hn hz hg hf
set_option maxHeartbeats 400000
set_option maxRecDepth 100000

theorem markByteS_some (B g cap : Nat) (k0 : Int) (l : List Int) (w : World) (h : Own B 5 w (.slice (some ⟨g, 0, none⟩) l.length cap) l) (hl : l.length ≤ 2097152) (hk0 : 0 ≤ k0) (hk1 : k0 ≤ 9000000000000000000) :
  Calls Tryz.prog 42 #[.slice (some ⟨g, 0, none⟩) l.length cap, .int .i64 k0] w fun e w' => e = .returned (.int .i64 (k0 + l.length)) ∧
   Own B 5 w' (.slice (some ⟨g, 0, none⟩) l.length cap) (marks k0 l.length) ∧ w.grownBy w' (some g) := by
 generalize hn : l.length = n at *
 have HN := UC hn
 clear hn
 go_enter Tryz.func42, Tryz.ntmps42
 go_wp2
 go_loopw [1, 5] (fun kk i wr => ∃ k : Nat, k ≤ n ∧ i = .int .i64 k ∧ kk = .int .i64 (k0 + k) ∧ wr.ownsRow B 5 1 (.slice (some ⟨g, 0, none⟩) n cap) n ((marked l k0 k).map (Value.int .u8)) ∧ w.grownBy wr (some g)) (fun _ i _ => n - (intOf i).toNat)
 case atStart => exact ⟨0, Nat.zero_le _, rfl, by simp, by rw [marked_zero]; have h1 := h; unfold Own at h1; rw [UB HN] at h1; exact h1, ⟨rfl, rfl, rfl, Nat.le_refl _, fun _ _ _ => rfl⟩⟩
 case round =>
  obtain ⟨k, hk, rfl, rfl, ho, hg⟩ := hrel
  by_cases hlt : k < n
  ·have hc := ho.cellAt k (by omega)
   rw [map_at _ _ (by rw [marked_length, UB HN]; exact hlt)] at hc
   have hf := ho.frozenAt k
   have HO := UC ho
   clear ho
   go_wp2
   have hst := (UB HO).stored k (.int .u8 ((k0 + k) % 256))
   refine ⟨⟨k + 1, by omega, by go_num, by go_num, ?_, ?_⟩, by simp [intOf]; omega⟩
   ·rw [← marked_succ, List.map_set]
    exact hst.1
   ·exact grown_trans hg hst.2
  ·go_wp2
   go_ret
   obtain rfl : k = n := by omega
   refine ⟨rfl, ?_, hg⟩
   unfold Own
   rw [marks_length]
   have e : marked l k0 k = marks k0 k := by have := marked_all l k0; rw [UB HN] at this; exact this
   rw [← e]
   exact ho

theorem markByteS_nil (k0 : Int) (w : World) (hk0 : 0 ≤ k0) (hk1 : k0 ≤ 9000000000000000000) :
  Calls Tryz.prog 42 #[.slice none 0 0, .int .i64 k0] w fun e w' => e = .returned (.int .i64 k0) ∧ w = w' := by
 go_enter Tryz.func42, Tryz.ntmps42
 go_wp2
 go_loop [1, 5] (fun kk i => i = .int .i64 0 ∧ kk = .int .i64 k0) (fun _ i => 0)
 case atStart => exact ⟨rfl, rfl⟩
 case round =>
  obtain ⟨rfl, rfl⟩ := hrel
  go_wp2
  go_ret
  exact ⟨rfl, rfl⟩

theorem markByteS_any {B : Nat} {v : Value} {l : List Int} (k0 : Int) {w : World} (h : Own B 5 w v l) (hl : l.length ≤ 2097152) (hk0 : 0 ≤ k0) (hk1 : k0 ≤ 9000000000000000000) :
  Calls Tryz.prog 42 #[v, .int .i64 k0] w fun e w' => e = .returned (.int .i64 (k0 + l.length)) ∧ Own B 5 w' v (marks k0 l.length) ∧ w.grownBy w' v.ownBlock := by
 rcases h.form with ⟨rfl, rfl⟩ | ⟨g, cap, rfl, _⟩
 ·refine (markByteS_nil k0 w hk0 hk1).mono fun e w' ⟨he, hw⟩ => ?_
  subst hw
  exact ⟨by simpa using he, h, ⟨rfl, rfl, rfl, Nat.le_refl _, fun _ _ _ => rfl⟩⟩
 ·exact markByteS_some B g cap k0 l w h hl hk0 hk1

theorem heldByteS_marks (a : Option Addr) (cap n : Nat) (k0 : Int) (w : World) (h : Lies w a (marks k0 n)) (hl : n ≤ 2097152) (hk0 : 0 ≤ k0) (hk1 : k0 ≤ 9000000000000000000) :
  Calls Tryz.prog 64 #[.slice a n cap, .int .i64 k0] w fun e w' => e = .returned (.int .i64 (k0 + n)) ∧ w = w' := by
 go_enter Tryz.func64, Tryz.ntmps64
 go_wp2
 go_loop [1, 5] (fun kk i => ∃ k : Nat, k ≤ n ∧ i = .int .i64 k ∧ kk = .int .i64 (k0 + k)) (fun _ i => n - (intOf i).toNat)
 case atStart => exact ⟨0, Nat.zero_le _, rfl, by simp⟩
 case round =>
  obtain ⟨k, hk, rfl, rfl⟩ := hrel
  by_cases hlt : k < n
  ·obtain ⟨b, off, rfl, hbl, hc⟩ := h.here (k := k) (by rw [marks_length]; exact hlt)
   rw [marks_getD _ _ _ hlt] at hc
   go_wp2
   exact ⟨⟨k + 1, by omega, by go_num, by go_num⟩, by simp [intOf]; omega⟩
  ·go_wp2
   go_ret
   obtain rfl : k = n := by omega
   exact ⟨rfl, rfl⟩

end Go.Proofs.YtaehfeobfkaicaaGreat
