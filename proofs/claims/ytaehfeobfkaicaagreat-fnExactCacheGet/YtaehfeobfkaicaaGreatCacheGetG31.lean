/-
  Contract of the program's CacheGet where nothing is got.
-/
import Derived.Test.YtaehfeobfkaicaaGreatCacheGetG14
import Derived.Test.YtaehfeobfkaicaaGreatCacheGetG23
import Derived.Test.YtaehfeobfkaicaaGreatCacheGetG30
import Derived.Test.YtaehfeobfkaicaaGreatCacheGetG15
namespace Go.Proofs.YtaehfeobfkaicaaGreat
open Go.RowKit
set_option linter.unusedVariables false
set_option maxHeartbeats 4000000
set_option maxRecDepth 100000

theorem implCacheGet_bad {v vn : Value} {c : Ca} {n : List (List Int)} {t : Int} {w : World} (h : HasSs w v c.slots) (hn : HasL w vn n) (hg : getOk c n t = false) :
  Calls Tryz.prog 24 #[.agg #[.int .i64 c.now, .int .i64 c.turn, v], .agg #[vn], .int .i64 t] w fun e w' => ∃ v' u s, e = .returned (.tuple #[.agg #[.int .i64 (getC c n t).now, .int .i64 (getC c n t).turn, v'], u, .int .i64 (getK c n t)]) ∧ w.heap.size ≤ s ∧ s ≤ w'.heap.size ∧ RowX 7 (OwnSl 67 56 5 3) VK w.heap.size s 71 w' v' (getC c n t).slots ∧ RowO s w'.heap.size 67 56 5 3 w' u (getL c n t) ∧ Below w.heap.size w w' := by
 obtain ⟨a, ca, rfl, _⟩ := h.form
 obtain ⟨na, nc, rfl, _⟩ := hn.form
 have b1 := UI (w := w) (.cells #[.int .i64 c.now, .int .i64 c.turn, .slice a c.slots.length ca] 30)
 have b2 := b1.alloc b1.size (.cells #[.slice na n.length nc] 46)
 have b3 := b2.alloc b2.size (.cells #[.int .i64 0, .int .i64 0, .slice none 0 0] 30)
 have KC := UC (UE (UI (w := (w.alloc (.cells #[.int .i64 c.now, .int .i64 c.turn, .slice a c.slots.length ca] 30)).alloc (.cells #[.slice na n.length nc] 46)) (.cells #[.int .i64 0, .int .i64 0, .slice none 0 0] 30)) (UE (UI (w := w.alloc (.cells #[.int .i64 c.now, .int .i64 c.turn, .slice a c.slots.length ca] 30)) (.cells #[.slice na n.length nc] 46)) (heap_alloc_new w (.cells #[.int .i64 c.now, .int .i64 c.turn, .slice a c.slots.length ca] 30))))
 have KN := UE (UI (w := (w.alloc (.cells #[.int .i64 c.now, .int .i64 c.turn, .slice a c.slots.length ca] 30)).alloc (.cells #[.slice na n.length nc] 46)) (.cells #[.int .i64 0, .int .i64 0, .slice none 0 0] 30)) (heap_alloc_new (w.alloc (.cells #[.int .i64 c.now, .int .i64 c.turn, .slice a c.slots.length ca] 30)) (.cells #[.slice na n.length nc] 46))
 have KR := heap_alloc_new ((w.alloc (.cells #[.int .i64 c.now, .int .i64 c.turn, .slice a c.slots.length ca] 30)).alloc (.cells #[.slice na n.length nc] 46)) (.cells #[.int .i64 0, .int .i64 0, .slice none 0 0] 30)
 simp only [World.size_alloc] at KN KR
 replace KN := UC KN
 replace KR := UC KR
 have zz : (((w.alloc (.cells #[.int .i64 c.now, .int .i64 c.turn, .slice a c.slots.length ca] 30)).alloc (.cells #[.slice na n.length nc] 46)).alloc (.cells #[.int .i64 0, .int .i64 0, .slice none 0 0] 30)).heap.size = w.heap.size + 3 := by simp only [World.size_alloc]
 have CO := fun (w : World) (h : HasSs w (.slice a c.slots.length ca) c.slots) => implCacheOk_has (c := c) h
 have NO := fun (w : World) (h : HasL w (.slice na n.length nc) n) => VP h
 have TO := fun (w : World) => implTypeOk_any t w
 have H := UC (VF h b3)
 have HN := UC (hn.below b3)
 obtain ⟨r1, r2, r3⟩ := getC_bad hg
 rw [r1, r2, r3]
 unfold getOk at hg
 clear h hn b1 b2 r1 r2 r3
 cases hok : cacheOk c with
 | false =>
  rw [hok] at CO
  replace CO := UC CO
  clear hg hok NO TO
  obtain ⟨d0, d1, d2⟩ := UL (UB KC)
  have e0 := US (UB KN)
  go_enter Tryz.func24, Tryz.ntmps24
  go_wp2_with fail
  clear d0 d1 d2 e0
  generalize (((w.alloc (.cells #[.int .i64 c.now, .int .i64 c.turn, .slice a c.slots.length ca] 30)).alloc (.cells #[.slice na n.length nc] 46)).alloc (.cells #[.int .i64 0, .int .i64 0, .slice none 0 0] 30)) = W at *
  refine (UB CO _ (UB H)).mono ?_
  rintro e w1 ⟨rfl, q1⟩
  have bb := UG b3 q1
  replace KC := UC (UE q1 (UB KC))
  replace KN := UC (UE q1 (UB KN))
  replace KR := UC (UE q1 (UB KR))
  replace H := UC (VF (UB H) q1)
  replace HN := UC ((UB HN).below q1)
  have z1 := q1.size
  clear q1 b3 CO
  obtain ⟨d0, d1, d2⟩ := UL (UB KC)
  have e0 := US (UB KN)
  obtain ⟨g0, g1, g2⟩ := UL (UB KR)
  obtain ⟨f0, f1, f2⟩ := frozen3 (UB KR)
  go_wp2_with fail
  clear d0 d1 d2 e0 g0 g1 g2 f0 f1 f2
  have kf : (((w1.setCell ⟨w.heap.size + 1 + 1, 0, none⟩ (.int .i64 0)).setCell ⟨w.heap.size + 1 + 1, 1, none⟩ (.int .i64 0)).setCell ⟨w.heap.size + 1 + 1, 2, none⟩ (.slice none 0 0)).heap[w.heap.size + 1 + 1]? = some (.cells #[.int .i64 0, .int .i64 0, .slice none 0 0] 30) := UV (UV (UV (UB KR) 0 _) 1 _) 2 _
  have u5 := ((UT w1 (w.heap.size + 1 + 1) 0 (.int .i64 0)).trans (UT _ (w.heap.size + 1 + 1) 1 (.int .i64 0))).trans (UT _ (w.heap.size + 1 + 1) 2 (.slice none 0 0))
  have z5 := u5.size
  refine bodyPost_ret (results_ctt rfl _ _ (w.heap.size + 1 + 1) 30 #[.int .i64 0, .int .i64 0, .slice none 0 0] (0, 0) _ rfl kf Tryz.underlying30 rfl (by kernel_rfl)) rfl ?_
  exact ⟨_, _, w.heap.size, rfl, Nat.le_refl _, by omega, RowX.nil _, RowO.nil _ _ _ _ _ _ _, u5.below bb (by omega)⟩
 | true =>
  rw [hok] at CO hg
  replace CO := UC CO
  rw [Bool.true_and] at hg
  cases hno : nameOk n with
  | false =>
   rw [hno] at NO
   replace NO := UC NO
   clear hg hok hno TO
   obtain ⟨d0, d1, d2⟩ := UL (UB KC)
   have e0 := US (UB KN)
   go_enter Tryz.func24, Tryz.ntmps24
   go_wp2_with fail
   clear d0 d1 d2 e0
   generalize (((w.alloc (.cells #[.int .i64 c.now, .int .i64 c.turn, .slice a c.slots.length ca] 30)).alloc (.cells #[.slice na n.length nc] 46)).alloc (.cells #[.int .i64 0, .int .i64 0, .slice none 0 0] 30)) = W at *
   refine (UB CO _ (UB H)).mono ?_
   rintro e w1 ⟨rfl, q1⟩
   have bb := UG b3 q1
   replace KC := UC (UE q1 (UB KC))
   replace KN := UC (UE q1 (UB KN))
   replace KR := UC (UE q1 (UB KR))
   replace H := UC (VF (UB H) q1)
   replace HN := UC ((UB HN).below q1)
   have z1 := q1.size
   clear q1 b3 CO
   obtain ⟨d0, d1, d2⟩ := UL (UB KC)
   have e0 := US (UB KN)
   go_wp2_with fail
   clear d0 d1 d2 e0
   refine (UB NO _ (UB HN)).mono ?_
   rintro e w2 ⟨rfl, q2⟩
   replace bb := UG bb q2
   replace KC := UC (UE q2 (UB KC))
   replace KN := UC (UE q2 (UB KN))
   replace KR := UC (UE q2 (UB KR))
   replace H := UC (VF (UB H) q2)
   replace HN := UC ((UB HN).below q2)
   have z2 := q2.size
   clear q2 NO
   obtain ⟨d0, d1, d2⟩ := UL (UB KC)
   have e0 := US (UB KN)
   obtain ⟨g0, g1, g2⟩ := UL (UB KR)
   obtain ⟨f0, f1, f2⟩ := frozen3 (UB KR)
   go_wp2_with fail
   clear d0 d1 d2 e0 g0 g1 g2 f0 f1 f2
   have kf : (((w2.setCell ⟨w.heap.size + 1 + 1, 0, none⟩ (.int .i64 0)).setCell ⟨w.heap.size + 1 + 1, 1, none⟩ (.int .i64 0)).setCell ⟨w.heap.size + 1 + 1, 2, none⟩ (.slice none 0 0)).heap[w.heap.size + 1 + 1]? = some (.cells #[.int .i64 0, .int .i64 0, .slice none 0 0] 30) := UV (UV (UV (UB KR) 0 _) 1 _) 2 _
   have u5 := ((UT w2 (w.heap.size + 1 + 1) 0 (.int .i64 0)).trans (UT _ (w.heap.size + 1 + 1) 1 (.int .i64 0))).trans (UT _ (w.heap.size + 1 + 1) 2 (.slice none 0 0))
   have z5 := u5.size
   refine bodyPost_ret (results_ctt rfl _ _ (w.heap.size + 1 + 1) 30 #[.int .i64 0, .int .i64 0, .slice none 0 0] (0, 0) _ rfl kf Tryz.underlying30 rfl (by kernel_rfl)) rfl ?_
   exact ⟨_, _, w.heap.size, rfl, Nat.le_refl _, by omega, RowX.nil _, RowO.nil _ _ _ _ _ _ _, u5.below bb (by omega)⟩
  | true =>
   rw [hno] at NO hg
   replace NO := UC NO
   rw [Bool.true_and] at hg
   rw [hg] at TO
   replace TO := UC TO
   clear hg hok hno
   obtain ⟨d0, d1, d2⟩ := UL (UB KC)
   have e0 := US (UB KN)
   go_enter Tryz.func24, Tryz.ntmps24
   go_wp2_with fail
   clear d0 d1 d2 e0
   generalize (((w.alloc (.cells #[.int .i64 c.now, .int .i64 c.turn, .slice a c.slots.length ca] 30)).alloc (.cells #[.slice na n.length nc] 46)).alloc (.cells #[.int .i64 0, .int .i64 0, .slice none 0 0] 30)) = W at *
   refine (UB CO _ (UB H)).mono ?_
   rintro e w1 ⟨rfl, q1⟩
   have bb := UG b3 q1
   replace KC := UC (UE q1 (UB KC))
   replace KN := UC (UE q1 (UB KN))
   replace KR := UC (UE q1 (UB KR))
   replace H := UC (VF (UB H) q1)
   replace HN := UC ((UB HN).below q1)
   have z1 := q1.size
   clear q1 b3 CO
   obtain ⟨d0, d1, d2⟩ := UL (UB KC)
   have e0 := US (UB KN)
   go_wp2_with fail
   clear d0 d1 d2 e0
   refine (UB NO _ (UB HN)).mono ?_
   rintro e w2 ⟨rfl, q2⟩
   replace bb := UG bb q2
   replace KC := UC (UE q2 (UB KC))
   replace KN := UC (UE q2 (UB KN))
   replace KR := UC (UE q2 (UB KR))
   replace H := UC (VF (UB H) q2)
   replace HN := UC ((UB HN).below q2)
   have z2 := q2.size
   clear q2 NO
   obtain ⟨d0, d1, d2⟩ := UL (UB KC)
   have e0 := US (UB KN)
   go_wp2_with fail
   clear d0 d1 d2 e0
   refine (UB TO _).mono ?_
   rintro e w3 ⟨rfl, rfl⟩
   obtain ⟨d0, d1, d2⟩ := UL (UB KC)
   have e0 := US (UB KN)
   obtain ⟨g0, g1, g2⟩ := UL (UB KR)
   obtain ⟨f0, f1, f2⟩ := frozen3 (UB KR)
   go_wp2_with fail
   clear d0 d1 d2 e0 g0 g1 g2 f0 f1 f2
   have kf : (((w2.setCell ⟨w.heap.size + 1 + 1, 0, none⟩ (.int .i64 0)).setCell ⟨w.heap.size + 1 + 1, 1, none⟩ (.int .i64 0)).setCell ⟨w.heap.size + 1 + 1, 2, none⟩ (.slice none 0 0)).heap[w.heap.size + 1 + 1]? = some (.cells #[.int .i64 0, .int .i64 0, .slice none 0 0] 30) := UV (UV (UV (UB KR) 0 _) 1 _) 2 _
   have u5 := ((UT w2 (w.heap.size + 1 + 1) 0 (.int .i64 0)).trans (UT _ (w.heap.size + 1 + 1) 1 (.int .i64 0))).trans (UT _ (w.heap.size + 1 + 1) 2 (.slice none 0 0))
   have z5 := u5.size
   refine bodyPost_ret (results_ctt rfl _ _ (w.heap.size + 1 + 1) 30 #[.int .i64 0, .int .i64 0, .slice none 0 0] (0, 0) _ rfl kf Tryz.underlying30 rfl (by kernel_rfl)) rfl ?_
   exact ⟨_, _, w.heap.size, rfl, Nat.le_refl _, by omega, RowX.nil _, RowO.nil _ _ _ _ _ _ _, u5.below bb (by omega)⟩

theorem implCacheGet_none {v vn : Value} {c : Ca} {n : List (List Int)} {t : Int} {w : World} (h : HasSs w v c.slots) (hn : HasL w vn n) (hg : getOk c n t = true) (hf : findS n t c.slots = none) :
  Calls Tryz.prog 24 #[.agg #[.int .i64 c.now, .int .i64 c.turn, v], .agg #[vn], .int .i64 t] w fun e w' => ∃ v' u s, e = .returned (.tuple #[.agg #[.int .i64 (getC c n t).now, .int .i64 (getC c n t).turn, v'], u, .int .i64 (getK c n t)]) ∧ w.heap.size ≤ s ∧ s ≤ w'.heap.size ∧ RowX 7 (OwnSl 67 56 5 3) VK w.heap.size s 71 w' v' (getC c n t).slots ∧ RowO s w'.heap.size 67 56 5 3 w' u (getL c n t) ∧ Below w.heap.size w w' := by
 obtain ⟨a, ca, rfl, _⟩ := h.form
 obtain ⟨na, nc, rfl, _⟩ := hn.form
 have b1 := UI (w := w) (.cells #[.int .i64 c.now, .int .i64 c.turn, .slice a c.slots.length ca] 30)
 have b2 := b1.alloc b1.size (.cells #[.slice na n.length nc] 46)
 have b3 := b2.alloc b2.size (.cells #[.int .i64 0, .int .i64 0, .slice none 0 0] 30)
 have KC := UC (UE (UI (w := (w.alloc (.cells #[.int .i64 c.now, .int .i64 c.turn, .slice a c.slots.length ca] 30)).alloc (.cells #[.slice na n.length nc] 46)) (.cells #[.int .i64 0, .int .i64 0, .slice none 0 0] 30)) (UE (UI (w := w.alloc (.cells #[.int .i64 c.now, .int .i64 c.turn, .slice a c.slots.length ca] 30)) (.cells #[.slice na n.length nc] 46)) (heap_alloc_new w (.cells #[.int .i64 c.now, .int .i64 c.turn, .slice a c.slots.length ca] 30))))
 have KN := UE (UI (w := (w.alloc (.cells #[.int .i64 c.now, .int .i64 c.turn, .slice a c.slots.length ca] 30)).alloc (.cells #[.slice na n.length nc] 46)) (.cells #[.int .i64 0, .int .i64 0, .slice none 0 0] 30)) (heap_alloc_new (w.alloc (.cells #[.int .i64 c.now, .int .i64 c.turn, .slice a c.slots.length ca] 30)) (.cells #[.slice na n.length nc] 46))
 have KR := heap_alloc_new ((w.alloc (.cells #[.int .i64 c.now, .int .i64 c.turn, .slice a c.slots.length ca] 30)).alloc (.cells #[.slice na n.length nc] 46)) (.cells #[.int .i64 0, .int .i64 0, .slice none 0 0] 30)
 simp only [World.size_alloc] at KN KR
 replace KN := UC KN
 replace KR := UC KR
 have zz : (((w.alloc (.cells #[.int .i64 c.now, .int .i64 c.turn, .slice a c.slots.length ca] 30)).alloc (.cells #[.slice na n.length nc] 46)).alloc (.cells #[.int .i64 0, .int .i64 0, .slice none 0 0] 30)).heap.size = w.heap.size + 3 := by simp only [World.size_alloc]
 have CO := fun (w : World) (h : HasSs w (.slice a c.slots.length ca) c.slots) => implCacheOk_has (c := c) h
 have NO := fun (w : World) (h : HasL w (.slice na n.length nc) n) => VP h
 have TO := fun (w : World) => implTypeOk_any t w
 have H := UC (VF h b3)
 have HN := UC (hn.below b3)
 obtain ⟨r1, r2, r3⟩ := getC_none hg hf
 rw [r1, r2, r3]
 have hg' := hg
 unfold getOk at hg'
 simp only [Bool.and_eq_true] at hg'
 obtain ⟨hok, hno, hto⟩ := hg'
 rw [hok] at CO
 rw [hno] at NO
 rw [hto] at TO
 replace CO := UC CO
 replace NO := UC NO
 replace TO := UC TO
 have hkeys := cacheOk_keys hok
 obtain ⟨h8, hsh⟩ := cacheOk_short hok
 have hnp := nameOk_parts hno
 have hn15 : ∀ k, k < n.length → (n.getD k []).length ≤ 15 := fun k hk => (labelOk_length (hnp.2 k hk)).2
 have HLOOK := UC (KeyOk.look hno hto hkeys.mem)
 have SK := fun (w : World) (h : HasL w (.slice na n.length nc) n) => slotKey_has (t := t) h hnp.1 hn15
 have SHF := fun (w : World) (h : HasSs w (.slice a c.slots.length ca) c.slots) => shelfOf_has (turn0 := c.now) (turn := c.turn) h hkeys h8 hsh
 have hkz := UC (ksB_size (t := t) hnp.1 hn15)
 replace SK := UC SK
 replace SHF := UC SHF
 rw [hf] at HLOOK
 have CC := fun (w : World) (h : HasSs w (.slice a c.slots.length ca) c.slots) => copyCache_own (now := c.now) (turn := c.turn) h h8 hsh
 replace CC := UC CC
 clear h hn b1 b2 r1 r2 r3 hg hf hok hno hto hkeys h8 hsh hnp hn15
 obtain ⟨d0, d1, d2⟩ := UL (UB KC)
 have e0 := US (UB KN)
 go_enter Tryz.func24, Tryz.ntmps24
 go_wp2_with fail
 clear d0 d1 d2 e0
 generalize (((w.alloc (.cells #[.int .i64 c.now, .int .i64 c.turn, .slice a c.slots.length ca] 30)).alloc (.cells #[.slice na n.length nc] 46)).alloc (.cells #[.int .i64 0, .int .i64 0, .slice none 0 0] 30)) = W at *
 refine (UB CO _ (UB H)).mono ?_
 rintro e w1 ⟨rfl, q1⟩
 have bb := UG b3 q1
 replace KC := UC (UE q1 (UB KC))
 replace KN := UC (UE q1 (UB KN))
 replace KR := UC (UE q1 (UB KR))
 replace H := UC (VF (UB H) q1)
 replace HN := UC ((UB HN).below q1)
 have z1 := q1.size
 clear q1 b3 CO
 obtain ⟨d0, d1, d2⟩ := UL (UB KC)
 have e0 := US (UB KN)
 go_wp2_with fail
 clear d0 d1 d2 e0
 refine (UB NO _ (UB HN)).mono ?_
 rintro e w2 ⟨rfl, q2⟩
 replace bb := UG bb q2
 replace KC := UC (UE q2 (UB KC))
 replace KN := UC (UE q2 (UB KN))
 replace KR := UC (UE q2 (UB KR))
 replace H := UC (VF (UB H) q2)
 replace HN := UC ((UB HN).below q2)
 have z2 := q2.size
 clear q2 NO
 obtain ⟨d0, d1, d2⟩ := UL (UB KC)
 have e0 := US (UB KN)
 go_wp2_with fail
 clear d0 d1 d2 e0
 refine (UB TO _).mono ?_
 rintro e w3 ⟨rfl, rfl⟩
 obtain ⟨d0, d1, d2⟩ := UL (UB KC)
 have e0 := US (UB KN)
 go_wp2_with fail
 clear d0 d1 d2 e0
 have bd := UX (w := w2)
 replace bb := UG bb bd
 replace KC := UC (UE bd (UB KC))
 replace KN := UC (UE bd (UB KN))
 replace KR := UC (UE bd (UB KR))
 replace H := UC (VF (UB H) bd)
 replace HN := UC ((UB HN).below bd)
 have zd := bd.size
 clear bd
 refine startC [0, 2, 3, 1, 4, 5, 6] (by kernel_rfl) ⟨by kernel_rfl, by kernel_rfl, by kernel_rfl, by kernel_rfl⟩ 4 [(0, fun w' => (fun w' => w'.cell? ⟨w.heap.size, 0, none⟩ = some (.int .i64 c.now) ∧ w'.cell? ⟨w.heap.size, 1, none⟩ = some (.int .i64 c.turn) ∧ w'.cell? ⟨w.heap.size, 2, none⟩ = some (.slice a c.slots.length ca)) w'), (2, fun w' => (fun w' => w'.cell? ⟨w.heap.size + 1, 0, none⟩ = some (.slice na n.length nc)) w')] (fun hA => ?_)
 replace hA := UC hA
 generalize hWD : w2.drew = WD at *
 clear hWD
 refine takeC ?_ (UB hA) rfl rfl rfl (by rfl) (fun _ _ _ h => h) (.head _) (UL (UB KC)) ?_ ?_; rotate_left; (· (intro w hSw; (try dsimp only at hSw); go_simp <;> with_reducible rfl)); go_simp
 refine takeC ?_ (UB hA) rfl rfl rfl (by rfl) (fun _ _ _ h => h) (.tail _ (.head _)) (US (UB KN)) ?_ ?_; rotate_left; (· (intro w hSw; (try dsimp only at hSw); go_simp <;> with_reducible rfl)); go_simp
 repeat ((first | (refine VN ?_ (UB hA) rfl rfl rfl (by rfl) (fun _ _ _ h => h) ?_ ?_; rotate_left; · (intro w; go_simp <;> with_reducible rfl)) | refine VM (UB hA) rfl rfl (by rfl) (fun _ _ _ h => h) ?_); go_simp)
 refine runC (UB hA) rfl rfl (by kernel_rfl) (by kernel_rfl) (fun K hK => ?_)
 have HK := UC hK
 clear hK
 go_simp
 refine (UB SHF _ (UB H)).mono ?_
 rintro e w4 ⟨b, rfl, kp, em, hbb, q4⟩
 have KC4 := UC (UE q4 (UB KC))
 have KN4 := UC (UE q4 (UB KN))
 have KR4 := UC (UE q4 (UB KR))
 have HN4 := UC ((UB HN).below q4)
 have z4 := q4.size
 have bb4 := UG bb q4
 have Q4 := UC q4
 have KP4 := UC kp
 have EM4 := UC em
 clear kp em q4
 refine (UB HK).out _ _ (VB (by kernel_rfl) (keepC_yes (US (UB KN4)) VL)) ?_
 clear HK K
 go_simp
 repeat ((first | (refine VN ?_ (UB hA) rfl rfl rfl (by rfl) (fun _ _ _ h => h) ?_ ?_; rotate_left; · (intro w; go_simp <;> with_reducible rfl)) | refine VM (UB hA) rfl rfl (by rfl) (fun _ _ _ h => h) ?_); go_simp)
 refine runC (UB hA) rfl rfl (by kernel_rfl) (by kernel_rfl) (fun K hK => ?_)
 have HK := UC hK
 clear hK
 go_simp
 refine (UB SK _ (UB HN4)).mono ?_
 rintro e w5 ⟨rfl, q5⟩
 have KC5 := UC (UE q5 (UB KC4))
 have KR5 := UC (UE q5 (UB KR4))
 have KP5 := UC (UE q5 (UB KP4))
 have EM5 := UC ((UB EM4).below q5)
 have z5 := q5.size
 have bb5 := UG bb4 q5
 have Q5 := UC (UG (UB Q4) q5)
 clear q5
 refine (UB HK).out _ _ (VB (by kernel_rfl) (VB (by kernel_rfl) VL)) ?_
 clear HK K
 go_simp
 repeat ((first | (refine VN ?_ (UB hA) rfl rfl rfl (by rfl) (fun _ _ _ h => h) ?_ ?_; rotate_left; · (intro w; go_simp <;> with_reducible rfl)) | refine VM (UB hA) rfl rfl (by rfl) (fun _ _ _ h => h) ?_); go_simp)
 refine doneC (UB hA) rfl ?_
 clear hA
 obtain ⟨ps, hM, hcase⟩ := entM_look (UB EM5) (ksB n t)
 rcases hcase with ⟨l1, _⟩ | ⟨sv, sx, _, q2, _⟩
 ·have hlk := mapV_look_ok (t := 92) Tryz.underlying92 Tryz.underlying9 (zero_slV w5) hM (ksB n t) (UB hkz)
  rw [l1, Option.getD_none, Option.isSome_none] at hlk
  obtain ⟨y0, y1⟩ := cells2S (UB KP5)
  have b6 := UI (w := w5) (.cells #[.slice none 0 0, .int .i64 0, .int .i64 0, .slice none 0 0, .int .i64 0, .int .i64 0, .int .i64 0] 71)
  have KC6 := UC (UE b6 (UB KC5))
  have KR6 := UC (UE b6 (UB KR5))
  have H6 := UC (VF (UB H) (UG (UB Q5) b6))
  have bb6 := UG bb5 b6
  have z6 := b6.size
  obtain ⟨d0, d1, d2⟩ := UL (UB KC6)
  go_wp2_with fail
  clear y0 y1 d0 d1 d2 hlk
  generalize w5.alloc (.cells #[.slice none 0 0, .int .i64 0, .int .i64 0, .slice none 0 0, .int .i64 0, .int .i64 0, .int .i64 0] 71) = w6 at *
  refine (UB CC _ (UB H6)).mono ?_
  rintro e w7 ⟨v7, rfl, o7, q7⟩
  obtain ⟨xa, xc, rfl, _⟩ := o7.form
  have KR7 := UC (UE q7 (UB KR6))
  have bb7 := UG bb6 q7
  have z7 := q7.size
  obtain ⟨g0, g1, g2⟩ := UL (UB KR7)
  obtain ⟨f0, f1, f2⟩ := frozen3 (UB KR7)
  go_wp2_with fail
  clear g0 g1 g2 f0 f1 f2
  have kf : (((w7.setCell ⟨w.heap.size + 1 + 1, 0, none⟩ (.int .i64 c.now)).setCell ⟨w.heap.size + 1 + 1, 1, none⟩ (.int .i64 c.turn)).setCell ⟨w.heap.size + 1 + 1, 2, none⟩ (.slice xa c.slots.length xc)).heap[w.heap.size + 1 + 1]? = some (.cells #[.int .i64 c.now, .int .i64 c.turn, .slice xa c.slots.length xc] 30) := UV (UV (UV (UB KR7) 0 _) 1 _) 2 _
  have u8 := ((UT w7 (w.heap.size + 1 + 1) 0 (.int .i64 c.now)).trans (UT _ (w.heap.size + 1 + 1) 1 (.int .i64 c.turn))).trans (UT _ (w.heap.size + 1 + 1) 2 (.slice xa c.slots.length xc))
  have z8 := u8.size
  have O8 := RowX.outside (ownsSl 67 56 5 3) o7 u8 (.inr (by omega))
  refine bodyPost_ret (results_ctt rfl _ _ (w.heap.size + 1 + 1) 30 #[.int .i64 c.now, .int .i64 c.turn, .slice xa c.slots.length xc] (0, 0) _ rfl kf Tryz.underlying30 rfl (by kernel_rfl)) rfl ?_
  exact ⟨_, _, w7.heap.size, rfl, by omega, by omega, RowX.wide O8 (by omega) (Nat.le_refl _), RowO.nil _ _ _ _ _ _ _, u8.below bb7 (by omega)⟩
 ·rw [UB HLOOK] at q2
  cases q2
end Go.Proofs.YtaehfeobfkaicaaGreat
