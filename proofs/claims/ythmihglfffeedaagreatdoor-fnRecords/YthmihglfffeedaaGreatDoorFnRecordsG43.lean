/-
  Contracts of the program's DataGet.
-/
import Derived.Test.YthmihglfffeedaaGreatDoorFnRecordsG42
import Derived.Test.YthmihglfffeedaaGreatDoorFnRecordsG24
import Derived.Test.YthmihglfffeedaaGreatDoorFnRecordsG35
import Derived.Test.YthmihglfffeedaaGreatDoorFnRecordsG31
namespace Go.Proofs.YthmihglfffeedaaGreatDoor
open Go.RowKit
set_option linter.unusedVariables false
set_option maxHeartbeats 1000000
set_option maxRecDepth 100000

theorem implDataGet_A {B : Nat} {v : Value} {l : List Int} (p n : Int) {w : World} (h : Own B 5 w v l) (hl : l.length ≤ 512) (hp0 : 0 ≤ p) (hp : p ≤ 9223372036854775807) (hn0 : 0 ≤ n) (hn1 : n ≤ 512) (hb : Bytes8 l) :
  Calls Tryz.prog 11 #[.int .i64 1, v, .int .i64 p, .int .i64 n] w (GivesR w (dataGet 1 l p n).1 (dataGet 1 l p n).2) := by
 have hty : typeOk 1 = true := rfl
 have hkv : kindV 1 = .iface 85 (.agg #[.int .i64 0]) := rfl
 rw [dataGet_in hty hl hp0 hn0 hn1]
 have he := get32_end l p
 have hkg : kindGet 1 l p = (⟨[], 1, 0, (get32 l p).1, [], [], []⟩, (get32 l p).2) := by unfold kindGet; rw [if_pos rfl]
 rw [hkg]
 skip
 have b0 := UI (w := w) (.cells #[.slice none 0 0, .int .i64 0, .int .i64 0, .int .i64 0, .slice none 0 0, .slice none 0 0, .slice none 0 0] 28)
 have K0 := UC (heap_alloc_new w (.cells #[.slice none 0 0, .int .i64 0, .int .i64 0, .int .i64 0, .slice none 0 0, .slice none 0 0, .slice none 0 0] 28))
 have HG := UC (addrGet_own 0 p (h.below b0) hl hp hb)
 have HT := implTypeOk_any 1 (w.alloc (.cells #[.slice none 0 0, .int .i64 0, .int .i64 0, .int .i64 0, .slice none 0 0, .slice none 0 0, .slice none 0 0] 28))
 rw [hty] at HT
 have HT := UC HT
 have HK := kindOf_any 1 (w.alloc (.cells #[.slice none 0 0, .int .i64 0, .int .i64 0, .int .i64 0, .slice none 0 0, .slice none 0 0, .slice none 0 0] 28))
 rw [hkv] at HK
 have HK := UC HK
 obtain ⟨a, cap, rfl, _⟩ := h.lies
 dsimp only at he ⊢
 clear h hkg hkv hty hb
 generalize (get32 l p).1 = g1 at *
 generalize (get32 l p).2 = g2 at *
 generalize hRes : (if g2 < 0 ∨ g2 - p ≠ n ∨ rrOk ⟨[], 1, 0, g1, [], [], []⟩ = false then (emptyR 0, false) else (⟨[], 1, 0, g1, [], [], []⟩, true)) = Res
 have HRES := UC hRes
 clear hRes
 have hll : ¬ (512 : Int) < (l.length : Int) := by omega
 have hp0' : ¬ p < 0 := by omega
 generalize hLN : l.length = L at *
 clear hLN
 have zW := b0.size
 have zK := VC (UB K0)
 go_enter Tryz.func11, Tryz.ntmps11
 go_wp2_with fail
 generalize w.alloc (.cells #[.slice none 0 0, .int .i64 0, .int .i64 0, .int .i64 0, .slice none 0 0, .slice none 0 0, .slice none 0 0] 28) = W at *
 refine (UB HT).mono ?_
 rintro e w1 ⟨rfl, rfl⟩
 go_wp2_with fail
 refine (upTo_yes _ hn0 hn1).mono ?_
 rintro e w1 ⟨rfl, rfl⟩
 go_wp2_with fail
 refine (UB HK).mono ?_
 rintro e w1 ⟨rfl, rfl⟩
 clear HT HK
 go_wp2_with fail
 refine (UB HG).mono ?_
 rintro e w1 ⟨rfl, b1⟩
 
 have K1 := UC (UE b1 (UB K0))
 have bb1 := UG b0 b1
 have z1 := b1.size
 have HR := UC (show OwnR W.heap.size w1.heap.size 22 5 3 w1 (.slice none 0 0) (.slice none 0 0) (.slice none 0 0) (.slice none 0 0) ⟨[], 1, 0, g1, [], [], []⟩ from ⟨W.heap.size, W.heap.size, W.heap.size, Nat.le_refl _, Nat.le_refl _, Nat.le_refl _, b1.size, ownN_nil _ _ _ _ _, ownN_nil _ _ _ _ _, ownB_nil _ _ _ _, ownBI_nil _ _ _ _⟩)
 clear K0 HG b0 
 by_cases hneg : g2 < 0
 ·have hRes := UB HRES
  rw [if_pos (.inl hneg)] at hRes
  subst hRes
  obtain ⟨f0, f1, f2, f3, f4, f5, f6⟩ := UJ (UB K1)
  obtain ⟨q0, q1, q2, q3, q4, q5, q6⟩ := VI (UB K1)
  go_wp2_with fail
  obtain ⟨R9, u9⟩ := set7 (c0 := .slice none 0 0) (c1 := .int .i64 0) (c2 := .int .i64 0) (c3 := .int .i64 0) (c4 := .slice none 0 0) (c5 := .slice none 0 0) (c6 := .slice none 0 0) (UB K1)
  refine bodyPost_ret (results_cell_tmp_row rfl _ _ w.heap.size 28 #[.slice none 0 0, .int .i64 0, .int .i64 0, .int .i64 0, .slice none 0 0, .slice none 0 0, .slice none 0 0] (0, 0) _ rfl R9 Tryz.underlying28 rfl (by kernel_rfl)) rfl ?_
  have z9 := u9.size
  exact ⟨_, _, _, _, rfl, ownR_nil (by omega) _ _ _ _ 0, u9.below bb1 (by omega)⟩
 have hsub : g2 - p ≤ 512 ∧ -9223372036854775808 ≤ g2 - p := by omega
 by_cases hne : g2 - p ≠ n
 ·have hRes := UB HRES
  rw [if_pos (.inr (.inl hne))] at hRes
  subst hRes
  have hne' : (g2 - p != n) = true := by rw [bne_iff_ne]; exact hne
  obtain ⟨f0, f1, f2, f3, f4, f5, f6⟩ := UJ (UB K1)
  obtain ⟨q0, q1, q2, q3, q4, q5, q6⟩ := VI (UB K1)
  go_wp2_with fail
  obtain ⟨R9, u9⟩ := set7 (c0 := .slice none 0 0) (c1 := .int .i64 0) (c2 := .int .i64 0) (c3 := .int .i64 0) (c4 := .slice none 0 0) (c5 := .slice none 0 0) (c6 := .slice none 0 0) (UB K1)
  refine bodyPost_ret (results_cell_tmp_row rfl _ _ w.heap.size 28 #[.slice none 0 0, .int .i64 0, .int .i64 0, .int .i64 0, .slice none 0 0, .slice none 0 0, .slice none 0 0] (0, 0) _ rfl R9 Tryz.underlying28 rfl (by kernel_rfl)) rfl ?_
  have z9 := u9.size
  exact ⟨_, _, _, _, rfl, ownR_nil (by omega) _ _ _ _ 0, u9.below bb1 (by omega)⟩
 replace hne : g2 - p = n := by omega
 have hne' : (g2 - p != n) = false := by rw [bne_eq_false_iff_eq]; exact hne
 go_wp2_with fail
 refine (recordOf_A (na := none) (nc := 0) (nm := []) (tt := 0) (xa := none) (xc := 0) (ia := none) (ic := 0) (tx := []) (nu := []) (ta := none) (tc := 0) (to := []) (ad := g1)).mono ?_
 rintro e w2 ⟨rfl, b2⟩
 have bb2 := UG bb1 b2
 have K2 := UC (UE b2 (UB K1))
 have HR2 := UC ((UB HR).below b2)
 have z2 := b2.size
 have b3 := UI (w := w2) (.cells #[.slice none 0 0, .int .i64 1, .int .i64 0, .int .i64 g1, .slice none 0 0, .slice none 0 0, .slice none 0 0] 28)
 have V3 := UC (heap_alloc_new w2 (.cells #[.slice none 0 0, .int .i64 1, .int .i64 0, .int .i64 g1, .slice none 0 0, .slice none 0 0, .slice none 0 0] 28))
 have K3 := UC (UE b3 (UB K2))
 have HR3 := UC ((UB HR2).below b3)
 have bb3 := UG bb2 b3
 have z3 := b3.size
 have zv := VC (UB V3)
 clear K1 HR bb1 b2 K2 HR2 bb2 b3
 obtain ⟨d0, d1, d2, d3, d4, d5, d6⟩ := UJ (UB V3)
 go_wp2_with fail
 clear d0 d1 d2 d3 d4 d5 d6
 generalize w2.alloc (.cells #[.slice none 0 0, .int .i64 1, .int .i64 0, .int .i64 g1, .slice none 0 0, .slice none 0 0, .slice none 0 0] 28) = w3 at *
 have HO := implRrOk_has (UB HR3).hasR
 dsimp only at HO
 cases hok : rrOk ⟨[], 1, 0, g1, [], [], []⟩ with
 | false =>
  rw [hok] at HO
  have hRes := UB HRES
  rw [if_pos (.inr (.inr hok))] at hRes
  subst hRes
  clear HRES
  refine HO.mono ?_
  rintro e w4 ⟨rfl, b4⟩
  have K4 := UC (UE b4 (UB K3))
  have bb4 := UG bb3 b4
  have z4 := b4.size
  clear HO hok K3 bb3 b4
  obtain ⟨f0, f1, f2, f3, f4, f5, f6⟩ := UJ (UB K4)
  obtain ⟨q0, q1, q2, q3, q4, q5, q6⟩ := VI (UB K4)
  go_wp2_with fail
  obtain ⟨R9, u9⟩ := set7 (c0 := .slice none 0 0) (c1 := .int .i64 0) (c2 := .int .i64 0) (c3 := .int .i64 0) (c4 := .slice none 0 0) (c5 := .slice none 0 0) (c6 := .slice none 0 0) (UB K4)
  refine bodyPost_ret (results_cell_tmp_row rfl _ _ w.heap.size 28 #[.slice none 0 0, .int .i64 0, .int .i64 0, .int .i64 0, .slice none 0 0, .slice none 0 0, .slice none 0 0] (0, 0) _ rfl R9 Tryz.underlying28 rfl (by kernel_rfl)) rfl ?_
  have z9 := u9.size
  exact ⟨_, _, _, _, rfl, ownR_nil (by omega) _ _ _ _ 0, u9.below bb4 (by omega)⟩
 | true =>
  rw [hok] at HO
  have hRes := UB HRES
  rw [if_neg (by rw [hok]; simp; omega)] at hRes
  subst hRes
  clear HRES
  refine HO.mono ?_
  rintro e w4 ⟨rfl, b4⟩
  have K4 := UC (UE b4 (UB K3))
  have V4 := UC (UE b4 (UB V3))
  have HR4 := UC ((UB HR3).below b4)
  have bb4 := UG bb3 b4
  have z4 := b4.size
  clear HO hok K3 V3 bb3 b4 HR3
  obtain ⟨d0, d1, d2, d3, d4, d5, d6⟩ := UJ (UB V4)
  obtain ⟨f0, f1, f2, f3, f4, f5, f6⟩ := UJ (UB K4)
  obtain ⟨q0, q1, q2, q3, q4, q5, q6⟩ := VI (UB K4)
  go_wp2_with fail
  obtain ⟨R9, u9⟩ := set7 (c0 := .slice none 0 0) (c1 := .int .i64 1) (c2 := .int .i64 0) (c3 := .int .i64 g1) (c4 := .slice none 0 0) (c5 := .slice none 0 0) (c6 := .slice none 0 0) (UB K4)
  refine bodyPost_ret (results_cell_tmp_row rfl _ _ w.heap.size 28 #[.slice none 0 0, .int .i64 1, .int .i64 0, .int .i64 g1, .slice none 0 0, .slice none 0 0, .slice none 0 0] (0, 0) _ rfl R9 Tryz.underlying28 rfl (by kernel_rfl)) rfl ?_
  have z9 := u9.size
  exact ⟨_, _, _, _, rfl, ((UB HR4).outside u9 (by omega)).wide (by omega) (by omega), u9.below bb4 (by omega)⟩

theorem implDataGet_N {B : Nat} {v : Value} {l : List Int} {t : Int} (p n : Int) {w : World} (ht : t = 2 ∨ t = 5 ∨ t = 12) (h : Own B 5 w v l) (hl : l.length ≤ 512) (hp0 : 0 ≤ p) (hp : p ≤ 9223372036854775807) (hn0 : 0 ≤ n) (hn1 : n ≤ 512) (hb : Bytes8 l) :
  Calls Tryz.prog 11 #[.int .i64 t, v, .int .i64 p, .int .i64 n] w (GivesR w (dataGet t l p n).1 (dataGet t l p n).2) := by
 have hty : typeOk t = true := by rcases ht with rfl | rfl | rfl <;> rfl
 have hkv : kindV t = .iface 87 (.agg #[.slice none 0 0]) := kindV_N ht
 rw [dataGet_in hty hl hp0 hn0 hn1]
 have he := nameGet_end l p
 have hkg : kindGet t l p = (⟨[], t, 0, 0, (nameGet l p).1, [], []⟩, (nameGet l p).2) := by unfold kindGet; rw [if_neg (by omega), if_neg (by omega), if_pos (by rcases ht with rfl | rfl | rfl <;> rfl)]
 rw [hkg]
 skip
 have b0 := UI (w := w) (.cells #[.slice none 0 0, .int .i64 0, .int .i64 0, .int .i64 0, .slice none 0 0, .slice none 0 0, .slice none 0 0] 28)
 have K0 := UC (heap_alloc_new w (.cells #[.slice none 0 0, .int .i64 0, .int .i64 0, .int .i64 0, .slice none 0 0, .slice none 0 0, .slice none 0 0] 28))
 have HG := UC (nameGetM_own (x := .slice none 0 0) p (h.below b0) hl hp hb)
 have HT := implTypeOk_any t (w.alloc (.cells #[.slice none 0 0, .int .i64 0, .int .i64 0, .int .i64 0, .slice none 0 0, .slice none 0 0, .slice none 0 0] 28))
 rw [hty] at HT
 have HT := UC HT
 have HK := kindOf_any t (w.alloc (.cells #[.slice none 0 0, .int .i64 0, .int .i64 0, .int .i64 0, .slice none 0 0, .slice none 0 0, .slice none 0 0] 28))
 rw [hkv] at HK
 have HK := UC HK
 obtain ⟨a, cap, rfl, _⟩ := h.lies
 dsimp only at he ⊢
 clear h hkg hkv hty hb
 generalize (nameGet l p).1 = g1 at *
 generalize (nameGet l p).2 = g2 at *
 generalize hRes : (if g2 < 0 ∨ g2 - p ≠ n ∨ rrOk ⟨[], t, 0, 0, g1, [], []⟩ = false then (emptyR 0, false) else (⟨[], t, 0, 0, g1, [], []⟩, true)) = Res
 have HRES := UC hRes
 clear hRes
 have hll : ¬ (512 : Int) < (l.length : Int) := by omega
 have hp0' : ¬ p < 0 := by omega
 generalize hLN : l.length = L at *
 clear hLN
 have zW := b0.size
 have zK := VC (UB K0)
 go_enter Tryz.func11, Tryz.ntmps11
 go_wp2_with fail
 generalize w.alloc (.cells #[.slice none 0 0, .int .i64 0, .int .i64 0, .int .i64 0, .slice none 0 0, .slice none 0 0, .slice none 0 0] 28) = W at *
 refine (UB HT).mono ?_
 rintro e w1 ⟨rfl, rfl⟩
 go_wp2_with fail
 refine (upTo_yes _ hn0 hn1).mono ?_
 rintro e w1 ⟨rfl, rfl⟩
 go_wp2_with fail
 refine (UB HK).mono ?_
 rintro e w1 ⟨rfl, rfl⟩
 clear HT HK
 go_wp2_with fail
 refine (UB HG).mono ?_
 rintro e w1 ⟨v1, rfl, o1, b1⟩
 obtain ⟨oa, oc, rfl, _⟩ := o1.hasL.form
 have K1 := UC (UE b1 (UB K0))
 have bb1 := UG b0 b1
 have z1 := b1.size
 have HR := UC (show OwnR W.heap.size w1.heap.size 22 5 3 w1 (.slice none 0 0) (.slice oa g1.length oc) (.slice none 0 0) (.slice none 0 0) ⟨[], t, 0, 0, g1, [], []⟩ from ⟨W.heap.size, w1.heap.size, w1.heap.size, Nat.le_refl _, b1.size, Nat.le_refl _, Nat.le_refl _, ownN_nil _ _ _ _ _, o1.here, ownB_nil _ _ _ _, ownBI_nil _ _ _ _⟩)
 clear K0 HG b0 o1
 by_cases hneg : g2 < 0
 ·have hRes := UB HRES
  rw [if_pos (.inl hneg)] at hRes
  subst hRes
  obtain ⟨f0, f1, f2, f3, f4, f5, f6⟩ := UJ (UB K1)
  obtain ⟨q0, q1, q2, q3, q4, q5, q6⟩ := VI (UB K1)
  go_wp2_with fail
  obtain ⟨R9, u9⟩ := set7 (c0 := .slice none 0 0) (c1 := .int .i64 0) (c2 := .int .i64 0) (c3 := .int .i64 0) (c4 := .slice none 0 0) (c5 := .slice none 0 0) (c6 := .slice none 0 0) (UB K1)
  refine bodyPost_ret (results_cell_tmp_row rfl _ _ w.heap.size 28 #[.slice none 0 0, .int .i64 0, .int .i64 0, .int .i64 0, .slice none 0 0, .slice none 0 0, .slice none 0 0] (0, 0) _ rfl R9 Tryz.underlying28 rfl (by kernel_rfl)) rfl ?_
  have z9 := u9.size
  exact ⟨_, _, _, _, rfl, ownR_nil (by omega) _ _ _ _ 0, u9.below bb1 (by omega)⟩
 have hsub : g2 - p ≤ 512 ∧ -9223372036854775808 ≤ g2 - p := by omega
 by_cases hne : g2 - p ≠ n
 ·have hRes := UB HRES
  rw [if_pos (.inr (.inl hne))] at hRes
  subst hRes
  have hne' : (g2 - p != n) = true := by rw [bne_iff_ne]; exact hne
  obtain ⟨f0, f1, f2, f3, f4, f5, f6⟩ := UJ (UB K1)
  obtain ⟨q0, q1, q2, q3, q4, q5, q6⟩ := VI (UB K1)
  go_wp2_with fail
  obtain ⟨R9, u9⟩ := set7 (c0 := .slice none 0 0) (c1 := .int .i64 0) (c2 := .int .i64 0) (c3 := .int .i64 0) (c4 := .slice none 0 0) (c5 := .slice none 0 0) (c6 := .slice none 0 0) (UB K1)
  refine bodyPost_ret (results_cell_tmp_row rfl _ _ w.heap.size 28 #[.slice none 0 0, .int .i64 0, .int .i64 0, .int .i64 0, .slice none 0 0, .slice none 0 0, .slice none 0 0] (0, 0) _ rfl R9 Tryz.underlying28 rfl (by kernel_rfl)) rfl ?_
  have z9 := u9.size
  exact ⟨_, _, _, _, rfl, ownR_nil (by omega) _ _ _ _ 0, u9.below bb1 (by omega)⟩
 replace hne : g2 - p = n := by omega
 have hne' : (g2 - p != n) = false := by rw [bne_eq_false_iff_eq]; exact hne
 go_wp2_with fail
 refine (recordOf_N (na := none) (nc := 0) (nm := []) (tt := 0) (xa := none) (xc := 0) (ia := none) (ic := 0) (tx := []) (nu := []) (ta := oa) (tc := oc) (to := g1) (ad := 0) (ty := t)).mono ?_
 rintro e w2 ⟨rfl, b2⟩
 have bb2 := UG bb1 b2
 have K2 := UC (UE b2 (UB K1))
 have HR2 := UC ((UB HR).below b2)
 have z2 := b2.size
 have b3 := UI (w := w2) (.cells #[.slice none 0 0, .int .i64 t, .int .i64 0, .int .i64 0, .slice oa g1.length oc, .slice none 0 0, .slice none 0 0] 28)
 have V3 := UC (heap_alloc_new w2 (.cells #[.slice none 0 0, .int .i64 t, .int .i64 0, .int .i64 0, .slice oa g1.length oc, .slice none 0 0, .slice none 0 0] 28))
 have K3 := UC (UE b3 (UB K2))
 have HR3 := UC ((UB HR2).below b3)
 have bb3 := UG bb2 b3
 have z3 := b3.size
 have zv := VC (UB V3)
 clear K1 HR bb1 b2 K2 HR2 bb2 b3
 obtain ⟨d0, d1, d2, d3, d4, d5, d6⟩ := UJ (UB V3)
 go_wp2_with fail
 clear d0 d1 d2 d3 d4 d5 d6
 generalize w2.alloc (.cells #[.slice none 0 0, .int .i64 t, .int .i64 0, .int .i64 0, .slice oa g1.length oc, .slice none 0 0, .slice none 0 0] 28) = w3 at *
 have HO := implRrOk_has (UB HR3).hasR
 dsimp only at HO
 cases hok : rrOk ⟨[], t, 0, 0, g1, [], []⟩ with
 | false =>
  rw [hok] at HO
  have hRes := UB HRES
  rw [if_pos (.inr (.inr hok))] at hRes
  subst hRes
  clear HRES
  refine HO.mono ?_
  rintro e w4 ⟨rfl, b4⟩
  have K4 := UC (UE b4 (UB K3))
  have bb4 := UG bb3 b4
  have z4 := b4.size
  clear HO hok K3 bb3 b4
  obtain ⟨f0, f1, f2, f3, f4, f5, f6⟩ := UJ (UB K4)
  obtain ⟨q0, q1, q2, q3, q4, q5, q6⟩ := VI (UB K4)
  go_wp2_with fail
  obtain ⟨R9, u9⟩ := set7 (c0 := .slice none 0 0) (c1 := .int .i64 0) (c2 := .int .i64 0) (c3 := .int .i64 0) (c4 := .slice none 0 0) (c5 := .slice none 0 0) (c6 := .slice none 0 0) (UB K4)
  refine bodyPost_ret (results_cell_tmp_row rfl _ _ w.heap.size 28 #[.slice none 0 0, .int .i64 0, .int .i64 0, .int .i64 0, .slice none 0 0, .slice none 0 0, .slice none 0 0] (0, 0) _ rfl R9 Tryz.underlying28 rfl (by kernel_rfl)) rfl ?_
  have z9 := u9.size
  exact ⟨_, _, _, _, rfl, ownR_nil (by omega) _ _ _ _ 0, u9.below bb4 (by omega)⟩
 | true =>
  rw [hok] at HO
  have hRes := UB HRES
  rw [if_neg (by rw [hok]; simp; omega)] at hRes
  subst hRes
  clear HRES
  refine HO.mono ?_
  rintro e w4 ⟨rfl, b4⟩
  have K4 := UC (UE b4 (UB K3))
  have V4 := UC (UE b4 (UB V3))
  have HR4 := UC ((UB HR3).below b4)
  have bb4 := UG bb3 b4
  have z4 := b4.size
  clear HO hok K3 V3 bb3 b4 HR3
  obtain ⟨d0, d1, d2, d3, d4, d5, d6⟩ := UJ (UB V4)
  obtain ⟨f0, f1, f2, f3, f4, f5, f6⟩ := UJ (UB K4)
  obtain ⟨q0, q1, q2, q3, q4, q5, q6⟩ := VI (UB K4)
  go_wp2_with fail
  obtain ⟨R9, u9⟩ := set7 (c0 := .slice none 0 0) (c1 := .int .i64 t) (c2 := .int .i64 0) (c3 := .int .i64 0) (c4 := .slice oa g1.length oc) (c5 := .slice none 0 0) (c6 := .slice none 0 0) (UB K4)
  refine bodyPost_ret (results_cell_tmp_row rfl _ _ w.heap.size 28 #[.slice none 0 0, .int .i64 t, .int .i64 0, .int .i64 0, .slice oa g1.length oc, .slice none 0 0, .slice none 0 0] (0, 0) _ rfl R9 Tryz.underlying28 rfl (by kernel_rfl)) rfl ?_
  have z9 := u9.size
  exact ⟨_, _, _, _, rfl, ((UB HR4).outside u9 (by omega)).wide (by omega) (by omega), u9.below bb4 (by omega)⟩

theorem implDataGet_S {B : Nat} {v : Value} {l : List Int} (p n : Int) {w : World} (h : Own B 5 w v l) (hl : l.length ≤ 512) (hp0 : 0 ≤ p) (hp : p ≤ 9223372036854775807) (hn0 : 0 ≤ n) (hn1 : n ≤ 512) (hb : Bytes8 l) :
  Calls Tryz.prog 11 #[.int .i64 6, v, .int .i64 p, .int .i64 n] w (GivesR w (dataGet 6 l p n).1 (dataGet 6 l p n).2) := by
 have hty : typeOk 6 = true := rfl
 have hkv : kindV 6 = .iface 89 (.agg #[.slice none 0 0, .slice none 0 0]) := rfl
 rw [dataGet_in hty hl hp0 hn0 hn1]
 have he := kindGet_end 6 l p
 have hkg : kindGet 6 l p = (⟨[], 6, 0, 0, (nameGet l p).1, [], [(get32 l (nameGet l p).2).1, (get32 l (get32 l (nameGet l p).2).2).1]⟩, (get32 l (get32 l (nameGet l p).2).2).2) := by unfold kindGet; rw [if_neg (by omega), if_pos rfl]
 rw [hkg]
 rw [hkg] at he
 have b0 := UI (w := w) (.cells #[.slice none 0 0, .int .i64 0, .int .i64 0, .int .i64 0, .slice none 0 0, .slice none 0 0, .slice none 0 0] 28)
 have K0 := UC (heap_alloc_new w (.cells #[.slice none 0 0, .int .i64 0, .int .i64 0, .int .i64 0, .slice none 0 0, .slice none 0 0, .slice none 0 0] 28))
 have HG := UC (soaGet_own p (h.below b0) hl hp hb)
 have HT := implTypeOk_any 6 (w.alloc (.cells #[.slice none 0 0, .int .i64 0, .int .i64 0, .int .i64 0, .slice none 0 0, .slice none 0 0, .slice none 0 0] 28))
 rw [hty] at HT
 have HT := UC HT
 have HK := kindOf_any 6 (w.alloc (.cells #[.slice none 0 0, .int .i64 0, .int .i64 0, .int .i64 0, .slice none 0 0, .slice none 0 0, .slice none 0 0] 28))
 rw [hkv] at HK
 have HK := UC HK
 obtain ⟨a, cap, rfl, _⟩ := h.lies
 dsimp only at he ⊢
 clear h hkg hkv hty hb
 generalize (get32 l (get32 l (nameGet l p).2).2).1 = y1 at *
 generalize (get32 l (get32 l (nameGet l p).2).2).2 = g2 at *
 generalize (get32 l (nameGet l p).2).1 = x1 at *
 generalize (nameGet l p).1 = g1 at *
 generalize hRes : (if g2 < 0 ∨ g2 - p ≠ n ∨ rrOk ⟨[], 6, 0, 0, g1, [], [x1, y1]⟩ = false then (emptyR 0, false) else (⟨[], 6, 0, 0, g1, [], [x1, y1]⟩, true)) = Res
 have HRES := UC hRes
 clear hRes
 have hll : ¬ (512 : Int) < (l.length : Int) := by omega
 have hp0' : ¬ p < 0 := by omega
 generalize hLN : l.length = L at *
 clear hLN
 have zW := b0.size
 have zK := VC (UB K0)
 go_enter Tryz.func11, Tryz.ntmps11
 go_wp2_with fail
 generalize w.alloc (.cells #[.slice none 0 0, .int .i64 0, .int .i64 0, .int .i64 0, .slice none 0 0, .slice none 0 0, .slice none 0 0] 28) = W at *
 refine (UB HT).mono ?_
 rintro e w1 ⟨rfl, rfl⟩
 go_wp2_with fail
 refine (upTo_yes _ hn0 hn1).mono ?_
 rintro e w1 ⟨rfl, rfl⟩
 go_wp2_with fail
 refine (UB HK).mono ?_
 rintro e w1 ⟨rfl, rfl⟩
 clear HT HK
 go_wp2_with fail
 refine (UB HG).mono ?_
 rintro e w1 ⟨v1, u1, s, rfl, hs0, hs1, o1, i1, b1⟩
 obtain ⟨oa, oc, rfl, _⟩ := o1.hasL.form
 obtain ⟨ia, ic, rfl, _⟩ := i1.has.form
 have K1 := UC (UE b1 (UB K0))
 have bb1 := UG b0 b1
 have z1 := b1.size
 have HR := UC (show OwnR W.heap.size w1.heap.size 22 5 3 w1 (.slice none 0 0) (.slice oa g1.length oc) (.slice none 0 0) (.slice ia 2 ic) ⟨[], 6, 0, 0, g1, [], [x1, y1]⟩ from ⟨W.heap.size, s, s, Nat.le_refl _, hs0, Nat.le_refl _, hs1, ownN_nil _ _ _ _ _, o1, ownB_nil _ _ _ _, i1⟩)
 clear K0 HG b0 o1 i1
 by_cases hneg : g2 < 0
 ·have hRes := UB HRES
  rw [if_pos (.inl hneg)] at hRes
  subst hRes
  obtain ⟨f0, f1, f2, f3, f4, f5, f6⟩ := UJ (UB K1)
  obtain ⟨q0, q1, q2, q3, q4, q5, q6⟩ := VI (UB K1)
  go_wp2_with fail
  obtain ⟨R9, u9⟩ := set7 (c0 := .slice none 0 0) (c1 := .int .i64 0) (c2 := .int .i64 0) (c3 := .int .i64 0) (c4 := .slice none 0 0) (c5 := .slice none 0 0) (c6 := .slice none 0 0) (UB K1)
  refine bodyPost_ret (results_cell_tmp_row rfl _ _ w.heap.size 28 #[.slice none 0 0, .int .i64 0, .int .i64 0, .int .i64 0, .slice none 0 0, .slice none 0 0, .slice none 0 0] (0, 0) _ rfl R9 Tryz.underlying28 rfl (by kernel_rfl)) rfl ?_
  have z9 := u9.size
  exact ⟨_, _, _, _, rfl, ownR_nil (by omega) _ _ _ _ 0, u9.below bb1 (by omega)⟩
 have hsub : g2 - p ≤ 512 ∧ -9223372036854775808 ≤ g2 - p := by omega
 by_cases hne : g2 - p ≠ n
 ·have hRes := UB HRES
  rw [if_pos (.inr (.inl hne))] at hRes
  subst hRes
  have hne' : (g2 - p != n) = true := by rw [bne_iff_ne]; exact hne
  obtain ⟨f0, f1, f2, f3, f4, f5, f6⟩ := UJ (UB K1)
  obtain ⟨q0, q1, q2, q3, q4, q5, q6⟩ := VI (UB K1)
  go_wp2_with fail
  obtain ⟨R9, u9⟩ := set7 (c0 := .slice none 0 0) (c1 := .int .i64 0) (c2 := .int .i64 0) (c3 := .int .i64 0) (c4 := .slice none 0 0) (c5 := .slice none 0 0) (c6 := .slice none 0 0) (UB K1)
  refine bodyPost_ret (results_cell_tmp_row rfl _ _ w.heap.size 28 #[.slice none 0 0, .int .i64 0, .int .i64 0, .int .i64 0, .slice none 0 0, .slice none 0 0, .slice none 0 0] (0, 0) _ rfl R9 Tryz.underlying28 rfl (by kernel_rfl)) rfl ?_
  have z9 := u9.size
  exact ⟨_, _, _, _, rfl, ownR_nil (by omega) _ _ _ _ 0, u9.below bb1 (by omega)⟩
 replace hne : g2 - p = n := by omega
 have hne' : (g2 - p != n) = false := by rw [bne_eq_false_iff_eq]; exact hne
 go_wp2_with fail
 refine (recordOf_S (na := none) (nc := 0) (nm := []) (tt := 0) (xa := none) (xc := 0) (ia := ia) (ic := ic) (tx := []) (nu := [x1, y1]) (ta := oa) (tc := oc) (to := g1) (ad := 0)).mono ?_
 rintro e w2 ⟨rfl, b2⟩
 have bb2 := UG bb1 b2
 have K2 := UC (UE b2 (UB K1))
 have HR2 := UC ((UB HR).below b2)
 have z2 := b2.size
 have b3 := UI (w := w2) (.cells #[.slice none 0 0, .int .i64 6, .int .i64 0, .int .i64 0, .slice oa g1.length oc, .slice none 0 0, .slice ia 2 ic] 28)
 have V3 := UC (heap_alloc_new w2 (.cells #[.slice none 0 0, .int .i64 6, .int .i64 0, .int .i64 0, .slice oa g1.length oc, .slice none 0 0, .slice ia 2 ic] 28))
 have K3 := UC (UE b3 (UB K2))
 have HR3 := UC ((UB HR2).below b3)
 have bb3 := UG bb2 b3
 have z3 := b3.size
 have zv := VC (UB V3)
 clear K1 HR bb1 b2 K2 HR2 bb2 b3
 obtain ⟨d0, d1, d2, d3, d4, d5, d6⟩ := UJ (UB V3)
 go_wp2_with fail
 clear d0 d1 d2 d3 d4 d5 d6
 generalize w2.alloc (.cells #[.slice none 0 0, .int .i64 6, .int .i64 0, .int .i64 0, .slice oa g1.length oc, .slice none 0 0, .slice ia 2 ic] 28) = w3 at *
 have HO := implRrOk_has (UB HR3).hasR
 dsimp only at HO
 cases hok : rrOk ⟨[], 6, 0, 0, g1, [], [x1, y1]⟩ with
 | false =>
  rw [hok] at HO
  have hRes := UB HRES
  rw [if_pos (.inr (.inr hok))] at hRes
  subst hRes
  clear HRES
  refine HO.mono ?_
  rintro e w4 ⟨rfl, b4⟩
  have K4 := UC (UE b4 (UB K3))
  have bb4 := UG bb3 b4
  have z4 := b4.size
  clear HO hok K3 bb3 b4
  obtain ⟨f0, f1, f2, f3, f4, f5, f6⟩ := UJ (UB K4)
  obtain ⟨q0, q1, q2, q3, q4, q5, q6⟩ := VI (UB K4)
  go_wp2_with fail
  obtain ⟨R9, u9⟩ := set7 (c0 := .slice none 0 0) (c1 := .int .i64 0) (c2 := .int .i64 0) (c3 := .int .i64 0) (c4 := .slice none 0 0) (c5 := .slice none 0 0) (c6 := .slice none 0 0) (UB K4)
  refine bodyPost_ret (results_cell_tmp_row rfl _ _ w.heap.size 28 #[.slice none 0 0, .int .i64 0, .int .i64 0, .int .i64 0, .slice none 0 0, .slice none 0 0, .slice none 0 0] (0, 0) _ rfl R9 Tryz.underlying28 rfl (by kernel_rfl)) rfl ?_
  have z9 := u9.size
  exact ⟨_, _, _, _, rfl, ownR_nil (by omega) _ _ _ _ 0, u9.below bb4 (by omega)⟩
 | true =>
  rw [hok] at HO
  have hRes := UB HRES
  rw [if_neg (by rw [hok]; simp; omega)] at hRes
  subst hRes
  clear HRES
  refine HO.mono ?_
  rintro e w4 ⟨rfl, b4⟩
  have K4 := UC (UE b4 (UB K3))
  have V4 := UC (UE b4 (UB V3))
  have HR4 := UC ((UB HR3).below b4)
  have bb4 := UG bb3 b4
  have z4 := b4.size
  clear HO hok K3 V3 bb3 b4 HR3
  obtain ⟨d0, d1, d2, d3, d4, d5, d6⟩ := UJ (UB V4)
  obtain ⟨f0, f1, f2, f3, f4, f5, f6⟩ := UJ (UB K4)
  obtain ⟨q0, q1, q2, q3, q4, q5, q6⟩ := VI (UB K4)
  go_wp2_with fail
  obtain ⟨R9, u9⟩ := set7 (c0 := .slice none 0 0) (c1 := .int .i64 6) (c2 := .int .i64 0) (c3 := .int .i64 0) (c4 := .slice oa g1.length oc) (c5 := .slice none 0 0) (c6 := .slice ia 2 ic) (UB K4)
  refine bodyPost_ret (results_cell_tmp_row rfl _ _ w.heap.size 28 #[.slice none 0 0, .int .i64 6, .int .i64 0, .int .i64 0, .slice oa g1.length oc, .slice none 0 0, .slice ia 2 ic] (0, 0) _ rfl R9 Tryz.underlying28 rfl (by kernel_rfl)) rfl ?_
  have z9 := u9.size
  exact ⟨_, _, _, _, rfl, ((UB HR4).outside u9 (by omega)).wide (by omega) (by omega), u9.below bb4 (by omega)⟩

theorem implDataGet_X {B : Nat} {v : Value} {l : List Int} {t : Int} (p n : Int) {w : World} (ht : t = 16 ∨ t = 49) (h : Own B 5 w v l) (hl : l.length ≤ 512) (hp0 : 0 ≤ p) (hp : p ≤ 9223372036854775807) (hn0 : 0 ≤ n) (hn1 : n ≤ 512) (hb : Bytes8 l) :
  Calls Tryz.prog 11 #[.int .i64 t, v, .int .i64 p, .int .i64 n] w (GivesR w (dataGet t l p n).1 (dataGet t l p n).2) := by
 have hty : typeOk t = true := by rcases ht with rfl | rfl <;> rfl
 have hkv : kindV t = .iface 91 (.agg #[.slice none 0 0]) := kindV_X ht
 rw [dataGet_in hty hl hp0 hn0 hn1]
 have he := countedOf_end l p
 have hkg : kindGet t l p = (⟨[], t, 0, 0, [], (countedOf l p).1, []⟩, (countedOf l p).2) := by unfold kindGet; rw [if_neg (by omega), if_neg (by omega), if_neg (by rcases ht with rfl | rfl <;> decide)]
 rw [hkg]
 skip
 have b0 := UI (w := w) (.cells #[.slice none 0 0, .int .i64 0, .int .i64 0, .int .i64 0, .slice none 0 0, .slice none 0 0, .slice none 0 0] 28)
 have K0 := UC (heap_alloc_new w (.cells #[.slice none 0 0, .int .i64 0, .int .i64 0, .int .i64 0, .slice none 0 0, .slice none 0 0, .slice none 0 0] 28))
 have HG := UC (textGet_own p (h.below b0) hl hp hb)
 have HT := implTypeOk_any t (w.alloc (.cells #[.slice none 0 0, .int .i64 0, .int .i64 0, .int .i64 0, .slice none 0 0, .slice none 0 0, .slice none 0 0] 28))
 rw [hty] at HT
 have HT := UC HT
 have HK := kindOf_any t (w.alloc (.cells #[.slice none 0 0, .int .i64 0, .int .i64 0, .int .i64 0, .slice none 0 0, .slice none 0 0, .slice none 0 0] 28))
 rw [hkv] at HK
 have HK := UC HK
 obtain ⟨a, cap, rfl, _⟩ := h.lies
 dsimp only at he ⊢
 clear h hkg hkv hty hb
 generalize (countedOf l p).1 = g1 at *
 generalize (countedOf l p).2 = g2 at *
 generalize hRes : (if g2 < 0 ∨ g2 - p ≠ n ∨ rrOk ⟨[], t, 0, 0, [], g1, []⟩ = false then (emptyR 0, false) else (⟨[], t, 0, 0, [], g1, []⟩, true)) = Res
 have HRES := UC hRes
 clear hRes
 have hll : ¬ (512 : Int) < (l.length : Int) := by omega
 have hp0' : ¬ p < 0 := by omega
 generalize hLN : l.length = L at *
 clear hLN
 have zW := b0.size
 have zK := VC (UB K0)
 go_enter Tryz.func11, Tryz.ntmps11
 go_wp2_with fail
 generalize w.alloc (.cells #[.slice none 0 0, .int .i64 0, .int .i64 0, .int .i64 0, .slice none 0 0, .slice none 0 0, .slice none 0 0] 28) = W at *
 refine (UB HT).mono ?_
 rintro e w1 ⟨rfl, rfl⟩
 go_wp2_with fail
 refine (upTo_yes _ hn0 hn1).mono ?_
 rintro e w1 ⟨rfl, rfl⟩
 go_wp2_with fail
 refine (UB HK).mono ?_
 rintro e w1 ⟨rfl, rfl⟩
 clear HT HK
 go_wp2_with fail
 refine (UB HG).mono ?_
 rintro e w1 ⟨v1, rfl, o1, b1⟩
 obtain ⟨oa, oc, rfl, _⟩ := o1.lies
 have K1 := UC (UE b1 (UB K0))
 have bb1 := UG b0 b1
 have z1 := b1.size
 have HR := UC (show OwnR W.heap.size w1.heap.size 22 5 3 w1 (.slice none 0 0) (.slice none 0 0) (.slice oa g1.length oc) (.slice none 0 0) ⟨[], t, 0, 0, [], g1, []⟩ from ⟨W.heap.size, W.heap.size, w1.heap.size, Nat.le_refl _, Nat.le_refl _, b1.size, Nat.le_refl _, ownN_nil _ _ _ _ _, ownN_nil _ _ _ _ _, o1.here, ownBI_nil _ _ _ _⟩)
 clear K0 HG b0 o1
 by_cases hneg : g2 < 0
 ·have hRes := UB HRES
  rw [if_pos (.inl hneg)] at hRes
  subst hRes
  obtain ⟨f0, f1, f2, f3, f4, f5, f6⟩ := UJ (UB K1)
  obtain ⟨q0, q1, q2, q3, q4, q5, q6⟩ := VI (UB K1)
  go_wp2_with fail
  obtain ⟨R9, u9⟩ := set7 (c0 := .slice none 0 0) (c1 := .int .i64 0) (c2 := .int .i64 0) (c3 := .int .i64 0) (c4 := .slice none 0 0) (c5 := .slice none 0 0) (c6 := .slice none 0 0) (UB K1)
  refine bodyPost_ret (results_cell_tmp_row rfl _ _ w.heap.size 28 #[.slice none 0 0, .int .i64 0, .int .i64 0, .int .i64 0, .slice none 0 0, .slice none 0 0, .slice none 0 0] (0, 0) _ rfl R9 Tryz.underlying28 rfl (by kernel_rfl)) rfl ?_
  have z9 := u9.size
  exact ⟨_, _, _, _, rfl, ownR_nil (by omega) _ _ _ _ 0, u9.below bb1 (by omega)⟩
 have hsub : g2 - p ≤ 512 ∧ -9223372036854775808 ≤ g2 - p := by omega
 by_cases hne : g2 - p ≠ n
 ·have hRes := UB HRES
  rw [if_pos (.inr (.inl hne))] at hRes
  subst hRes
  have hne' : (g2 - p != n) = true := by rw [bne_iff_ne]; exact hne
  obtain ⟨f0, f1, f2, f3, f4, f5, f6⟩ := UJ (UB K1)
  obtain ⟨q0, q1, q2, q3, q4, q5, q6⟩ := VI (UB K1)
  go_wp2_with fail
  obtain ⟨R9, u9⟩ := set7 (c0 := .slice none 0 0) (c1 := .int .i64 0) (c2 := .int .i64 0) (c3 := .int .i64 0) (c4 := .slice none 0 0) (c5 := .slice none 0 0) (c6 := .slice none 0 0) (UB K1)
  refine bodyPost_ret (results_cell_tmp_row rfl _ _ w.heap.size 28 #[.slice none 0 0, .int .i64 0, .int .i64 0, .int .i64 0, .slice none 0 0, .slice none 0 0, .slice none 0 0] (0, 0) _ rfl R9 Tryz.underlying28 rfl (by kernel_rfl)) rfl ?_
  have z9 := u9.size
  exact ⟨_, _, _, _, rfl, ownR_nil (by omega) _ _ _ _ 0, u9.below bb1 (by omega)⟩
 replace hne : g2 - p = n := by omega
 have hne' : (g2 - p != n) = false := by rw [bne_eq_false_iff_eq]; exact hne
 go_wp2_with fail
 refine (recordOf_X (na := none) (nc := 0) (nm := []) (tt := 0) (xa := oa) (xc := oc) (ia := none) (ic := 0) (tx := g1) (nu := []) (ta := none) (tc := 0) (to := []) (ad := 0) (ty := t)).mono ?_
 rintro e w2 ⟨rfl, b2⟩
 have bb2 := UG bb1 b2
 have K2 := UC (UE b2 (UB K1))
 have HR2 := UC ((UB HR).below b2)
 have z2 := b2.size
 have b3 := UI (w := w2) (.cells #[.slice none 0 0, .int .i64 t, .int .i64 0, .int .i64 0, .slice none 0 0, .slice oa g1.length oc, .slice none 0 0] 28)
 have V3 := UC (heap_alloc_new w2 (.cells #[.slice none 0 0, .int .i64 t, .int .i64 0, .int .i64 0, .slice none 0 0, .slice oa g1.length oc, .slice none 0 0] 28))
 have K3 := UC (UE b3 (UB K2))
 have HR3 := UC ((UB HR2).below b3)
 have bb3 := UG bb2 b3
 have z3 := b3.size
 have zv := VC (UB V3)
 clear K1 HR bb1 b2 K2 HR2 bb2 b3
 obtain ⟨d0, d1, d2, d3, d4, d5, d6⟩ := UJ (UB V3)
 go_wp2_with fail
 clear d0 d1 d2 d3 d4 d5 d6
 generalize w2.alloc (.cells #[.slice none 0 0, .int .i64 t, .int .i64 0, .int .i64 0, .slice none 0 0, .slice oa g1.length oc, .slice none 0 0] 28) = w3 at *
 have HO := implRrOk_has (UB HR3).hasR
 dsimp only at HO
 cases hok : rrOk ⟨[], t, 0, 0, [], g1, []⟩ with
 | false =>
  rw [hok] at HO
  have hRes := UB HRES
  rw [if_pos (.inr (.inr hok))] at hRes
  subst hRes
  clear HRES
  refine HO.mono ?_
  rintro e w4 ⟨rfl, b4⟩
  have K4 := UC (UE b4 (UB K3))
  have bb4 := UG bb3 b4
  have z4 := b4.size
  clear HO hok K3 bb3 b4
  obtain ⟨f0, f1, f2, f3, f4, f5, f6⟩ := UJ (UB K4)
  obtain ⟨q0, q1, q2, q3, q4, q5, q6⟩ := VI (UB K4)
  go_wp2_with fail
  obtain ⟨R9, u9⟩ := set7 (c0 := .slice none 0 0) (c1 := .int .i64 0) (c2 := .int .i64 0) (c3 := .int .i64 0) (c4 := .slice none 0 0) (c5 := .slice none 0 0) (c6 := .slice none 0 0) (UB K4)
  refine bodyPost_ret (results_cell_tmp_row rfl _ _ w.heap.size 28 #[.slice none 0 0, .int .i64 0, .int .i64 0, .int .i64 0, .slice none 0 0, .slice none 0 0, .slice none 0 0] (0, 0) _ rfl R9 Tryz.underlying28 rfl (by kernel_rfl)) rfl ?_
  have z9 := u9.size
  exact ⟨_, _, _, _, rfl, ownR_nil (by omega) _ _ _ _ 0, u9.below bb4 (by omega)⟩
 | true =>
  rw [hok] at HO
  have hRes := UB HRES
  rw [if_neg (by rw [hok]; simp; omega)] at hRes
  subst hRes
  clear HRES
  refine HO.mono ?_
  rintro e w4 ⟨rfl, b4⟩
  have K4 := UC (UE b4 (UB K3))
  have V4 := UC (UE b4 (UB V3))
  have HR4 := UC ((UB HR3).below b4)
  have bb4 := UG bb3 b4
  have z4 := b4.size
  clear HO hok K3 V3 bb3 b4 HR3
  obtain ⟨d0, d1, d2, d3, d4, d5, d6⟩ := UJ (UB V4)
  obtain ⟨f0, f1, f2, f3, f4, f5, f6⟩ := UJ (UB K4)
  obtain ⟨q0, q1, q2, q3, q4, q5, q6⟩ := VI (UB K4)
  go_wp2_with fail
  obtain ⟨R9, u9⟩ := set7 (c0 := .slice none 0 0) (c1 := .int .i64 t) (c2 := .int .i64 0) (c3 := .int .i64 0) (c4 := .slice none 0 0) (c5 := .slice oa g1.length oc) (c6 := .slice none 0 0) (UB K4)
  refine bodyPost_ret (results_cell_tmp_row rfl _ _ w.heap.size 28 #[.slice none 0 0, .int .i64 t, .int .i64 0, .int .i64 0, .slice none 0 0, .slice oa g1.length oc, .slice none 0 0] (0, 0) _ rfl R9 Tryz.underlying28 rfl (by kernel_rfl)) rfl ?_
  have z9 := u9.size
  exact ⟨_, _, _, _, rfl, ((UB HR4).outside u9 (by omega)).wide (by omega) (by omega), u9.below bb4 (by omega)⟩

theorem implDataGet_no1 {a : Option Addr} {L cap : Nat} (t p n : Int) {w : World} (hty : typeOk t = false) :
  Calls Tryz.prog 11 #[.int .i64 t, .slice a L cap, .int .i64 p, .int .i64 n] w (GivesR w (emptyR 0) false) := by
 have b0 := UI (w := w) (.cells #[.slice none 0 0, .int .i64 0, .int .i64 0, .int .i64 0, .slice none 0 0, .slice none 0 0, .slice none 0 0] 28)
 have K0 := UC (heap_alloc_new w (.cells #[.slice none 0 0, .int .i64 0, .int .i64 0, .int .i64 0, .slice none 0 0, .slice none 0 0, .slice none 0 0] 28))
 have HT := implTypeOk_any t (w.alloc (.cells #[.slice none 0 0, .int .i64 0, .int .i64 0, .int .i64 0, .slice none 0 0, .slice none 0 0, .slice none 0 0] 28))
 rw [hty] at HT
 replace HT := UC HT
 clear hty
 go_enter Tryz.func11, Tryz.ntmps11
 go_wp2_with fail
 generalize w.alloc (.cells #[.slice none 0 0, .int .i64 0, .int .i64 0, .int .i64 0, .slice none 0 0, .slice none 0 0, .slice none 0 0] 28) = W at *
 have zK := VC (UB K0)
 refine (UB HT).mono ?_
 rintro e w1 ⟨rfl, rfl⟩
 obtain ⟨f0, f1, f2, f3, f4, f5, f6⟩ := UJ (UB K0)
 obtain ⟨q0, q1, q2, q3, q4, q5, q6⟩ := VI (UB K0)
 go_wp2_with fail
 obtain ⟨R9, u9⟩ := set7 (c0 := .slice none 0 0) (c1 := .int .i64 0) (c2 := .int .i64 0) (c3 := .int .i64 0) (c4 := .slice none 0 0) (c5 := .slice none 0 0) (c6 := .slice none 0 0) (UB K0)
 refine bodyPost_ret (results_cell_tmp_row rfl _ _ w.heap.size 28 #[.slice none 0 0, .int .i64 0, .int .i64 0, .int .i64 0, .slice none 0 0, .slice none 0 0, .slice none 0 0] (0, 0) _ rfl R9 Tryz.underlying28 rfl (by kernel_rfl)) rfl ?_
 have z9 := u9.size
 exact ⟨_, _, _, _, rfl, ownR_nil (by omega) _ _ _ _ 0, u9.below b0 (by omega)⟩

theorem implDataGet_no2 {a : Option Addr} {L cap : Nat} (t p n : Int) {w : World} (hty : typeOk t = true) (h : 512 < L) :
  Calls Tryz.prog 11 #[.int .i64 t, .slice a L cap, .int .i64 p, .int .i64 n] w (GivesR w (emptyR 0) false) := by
 have b0 := UI (w := w) (.cells #[.slice none 0 0, .int .i64 0, .int .i64 0, .int .i64 0, .slice none 0 0, .slice none 0 0, .slice none 0 0] 28)
 have K0 := UC (heap_alloc_new w (.cells #[.slice none 0 0, .int .i64 0, .int .i64 0, .int .i64 0, .slice none 0 0, .slice none 0 0, .slice none 0 0] 28))
 have HT := implTypeOk_any t (w.alloc (.cells #[.slice none 0 0, .int .i64 0, .int .i64 0, .int .i64 0, .slice none 0 0, .slice none 0 0, .slice none 0 0] 28))
 rw [hty] at HT
 replace HT := UC HT
 clear hty
 have h' : (512 : Int) < (L : Int) := by omega
 go_enter Tryz.func11, Tryz.ntmps11
 go_wp2_with fail
 generalize w.alloc (.cells #[.slice none 0 0, .int .i64 0, .int .i64 0, .int .i64 0, .slice none 0 0, .slice none 0 0, .slice none 0 0] 28) = W at *
 have zK := VC (UB K0)
 refine (UB HT).mono ?_
 rintro e w1 ⟨rfl, rfl⟩
 obtain ⟨f0, f1, f2, f3, f4, f5, f6⟩ := UJ (UB K0)
 obtain ⟨q0, q1, q2, q3, q4, q5, q6⟩ := VI (UB K0)
 go_wp2_with fail
 obtain ⟨R9, u9⟩ := set7 (c0 := .slice none 0 0) (c1 := .int .i64 0) (c2 := .int .i64 0) (c3 := .int .i64 0) (c4 := .slice none 0 0) (c5 := .slice none 0 0) (c6 := .slice none 0 0) (UB K0)
 refine bodyPost_ret (results_cell_tmp_row rfl _ _ w.heap.size 28 #[.slice none 0 0, .int .i64 0, .int .i64 0, .int .i64 0, .slice none 0 0, .slice none 0 0, .slice none 0 0] (0, 0) _ rfl R9 Tryz.underlying28 rfl (by kernel_rfl)) rfl ?_
 have z9 := u9.size
 exact ⟨_, _, _, _, rfl, ownR_nil (by omega) _ _ _ _ 0, u9.below b0 (by omega)⟩

theorem implDataGet_no3 {a : Option Addr} {L cap : Nat} (t p n : Int) {w : World} (hty : typeOk t = true) (hL : ¬ 512 < L) (h : p < 0) :
  Calls Tryz.prog 11 #[.int .i64 t, .slice a L cap, .int .i64 p, .int .i64 n] w (GivesR w (emptyR 0) false) := by
 have b0 := UI (w := w) (.cells #[.slice none 0 0, .int .i64 0, .int .i64 0, .int .i64 0, .slice none 0 0, .slice none 0 0, .slice none 0 0] 28)
 have K0 := UC (heap_alloc_new w (.cells #[.slice none 0 0, .int .i64 0, .int .i64 0, .int .i64 0, .slice none 0 0, .slice none 0 0, .slice none 0 0] 28))
 have HT := implTypeOk_any t (w.alloc (.cells #[.slice none 0 0, .int .i64 0, .int .i64 0, .int .i64 0, .slice none 0 0, .slice none 0 0, .slice none 0 0] 28))
 rw [hty] at HT
 replace HT := UC HT
 clear hty
 have h' : ¬ (512 : Int) < (L : Int) := by omega
 go_enter Tryz.func11, Tryz.ntmps11
 go_wp2_with fail
 generalize w.alloc (.cells #[.slice none 0 0, .int .i64 0, .int .i64 0, .int .i64 0, .slice none 0 0, .slice none 0 0, .slice none 0 0] 28) = W at *
 have zK := VC (UB K0)
 refine (UB HT).mono ?_
 rintro e w1 ⟨rfl, rfl⟩
 obtain ⟨f0, f1, f2, f3, f4, f5, f6⟩ := UJ (UB K0)
 obtain ⟨q0, q1, q2, q3, q4, q5, q6⟩ := VI (UB K0)
 go_wp2_with fail
 obtain ⟨R9, u9⟩ := set7 (c0 := .slice none 0 0) (c1 := .int .i64 0) (c2 := .int .i64 0) (c3 := .int .i64 0) (c4 := .slice none 0 0) (c5 := .slice none 0 0) (c6 := .slice none 0 0) (UB K0)
 refine bodyPost_ret (results_cell_tmp_row rfl _ _ w.heap.size 28 #[.slice none 0 0, .int .i64 0, .int .i64 0, .int .i64 0, .slice none 0 0, .slice none 0 0, .slice none 0 0] (0, 0) _ rfl R9 Tryz.underlying28 rfl (by kernel_rfl)) rfl ?_
 have z9 := u9.size
 exact ⟨_, _, _, _, rfl, ownR_nil (by omega) _ _ _ _ 0, u9.below b0 (by omega)⟩

theorem implDataGet_no4 {a : Option Addr} {L cap : Nat} (t p n : Int) {w : World} (hty : typeOk t = true) (hL : ¬ 512 < L) (hp : ¬ p < 0) (h : n < 0 ∨ 512 < n) :
  Calls Tryz.prog 11 #[.int .i64 t, .slice a L cap, .int .i64 p, .int .i64 n] w (GivesR w (emptyR 0) false) := by
 have b0 := UI (w := w) (.cells #[.slice none 0 0, .int .i64 0, .int .i64 0, .int .i64 0, .slice none 0 0, .slice none 0 0, .slice none 0 0] 28)
 have K0 := UC (heap_alloc_new w (.cells #[.slice none 0 0, .int .i64 0, .int .i64 0, .int .i64 0, .slice none 0 0, .slice none 0 0, .slice none 0 0] 28))
 have HT := implTypeOk_any t (w.alloc (.cells #[.slice none 0 0, .int .i64 0, .int .i64 0, .int .i64 0, .slice none 0 0, .slice none 0 0, .slice none 0 0] 28))
 rw [hty] at HT
 replace HT := UC HT
 clear hty
 have h' : ¬ (512 : Int) < (L : Int) := by omega
 go_enter Tryz.func11, Tryz.ntmps11
 go_wp2_with fail
 generalize w.alloc (.cells #[.slice none 0 0, .int .i64 0, .int .i64 0, .int .i64 0, .slice none 0 0, .slice none 0 0, .slice none 0 0] 28) = W at *
 have zK := VC (UB K0)
 refine (UB HT).mono ?_
 rintro e w1 ⟨rfl, rfl⟩
 go_wp2_with fail
 refine (upTo_no _ h).mono ?_
 rintro e w1 ⟨rfl, rfl⟩
 obtain ⟨f0, f1, f2, f3, f4, f5, f6⟩ := UJ (UB K0)
 obtain ⟨q0, q1, q2, q3, q4, q5, q6⟩ := VI (UB K0)
 go_wp2_with fail
 obtain ⟨R9, u9⟩ := set7 (c0 := .slice none 0 0) (c1 := .int .i64 0) (c2 := .int .i64 0) (c3 := .int .i64 0) (c4 := .slice none 0 0) (c5 := .slice none 0 0) (c6 := .slice none 0 0) (UB K0)
 refine bodyPost_ret (results_cell_tmp_row rfl _ _ w.heap.size 28 #[.slice none 0 0, .int .i64 0, .int .i64 0, .int .i64 0, .slice none 0 0, .slice none 0 0, .slice none 0 0] (0, 0) _ rfl R9 Tryz.underlying28 rfl (by kernel_rfl)) rfl ?_
 have z9 := u9.size
 exact ⟨_, _, _, _, rfl, ownR_nil (by omega) _ _ _ _ 0, u9.below b0 (by omega)⟩

theorem implDataGet_own {B : Nat} {v : Value} {l : List Int} (t p n : Int) {w : World} (h : Own B 5 w v l) (hp : p ≤ 9223372036854775807) (hb : Bytes8 l) :
  Calls Tryz.prog 11 #[.int .i64 t, v, .int .i64 p, .int .i64 n] w (GivesR w (dataGet t l p n).1 (dataGet t l p n).2) := by
 by_cases hc : typeOk t = false ∨ 512 < l.length ∨ p < 0 ∨ n < 0 ∨ 512 < n
 ·rw [dataGet_out hc]
  obtain ⟨a, cap, rfl, _⟩ := h.lies
  cases ht : typeOk t with
  | false => exact implDataGet_no1 t p n ht
  | true =>
   by_cases h1 : 512 < l.length
   ·exact implDataGet_no2 t p n ht h1
   by_cases h2 : p < 0
   ·exact implDataGet_no3 t p n ht h1 h2
   ·exact implDataGet_no4 t p n ht h1 h2 (by rcases hc with q | q | q | q | q <;> first | (rw [ht] at q; cases q) | omega)
 ·have ht : typeOk t ≠ false := fun q => hc (.inl q)
  have h1 : l.length ≤ 512 := by omega
  have h2 : 0 ≤ p := by omega
  have h3 : 0 ≤ n := by omega
  have h4 : n ≤ 512 := by omega
  rcases type_cases t with rfl | rfl | rfl | rfl | rfl | rfl | rfl | q
  ·exact implDataGet_A p n h h1 h2 hp h3 h4 hb
  ·exact implDataGet_N p n (by omega) h h1 h2 hp h3 h4 hb
  ·exact implDataGet_N p n (by omega) h h1 h2 hp h3 h4 hb
  ·exact implDataGet_S p n h h1 h2 hp h3 h4 hb
  ·exact implDataGet_N p n (by omega) h h1 h2 hp h3 h4 hb
  ·exact implDataGet_X p n (by omega) h h1 h2 hp h3 h4 hb
  ·exact implDataGet_X p n (by omega) h h1 h2 hp h3 h4 hb
  ·exact absurd q ht
end Go.Proofs.YthmihglfffeedaaGreatDoor
