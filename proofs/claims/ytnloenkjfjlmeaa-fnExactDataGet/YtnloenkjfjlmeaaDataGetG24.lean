/-
  Contracts of the program's DataGet. Contracts of the specification's LabelOk.
-/
import Derived.Test.YtnloenkjfjlmeaaDataGetG20
import Derived.Test.YtnloenkjfjlmeaaDataGetG23
import Derived.Test.YtnloenkjfjlmeaaDataGetG17
import Derived.Test.YtnloenkjfjlmeaaDataGetG04
import Derived.Test.YtnloenkjfjlmeaaDataGetG00
namespace Go.Proofs.Ytnloenkjfjlmeaa
open Go.RowKit
set_option linter.unusedVariables false

set_option maxHeartbeats 1000000 in
set_option maxRecDepth 100000 in
theorem implDataGet_A {B : Nat} {v : Value} {l : List Int} (p n : Int) {w : World} (h : Own B 5 w v l) (hl : l.length ≤ 512) (hp0 : 0 ≤ p) (hp : p ≤ 9223372036854775807) (hn0 : 0 ≤ n) (hn1 : n ≤ 512) (hb : Bytes8 l) :
    Calls Try.prog 41 #[.int .i64 1, v, .int .i64 p, .int .i64 n] w (GivesR w (dataGet 1 l p n).1 (dataGet 1 l p n).2) := by
  have hty : typeOk 1 = true := rfl
  have hkv : kindV 1 = .iface 126 (.agg #[.int .i64 0]) := rfl
  rw [dataGet_in hty hl hp0 hn0 hn1]
  have he := get32_end l p
  have hkg : kindGet 1 l p = (⟨[], 1, 0, (get32 l p).1, [], [], []⟩, (get32 l p).2) := by unfold kindGet; rw [if_pos rfl]
  rw [hkg]
  skip
  have b0 := below_alloc (w := w) (.cells #[.slice none 0 0, .int .i64 0, .int .i64 0, .int .i64 0, .slice none 0 0, .slice none 0 0, .slice none 0 0] 50)
  have K0 := hide (heap_alloc_new w (.cells #[.slice none 0 0, .int .i64 0, .int .i64 0, .int .i64 0, .slice none 0 0, .slice none 0 0, .slice none 0 0] 50))
  have HG := hide (addrGet_own 0 p (h.below b0) hl hp hb)
  have HT := implTypeOk_any 1 (w.alloc (.cells #[.slice none 0 0, .int .i64 0, .int .i64 0, .int .i64 0, .slice none 0 0, .slice none 0 0, .slice none 0 0] 50))
  rw [hty] at HT
  have HT := hide HT
  have HK := kindOf_any 1 (w.alloc (.cells #[.slice none 0 0, .int .i64 0, .int .i64 0, .int .i64 0, .slice none 0 0, .slice none 0 0, .slice none 0 0] 50))
  rw [hkv] at HK
  have HK := hide HK
  obtain ⟨a, cap, rfl, _⟩ := h.lies
  dsimp only at he ⊢
  clear h hkg hkv hty hb
  generalize (get32 l p).1 = g1 at *
  generalize (get32 l p).2 = g2 at *
  generalize hRes : (if g2 < 0 ∨ g2 - p ≠ n ∨ rrOk ⟨[], 1, 0, g1, [], [], []⟩ = false then (emptyR 0, false) else (⟨[], 1, 0, g1, [], [], []⟩, true)) = Res
  have HRES := hide hRes
  clear hRes
  have hll : ¬ (512 : Int) < (l.length : Int) := by omega
  have hp0' : ¬ p < 0 := by omega
  generalize hLN : l.length = L at *
  clear hLN
  have zW := b0.size
  have zK := block_lt (unhide K0)
  go_enter Try.func41, Try.ntmps41
  go_wp2_with fail
  generalize w.alloc (.cells #[.slice none 0 0, .int .i64 0, .int .i64 0, .int .i64 0, .slice none 0 0, .slice none 0 0, .slice none 0 0] 50) = W at *
  refine (unhide HT).mono ?_
  rintro e w1 ⟨rfl, rfl⟩
  go_wp2_with fail
  refine (upTo_yes _ hn0 hn1).mono ?_
  rintro e w1 ⟨rfl, rfl⟩
  go_wp2_with fail
  refine (unhide HK).mono ?_
  rintro e w1 ⟨rfl, rfl⟩
  clear HT HK
  go_wp2_with fail
  refine (unhide HG).mono ?_
  rintro e w1 ⟨rfl, b1⟩
  
  have K1 := hide (block_kept b1 (unhide K0))
  have bb1 := below_next b0 b1
  have z1 := b1.size
  have HR := hide (show OwnR W.heap.size w1.heap.size 22 5 3 w1 (.slice none 0 0) (.slice none 0 0) (.slice none 0 0) (.slice none 0 0) ⟨[], 1, 0, g1, [], [], []⟩ from ⟨W.heap.size, W.heap.size, W.heap.size, Nat.le_refl _, Nat.le_refl _, Nat.le_refl _, b1.size, ownN_nil _ _ _ _ _, ownN_nil _ _ _ _ _, ownB_nil _ _ _ _, ownBI_nil _ _ _ _⟩)
  clear K0 HG b0 
  by_cases hneg : g2 < 0
  · have hRes := unhide HRES
    rw [if_pos (.inl hneg)] at hRes
    subst hRes
    obtain ⟨f0, f1, f2, f3, f4, f5, f6⟩ := cells7 (unhide K1)
    obtain ⟨q0, q1, q2, q3, q4, q5, q6⟩ := frozen7 (unhide K1)
    go_wp2_with fail
    obtain ⟨R9, u9⟩ := set7 (c0 := .slice none 0 0) (c1 := .int .i64 0) (c2 := .int .i64 0) (c3 := .int .i64 0) (c4 := .slice none 0 0) (c5 := .slice none 0 0) (c6 := .slice none 0 0) (unhide K1)
    refine bodyPost_ret (results_cell_tmp_row rfl _ _ w.heap.size 50 #[.slice none 0 0, .int .i64 0, .int .i64 0, .int .i64 0, .slice none 0 0, .slice none 0 0, .slice none 0 0] (0, 0) _ rfl R9 Try.underlying50 rfl (by kernel_rfl)) rfl ?_
    have z9 := u9.size
    exact ⟨_, _, _, _, rfl, ownR_nil (by omega) _ _ _ _ 0, u9.below bb1 (by omega)⟩
  have hsub : g2 - p ≤ 512 ∧ -9223372036854775808 ≤ g2 - p := by omega
  by_cases hne : g2 - p ≠ n
  · have hRes := unhide HRES
    rw [if_pos (.inr (.inl hne))] at hRes
    subst hRes
    have hne' : (g2 - p != n) = true := by rw [bne_iff_ne]; exact hne
    obtain ⟨f0, f1, f2, f3, f4, f5, f6⟩ := cells7 (unhide K1)
    obtain ⟨q0, q1, q2, q3, q4, q5, q6⟩ := frozen7 (unhide K1)
    go_wp2_with fail
    obtain ⟨R9, u9⟩ := set7 (c0 := .slice none 0 0) (c1 := .int .i64 0) (c2 := .int .i64 0) (c3 := .int .i64 0) (c4 := .slice none 0 0) (c5 := .slice none 0 0) (c6 := .slice none 0 0) (unhide K1)
    refine bodyPost_ret (results_cell_tmp_row rfl _ _ w.heap.size 50 #[.slice none 0 0, .int .i64 0, .int .i64 0, .int .i64 0, .slice none 0 0, .slice none 0 0, .slice none 0 0] (0, 0) _ rfl R9 Try.underlying50 rfl (by kernel_rfl)) rfl ?_
    have z9 := u9.size
    exact ⟨_, _, _, _, rfl, ownR_nil (by omega) _ _ _ _ 0, u9.below bb1 (by omega)⟩
  replace hne : g2 - p = n := by omega
  have hne' : (g2 - p != n) = false := by rw [bne_eq_false_iff_eq]; exact hne
  go_wp2_with fail
  refine (recordOf_A (na := none) (nc := 0) (nm := []) (tt := 0) (xa := none) (xc := 0) (ia := none) (ic := 0) (tx := []) (nu := []) (ta := none) (tc := 0) (to := []) (ad := g1)).mono ?_
  rintro e w2 ⟨rfl, b2⟩
  have bb2 := below_next bb1 b2
  have K2 := hide (block_kept b2 (unhide K1))
  have HR2 := hide ((unhide HR).below b2)
  have z2 := b2.size
  have b3 := below_alloc (w := w2) (.cells #[.slice none 0 0, .int .i64 1, .int .i64 0, .int .i64 g1, .slice none 0 0, .slice none 0 0, .slice none 0 0] 50)
  have V3 := hide (heap_alloc_new w2 (.cells #[.slice none 0 0, .int .i64 1, .int .i64 0, .int .i64 g1, .slice none 0 0, .slice none 0 0, .slice none 0 0] 50))
  have K3 := hide (block_kept b3 (unhide K2))
  have HR3 := hide ((unhide HR2).below b3)
  have bb3 := below_next bb2 b3
  have z3 := b3.size
  have zv := block_lt (unhide V3)
  clear K1 HR bb1 b2 K2 HR2 bb2 b3
  obtain ⟨d0, d1, d2, d3, d4, d5, d6⟩ := cells7 (unhide V3)
  go_wp2_with fail
  clear d0 d1 d2 d3 d4 d5 d6
  generalize w2.alloc (.cells #[.slice none 0 0, .int .i64 1, .int .i64 0, .int .i64 g1, .slice none 0 0, .slice none 0 0, .slice none 0 0] 50) = w3 at *
  have HO := implRrOk_has (unhide HR3).hasR
  dsimp only at HO
  cases hok : rrOk ⟨[], 1, 0, g1, [], [], []⟩ with
  | false =>
    rw [hok] at HO
    have hRes := unhide HRES
    rw [if_pos (.inr (.inr hok))] at hRes
    subst hRes
    clear HRES
    refine HO.mono ?_
    rintro e w4 ⟨rfl, b4⟩
    have K4 := hide (block_kept b4 (unhide K3))
    have bb4 := below_next bb3 b4
    have z4 := b4.size
    clear HO hok K3 bb3 b4
    obtain ⟨f0, f1, f2, f3, f4, f5, f6⟩ := cells7 (unhide K4)
    obtain ⟨q0, q1, q2, q3, q4, q5, q6⟩ := frozen7 (unhide K4)
    go_wp2_with fail
    obtain ⟨R9, u9⟩ := set7 (c0 := .slice none 0 0) (c1 := .int .i64 0) (c2 := .int .i64 0) (c3 := .int .i64 0) (c4 := .slice none 0 0) (c5 := .slice none 0 0) (c6 := .slice none 0 0) (unhide K4)
    refine bodyPost_ret (results_cell_tmp_row rfl _ _ w.heap.size 50 #[.slice none 0 0, .int .i64 0, .int .i64 0, .int .i64 0, .slice none 0 0, .slice none 0 0, .slice none 0 0] (0, 0) _ rfl R9 Try.underlying50 rfl (by kernel_rfl)) rfl ?_
    have z9 := u9.size
    exact ⟨_, _, _, _, rfl, ownR_nil (by omega) _ _ _ _ 0, u9.below bb4 (by omega)⟩
  | true =>
    rw [hok] at HO
    have hRes := unhide HRES
    rw [if_neg (by rw [hok]; simp; omega)] at hRes
    subst hRes
    clear HRES
    refine HO.mono ?_
    rintro e w4 ⟨rfl, b4⟩
    have K4 := hide (block_kept b4 (unhide K3))
    have V4 := hide (block_kept b4 (unhide V3))
    have HR4 := hide ((unhide HR3).below b4)
    have bb4 := below_next bb3 b4
    have z4 := b4.size
    clear HO hok K3 V3 bb3 b4 HR3
    obtain ⟨d0, d1, d2, d3, d4, d5, d6⟩ := cells7 (unhide V4)
    obtain ⟨f0, f1, f2, f3, f4, f5, f6⟩ := cells7 (unhide K4)
    obtain ⟨q0, q1, q2, q3, q4, q5, q6⟩ := frozen7 (unhide K4)
    go_wp2_with fail
    obtain ⟨R9, u9⟩ := set7 (c0 := .slice none 0 0) (c1 := .int .i64 1) (c2 := .int .i64 0) (c3 := .int .i64 g1) (c4 := .slice none 0 0) (c5 := .slice none 0 0) (c6 := .slice none 0 0) (unhide K4)
    refine bodyPost_ret (results_cell_tmp_row rfl _ _ w.heap.size 50 #[.slice none 0 0, .int .i64 1, .int .i64 0, .int .i64 g1, .slice none 0 0, .slice none 0 0, .slice none 0 0] (0, 0) _ rfl R9 Try.underlying50 rfl (by kernel_rfl)) rfl ?_
    have z9 := u9.size
    exact ⟨_, _, _, _, rfl, ((unhide HR4).outside u9 (by omega)).wide (by omega) (by omega), u9.below bb4 (by omega)⟩

set_option maxHeartbeats 1000000 in
set_option maxRecDepth 100000 in
theorem implDataGet_N {B : Nat} {v : Value} {l : List Int} {t : Int} (p n : Int) {w : World} (ht : t = 2 ∨ t = 5 ∨ t = 12) (h : Own B 5 w v l) (hl : l.length ≤ 512) (hp0 : 0 ≤ p) (hp : p ≤ 9223372036854775807) (hn0 : 0 ≤ n) (hn1 : n ≤ 512) (hb : Bytes8 l) :
    Calls Try.prog 41 #[.int .i64 t, v, .int .i64 p, .int .i64 n] w (GivesR w (dataGet t l p n).1 (dataGet t l p n).2) := by
  have hty : typeOk t = true := by rcases ht with rfl | rfl | rfl <;> rfl
  have hkv : kindV t = .iface 128 (.agg #[.slice none 0 0]) := kindV_N ht
  rw [dataGet_in hty hl hp0 hn0 hn1]
  have he := nameGet_end l p
  have hkg : kindGet t l p = (⟨[], t, 0, 0, (nameGet l p).1, [], []⟩, (nameGet l p).2) := by unfold kindGet; rw [if_neg (by omega), if_neg (by omega), if_pos (by rcases ht with rfl | rfl | rfl <;> rfl)]
  rw [hkg]
  skip
  have b0 := below_alloc (w := w) (.cells #[.slice none 0 0, .int .i64 0, .int .i64 0, .int .i64 0, .slice none 0 0, .slice none 0 0, .slice none 0 0] 50)
  have K0 := hide (heap_alloc_new w (.cells #[.slice none 0 0, .int .i64 0, .int .i64 0, .int .i64 0, .slice none 0 0, .slice none 0 0, .slice none 0 0] 50))
  have HG := hide (nameGetM_own (x := .slice none 0 0) p (h.below b0) hl hp hb)
  have HT := implTypeOk_any t (w.alloc (.cells #[.slice none 0 0, .int .i64 0, .int .i64 0, .int .i64 0, .slice none 0 0, .slice none 0 0, .slice none 0 0] 50))
  rw [hty] at HT
  have HT := hide HT
  have HK := kindOf_any t (w.alloc (.cells #[.slice none 0 0, .int .i64 0, .int .i64 0, .int .i64 0, .slice none 0 0, .slice none 0 0, .slice none 0 0] 50))
  rw [hkv] at HK
  have HK := hide HK
  obtain ⟨a, cap, rfl, _⟩ := h.lies
  dsimp only at he ⊢
  clear h hkg hkv hty hb
  generalize (nameGet l p).1 = g1 at *
  generalize (nameGet l p).2 = g2 at *
  generalize hRes : (if g2 < 0 ∨ g2 - p ≠ n ∨ rrOk ⟨[], t, 0, 0, g1, [], []⟩ = false then (emptyR 0, false) else (⟨[], t, 0, 0, g1, [], []⟩, true)) = Res
  have HRES := hide hRes
  clear hRes
  have hll : ¬ (512 : Int) < (l.length : Int) := by omega
  have hp0' : ¬ p < 0 := by omega
  generalize hLN : l.length = L at *
  clear hLN
  have zW := b0.size
  have zK := block_lt (unhide K0)
  go_enter Try.func41, Try.ntmps41
  go_wp2_with fail
  generalize w.alloc (.cells #[.slice none 0 0, .int .i64 0, .int .i64 0, .int .i64 0, .slice none 0 0, .slice none 0 0, .slice none 0 0] 50) = W at *
  refine (unhide HT).mono ?_
  rintro e w1 ⟨rfl, rfl⟩
  go_wp2_with fail
  refine (upTo_yes _ hn0 hn1).mono ?_
  rintro e w1 ⟨rfl, rfl⟩
  go_wp2_with fail
  refine (unhide HK).mono ?_
  rintro e w1 ⟨rfl, rfl⟩
  clear HT HK
  go_wp2_with fail
  refine (unhide HG).mono ?_
  rintro e w1 ⟨v1, rfl, o1, b1⟩
  obtain ⟨oa, oc, rfl, _⟩ := o1.hasL.form
  have K1 := hide (block_kept b1 (unhide K0))
  have bb1 := below_next b0 b1
  have z1 := b1.size
  have HR := hide (show OwnR W.heap.size w1.heap.size 22 5 3 w1 (.slice none 0 0) (.slice oa g1.length oc) (.slice none 0 0) (.slice none 0 0) ⟨[], t, 0, 0, g1, [], []⟩ from ⟨W.heap.size, w1.heap.size, w1.heap.size, Nat.le_refl _, b1.size, Nat.le_refl _, Nat.le_refl _, ownN_nil _ _ _ _ _, o1.here, ownB_nil _ _ _ _, ownBI_nil _ _ _ _⟩)
  clear K0 HG b0 o1
  by_cases hneg : g2 < 0
  · have hRes := unhide HRES
    rw [if_pos (.inl hneg)] at hRes
    subst hRes
    obtain ⟨f0, f1, f2, f3, f4, f5, f6⟩ := cells7 (unhide K1)
    obtain ⟨q0, q1, q2, q3, q4, q5, q6⟩ := frozen7 (unhide K1)
    go_wp2_with fail
    obtain ⟨R9, u9⟩ := set7 (c0 := .slice none 0 0) (c1 := .int .i64 0) (c2 := .int .i64 0) (c3 := .int .i64 0) (c4 := .slice none 0 0) (c5 := .slice none 0 0) (c6 := .slice none 0 0) (unhide K1)
    refine bodyPost_ret (results_cell_tmp_row rfl _ _ w.heap.size 50 #[.slice none 0 0, .int .i64 0, .int .i64 0, .int .i64 0, .slice none 0 0, .slice none 0 0, .slice none 0 0] (0, 0) _ rfl R9 Try.underlying50 rfl (by kernel_rfl)) rfl ?_
    have z9 := u9.size
    exact ⟨_, _, _, _, rfl, ownR_nil (by omega) _ _ _ _ 0, u9.below bb1 (by omega)⟩
  have hsub : g2 - p ≤ 512 ∧ -9223372036854775808 ≤ g2 - p := by omega
  by_cases hne : g2 - p ≠ n
  · have hRes := unhide HRES
    rw [if_pos (.inr (.inl hne))] at hRes
    subst hRes
    have hne' : (g2 - p != n) = true := by rw [bne_iff_ne]; exact hne
    obtain ⟨f0, f1, f2, f3, f4, f5, f6⟩ := cells7 (unhide K1)
    obtain ⟨q0, q1, q2, q3, q4, q5, q6⟩ := frozen7 (unhide K1)
    go_wp2_with fail
    obtain ⟨R9, u9⟩ := set7 (c0 := .slice none 0 0) (c1 := .int .i64 0) (c2 := .int .i64 0) (c3 := .int .i64 0) (c4 := .slice none 0 0) (c5 := .slice none 0 0) (c6 := .slice none 0 0) (unhide K1)
    refine bodyPost_ret (results_cell_tmp_row rfl _ _ w.heap.size 50 #[.slice none 0 0, .int .i64 0, .int .i64 0, .int .i64 0, .slice none 0 0, .slice none 0 0, .slice none 0 0] (0, 0) _ rfl R9 Try.underlying50 rfl (by kernel_rfl)) rfl ?_
    have z9 := u9.size
    exact ⟨_, _, _, _, rfl, ownR_nil (by omega) _ _ _ _ 0, u9.below bb1 (by omega)⟩
  replace hne : g2 - p = n := by omega
  have hne' : (g2 - p != n) = false := by rw [bne_eq_false_iff_eq]; exact hne
  go_wp2_with fail
  refine (recordOf_N (na := none) (nc := 0) (nm := []) (tt := 0) (xa := none) (xc := 0) (ia := none) (ic := 0) (tx := []) (nu := []) (ta := oa) (tc := oc) (to := g1) (ad := 0) (ty := t)).mono ?_
  rintro e w2 ⟨rfl, b2⟩
  have bb2 := below_next bb1 b2
  have K2 := hide (block_kept b2 (unhide K1))
  have HR2 := hide ((unhide HR).below b2)
  have z2 := b2.size
  have b3 := below_alloc (w := w2) (.cells #[.slice none 0 0, .int .i64 t, .int .i64 0, .int .i64 0, .slice oa g1.length oc, .slice none 0 0, .slice none 0 0] 50)
  have V3 := hide (heap_alloc_new w2 (.cells #[.slice none 0 0, .int .i64 t, .int .i64 0, .int .i64 0, .slice oa g1.length oc, .slice none 0 0, .slice none 0 0] 50))
  have K3 := hide (block_kept b3 (unhide K2))
  have HR3 := hide ((unhide HR2).below b3)
  have bb3 := below_next bb2 b3
  have z3 := b3.size
  have zv := block_lt (unhide V3)
  clear K1 HR bb1 b2 K2 HR2 bb2 b3
  obtain ⟨d0, d1, d2, d3, d4, d5, d6⟩ := cells7 (unhide V3)
  go_wp2_with fail
  clear d0 d1 d2 d3 d4 d5 d6
  generalize w2.alloc (.cells #[.slice none 0 0, .int .i64 t, .int .i64 0, .int .i64 0, .slice oa g1.length oc, .slice none 0 0, .slice none 0 0] 50) = w3 at *
  have HO := implRrOk_has (unhide HR3).hasR
  dsimp only at HO
  cases hok : rrOk ⟨[], t, 0, 0, g1, [], []⟩ with
  | false =>
    rw [hok] at HO
    have hRes := unhide HRES
    rw [if_pos (.inr (.inr hok))] at hRes
    subst hRes
    clear HRES
    refine HO.mono ?_
    rintro e w4 ⟨rfl, b4⟩
    have K4 := hide (block_kept b4 (unhide K3))
    have bb4 := below_next bb3 b4
    have z4 := b4.size
    clear HO hok K3 bb3 b4
    obtain ⟨f0, f1, f2, f3, f4, f5, f6⟩ := cells7 (unhide K4)
    obtain ⟨q0, q1, q2, q3, q4, q5, q6⟩ := frozen7 (unhide K4)
    go_wp2_with fail
    obtain ⟨R9, u9⟩ := set7 (c0 := .slice none 0 0) (c1 := .int .i64 0) (c2 := .int .i64 0) (c3 := .int .i64 0) (c4 := .slice none 0 0) (c5 := .slice none 0 0) (c6 := .slice none 0 0) (unhide K4)
    refine bodyPost_ret (results_cell_tmp_row rfl _ _ w.heap.size 50 #[.slice none 0 0, .int .i64 0, .int .i64 0, .int .i64 0, .slice none 0 0, .slice none 0 0, .slice none 0 0] (0, 0) _ rfl R9 Try.underlying50 rfl (by kernel_rfl)) rfl ?_
    have z9 := u9.size
    exact ⟨_, _, _, _, rfl, ownR_nil (by omega) _ _ _ _ 0, u9.below bb4 (by omega)⟩
  | true =>
    rw [hok] at HO
    have hRes := unhide HRES
    rw [if_neg (by rw [hok]; simp; omega)] at hRes
    subst hRes
    clear HRES
    refine HO.mono ?_
    rintro e w4 ⟨rfl, b4⟩
    have K4 := hide (block_kept b4 (unhide K3))
    have V4 := hide (block_kept b4 (unhide V3))
    have HR4 := hide ((unhide HR3).below b4)
    have bb4 := below_next bb3 b4
    have z4 := b4.size
    clear HO hok K3 V3 bb3 b4 HR3
    obtain ⟨d0, d1, d2, d3, d4, d5, d6⟩ := cells7 (unhide V4)
    obtain ⟨f0, f1, f2, f3, f4, f5, f6⟩ := cells7 (unhide K4)
    obtain ⟨q0, q1, q2, q3, q4, q5, q6⟩ := frozen7 (unhide K4)
    go_wp2_with fail
    obtain ⟨R9, u9⟩ := set7 (c0 := .slice none 0 0) (c1 := .int .i64 t) (c2 := .int .i64 0) (c3 := .int .i64 0) (c4 := .slice oa g1.length oc) (c5 := .slice none 0 0) (c6 := .slice none 0 0) (unhide K4)
    refine bodyPost_ret (results_cell_tmp_row rfl _ _ w.heap.size 50 #[.slice none 0 0, .int .i64 t, .int .i64 0, .int .i64 0, .slice oa g1.length oc, .slice none 0 0, .slice none 0 0] (0, 0) _ rfl R9 Try.underlying50 rfl (by kernel_rfl)) rfl ?_
    have z9 := u9.size
    exact ⟨_, _, _, _, rfl, ((unhide HR4).outside u9 (by omega)).wide (by omega) (by omega), u9.below bb4 (by omega)⟩

set_option maxHeartbeats 1000000 in
set_option maxRecDepth 100000 in
theorem implDataGet_S {B : Nat} {v : Value} {l : List Int} (p n : Int) {w : World} (h : Own B 5 w v l) (hl : l.length ≤ 512) (hp0 : 0 ≤ p) (hp : p ≤ 9223372036854775807) (hn0 : 0 ≤ n) (hn1 : n ≤ 512) (hb : Bytes8 l) :
    Calls Try.prog 41 #[.int .i64 6, v, .int .i64 p, .int .i64 n] w (GivesR w (dataGet 6 l p n).1 (dataGet 6 l p n).2) := by
  have hty : typeOk 6 = true := rfl
  have hkv : kindV 6 = .iface 130 (.agg #[.slice none 0 0, .slice none 0 0]) := rfl
  rw [dataGet_in hty hl hp0 hn0 hn1]
  have he := kindGet_end 6 l p
  have hkg : kindGet 6 l p = (⟨[], 6, 0, 0, (nameGet l p).1, [], [(get32 l (nameGet l p).2).1, (get32 l (get32 l (nameGet l p).2).2).1]⟩, (get32 l (get32 l (nameGet l p).2).2).2) := by unfold kindGet; rw [if_neg (by omega), if_pos rfl]
  rw [hkg]
  rw [hkg] at he
  have b0 := below_alloc (w := w) (.cells #[.slice none 0 0, .int .i64 0, .int .i64 0, .int .i64 0, .slice none 0 0, .slice none 0 0, .slice none 0 0] 50)
  have K0 := hide (heap_alloc_new w (.cells #[.slice none 0 0, .int .i64 0, .int .i64 0, .int .i64 0, .slice none 0 0, .slice none 0 0, .slice none 0 0] 50))
  have HG := hide (soaGet_own p (h.below b0) hl hp hb)
  have HT := implTypeOk_any 6 (w.alloc (.cells #[.slice none 0 0, .int .i64 0, .int .i64 0, .int .i64 0, .slice none 0 0, .slice none 0 0, .slice none 0 0] 50))
  rw [hty] at HT
  have HT := hide HT
  have HK := kindOf_any 6 (w.alloc (.cells #[.slice none 0 0, .int .i64 0, .int .i64 0, .int .i64 0, .slice none 0 0, .slice none 0 0, .slice none 0 0] 50))
  rw [hkv] at HK
  have HK := hide HK
  obtain ⟨a, cap, rfl, _⟩ := h.lies
  dsimp only at he ⊢
  clear h hkg hkv hty hb
  generalize (get32 l (get32 l (nameGet l p).2).2).1 = y1 at *
  generalize (get32 l (get32 l (nameGet l p).2).2).2 = g2 at *
  generalize (get32 l (nameGet l p).2).1 = x1 at *
  generalize (nameGet l p).1 = g1 at *
  generalize hRes : (if g2 < 0 ∨ g2 - p ≠ n ∨ rrOk ⟨[], 6, 0, 0, g1, [], [x1, y1]⟩ = false then (emptyR 0, false) else (⟨[], 6, 0, 0, g1, [], [x1, y1]⟩, true)) = Res
  have HRES := hide hRes
  clear hRes
  have hll : ¬ (512 : Int) < (l.length : Int) := by omega
  have hp0' : ¬ p < 0 := by omega
  generalize hLN : l.length = L at *
  clear hLN
  have zW := b0.size
  have zK := block_lt (unhide K0)
  go_enter Try.func41, Try.ntmps41
  go_wp2_with fail
  generalize w.alloc (.cells #[.slice none 0 0, .int .i64 0, .int .i64 0, .int .i64 0, .slice none 0 0, .slice none 0 0, .slice none 0 0] 50) = W at *
  refine (unhide HT).mono ?_
  rintro e w1 ⟨rfl, rfl⟩
  go_wp2_with fail
  refine (upTo_yes _ hn0 hn1).mono ?_
  rintro e w1 ⟨rfl, rfl⟩
  go_wp2_with fail
  refine (unhide HK).mono ?_
  rintro e w1 ⟨rfl, rfl⟩
  clear HT HK
  go_wp2_with fail
  refine (unhide HG).mono ?_
  rintro e w1 ⟨v1, u1, s, rfl, hs0, hs1, o1, i1, b1⟩
  obtain ⟨oa, oc, rfl, _⟩ := o1.hasL.form
  obtain ⟨ia, ic, rfl, _⟩ := i1.has.form
  have K1 := hide (block_kept b1 (unhide K0))
  have bb1 := below_next b0 b1
  have z1 := b1.size
  have HR := hide (show OwnR W.heap.size w1.heap.size 22 5 3 w1 (.slice none 0 0) (.slice oa g1.length oc) (.slice none 0 0) (.slice ia 2 ic) ⟨[], 6, 0, 0, g1, [], [x1, y1]⟩ from ⟨W.heap.size, s, s, Nat.le_refl _, hs0, Nat.le_refl _, hs1, ownN_nil _ _ _ _ _, o1, ownB_nil _ _ _ _, i1⟩)
  clear K0 HG b0 o1 i1
  by_cases hneg : g2 < 0
  · have hRes := unhide HRES
    rw [if_pos (.inl hneg)] at hRes
    subst hRes
    obtain ⟨f0, f1, f2, f3, f4, f5, f6⟩ := cells7 (unhide K1)
    obtain ⟨q0, q1, q2, q3, q4, q5, q6⟩ := frozen7 (unhide K1)
    go_wp2_with fail
    obtain ⟨R9, u9⟩ := set7 (c0 := .slice none 0 0) (c1 := .int .i64 0) (c2 := .int .i64 0) (c3 := .int .i64 0) (c4 := .slice none 0 0) (c5 := .slice none 0 0) (c6 := .slice none 0 0) (unhide K1)
    refine bodyPost_ret (results_cell_tmp_row rfl _ _ w.heap.size 50 #[.slice none 0 0, .int .i64 0, .int .i64 0, .int .i64 0, .slice none 0 0, .slice none 0 0, .slice none 0 0] (0, 0) _ rfl R9 Try.underlying50 rfl (by kernel_rfl)) rfl ?_
    have z9 := u9.size
    exact ⟨_, _, _, _, rfl, ownR_nil (by omega) _ _ _ _ 0, u9.below bb1 (by omega)⟩
  have hsub : g2 - p ≤ 512 ∧ -9223372036854775808 ≤ g2 - p := by omega
  by_cases hne : g2 - p ≠ n
  · have hRes := unhide HRES
    rw [if_pos (.inr (.inl hne))] at hRes
    subst hRes
    have hne' : (g2 - p != n) = true := by rw [bne_iff_ne]; exact hne
    obtain ⟨f0, f1, f2, f3, f4, f5, f6⟩ := cells7 (unhide K1)
    obtain ⟨q0, q1, q2, q3, q4, q5, q6⟩ := frozen7 (unhide K1)
    go_wp2_with fail
    obtain ⟨R9, u9⟩ := set7 (c0 := .slice none 0 0) (c1 := .int .i64 0) (c2 := .int .i64 0) (c3 := .int .i64 0) (c4 := .slice none 0 0) (c5 := .slice none 0 0) (c6 := .slice none 0 0) (unhide K1)
    refine bodyPost_ret (results_cell_tmp_row rfl _ _ w.heap.size 50 #[.slice none 0 0, .int .i64 0, .int .i64 0, .int .i64 0, .slice none 0 0, .slice none 0 0, .slice none 0 0] (0, 0) _ rfl R9 Try.underlying50 rfl (by kernel_rfl)) rfl ?_
    have z9 := u9.size
    exact ⟨_, _, _, _, rfl, ownR_nil (by omega) _ _ _ _ 0, u9.below bb1 (by omega)⟩
  replace hne : g2 - p = n := by omega
  have hne' : (g2 - p != n) = false := by rw [bne_eq_false_iff_eq]; exact hne
  go_wp2_with fail
  refine (recordOf_S (na := none) (nc := 0) (nm := []) (tt := 0) (xa := none) (xc := 0) (ia := ia) (ic := ic) (tx := []) (nu := [x1, y1]) (ta := oa) (tc := oc) (to := g1) (ad := 0)).mono ?_
  rintro e w2 ⟨rfl, b2⟩
  have bb2 := below_next bb1 b2
  have K2 := hide (block_kept b2 (unhide K1))
  have HR2 := hide ((unhide HR).below b2)
  have z2 := b2.size
  have b3 := below_alloc (w := w2) (.cells #[.slice none 0 0, .int .i64 6, .int .i64 0, .int .i64 0, .slice oa g1.length oc, .slice none 0 0, .slice ia 2 ic] 50)
  have V3 := hide (heap_alloc_new w2 (.cells #[.slice none 0 0, .int .i64 6, .int .i64 0, .int .i64 0, .slice oa g1.length oc, .slice none 0 0, .slice ia 2 ic] 50))
  have K3 := hide (block_kept b3 (unhide K2))
  have HR3 := hide ((unhide HR2).below b3)
  have bb3 := below_next bb2 b3
  have z3 := b3.size
  have zv := block_lt (unhide V3)
  clear K1 HR bb1 b2 K2 HR2 bb2 b3
  obtain ⟨d0, d1, d2, d3, d4, d5, d6⟩ := cells7 (unhide V3)
  go_wp2_with fail
  clear d0 d1 d2 d3 d4 d5 d6
  generalize w2.alloc (.cells #[.slice none 0 0, .int .i64 6, .int .i64 0, .int .i64 0, .slice oa g1.length oc, .slice none 0 0, .slice ia 2 ic] 50) = w3 at *
  have HO := implRrOk_has (unhide HR3).hasR
  dsimp only at HO
  cases hok : rrOk ⟨[], 6, 0, 0, g1, [], [x1, y1]⟩ with
  | false =>
    rw [hok] at HO
    have hRes := unhide HRES
    rw [if_pos (.inr (.inr hok))] at hRes
    subst hRes
    clear HRES
    refine HO.mono ?_
    rintro e w4 ⟨rfl, b4⟩
    have K4 := hide (block_kept b4 (unhide K3))
    have bb4 := below_next bb3 b4
    have z4 := b4.size
    clear HO hok K3 bb3 b4
    obtain ⟨f0, f1, f2, f3, f4, f5, f6⟩ := cells7 (unhide K4)
    obtain ⟨q0, q1, q2, q3, q4, q5, q6⟩ := frozen7 (unhide K4)
    go_wp2_with fail
    obtain ⟨R9, u9⟩ := set7 (c0 := .slice none 0 0) (c1 := .int .i64 0) (c2 := .int .i64 0) (c3 := .int .i64 0) (c4 := .slice none 0 0) (c5 := .slice none 0 0) (c6 := .slice none 0 0) (unhide K4)
    refine bodyPost_ret (results_cell_tmp_row rfl _ _ w.heap.size 50 #[.slice none 0 0, .int .i64 0, .int .i64 0, .int .i64 0, .slice none 0 0, .slice none 0 0, .slice none 0 0] (0, 0) _ rfl R9 Try.underlying50 rfl (by kernel_rfl)) rfl ?_
    have z9 := u9.size
    exact ⟨_, _, _, _, rfl, ownR_nil (by omega) _ _ _ _ 0, u9.below bb4 (by omega)⟩
  | true =>
    rw [hok] at HO
    have hRes := unhide HRES
    rw [if_neg (by rw [hok]; simp; omega)] at hRes
    subst hRes
    clear HRES
    refine HO.mono ?_
    rintro e w4 ⟨rfl, b4⟩
    have K4 := hide (block_kept b4 (unhide K3))
    have V4 := hide (block_kept b4 (unhide V3))
    have HR4 := hide ((unhide HR3).below b4)
    have bb4 := below_next bb3 b4
    have z4 := b4.size
    clear HO hok K3 V3 bb3 b4 HR3
    obtain ⟨d0, d1, d2, d3, d4, d5, d6⟩ := cells7 (unhide V4)
    obtain ⟨f0, f1, f2, f3, f4, f5, f6⟩ := cells7 (unhide K4)
    obtain ⟨q0, q1, q2, q3, q4, q5, q6⟩ := frozen7 (unhide K4)
    go_wp2_with fail
    obtain ⟨R9, u9⟩ := set7 (c0 := .slice none 0 0) (c1 := .int .i64 6) (c2 := .int .i64 0) (c3 := .int .i64 0) (c4 := .slice oa g1.length oc) (c5 := .slice none 0 0) (c6 := .slice ia 2 ic) (unhide K4)
    refine bodyPost_ret (results_cell_tmp_row rfl _ _ w.heap.size 50 #[.slice none 0 0, .int .i64 6, .int .i64 0, .int .i64 0, .slice oa g1.length oc, .slice none 0 0, .slice ia 2 ic] (0, 0) _ rfl R9 Try.underlying50 rfl (by kernel_rfl)) rfl ?_
    have z9 := u9.size
    exact ⟨_, _, _, _, rfl, ((unhide HR4).outside u9 (by omega)).wide (by omega) (by omega), u9.below bb4 (by omega)⟩

set_option maxHeartbeats 1000000 in
set_option maxRecDepth 100000 in
theorem implDataGet_X {B : Nat} {v : Value} {l : List Int} {t : Int} (p n : Int) {w : World} (ht : t = 16 ∨ t = 49) (h : Own B 5 w v l) (hl : l.length ≤ 512) (hp0 : 0 ≤ p) (hp : p ≤ 9223372036854775807) (hn0 : 0 ≤ n) (hn1 : n ≤ 512) (hb : Bytes8 l) :
    Calls Try.prog 41 #[.int .i64 t, v, .int .i64 p, .int .i64 n] w (GivesR w (dataGet t l p n).1 (dataGet t l p n).2) := by
  have hty : typeOk t = true := by rcases ht with rfl | rfl <;> rfl
  have hkv : kindV t = .iface 132 (.agg #[.slice none 0 0]) := kindV_X ht
  rw [dataGet_in hty hl hp0 hn0 hn1]
  have he := countedOf_end l p
  have hkg : kindGet t l p = (⟨[], t, 0, 0, [], (countedOf l p).1, []⟩, (countedOf l p).2) := by unfold kindGet; rw [if_neg (by omega), if_neg (by omega), if_neg (by rcases ht with rfl | rfl <;> decide)]
  rw [hkg]
  skip
  have b0 := below_alloc (w := w) (.cells #[.slice none 0 0, .int .i64 0, .int .i64 0, .int .i64 0, .slice none 0 0, .slice none 0 0, .slice none 0 0] 50)
  have K0 := hide (heap_alloc_new w (.cells #[.slice none 0 0, .int .i64 0, .int .i64 0, .int .i64 0, .slice none 0 0, .slice none 0 0, .slice none 0 0] 50))
  have HG := hide (textGet_own p (h.below b0) hl hp hb)
  have HT := implTypeOk_any t (w.alloc (.cells #[.slice none 0 0, .int .i64 0, .int .i64 0, .int .i64 0, .slice none 0 0, .slice none 0 0, .slice none 0 0] 50))
  rw [hty] at HT
  have HT := hide HT
  have HK := kindOf_any t (w.alloc (.cells #[.slice none 0 0, .int .i64 0, .int .i64 0, .int .i64 0, .slice none 0 0, .slice none 0 0, .slice none 0 0] 50))
  rw [hkv] at HK
  have HK := hide HK
  obtain ⟨a, cap, rfl, _⟩ := h.lies
  dsimp only at he ⊢
  clear h hkg hkv hty hb
  generalize (countedOf l p).1 = g1 at *
  generalize (countedOf l p).2 = g2 at *
  generalize hRes : (if g2 < 0 ∨ g2 - p ≠ n ∨ rrOk ⟨[], t, 0, 0, [], g1, []⟩ = false then (emptyR 0, false) else (⟨[], t, 0, 0, [], g1, []⟩, true)) = Res
  have HRES := hide hRes
  clear hRes
  have hll : ¬ (512 : Int) < (l.length : Int) := by omega
  have hp0' : ¬ p < 0 := by omega
  generalize hLN : l.length = L at *
  clear hLN
  have zW := b0.size
  have zK := block_lt (unhide K0)
  go_enter Try.func41, Try.ntmps41
  go_wp2_with fail
  generalize w.alloc (.cells #[.slice none 0 0, .int .i64 0, .int .i64 0, .int .i64 0, .slice none 0 0, .slice none 0 0, .slice none 0 0] 50) = W at *
  refine (unhide HT).mono ?_
  rintro e w1 ⟨rfl, rfl⟩
  go_wp2_with fail
  refine (upTo_yes _ hn0 hn1).mono ?_
  rintro e w1 ⟨rfl, rfl⟩
  go_wp2_with fail
  refine (unhide HK).mono ?_
  rintro e w1 ⟨rfl, rfl⟩
  clear HT HK
  go_wp2_with fail
  refine (unhide HG).mono ?_
  rintro e w1 ⟨v1, rfl, o1, b1⟩
  obtain ⟨oa, oc, rfl, _⟩ := o1.lies
  have K1 := hide (block_kept b1 (unhide K0))
  have bb1 := below_next b0 b1
  have z1 := b1.size
  have HR := hide (show OwnR W.heap.size w1.heap.size 22 5 3 w1 (.slice none 0 0) (.slice none 0 0) (.slice oa g1.length oc) (.slice none 0 0) ⟨[], t, 0, 0, [], g1, []⟩ from ⟨W.heap.size, W.heap.size, w1.heap.size, Nat.le_refl _, Nat.le_refl _, b1.size, Nat.le_refl _, ownN_nil _ _ _ _ _, ownN_nil _ _ _ _ _, o1.here, ownBI_nil _ _ _ _⟩)
  clear K0 HG b0 o1
  by_cases hneg : g2 < 0
  · have hRes := unhide HRES
    rw [if_pos (.inl hneg)] at hRes
    subst hRes
    obtain ⟨f0, f1, f2, f3, f4, f5, f6⟩ := cells7 (unhide K1)
    obtain ⟨q0, q1, q2, q3, q4, q5, q6⟩ := frozen7 (unhide K1)
    go_wp2_with fail
    obtain ⟨R9, u9⟩ := set7 (c0 := .slice none 0 0) (c1 := .int .i64 0) (c2 := .int .i64 0) (c3 := .int .i64 0) (c4 := .slice none 0 0) (c5 := .slice none 0 0) (c6 := .slice none 0 0) (unhide K1)
    refine bodyPost_ret (results_cell_tmp_row rfl _ _ w.heap.size 50 #[.slice none 0 0, .int .i64 0, .int .i64 0, .int .i64 0, .slice none 0 0, .slice none 0 0, .slice none 0 0] (0, 0) _ rfl R9 Try.underlying50 rfl (by kernel_rfl)) rfl ?_
    have z9 := u9.size
    exact ⟨_, _, _, _, rfl, ownR_nil (by omega) _ _ _ _ 0, u9.below bb1 (by omega)⟩
  have hsub : g2 - p ≤ 512 ∧ -9223372036854775808 ≤ g2 - p := by omega
  by_cases hne : g2 - p ≠ n
  · have hRes := unhide HRES
    rw [if_pos (.inr (.inl hne))] at hRes
    subst hRes
    have hne' : (g2 - p != n) = true := by rw [bne_iff_ne]; exact hne
    obtain ⟨f0, f1, f2, f3, f4, f5, f6⟩ := cells7 (unhide K1)
    obtain ⟨q0, q1, q2, q3, q4, q5, q6⟩ := frozen7 (unhide K1)
    go_wp2_with fail
    obtain ⟨R9, u9⟩ := set7 (c0 := .slice none 0 0) (c1 := .int .i64 0) (c2 := .int .i64 0) (c3 := .int .i64 0) (c4 := .slice none 0 0) (c5 := .slice none 0 0) (c6 := .slice none 0 0) (unhide K1)
    refine bodyPost_ret (results_cell_tmp_row rfl _ _ w.heap.size 50 #[.slice none 0 0, .int .i64 0, .int .i64 0, .int .i64 0, .slice none 0 0, .slice none 0 0, .slice none 0 0] (0, 0) _ rfl R9 Try.underlying50 rfl (by kernel_rfl)) rfl ?_
    have z9 := u9.size
    exact ⟨_, _, _, _, rfl, ownR_nil (by omega) _ _ _ _ 0, u9.below bb1 (by omega)⟩
  replace hne : g2 - p = n := by omega
  have hne' : (g2 - p != n) = false := by rw [bne_eq_false_iff_eq]; exact hne
  go_wp2_with fail
  refine (recordOf_X (na := none) (nc := 0) (nm := []) (tt := 0) (xa := oa) (xc := oc) (ia := none) (ic := 0) (tx := g1) (nu := []) (ta := none) (tc := 0) (to := []) (ad := 0) (ty := t)).mono ?_
  rintro e w2 ⟨rfl, b2⟩
  have bb2 := below_next bb1 b2
  have K2 := hide (block_kept b2 (unhide K1))
  have HR2 := hide ((unhide HR).below b2)
  have z2 := b2.size
  have b3 := below_alloc (w := w2) (.cells #[.slice none 0 0, .int .i64 t, .int .i64 0, .int .i64 0, .slice none 0 0, .slice oa g1.length oc, .slice none 0 0] 50)
  have V3 := hide (heap_alloc_new w2 (.cells #[.slice none 0 0, .int .i64 t, .int .i64 0, .int .i64 0, .slice none 0 0, .slice oa g1.length oc, .slice none 0 0] 50))
  have K3 := hide (block_kept b3 (unhide K2))
  have HR3 := hide ((unhide HR2).below b3)
  have bb3 := below_next bb2 b3
  have z3 := b3.size
  have zv := block_lt (unhide V3)
  clear K1 HR bb1 b2 K2 HR2 bb2 b3
  obtain ⟨d0, d1, d2, d3, d4, d5, d6⟩ := cells7 (unhide V3)
  go_wp2_with fail
  clear d0 d1 d2 d3 d4 d5 d6
  generalize w2.alloc (.cells #[.slice none 0 0, .int .i64 t, .int .i64 0, .int .i64 0, .slice none 0 0, .slice oa g1.length oc, .slice none 0 0] 50) = w3 at *
  have HO := implRrOk_has (unhide HR3).hasR
  dsimp only at HO
  cases hok : rrOk ⟨[], t, 0, 0, [], g1, []⟩ with
  | false =>
    rw [hok] at HO
    have hRes := unhide HRES
    rw [if_pos (.inr (.inr hok))] at hRes
    subst hRes
    clear HRES
    refine HO.mono ?_
    rintro e w4 ⟨rfl, b4⟩
    have K4 := hide (block_kept b4 (unhide K3))
    have bb4 := below_next bb3 b4
    have z4 := b4.size
    clear HO hok K3 bb3 b4
    obtain ⟨f0, f1, f2, f3, f4, f5, f6⟩ := cells7 (unhide K4)
    obtain ⟨q0, q1, q2, q3, q4, q5, q6⟩ := frozen7 (unhide K4)
    go_wp2_with fail
    obtain ⟨R9, u9⟩ := set7 (c0 := .slice none 0 0) (c1 := .int .i64 0) (c2 := .int .i64 0) (c3 := .int .i64 0) (c4 := .slice none 0 0) (c5 := .slice none 0 0) (c6 := .slice none 0 0) (unhide K4)
    refine bodyPost_ret (results_cell_tmp_row rfl _ _ w.heap.size 50 #[.slice none 0 0, .int .i64 0, .int .i64 0, .int .i64 0, .slice none 0 0, .slice none 0 0, .slice none 0 0] (0, 0) _ rfl R9 Try.underlying50 rfl (by kernel_rfl)) rfl ?_
    have z9 := u9.size
    exact ⟨_, _, _, _, rfl, ownR_nil (by omega) _ _ _ _ 0, u9.below bb4 (by omega)⟩
  | true =>
    rw [hok] at HO
    have hRes := unhide HRES
    rw [if_neg (by rw [hok]; simp; omega)] at hRes
    subst hRes
    clear HRES
    refine HO.mono ?_
    rintro e w4 ⟨rfl, b4⟩
    have K4 := hide (block_kept b4 (unhide K3))
    have V4 := hide (block_kept b4 (unhide V3))
    have HR4 := hide ((unhide HR3).below b4)
    have bb4 := below_next bb3 b4
    have z4 := b4.size
    clear HO hok K3 V3 bb3 b4 HR3
    obtain ⟨d0, d1, d2, d3, d4, d5, d6⟩ := cells7 (unhide V4)
    obtain ⟨f0, f1, f2, f3, f4, f5, f6⟩ := cells7 (unhide K4)
    obtain ⟨q0, q1, q2, q3, q4, q5, q6⟩ := frozen7 (unhide K4)
    go_wp2_with fail
    obtain ⟨R9, u9⟩ := set7 (c0 := .slice none 0 0) (c1 := .int .i64 t) (c2 := .int .i64 0) (c3 := .int .i64 0) (c4 := .slice none 0 0) (c5 := .slice oa g1.length oc) (c6 := .slice none 0 0) (unhide K4)
    refine bodyPost_ret (results_cell_tmp_row rfl _ _ w.heap.size 50 #[.slice none 0 0, .int .i64 t, .int .i64 0, .int .i64 0, .slice none 0 0, .slice oa g1.length oc, .slice none 0 0] (0, 0) _ rfl R9 Try.underlying50 rfl (by kernel_rfl)) rfl ?_
    have z9 := u9.size
    exact ⟨_, _, _, _, rfl, ((unhide HR4).outside u9 (by omega)).wide (by omega) (by omega), u9.below bb4 (by omega)⟩

set_option maxHeartbeats 1000000 in
set_option maxRecDepth 100000 in
theorem implDataGet_no1 {a : Option Addr} {L cap : Nat} (t p n : Int) {w : World} (hty : typeOk t = false) :
    Calls Try.prog 41 #[.int .i64 t, .slice a L cap, .int .i64 p, .int .i64 n] w (GivesR w (emptyR 0) false) := by
  have b0 := below_alloc (w := w) (.cells #[.slice none 0 0, .int .i64 0, .int .i64 0, .int .i64 0, .slice none 0 0, .slice none 0 0, .slice none 0 0] 50)
  have K0 := hide (heap_alloc_new w (.cells #[.slice none 0 0, .int .i64 0, .int .i64 0, .int .i64 0, .slice none 0 0, .slice none 0 0, .slice none 0 0] 50))
  have HT := implTypeOk_any t (w.alloc (.cells #[.slice none 0 0, .int .i64 0, .int .i64 0, .int .i64 0, .slice none 0 0, .slice none 0 0, .slice none 0 0] 50))
  rw [hty] at HT
  replace HT := hide HT
  clear hty
  go_enter Try.func41, Try.ntmps41
  go_wp2_with fail
  generalize w.alloc (.cells #[.slice none 0 0, .int .i64 0, .int .i64 0, .int .i64 0, .slice none 0 0, .slice none 0 0, .slice none 0 0] 50) = W at *
  have zK := block_lt (unhide K0)
  refine (unhide HT).mono ?_
  rintro e w1 ⟨rfl, rfl⟩
  obtain ⟨f0, f1, f2, f3, f4, f5, f6⟩ := cells7 (unhide K0)
  obtain ⟨q0, q1, q2, q3, q4, q5, q6⟩ := frozen7 (unhide K0)
  go_wp2_with fail
  obtain ⟨R9, u9⟩ := set7 (c0 := .slice none 0 0) (c1 := .int .i64 0) (c2 := .int .i64 0) (c3 := .int .i64 0) (c4 := .slice none 0 0) (c5 := .slice none 0 0) (c6 := .slice none 0 0) (unhide K0)
  refine bodyPost_ret (results_cell_tmp_row rfl _ _ w.heap.size 50 #[.slice none 0 0, .int .i64 0, .int .i64 0, .int .i64 0, .slice none 0 0, .slice none 0 0, .slice none 0 0] (0, 0) _ rfl R9 Try.underlying50 rfl (by kernel_rfl)) rfl ?_
  have z9 := u9.size
  exact ⟨_, _, _, _, rfl, ownR_nil (by omega) _ _ _ _ 0, u9.below b0 (by omega)⟩

set_option maxHeartbeats 1000000 in
set_option maxRecDepth 100000 in
theorem implDataGet_no2 {a : Option Addr} {L cap : Nat} (t p n : Int) {w : World} (hty : typeOk t = true) (h : 512 < L) :
    Calls Try.prog 41 #[.int .i64 t, .slice a L cap, .int .i64 p, .int .i64 n] w (GivesR w (emptyR 0) false) := by
  have b0 := below_alloc (w := w) (.cells #[.slice none 0 0, .int .i64 0, .int .i64 0, .int .i64 0, .slice none 0 0, .slice none 0 0, .slice none 0 0] 50)
  have K0 := hide (heap_alloc_new w (.cells #[.slice none 0 0, .int .i64 0, .int .i64 0, .int .i64 0, .slice none 0 0, .slice none 0 0, .slice none 0 0] 50))
  have HT := implTypeOk_any t (w.alloc (.cells #[.slice none 0 0, .int .i64 0, .int .i64 0, .int .i64 0, .slice none 0 0, .slice none 0 0, .slice none 0 0] 50))
  rw [hty] at HT
  replace HT := hide HT
  clear hty
  have h' : (512 : Int) < (L : Int) := by omega
  go_enter Try.func41, Try.ntmps41
  go_wp2_with fail
  generalize w.alloc (.cells #[.slice none 0 0, .int .i64 0, .int .i64 0, .int .i64 0, .slice none 0 0, .slice none 0 0, .slice none 0 0] 50) = W at *
  have zK := block_lt (unhide K0)
  refine (unhide HT).mono ?_
  rintro e w1 ⟨rfl, rfl⟩
  obtain ⟨f0, f1, f2, f3, f4, f5, f6⟩ := cells7 (unhide K0)
  obtain ⟨q0, q1, q2, q3, q4, q5, q6⟩ := frozen7 (unhide K0)
  go_wp2_with fail
  obtain ⟨R9, u9⟩ := set7 (c0 := .slice none 0 0) (c1 := .int .i64 0) (c2 := .int .i64 0) (c3 := .int .i64 0) (c4 := .slice none 0 0) (c5 := .slice none 0 0) (c6 := .slice none 0 0) (unhide K0)
  refine bodyPost_ret (results_cell_tmp_row rfl _ _ w.heap.size 50 #[.slice none 0 0, .int .i64 0, .int .i64 0, .int .i64 0, .slice none 0 0, .slice none 0 0, .slice none 0 0] (0, 0) _ rfl R9 Try.underlying50 rfl (by kernel_rfl)) rfl ?_
  have z9 := u9.size
  exact ⟨_, _, _, _, rfl, ownR_nil (by omega) _ _ _ _ 0, u9.below b0 (by omega)⟩

set_option maxHeartbeats 1000000 in
set_option maxRecDepth 100000 in
theorem implDataGet_no3 {a : Option Addr} {L cap : Nat} (t p n : Int) {w : World} (hty : typeOk t = true) (hL : ¬ 512 < L) (h : p < 0) :
    Calls Try.prog 41 #[.int .i64 t, .slice a L cap, .int .i64 p, .int .i64 n] w (GivesR w (emptyR 0) false) := by
  have b0 := below_alloc (w := w) (.cells #[.slice none 0 0, .int .i64 0, .int .i64 0, .int .i64 0, .slice none 0 0, .slice none 0 0, .slice none 0 0] 50)
  have K0 := hide (heap_alloc_new w (.cells #[.slice none 0 0, .int .i64 0, .int .i64 0, .int .i64 0, .slice none 0 0, .slice none 0 0, .slice none 0 0] 50))
  have HT := implTypeOk_any t (w.alloc (.cells #[.slice none 0 0, .int .i64 0, .int .i64 0, .int .i64 0, .slice none 0 0, .slice none 0 0, .slice none 0 0] 50))
  rw [hty] at HT
  replace HT := hide HT
  clear hty
  have h' : ¬ (512 : Int) < (L : Int) := by omega
  go_enter Try.func41, Try.ntmps41
  go_wp2_with fail
  generalize w.alloc (.cells #[.slice none 0 0, .int .i64 0, .int .i64 0, .int .i64 0, .slice none 0 0, .slice none 0 0, .slice none 0 0] 50) = W at *
  have zK := block_lt (unhide K0)
  refine (unhide HT).mono ?_
  rintro e w1 ⟨rfl, rfl⟩
  obtain ⟨f0, f1, f2, f3, f4, f5, f6⟩ := cells7 (unhide K0)
  obtain ⟨q0, q1, q2, q3, q4, q5, q6⟩ := frozen7 (unhide K0)
  go_wp2_with fail
  obtain ⟨R9, u9⟩ := set7 (c0 := .slice none 0 0) (c1 := .int .i64 0) (c2 := .int .i64 0) (c3 := .int .i64 0) (c4 := .slice none 0 0) (c5 := .slice none 0 0) (c6 := .slice none 0 0) (unhide K0)
  refine bodyPost_ret (results_cell_tmp_row rfl _ _ w.heap.size 50 #[.slice none 0 0, .int .i64 0, .int .i64 0, .int .i64 0, .slice none 0 0, .slice none 0 0, .slice none 0 0] (0, 0) _ rfl R9 Try.underlying50 rfl (by kernel_rfl)) rfl ?_
  have z9 := u9.size
  exact ⟨_, _, _, _, rfl, ownR_nil (by omega) _ _ _ _ 0, u9.below b0 (by omega)⟩

set_option maxHeartbeats 1000000 in
set_option maxRecDepth 100000 in
theorem implDataGet_no4 {a : Option Addr} {L cap : Nat} (t p n : Int) {w : World} (hty : typeOk t = true) (hL : ¬ 512 < L) (hp : ¬ p < 0) (h : n < 0 ∨ 512 < n) :
    Calls Try.prog 41 #[.int .i64 t, .slice a L cap, .int .i64 p, .int .i64 n] w (GivesR w (emptyR 0) false) := by
  have b0 := below_alloc (w := w) (.cells #[.slice none 0 0, .int .i64 0, .int .i64 0, .int .i64 0, .slice none 0 0, .slice none 0 0, .slice none 0 0] 50)
  have K0 := hide (heap_alloc_new w (.cells #[.slice none 0 0, .int .i64 0, .int .i64 0, .int .i64 0, .slice none 0 0, .slice none 0 0, .slice none 0 0] 50))
  have HT := implTypeOk_any t (w.alloc (.cells #[.slice none 0 0, .int .i64 0, .int .i64 0, .int .i64 0, .slice none 0 0, .slice none 0 0, .slice none 0 0] 50))
  rw [hty] at HT
  replace HT := hide HT
  clear hty
  have h' : ¬ (512 : Int) < (L : Int) := by omega
  go_enter Try.func41, Try.ntmps41
  go_wp2_with fail
  generalize w.alloc (.cells #[.slice none 0 0, .int .i64 0, .int .i64 0, .int .i64 0, .slice none 0 0, .slice none 0 0, .slice none 0 0] 50) = W at *
  have zK := block_lt (unhide K0)
  refine (unhide HT).mono ?_
  rintro e w1 ⟨rfl, rfl⟩
  go_wp2_with fail
  refine (upTo_no _ h).mono ?_
  rintro e w1 ⟨rfl, rfl⟩
  obtain ⟨f0, f1, f2, f3, f4, f5, f6⟩ := cells7 (unhide K0)
  obtain ⟨q0, q1, q2, q3, q4, q5, q6⟩ := frozen7 (unhide K0)
  go_wp2_with fail
  obtain ⟨R9, u9⟩ := set7 (c0 := .slice none 0 0) (c1 := .int .i64 0) (c2 := .int .i64 0) (c3 := .int .i64 0) (c4 := .slice none 0 0) (c5 := .slice none 0 0) (c6 := .slice none 0 0) (unhide K0)
  refine bodyPost_ret (results_cell_tmp_row rfl _ _ w.heap.size 50 #[.slice none 0 0, .int .i64 0, .int .i64 0, .int .i64 0, .slice none 0 0, .slice none 0 0, .slice none 0 0] (0, 0) _ rfl R9 Try.underlying50 rfl (by kernel_rfl)) rfl ?_
  have z9 := u9.size
  exact ⟨_, _, _, _, rfl, ownR_nil (by omega) _ _ _ _ 0, u9.below b0 (by omega)⟩

theorem implDataGet_own {B : Nat} {v : Value} {l : List Int} (t p n : Int) {w : World} (h : Own B 5 w v l) (hp : p ≤ 9223372036854775807) (hb : Bytes8 l) :
    Calls Try.prog 41 #[.int .i64 t, v, .int .i64 p, .int .i64 n] w (GivesR w (dataGet t l p n).1 (dataGet t l p n).2) := by
  by_cases hc : typeOk t = false ∨ 512 < l.length ∨ p < 0 ∨ n < 0 ∨ 512 < n
  · rw [dataGet_out hc]
    obtain ⟨a, cap, rfl, _⟩ := h.lies
    cases ht : typeOk t with
    | false => exact implDataGet_no1 t p n ht
    | true =>
      by_cases h1 : 512 < l.length
      · exact implDataGet_no2 t p n ht h1
      by_cases h2 : p < 0
      · exact implDataGet_no3 t p n ht h1 h2
      · exact implDataGet_no4 t p n ht h1 h2 (by rcases hc with q | q | q | q | q <;> first | (rw [ht] at q; cases q) | omega)
  · have ht : typeOk t ≠ false := fun q => hc (.inl q)
    have h1 : l.length ≤ 512 := by omega
    have h2 : 0 ≤ p := by omega
    have h3 : 0 ≤ n := by omega
    have h4 : n ≤ 512 := by omega
    rcases type_cases t with rfl | rfl | rfl | rfl | rfl | rfl | rfl | q
    · exact implDataGet_A p n h h1 h2 hp h3 h4 hb
    · exact implDataGet_N p n (by omega) h h1 h2 hp h3 h4 hb
    · exact implDataGet_N p n (by omega) h h1 h2 hp h3 h4 hb
    · exact implDataGet_S p n h h1 h2 hp h3 h4 hb
    · exact implDataGet_N p n (by omega) h h1 h2 hp h3 h4 hb
    · exact implDataGet_X p n (by omega) h h1 h2 hp h3 h4 hb
    · exact implDataGet_X p n (by omega) h h1 h2 hp h3 h4 hb
    · exact absurd q ht
end Go.Proofs.Ytnloenkjfjlmeaa

namespace Go.Proofs.Ytnloenkjfjlmeaa
open Go.RowKit
set_option linter.unusedVariables false

theorem ssign_cases (c : Int) : (97 ≤ c ∧ c ≤ 122) ∨ (97 ≤ c ∧ 122 < c) ∨ (c < 97 ∧ 48 ≤ c ∧ c ≤ 57) ∨ (c < 97 ∧ 48 ≤ c ∧ 57 < c ∧ c ≠ 45) ∨ (c < 97 ∧ c < 48 ∧ c = 45) ∨ (c < 97 ∧ c < 48 ∧ c ≠ 45) := by omega

set_option maxHeartbeats 1600000 in
set_option maxRecDepth 100000 in
theorem specLabelOk_has {v : Value} {l : List Int} {w : World} (h : Has w v l) :
    Calls Try.prog 54 #[v] w fun e w' => e = .returned (.bool (labelOk l)) ∧ w = w' := by
  have hbd := h.bound
  unfold maxLen at hbd
  obtain ⟨a, cap, rfl, hL⟩ := h.form
  by_cases h0 : l.length = 0
  · rw [labelOk_short (by omega), h0]
    go_enter Try.func54, Try.ntmps54
    go_wp2
    go_ret
    exact ⟨rfl, rfl⟩
  · by_cases h1 : 15 < l.length
    · rw [labelOk_short (by omega)]
      generalize hn : l.length = n at *
      go_enter Try.func54, Try.ntmps54
      go_wp2
      go_ret
      exact ⟨rfl, rfl⟩
    · have h2 : l.length ≤ 15 := by omega
      have hyes := hide (fun (hs : ∀ j, j < l.length → signOk (l.getD j 0) = true) => labelOk_yes (l := l) (by omega) h2 hs)
      have hno := hide (fun (j : Nat) (hj : j < l.length) (hs : signOk (l.getD j 0) = false) => labelOk_sign hj hs)
      generalize hok : labelOk l = ok at *
      clear hok
      generalize hn : l.length = n at *
      have HN := hide hn
      clear hn
      have hn1 : (1 : Int) ≤ n := by omega
      go_enter Try.func54, Try.ntmps54
      go_wp2
      go_loop [3] (fun i => ∃ k : Nat, k ≤ n ∧ i = .int .i64 k ∧ Hid (∀ j, j < k → signOk (l.getD j 0) = true)) (fun i => n - (intOf i).toNat)
      case atStart => exact ⟨0, Nat.zero_le _, rfl, hide (fun j hj => absurd hj (Nat.not_lt_zero _))⟩
      case round =>
        obtain ⟨k, hk, rfl, hall⟩ := hrel
        by_cases hlt : k < n
        · obtain ⟨b, off, rfl, hbl, hc⟩ := hL.here (k := k) (by rw [unhide HN]; exact hlt)
          have hone := hide (fun (hs : signOk (l.getD k 0) = true) => (show ∀ j, j < k + 1 → signOk (l.getD j 0) = true from fun j hj => by
            by_cases e : j = k
            · subst e; exact hs
            · exact unhide hall j (by omega)))
          have hnok := hide (fun (hs : signOk (l.getD k 0) = false) => unhide hno k hlt hs)
          generalize hx : l.getD k 0 = x at *
          rcases ssign_cases x with ⟨h1, h2⟩ | ⟨h1, h2⟩ | ⟨h1, h2, h3⟩ | ⟨h1, h2, h3, h4⟩ | ⟨h1, h2, rfl⟩ | ⟨h1, h2, h3⟩
          · have hs : signOk x = true := decide_eq_true (by omega)
            go_wp2
            exact ⟨⟨k + 1, by omega, by go_num, hide (unhide hone hs)⟩, by simp [intOf]; omega⟩
          · have hs : signOk x = false := decide_eq_false (by omega)
            have hq := unhide hnok hs
            subst hq
            have h8 : (x == 45) = false := by simp; omega
            have h5 : 48 ≤ x := by omega
            have h6 : ¬ x ≤ 57 := by omega
            have h7 : ¬ x ≤ 122 := by omega
            go_wp2
            go_ret
            exact ⟨rfl, rfl⟩
          · have hs : signOk x = true := decide_eq_true (by omega)
            have h5 : ¬ 97 ≤ x := by omega
            go_wp2
            exact ⟨⟨k + 1, by omega, by go_num, hide (unhide hone hs)⟩, by simp [intOf]; omega⟩
          · have hs : signOk x = false := decide_eq_false (by omega)
            have hq := unhide hnok hs
            subst hq
            have h8 : (x == 45) = false := by simp; omega
            have h5 : ¬ 97 ≤ x := by omega
            have h6 : ¬ x ≤ 57 := by omega
            go_wp2
            go_ret
            exact ⟨rfl, rfl⟩
          · have hs : signOk 45 = true := rfl
            go_wp2
            exact ⟨⟨k + 1, by omega, by go_num, hide (unhide hone hs)⟩, by simp [intOf]; omega⟩
          · have hs : signOk x = false := decide_eq_false (by omega)
            have hq := unhide hnok hs
            subst hq
            have h8 : (x == 45) = false := by simp; omega
            have h5 : ¬ 97 ≤ x := by omega
            have h6 : ¬ 48 ≤ x := by omega
            go_wp2
            go_ret
            exact ⟨rfl, rfl⟩
        · obtain rfl : k = n := by omega
          have hq := unhide hyes (unhide hall)
          subst hq
          go_wp2
          go_ret
          exact ⟨rfl, rfl⟩
end Go.Proofs.Ytnloenkjfjlmeaa
