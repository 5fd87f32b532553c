/-
  Contracts of the program's RrOk. Contracts of the program's DataGet.
-/
import Derived.Test.YtnloenkjfjlmeaaRrGetG22
import Derived.Test.YtnloenkjfjlmeaaRrGetG23
import Derived.Test.YtnloenkjfjlmeaaRrGetG21
import Derived.Test.YtnloenkjfjlmeaaRrGetG11
import Derived.Test.YtnloenkjfjlmeaaRrGetG18
namespace Go.Proofs.Ytnloenkjfjlmeaa
open Go.RowKit
set_option linter.unusedVariables false

theorem dataOk_A {nm to : List (List Int)} {tx nu : List Int} {tt ad : Int} : dataOk ⟨nm, 1, tt, ad, to, tx, nu⟩ = (decide (0 ≤ ad ∧ ad ≤ 4294967295) && decide (ad = ad ∧ to.length = 0 ∧ tx.length = 0 ∧ nu.length = 0)) := by
  rw [Bool.eq_iff_iff]
  simp [dataOk, show named 1 = false from rfl, show texted 1 = false from rfl]
theorem dataOk_N {nm to : List (List Int)} {tx nu : List Int} {ty tt ad : Int} (h : ty = 2 ∨ ty = 5 ∨ ty = 12) : dataOk ⟨nm, ty, tt, ad, to, tx, nu⟩ = (nameOk to && decide (ad = 0 ∧ to.length = to.length ∧ tx.length = 0 ∧ nu.length = 0)) := by
  have h1 : named ty = true := decide_eq_true (by omega)
  have h2 : texted ty = false := decide_eq_false (by omega)
  have h3 : ty ≠ 1 := by omega
  have h4 : ty ≠ 6 := by omega
  rw [Bool.eq_iff_iff]
  simp [dataOk, h1, h2, h3, h4]
  constructor
  · rintro ⟨a, b, c, d⟩; exact ⟨b, a, c, d⟩
  · rintro ⟨b, a, c, d⟩; exact ⟨a, b, c, d⟩
theorem dataOk_S {nm to : List (List Int)} {tx nu : List Int} {tt ad : Int} : dataOk ⟨nm, 6, tt, ad, to, tx, nu⟩ = ((nameOk to && numsOk nu) && decide (ad = 0 ∧ to.length = to.length ∧ tx.length = 0 ∧ nu.length = nu.length)) := by
  rw [Bool.eq_iff_iff]
  simp [dataOk, show named 6 = true from rfl, show texted 6 = false from rfl, numsOk]
  constructor
  · rintro ⟨a, b, c, d⟩; exact ⟨⟨b, d⟩, a, c⟩
  · rintro ⟨⟨b, d⟩, a, c⟩; exact ⟨a, b, c, d⟩
theorem dataOk_X {nm to : List (List Int)} {tx nu : List Int} {ty tt ad : Int} (h : ty = 16 ∨ ty = 49) : dataOk ⟨nm, ty, tt, ad, to, tx, nu⟩ = (decide (tx.length ≤ 40) && decide (ad = 0 ∧ to.length = 0 ∧ tx.length = tx.length ∧ nu.length = 0)) := by
  have h1 : named ty = false := decide_eq_false (by omega)
  have h2 : texted ty = true := decide_eq_true (by omega)
  have h3 : ty ≠ 1 := by omega
  have h4 : ty ≠ 6 := by omega
  rw [Bool.eq_iff_iff]
  simp [dataOk, h1, h2, h3, h4]
  constructor
  · rintro ⟨a, b, c, d⟩; exact ⟨c, a, b, d⟩
  · rintro ⟨c, a, b, d⟩; exact ⟨a, b, c, d⟩
theorem kindV_N {ty : Int} (h : ty = 2 ∨ ty = 5 ∨ ty = 12) : kindV ty = .iface 128 (.agg #[.slice none 0 0]) := by
  rcases h with rfl | rfl | rfl <;> rfl
theorem kindV_X {ty : Int} (h : ty = 16 ∨ ty = 49) : kindV ty = .iface 132 (.agg #[.slice none 0 0]) := by
  rcases h with rfl | rfl <;> rfl

set_option maxHeartbeats 1000000 in
set_option maxRecDepth 100000 in
theorem implRrOk_has {vn vt vx vi : Value} {r : Rec} {w : World} (h : HasR w vn vt vx vi r) :
    Calls Try.prog 77 #[.agg #[vn, .int .i64 r.type, .int .i64 r.ttl, .int .i64 r.addr, vt, vx, vi]] w fun e w' => e = .returned (.bool (rrOk r)) ∧ Below w.heap.size w w' := by
  obtain ⟨na, nc, rfl, _⟩ := h.name.form
  obtain ⟨ta, tc, rfl, _⟩ := h.to.form
  obtain ⟨xa, xc, rfl, _⟩ := h.text.form
  obtain ⟨ia, ic, rfl, _⟩ := h.nums.form
  have b0 := below_alloc (w := w) (.cells #[.slice na r.name.length nc, .int .i64 r.type, .int .i64 r.ttl, .int .i64 r.addr, .slice ta r.to.length tc, .slice xa r.text.length xc, .slice ia r.nums.length ic] 50)
  have K0 := hide (heap_alloc_new w (.cells #[.slice na r.name.length nc, .int .i64 r.type, .int .i64 r.ttl, .int .i64 r.addr, .slice ta r.to.length tc, .slice xa r.text.length xc, .slice ia r.nums.length ic] 50))
  have H0 := hide (h.below b0)
  cases hN : nameOk r.name with
  | false =>
    have e : rrOk r = false := by unfold rrOk; rw [hN]; rfl
    rw [e]
    have HN := hide hN
    clear hN h e
    go_enter Try.func77, Try.ntmps77
    go_wp2_with fail
    generalize w.alloc (.cells #[.slice na r.name.length nc, .int .i64 r.type, .int .i64 r.ttl, .int .i64 r.addr, .slice ta r.to.length tc, .slice xa r.text.length xc, .slice ia r.nums.length ic] 50) = W at *
    refine (implNameOk_has (unhide H0).name).mono ?_
    rw [unhide HN]
    rintro e w1 ⟨rfl, b1⟩
    go_wp2_with fail
    go_ret
    exact ⟨rfl, below_next b0 b1⟩
  | true =>
    cases hT : typeOk r.type with
    | false =>
      have e : rrOk r = false := by unfold rrOk; rw [hN, hT]; rfl
      rw [e]
      have HN := hide hN
      have HT := hide hT
      clear hN hT h e
      go_enter Try.func77, Try.ntmps77
      go_wp2_with fail
      generalize w.alloc (.cells #[.slice na r.name.length nc, .int .i64 r.type, .int .i64 r.ttl, .int .i64 r.addr, .slice ta r.to.length tc, .slice xa r.text.length xc, .slice ia r.nums.length ic] 50) = W at *
      refine (implNameOk_has (unhide H0).name).mono ?_
      rw [unhide HN]
      rintro e w1 ⟨rfl, b1⟩
      obtain ⟨d0, d1, d2, d3, d4, d5, d6⟩ := cells7 (block_kept b1 (unhide K0))
      go_wp2_with fail
      refine (implTypeOk_any r.type _).mono ?_
      rw [unhide HT]
      rintro e w2 ⟨rfl, rfl⟩
      go_wp2_with fail
      go_ret
      exact ⟨rfl, below_next b0 b1⟩
    | true =>
      by_cases ht : 0 ≤ r.ttl ∧ r.ttl ≤ 100000
      · have e : rrOk r = dataOk r := by unfold rrOk; rw [hN, hT, decide_eq_true ht]; rfl
        rw [e]
        clear b0 K0 H0 e
        obtain ⟨nm, ty, tt, ad, to, tx, nu⟩ := r
        simp only at *
        rcases type_cases ty with rfl | rfl | rfl | rfl | rfl | rfl | rfl | h0
        · rw [dataOk_A]
          cases hD : decide (0 ≤ ad ∧ ad ≤ 4294967295) with
          | true => rw [Bool.true_and]; exact rrOkData_A_true h hN ht.1 ht.2 hD
          | false => rw [Bool.false_and]; exact rrOkData_A_false h hN ht.1 ht.2 hD
        · rw [dataOk_N (by omega)]
          cases hD : nameOk to with
          | true => rw [Bool.true_and]; exact rrOkData_N_true (kindV_N (by omega)) hT h hN ht.1 ht.2 hD
          | false => rw [Bool.false_and]; exact rrOkData_N_false (kindV_N (by omega)) hT h hN ht.1 ht.2 hD
        · rw [dataOk_N (by omega)]
          cases hD : nameOk to with
          | true => rw [Bool.true_and]; exact rrOkData_N_true (kindV_N (by omega)) hT h hN ht.1 ht.2 hD
          | false => rw [Bool.false_and]; exact rrOkData_N_false (kindV_N (by omega)) hT h hN ht.1 ht.2 hD
        · rw [dataOk_S]
          cases hD : (nameOk to && numsOk nu) with
          | true => rw [Bool.true_and]; exact rrOkData_S_true h hN ht.1 ht.2 hD
          | false => rw [Bool.false_and]; exact rrOkData_S_false h hN ht.1 ht.2 hD
        · rw [dataOk_N (by omega)]
          cases hD : nameOk to with
          | true => rw [Bool.true_and]; exact rrOkData_N_true (kindV_N (by omega)) hT h hN ht.1 ht.2 hD
          | false => rw [Bool.false_and]; exact rrOkData_N_false (kindV_N (by omega)) hT h hN ht.1 ht.2 hD
        · rw [dataOk_X (by omega)]
          cases hD : decide (tx.length ≤ 40) with
          | true => rw [Bool.true_and]; exact rrOkData_X_true (kindV_X (by omega)) hT h hN ht.1 ht.2 hD
          | false => rw [Bool.false_and]; exact rrOkData_X_false (kindV_X (by omega)) hT h hN ht.1 ht.2 hD
        · rw [dataOk_X (by omega)]
          cases hD : decide (tx.length ≤ 40) with
          | true => rw [Bool.true_and]; exact rrOkData_X_true (kindV_X (by omega)) hT h hN ht.1 ht.2 hD
          | false => rw [Bool.false_and]; exact rrOkData_X_false (kindV_X (by omega)) hT h hN ht.1 ht.2 hD
        · rw [hT] at h0; cases h0
      · have e : rrOk r = false := by unfold rrOk; rw [hN, hT, decide_eq_false ht]; rfl
        rw [e]
        have HN := hide hN
        have HT := hide hT
        have hno : r.ttl < 0 ∨ 100000 < r.ttl := by omega
        have HNO := hide hno
        clear hN hT h e hno ht
        go_enter Try.func77, Try.ntmps77
        go_wp2_with fail
        generalize w.alloc (.cells #[.slice na r.name.length nc, .int .i64 r.type, .int .i64 r.ttl, .int .i64 r.addr, .slice ta r.to.length tc, .slice xa r.text.length xc, .slice ia r.nums.length ic] 50) = W at *
        refine (implNameOk_has (unhide H0).name).mono ?_
        rw [unhide HN]
        rintro e w1 ⟨rfl, b1⟩
        obtain ⟨d0, d1, d2, d3, d4, d5, d6⟩ := cells7 (block_kept b1 (unhide K0))
        go_wp2_with fail
        refine (implTypeOk_any r.type _).mono ?_
        rw [unhide HT]
        rintro e w2 ⟨rfl, rfl⟩
        go_wp2_with fail
        refine (upTo_no _ (unhide HNO)).mono ?_
        rintro e w2 ⟨rfl, rfl⟩
        go_wp2_with fail
        go_ret
        exact ⟨rfl, below_next b0 b1⟩
end Go.Proofs.Ytnloenkjfjlmeaa

namespace Go.Proofs.Ytnloenkjfjlmeaa
open Go.RowKit
set_option linter.unusedVariables false

set_option maxHeartbeats 1000000 in
set_option maxRecDepth 100000 in
theorem implDataGet_A {B : Nat} {v : Value} {l : List Int} (p n : Int) {w : World} (h : Own B 5 w v l) (hl : l.length ≤ 512) (hp0 : 0 ≤ p) (hp : p ≤ 9223372036854775807) (hn0 : 0 ≤ n) (hn1 : n ≤ 512) (hb : Bytes8 l) :
    Calls Try.prog 41 #[.int .i64 1, v, .int .i64 p, .int .i64 n] w (GivesR w (dataGet 1 l p n).1 (dataGet 1 l p n).2) := by
  have hty : typeOk 1 = true := rfl
  have hkv : kindV 1 = .iface 126 (.agg #[.int .i64 0]) := rfl
  rw [dataGet_in hty hl hp0 hn0 hn1]
  have he := get32_end l p
  have hkg : kindGet 1 l p = (⟨[], 1, 0, (get32 l p).1, [], [], []⟩, (get32 l p).2) := by unfold kindGet; rw [if_pos rfl]
  rw [hkg]
  skip
  have b0 := below_alloc (w := w) (.cells #[.slice none 0 0, .int .i64 0, .int .i64 0, .int .i64 0, .slice none 0 0, .slice none 0 0, .slice none 0 0] 50)
  have K0 := hide (heap_alloc_new w (.cells #[.slice none 0 0, .int .i64 0, .int .i64 0, .int .i64 0, .slice none 0 0, .slice none 0 0, .slice none 0 0] 50))
  have HG := hide (addrGet_own 0 p (h.below b0) hl hp hb)
  have HT := implTypeOk_any 1 (w.alloc (.cells #[.slice none 0 0, .int .i64 0, .int .i64 0, .int .i64 0, .slice none 0 0, .slice none 0 0, .slice none 0 0] 50))
  rw [hty] at HT
  have HT := hide HT
  have HK := kindOf_any 1 (w.alloc (.cells #[.slice none 0 0, .int .i64 0, .int .i64 0, .int .i64 0, .slice none 0 0, .slice none 0 0, .slice none 0 0] 50))
  rw [hkv] at HK
  have HK := hide HK
  obtain ⟨a, cap, rfl, _⟩ := h.lies
  dsimp only at he ⊢
  clear h hkg hkv hty hb
  generalize (get32 l p).1 = g1 at *
  generalize (get32 l p).2 = g2 at *
  generalize hRes : (if g2 < 0 ∨ g2 - p ≠ n ∨ rrOk ⟨[], 1, 0, g1, [], [], []⟩ = false then (emptyR 0, false) else (⟨[], 1, 0, g1, [], [], []⟩, true)) = Res
  have HRES := hide hRes
  clear hRes
  have hll : ¬ (512 : Int) < (l.length : Int) := by omega
  have hp0' : ¬ p < 0 := by omega
  generalize hLN : l.length = L at *
  clear hLN
  have zW := b0.size
  have zK := block_lt (unhide K0)
  go_enter Try.func41, Try.ntmps41
  go_wp2_with fail
  generalize w.alloc (.cells #[.slice none 0 0, .int .i64 0, .int .i64 0, .int .i64 0, .slice none 0 0, .slice none 0 0, .slice none 0 0] 50) = W at *
  refine (unhide HT).mono ?_
  rintro e w1 ⟨rfl, rfl⟩
  go_wp2_with fail
  refine (upTo_yes _ hn0 hn1).mono ?_
  rintro e w1 ⟨rfl, rfl⟩
  go_wp2_with fail
  refine (unhide HK).mono ?_
  rintro e w1 ⟨rfl, rfl⟩
  clear HT HK
  go_wp2_with fail
  refine (unhide HG).mono ?_
  rintro e w1 ⟨rfl, b1⟩
  
  have K1 := hide (block_kept b1 (unhide K0))
  have bb1 := below_next b0 b1
  have z1 := b1.size
  have HR := hide (show OwnR W.heap.size w1.heap.size 22 5 3 w1 (.slice none 0 0) (.slice none 0 0) (.slice none 0 0) (.slice none 0 0) ⟨[], 1, 0, g1, [], [], []⟩ from ⟨W.heap.size, W.heap.size, W.heap.size, Nat.le_refl _, Nat.le_refl _, Nat.le_refl _, b1.size, ownN_nil _ _ _ _ _, ownN_nil _ _ _ _ _, ownB_nil _ _ _ _, ownBI_nil _ _ _ _⟩)
  clear K0 HG b0 
  by_cases hneg : g2 < 0
  · have hRes := unhide HRES
    rw [if_pos (.inl hneg)] at hRes
    subst hRes
    obtain ⟨f0, f1, f2, f3, f4, f5, f6⟩ := cells7 (unhide K1)
    obtain ⟨q0, q1, q2, q3, q4, q5, q6⟩ := frozen7 (unhide K1)
    go_wp2_with fail
    obtain ⟨R9, u9⟩ := set7 (c0 := .slice none 0 0) (c1 := .int .i64 0) (c2 := .int .i64 0) (c3 := .int .i64 0) (c4 := .slice none 0 0) (c5 := .slice none 0 0) (c6 := .slice none 0 0) (unhide K1)
    refine bodyPost_ret (results_cell_tmp_row rfl _ _ w.heap.size 50 #[.slice none 0 0, .int .i64 0, .int .i64 0, .int .i64 0, .slice none 0 0, .slice none 0 0, .slice none 0 0] (0, 0) _ rfl R9 Try.underlying50 rfl (by kernel_rfl)) rfl ?_
    have z9 := u9.size
    exact ⟨_, _, _, _, rfl, ownR_nil (by omega) _ _ _ _ 0, u9.below bb1 (by omega)⟩
  have hsub : g2 - p ≤ 512 ∧ -9223372036854775808 ≤ g2 - p := by omega
  by_cases hne : g2 - p ≠ n
  · have hRes := unhide HRES
    rw [if_pos (.inr (.inl hne))] at hRes
    subst hRes
    have hne' : (g2 - p != n) = true := by rw [bne_iff_ne]; exact hne
    obtain ⟨f0, f1, f2, f3, f4, f5, f6⟩ := cells7 (unhide K1)
    obtain ⟨q0, q1, q2, q3, q4, q5, q6⟩ := frozen7 (unhide K1)
    go_wp2_with fail
    obtain ⟨R9, u9⟩ := set7 (c0 := .slice none 0 0) (c1 := .int .i64 0) (c2 := .int .i64 0) (c3 := .int .i64 0) (c4 := .slice none 0 0) (c5 := .slice none 0 0) (c6 := .slice none 0 0) (unhide K1)
    refine bodyPost_ret (results_cell_tmp_row rfl _ _ w.heap.size 50 #[.slice none 0 0, .int .i64 0, .int .i64 0, .int .i64 0, .slice none 0 0, .slice none 0 0, .slice none 0 0] (0, 0) _ rfl R9 Try.underlying50 rfl (by kernel_rfl)) rfl ?_
    have z9 := u9.size
    exact ⟨_, _, _, _, rfl, ownR_nil (by omega) _ _ _ _ 0, u9.below bb1 (by omega)⟩
  replace hne : g2 - p = n := by omega
  have hne' : (g2 - p != n) = false := by rw [bne_eq_false_iff_eq]; exact hne
  go_wp2_with fail
  refine (recordOf_A (na := none) (nc := 0) (nm := []) (tt := 0) (xa := none) (xc := 0) (ia := none) (ic := 0) (tx := []) (nu := []) (ta := none) (tc := 0) (to := []) (ad := g1)).mono ?_
  rintro e w2 ⟨rfl, b2⟩
  have bb2 := below_next bb1 b2
  have K2 := hide (block_kept b2 (unhide K1))
  have HR2 := hide ((unhide HR).below b2)
  have z2 := b2.size
  have b3 := below_alloc (w := w2) (.cells #[.slice none 0 0, .int .i64 1, .int .i64 0, .int .i64 g1, .slice none 0 0, .slice none 0 0, .slice none 0 0] 50)
  have V3 := hide (heap_alloc_new w2 (.cells #[.slice none 0 0, .int .i64 1, .int .i64 0, .int .i64 g1, .slice none 0 0, .slice none 0 0, .slice none 0 0] 50))
  have K3 := hide (block_kept b3 (unhide K2))
  have HR3 := hide ((unhide HR2).below b3)
  have bb3 := below_next bb2 b3
  have z3 := b3.size
  have zv := block_lt (unhide V3)
  clear K1 HR bb1 b2 K2 HR2 bb2 b3
  obtain ⟨d0, d1, d2, d3, d4, d5, d6⟩ := cells7 (unhide V3)
  go_wp2_with fail
  clear d0 d1 d2 d3 d4 d5 d6
  generalize w2.alloc (.cells #[.slice none 0 0, .int .i64 1, .int .i64 0, .int .i64 g1, .slice none 0 0, .slice none 0 0, .slice none 0 0] 50) = w3 at *
  have HO := implRrOk_has (unhide HR3).hasR
  dsimp only at HO
  cases hok : rrOk ⟨[], 1, 0, g1, [], [], []⟩ with
  | false =>
    rw [hok] at HO
    have hRes := unhide HRES
    rw [if_pos (.inr (.inr hok))] at hRes
    subst hRes
    clear HRES
    refine HO.mono ?_
    rintro e w4 ⟨rfl, b4⟩
    have K4 := hide (block_kept b4 (unhide K3))
    have bb4 := below_next bb3 b4
    have z4 := b4.size
    clear HO hok K3 bb3 b4
    obtain ⟨f0, f1, f2, f3, f4, f5, f6⟩ := cells7 (unhide K4)
    obtain ⟨q0, q1, q2, q3, q4, q5, q6⟩ := frozen7 (unhide K4)
    go_wp2_with fail
    obtain ⟨R9, u9⟩ := set7 (c0 := .slice none 0 0) (c1 := .int .i64 0) (c2 := .int .i64 0) (c3 := .int .i64 0) (c4 := .slice none 0 0) (c5 := .slice none 0 0) (c6 := .slice none 0 0) (unhide K4)
    refine bodyPost_ret (results_cell_tmp_row rfl _ _ w.heap.size 50 #[.slice none 0 0, .int .i64 0, .int .i64 0, .int .i64 0, .slice none 0 0, .slice none 0 0, .slice none 0 0] (0, 0) _ rfl R9 Try.underlying50 rfl (by kernel_rfl)) rfl ?_
    have z9 := u9.size
    exact ⟨_, _, _, _, rfl, ownR_nil (by omega) _ _ _ _ 0, u9.below bb4 (by omega)⟩
  | true =>
    rw [hok] at HO
    have hRes := unhide HRES
    rw [if_neg (by rw [hok]; simp; omega)] at hRes
    subst hRes
    clear HRES
    refine HO.mono ?_
    rintro e w4 ⟨rfl, b4⟩
    have K4 := hide (block_kept b4 (unhide K3))
    have V4 := hide (block_kept b4 (unhide V3))
    have HR4 := hide ((unhide HR3).below b4)
    have bb4 := below_next bb3 b4
    have z4 := b4.size
    clear HO hok K3 V3 bb3 b4 HR3
    obtain ⟨d0, d1, d2, d3, d4, d5, d6⟩ := cells7 (unhide V4)
    obtain ⟨f0, f1, f2, f3, f4, f5, f6⟩ := cells7 (unhide K4)
    obtain ⟨q0, q1, q2, q3, q4, q5, q6⟩ := frozen7 (unhide K4)
    go_wp2_with fail
    obtain ⟨R9, u9⟩ := set7 (c0 := .slice none 0 0) (c1 := .int .i64 1) (c2 := .int .i64 0) (c3 := .int .i64 g1) (c4 := .slice none 0 0) (c5 := .slice none 0 0) (c6 := .slice none 0 0) (unhide K4)
    refine bodyPost_ret (results_cell_tmp_row rfl _ _ w.heap.size 50 #[.slice none 0 0, .int .i64 1, .int .i64 0, .int .i64 g1, .slice none 0 0, .slice none 0 0, .slice none 0 0] (0, 0) _ rfl R9 Try.underlying50 rfl (by kernel_rfl)) rfl ?_
    have z9 := u9.size
    exact ⟨_, _, _, _, rfl, ((unhide HR4).outside u9 (by omega)).wide (by omega) (by omega), u9.below bb4 (by omega)⟩

set_option maxHeartbeats 1000000 in
set_option maxRecDepth 100000 in
theorem implDataGet_N {B : Nat} {v : Value} {l : List Int} {t : Int} (p n : Int) {w : World} (ht : t = 2 ∨ t = 5 ∨ t = 12) (h : Own B 5 w v l) (hl : l.length ≤ 512) (hp0 : 0 ≤ p) (hp : p ≤ 9223372036854775807) (hn0 : 0 ≤ n) (hn1 : n ≤ 512) (hb : Bytes8 l) :
    Calls Try.prog 41 #[.int .i64 t, v, .int .i64 p, .int .i64 n] w (GivesR w (dataGet t l p n).1 (dataGet t l p n).2) := by
  have hty : typeOk t = true := by rcases ht with rfl | rfl | rfl <;> rfl
  have hkv : kindV t = .iface 128 (.agg #[.slice none 0 0]) := kindV_N ht
  rw [dataGet_in hty hl hp0 hn0 hn1]
  have he := nameGet_end l p
  have hkg : kindGet t l p = (⟨[], t, 0, 0, (nameGet l p).1, [], []⟩, (nameGet l p).2) := by unfold kindGet; rw [if_neg (by omega), if_neg (by omega), if_pos (by rcases ht with rfl | rfl | rfl <;> rfl)]
  rw [hkg]
  skip
  have b0 := below_alloc (w := w) (.cells #[.slice none 0 0, .int .i64 0, .int .i64 0, .int .i64 0, .slice none 0 0, .slice none 0 0, .slice none 0 0] 50)
  have K0 := hide (heap_alloc_new w (.cells #[.slice none 0 0, .int .i64 0, .int .i64 0, .int .i64 0, .slice none 0 0, .slice none 0 0, .slice none 0 0] 50))
  have HG := hide (nameGetM_own (x := .slice none 0 0) p (h.below b0) hl hp hb)
  have HT := implTypeOk_any t (w.alloc (.cells #[.slice none 0 0, .int .i64 0, .int .i64 0, .int .i64 0, .slice none 0 0, .slice none 0 0, .slice none 0 0] 50))
  rw [hty] at HT
  have HT := hide HT
  have HK := kindOf_any t (w.alloc (.cells #[.slice none 0 0, .int .i64 0, .int .i64 0, .int .i64 0, .slice none 0 0, .slice none 0 0, .slice none 0 0] 50))
  rw [hkv] at HK
  have HK := hide HK
  obtain ⟨a, cap, rfl, _⟩ := h.lies
  dsimp only at he ⊢
  clear h hkg hkv hty hb
  generalize (nameGet l p).1 = g1 at *
  generalize (nameGet l p).2 = g2 at *
  generalize hRes : (if g2 < 0 ∨ g2 - p ≠ n ∨ rrOk ⟨[], t, 0, 0, g1, [], []⟩ = false then (emptyR 0, false) else (⟨[], t, 0, 0, g1, [], []⟩, true)) = Res
  have HRES := hide hRes
  clear hRes
  have hll : ¬ (512 : Int) < (l.length : Int) := by omega
  have hp0' : ¬ p < 0 := by omega
  generalize hLN : l.length = L at *
  clear hLN
  have zW := b0.size
  have zK := block_lt (unhide K0)
  go_enter Try.func41, Try.ntmps41
  go_wp2_with fail
  generalize w.alloc (.cells #[.slice none 0 0, .int .i64 0, .int .i64 0, .int .i64 0, .slice none 0 0, .slice none 0 0, .slice none 0 0] 50) = W at *
  refine (unhide HT).mono ?_
  rintro e w1 ⟨rfl, rfl⟩
  go_wp2_with fail
  refine (upTo_yes _ hn0 hn1).mono ?_
  rintro e w1 ⟨rfl, rfl⟩
  go_wp2_with fail
  refine (unhide HK).mono ?_
  rintro e w1 ⟨rfl, rfl⟩
  clear HT HK
  go_wp2_with fail
  refine (unhide HG).mono ?_
  rintro e w1 ⟨v1, rfl, o1, b1⟩
  obtain ⟨oa, oc, rfl, _⟩ := o1.hasL.form
  have K1 := hide (block_kept b1 (unhide K0))
  have bb1 := below_next b0 b1
  have z1 := b1.size
  have HR := hide (show OwnR W.heap.size w1.heap.size 22 5 3 w1 (.slice none 0 0) (.slice oa g1.length oc) (.slice none 0 0) (.slice none 0 0) ⟨[], t, 0, 0, g1, [], []⟩ from ⟨W.heap.size, w1.heap.size, w1.heap.size, Nat.le_refl _, b1.size, Nat.le_refl _, Nat.le_refl _, ownN_nil _ _ _ _ _, o1.here, ownB_nil _ _ _ _, ownBI_nil _ _ _ _⟩)
  clear K0 HG b0 o1
  by_cases hneg : g2 < 0
  · have hRes := unhide HRES
    rw [if_pos (.inl hneg)] at hRes
    subst hRes
    obtain ⟨f0, f1, f2, f3, f4, f5, f6⟩ := cells7 (unhide K1)
    obtain ⟨q0, q1, q2, q3, q4, q5, q6⟩ := frozen7 (unhide K1)
    go_wp2_with fail
    obtain ⟨R9, u9⟩ := set7 (c0 := .slice none 0 0) (c1 := .int .i64 0) (c2 := .int .i64 0) (c3 := .int .i64 0) (c4 := .slice none 0 0) (c5 := .slice none 0 0) (c6 := .slice none 0 0) (unhide K1)
    refine bodyPost_ret (results_cell_tmp_row rfl _ _ w.heap.size 50 #[.slice none 0 0, .int .i64 0, .int .i64 0, .int .i64 0, .slice none 0 0, .slice none 0 0, .slice none 0 0] (0, 0) _ rfl R9 Try.underlying50 rfl (by kernel_rfl)) rfl ?_
    have z9 := u9.size
    exact ⟨_, _, _, _, rfl, ownR_nil (by omega) _ _ _ _ 0, u9.below bb1 (by omega)⟩
  have hsub : g2 - p ≤ 512 ∧ -9223372036854775808 ≤ g2 - p := by omega
  by_cases hne : g2 - p ≠ n
  · have hRes := unhide HRES
    rw [if_pos (.inr (.inl hne))] at hRes
    subst hRes
    have hne' : (g2 - p != n) = true := by rw [bne_iff_ne]; exact hne
    obtain ⟨f0, f1, f2, f3, f4, f5, f6⟩ := cells7 (unhide K1)
    obtain ⟨q0, q1, q2, q3, q4, q5, q6⟩ := frozen7 (unhide K1)
    go_wp2_with fail
    obtain ⟨R9, u9⟩ := set7 (c0 := .slice none 0 0) (c1 := .int .i64 0) (c2 := .int .i64 0) (c3 := .int .i64 0) (c4 := .slice none 0 0) (c5 := .slice none 0 0) (c6 := .slice none 0 0) (unhide K1)
    refine bodyPost_ret (results_cell_tmp_row rfl _ _ w.heap.size 50 #[.slice none 0 0, .int .i64 0, .int .i64 0, .int .i64 0, .slice none 0 0, .slice none 0 0, .slice none 0 0] (0, 0) _ rfl R9 Try.underlying50 rfl (by kernel_rfl)) rfl ?_
    have z9 := u9.size
    exact ⟨_, _, _, _, rfl, ownR_nil (by omega) _ _ _ _ 0, u9.below bb1 (by omega)⟩
  replace hne : g2 - p = n := by omega
  have hne' : (g2 - p != n) = false := by rw [bne_eq_false_iff_eq]; exact hne
  go_wp2_with fail
  refine (recordOf_N (na := none) (nc := 0) (nm := []) (tt := 0) (xa := none) (xc := 0) (ia := none) (ic := 0) (tx := []) (nu := []) (ta := oa) (tc := oc) (to := g1) (ad := 0) (ty := t)).mono ?_
  rintro e w2 ⟨rfl, b2⟩
  have bb2 := below_next bb1 b2
  have K2 := hide (block_kept b2 (unhide K1))
  have HR2 := hide ((unhide HR).below b2)
  have z2 := b2.size
  have b3 := below_alloc (w := w2) (.cells #[.slice none 0 0, .int .i64 t, .int .i64 0, .int .i64 0, .slice oa g1.length oc, .slice none 0 0, .slice none 0 0] 50)
  have V3 := hide (heap_alloc_new w2 (.cells #[.slice none 0 0, .int .i64 t, .int .i64 0, .int .i64 0, .slice oa g1.length oc, .slice none 0 0, .slice none 0 0] 50))
  have K3 := hide (block_kept b3 (unhide K2))
  have HR3 := hide ((unhide HR2).below b3)
  have bb3 := below_next bb2 b3
  have z3 := b3.size
  have zv := block_lt (unhide V3)
  clear K1 HR bb1 b2 K2 HR2 bb2 b3
  obtain ⟨d0, d1, d2, d3, d4, d5, d6⟩ := cells7 (unhide V3)
  go_wp2_with fail
  clear d0 d1 d2 d3 d4 d5 d6
  generalize w2.alloc (.cells #[.slice none 0 0, .int .i64 t, .int .i64 0, .int .i64 0, .slice oa g1.length oc, .slice none 0 0, .slice none 0 0] 50) = w3 at *
  have HO := implRrOk_has (unhide HR3).hasR
  dsimp only at HO
  cases hok : rrOk ⟨[], t, 0, 0, g1, [], []⟩ with
  | false =>
    rw [hok] at HO
    have hRes := unhide HRES
    rw [if_pos (.inr (.inr hok))] at hRes
    subst hRes
    clear HRES
    refine HO.mono ?_
    rintro e w4 ⟨rfl, b4⟩
    have K4 := hide (block_kept b4 (unhide K3))
    have bb4 := below_next bb3 b4
    have z4 := b4.size
    clear HO hok K3 bb3 b4
    obtain ⟨f0, f1, f2, f3, f4, f5, f6⟩ := cells7 (unhide K4)
    obtain ⟨q0, q1, q2, q3, q4, q5, q6⟩ := frozen7 (unhide K4)
    go_wp2_with fail
    obtain ⟨R9, u9⟩ := set7 (c0 := .slice none 0 0) (c1 := .int .i64 0) (c2 := .int .i64 0) (c3 := .int .i64 0) (c4 := .slice none 0 0) (c5 := .slice none 0 0) (c6 := .slice none 0 0) (unhide K4)
    refine bodyPost_ret (results_cell_tmp_row rfl _ _ w.heap.size 50 #[.slice none 0 0, .int .i64 0, .int .i64 0, .int .i64 0, .slice none 0 0, .slice none 0 0, .slice none 0 0] (0, 0) _ rfl R9 Try.underlying50 rfl (by kernel_rfl)) rfl ?_
    have z9 := u9.size
    exact ⟨_, _, _, _, rfl, ownR_nil (by omega) _ _ _ _ 0, u9.below bb4 (by omega)⟩
  | true =>
    rw [hok] at HO
    have hRes := unhide HRES
    rw [if_neg (by rw [hok]; simp; omega)] at hRes
    subst hRes
    clear HRES
    refine HO.mono ?_
    rintro e w4 ⟨rfl, b4⟩
    have K4 := hide (block_kept b4 (unhide K3))
    have V4 := hide (block_kept b4 (unhide V3))
    have HR4 := hide ((unhide HR3).below b4)
    have bb4 := below_next bb3 b4
    have z4 := b4.size
    clear HO hok K3 V3 bb3 b4 HR3
    obtain ⟨d0, d1, d2, d3, d4, d5, d6⟩ := cells7 (unhide V4)
    obtain ⟨f0, f1, f2, f3, f4, f5, f6⟩ := cells7 (unhide K4)
    obtain ⟨q0, q1, q2, q3, q4, q5, q6⟩ := frozen7 (unhide K4)
    go_wp2_with fail
    obtain ⟨R9, u9⟩ := set7 (c0 := .slice none 0 0) (c1 := .int .i64 t) (c2 := .int .i64 0) (c3 := .int .i64 0) (c4 := .slice oa g1.length oc) (c5 := .slice none 0 0) (c6 := .slice none 0 0) (unhide K4)
    refine bodyPost_ret (results_cell_tmp_row rfl _ _ w.heap.size 50 #[.slice none 0 0, .int .i64 t, .int .i64 0, .int .i64 0, .slice oa g1.length oc, .slice none 0 0, .slice none 0 0] (0, 0) _ rfl R9 Try.underlying50 rfl (by kernel_rfl)) rfl ?_
    have z9 := u9.size
    exact ⟨_, _, _, _, rfl, ((unhide HR4).outside u9 (by omega)).wide (by omega) (by omega), u9.below bb4 (by omega)⟩

set_option maxHeartbeats 1000000 in
set_option maxRecDepth 100000 in
theorem implDataGet_S {B : Nat} {v : Value} {l : List Int} (p n : Int) {w : World} (h : Own B 5 w v l) (hl : l.length ≤ 512) (hp0 : 0 ≤ p) (hp : p ≤ 9223372036854775807) (hn0 : 0 ≤ n) (hn1 : n ≤ 512) (hb : Bytes8 l) :
    Calls Try.prog 41 #[.int .i64 6, v, .int .i64 p, .int .i64 n] w (GivesR w (dataGet 6 l p n).1 (dataGet 6 l p n).2) := by
  have hty : typeOk 6 = true := rfl
  have hkv : kindV 6 = .iface 130 (.agg #[.slice none 0 0, .slice none 0 0]) := rfl
  rw [dataGet_in hty hl hp0 hn0 hn1]
  have he := kindGet_end 6 l p
  have hkg : kindGet 6 l p = (⟨[], 6, 0, 0, (nameGet l p).1, [], [(get32 l (nameGet l p).2).1, (get32 l (get32 l (nameGet l p).2).2).1]⟩, (get32 l (get32 l (nameGet l p).2).2).2) := by unfold kindGet; rw [if_neg (by omega), if_pos rfl]
  rw [hkg]
  rw [hkg] at he
  have b0 := below_alloc (w := w) (.cells #[.slice none 0 0, .int .i64 0, .int .i64 0, .int .i64 0, .slice none 0 0, .slice none 0 0, .slice none 0 0] 50)
  have K0 := hide (heap_alloc_new w (.cells #[.slice none 0 0, .int .i64 0, .int .i64 0, .int .i64 0, .slice none 0 0, .slice none 0 0, .slice none 0 0] 50))
  have HG := hide (soaGet_own p (h.below b0) hl hp hb)
  have HT := implTypeOk_any 6 (w.alloc (.cells #[.slice none 0 0, .int .i64 0, .int .i64 0, .int .i64 0, .slice none 0 0, .slice none 0 0, .slice none 0 0] 50))
  rw [hty] at HT
  have HT := hide HT
  have HK := kindOf_any 6 (w.alloc (.cells #[.slice none 0 0, .int .i64 0, .int .i64 0, .int .i64 0, .slice none 0 0, .slice none 0 0, .slice none 0 0] 50))
  rw [hkv] at HK
  have HK := hide HK
  obtain ⟨a, cap, rfl, _⟩ := h.lies
  dsimp only at he ⊢
  clear h hkg hkv hty hb
  generalize (get32 l (get32 l (nameGet l p).2).2).1 = y1 at *
  generalize (get32 l (get32 l (nameGet l p).2).2).2 = g2 at *
  generalize (get32 l (nameGet l p).2).1 = x1 at *
  generalize (nameGet l p).1 = g1 at *
  generalize hRes : (if g2 < 0 ∨ g2 - p ≠ n ∨ rrOk ⟨[], 6, 0, 0, g1, [], [x1, y1]⟩ = false then (emptyR 0, false) else (⟨[], 6, 0, 0, g1, [], [x1, y1]⟩, true)) = Res
  have HRES := hide hRes
  clear hRes
  have hll : ¬ (512 : Int) < (l.length : Int) := by omega
  have hp0' : ¬ p < 0 := by omega
  generalize hLN : l.length = L at *
  clear hLN
  have zW := b0.size
  have zK := block_lt (unhide K0)
  go_enter Try.func41, Try.ntmps41
  go_wp2_with fail
  generalize w.alloc (.cells #[.slice none 0 0, .int .i64 0, .int .i64 0, .int .i64 0, .slice none 0 0, .slice none 0 0, .slice none 0 0] 50) = W at *
  refine (unhide HT).mono ?_
  rintro e w1 ⟨rfl, rfl⟩
  go_wp2_with fail
  refine (upTo_yes _ hn0 hn1).mono ?_
  rintro e w1 ⟨rfl, rfl⟩
  go_wp2_with fail
  refine (unhide HK).mono ?_
  rintro e w1 ⟨rfl, rfl⟩
  clear HT HK
  go_wp2_with fail
  refine (unhide HG).mono ?_
  rintro e w1 ⟨v1, u1, s, rfl, hs0, hs1, o1, i1, b1⟩
  obtain ⟨oa, oc, rfl, _⟩ := o1.hasL.form
  obtain ⟨ia, ic, rfl, _⟩ := i1.has.form
  have K1 := hide (block_kept b1 (unhide K0))
  have bb1 := below_next b0 b1
  have z1 := b1.size
  have HR := hide (show OwnR W.heap.size w1.heap.size 22 5 3 w1 (.slice none 0 0) (.slice oa g1.length oc) (.slice none 0 0) (.slice ia 2 ic) ⟨[], 6, 0, 0, g1, [], [x1, y1]⟩ from ⟨W.heap.size, s, s, Nat.le_refl _, hs0, Nat.le_refl _, hs1, ownN_nil _ _ _ _ _, o1, ownB_nil _ _ _ _, i1⟩)
  clear K0 HG b0 o1 i1
  by_cases hneg : g2 < 0
  · have hRes := unhide HRES
    rw [if_pos (.inl hneg)] at hRes
    subst hRes
    obtain ⟨f0, f1, f2, f3, f4, f5, f6⟩ := cells7 (unhide K1)
    obtain ⟨q0, q1, q2, q3, q4, q5, q6⟩ := frozen7 (unhide K1)
    go_wp2_with fail
    obtain ⟨R9, u9⟩ := set7 (c0 := .slice none 0 0) (c1 := .int .i64 0) (c2 := .int .i64 0) (c3 := .int .i64 0) (c4 := .slice none 0 0) (c5 := .slice none 0 0) (c6 := .slice none 0 0) (unhide K1)
    refine bodyPost_ret (results_cell_tmp_row rfl _ _ w.heap.size 50 #[.slice none 0 0, .int .i64 0, .int .i64 0, .int .i64 0, .slice none 0 0, .slice none 0 0, .slice none 0 0] (0, 0) _ rfl R9 Try.underlying50 rfl (by kernel_rfl)) rfl ?_
    have z9 := u9.size
    exact ⟨_, _, _, _, rfl, ownR_nil (by omega) _ _ _ _ 0, u9.below bb1 (by omega)⟩
  have hsub : g2 - p ≤ 512 ∧ -9223372036854775808 ≤ g2 - p := by omega
  by_cases hne : g2 - p ≠ n
  · have hRes := unhide HRES
    rw [if_pos (.inr (.inl hne))] at hRes
    subst hRes
    have hne' : (g2 - p != n) = true := by rw [bne_iff_ne]; exact hne
    obtain ⟨f0, f1, f2, f3, f4, f5, f6⟩ := cells7 (unhide K1)
    obtain ⟨q0, q1, q2, q3, q4, q5, q6⟩ := frozen7 (unhide K1)
    go_wp2_with fail
    obtain ⟨R9, u9⟩ := set7 (c0 := .slice none 0 0) (c1 := .int .i64 0) (c2 := .int .i64 0) (c3 := .int .i64 0) (c4 := .slice none 0 0) (c5 := .slice none 0 0) (c6 := .slice none 0 0) (unhide K1)
    refine bodyPost_ret (results_cell_tmp_row rfl _ _ w.heap.size 50 #[.slice none 0 0, .int .i64 0, .int .i64 0, .int .i64 0, .slice none 0 0, .slice none 0 0, .slice none 0 0] (0, 0) _ rfl R9 Try.underlying50 rfl (by kernel_rfl)) rfl ?_
    have z9 := u9.size
    exact ⟨_, _, _, _, rfl, ownR_nil (by omega) _ _ _ _ 0, u9.below bb1 (by omega)⟩
  replace hne : g2 - p = n := by omega
  have hne' : (g2 - p != n) = false := by rw [bne_eq_false_iff_eq]; exact hne
  go_wp2_with fail
  refine (recordOf_S (na := none) (nc := 0) (nm := []) (tt := 0) (xa := none) (xc := 0) (ia := ia) (ic := ic) (tx := []) (nu := [x1, y1]) (ta := oa) (tc := oc) (to := g1) (ad := 0)).mono ?_
  rintro e w2 ⟨rfl, b2⟩
  have bb2 := below_next bb1 b2
  have K2 := hide (block_kept b2 (unhide K1))
  have HR2 := hide ((unhide HR).below b2)
  have z2 := b2.size
  have b3 := below_alloc (w := w2) (.cells #[.slice none 0 0, .int .i64 6, .int .i64 0, .int .i64 0, .slice oa g1.length oc, .slice none 0 0, .slice ia 2 ic] 50)
  have V3 := hide (heap_alloc_new w2 (.cells #[.slice none 0 0, .int .i64 6, .int .i64 0, .int .i64 0, .slice oa g1.length oc, .slice none 0 0, .slice ia 2 ic] 50))
  have K3 := hide (block_kept b3 (unhide K2))
  have HR3 := hide ((unhide HR2).below b3)
  have bb3 := below_next bb2 b3
  have z3 := b3.size
  have zv := block_lt (unhide V3)
  clear K1 HR bb1 b2 K2 HR2 bb2 b3
  obtain ⟨d0, d1, d2, d3, d4, d5, d6⟩ := cells7 (unhide V3)
  go_wp2_with fail
  clear d0 d1 d2 d3 d4 d5 d6
  generalize w2.alloc (.cells #[.slice none 0 0, .int .i64 6, .int .i64 0, .int .i64 0, .slice oa g1.length oc, .slice none 0 0, .slice ia 2 ic] 50) = w3 at *
  have HO := implRrOk_has (unhide HR3).hasR
  dsimp only at HO
  cases hok : rrOk ⟨[], 6, 0, 0, g1, [], [x1, y1]⟩ with
  | false =>
    rw [hok] at HO
    have hRes := unhide HRES
    rw [if_pos (.inr (.inr hok))] at hRes
    subst hRes
    clear HRES
    refine HO.mono ?_
    rintro e w4 ⟨rfl, b4⟩
    have K4 := hide (block_kept b4 (unhide K3))
    have bb4 := below_next bb3 b4
    have z4 := b4.size
    clear HO hok K3 bb3 b4
    obtain ⟨f0, f1, f2, f3, f4, f5, f6⟩ := cells7 (unhide K4)
    obtain ⟨q0, q1, q2, q3, q4, q5, q6⟩ := frozen7 (unhide K4)
    go_wp2_with fail
    obtain ⟨R9, u9⟩ := set7 (c0 := .slice none 0 0) (c1 := .int .i64 0) (c2 := .int .i64 0) (c3 := .int .i64 0) (c4 := .slice none 0 0) (c5 := .slice none 0 0) (c6 := .slice none 0 0) (unhide K4)
    refine bodyPost_ret (results_cell_tmp_row rfl _ _ w.heap.size 50 #[.slice none 0 0, .int .i64 0, .int .i64 0, .int .i64 0, .slice none 0 0, .slice none 0 0, .slice none 0 0] (0, 0) _ rfl R9 Try.underlying50 rfl (by kernel_rfl)) rfl ?_
    have z9 := u9.size
    exact ⟨_, _, _, _, rfl, ownR_nil (by omega) _ _ _ _ 0, u9.below bb4 (by omega)⟩
  | true =>
    rw [hok] at HO
    have hRes := unhide HRES
    rw [if_neg (by rw [hok]; simp; omega)] at hRes
    subst hRes
    clear HRES
    refine HO.mono ?_
    rintro e w4 ⟨rfl, b4⟩
    have K4 := hide (block_kept b4 (unhide K3))
    have V4 := hide (block_kept b4 (unhide V3))
    have HR4 := hide ((unhide HR3).below b4)
    have bb4 := below_next bb3 b4
    have z4 := b4.size
    clear HO hok K3 V3 bb3 b4 HR3
    obtain ⟨d0, d1, d2, d3, d4, d5, d6⟩ := cells7 (unhide V4)
    obtain ⟨f0, f1, f2, f3, f4, f5, f6⟩ := cells7 (unhide K4)
    obtain ⟨q0, q1, q2, q3, q4, q5, q6⟩ := frozen7 (unhide K4)
    go_wp2_with fail
    obtain ⟨R9, u9⟩ := set7 (c0 := .slice none 0 0) (c1 := .int .i64 6) (c2 := .int .i64 0) (c3 := .int .i64 0) (c4 := .slice oa g1.length oc) (c5 := .slice none 0 0) (c6 := .slice ia 2 ic) (unhide K4)
    refine bodyPost_ret (results_cell_tmp_row rfl _ _ w.heap.size 50 #[.slice none 0 0, .int .i64 6, .int .i64 0, .int .i64 0, .slice oa g1.length oc, .slice none 0 0, .slice ia 2 ic] (0, 0) _ rfl R9 Try.underlying50 rfl (by kernel_rfl)) rfl ?_
    have z9 := u9.size
    exact ⟨_, _, _, _, rfl, ((unhide HR4).outside u9 (by omega)).wide (by omega) (by omega), u9.below bb4 (by omega)⟩

set_option maxHeartbeats 1000000 in
set_option maxRecDepth 100000 in
theorem implDataGet_X {B : Nat} {v : Value} {l : List Int} {t : Int} (p n : Int) {w : World} (ht : t = 16 ∨ t = 49) (h : Own B 5 w v l) (hl : l.length ≤ 512) (hp0 : 0 ≤ p) (hp : p ≤ 9223372036854775807) (hn0 : 0 ≤ n) (hn1 : n ≤ 512) (hb : Bytes8 l) :
    Calls Try.prog 41 #[.int .i64 t, v, .int .i64 p, .int .i64 n] w (GivesR w (dataGet t l p n).1 (dataGet t l p n).2) := by
  have hty : typeOk t = true := by rcases ht with rfl | rfl <;> rfl
  have hkv : kindV t = .iface 132 (.agg #[.slice none 0 0]) := kindV_X ht
  rw [dataGet_in hty hl hp0 hn0 hn1]
  have he := countedOf_end l p
  have hkg : kindGet t l p = (⟨[], t, 0, 0, [], (countedOf l p).1, []⟩, (countedOf l p).2) := by unfold kindGet; rw [if_neg (by omega), if_neg (by omega), if_neg (by rcases ht with rfl | rfl <;> decide)]
  rw [hkg]
  skip
  have b0 := below_alloc (w := w) (.cells #[.slice none 0 0, .int .i64 0, .int .i64 0, .int .i64 0, .slice none 0 0, .slice none 0 0, .slice none 0 0] 50)
  have K0 := hide (heap_alloc_new w (.cells #[.slice none 0 0, .int .i64 0, .int .i64 0, .int .i64 0, .slice none 0 0, .slice none 0 0, .slice none 0 0] 50))
  have HG := hide (textGet_own p (h.below b0) hl hp hb)
  have HT := implTypeOk_any t (w.alloc (.cells #[.slice none 0 0, .int .i64 0, .int .i64 0, .int .i64 0, .slice none 0 0, .slice none 0 0, .slice none 0 0] 50))
  rw [hty] at HT
  have HT := hide HT
  have HK := kindOf_any t (w.alloc (.cells #[.slice none 0 0, .int .i64 0, .int .i64 0, .int .i64 0, .slice none 0 0, .slice none 0 0, .slice none 0 0] 50))
  rw [hkv] at HK
  have HK := hide HK
  obtain ⟨a, cap, rfl, _⟩ := h.lies
  dsimp only at he ⊢
  clear h hkg hkv hty hb
  generalize (countedOf l p).1 = g1 at *
  generalize (countedOf l p).2 = g2 at *
  generalize hRes : (if g2 < 0 ∨ g2 - p ≠ n ∨ rrOk ⟨[], t, 0, 0, [], g1, []⟩ = false then (emptyR 0, false) else (⟨[], t, 0, 0, [], g1, []⟩, true)) = Res
  have HRES := hide hRes
  clear hRes
  have hll : ¬ (512 : Int) < (l.length : Int) := by omega
  have hp0' : ¬ p < 0 := by omega
  generalize hLN : l.length = L at *
  clear hLN
  have zW := b0.size
  have zK := block_lt (unhide K0)
  go_enter Try.func41, Try.ntmps41
  go_wp2_with fail
  generalize w.alloc (.cells #[.slice none 0 0, .int .i64 0, .int .i64 0, .int .i64 0, .slice none 0 0, .slice none 0 0, .slice none 0 0] 50) = W at *
  refine (unhide HT).mono ?_
  rintro e w1 ⟨rfl, rfl⟩
  go_wp2_with fail
  refine (upTo_yes _ hn0 hn1).mono ?_
  rintro e w1 ⟨rfl, rfl⟩
  go_wp2_with fail
  refine (unhide HK).mono ?_
  rintro e w1 ⟨rfl, rfl⟩
  clear HT HK
  go_wp2_with fail
  refine (unhide HG).mono ?_
  rintro e w1 ⟨v1, rfl, o1, b1⟩
  obtain ⟨oa, oc, rfl, _⟩ := o1.lies
  have K1 := hide (block_kept b1 (unhide K0))
  have bb1 := below_next b0 b1
  have z1 := b1.size
  have HR := hide (show OwnR W.heap.size w1.heap.size 22 5 3 w1 (.slice none 0 0) (.slice none 0 0) (.slice oa g1.length oc) (.slice none 0 0) ⟨[], t, 0, 0, [], g1, []⟩ from ⟨W.heap.size, W.heap.size, w1.heap.size, Nat.le_refl _, Nat.le_refl _, b1.size, Nat.le_refl _, ownN_nil _ _ _ _ _, ownN_nil _ _ _ _ _, o1.here, ownBI_nil _ _ _ _⟩)
  clear K0 HG b0 o1
  by_cases hneg : g2 < 0
  · have hRes := unhide HRES
    rw [if_pos (.inl hneg)] at hRes
    subst hRes
    obtain ⟨f0, f1, f2, f3, f4, f5, f6⟩ := cells7 (unhide K1)
    obtain ⟨q0, q1, q2, q3, q4, q5, q6⟩ := frozen7 (unhide K1)
    go_wp2_with fail
    obtain ⟨R9, u9⟩ := set7 (c0 := .slice none 0 0) (c1 := .int .i64 0) (c2 := .int .i64 0) (c3 := .int .i64 0) (c4 := .slice none 0 0) (c5 := .slice none 0 0) (c6 := .slice none 0 0) (unhide K1)
    refine bodyPost_ret (results_cell_tmp_row rfl _ _ w.heap.size 50 #[.slice none 0 0, .int .i64 0, .int .i64 0, .int .i64 0, .slice none 0 0, .slice none 0 0, .slice none 0 0] (0, 0) _ rfl R9 Try.underlying50 rfl (by kernel_rfl)) rfl ?_
    have z9 := u9.size
    exact ⟨_, _, _, _, rfl, ownR_nil (by omega) _ _ _ _ 0, u9.below bb1 (by omega)⟩
  have hsub : g2 - p ≤ 512 ∧ -9223372036854775808 ≤ g2 - p := by omega
  by_cases hne : g2 - p ≠ n
  · have hRes := unhide HRES
    rw [if_pos (.inr (.inl hne))] at hRes
    subst hRes
    have hne' : (g2 - p != n) = true := by rw [bne_iff_ne]; exact hne
    obtain ⟨f0, f1, f2, f3, f4, f5, f6⟩ := cells7 (unhide K1)
    obtain ⟨q0, q1, q2, q3, q4, q5, q6⟩ := frozen7 (unhide K1)
    go_wp2_with fail
    obtain ⟨R9, u9⟩ := set7 (c0 := .slice none 0 0) (c1 := .int .i64 0) (c2 := .int .i64 0) (c3 := .int .i64 0) (c4 := .slice none 0 0) (c5 := .slice none 0 0) (c6 := .slice none 0 0) (unhide K1)
    refine bodyPost_ret (results_cell_tmp_row rfl _ _ w.heap.size 50 #[.slice none 0 0, .int .i64 0, .int .i64 0, .int .i64 0, .slice none 0 0, .slice none 0 0, .slice none 0 0] (0, 0) _ rfl R9 Try.underlying50 rfl (by kernel_rfl)) rfl ?_
    have z9 := u9.size
    exact ⟨_, _, _, _, rfl, ownR_nil (by omega) _ _ _ _ 0, u9.below bb1 (by omega)⟩
  replace hne : g2 - p = n := by omega
  have hne' : (g2 - p != n) = false := by rw [bne_eq_false_iff_eq]; exact hne
  go_wp2_with fail
  refine (recordOf_X (na := none) (nc := 0) (nm := []) (tt := 0) (xa := oa) (xc := oc) (ia := none) (ic := 0) (tx := g1) (nu := []) (ta := none) (tc := 0) (to := []) (ad := 0) (ty := t)).mono ?_
  rintro e w2 ⟨rfl, b2⟩
  have bb2 := below_next bb1 b2
  have K2 := hide (block_kept b2 (unhide K1))
  have HR2 := hide ((unhide HR).below b2)
  have z2 := b2.size
  have b3 := below_alloc (w := w2) (.cells #[.slice none 0 0, .int .i64 t, .int .i64 0, .int .i64 0, .slice none 0 0, .slice oa g1.length oc, .slice none 0 0] 50)
  have V3 := hide (heap_alloc_new w2 (.cells #[.slice none 0 0, .int .i64 t, .int .i64 0, .int .i64 0, .slice none 0 0, .slice oa g1.length oc, .slice none 0 0] 50))
  have K3 := hide (block_kept b3 (unhide K2))
  have HR3 := hide ((unhide HR2).below b3)
  have bb3 := below_next bb2 b3
  have z3 := b3.size
  have zv := block_lt (unhide V3)
  clear K1 HR bb1 b2 K2 HR2 bb2 b3
  obtain ⟨d0, d1, d2, d3, d4, d5, d6⟩ := cells7 (unhide V3)
  go_wp2_with fail
  clear d0 d1 d2 d3 d4 d5 d6
  generalize w2.alloc (.cells #[.slice none 0 0, .int .i64 t, .int .i64 0, .int .i64 0, .slice none 0 0, .slice oa g1.length oc, .slice none 0 0] 50) = w3 at *
  have HO := implRrOk_has (unhide HR3).hasR
  dsimp only at HO
  cases hok : rrOk ⟨[], t, 0, 0, [], g1, []⟩ with
  | false =>
    rw [hok] at HO
    have hRes := unhide HRES
    rw [if_pos (.inr (.inr hok))] at hRes
    subst hRes
    clear HRES
    refine HO.mono ?_
    rintro e w4 ⟨rfl, b4⟩
    have K4 := hide (block_kept b4 (unhide K3))
    have bb4 := below_next bb3 b4
    have z4 := b4.size
    clear HO hok K3 bb3 b4
    obtain ⟨f0, f1, f2, f3, f4, f5, f6⟩ := cells7 (unhide K4)
    obtain ⟨q0, q1, q2, q3, q4, q5, q6⟩ := frozen7 (unhide K4)
    go_wp2_with fail
    obtain ⟨R9, u9⟩ := set7 (c0 := .slice none 0 0) (c1 := .int .i64 0) (c2 := .int .i64 0) (c3 := .int .i64 0) (c4 := .slice none 0 0) (c5 := .slice none 0 0) (c6 := .slice none 0 0) (unhide K4)
    refine bodyPost_ret (results_cell_tmp_row rfl _ _ w.heap.size 50 #[.slice none 0 0, .int .i64 0, .int .i64 0, .int .i64 0, .slice none 0 0, .slice none 0 0, .slice none 0 0] (0, 0) _ rfl R9 Try.underlying50 rfl (by kernel_rfl)) rfl ?_
    have z9 := u9.size
    exact ⟨_, _, _, _, rfl, ownR_nil (by omega) _ _ _ _ 0, u9.below bb4 (by omega)⟩
  | true =>
    rw [hok] at HO
    have hRes := unhide HRES
    rw [if_neg (by rw [hok]; simp; omega)] at hRes
    subst hRes
    clear HRES
    refine HO.mono ?_
    rintro e w4 ⟨rfl, b4⟩
    have K4 := hide (block_kept b4 (unhide K3))
    have V4 := hide (block_kept b4 (unhide V3))
    have HR4 := hide ((unhide HR3).below b4)
    have bb4 := below_next bb3 b4
    have z4 := b4.size
    clear HO hok K3 V3 bb3 b4 HR3
    obtain ⟨d0, d1, d2, d3, d4, d5, d6⟩ := cells7 (unhide V4)
    obtain ⟨f0, f1, f2, f3, f4, f5, f6⟩ := cells7 (unhide K4)
    obtain ⟨q0, q1, q2, q3, q4, q5, q6⟩ := frozen7 (unhide K4)
    go_wp2_with fail
    obtain ⟨R9, u9⟩ := set7 (c0 := .slice none 0 0) (c1 := .int .i64 t) (c2 := .int .i64 0) (c3 := .int .i64 0) (c4 := .slice none 0 0) (c5 := .slice oa g1.length oc) (c6 := .slice none 0 0) (unhide K4)
    refine bodyPost_ret (results_cell_tmp_row rfl _ _ w.heap.size 50 #[.slice none 0 0, .int .i64 t, .int .i64 0, .int .i64 0, .slice none 0 0, .slice oa g1.length oc, .slice none 0 0] (0, 0) _ rfl R9 Try.underlying50 rfl (by kernel_rfl)) rfl ?_
    have z9 := u9.size
    exact ⟨_, _, _, _, rfl, ((unhide HR4).outside u9 (by omega)).wide (by omega) (by omega), u9.below bb4 (by omega)⟩

set_option maxHeartbeats 1000000 in
set_option maxRecDepth 100000 in
theorem implDataGet_no1 {a : Option Addr} {L cap : Nat} (t p n : Int) {w : World} (hty : typeOk t = false) :
    Calls Try.prog 41 #[.int .i64 t, .slice a L cap, .int .i64 p, .int .i64 n] w (GivesR w (emptyR 0) false) := by
  have b0 := below_alloc (w := w) (.cells #[.slice none 0 0, .int .i64 0, .int .i64 0, .int .i64 0, .slice none 0 0, .slice none 0 0, .slice none 0 0] 50)
  have K0 := hide (heap_alloc_new w (.cells #[.slice none 0 0, .int .i64 0, .int .i64 0, .int .i64 0, .slice none 0 0, .slice none 0 0, .slice none 0 0] 50))
  have HT := implTypeOk_any t (w.alloc (.cells #[.slice none 0 0, .int .i64 0, .int .i64 0, .int .i64 0, .slice none 0 0, .slice none 0 0, .slice none 0 0] 50))
  rw [hty] at HT
  replace HT := hide HT
  clear hty
  go_enter Try.func41, Try.ntmps41
  go_wp2_with fail
  generalize w.alloc (.cells #[.slice none 0 0, .int .i64 0, .int .i64 0, .int .i64 0, .slice none 0 0, .slice none 0 0, .slice none 0 0] 50) = W at *
  have zK := block_lt (unhide K0)
  refine (unhide HT).mono ?_
  rintro e w1 ⟨rfl, rfl⟩
  obtain ⟨f0, f1, f2, f3, f4, f5, f6⟩ := cells7 (unhide K0)
  obtain ⟨q0, q1, q2, q3, q4, q5, q6⟩ := frozen7 (unhide K0)
  go_wp2_with fail
  obtain ⟨R9, u9⟩ := set7 (c0 := .slice none 0 0) (c1 := .int .i64 0) (c2 := .int .i64 0) (c3 := .int .i64 0) (c4 := .slice none 0 0) (c5 := .slice none 0 0) (c6 := .slice none 0 0) (unhide K0)
  refine bodyPost_ret (results_cell_tmp_row rfl _ _ w.heap.size 50 #[.slice none 0 0, .int .i64 0, .int .i64 0, .int .i64 0, .slice none 0 0, .slice none 0 0, .slice none 0 0] (0, 0) _ rfl R9 Try.underlying50 rfl (by kernel_rfl)) rfl ?_
  have z9 := u9.size
  exact ⟨_, _, _, _, rfl, ownR_nil (by omega) _ _ _ _ 0, u9.below b0 (by omega)⟩

set_option maxHeartbeats 1000000 in
set_option maxRecDepth 100000 in
theorem implDataGet_no2 {a : Option Addr} {L cap : Nat} (t p n : Int) {w : World} (hty : typeOk t = true) (h : 512 < L) :
    Calls Try.prog 41 #[.int .i64 t, .slice a L cap, .int .i64 p, .int .i64 n] w (GivesR w (emptyR 0) false) := by
  have b0 := below_alloc (w := w) (.cells #[.slice none 0 0, .int .i64 0, .int .i64 0, .int .i64 0, .slice none 0 0, .slice none 0 0, .slice none 0 0] 50)
  have K0 := hide (heap_alloc_new w (.cells #[.slice none 0 0, .int .i64 0, .int .i64 0, .int .i64 0, .slice none 0 0, .slice none 0 0, .slice none 0 0] 50))
  have HT := implTypeOk_any t (w.alloc (.cells #[.slice none 0 0, .int .i64 0, .int .i64 0, .int .i64 0, .slice none 0 0, .slice none 0 0, .slice none 0 0] 50))
  rw [hty] at HT
  replace HT := hide HT
  clear hty
  have h' : (512 : Int) < (L : Int) := by omega
  go_enter Try.func41, Try.ntmps41
  go_wp2_with fail
  generalize w.alloc (.cells #[.slice none 0 0, .int .i64 0, .int .i64 0, .int .i64 0, .slice none 0 0, .slice none 0 0, .slice none 0 0] 50) = W at *
  have zK := block_lt (unhide K0)
  refine (unhide HT).mono ?_
  rintro e w1 ⟨rfl, rfl⟩
  obtain ⟨f0, f1, f2, f3, f4, f5, f6⟩ := cells7 (unhide K0)
  obtain ⟨q0, q1, q2, q3, q4, q5, q6⟩ := frozen7 (unhide K0)
  go_wp2_with fail
  obtain ⟨R9, u9⟩ := set7 (c0 := .slice none 0 0) (c1 := .int .i64 0) (c2 := .int .i64 0) (c3 := .int .i64 0) (c4 := .slice none 0 0) (c5 := .slice none 0 0) (c6 := .slice none 0 0) (unhide K0)
  refine bodyPost_ret (results_cell_tmp_row rfl _ _ w.heap.size 50 #[.slice none 0 0, .int .i64 0, .int .i64 0, .int .i64 0, .slice none 0 0, .slice none 0 0, .slice none 0 0] (0, 0) _ rfl R9 Try.underlying50 rfl (by kernel_rfl)) rfl ?_
  have z9 := u9.size
  exact ⟨_, _, _, _, rfl, ownR_nil (by omega) _ _ _ _ 0, u9.below b0 (by omega)⟩

set_option maxHeartbeats 1000000 in
set_option maxRecDepth 100000 in
theorem implDataGet_no3 {a : Option Addr} {L cap : Nat} (t p n : Int) {w : World} (hty : typeOk t = true) (hL : ¬ 512 < L) (h : p < 0) :
    Calls Try.prog 41 #[.int .i64 t, .slice a L cap, .int .i64 p, .int .i64 n] w (GivesR w (emptyR 0) false) := by
  have b0 := below_alloc (w := w) (.cells #[.slice none 0 0, .int .i64 0, .int .i64 0, .int .i64 0, .slice none 0 0, .slice none 0 0, .slice none 0 0] 50)
  have K0 := hide (heap_alloc_new w (.cells #[.slice none 0 0, .int .i64 0, .int .i64 0, .int .i64 0, .slice none 0 0, .slice none 0 0, .slice none 0 0] 50))
  have HT := implTypeOk_any t (w.alloc (.cells #[.slice none 0 0, .int .i64 0, .int .i64 0, .int .i64 0, .slice none 0 0, .slice none 0 0, .slice none 0 0] 50))
  rw [hty] at HT
  replace HT := hide HT
  clear hty
  have h' : ¬ (512 : Int) < (L : Int) := by omega
  go_enter Try.func41, Try.ntmps41
  go_wp2_with fail
  generalize w.alloc (.cells #[.slice none 0 0, .int .i64 0, .int .i64 0, .int .i64 0, .slice none 0 0, .slice none 0 0, .slice none 0 0] 50) = W at *
  have zK := block_lt (unhide K0)
  refine (unhide HT).mono ?_
  rintro e w1 ⟨rfl, rfl⟩
  obtain ⟨f0, f1, f2, f3, f4, f5, f6⟩ := cells7 (unhide K0)
  obtain ⟨q0, q1, q2, q3, q4, q5, q6⟩ := frozen7 (unhide K0)
  go_wp2_with fail
  obtain ⟨R9, u9⟩ := set7 (c0 := .slice none 0 0) (c1 := .int .i64 0) (c2 := .int .i64 0) (c3 := .int .i64 0) (c4 := .slice none 0 0) (c5 := .slice none 0 0) (c6 := .slice none 0 0) (unhide K0)
  refine bodyPost_ret (results_cell_tmp_row rfl _ _ w.heap.size 50 #[.slice none 0 0, .int .i64 0, .int .i64 0, .int .i64 0, .slice none 0 0, .slice none 0 0, .slice none 0 0] (0, 0) _ rfl R9 Try.underlying50 rfl (by kernel_rfl)) rfl ?_
  have z9 := u9.size
  exact ⟨_, _, _, _, rfl, ownR_nil (by omega) _ _ _ _ 0, u9.below b0 (by omega)⟩

set_option maxHeartbeats 1000000 in
set_option maxRecDepth 100000 in
theorem implDataGet_no4 {a : Option Addr} {L cap : Nat} (t p n : Int) {w : World} (hty : typeOk t = true) (hL : ¬ 512 < L) (hp : ¬ p < 0) (h : n < 0 ∨ 512 < n) :
    Calls Try.prog 41 #[.int .i64 t, .slice a L cap, .int .i64 p, .int .i64 n] w (GivesR w (emptyR 0) false) := by
  have b0 := below_alloc (w := w) (.cells #[.slice none 0 0, .int .i64 0, .int .i64 0, .int .i64 0, .slice none 0 0, .slice none 0 0, .slice none 0 0] 50)
  have K0 := hide (heap_alloc_new w (.cells #[.slice none 0 0, .int .i64 0, .int .i64 0, .int .i64 0, .slice none 0 0, .slice none 0 0, .slice none 0 0] 50))
  have HT := implTypeOk_any t (w.alloc (.cells #[.slice none 0 0, .int .i64 0, .int .i64 0, .int .i64 0, .slice none 0 0, .slice none 0 0, .slice none 0 0] 50))
  rw [hty] at HT
  replace HT := hide HT
  clear hty
  have h' : ¬ (512 : Int) < (L : Int) := by omega
  go_enter Try.func41, Try.ntmps41
  go_wp2_with fail
  generalize w.alloc (.cells #[.slice none 0 0, .int .i64 0, .int .i64 0, .int .i64 0, .slice none 0 0, .slice none 0 0, .slice none 0 0] 50) = W at *
  have zK := block_lt (unhide K0)
  refine (unhide HT).mono ?_
  rintro e w1 ⟨rfl, rfl⟩
  go_wp2_with fail
  refine (upTo_no _ h).mono ?_
  rintro e w1 ⟨rfl, rfl⟩
  obtain ⟨f0, f1, f2, f3, f4, f5, f6⟩ := cells7 (unhide K0)
  obtain ⟨q0, q1, q2, q3, q4, q5, q6⟩ := frozen7 (unhide K0)
  go_wp2_with fail
  obtain ⟨R9, u9⟩ := set7 (c0 := .slice none 0 0) (c1 := .int .i64 0) (c2 := .int .i64 0) (c3 := .int .i64 0) (c4 := .slice none 0 0) (c5 := .slice none 0 0) (c6 := .slice none 0 0) (unhide K0)
  refine bodyPost_ret (results_cell_tmp_row rfl _ _ w.heap.size 50 #[.slice none 0 0, .int .i64 0, .int .i64 0, .int .i64 0, .slice none 0 0, .slice none 0 0, .slice none 0 0] (0, 0) _ rfl R9 Try.underlying50 rfl (by kernel_rfl)) rfl ?_
  have z9 := u9.size
  exact ⟨_, _, _, _, rfl, ownR_nil (by omega) _ _ _ _ 0, u9.below b0 (by omega)⟩

theorem implDataGet_own {B : Nat} {v : Value} {l : List Int} (t p n : Int) {w : World} (h : Own B 5 w v l) (hp : p ≤ 9223372036854775807) (hb : Bytes8 l) :
    Calls Try.prog 41 #[.int .i64 t, v, .int .i64 p, .int .i64 n] w (GivesR w (dataGet t l p n).1 (dataGet t l p n).2) := by
  by_cases hc : typeOk t = false ∨ 512 < l.length ∨ p < 0 ∨ n < 0 ∨ 512 < n
  · rw [dataGet_out hc]
    obtain ⟨a, cap, rfl, _⟩ := h.lies
    cases ht : typeOk t with
    | false => exact implDataGet_no1 t p n ht
    | true =>
      by_cases h1 : 512 < l.length
      · exact implDataGet_no2 t p n ht h1
      by_cases h2 : p < 0
      · exact implDataGet_no3 t p n ht h1 h2
      · exact implDataGet_no4 t p n ht h1 h2 (by rcases hc with q | q | q | q | q <;> first | (rw [ht] at q; cases q) | omega)
  · have ht : typeOk t ≠ false := fun q => hc (.inl q)
    have h1 : l.length ≤ 512 := by omega
    have h2 : 0 ≤ p := by omega
    have h3 : 0 ≤ n := by omega
    have h4 : n ≤ 512 := by omega
    rcases type_cases t with rfl | rfl | rfl | rfl | rfl | rfl | rfl | q
    · exact implDataGet_A p n h h1 h2 hp h3 h4 hb
    · exact implDataGet_N p n (by omega) h h1 h2 hp h3 h4 hb
    · exact implDataGet_N p n (by omega) h h1 h2 hp h3 h4 hb
    · exact implDataGet_S p n h h1 h2 hp h3 h4 hb
    · exact implDataGet_N p n (by omega) h h1 h2 hp h3 h4 hb
    · exact implDataGet_X p n (by omega) h h1 h2 hp h3 h4 hb
    · exact implDataGet_X p n (by omega) h h1 h2 hp h3 h4 hb
    · exact absurd q ht
end Go.Proofs.Ytnloenkjfjlmeaa
