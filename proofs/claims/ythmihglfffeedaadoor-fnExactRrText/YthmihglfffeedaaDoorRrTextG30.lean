/-
  Contracts of the specification's l3data and RrOk.
-/
import Derived.Test.YthmihglfffeedaaDoorRrTextG25
namespace Go.Proofs.YthmihglfffeedaaDoor
open Go.RowKit
set_option linter.unusedVariables false
set_option maxHeartbeats 1000000
set_option maxRecDepth 100000

theorem l3data_has {vn vt vx vi : Value} {r : Rec} {w : World} (h : HasR w vn vt vx vi r) (ht : typeOk r.type = true) :
  Calls Tryd.prog 34 #[.agg #[vn, .int .i64 r.type, .int .i64 r.ttl, .int .i64 r.addr, vt, vx, vi]] w fun e w' => e = .returned (.bool (dataOk r)) ∧ Below w.heap.size w w' := by
 obtain ⟨na, nc, rfl, _⟩ := h.name.form
 obtain ⟨ta, tc, rfl, _⟩ := h.to.form
 obtain ⟨xa, xc, rfl, _⟩ := h.text.form
 obtain ⟨ia, ic, rfl, _⟩ := h.nums.form
 obtain ⟨nm, ty, tt, ad, to, tx, nu⟩ := r
 simp only at *
 rcases type_cases ty with rfl | rfl | rfl | rfl | rfl | rfl | rfl | h0
 ·skip
  by_cases hA : ad < 0
  ·have e : dataOk ⟨nm, 1, tt, ad, to, tx, nu⟩ = false := by simp [dataOk, named_1, texted_1]; first | done | omega | (simp [*]; done) | (simp [*]; omega) | (intros; omega) | (simp_all; done) | (simp_all; omega)
   rw [e]
   exact l3_1_0 h hA
  by_cases hA3 : 4294967295 < ad
  ·have hA0 := hA
   have e : dataOk ⟨nm, 1, tt, ad, to, tx, nu⟩ = false := by simp [dataOk, named_1, texted_1]; first | done | omega | (simp [*]; done) | (simp [*]; omega) | (intros; omega) | (simp_all; done) | (simp_all; omega)
   rw [e]
   exact l3_1_1 h hA3 hA0
  replace hA : 0 ≤ ad := by omega
  have hA2 : ad ≤ 4294967295 := by omega
  by_cases hB : to.length ≠ 0
  ·have e : dataOk ⟨nm, 1, tt, ad, to, tx, nu⟩ = false := by simp [dataOk, named_1, texted_1]; first | done | omega | (simp [*]; done) | (simp [*]; omega) | (intros; omega) | (simp_all; done) | (simp_all; omega)
   rw [e]
   exact l3_1_2 h hA hA2 hB
  replace hB : to.length = 0 := by omega
  by_cases hC : tx.length ≠ 0
  ·have e : dataOk ⟨nm, 1, tt, ad, to, tx, nu⟩ = false := by simp [dataOk, named_1, texted_1]; first | done | omega | (simp [*]; done) | (simp [*]; omega) | (intros; omega) | (simp_all; done) | (simp_all; omega)
   rw [e]
   exact l3_1_3 h hA hA2 hB hC
  replace hC : tx.length = 0 := by omega
  by_cases hD : nu.length ≠ 0
  ·have e : dataOk ⟨nm, 1, tt, ad, to, tx, nu⟩ = false := by simp [dataOk, named_1, texted_1]; first | done | omega | (simp [*]; done) | (simp [*]; omega) | (intros; omega) | (simp_all; done) | (simp_all; omega)
   rw [e]
   exact l3_1_4 h hA hA2 hB hC hD
  replace hD : nu.length = 0 := by omega
  ·have e : dataOk ⟨nm, 1, tt, ad, to, tx, nu⟩ = true := by simp [dataOk, named_1, texted_1]; first | done | omega | (simp [*]; done) | (simp [*]; omega) | (intros; omega) | (simp_all; done) | (simp_all; omega)
   rw [e]
   exact l3_1_5 h hA hA2 hB hC hD
 ·skip
  by_cases hA : ad ≠ 0
  ·have e : dataOk ⟨nm, 2, tt, ad, to, tx, nu⟩ = false := by simp [dataOk, named_2, texted_2]; first | done | omega | (simp [*]; done) | (simp [*]; omega) | (intros; omega) | (simp_all; done) | (simp_all; omega)
   rw [e]
   exact l3_2_0 h hA
  replace hA : ad = 0 := by omega
  cases hB : nameOk to with
  | false =>
    have e : dataOk ⟨nm, 2, tt, ad, to, tx, nu⟩ = false := by simp [dataOk, named_2, texted_2]; first | done | omega | (simp [*]; done) | (simp [*]; omega) | (intros; omega) | (simp_all; done) | (simp_all; omega)
    rw [e]
    exact l3_2_1 h hA hB
  | true =>
   by_cases hC : tx.length ≠ 0
   ·have e : dataOk ⟨nm, 2, tt, ad, to, tx, nu⟩ = false := by simp [dataOk, named_2, texted_2]; first | done | omega | (simp [*]; done) | (simp [*]; omega) | (intros; omega) | (simp_all; done) | (simp_all; omega)
    rw [e]
    exact l3_2_2 h hA hB hC
   replace hC : tx.length = 0 := by omega
   by_cases hD : nu.length ≠ 0
   ·have e : dataOk ⟨nm, 2, tt, ad, to, tx, nu⟩ = false := by simp [dataOk, named_2, texted_2]; first | done | omega | (simp [*]; done) | (simp [*]; omega) | (intros; omega) | (simp_all; done) | (simp_all; omega)
    rw [e]
    exact l3_2_3 h hA hB hC hD
   replace hD : nu.length = 0 := by omega
   ·have e : dataOk ⟨nm, 2, tt, ad, to, tx, nu⟩ = true := by simp [dataOk, named_2, texted_2]; first | done | omega | (simp [*]; done) | (simp [*]; omega) | (intros; omega) | (simp_all; done) | (simp_all; omega)
    rw [e]
    exact l3_2_4 h hA hB hC hD
 ·skip
  by_cases hA : ad ≠ 0
  ·have e : dataOk ⟨nm, 5, tt, ad, to, tx, nu⟩ = false := by simp [dataOk, named_5, texted_5]; first | done | omega | (simp [*]; done) | (simp [*]; omega) | (intros; omega) | (simp_all; done) | (simp_all; omega)
   rw [e]
   exact l3_5_0 h hA
  replace hA : ad = 0 := by omega
  cases hB : nameOk to with
  | false =>
    have e : dataOk ⟨nm, 5, tt, ad, to, tx, nu⟩ = false := by simp [dataOk, named_5, texted_5]; first | done | omega | (simp [*]; done) | (simp [*]; omega) | (intros; omega) | (simp_all; done) | (simp_all; omega)
    rw [e]
    exact l3_5_1 h hA hB
  | true =>
   by_cases hC : tx.length ≠ 0
   ·have e : dataOk ⟨nm, 5, tt, ad, to, tx, nu⟩ = false := by simp [dataOk, named_5, texted_5]; first | done | omega | (simp [*]; done) | (simp [*]; omega) | (intros; omega) | (simp_all; done) | (simp_all; omega)
    rw [e]
    exact l3_5_2 h hA hB hC
   replace hC : tx.length = 0 := by omega
   by_cases hD : nu.length ≠ 0
   ·have e : dataOk ⟨nm, 5, tt, ad, to, tx, nu⟩ = false := by simp [dataOk, named_5, texted_5]; first | done | omega | (simp [*]; done) | (simp [*]; omega) | (intros; omega) | (simp_all; done) | (simp_all; omega)
    rw [e]
    exact l3_5_3 h hA hB hC hD
   replace hD : nu.length = 0 := by omega
   ·have e : dataOk ⟨nm, 5, tt, ad, to, tx, nu⟩ = true := by simp [dataOk, named_5, texted_5]; first | done | omega | (simp [*]; done) | (simp [*]; omega) | (intros; omega) | (simp_all; done) | (simp_all; omega)
    rw [e]
    exact l3_5_4 h hA hB hC hD
 ·skip
  by_cases hA : ad ≠ 0
  ·have e : dataOk ⟨nm, 6, tt, ad, to, tx, nu⟩ = false := by simp [dataOk, named_6, texted_6]; first | done | omega | (simp [*]; done) | (simp [*]; omega) | (intros; omega) | (simp_all; done) | (simp_all; omega)
   rw [e]
   exact l3_6_0 h hA
  replace hA : ad = 0 := by omega
  cases hB : nameOk to with
  | false =>
    have e : dataOk ⟨nm, 6, tt, ad, to, tx, nu⟩ = false := by simp [dataOk, named_6, texted_6]; first | done | omega | (simp [*]; done) | (simp [*]; omega) | (intros; omega) | (simp_all; done) | (simp_all; omega)
    rw [e]
    exact l3_6_1 h hA hB
  | true =>
   by_cases hC : tx.length ≠ 0
   ·have e : dataOk ⟨nm, 6, tt, ad, to, tx, nu⟩ = false := by simp [dataOk, named_6, texted_6]; first | done | omega | (simp [*]; done) | (simp [*]; omega) | (intros; omega) | (simp_all; done) | (simp_all; omega)
    rw [e]
    exact l3_6_2 h hA hB hC
   replace hC : tx.length = 0 := by omega
   by_cases hD : nu.length ≠ 2
   ·have e : dataOk ⟨nm, 6, tt, ad, to, tx, nu⟩ = false := by simp [dataOk, named_6, texted_6]; first | done | omega | (simp [*]; done) | (simp [*]; omega) | (intros; omega) | (simp_all; done) | (simp_all; omega)
    rw [e]
    exact l3_6_3 h hA hB hC hD
   replace hD : nu.length = 2 := by omega
   by_cases hE : nu.getD 0 0 < 0
   ·have e : dataOk ⟨nm, 6, tt, ad, to, tx, nu⟩ = false := by simp [dataOk, named_6, texted_6]; first | done | omega | (simp [*]; done) | (simp [*]; omega) | (intros; omega) | (simp_all; done) | (simp_all; omega)
    rw [e]
    exact l3_6_4 h hA hB hC hD hE
   replace hE : 0 ≤ nu.getD 0 0 := by omega
   by_cases hF : 4294967295 < nu.getD 0 0
   ·have e : dataOk ⟨nm, 6, tt, ad, to, tx, nu⟩ = false := by simp [dataOk, named_6, texted_6]; first | done | omega | (simp [*]; done) | (simp [*]; omega) | (intros; omega) | (simp_all; done) | (simp_all; omega)
    rw [e]
    exact l3_6_5 h hA hB hC hD hE hF
   replace hF : nu.getD 0 0 ≤ 4294967295 := by omega
   by_cases hG : nu.getD 1 0 < 0
   ·have e : dataOk ⟨nm, 6, tt, ad, to, tx, nu⟩ = false := by simp [dataOk, named_6, texted_6]; first | done | omega | (simp [*]; done) | (simp [*]; omega) | (intros; omega) | (simp_all; done) | (simp_all; omega)
    rw [e]
    exact l3_6_6 h hA hB hC hD hE hF hG
   replace hG : 0 ≤ nu.getD 1 0 := by omega
   by_cases hH : 100000 < nu.getD 1 0
   ·have e : dataOk ⟨nm, 6, tt, ad, to, tx, nu⟩ = false := by simp [dataOk, named_6, texted_6]; first | done | omega | (simp [*]; done) | (simp [*]; omega) | (intros; omega) | (simp_all; done) | (simp_all; omega)
    rw [e]
    exact l3_6_7 h hA hB hC hD hE hF hG hH
   replace hH : nu.getD 1 0 ≤ 100000 := by omega
   ·have e : dataOk ⟨nm, 6, tt, ad, to, tx, nu⟩ = true := by simp [dataOk, named_6, texted_6]; first | done | omega | (simp [*]; done) | (simp [*]; omega) | (intros; omega) | (simp_all; done) | (simp_all; omega)
    rw [e]
    exact l3_6_8 h hA hB hC hD hE hF hG hH
 ·skip
  by_cases hA : ad ≠ 0
  ·have e : dataOk ⟨nm, 12, tt, ad, to, tx, nu⟩ = false := by simp [dataOk, named_12, texted_12]; first | done | omega | (simp [*]; done) | (simp [*]; omega) | (intros; omega) | (simp_all; done) | (simp_all; omega)
   rw [e]
   exact l3_12_0 h hA
  replace hA : ad = 0 := by omega
  cases hB : nameOk to with
  | false =>
    have e : dataOk ⟨nm, 12, tt, ad, to, tx, nu⟩ = false := by simp [dataOk, named_12, texted_12]; first | done | omega | (simp [*]; done) | (simp [*]; omega) | (intros; omega) | (simp_all; done) | (simp_all; omega)
    rw [e]
    exact l3_12_1 h hA hB
  | true =>
   by_cases hC : tx.length ≠ 0
   ·have e : dataOk ⟨nm, 12, tt, ad, to, tx, nu⟩ = false := by simp [dataOk, named_12, texted_12]; first | done | omega | (simp [*]; done) | (simp [*]; omega) | (intros; omega) | (simp_all; done) | (simp_all; omega)
    rw [e]
    exact l3_12_2 h hA hB hC
   replace hC : tx.length = 0 := by omega
   by_cases hD : nu.length ≠ 0
   ·have e : dataOk ⟨nm, 12, tt, ad, to, tx, nu⟩ = false := by simp [dataOk, named_12, texted_12]; first | done | omega | (simp [*]; done) | (simp [*]; omega) | (intros; omega) | (simp_all; done) | (simp_all; omega)
    rw [e]
    exact l3_12_3 h hA hB hC hD
   replace hD : nu.length = 0 := by omega
   ·have e : dataOk ⟨nm, 12, tt, ad, to, tx, nu⟩ = true := by simp [dataOk, named_12, texted_12]; first | done | omega | (simp [*]; done) | (simp [*]; omega) | (intros; omega) | (simp_all; done) | (simp_all; omega)
    rw [e]
    exact l3_12_4 h hA hB hC hD
 ·skip
  by_cases hA : ad ≠ 0
  ·have e : dataOk ⟨nm, 16, tt, ad, to, tx, nu⟩ = false := by simp [dataOk, named_16, texted_16]; first | done | omega | (simp [*]; done) | (simp [*]; omega) | (intros; omega) | (simp_all; done) | (simp_all; omega)
   rw [e]
   exact l3_16_0 h hA
  replace hA : ad = 0 := by omega
  by_cases hB : to.length ≠ 0
  ·have e : dataOk ⟨nm, 16, tt, ad, to, tx, nu⟩ = false := by simp [dataOk, named_16, texted_16]; first | done | omega | (simp [*]; done) | (simp [*]; omega) | (intros; omega) | (simp_all; done) | (simp_all; omega)
   rw [e]
   exact l3_16_1 h hA hB
  replace hB : to.length = 0 := by omega
  by_cases hC : 40 < tx.length
  ·have e : dataOk ⟨nm, 16, tt, ad, to, tx, nu⟩ = false := by simp [dataOk, named_16, texted_16]; first | done | omega | (simp [*]; done) | (simp [*]; omega) | (intros; omega) | (simp_all; done) | (simp_all; omega)
   rw [e]
   exact l3_16_2 h hA hB hC
  replace hC : tx.length ≤ 40 := by omega
  by_cases hD : nu.length ≠ 0
  ·have e : dataOk ⟨nm, 16, tt, ad, to, tx, nu⟩ = false := by simp [dataOk, named_16, texted_16]; first | done | omega | (simp [*]; done) | (simp [*]; omega) | (intros; omega) | (simp_all; done) | (simp_all; omega)
   rw [e]
   exact l3_16_3 h hA hB hC hD
  replace hD : nu.length = 0 := by omega
  ·have e : dataOk ⟨nm, 16, tt, ad, to, tx, nu⟩ = true := by simp [dataOk, named_16, texted_16]; first | done | omega | (simp [*]; done) | (simp [*]; omega) | (intros; omega) | (simp_all; done) | (simp_all; omega)
   rw [e]
   exact l3_16_4 h hA hB hC hD
 ·skip
  by_cases hA : ad ≠ 0
  ·have e : dataOk ⟨nm, 49, tt, ad, to, tx, nu⟩ = false := by simp [dataOk, named_49, texted_49]; first | done | omega | (simp [*]; done) | (simp [*]; omega) | (intros; omega) | (simp_all; done) | (simp_all; omega)
   rw [e]
   exact l3_49_0 h hA
  replace hA : ad = 0 := by omega
  by_cases hB : to.length ≠ 0
  ·have e : dataOk ⟨nm, 49, tt, ad, to, tx, nu⟩ = false := by simp [dataOk, named_49, texted_49]; first | done | omega | (simp [*]; done) | (simp [*]; omega) | (intros; omega) | (simp_all; done) | (simp_all; omega)
   rw [e]
   exact l3_49_1 h hA hB
  replace hB : to.length = 0 := by omega
  by_cases hC : 40 < tx.length
  ·have e : dataOk ⟨nm, 49, tt, ad, to, tx, nu⟩ = false := by simp [dataOk, named_49, texted_49]; first | done | omega | (simp [*]; done) | (simp [*]; omega) | (intros; omega) | (simp_all; done) | (simp_all; omega)
   rw [e]
   exact l3_49_2 h hA hB hC
  replace hC : tx.length ≤ 40 := by omega
  by_cases hD : nu.length ≠ 0
  ·have e : dataOk ⟨nm, 49, tt, ad, to, tx, nu⟩ = false := by simp [dataOk, named_49, texted_49]; first | done | omega | (simp [*]; done) | (simp [*]; omega) | (intros; omega) | (simp_all; done) | (simp_all; omega)
   rw [e]
   exact l3_49_3 h hA hB hC hD
  replace hD : nu.length = 0 := by omega
  ·have e : dataOk ⟨nm, 49, tt, ad, to, tx, nu⟩ = true := by simp [dataOk, named_49, texted_49]; first | done | omega | (simp [*]; done) | (simp [*]; omega) | (intros; omega) | (simp_all; done) | (simp_all; omega)
   rw [e]
   exact l3_49_4 h hA hB hC hD
 ·rw [ht] at h0; cases h0

theorem specRrOk_has {vn vt vx vi : Value} {r : Rec} {w : World} (h : HasR w vn vt vx vi r) :
  Calls Tryd.prog 16 #[.agg #[vn, .int .i64 r.type, .int .i64 r.ttl, .int .i64 r.addr, vt, vx, vi]] w fun e w' => e = .returned (.bool (rrOk r)) ∧ Below w.heap.size w w' := by
 obtain ⟨na, nc, rfl, _⟩ := h.name.form
 obtain ⟨ta, tc, rfl, _⟩ := h.to.form
 obtain ⟨xa, xc, rfl, _⟩ := h.text.form
 obtain ⟨ia, ic, rfl, _⟩ := h.nums.form
 have b0 := UI (w := w) (.cells #[.slice na r.name.length nc, .int .i64 r.type, .int .i64 r.ttl, .int .i64 r.addr, .slice ta r.to.length tc, .slice xa r.text.length xc, .slice ia r.nums.length ic] 33)
 have K0 := UC (heap_alloc_new w (.cells #[.slice na r.name.length nc, .int .i64 r.type, .int .i64 r.ttl, .int .i64 r.addr, .slice ta r.to.length tc, .slice xa r.text.length xc, .slice ia r.nums.length ic] 33))
 have H0 := UC (h.below b0)
 clear h
 have LD := UC (fun (w : World) (vn vt vx vi : Value) (h : HasR w vn vt vx vi r) (ht : typeOk r.type = true) => l3data_has h ht)
 unfold rrOk
 have SN := UC (fun (w : World) (v : Value) (h : HasL w v r.name) => VO h)
 have ST := UC (specTypeOk_any r.type)
 generalize dataOk r = D at *
 generalize hN : nameOk r.name = N at *
 generalize hT : typeOk r.type = T at *
 clear hN
 cases N with
 | false =>
  rw [Bool.false_and]
  go_enter Tryd.func16, Tryd.ntmps16
  go_wp2_with fail
  generalize w.alloc (.cells #[.slice na r.name.length nc, .int .i64 r.type, .int .i64 r.ttl, .int .i64 r.addr, .slice ta r.to.length tc, .slice xa r.text.length xc, .slice ia r.nums.length ic] 33) = W at *
  refine (UB SN _ _ (UB H0).name).mono ?_
  rintro e w1 ⟨rfl, b1⟩
  go_wp2_with fail
  go_ret
  exact ⟨rfl, UG b0 b1⟩
 | true =>
  rw [Bool.true_and]
  cases T with
  | false =>
   rw [Bool.false_and]
   go_enter Tryd.func16, Tryd.ntmps16
   go_wp2_with fail
   generalize w.alloc (.cells #[.slice na r.name.length nc, .int .i64 r.type, .int .i64 r.ttl, .int .i64 r.addr, .slice ta r.to.length tc, .slice xa r.text.length xc, .slice ia r.nums.length ic] 33) = W at *
   refine (UB SN _ _ (UB H0).name).mono ?_
   rintro e w1 ⟨rfl, b1⟩
   have K1 := UC (UE b1 (UB K0))
   obtain ⟨d0, d1, d2, d3, d4, d5, d6⟩ := UJ (UB K1)
   go_wp2_with fail
   refine (UB ST _).mono ?_
   rintro e w2 ⟨rfl, rfl⟩
   go_wp2_with fail
   go_ret
   exact ⟨rfl, UG b0 b1⟩
  | true =>
   rw [Bool.true_and]
   by_cases hl : r.ttl < 0
   ·rw [decide_eq_false (by omega), Bool.false_and]
    have hl0 : decide (0 ≤ r.ttl) = false := decide_eq_false (by omega)
    go_enter Tryd.func16, Tryd.ntmps16
    go_wp2_with fail
    generalize w.alloc (.cells #[.slice na r.name.length nc, .int .i64 r.type, .int .i64 r.ttl, .int .i64 r.addr, .slice ta r.to.length tc, .slice xa r.text.length xc, .slice ia r.nums.length ic] 33) = W at *
    refine (UB SN _ _ (UB H0).name).mono ?_
    rintro e w1 ⟨rfl, b1⟩
    have K1 := UC (UE b1 (UB K0))
    obtain ⟨d0, d1, d2, d3, d4, d5, d6⟩ := UJ (UB K1)
    go_wp2_with fail
    refine (UB ST _).mono ?_
    rintro e w2 ⟨rfl, rfl⟩
    go_wp2_with fail
    go_ret
    exact ⟨rfl, UG b0 b1⟩
   by_cases hh : 100000 < r.ttl
   ·rw [decide_eq_false (by omega), Bool.false_and]
    have hl0 : decide (r.ttl ≤ 100000) = false := decide_eq_false (by omega)
    go_enter Tryd.func16, Tryd.ntmps16
    go_wp2_with fail
    generalize w.alloc (.cells #[.slice na r.name.length nc, .int .i64 r.type, .int .i64 r.ttl, .int .i64 r.addr, .slice ta r.to.length tc, .slice xa r.text.length xc, .slice ia r.nums.length ic] 33) = W at *
    refine (UB SN _ _ (UB H0).name).mono ?_
    rintro e w1 ⟨rfl, b1⟩
    have K1 := UC (UE b1 (UB K0))
    obtain ⟨d0, d1, d2, d3, d4, d5, d6⟩ := UJ (UB K1)
    go_wp2_with fail
    refine (UB ST _).mono ?_
    rintro e w2 ⟨rfl, rfl⟩
    go_wp2_with fail
    go_ret
    exact ⟨rfl, UG b0 b1⟩
   rw [decide_eq_true (by omega), Bool.true_and]
   have hl0 : decide (r.ttl ≤ 100000) = true := decide_eq_true (by omega)
   go_enter Tryd.func16, Tryd.ntmps16
   go_wp2_with fail
   generalize w.alloc (.cells #[.slice na r.name.length nc, .int .i64 r.type, .int .i64 r.ttl, .int .i64 r.addr, .slice ta r.to.length tc, .slice xa r.text.length xc, .slice ia r.nums.length ic] 33) = W at *
   refine (UB SN _ _ (UB H0).name).mono ?_
   rintro e w1 ⟨rfl, b1⟩
   have K1 := UC (UE b1 (UB K0))
   have H1 := UC ((UB H0).below b1)
   obtain ⟨d0, d1, d2, d3, d4, d5, d6⟩ := UJ (UB K1)
   go_wp2_with fail
   refine (UB ST _).mono ?_
   rintro e w2 ⟨rfl, rfl⟩
   go_wp2_with fail
   refine (UB LD _ _ _ _ _ (UB H1) trivial).mono ?_
   rintro e w3 ⟨rfl, b3⟩
   go_wp2_with fail
   go_ret
   exact ⟨rfl, UG (UG b0 b1) b3⟩
end Go.Proofs.YthmihglfffeedaaDoor
