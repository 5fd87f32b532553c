/-
  Contracts of the specification's l3data and RrOk. Contracts of the specification's l2put once more, with where it leaves the row; of its Put16 and Put32 for longer rows; of its l3rr and RrPut.
-/
import Derived.Test.YtfpenlobnnlnfaaGreatDoorMsgTextG29
import Derived.Test.YtfpenlobnnlnfaaGreatDoorMsgTextG12
import Derived.Test.YtfpenlobnnlnfaaGreatDoorMsgTextG10
import Derived.Test.YtfpenlobnnlnfaaGreatDoorMsgTextG36
import Derived.Deep.RegionHeld3
import Derived.Deep.RegionWith
namespace Go.Proofs.YtfpenlobnnlnfaaGreatDoor
open Go.RowKit
set_option linter.unusedVariables false
set_option maxHeartbeats 1000000
set_option maxRecDepth 100000

theorem l3data_has {vn vt vx vi : Value} {r : Rec} {w : World} (h : HasR w vn vt vx vi r) (ht : typeOk r.type = true) :
  Calls Tryz.prog 119 #[.agg #[vn, .int .i64 r.type, .int .i64 r.ttl, .int .i64 r.addr, vt, vx, vi]] w fun e w' => e = .returned (.bool (dataOk r)) ∧ Below w.heap.size w w' := by
 obtain ⟨na, nc, rfl, _⟩ := h.name.form
 obtain ⟨ta, tc, rfl, _⟩ := h.to.form
 obtain ⟨xa, xc, rfl, _⟩ := h.text.form
 obtain ⟨ia, ic, rfl, _⟩ := h.nums.form
 obtain ⟨nm, ty, tt, ad, to, tx, nu⟩ := r
 simp only at *
 rcases type_cases ty with rfl | rfl | rfl | rfl | rfl | rfl | rfl | h0
 ·skip
  by_cases hA : ad < 0
  ·have e : dataOk ⟨nm, 1, tt, ad, to, tx, nu⟩ = false := by simp [dataOk, named_1, texted_1]; first | done | omega | (simp [*]; done) | (simp [*]; omega) | (intros; omega) | (simp_all; done) | (simp_all; omega)
   rw [e]
   exact l3_1_0 h hA
  by_cases hA3 : 4294967295 < ad
  ·have hA0 := hA
   have e : dataOk ⟨nm, 1, tt, ad, to, tx, nu⟩ = false := by simp [dataOk, named_1, texted_1]; first | done | omega | (simp [*]; done) | (simp [*]; omega) | (intros; omega) | (simp_all; done) | (simp_all; omega)
   rw [e]
   exact l3_1_1 h hA3 hA0
  replace hA : 0 ≤ ad := by omega
  have hA2 : ad ≤ 4294967295 := by omega
  by_cases hB : to.length ≠ 0
  ·have e : dataOk ⟨nm, 1, tt, ad, to, tx, nu⟩ = false := by simp [dataOk, named_1, texted_1]; first | done | omega | (simp [*]; done) | (simp [*]; omega) | (intros; omega) | (simp_all; done) | (simp_all; omega)
   rw [e]
   exact l3_1_2 h hA hA2 hB
  replace hB : to.length = 0 := by omega
  by_cases hC : tx.length ≠ 0
  ·have e : dataOk ⟨nm, 1, tt, ad, to, tx, nu⟩ = false := by simp [dataOk, named_1, texted_1]; first | done | omega | (simp [*]; done) | (simp [*]; omega) | (intros; omega) | (simp_all; done) | (simp_all; omega)
   rw [e]
   exact l3_1_3 h hA hA2 hB hC
  replace hC : tx.length = 0 := by omega
  by_cases hD : nu.length ≠ 0
  ·have e : dataOk ⟨nm, 1, tt, ad, to, tx, nu⟩ = false := by simp [dataOk, named_1, texted_1]; first | done | omega | (simp [*]; done) | (simp [*]; omega) | (intros; omega) | (simp_all; done) | (simp_all; omega)
   rw [e]
   exact l3_1_4 h hA hA2 hB hC hD
  replace hD : nu.length = 0 := by omega
  ·have e : dataOk ⟨nm, 1, tt, ad, to, tx, nu⟩ = true := by simp [dataOk, named_1, texted_1]; first | done | omega | (simp [*]; done) | (simp [*]; omega) | (intros; omega) | (simp_all; done) | (simp_all; omega)
   rw [e]
   exact l3_1_5 h hA hA2 hB hC hD
 ·skip
  by_cases hA : ad ≠ 0
  ·have e : dataOk ⟨nm, 2, tt, ad, to, tx, nu⟩ = false := by simp [dataOk, named_2, texted_2]; first | done | omega | (simp [*]; done) | (simp [*]; omega) | (intros; omega) | (simp_all; done) | (simp_all; omega)
   rw [e]
   exact l3_2_0 h hA
  replace hA : ad = 0 := by omega
  cases hB : nameOk to with
  | false =>
    have e : dataOk ⟨nm, 2, tt, ad, to, tx, nu⟩ = false := by simp [dataOk, named_2, texted_2]; first | done | omega | (simp [*]; done) | (simp [*]; omega) | (intros; omega) | (simp_all; done) | (simp_all; omega)
    rw [e]
    exact l3_2_1 h hA hB
  | true =>
   by_cases hC : tx.length ≠ 0
   ·have e : dataOk ⟨nm, 2, tt, ad, to, tx, nu⟩ = false := by simp [dataOk, named_2, texted_2]; first | done | omega | (simp [*]; done) | (simp [*]; omega) | (intros; omega) | (simp_all; done) | (simp_all; omega)
    rw [e]
    exact l3_2_2 h hA hB hC
   replace hC : tx.length = 0 := by omega
   by_cases hD : nu.length ≠ 0
   ·have e : dataOk ⟨nm, 2, tt, ad, to, tx, nu⟩ = false := by simp [dataOk, named_2, texted_2]; first | done | omega | (simp [*]; done) | (simp [*]; omega) | (intros; omega) | (simp_all; done) | (simp_all; omega)
    rw [e]
    exact l3_2_3 h hA hB hC hD
   replace hD : nu.length = 0 := by omega
   ·have e : dataOk ⟨nm, 2, tt, ad, to, tx, nu⟩ = true := by simp [dataOk, named_2, texted_2]; first | done | omega | (simp [*]; done) | (simp [*]; omega) | (intros; omega) | (simp_all; done) | (simp_all; omega)
    rw [e]
    exact l3_2_4 h hA hB hC hD
 ·skip
  by_cases hA : ad ≠ 0
  ·have e : dataOk ⟨nm, 5, tt, ad, to, tx, nu⟩ = false := by simp [dataOk, named_5, texted_5]; first | done | omega | (simp [*]; done) | (simp [*]; omega) | (intros; omega) | (simp_all; done) | (simp_all; omega)
   rw [e]
   exact l3_5_0 h hA
  replace hA : ad = 0 := by omega
  cases hB : nameOk to with
  | false =>
    have e : dataOk ⟨nm, 5, tt, ad, to, tx, nu⟩ = false := by simp [dataOk, named_5, texted_5]; first | done | omega | (simp [*]; done) | (simp [*]; omega) | (intros; omega) | (simp_all; done) | (simp_all; omega)
    rw [e]
    exact l3_5_1 h hA hB
  | true =>
   by_cases hC : tx.length ≠ 0
   ·have e : dataOk ⟨nm, 5, tt, ad, to, tx, nu⟩ = false := by simp [dataOk, named_5, texted_5]; first | done | omega | (simp [*]; done) | (simp [*]; omega) | (intros; omega) | (simp_all; done) | (simp_all; omega)
    rw [e]
    exact l3_5_2 h hA hB hC
   replace hC : tx.length = 0 := by omega
   by_cases hD : nu.length ≠ 0
   ·have e : dataOk ⟨nm, 5, tt, ad, to, tx, nu⟩ = false := by simp [dataOk, named_5, texted_5]; first | done | omega | (simp [*]; done) | (simp [*]; omega) | (intros; omega) | (simp_all; done) | (simp_all; omega)
    rw [e]
    exact l3_5_3 h hA hB hC hD
   replace hD : nu.length = 0 := by omega
   ·have e : dataOk ⟨nm, 5, tt, ad, to, tx, nu⟩ = true := by simp [dataOk, named_5, texted_5]; first | done | omega | (simp [*]; done) | (simp [*]; omega) | (intros; omega) | (simp_all; done) | (simp_all; omega)
    rw [e]
    exact l3_5_4 h hA hB hC hD
 ·skip
  by_cases hA : ad ≠ 0
  ·have e : dataOk ⟨nm, 6, tt, ad, to, tx, nu⟩ = false := by simp [dataOk, named_6, texted_6]; first | done | omega | (simp [*]; done) | (simp [*]; omega) | (intros; omega) | (simp_all; done) | (simp_all; omega)
   rw [e]
   exact l3_6_0 h hA
  replace hA : ad = 0 := by omega
  cases hB : nameOk to with
  | false =>
    have e : dataOk ⟨nm, 6, tt, ad, to, tx, nu⟩ = false := by simp [dataOk, named_6, texted_6]; first | done | omega | (simp [*]; done) | (simp [*]; omega) | (intros; omega) | (simp_all; done) | (simp_all; omega)
    rw [e]
    exact l3_6_1 h hA hB
  | true =>
   by_cases hC : tx.length ≠ 0
   ·have e : dataOk ⟨nm, 6, tt, ad, to, tx, nu⟩ = false := by simp [dataOk, named_6, texted_6]; first | done | omega | (simp [*]; done) | (simp [*]; omega) | (intros; omega) | (simp_all; done) | (simp_all; omega)
    rw [e]
    exact l3_6_2 h hA hB hC
   replace hC : tx.length = 0 := by omega
   by_cases hD : nu.length ≠ 2
   ·have e : dataOk ⟨nm, 6, tt, ad, to, tx, nu⟩ = false := by simp [dataOk, named_6, texted_6]; first | done | omega | (simp [*]; done) | (simp [*]; omega) | (intros; omega) | (simp_all; done) | (simp_all; omega)
    rw [e]
    exact l3_6_3 h hA hB hC hD
   replace hD : nu.length = 2 := by omega
   by_cases hE : nu.getD 0 0 < 0
   ·have e : dataOk ⟨nm, 6, tt, ad, to, tx, nu⟩ = false := by simp [dataOk, named_6, texted_6]; first | done | omega | (simp [*]; done) | (simp [*]; omega) | (intros; omega) | (simp_all; done) | (simp_all; omega)
    rw [e]
    exact l3_6_4 h hA hB hC hD hE
   replace hE : 0 ≤ nu.getD 0 0 := by omega
   by_cases hF : 4294967295 < nu.getD 0 0
   ·have e : dataOk ⟨nm, 6, tt, ad, to, tx, nu⟩ = false := by simp [dataOk, named_6, texted_6]; first | done | omega | (simp [*]; done) | (simp [*]; omega) | (intros; omega) | (simp_all; done) | (simp_all; omega)
    rw [e]
    exact l3_6_5 h hA hB hC hD hE hF
   replace hF : nu.getD 0 0 ≤ 4294967295 := by omega
   by_cases hG : nu.getD 1 0 < 0
   ·have e : dataOk ⟨nm, 6, tt, ad, to, tx, nu⟩ = false := by simp [dataOk, named_6, texted_6]; first | done | omega | (simp [*]; done) | (simp [*]; omega) | (intros; omega) | (simp_all; done) | (simp_all; omega)
    rw [e]
    exact l3_6_6 h hA hB hC hD hE hF hG
   replace hG : 0 ≤ nu.getD 1 0 := by omega
   by_cases hH : 100000 < nu.getD 1 0
   ·have e : dataOk ⟨nm, 6, tt, ad, to, tx, nu⟩ = false := by simp [dataOk, named_6, texted_6]; first | done | omega | (simp [*]; done) | (simp [*]; omega) | (intros; omega) | (simp_all; done) | (simp_all; omega)
    rw [e]
    exact l3_6_7 h hA hB hC hD hE hF hG hH
   replace hH : nu.getD 1 0 ≤ 100000 := by omega
   ·have e : dataOk ⟨nm, 6, tt, ad, to, tx, nu⟩ = true := by simp [dataOk, named_6, texted_6]; first | done | omega | (simp [*]; done) | (simp [*]; omega) | (intros; omega) | (simp_all; done) | (simp_all; omega)
    rw [e]
    exact l3_6_8 h hA hB hC hD hE hF hG hH
 ·skip
  by_cases hA : ad ≠ 0
  ·have e : dataOk ⟨nm, 12, tt, ad, to, tx, nu⟩ = false := by simp [dataOk, named_12, texted_12]; first | done | omega | (simp [*]; done) | (simp [*]; omega) | (intros; omega) | (simp_all; done) | (simp_all; omega)
   rw [e]
   exact l3_12_0 h hA
  replace hA : ad = 0 := by omega
  cases hB : nameOk to with
  | false =>
    have e : dataOk ⟨nm, 12, tt, ad, to, tx, nu⟩ = false := by simp [dataOk, named_12, texted_12]; first | done | omega | (simp [*]; done) | (simp [*]; omega) | (intros; omega) | (simp_all; done) | (simp_all; omega)
    rw [e]
    exact l3_12_1 h hA hB
  | true =>
   by_cases hC : tx.length ≠ 0
   ·have e : dataOk ⟨nm, 12, tt, ad, to, tx, nu⟩ = false := by simp [dataOk, named_12, texted_12]; first | done | omega | (simp [*]; done) | (simp [*]; omega) | (intros; omega) | (simp_all; done) | (simp_all; omega)
    rw [e]
    exact l3_12_2 h hA hB hC
   replace hC : tx.length = 0 := by omega
   by_cases hD : nu.length ≠ 0
   ·have e : dataOk ⟨nm, 12, tt, ad, to, tx, nu⟩ = false := by simp [dataOk, named_12, texted_12]; first | done | omega | (simp [*]; done) | (simp [*]; omega) | (intros; omega) | (simp_all; done) | (simp_all; omega)
    rw [e]
    exact l3_12_3 h hA hB hC hD
   replace hD : nu.length = 0 := by omega
   ·have e : dataOk ⟨nm, 12, tt, ad, to, tx, nu⟩ = true := by simp [dataOk, named_12, texted_12]; first | done | omega | (simp [*]; done) | (simp [*]; omega) | (intros; omega) | (simp_all; done) | (simp_all; omega)
    rw [e]
    exact l3_12_4 h hA hB hC hD
 ·skip
  by_cases hA : ad ≠ 0
  ·have e : dataOk ⟨nm, 16, tt, ad, to, tx, nu⟩ = false := by simp [dataOk, named_16, texted_16]; first | done | omega | (simp [*]; done) | (simp [*]; omega) | (intros; omega) | (simp_all; done) | (simp_all; omega)
   rw [e]
   exact l3_16_0 h hA
  replace hA : ad = 0 := by omega
  by_cases hB : to.length ≠ 0
  ·have e : dataOk ⟨nm, 16, tt, ad, to, tx, nu⟩ = false := by simp [dataOk, named_16, texted_16]; first | done | omega | (simp [*]; done) | (simp [*]; omega) | (intros; omega) | (simp_all; done) | (simp_all; omega)
   rw [e]
   exact l3_16_1 h hA hB
  replace hB : to.length = 0 := by omega
  by_cases hC : 40 < tx.length
  ·have e : dataOk ⟨nm, 16, tt, ad, to, tx, nu⟩ = false := by simp [dataOk, named_16, texted_16]; first | done | omega | (simp [*]; done) | (simp [*]; omega) | (intros; omega) | (simp_all; done) | (simp_all; omega)
   rw [e]
   exact l3_16_2 h hA hB hC
  replace hC : tx.length ≤ 40 := by omega
  by_cases hD : nu.length ≠ 0
  ·have e : dataOk ⟨nm, 16, tt, ad, to, tx, nu⟩ = false := by simp [dataOk, named_16, texted_16]; first | done | omega | (simp [*]; done) | (simp [*]; omega) | (intros; omega) | (simp_all; done) | (simp_all; omega)
   rw [e]
   exact l3_16_3 h hA hB hC hD
  replace hD : nu.length = 0 := by omega
  ·have e : dataOk ⟨nm, 16, tt, ad, to, tx, nu⟩ = true := by simp [dataOk, named_16, texted_16]; first | done | omega | (simp [*]; done) | (simp [*]; omega) | (intros; omega) | (simp_all; done) | (simp_all; omega)
   rw [e]
   exact l3_16_4 h hA hB hC hD
 ·skip
  by_cases hA : ad ≠ 0
  ·have e : dataOk ⟨nm, 49, tt, ad, to, tx, nu⟩ = false := by simp [dataOk, named_49, texted_49]; first | done | omega | (simp [*]; done) | (simp [*]; omega) | (intros; omega) | (simp_all; done) | (simp_all; omega)
   rw [e]
   exact l3_49_0 h hA
  replace hA : ad = 0 := by omega
  by_cases hB : to.length ≠ 0
  ·have e : dataOk ⟨nm, 49, tt, ad, to, tx, nu⟩ = false := by simp [dataOk, named_49, texted_49]; first | done | omega | (simp [*]; done) | (simp [*]; omega) | (intros; omega) | (simp_all; done) | (simp_all; omega)
   rw [e]
   exact l3_49_1 h hA hB
  replace hB : to.length = 0 := by omega
  by_cases hC : 40 < tx.length
  ·have e : dataOk ⟨nm, 49, tt, ad, to, tx, nu⟩ = false := by simp [dataOk, named_49, texted_49]; first | done | omega | (simp [*]; done) | (simp [*]; omega) | (intros; omega) | (simp_all; done) | (simp_all; omega)
   rw [e]
   exact l3_49_2 h hA hB hC
  replace hC : tx.length ≤ 40 := by omega
  by_cases hD : nu.length ≠ 0
  ·have e : dataOk ⟨nm, 49, tt, ad, to, tx, nu⟩ = false := by simp [dataOk, named_49, texted_49]; first | done | omega | (simp [*]; done) | (simp [*]; omega) | (intros; omega) | (simp_all; done) | (simp_all; omega)
   rw [e]
   exact l3_49_3 h hA hB hC hD
  replace hD : nu.length = 0 := by omega
  ·have e : dataOk ⟨nm, 49, tt, ad, to, tx, nu⟩ = true := by simp [dataOk, named_49, texted_49]; first | done | omega | (simp [*]; done) | (simp [*]; omega) | (intros; omega) | (simp_all; done) | (simp_all; omega)
   rw [e]
   exact l3_49_4 h hA hB hC hD
 ·rw [ht] at h0; cases h0

theorem specRrOk_has {vn vt vx vi : Value} {r : Rec} {w : World} (h : HasR w vn vt vx vi r) :
  Calls Tryz.prog 91 #[.agg #[vn, .int .i64 r.type, .int .i64 r.ttl, .int .i64 r.addr, vt, vx, vi]] w fun e w' => e = .returned (.bool (rrOk r)) ∧ Below w.heap.size w w' := by
 obtain ⟨na, nc, rfl, _⟩ := h.name.form
 obtain ⟨ta, tc, rfl, _⟩ := h.to.form
 obtain ⟨xa, xc, rfl, _⟩ := h.text.form
 obtain ⟨ia, ic, rfl, _⟩ := h.nums.form
 have b0 := UI (w := w) (.cells #[.slice na r.name.length nc, .int .i64 r.type, .int .i64 r.ttl, .int .i64 r.addr, .slice ta r.to.length tc, .slice xa r.text.length xc, .slice ia r.nums.length ic] 77)
 have K0 := UC (heap_alloc_new w (.cells #[.slice na r.name.length nc, .int .i64 r.type, .int .i64 r.ttl, .int .i64 r.addr, .slice ta r.to.length tc, .slice xa r.text.length xc, .slice ia r.nums.length ic] 77))
 have H0 := UC (h.below b0)
 clear h
 have LD := UC (fun (w : World) (vn vt vx vi : Value) (h : HasR w vn vt vx vi r) (ht : typeOk r.type = true) => l3data_has h ht)
 unfold rrOk
 have SN := UC (fun (w : World) (v : Value) (h : HasL w v r.name) => VO h)
 have ST := UC (specTypeOk_any r.type)
 generalize dataOk r = D at *
 generalize hN : nameOk r.name = N at *
 generalize hT : typeOk r.type = T at *
 clear hN
 cases N with
 | false =>
  rw [Bool.false_and]
  go_enter Tryz.func91, Tryz.ntmps91
  go_wp2_with fail
  generalize w.alloc (.cells #[.slice na r.name.length nc, .int .i64 r.type, .int .i64 r.ttl, .int .i64 r.addr, .slice ta r.to.length tc, .slice xa r.text.length xc, .slice ia r.nums.length ic] 77) = W at *
  refine (UB SN _ _ (UB H0).name).mono ?_
  rintro e w1 ⟨rfl, b1⟩
  go_wp2_with fail
  go_ret
  exact ⟨rfl, UG b0 b1⟩
 | true =>
  rw [Bool.true_and]
  cases T with
  | false =>
   rw [Bool.false_and]
   go_enter Tryz.func91, Tryz.ntmps91
   go_wp2_with fail
   generalize w.alloc (.cells #[.slice na r.name.length nc, .int .i64 r.type, .int .i64 r.ttl, .int .i64 r.addr, .slice ta r.to.length tc, .slice xa r.text.length xc, .slice ia r.nums.length ic] 77) = W at *
   refine (UB SN _ _ (UB H0).name).mono ?_
   rintro e w1 ⟨rfl, b1⟩
   have K1 := UC (UE b1 (UB K0))
   obtain ⟨d0, d1, d2, d3, d4, d5, d6⟩ := UJ (UB K1)
   go_wp2_with fail
   refine (UB ST _).mono ?_
   rintro e w2 ⟨rfl, rfl⟩
   go_wp2_with fail
   go_ret
   exact ⟨rfl, UG b0 b1⟩
  | true =>
   rw [Bool.true_and]
   by_cases hl : r.ttl < 0
   ·rw [decide_eq_false (by omega), Bool.false_and]
    have hl0 : decide (0 ≤ r.ttl) = false := decide_eq_false (by omega)
    go_enter Tryz.func91, Tryz.ntmps91
    go_wp2_with fail
    generalize w.alloc (.cells #[.slice na r.name.length nc, .int .i64 r.type, .int .i64 r.ttl, .int .i64 r.addr, .slice ta r.to.length tc, .slice xa r.text.length xc, .slice ia r.nums.length ic] 77) = W at *
    refine (UB SN _ _ (UB H0).name).mono ?_
    rintro e w1 ⟨rfl, b1⟩
    have K1 := UC (UE b1 (UB K0))
    obtain ⟨d0, d1, d2, d3, d4, d5, d6⟩ := UJ (UB K1)
    go_wp2_with fail
    refine (UB ST _).mono ?_
    rintro e w2 ⟨rfl, rfl⟩
    go_wp2_with fail
    go_ret
    exact ⟨rfl, UG b0 b1⟩
   by_cases hh : 100000 < r.ttl
   ·rw [decide_eq_false (by omega), Bool.false_and]
    have hl0 : decide (r.ttl ≤ 100000) = false := decide_eq_false (by omega)
    go_enter Tryz.func91, Tryz.ntmps91
    go_wp2_with fail
    generalize w.alloc (.cells #[.slice na r.name.length nc, .int .i64 r.type, .int .i64 r.ttl, .int .i64 r.addr, .slice ta r.to.length tc, .slice xa r.text.length xc, .slice ia r.nums.length ic] 77) = W at *
    refine (UB SN _ _ (UB H0).name).mono ?_
    rintro e w1 ⟨rfl, b1⟩
    have K1 := UC (UE b1 (UB K0))
    obtain ⟨d0, d1, d2, d3, d4, d5, d6⟩ := UJ (UB K1)
    go_wp2_with fail
    refine (UB ST _).mono ?_
    rintro e w2 ⟨rfl, rfl⟩
    go_wp2_with fail
    go_ret
    exact ⟨rfl, UG b0 b1⟩
   rw [decide_eq_true (by omega), Bool.true_and]
   have hl0 : decide (r.ttl ≤ 100000) = true := decide_eq_true (by omega)
   go_enter Tryz.func91, Tryz.ntmps91
   go_wp2_with fail
   generalize w.alloc (.cells #[.slice na r.name.length nc, .int .i64 r.type, .int .i64 r.ttl, .int .i64 r.addr, .slice ta r.to.length tc, .slice xa r.text.length xc, .slice ia r.nums.length ic] 77) = W at *
   refine (UB SN _ _ (UB H0).name).mono ?_
   rintro e w1 ⟨rfl, b1⟩
   have K1 := UC (UE b1 (UB K0))
   have H1 := UC ((UB H0).below b1)
   obtain ⟨d0, d1, d2, d3, d4, d5, d6⟩ := UJ (UB K1)
   go_wp2_with fail
   refine (UB ST _).mono ?_
   rintro e w2 ⟨rfl, rfl⟩
   go_wp2_with fail
   refine (UB LD _ _ _ _ _ (UB H1) trivial).mono ?_
   rintro e w3 ⟨rfl, b3⟩
   go_wp2_with fail
   go_ret
   exact ⟨rfl, UG (UG b0 b1) b3⟩
set_option maxHeartbeats 2000000
set_option maxRecDepth 100000

theorem l2put_moved {B : Nat} {vb v : Value} {l : List Int} {n : List (List Int)} {w : World} (hvb : Own B 5 w vb l) (hB : B ≤ w.heap.size) (hl : l.length ≤ 1099511620000) (h : HasLAt B w v n) (h6 : n.length ≤ 6) (hlen : ∀ k, k < n.length → (n.getD k []).length ≤ 15) (hdl : ∀ k, (wires n k).length ≤ 16 * k) :
  Calls Tryz.prog 61 #[vb, .agg #[v]] w fun e w' => ∃ v', e = .returned v' ∧ Own B 5 w' v' (l ++ wire n) ∧ Below B w w' ∧ Moved w w' vb v' := by
 obtain ⟨a, cap, rfl, hcl, hm⟩ := h.hasL.form
 unfold maxLen at hm
 have HDS := UC (wires_succ n)
 have HD0 := UC (wires_zero n)
 have HLEN := UC hlen
 have HDL := UC hdl
 clear hdl hlen
 unfold wire
 generalize wires n = D at *
 have b0 := UI (w := w) (.cells #[.slice a n.length cap] 49)
 have k0 := heap_alloc_new w (.cells #[.slice a n.length cap] 49)
 have h0 := UC (h.below b0)
 have v0 := UC (hvb.alloc (.cells #[.slice a n.length cap] 49))
 have MV0 := (Moved.refl w vb).below b0
 clear h hvb
 have z0 := VC k0
 generalize hn : n.length = m at *
 have HN := UC hn
 clear hn
 go_enter Tryz.func61, Tryz.ntmps61
 go_wp2
 generalize w.alloc (.cells #[.slice a m cap] 49) = w1 at *
 go_loopw [0, 5] (fun o i wr => ∃ k : Nat, k ≤ m ∧ i = .int .i64 k ∧ Own B 5 wr o (l ++ D k) ∧ Below B w1 wr ∧ wr.heap[w.heap.size]? = some (.cells #[.slice a m cap] 49) ∧ Moved w wr vb o) (fun _ i _ => m - (intOf i).toNat)
 case atStart => exact ⟨0, Nat.zero_le _, rfl, by rw [UB HD0, List.append_nil]; exact UB v0, Below.refl _ _, k0, MV0⟩
 case round =>
  obtain ⟨k, hk, rfl, ho, hb, hk1, hmv⟩ := hrel
  have c1 := US hk1
  have zb : B ≤ wr.heap.size := by have := hb.size; omega
  have hdk := UB HDL k
  have hdk2 : (l ++ D k).length ≤ 1099511620000 + 96 := by rw [List.length_append]; omega
  by_cases hlt : k < m
  ·obtain ⟨b, off, u, rfl, hbl, hc, hu⟩ := ((UB h0).low hb (Nat.le_refl _)).here (k := k) (by rw [UB HN]; exact hlt)
   have hds := UC (UB HDS k hlt)
   have hlk := UB HLEN k hlt
   generalize n.getD k [] = lab at *
   have HU := UC hu
   obtain ⟨ua, uc, rfl, _⟩ := hu.form
   clear hu
   have hwrap := wrap_u8 lab.length (by omega)
   have hod := UC (ho.below (UX (w := wr)))
   have hbd := UC (hb.drew)
   have kd := UE (UX (w := wr)) hk1
   have hcd := US kd
   have hud : wr.drew.cell? ⟨b, off + k, none⟩ = some (.slice ua lab.length uc) := hc
   have HUAL := UC (show ∀ o, (wr.drew.alloc o).cell? ⟨b, off + k, none⟩ = some (.slice ua lab.length uc) from fun o => ((UI o).cell (p := ⟨b, off + k, none⟩) (by show b < wr.heap.size; omega)).trans hud)
   have KAL := UC (show ∀ o, (wr.drew.alloc o).heap[w.heap.size]? = some (.cells #[.slice (some ⟨b, off, none⟩) m cap] 49) from fun o => UE (UI o) kd)
   have BAL := UC (show ∀ o, Below B w1 (wr.drew.alloc o) from fun o => hb.drew.alloc zb o)
   have UAL := UC (show ∀ o, HasAt B (wr.drew.alloc o) (.slice ua lab.length uc) lab from fun o => (UB HU).low ((Below.refl B wr).drew.alloc zb o) (Nat.le_refl _))
   have ZAL := UC (show ∀ o, B ≤ (wr.drew.alloc o).heap.size from fun o => Nat.le_trans zb (UI (w := wr.drew) o).size)
   have MAL := UC (show ∀ o', Moved w (wr.drew.alloc o') vb _ from fun o' => (hmv.below UX).below (UI o'))
   have KD := UC kd
   have HC := UC hc
   clear ho kd hud hcd hc
   go_wp2_with fail
   clear c1
   go_region_held3 (fun w' => w'.cell? ⟨w.heap.size, 0, none⟩ = some (.slice (some ⟨b, off, none⟩) m cap) ∧ w'.cell? ⟨b, off + k, none⟩ = some (.slice ua lab.length uc))
    (first | exact ⟨US (UB KD), UB HC⟩ | exact ⟨US (UB KAL _), UB HUAL _⟩ | exact ⟨US k2, u2⟩ | exact ⟨US k3, u3⟩)
    (first
    | (refine step_append_where rfl (.tmp 13) (.tmp 21) 28 5 rfl Tryz.underlying28 VJ B _ _ (l ++ D k) [(lab.length : Int)] (by simp [Act.eval]) (by simp [Act.eval]) ((UB hod).alloc _) (own_lit wr.drew 0 5 [(lab.length : Int)] (Nat.zero_le _) (by simp [maxLen])).reads (by simp only [List.length_cons, List.length_nil]; omega) (UB ZAL _) ?_; intro v2 w2 o2 g2 hw2; have m2 := (UB MAL _).step g2 hw2; obtain ⟨k2, b2, z2, U2, u2⟩ := put_step g2 ((UB hod).alloc _) (UB ZAL _) (UB KAL _) (by decide) (UB BAL _) (UB UAL _) (UB HUAL _) hbl)
    | (refine step_append_where rfl (.tmp 22) (.tmp 27) 28 5 rfl Tryz.underlying28 VJ B _ _ ((l ++ D k) ++ [(lab.length : Int)]) lab (by simp [Act.eval]) (by simp [Act.eval]) o2 U2.has.reads (by rw [List.length_append, List.length_cons, List.length_nil]; omega) z2 ?_; intro v3 w3 o3 g3 hw3; have m3 := m2.step g3 hw3; obtain ⟨k3, b3, z3, U3, u3⟩ := put_step g3 o2 z2 k2 (by decide) b2 U2 u2 hbl))
   all_goals
    go_wp2_with fail
    exact ⟨⟨k + 1, by omega, by go_num, by rw [UB hds]; simpa only [List.append_assoc, List.singleton_append] using o3, b3, k3, m3⟩, by simp [intOf]; omega⟩
  ·obtain rfl : k = m := by omega
   go_wp2_with (at_builtin; refine append_where rfl _ _ 28 5 rfl Tryz.underlying28 VJ B _ _ (l ++ D k) [0] rfl rfl (ho.alloc _) (own_lit wr 0 5 [0] (Nat.zero_le _) (by simp [maxLen])).reads (by simp only [List.length_cons, List.length_nil]; omega) (by simp; omega) ?_)
   intro v4 w4 o4 g4 hw4
   have m4 := Moved.step (u' := v4) (hmv.below (UI _)) g4 (by rcases hw4 with h4 | h4; exact .inl h4; right; rw [h4]; simp)
   have b4 : Below B w1 w4 := (hb.alloc zb _).grown g4 (by simp; omega) (fun q hq => (ho.lt q hq).1)
   go_wp2_with fail
   go_ret
   exact ⟨v4, rfl, by simpa only [List.append_assoc] using o4, (b0.mono hB).trans b4, m4⟩

theorem specPut16w_no {B : Nat} {v : Value} {l : List Int} (n : Int) {w : World} (h : Own B 5 w v l) (hl : l.length ≤ 2000000) (hn : n < 0 ∨ 65535 < n) :
  Calls Tryz.prog 60 #[v, .int .i64 n] w fun e w' => ∃ v', e = .returned v' ∧ Own w.heap.size 5 w' v' l ∧ Below w.heap.size w w' := by
 by_cases h0 : n < 0
 ·go_enter Tryz.func60, Tryz.ntmps60
  go_wp2_with (at_builtin; refine append_bytes rfl _ _ 28 5 rfl Tryz.underlying28 VJ w.heap.size _ v [] l rfl rfl (own_lit w w.heap.size 5 [] (Nat.le_refl _) (by simp)) (h.alloc _).reads (by simp; omega) (by simp) ?_)
  intro v' w2 hown hgrow
  go_wp2
  go_ret
  exact ⟨v', rfl, hown, ((Below.refl _ _).alloc (Nat.le_refl _) _).grown hgrow (by simp) (fun k hk => by simp [Value.ownBlock] at hk; omega)⟩
 ·have h1 : 65535 < n := by omega
  go_enter Tryz.func60, Tryz.ntmps60
  go_wp2_with (at_builtin; refine append_bytes rfl _ _ 28 5 rfl Tryz.underlying28 VJ w.heap.size _ v [] l rfl rfl (own_lit w w.heap.size 5 [] (Nat.le_refl _) (by simp)) (h.alloc _).reads (by simp; omega) (by simp) ?_)
  intro v' w2 hown hgrow
  go_wp2
  go_ret
  exact ⟨v', rfl, hown, ((Below.refl _ _).alloc (Nat.le_refl _) _).grown hgrow (by simp) (fun k hk => by simp [Value.ownBlock] at hk; omega)⟩

theorem specPut16w_yes {B : Nat} {v : Value} {l : List Int} (n : Int) {w : World} (h : Own B 5 w v l) (hl : l.length ≤ 2000000) (h0 : 0 ≤ n) (h1 : n ≤ 65535) :
  Calls Tryz.prog 60 #[v, .int .i64 n] w fun e w' => ∃ v', e = .returned v' ∧ Own w.heap.size 5 w' v' (l ++ [n / 256, n % 256]) ∧ Below w.heap.size w w' := by
 go_enter Tryz.func60, Tryz.ntmps60
 go_wp2_with (at_builtin; refine append_bytes rfl _ _ 28 5 rfl Tryz.underlying28 VJ w.heap.size _ v [] l rfl rfl (own_lit w w.heap.size 5 [] (Nat.le_refl _) (by simp)) (h.alloc _).reads (by simp; omega) (by simp) ?_)
 intro v1 w1 o1 hgrow
 have b1 : Below w.heap.size w w1 := ((Below.refl _ _).alloc (Nat.le_refl _) _).grown hgrow (by simp) (fun k hk => by simp [Value.ownBlock] at hk; omega)
 clear hgrow
 have hsz := b1.size
 go_wp2_with (at_builtin; refine append_bytes rfl _ _ 28 5 rfl Tryz.underlying28 VJ w.heap.size v1 _ l [n / 256, n % 256] rfl rfl (o1.alloc _) (own_put16 w1 0 5 n (Nat.zero_le _)).reads (by simp; omega) (by simp; omega) ?_)
 intro v' w2 hown hgrow
 go_wp2
 go_ret
 exact ⟨v', rfl, hown, (b1.alloc hsz _).grown hgrow (by simp; omega) (fun k hk => (o1.lt k hk).1)⟩

theorem specPut16w_any {B : Nat} {v : Value} {l : List Int} (n : Int) {w : World} (h : Own B 5 w v l) (hl : l.length ≤ 2000000) :
  Calls Tryz.prog 60 #[v, .int .i64 n] w fun e w' => ∃ v', e = .returned v' ∧ Own w.heap.size 5 w' v' (put16 l n) ∧ Below w.heap.size w w' := by
 by_cases hn : 0 ≤ n ∧ n ≤ 65535
 ·have e : put16 l n = l ++ [n / 256, n % 256] := by unfold put16; rw [if_pos hn]
  rw [e]; exact specPut16w_yes n h hl hn.1 hn.2
 ·have e : put16 l n = l := by unfold put16; rw [if_neg hn]
  rw [e]; exact specPut16w_no n h hl (by omega)
theorem specPut32w_no {B : Nat} {v : Value} {l : List Int} (n : Int) {w : World} (h : Own B 5 w v l) (hl : l.length ≤ 2000000) (hn : n < 0 ∨ 4294967295 < n) :
  Calls Tryz.prog 93 #[v, .int .i64 n] w fun e w' => ∃ v', e = .returned v' ∧ Own w.heap.size 5 w' v' l ∧ Below w.heap.size w w' := by
 by_cases h0 : n < 0
 ·go_enter Tryz.func93, Tryz.ntmps93
  go_wp2_with (at_builtin; refine append_bytes rfl _ _ 28 5 rfl Tryz.underlying28 VJ w.heap.size _ v [] l rfl rfl (own_lit w w.heap.size 5 [] (Nat.le_refl _) (by simp)) (h.alloc _).reads (by simp; omega) (by simp) ?_)
  intro v' w2 hown hgrow
  go_wp2
  go_ret
  exact ⟨v', rfl, hown, ((Below.refl _ _).alloc (Nat.le_refl _) _).grown hgrow (by simp) (fun k hk => by simp [Value.ownBlock] at hk; omega)⟩
 ·have h1 : 4294967295 < n := by omega
  go_enter Tryz.func93, Tryz.ntmps93
  go_wp2_with (at_builtin; refine append_bytes rfl _ _ 28 5 rfl Tryz.underlying28 VJ w.heap.size _ v [] l rfl rfl (own_lit w w.heap.size 5 [] (Nat.le_refl _) (by simp)) (h.alloc _).reads (by simp; omega) (by simp) ?_)
  intro v' w2 hown hgrow
  go_wp2
  go_ret
  exact ⟨v', rfl, hown, ((Below.refl _ _).alloc (Nat.le_refl _) _).grown hgrow (by simp) (fun k hk => by simp [Value.ownBlock] at hk; omega)⟩

theorem specPut32w_yes {B : Nat} {v : Value} {l : List Int} (n : Int) {w : World} (h : Own B 5 w v l) (hl : l.length ≤ 2000000) (h0 : 0 ≤ n) (h1 : n ≤ 4294967295) :
  Calls Tryz.prog 93 #[v, .int .i64 n] w fun e w' => ∃ v', e = .returned v' ∧ Own w.heap.size 5 w' v' (l ++ [n / 16777216, n / 65536 % 256, n / 256 % 256, n % 256]) ∧ Below w.heap.size w w' := by
 go_enter Tryz.func93, Tryz.ntmps93
 go_wp2_with (at_builtin; refine append_bytes rfl _ _ 28 5 rfl Tryz.underlying28 VJ w.heap.size _ v [] l rfl rfl (own_lit w w.heap.size 5 [] (Nat.le_refl _) (by simp)) (h.alloc _).reads (by simp; omega) (by simp) ?_)
 intro v1 w1 o1 hgrow
 have b1 : Below w.heap.size w w1 := ((Below.refl _ _).alloc (Nat.le_refl _) _).grown hgrow (by simp) (fun k hk => by simp [Value.ownBlock] at hk; omega)
 clear hgrow
 have hsz := b1.size
 go_wp2_with (at_builtin; refine append_bytes rfl _ _ 28 5 rfl Tryz.underlying28 VJ w.heap.size v1 _ l [n / 16777216, n / 65536 % 256, n / 256 % 256, n % 256] rfl rfl (o1.alloc _) (own_put32 w1 0 5 n (Nat.zero_le _)).reads (by simp; omega) (by simp; omega) ?_)
 intro v' w2 hown hgrow
 go_wp2
 go_ret
 exact ⟨v', rfl, hown, (b1.alloc hsz _).grown hgrow (by simp; omega) (fun k hk => (o1.lt k hk).1)⟩

theorem specPut32w_any {B : Nat} {v : Value} {l : List Int} (n : Int) {w : World} (h : Own B 5 w v l) (hl : l.length ≤ 2000000) :
  Calls Tryz.prog 93 #[v, .int .i64 n] w fun e w' => ∃ v', e = .returned v' ∧ Own w.heap.size 5 w' v' (put32 l n) ∧ Below w.heap.size w w' := by
 by_cases hn : 0 ≤ n ∧ n ≤ 4294967295
 ·have e : put32 l n = l ++ [n / 16777216, n / 65536 % 256, n / 256 % 256, n % 256] := by unfold put32; rw [if_pos hn]
  rw [e]; exact specPut32w_yes n h hl hn.1 hn.2
 ·have e : put32 l n = l := by unfold put32; rw [if_neg hn]
  rw [e]; exact specPut32w_no n h hl (by omega)
end Go.Proofs.YtfpenlobnnlnfaaGreatDoor
