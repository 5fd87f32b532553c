/-
  Contracts of the program's RrOk where name and time may be, for one kind of data. Contracts of the program's RrOk. A region that draws its order, one way through it: what only looks is taken in the order of its number, whether its guard wants it or not. A region that draws its order, taken in the order of its numbers: that this may be is asked once a region. What only hands flags on, or is not wanted, is done in one step.
-/
import Derived.Test.YtfpenlobnnlnfaaGreatDoorMsgTextG15
import Derived.Test.YtfpenlobnnlnfaaGreatDoorMsgTextG16
import Derived.Deep.RegionWith
import Derived.Test.YtfpenlobnnlnfaaGreatDoorMsgTextG03
import Derived.Deep.RegionHeld3
namespace Go.Proofs.YtfpenlobnnlnfaaGreatDoor
open Go.RowKit
set_option linter.unusedVariables false
set_option maxHeartbeats 1000000
set_option maxRecDepth 100000


theorem rrOkData_X_true {na : Option Addr} {nc : Nat} {ta : Option Addr} {tc : Nat} {xa : Option Addr} {xc : Nat} {ia : Option Addr} {ic : Nat} {nm to : List (List Int)} {tx nu : List Int} {tt ad : Int} {w : World} {ty : Int} (hk : kindV ty = .iface 154 (.agg #[.slice none 0 0])) (hto : typeOk ty = true) (h : HasR w (.slice na nm.length nc) (.slice ta to.length tc) (.slice xa tx.length xc) (.slice ia nu.length ic) ⟨nm, ty, tt, ad, to, tx, nu⟩) (hN : nameOk nm = true) (ht0 : 0 ≤ tt) (ht1 : tt ≤ 100000) (hD : decide (tx.length ≤ 40) = true) :
  Calls Tryz.prog 81 #[.agg #[.slice na nm.length nc, .int .i64 ty, .int .i64 tt, .int .i64 ad, .slice ta to.length tc, .slice xa tx.length xc, .slice ia nu.length ic]] w fun e w' => e = .returned (.bool (decide (ad = 0 ∧ to.length = 0 ∧ tx.length = tx.length ∧ nu.length = 0))) ∧ Below w.heap.size w w' := by
 have b0 := UI (w := w) (.cells #[.slice na nm.length nc, .int .i64 ty, .int .i64 tt, .int .i64 ad, .slice ta to.length tc, .slice xa tx.length xc, .slice ia nu.length ic] 77)
 have K0 := UC (heap_alloc_new w (.cells #[.slice na nm.length nc, .int .i64 ty, .int .i64 tt, .int .i64 ad, .slice ta to.length tc, .slice xa tx.length xc, .slice ia nu.length ic] 77))
 have H0 := UC (h.below b0)
 have HN := UC hN
 clear h hN
 have HKK := UC hk
 have HTO := UC hto
 clear hk hto
 have NE := UC (fun (w : World) => nothingElse_any (w := w) (na := na) (nl := nm.length) (nc := nc) (ty := ty) (tt := tt) (ad := ad) (ta := ta) (tl := to.length) (tc := tc) (xa := xa) (xl := tx.length) (xc := xc) (ia := ia) (il := nu.length) (ic := ic) (na' := none) (nl' := 0) (nc' := 0) (ty' := ty) (tt' := 0) (ad' := 0) (ta' := none) (tl' := 0) (tc' := 0) (xa' := xa) (xl' := tx.length) (xc' := xc) (ia' := none) (il' := 0) (ic' := 0))
 generalize decide (ad = 0 ∧ to.length = 0 ∧ tx.length = tx.length ∧ nu.length = 0) = E at *
 have OKC := UC (fun (w : World) (HH : HasR w (.slice na nm.length nc) (.slice ta to.length tc) (.slice xa tx.length xc) (.slice ia nu.length ic) ⟨nm, ty, tt, ad, to, tx, nu⟩) => textOk_has (show Has w (.slice xa tx.length xc) tx from HH.text))
 have OKD := UC (fun (w : World) (HH : HasR w (.slice na nm.length nc) (.slice ta to.length tc) (.slice xa tx.length xc) (.slice ia nu.length ic) ⟨nm, ty, tt, ad, to, tx, nu⟩) => (show Calls Tryz.prog 170 #[.agg #[.slice xa tx.length xc]] w fun e w' => e = .returned (.bool true) ∧ Below w.heap.size w w' by rw [← hD]; exact UB OKC w HH))
 clear OKC hD
 go_enter Tryz.func81, Tryz.ntmps81
 go_wp2_with fail
 generalize w.alloc (.cells #[.slice na nm.length nc, .int .i64 ty, .int .i64 tt, .int .i64 ad, .slice ta to.length tc, .slice xa tx.length xc, .slice ia nu.length ic] 77) = W at *
 refine (VP (show HasL W (.slice na nm.length nc) nm from (UB H0).name)).mono ?_
 rw [UB HN]
 rintro e w1 ⟨rfl, b1⟩
 have bb1 := UG b0 b1
 have K1 := UC (UE b1 (UB K0))
 have H1 := UC ((UB H0).below b1)
 clear b0 b1 K0 H0
 obtain ⟨d0, d1, d2, d3, d4, d5, d6⟩ := UJ (UB K1)
 go_wp2_with fail
 refine (implTypeOk_any ty _).mono ?_
 rw [UB HTO]
 rintro e w2 ⟨rfl, rfl⟩
 go_wp2_with fail
 refine (upTo_yes _ ht0 ht1).mono ?_
 rintro e w2 ⟨rfl, rfl⟩
 go_wp2_with fail
 refine (dataOf_X (UB HKK) (UB HTO)).mono ?_
 rintro e w2 ⟨rfl, b2⟩
 clear d0 d1 d2 d3 d4 d5 d6
 have b2 := UG b2 (UX (w := w2))
 have bb2 := UG bb1 b2
 have K2 := UC (UE b2 (UB K1))
 have H2 := UC ((UB H1).below b2)
 clear bb1 b2 K1 H1
 go_wp2_with fail
 go_region_with (first
  | (go_at_call 170; refine (UB OKD _ (UB H2)).mono ?_; rintro e w3 ⟨rfl, b3⟩; obtain ⟨d0, d1, d2, d3, d4, d5, d6⟩ := UJ (UE b3 (UB K2)))
  | (go_at_call 114; refine (recordOf_X (na := na) (nc := nc) (ta := ta) (tc := tc) (xa := xa) (xc := xc) (ia := ia) (ic := ic) (nm := nm) (to := to) (tx := tx) (nu := nu) (tt := tt) (ad := ad)).mono ?_; rintro e w4 ⟨rfl, b4⟩; have q4 := UG b3 b4; obtain ⟨d0, d1, d2, d3, d4, d5, d6⟩ := UJ (UE q4 (UB K2)))
  | (go_at_call 113; refine (UB NE _).mono ?_; rintro e w5 ⟨rfl, b5⟩; have q5 := UG q4 b5))
 all_goals
  go_wp2_with fail
  go_ret
  first | exact ⟨rfl, UG bb2 q5⟩ | exact ⟨rfl, UG bb2 b3⟩


theorem rrOkData_X_false {na : Option Addr} {nc : Nat} {ta : Option Addr} {tc : Nat} {xa : Option Addr} {xc : Nat} {ia : Option Addr} {ic : Nat} {nm to : List (List Int)} {tx nu : List Int} {tt ad : Int} {w : World} {ty : Int} (hk : kindV ty = .iface 154 (.agg #[.slice none 0 0])) (hto : typeOk ty = true) (h : HasR w (.slice na nm.length nc) (.slice ta to.length tc) (.slice xa tx.length xc) (.slice ia nu.length ic) ⟨nm, ty, tt, ad, to, tx, nu⟩) (hN : nameOk nm = true) (ht0 : 0 ≤ tt) (ht1 : tt ≤ 100000) (hD : decide (tx.length ≤ 40) = false) :
  Calls Tryz.prog 81 #[.agg #[.slice na nm.length nc, .int .i64 ty, .int .i64 tt, .int .i64 ad, .slice ta to.length tc, .slice xa tx.length xc, .slice ia nu.length ic]] w fun e w' => e = .returned (.bool false) ∧ Below w.heap.size w w' := by
 have b0 := UI (w := w) (.cells #[.slice na nm.length nc, .int .i64 ty, .int .i64 tt, .int .i64 ad, .slice ta to.length tc, .slice xa tx.length xc, .slice ia nu.length ic] 77)
 have K0 := UC (heap_alloc_new w (.cells #[.slice na nm.length nc, .int .i64 ty, .int .i64 tt, .int .i64 ad, .slice ta to.length tc, .slice xa tx.length xc, .slice ia nu.length ic] 77))
 have H0 := UC (h.below b0)
 have HN := UC hN
 clear h hN
 have HKK := UC hk
 have HTO := UC hto
 clear hk hto
 have NE := UC (fun (w : World) => nothingElse_any (w := w) (na := na) (nl := nm.length) (nc := nc) (ty := ty) (tt := tt) (ad := ad) (ta := ta) (tl := to.length) (tc := tc) (xa := xa) (xl := tx.length) (xc := xc) (ia := ia) (il := nu.length) (ic := ic) (na' := none) (nl' := 0) (nc' := 0) (ty' := ty) (tt' := 0) (ad' := 0) (ta' := none) (tl' := 0) (tc' := 0) (xa' := xa) (xl' := tx.length) (xc' := xc) (ia' := none) (il' := 0) (ic' := 0))
 skip
 have OKC := UC (fun (w : World) (HH : HasR w (.slice na nm.length nc) (.slice ta to.length tc) (.slice xa tx.length xc) (.slice ia nu.length ic) ⟨nm, ty, tt, ad, to, tx, nu⟩) => textOk_has (show Has w (.slice xa tx.length xc) tx from HH.text))
 have OKD := UC (fun (w : World) (HH : HasR w (.slice na nm.length nc) (.slice ta to.length tc) (.slice xa tx.length xc) (.slice ia nu.length ic) ⟨nm, ty, tt, ad, to, tx, nu⟩) => (show Calls Tryz.prog 170 #[.agg #[.slice xa tx.length xc]] w fun e w' => e = .returned (.bool false) ∧ Below w.heap.size w w' by rw [← hD]; exact UB OKC w HH))
 clear OKC hD
 go_enter Tryz.func81, Tryz.ntmps81
 go_wp2_with fail
 generalize w.alloc (.cells #[.slice na nm.length nc, .int .i64 ty, .int .i64 tt, .int .i64 ad, .slice ta to.length tc, .slice xa tx.length xc, .slice ia nu.length ic] 77) = W at *
 refine (VP (show HasL W (.slice na nm.length nc) nm from (UB H0).name)).mono ?_
 rw [UB HN]
 rintro e w1 ⟨rfl, b1⟩
 have bb1 := UG b0 b1
 have K1 := UC (UE b1 (UB K0))
 have H1 := UC ((UB H0).below b1)
 clear b0 b1 K0 H0
 obtain ⟨d0, d1, d2, d3, d4, d5, d6⟩ := UJ (UB K1)
 go_wp2_with fail
 refine (implTypeOk_any ty _).mono ?_
 rw [UB HTO]
 rintro e w2 ⟨rfl, rfl⟩
 go_wp2_with fail
 refine (upTo_yes _ ht0 ht1).mono ?_
 rintro e w2 ⟨rfl, rfl⟩
 go_wp2_with fail
 refine (dataOf_X (UB HKK) (UB HTO)).mono ?_
 rintro e w2 ⟨rfl, b2⟩
 clear d0 d1 d2 d3 d4 d5 d6
 have b2 := UG b2 (UX (w := w2))
 have bb2 := UG bb1 b2
 have K2 := UC (UE b2 (UB K1))
 have H2 := UC ((UB H1).below b2)
 clear bb1 b2 K1 H1
 go_wp2_with fail
 first | (go_region_with (first
  | (go_at_call 170; refine (UB OKD _ (UB H2)).mono ?_; rintro e w3 ⟨rfl, b3⟩; obtain ⟨d0, d1, d2, d3, d4, d5, d6⟩ := UJ (UE b3 (UB K2)))
  | (go_at_call 114; refine (recordOf_X (na := na) (nc := nc) (ta := ta) (tc := tc) (xa := xa) (xc := xc) (ia := ia) (ic := ic) (nm := nm) (to := to) (tx := tx) (nu := nu) (tt := tt) (ad := ad)).mono ?_; rintro e w4 ⟨rfl, b4⟩; have q4 := UG b3 b4; obtain ⟨d0, d1, d2, d3, d4, d5, d6⟩ := UJ (UE q4 (UB K2)))
  | (go_at_call 113; refine (UB NE _).mono ?_; rintro e w5 ⟨rfl, b5⟩; have q5 := UG q4 b5))) | fail
 all_goals
  go_wp2_with fail
  go_ret
  first | exact ⟨rfl, UG bb2 q5⟩ | exact ⟨rfl, UG bb2 b3⟩
theorem dataOk_A {nm to : List (List Int)} {tx nu : List Int} {tt ad : Int} : dataOk ⟨nm, 1, tt, ad, to, tx, nu⟩ = (decide (0 ≤ ad ∧ ad ≤ 4294967295) && decide (ad = ad ∧ to.length = 0 ∧ tx.length = 0 ∧ nu.length = 0)) := by
 rw [Bool.eq_iff_iff]
 simp [dataOk, show named 1 = false from rfl, show texted 1 = false from rfl]
theorem dataOk_N {nm to : List (List Int)} {tx nu : List Int} {ty tt ad : Int} (h : ty = 2 ∨ ty = 5 ∨ ty = 12) : dataOk ⟨nm, ty, tt, ad, to, tx, nu⟩ = (nameOk to && decide (ad = 0 ∧ to.length = to.length ∧ tx.length = 0 ∧ nu.length = 0)) := by
 have h1 : named ty = true := decide_eq_true (by omega)
 have h2 : texted ty = false := decide_eq_false (by omega)
 have h3 : ty ≠ 1 := by omega
 have h4 : ty ≠ 6 := by omega
 rw [Bool.eq_iff_iff]
 simp [dataOk, h1, h2, h3, h4]
 constructor
 ·rintro ⟨a, b, c, d⟩; exact ⟨b, a, c, d⟩
 ·rintro ⟨b, a, c, d⟩; exact ⟨a, b, c, d⟩
theorem dataOk_S {nm to : List (List Int)} {tx nu : List Int} {tt ad : Int} : dataOk ⟨nm, 6, tt, ad, to, tx, nu⟩ = ((nameOk to && numsOk nu) && decide (ad = 0 ∧ to.length = to.length ∧ tx.length = 0 ∧ nu.length = nu.length)) := by
 rw [Bool.eq_iff_iff]
 simp [dataOk, show named 6 = true from rfl, show texted 6 = false from rfl, numsOk]
 constructor
 ·rintro ⟨a, b, c, d⟩; exact ⟨⟨b, d⟩, a, c⟩
 ·rintro ⟨⟨b, d⟩, a, c⟩; exact ⟨a, b, c, d⟩
theorem dataOk_X {nm to : List (List Int)} {tx nu : List Int} {ty tt ad : Int} (h : ty = 16 ∨ ty = 49) : dataOk ⟨nm, ty, tt, ad, to, tx, nu⟩ = (decide (tx.length ≤ 40) && decide (ad = 0 ∧ to.length = 0 ∧ tx.length = tx.length ∧ nu.length = 0)) := by
 have h1 : named ty = false := decide_eq_false (by omega)
 have h2 : texted ty = true := decide_eq_true (by omega)
 have h3 : ty ≠ 1 := by omega
 have h4 : ty ≠ 6 := by omega
 rw [Bool.eq_iff_iff]
 simp [dataOk, h1, h2, h3, h4]
 constructor
 ·rintro ⟨a, b, c, d⟩; exact ⟨c, a, b, d⟩
 ·rintro ⟨c, a, b, d⟩; exact ⟨a, b, c, d⟩
theorem kindV_N {ty : Int} (h : ty = 2 ∨ ty = 5 ∨ ty = 12) : kindV ty = .iface 150 (.agg #[.slice none 0 0]) := by
 rcases h with rfl | rfl | rfl <;> rfl
theorem kindV_X {ty : Int} (h : ty = 16 ∨ ty = 49) : kindV ty = .iface 154 (.agg #[.slice none 0 0]) := by
 rcases h with rfl | rfl <;> rfl

set_option maxHeartbeats 1000000 in
set_option maxRecDepth 100000 in
theorem implRrOk_has {vn vt vx vi : Value} {r : Rec} {w : World} (h : HasR w vn vt vx vi r) :
  Calls Tryz.prog 81 #[.agg #[vn, .int .i64 r.type, .int .i64 r.ttl, .int .i64 r.addr, vt, vx, vi]] w fun e w' => e = .returned (.bool (rrOk r)) ∧ Below w.heap.size w w' := by
 obtain ⟨na, nc, rfl, _⟩ := h.name.form
 obtain ⟨ta, tc, rfl, _⟩ := h.to.form
 obtain ⟨xa, xc, rfl, _⟩ := h.text.form
 obtain ⟨ia, ic, rfl, _⟩ := h.nums.form
 have b0 := UI (w := w) (.cells #[.slice na r.name.length nc, .int .i64 r.type, .int .i64 r.ttl, .int .i64 r.addr, .slice ta r.to.length tc, .slice xa r.text.length xc, .slice ia r.nums.length ic] 77)
 have K0 := UC (heap_alloc_new w (.cells #[.slice na r.name.length nc, .int .i64 r.type, .int .i64 r.ttl, .int .i64 r.addr, .slice ta r.to.length tc, .slice xa r.text.length xc, .slice ia r.nums.length ic] 77))
 have H0 := UC (h.below b0)
 cases hN : nameOk r.name with
 | false =>
  have e : rrOk r = false := by unfold rrOk; rw [hN]; rfl
  rw [e]
  have HN := UC hN
  clear hN h e
  go_enter Tryz.func81, Tryz.ntmps81
  go_wp2_with fail
  generalize w.alloc (.cells #[.slice na r.name.length nc, .int .i64 r.type, .int .i64 r.ttl, .int .i64 r.addr, .slice ta r.to.length tc, .slice xa r.text.length xc, .slice ia r.nums.length ic] 77) = W at *
  refine (VP (UB H0).name).mono ?_
  rw [UB HN]
  rintro e w1 ⟨rfl, b1⟩
  go_wp2_with fail
  go_ret
  exact ⟨rfl, UG b0 b1⟩
 | true =>
  cases hT : typeOk r.type with
  | false =>
   have e : rrOk r = false := by unfold rrOk; rw [hN, hT]; rfl
   rw [e]
   have HN := UC hN
   have HT := UC hT
   clear hN hT h e
   go_enter Tryz.func81, Tryz.ntmps81
   go_wp2_with fail
   generalize w.alloc (.cells #[.slice na r.name.length nc, .int .i64 r.type, .int .i64 r.ttl, .int .i64 r.addr, .slice ta r.to.length tc, .slice xa r.text.length xc, .slice ia r.nums.length ic] 77) = W at *
   refine (VP (UB H0).name).mono ?_
   rw [UB HN]
   rintro e w1 ⟨rfl, b1⟩
   obtain ⟨d0, d1, d2, d3, d4, d5, d6⟩ := UJ (UE b1 (UB K0))
   go_wp2_with fail
   refine (implTypeOk_any r.type _).mono ?_
   rw [UB HT]
   rintro e w2 ⟨rfl, rfl⟩
   go_wp2_with fail
   go_ret
   exact ⟨rfl, UG b0 b1⟩
  | true =>
   by_cases ht : 0 ≤ r.ttl ∧ r.ttl ≤ 100000
   ·have e : rrOk r = dataOk r := by unfold rrOk; rw [hN, hT, decide_eq_true ht]; rfl
    rw [e]
    clear b0 K0 H0 e
    obtain ⟨nm, ty, tt, ad, to, tx, nu⟩ := r
    simp only at *
    rcases type_cases ty with rfl | rfl | rfl | rfl | rfl | rfl | rfl | h0
    ·rw [dataOk_A]
     cases hD : decide (0 ≤ ad ∧ ad ≤ 4294967295) with
     | true => rw [Bool.true_and]; exact rrOkData_A_true h hN ht.1 ht.2 hD
     | false => rw [Bool.false_and]; exact rrOkData_A_false h hN ht.1 ht.2 hD
    ·rw [dataOk_N (by omega)]
     cases hD : nameOk to with
     | true => rw [Bool.true_and]; exact rrOkData_N_true (kindV_N (by omega)) hT h hN ht.1 ht.2 hD
     | false => rw [Bool.false_and]; exact rrOkData_N_false (kindV_N (by omega)) hT h hN ht.1 ht.2 hD
    ·rw [dataOk_N (by omega)]
     cases hD : nameOk to with
     | true => rw [Bool.true_and]; exact rrOkData_N_true (kindV_N (by omega)) hT h hN ht.1 ht.2 hD
     | false => rw [Bool.false_and]; exact rrOkData_N_false (kindV_N (by omega)) hT h hN ht.1 ht.2 hD
    ·rw [dataOk_S]
     cases hD : (nameOk to && numsOk nu) with
     | true => rw [Bool.true_and]; exact rrOkData_S_true h hN ht.1 ht.2 hD
     | false => rw [Bool.false_and]; exact rrOkData_S_false h hN ht.1 ht.2 hD
    ·rw [dataOk_N (by omega)]
     cases hD : nameOk to with
     | true => rw [Bool.true_and]; exact rrOkData_N_true (kindV_N (by omega)) hT h hN ht.1 ht.2 hD
     | false => rw [Bool.false_and]; exact rrOkData_N_false (kindV_N (by omega)) hT h hN ht.1 ht.2 hD
    ·rw [dataOk_X (by omega)]
     cases hD : decide (tx.length ≤ 40) with
     | true => rw [Bool.true_and]; exact rrOkData_X_true (kindV_X (by omega)) hT h hN ht.1 ht.2 hD
     | false => rw [Bool.false_and]; exact rrOkData_X_false (kindV_X (by omega)) hT h hN ht.1 ht.2 hD
    ·rw [dataOk_X (by omega)]
     cases hD : decide (tx.length ≤ 40) with
     | true => rw [Bool.true_and]; exact rrOkData_X_true (kindV_X (by omega)) hT h hN ht.1 ht.2 hD
     | false => rw [Bool.false_and]; exact rrOkData_X_false (kindV_X (by omega)) hT h hN ht.1 ht.2 hD
    ·rw [hT] at h0; cases h0
   ·have e : rrOk r = false := by unfold rrOk; rw [hN, hT, decide_eq_false ht]; rfl
    rw [e]
    have HN := UC hN
    have HT := UC hT
    have hno : r.ttl < 0 ∨ 100000 < r.ttl := by omega
    have HNO := UC hno
    clear hN hT h e hno ht
    go_enter Tryz.func81, Tryz.ntmps81
    go_wp2_with fail
    generalize w.alloc (.cells #[.slice na r.name.length nc, .int .i64 r.type, .int .i64 r.ttl, .int .i64 r.addr, .slice ta r.to.length tc, .slice xa r.text.length xc, .slice ia r.nums.length ic] 77) = W at *
    refine (VP (UB H0).name).mono ?_
    rw [UB HN]
    rintro e w1 ⟨rfl, b1⟩
    obtain ⟨d0, d1, d2, d3, d4, d5, d6⟩ := UJ (UE b1 (UB K0))
    go_wp2_with fail
    refine (implTypeOk_any r.type _).mono ?_
    rw [UB HT]
    rintro e w2 ⟨rfl, rfl⟩
    go_wp2_with fail
    refine (upTo_no _ (UB HNO)).mono ?_
    rintro e w2 ⟨rfl, rfl⟩
    go_wp2_with fail
    go_ret
    exact ⟨rfl, UG b0 b1⟩
def nextF : List Bool → Nat
 | true :: l => nextF l + 1
 | _ => 0
def setF : List Bool → List Bool
 | true :: l => true :: setF l
 | false :: l => true :: l
 | [] => []
def dropF {α : Type} : List Bool → List α → List α
 | true :: l, _ :: m => dropF l m
 | _, m => m
theorem setF_eq : ∀ l : List Bool, l.set (nextF l) true = setF l
 | [] => rfl
 | false :: _ => rfl
 | true :: l => by simp [nextF, setF, setF_eq l]
theorem dropF_get {α : Type} {o : α} {r : List α} : ∀ (l : List Bool) (m : List α), dropF l m = o :: r → m[nextF l]? = some o
 | [], m, h => by simp only [dropF] at h; subst h; rfl
 | false :: _, m, h => by simp only [dropF] at h; subst h; rfl
 | true :: l, [], h => by simp only [dropF] at h; cases h
 | true :: l, _ :: m, h => by simp only [dropF] at h; simpa [nextF] using dropF_get l m h
def callsF : Op → Bool
 | .call _ => true
 | _ => false

section
variable {P : Program} {ops : Array Oper} {Q : Exit → Act → World → Prop} {md : Region.Mode} {S : World → Prop}
theorem ops_next {l : List Bool} {oi : Oper} {rest : List Oper} (hi : dropF l ops.toList = oi :: rest) : ops[nextF l]? = some oi := by
 have := dropF_get l ops.toList hi
 rwa [Array.getElem?_toList] at this
theorem UY {i : Nat} {oi : Oper} {rest : List Oper} (hi : ops.toList.drop i = oi :: rest) : ops[i]? = some oi := by
 rw [← Array.getElem?_toList, ← List.head?_drop, hi]
 rfl
theorem listed_next (l : List Bool) : l.toArray.setIfInBounds (nextF l) true = (setF l).toArray := by
 rw [List.setIfInBounds_toArray, setF_eq]
theorem tkF (v : Value) {oi : Oper} {rest : List Oper} {fuel : Nat} {l : List Bool} {a : Act} {w : World} (hi : dropF l ops.toList = oi :: rest)
  (hk : (!callsF oi.op && Region.noSelect ops && Region.free md ops l.toArray (nextF l) && (Region.ready md ops l.toArray).contains (nextF l)) = true)
  (hb : Region.wanted oi (yielded ops a.tmps) = true) (hQ : ∀ c a w, Q (.panic c) (a.put oi.dst v) w → Q (.panic c) a w)
  (hy : ∀ w, S w → (execOp a.eval oi).run P w = .ok (.value v) w) (hS : S w)
  (h : wpAnyH P md ops Q S fuel (setF l).toArray (a.put oi.dst v) w) : wpAnyH P md ops Q S (fuel + 1) l.toArray a w := by
 simp only [Bool.and_eq_true] at hk
 refine wpAnyH_take (ops_next hi) hk.1.1.2 hk.1.2 hk.2 hQ (Or.inl ⟨hb, hy⟩) hS ?_
 rw [listed_next]
 exact h
theorem skF {oi : Oper} {rest : List Oper} {fuel : Nat} {l : List Bool} {a : Act} {w : World} (hi : dropF l ops.toList = oi :: rest)
  (hk : (Region.noSelect ops && Region.free md ops l.toArray (nextF l) && (Region.ready md ops l.toArray).contains (nextF l)) = true)
  (hb : Region.wanted oi (yielded ops a.tmps) = false) (hQ : ∀ c a w, Q (.panic c) (a.put oi.dst undef) w → Q (.panic c) a w) (hS : S w)
  (h : wpAnyH P md ops Q S fuel (setF l).toArray (a.put oi.dst undef) w) : wpAnyH P md ops Q S (fuel + 1) l.toArray a w := by
 simp only [Bool.and_eq_true] at hk
 refine wpAnyH_take (ops_next hi) hk.1.1 hk.1.2 hk.2 hQ (Or.inr ⟨hb, rfl⟩) hS ?_
 rw [listed_next]
 exact h
theorem tkI (i : Nat) (v : Value) {oi : Oper} {rest : List Oper} {fuel : Nat} {listed : Array Bool} {a : Act} {w : World} (hi : ops.toList.drop i = oi :: rest)
  (hk : (Region.noSelect ops && Region.free md ops listed i && (Region.ready md ops listed).contains i) = true)
  (hb : Region.wanted oi (yielded ops a.tmps) = true) (hQ : ∀ c a w, Q (.panic c) (a.put oi.dst v) w → Q (.panic c) a w)
  (hy : ∀ w, S w → (execOp a.eval oi).run P w = .ok (.value v) w) (hS : S w)
  (h : wpAnyH P md ops Q S fuel (listed.setIfInBounds i true) (a.put oi.dst v) w) : wpAnyH P md ops Q S (fuel + 1) listed a w := by
 simp only [Bool.and_eq_true] at hk
 exact wpAnyH_take (UY hi) hk.1.1 hk.1.2 hk.2 hQ (Or.inl ⟨hb, hy⟩) hS h
theorem runI (i : Nat) {oi : Oper} {rest : List Oper} {fuel : Nat} {listed : Array Bool} {a : Act} {w : World} (hi : ops.toList.drop i = oi :: rest)
  (hk : (Region.ready md ops listed == [i]) = true) (hb : Region.wanted oi (yielded ops a.tmps) = true)
  (h : ∀ K' : Act → World → Prop, Shut (∀ a w, S w → (S w → wpAnyH P md ops Q S fuel (listed.setIfInBounds i true) a w) → K' a w) → Oper.wp P oi a w K' Q) :
  wpAnyH P md ops Q S (fuel + 1) listed a w := by
 rw [beq_iff_eq] at hk
 refine wpAnyH_ready hk (by simp) (AllReadyH.cons (UY hi) (fun K hK => ?_) AllReadyH.nil)
 rw [if_pos hb]
 exact h K hK
theorem startF (n : Nat) {id : Nat} {a : Act} {w : World} (hm : P.follows .mixedOrders = true) (hn : ops.size = n) (hS : S w.drew)
  (h : S w.drew → wpAnyH P .any ops Q S n (List.replicate n false).toArray a w.drew) : (Code.region id ops true).wp P Q a w := by
 refine wp_region_held_drew hm hS (fun hH => ?_)
 have := h hH
 rw [← hn] at this
 rwa [← List.toArray_replicate]
end
def flagF : Value → Option Bool
 | .bool b => some b
 | _ => none
def valF : Option Bool → Value
 | some b => .bool b
 | none => undef
def lookF (tm : Array Value) : List (Nat × Option Bool) → Nat → Option Bool
 | [], d => match tm[d]? with | some v => flagF v | none => none
 | (e, b) :: m, d => if Nat.beq e d then b else lookF tm m d
def FlagsF (tm : Array Value) (m : List (Nat × Option Bool)) (tm' : Array Value) : Prop := tm'.size = tm.size ∧ ∀ d, lookF tm m d = match tm'[d]? with | some v => flagF v | none => none
theorem FlagsF.nil (tm : Array Value) : FlagsF tm [] tm := ⟨rfl, fun d => rfl⟩
theorem flagF_val (b : Option Bool) : flagF (valF b) = b := by rcases b with _ | b <;> rfl
theorem FlagsF.cons {tm tm' : Array Value} {m : List (Nat × Option Bool)} (h : FlagsF tm m tm') {d : Nat} (hd : d < tm.size) (b : Option Bool) :
  FlagsF tm ((d, b) :: m) (tm'.setIfInBounds d (valF b)) := by
 refine ⟨by rw [Array.size_setIfInBounds]; exact h.1, fun e => ?_⟩
 simp only [lookF]
 by_cases q : d = e
 ·subst q
  rw [if_pos (Nat.beq_refl d), Array.getElem?_setIfInBounds_self_of_lt (by rw [h.1]; exact hd)]
  exact (flagF_val b).symm
 ·rw [if_neg (by rw [Nat.beq_eq]; exact q), Array.getElem?_setIfInBounds_ne q]
  exact h.2 e
def callsA : Op → Bool
 | .call c => match c.callee with | .builtin _ => false | _ => true
 | _ => false
def upA (i n : Nat) : Array Bool := ((List.range n).map (fun j => decide (j < i))).toArray
theorem upA_get {i n j : Nat} {d : Bool} (hj : j < n) : (upA i n).getD j d = decide (j < i) := by
 unfold upA
 simp [Array.getD_eq_getD_getElem?, hj]
theorem upA_out {i n j : Nat} {d : Bool} (hj : n ≤ j) : (upA i n).getD j d = d := by
 unfold upA
 simp [Array.getD_eq_getD_getElem?, hj]
def ascL (md : Region.Mode) (ops : Array Oper) : Nat → List Oper → Bool
 | _, [] => true
 | i, oi :: rest => oi.after.all (fun e => !Region.binds md e || Nat.blt e.on i) && (rest.all (fun oj => oj.after.any (fun e => Region.binds md e && Nat.beq e.on i) || oi.apart ops oj) && ascL md ops (i + 1) rest)
def soleL (md : Region.Mode) (i : Nat) (l : List Oper) : Bool := l.all (fun oj => oj.after.any (fun e => Region.binds md e && Nat.ble i e.on))
structure AscA (md : Region.Mode) (ops : Array Oper) : Prop where
 sel : Region.noSelect ops = true
 asc : ascL md ops 0 ops.toList = true
theorem ascL_drop {md : Region.Mode} {ops : Array Oper} : ∀ (l : List Oper) (k i : Nat), ascL md ops k l = true → ascL md ops (k + i) (l.drop i) = true
 | l, k, 0, h => h
 | [], k, i + 1, h => rfl
 | o :: l, k, i + 1, h => by
  unfold ascL at h
  simp only [Bool.and_eq_true] at h
  have := ascL_drop l (k + 1) i h.2.2
  rwa [Nat.add_assoc, Nat.add_comm 1 i] at this
section
variable {P : Program} {ops : Array Oper} {Q : Exit → Act → World → Prop} {md : Region.Mode} {S : World → Prop}
theorem size_of_drop {i : Nat} {oi : Oper} {rest : List Oper} (hi : ops.toList.drop i = oi :: rest) : i < ops.size := by
 have := congrArg List.length hi
 simp only [List.length_drop, List.length_cons, Array.length_toList] at this
 omega
theorem AscA.at_ (h : AscA md ops) {i : Nat} {oi : Oper} {rest : List Oper} (hi : ops.toList.drop i = oi :: rest) :
  (∀ e ∈ oi.after, Region.binds md e = true → e.on < i) ∧ ∀ (j : Nat) (oj : Oper), i < j → ops[j]? = some oj → (∃ e ∈ oj.after, Region.binds md e = true ∧ e.on = i) ∨ oi.apart ops oj = true := by
 have h2 := ascL_drop ops.toList 0 i h.asc
 rw [hi, Nat.zero_add] at h2
 unfold ascL at h2
 simp only [Bool.and_eq_true, Array.all_eq_true', Bool.or_eq_true, Bool.not_eq_true', List.all_eq_true] at h2
 refine ⟨fun e he hb => ?_, fun j oj hij hj => ?_⟩
 ·rcases h2.1 e he with q | q
  ·rw [hb] at q; cases q
  ·simpa [Nat.blt_eq] using q
 ·have hm : oj ∈ rest := by
   have e1 : ops.toList[j]? = some oj := by rw [Array.getElem?_toList]; exact hj
   obtain ⟨k, rfl⟩ : ∃ k, j = i + 1 + k := ⟨j - (i + 1), by omega⟩
   have e2 : (ops.toList.drop i)[k + 1]? = some oj := by rw [List.getElem?_drop, show i + (k + 1) = i + 1 + k by omega]; exact e1
   rw [hi, List.getElem?_cons_succ] at e2
   exact List.mem_of_getElem? e2
  rcases h2.2.1 oj hm with q | q
  ·obtain ⟨e, he, hb⟩ := Array.any_eq_true'.1 q
   simp only [Bool.and_eq_true] at hb
   exact .inl ⟨e, he, hb.1, Nat.eq_of_beq_eq_true hb.2⟩
  ·exact .inr q
theorem AscA.free (h : AscA md ops) {i : Nat} {oi : Oper} {rest : List Oper} (hi : ops.toList.drop i = oi :: rest) : Region.free md ops (upA i ops.size) i = true := by
 unfold Region.free
 rw [UY hi]
 simp only [List.all_eq_true, List.mem_range, Bool.or_eq_true]
 intro j hj
 by_cases q : j ≤ i
 ·by_cases e : j = i
  ·exact .inl (.inl (by simpa using e))
  ·refine .inl (.inr ?_)
   rw [upA_get hj]
   exact decide_eq_true (by omega)
 ·obtain ⟨oj, hoj⟩ : ∃ oj, ops[j]? = some oj := ⟨ops[j], by simp [hj]⟩
  rw [hoj]
  simp only [Bool.or_eq_true]
  refine .inr ?_
  rcases (h.at_ hi).2 j oj (by omega) hoj with ⟨e, he, hb, hon⟩ | q
  ·exact .inl (Array.any_eq_true'.2 ⟨e, he, by rw [hb, hon]; simp⟩)
  ·exact .inr q
theorem AscA.ready_at (h : AscA md ops) {i : Nat} {oi : Oper} {rest : List Oper} (hi : ops.toList.drop i = oi :: rest) {j : Nat} : j ∈ Region.ready md ops (upA i ops.size) ↔
  j < ops.size ∧ i ≤ j ∧ ∀ oj, ops[j]? = some oj → ∀ e ∈ oj.after, Region.binds md e = true → e.on < i := by
 have hin := size_of_drop hi
 unfold Region.ready
 simp only [List.mem_filter, List.mem_range, Bool.and_eq_true, Bool.not_eq_true']
 constructor
 ·rintro ⟨hj, h1, h2⟩
  rw [upA_get hj] at h1
  refine ⟨hj, by simpa using h1, fun oj hoj e he hb => ?_⟩
  rw [hoj] at h2
  simp only [Option.map_some, Option.getD_some, Array.all_eq_true', Bool.or_eq_true, Bool.not_eq_true'] at h2
  rcases h2 e he with q | q
  ·rw [hb] at q; cases q
  ·by_cases hs : e.on < ops.size
   ·rw [upA_get hs] at q
    exact of_decide_eq_true q
   ·rw [upA_out (by omega)] at q
    cases q
 ·rintro ⟨hj, h1, h2⟩
  refine ⟨hj, by rw [upA_get hj]; exact decide_eq_false (by omega), ?_⟩
  have hoj : ops[j]? = some ops[j] := by simp [hj]
  rw [hoj]
  simp only [Option.map_some, Option.getD_some, Array.all_eq_true', Bool.or_eq_true, Bool.not_eq_true']
  intro e he
  by_cases hb : Region.binds md e = true
  ·refine .inr ?_
   have := h2 _ hoj e he hb
   rw [upA_get (by omega)]
   exact decide_eq_true this
  ·exact .inl (by simpa using hb)
theorem AscA.ready (h : AscA md ops) {i : Nat} {oi : Oper} {rest : List Oper} (hi : ops.toList.drop i = oi :: rest) : (Region.ready md ops (upA i ops.size)).contains i = true := by
 rw [List.contains_iff_mem]
 exact (h.ready_at hi).2 ⟨size_of_drop hi, Nat.le_refl _, fun oj hoj => by rw [UY hi] at hoj; cases hoj; exact (h.at_ hi).1⟩
theorem filter_one {p : Nat → Bool} {n i : Nat} (hi : i < n) (hp : p i = true) (hn : ∀ j, j < n → j ≠ i → p j = false) : (List.range n).filter p = [i] := by
 induction n with
 | zero => omega
 | succ n ih =>
  rw [List.range_succ, List.filter_append]
  by_cases e : i = n
  ·subst e
   rw [List.filter_eq_nil_iff.2 (fun j hj => by rw [hn j (by have := List.mem_range.1 hj; omega) (by have := List.mem_range.1 hj; omega)]; simp)]
   simp [hp]
  ·rw [ih (by omega) (fun j hj hne => hn j (by omega) hne)]
   simp [hn n (by omega) (by omega)]
theorem AscA.sole (h : AscA md ops) {i : Nat} {oi : Oper} {rest : List Oper} (hi : ops.toList.drop i = oi :: rest) (hs : soleL md i rest = true) : Region.ready md ops (upA i ops.size) = [i] := by
 have hin := size_of_drop hi
 have hm := h.ready hi
 rw [List.contains_iff_mem] at hm
 have hnot : ∀ j, j ≠ i → j ∉ Region.ready md ops (upA i ops.size) := fun j hne hj => by
  obtain ⟨hj1, hj2, hj3⟩ := (h.ready_at hi).1 hj
  have hoj : ops[j]? = some ops[j] := by simp [hj1]
  have hmem : ops[j] ∈ rest := by
   obtain ⟨k, rfl⟩ : ∃ k, j = i + 1 + k := ⟨j - (i + 1), by omega⟩
   have e2 : (ops.toList.drop i)[k + 1]? = some ops[i + 1 + k] := by rw [List.getElem?_drop, show i + (k + 1) = i + 1 + k by omega, Array.getElem?_toList]; exact hoj
   rw [hi, List.getElem?_cons_succ] at e2
   exact List.mem_of_getElem? e2
  unfold soleL at hs
  rw [List.all_eq_true] at hs
  obtain ⟨e, he, hb⟩ := Array.any_eq_true'.1 (hs _ hmem)
  simp only [Bool.and_eq_true] at hb
  have := hj3 _ hoj e he hb.1
  have := Nat.le_of_ble_eq_true hb.2
  omega
 have hx : ∀ j, j ∈ Region.ready md ops (upA i ops.size) → j = i := fun j hj => Classical.byContradiction (fun q => hnot j q hj)
 unfold Region.ready at hm hx ⊢
 refine filter_one hin (List.mem_filter.1 hm).2 (fun j hj hne => ?_)
 rw [Bool.eq_false_iff]
 intro q
 exact hne (hx j (List.mem_filter.2 ⟨List.mem_range.2 hj, q⟩))
end
end Go.Proofs.YtfpenlobnnlnfaaGreatDoor
