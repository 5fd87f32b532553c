/-
  Contracts of the program's RrOk where name and time may be, for one kind of data. Contracts of the program's RrOk where name and time may be, for one kind of data. Contracts of the program's RrOk where name and time may be, for one kind of data. Contracts of the program's RrOk where name and time may be, for one kind of data.
-/
import Derived.Test.YtbabmdiklefgcaaGreatDoorFnRepliesG23
import Derived.Deep.RegionWith
namespace Go.Proofs.YtbabmdiklefgcaaGreatDoor
open Go.RowKit
set_option linter.unusedVariables false
set_option maxHeartbeats 1000000
set_option maxRecDepth 100000


theorem rrOkData_A_true {na : Option Addr} {nc : Nat} {ta : Option Addr} {tc : Nat} {xa : Option Addr} {xc : Nat} {ia : Option Addr} {ic : Nat} {nm to : List (List Int)} {tx nu : List Int} {tt ad : Int} {w : World} (h : HasR w (.slice na nm.length nc) (.slice ta to.length tc) (.slice xa tx.length xc) (.slice ia nu.length ic) ⟨nm, 1, tt, ad, to, tx, nu⟩) (hN : nameOk nm = true) (ht0 : 0 ≤ tt) (ht1 : tt ≤ 100000) (hD : decide (0 ≤ ad ∧ ad ≤ 4294967295) = true) :
  Calls Tryz.prog 74 #[.agg #[.slice na nm.length nc, .int .i64 1, .int .i64 tt, .int .i64 ad, .slice ta to.length tc, .slice xa tx.length xc, .slice ia nu.length ic]] w fun e w' => e = .returned (.bool (decide (ad = ad ∧ to.length = 0 ∧ tx.length = 0 ∧ nu.length = 0))) ∧ Below w.heap.size w w' := by
 have b0 := UI (w := w) (.cells #[.slice na nm.length nc, .int .i64 1, .int .i64 tt, .int .i64 ad, .slice ta to.length tc, .slice xa tx.length xc, .slice ia nu.length ic] 63)
 have K0 := UC (heap_alloc_new w (.cells #[.slice na nm.length nc, .int .i64 1, .int .i64 tt, .int .i64 ad, .slice ta to.length tc, .slice xa tx.length xc, .slice ia nu.length ic] 63))
 have H0 := UC (h.below b0)
 have HN := UC hN
 clear h hN
 have NE := UC (fun (w : World) => nothingElse_any (w := w) (na := na) (nl := nm.length) (nc := nc) (ty := 1) (tt := tt) (ad := ad) (ta := ta) (tl := to.length) (tc := tc) (xa := xa) (xl := tx.length) (xc := xc) (ia := ia) (il := nu.length) (ic := ic) (na' := none) (nl' := 0) (nc' := 0) (ty' := 1) (tt' := 0) (ad' := ad) (ta' := none) (tl' := 0) (tc' := 0) (xa' := none) (xl' := 0) (xc' := 0) (ia' := none) (il' := 0) (ic' := 0))
 generalize decide (ad = ad ∧ to.length = 0 ∧ tx.length = 0 ∧ nu.length = 0) = E at *
 have OKC := UC (fun (w : World) (HH : HasR w (.slice na nm.length nc) (.slice ta to.length tc) (.slice xa tx.length xc) (.slice ia nu.length ic) ⟨nm, 1, tt, ad, to, tx, nu⟩) => addrOk_any ad w)
 have OKD := UC (fun (w : World) (HH : HasR w (.slice na nm.length nc) (.slice ta to.length tc) (.slice xa tx.length xc) (.slice ia nu.length ic) ⟨nm, 1, tt, ad, to, tx, nu⟩) => (show Calls Tryz.prog 149 #[.agg #[.int .i64 ad]] w fun e w' => e = .returned (.bool true) ∧ Below w.heap.size w w' by rw [← hD]; exact UB OKC w HH))
 clear OKC hD
 go_enter Tryz.func74, Tryz.ntmps74
 go_wp2_with fail
 generalize w.alloc (.cells #[.slice na nm.length nc, .int .i64 1, .int .i64 tt, .int .i64 ad, .slice ta to.length tc, .slice xa tx.length xc, .slice ia nu.length ic] 63) = W at *
 refine (VP (show HasL W (.slice na nm.length nc) nm from (UB H0).name)).mono ?_
 rw [UB HN]
 rintro e w1 ⟨rfl, b1⟩
 have bb1 := UG b0 b1
 have K1 := UC (UE b1 (UB K0))
 have H1 := UC ((UB H0).below b1)
 clear b0 b1 K0 H0
 obtain ⟨d0, d1, d2, d3, d4, d5, d6⟩ := UJ (UB K1)
 go_wp2_with fail
 refine (implTypeOk_any 1 _).mono ?_
 rw [show typeOk 1 = true from rfl]
 rintro e w2 ⟨rfl, rfl⟩
 go_wp2_with fail
 refine (upTo_yes _ ht0 ht1).mono ?_
 rintro e w2 ⟨rfl, rfl⟩
 go_wp2_with fail
 refine (dataOf_A).mono ?_
 rintro e w2 ⟨rfl, b2⟩
 clear d0 d1 d2 d3 d4 d5 d6
 have b2 := UG b2 (UX (w := w2))
 have bb2 := UG bb1 b2
 have K2 := UC (UE b2 (UB K1))
 have H2 := UC ((UB H1).below b2)
 clear bb1 b2 K1 H1
 go_wp2_with fail
 go_region_with (first
  | (go_at_call 149; refine (UB OKD _ (UB H2)).mono ?_; rintro e w3 ⟨rfl, b3⟩; obtain ⟨d0, d1, d2, d3, d4, d5, d6⟩ := UJ (UE b3 (UB K2)))
  | (go_at_call 100; refine (recordOf_A (na := na) (nc := nc) (ta := ta) (tc := tc) (xa := xa) (xc := xc) (ia := ia) (ic := ic) (nm := nm) (to := to) (tx := tx) (nu := nu) (tt := tt) (ad := ad)).mono ?_; rintro e w4 ⟨rfl, b4⟩; have q4 := UG b3 b4; obtain ⟨d0, d1, d2, d3, d4, d5, d6⟩ := UJ (UE q4 (UB K2)))
  | (go_at_call 99; refine (UB NE _).mono ?_; rintro e w5 ⟨rfl, b5⟩; have q5 := UG q4 b5))
 all_goals
  go_wp2_with fail
  go_ret
  first | exact ⟨rfl, UG bb2 q5⟩ | exact ⟨rfl, UG bb2 b3⟩


theorem rrOkData_A_false {na : Option Addr} {nc : Nat} {ta : Option Addr} {tc : Nat} {xa : Option Addr} {xc : Nat} {ia : Option Addr} {ic : Nat} {nm to : List (List Int)} {tx nu : List Int} {tt ad : Int} {w : World} (h : HasR w (.slice na nm.length nc) (.slice ta to.length tc) (.slice xa tx.length xc) (.slice ia nu.length ic) ⟨nm, 1, tt, ad, to, tx, nu⟩) (hN : nameOk nm = true) (ht0 : 0 ≤ tt) (ht1 : tt ≤ 100000) (hD : decide (0 ≤ ad ∧ ad ≤ 4294967295) = false) :
  Calls Tryz.prog 74 #[.agg #[.slice na nm.length nc, .int .i64 1, .int .i64 tt, .int .i64 ad, .slice ta to.length tc, .slice xa tx.length xc, .slice ia nu.length ic]] w fun e w' => e = .returned (.bool false) ∧ Below w.heap.size w w' := by
 have b0 := UI (w := w) (.cells #[.slice na nm.length nc, .int .i64 1, .int .i64 tt, .int .i64 ad, .slice ta to.length tc, .slice xa tx.length xc, .slice ia nu.length ic] 63)
 have K0 := UC (heap_alloc_new w (.cells #[.slice na nm.length nc, .int .i64 1, .int .i64 tt, .int .i64 ad, .slice ta to.length tc, .slice xa tx.length xc, .slice ia nu.length ic] 63))
 have H0 := UC (h.below b0)
 have HN := UC hN
 clear h hN
 have NE := UC (fun (w : World) => nothingElse_any (w := w) (na := na) (nl := nm.length) (nc := nc) (ty := 1) (tt := tt) (ad := ad) (ta := ta) (tl := to.length) (tc := tc) (xa := xa) (xl := tx.length) (xc := xc) (ia := ia) (il := nu.length) (ic := ic) (na' := none) (nl' := 0) (nc' := 0) (ty' := 1) (tt' := 0) (ad' := ad) (ta' := none) (tl' := 0) (tc' := 0) (xa' := none) (xl' := 0) (xc' := 0) (ia' := none) (il' := 0) (ic' := 0))
 skip
 have OKC := UC (fun (w : World) (HH : HasR w (.slice na nm.length nc) (.slice ta to.length tc) (.slice xa tx.length xc) (.slice ia nu.length ic) ⟨nm, 1, tt, ad, to, tx, nu⟩) => addrOk_any ad w)
 have OKD := UC (fun (w : World) (HH : HasR w (.slice na nm.length nc) (.slice ta to.length tc) (.slice xa tx.length xc) (.slice ia nu.length ic) ⟨nm, 1, tt, ad, to, tx, nu⟩) => (show Calls Tryz.prog 149 #[.agg #[.int .i64 ad]] w fun e w' => e = .returned (.bool false) ∧ Below w.heap.size w w' by rw [← hD]; exact UB OKC w HH))
 clear OKC hD
 go_enter Tryz.func74, Tryz.ntmps74
 go_wp2_with fail
 generalize w.alloc (.cells #[.slice na nm.length nc, .int .i64 1, .int .i64 tt, .int .i64 ad, .slice ta to.length tc, .slice xa tx.length xc, .slice ia nu.length ic] 63) = W at *
 refine (VP (show HasL W (.slice na nm.length nc) nm from (UB H0).name)).mono ?_
 rw [UB HN]
 rintro e w1 ⟨rfl, b1⟩
 have bb1 := UG b0 b1
 have K1 := UC (UE b1 (UB K0))
 have H1 := UC ((UB H0).below b1)
 clear b0 b1 K0 H0
 obtain ⟨d0, d1, d2, d3, d4, d5, d6⟩ := UJ (UB K1)
 go_wp2_with fail
 refine (implTypeOk_any 1 _).mono ?_
 rw [show typeOk 1 = true from rfl]
 rintro e w2 ⟨rfl, rfl⟩
 go_wp2_with fail
 refine (upTo_yes _ ht0 ht1).mono ?_
 rintro e w2 ⟨rfl, rfl⟩
 go_wp2_with fail
 refine (dataOf_A).mono ?_
 rintro e w2 ⟨rfl, b2⟩
 clear d0 d1 d2 d3 d4 d5 d6
 have b2 := UG b2 (UX (w := w2))
 have bb2 := UG bb1 b2
 have K2 := UC (UE b2 (UB K1))
 have H2 := UC ((UB H1).below b2)
 clear bb1 b2 K1 H1
 go_wp2_with fail
 first | (go_region_with (first
  | (go_at_call 149; refine (UB OKD _ (UB H2)).mono ?_; rintro e w3 ⟨rfl, b3⟩; obtain ⟨d0, d1, d2, d3, d4, d5, d6⟩ := UJ (UE b3 (UB K2)))
  | (go_at_call 100; refine (recordOf_A (na := na) (nc := nc) (ta := ta) (tc := tc) (xa := xa) (xc := xc) (ia := ia) (ic := ic) (nm := nm) (to := to) (tx := tx) (nu := nu) (tt := tt) (ad := ad)).mono ?_; rintro e w4 ⟨rfl, b4⟩; have q4 := UG b3 b4; obtain ⟨d0, d1, d2, d3, d4, d5, d6⟩ := UJ (UE q4 (UB K2)))
  | (go_at_call 99; refine (UB NE _).mono ?_; rintro e w5 ⟨rfl, b5⟩; have q5 := UG q4 b5))) | fail
 all_goals
  go_wp2_with fail
  go_ret
  first | exact ⟨rfl, UG bb2 q5⟩ | exact ⟨rfl, UG bb2 b3⟩
set_option maxHeartbeats 1000000
set_option maxRecDepth 100000


theorem rrOkData_N_true {na : Option Addr} {nc : Nat} {ta : Option Addr} {tc : Nat} {xa : Option Addr} {xc : Nat} {ia : Option Addr} {ic : Nat} {nm to : List (List Int)} {tx nu : List Int} {tt ad : Int} {w : World} {ty : Int} (hk : kindV ty = .iface 134 (.agg #[.slice none 0 0])) (hto : typeOk ty = true) (h : HasR w (.slice na nm.length nc) (.slice ta to.length tc) (.slice xa tx.length xc) (.slice ia nu.length ic) ⟨nm, ty, tt, ad, to, tx, nu⟩) (hN : nameOk nm = true) (ht0 : 0 ≤ tt) (ht1 : tt ≤ 100000) (hD : nameOk to = true) :
  Calls Tryz.prog 74 #[.agg #[.slice na nm.length nc, .int .i64 ty, .int .i64 tt, .int .i64 ad, .slice ta to.length tc, .slice xa tx.length xc, .slice ia nu.length ic]] w fun e w' => e = .returned (.bool (decide (ad = 0 ∧ to.length = to.length ∧ tx.length = 0 ∧ nu.length = 0))) ∧ Below w.heap.size w w' := by
 have b0 := UI (w := w) (.cells #[.slice na nm.length nc, .int .i64 ty, .int .i64 tt, .int .i64 ad, .slice ta to.length tc, .slice xa tx.length xc, .slice ia nu.length ic] 63)
 have K0 := UC (heap_alloc_new w (.cells #[.slice na nm.length nc, .int .i64 ty, .int .i64 tt, .int .i64 ad, .slice ta to.length tc, .slice xa tx.length xc, .slice ia nu.length ic] 63))
 have H0 := UC (h.below b0)
 have HN := UC hN
 clear h hN
 have HKK := UC hk
 have HTO := UC hto
 clear hk hto
 have NE := UC (fun (w : World) => nothingElse_any (w := w) (na := na) (nl := nm.length) (nc := nc) (ty := ty) (tt := tt) (ad := ad) (ta := ta) (tl := to.length) (tc := tc) (xa := xa) (xl := tx.length) (xc := xc) (ia := ia) (il := nu.length) (ic := ic) (na' := none) (nl' := 0) (nc' := 0) (ty' := ty) (tt' := 0) (ad' := 0) (ta' := ta) (tl' := to.length) (tc' := tc) (xa' := none) (xl' := 0) (xc' := 0) (ia' := none) (il' := 0) (ic' := 0))
 generalize decide (ad = 0 ∧ to.length = to.length ∧ tx.length = 0 ∧ nu.length = 0) = E at *
 have OKC := UC (fun (w : World) (HH : HasR w (.slice na nm.length nc) (.slice ta to.length tc) (.slice xa tx.length xc) (.slice ia nu.length ic) ⟨nm, ty, tt, ad, to, tx, nu⟩) => nameOkM_has (show HasL w (.slice ta to.length tc) to from HH.to))
 have OKD := UC (fun (w : World) (HH : HasR w (.slice na nm.length nc) (.slice ta to.length tc) (.slice xa tx.length xc) (.slice ia nu.length ic) ⟨nm, ty, tt, ad, to, tx, nu⟩) => (show Calls Tryz.prog 154 #[.agg #[.slice ta to.length tc]] w fun e w' => e = .returned (.bool true) ∧ Below w.heap.size w w' by rw [← hD]; exact UB OKC w HH))
 clear OKC hD
 go_enter Tryz.func74, Tryz.ntmps74
 go_wp2_with fail
 generalize w.alloc (.cells #[.slice na nm.length nc, .int .i64 ty, .int .i64 tt, .int .i64 ad, .slice ta to.length tc, .slice xa tx.length xc, .slice ia nu.length ic] 63) = W at *
 refine (VP (show HasL W (.slice na nm.length nc) nm from (UB H0).name)).mono ?_
 rw [UB HN]
 rintro e w1 ⟨rfl, b1⟩
 have bb1 := UG b0 b1
 have K1 := UC (UE b1 (UB K0))
 have H1 := UC ((UB H0).below b1)
 clear b0 b1 K0 H0
 obtain ⟨d0, d1, d2, d3, d4, d5, d6⟩ := UJ (UB K1)
 go_wp2_with fail
 refine (implTypeOk_any ty _).mono ?_
 rw [UB HTO]
 rintro e w2 ⟨rfl, rfl⟩
 go_wp2_with fail
 refine (upTo_yes _ ht0 ht1).mono ?_
 rintro e w2 ⟨rfl, rfl⟩
 go_wp2_with fail
 refine (dataOf_N (UB HKK) (UB HTO)).mono ?_
 rintro e w2 ⟨rfl, b2⟩
 clear d0 d1 d2 d3 d4 d5 d6
 have b2 := UG b2 (UX (w := w2))
 have bb2 := UG bb1 b2
 have K2 := UC (UE b2 (UB K1))
 have H2 := UC ((UB H1).below b2)
 clear bb1 b2 K1 H1
 go_wp2_with fail
 go_region_with (first
  | (go_at_call 154; refine (UB OKD _ (UB H2)).mono ?_; rintro e w3 ⟨rfl, b3⟩; obtain ⟨d0, d1, d2, d3, d4, d5, d6⟩ := UJ (UE b3 (UB K2)))
  | (go_at_call 100; refine (recordOf_N (na := na) (nc := nc) (ta := ta) (tc := tc) (xa := xa) (xc := xc) (ia := ia) (ic := ic) (nm := nm) (to := to) (tx := tx) (nu := nu) (tt := tt) (ad := ad)).mono ?_; rintro e w4 ⟨rfl, b4⟩; have q4 := UG b3 b4; obtain ⟨d0, d1, d2, d3, d4, d5, d6⟩ := UJ (UE q4 (UB K2)))
  | (go_at_call 99; refine (UB NE _).mono ?_; rintro e w5 ⟨rfl, b5⟩; have q5 := UG q4 b5))
 all_goals
  go_wp2_with fail
  go_ret
  first | exact ⟨rfl, UG bb2 q5⟩ | exact ⟨rfl, UG bb2 b3⟩


theorem rrOkData_N_false {na : Option Addr} {nc : Nat} {ta : Option Addr} {tc : Nat} {xa : Option Addr} {xc : Nat} {ia : Option Addr} {ic : Nat} {nm to : List (List Int)} {tx nu : List Int} {tt ad : Int} {w : World} {ty : Int} (hk : kindV ty = .iface 134 (.agg #[.slice none 0 0])) (hto : typeOk ty = true) (h : HasR w (.slice na nm.length nc) (.slice ta to.length tc) (.slice xa tx.length xc) (.slice ia nu.length ic) ⟨nm, ty, tt, ad, to, tx, nu⟩) (hN : nameOk nm = true) (ht0 : 0 ≤ tt) (ht1 : tt ≤ 100000) (hD : nameOk to = false) :
  Calls Tryz.prog 74 #[.agg #[.slice na nm.length nc, .int .i64 ty, .int .i64 tt, .int .i64 ad, .slice ta to.length tc, .slice xa tx.length xc, .slice ia nu.length ic]] w fun e w' => e = .returned (.bool false) ∧ Below w.heap.size w w' := by
 have b0 := UI (w := w) (.cells #[.slice na nm.length nc, .int .i64 ty, .int .i64 tt, .int .i64 ad, .slice ta to.length tc, .slice xa tx.length xc, .slice ia nu.length ic] 63)
 have K0 := UC (heap_alloc_new w (.cells #[.slice na nm.length nc, .int .i64 ty, .int .i64 tt, .int .i64 ad, .slice ta to.length tc, .slice xa tx.length xc, .slice ia nu.length ic] 63))
 have H0 := UC (h.below b0)
 have HN := UC hN
 clear h hN
 have HKK := UC hk
 have HTO := UC hto
 clear hk hto
 have NE := UC (fun (w : World) => nothingElse_any (w := w) (na := na) (nl := nm.length) (nc := nc) (ty := ty) (tt := tt) (ad := ad) (ta := ta) (tl := to.length) (tc := tc) (xa := xa) (xl := tx.length) (xc := xc) (ia := ia) (il := nu.length) (ic := ic) (na' := none) (nl' := 0) (nc' := 0) (ty' := ty) (tt' := 0) (ad' := 0) (ta' := ta) (tl' := to.length) (tc' := tc) (xa' := none) (xl' := 0) (xc' := 0) (ia' := none) (il' := 0) (ic' := 0))
 skip
 have OKC := UC (fun (w : World) (HH : HasR w (.slice na nm.length nc) (.slice ta to.length tc) (.slice xa tx.length xc) (.slice ia nu.length ic) ⟨nm, ty, tt, ad, to, tx, nu⟩) => nameOkM_has (show HasL w (.slice ta to.length tc) to from HH.to))
 have OKD := UC (fun (w : World) (HH : HasR w (.slice na nm.length nc) (.slice ta to.length tc) (.slice xa tx.length xc) (.slice ia nu.length ic) ⟨nm, ty, tt, ad, to, tx, nu⟩) => (show Calls Tryz.prog 154 #[.agg #[.slice ta to.length tc]] w fun e w' => e = .returned (.bool false) ∧ Below w.heap.size w w' by rw [← hD]; exact UB OKC w HH))
 clear OKC hD
 go_enter Tryz.func74, Tryz.ntmps74
 go_wp2_with fail
 generalize w.alloc (.cells #[.slice na nm.length nc, .int .i64 ty, .int .i64 tt, .int .i64 ad, .slice ta to.length tc, .slice xa tx.length xc, .slice ia nu.length ic] 63) = W at *
 refine (VP (show HasL W (.slice na nm.length nc) nm from (UB H0).name)).mono ?_
 rw [UB HN]
 rintro e w1 ⟨rfl, b1⟩
 have bb1 := UG b0 b1
 have K1 := UC (UE b1 (UB K0))
 have H1 := UC ((UB H0).below b1)
 clear b0 b1 K0 H0
 obtain ⟨d0, d1, d2, d3, d4, d5, d6⟩ := UJ (UB K1)
 go_wp2_with fail
 refine (implTypeOk_any ty _).mono ?_
 rw [UB HTO]
 rintro e w2 ⟨rfl, rfl⟩
 go_wp2_with fail
 refine (upTo_yes _ ht0 ht1).mono ?_
 rintro e w2 ⟨rfl, rfl⟩
 go_wp2_with fail
 refine (dataOf_N (UB HKK) (UB HTO)).mono ?_
 rintro e w2 ⟨rfl, b2⟩
 clear d0 d1 d2 d3 d4 d5 d6
 have b2 := UG b2 (UX (w := w2))
 have bb2 := UG bb1 b2
 have K2 := UC (UE b2 (UB K1))
 have H2 := UC ((UB H1).below b2)
 clear bb1 b2 K1 H1
 go_wp2_with fail
 first | (go_region_with (first
  | (go_at_call 154; refine (UB OKD _ (UB H2)).mono ?_; rintro e w3 ⟨rfl, b3⟩; obtain ⟨d0, d1, d2, d3, d4, d5, d6⟩ := UJ (UE b3 (UB K2)))
  | (go_at_call 100; refine (recordOf_N (na := na) (nc := nc) (ta := ta) (tc := tc) (xa := xa) (xc := xc) (ia := ia) (ic := ic) (nm := nm) (to := to) (tx := tx) (nu := nu) (tt := tt) (ad := ad)).mono ?_; rintro e w4 ⟨rfl, b4⟩; have q4 := UG b3 b4; obtain ⟨d0, d1, d2, d3, d4, d5, d6⟩ := UJ (UE q4 (UB K2)))
  | (go_at_call 99; refine (UB NE _).mono ?_; rintro e w5 ⟨rfl, b5⟩; have q5 := UG q4 b5))) | fail
 all_goals
  go_wp2_with fail
  go_ret
  first | exact ⟨rfl, UG bb2 q5⟩ | exact ⟨rfl, UG bb2 b3⟩
set_option maxHeartbeats 1000000
set_option maxRecDepth 100000


theorem rrOkData_S_true {na : Option Addr} {nc : Nat} {ta : Option Addr} {tc : Nat} {xa : Option Addr} {xc : Nat} {ia : Option Addr} {ic : Nat} {nm to : List (List Int)} {tx nu : List Int} {tt ad : Int} {w : World} (h : HasR w (.slice na nm.length nc) (.slice ta to.length tc) (.slice xa tx.length xc) (.slice ia nu.length ic) ⟨nm, 6, tt, ad, to, tx, nu⟩) (hN : nameOk nm = true) (ht0 : 0 ≤ tt) (ht1 : tt ≤ 100000) (hD : (nameOk to && numsOk nu) = true) :
  Calls Tryz.prog 74 #[.agg #[.slice na nm.length nc, .int .i64 6, .int .i64 tt, .int .i64 ad, .slice ta to.length tc, .slice xa tx.length xc, .slice ia nu.length ic]] w fun e w' => e = .returned (.bool (decide (ad = 0 ∧ to.length = to.length ∧ tx.length = 0 ∧ nu.length = nu.length))) ∧ Below w.heap.size w w' := by
 have b0 := UI (w := w) (.cells #[.slice na nm.length nc, .int .i64 6, .int .i64 tt, .int .i64 ad, .slice ta to.length tc, .slice xa tx.length xc, .slice ia nu.length ic] 63)
 have K0 := UC (heap_alloc_new w (.cells #[.slice na nm.length nc, .int .i64 6, .int .i64 tt, .int .i64 ad, .slice ta to.length tc, .slice xa tx.length xc, .slice ia nu.length ic] 63))
 have H0 := UC (h.below b0)
 have HN := UC hN
 clear h hN
 have NE := UC (fun (w : World) => nothingElse_any (w := w) (na := na) (nl := nm.length) (nc := nc) (ty := 6) (tt := tt) (ad := ad) (ta := ta) (tl := to.length) (tc := tc) (xa := xa) (xl := tx.length) (xc := xc) (ia := ia) (il := nu.length) (ic := ic) (na' := none) (nl' := 0) (nc' := 0) (ty' := 6) (tt' := 0) (ad' := 0) (ta' := ta) (tl' := to.length) (tc' := tc) (xa' := none) (xl' := 0) (xc' := 0) (ia' := ia) (il' := nu.length) (ic' := ic))
 generalize decide (ad = 0 ∧ to.length = to.length ∧ tx.length = 0 ∧ nu.length = nu.length) = E at *
 have OKC := UC (fun (w : World) (HH : HasR w (.slice na nm.length nc) (.slice ta to.length tc) (.slice xa tx.length xc) (.slice ia nu.length ic) ⟨nm, 6, tt, ad, to, tx, nu⟩) => soaOk_has (show HasL w (.slice ta to.length tc) to from HH.to) (show HasI w (.slice ia nu.length ic) nu from HH.nums))
 have OKD := UC (fun (w : World) (HH : HasR w (.slice na nm.length nc) (.slice ta to.length tc) (.slice xa tx.length xc) (.slice ia nu.length ic) ⟨nm, 6, tt, ad, to, tx, nu⟩) => (show Calls Tryz.prog 158 #[.agg #[.slice ta to.length tc, .slice ia nu.length ic]] w fun e w' => e = .returned (.bool true) ∧ Below w.heap.size w w' by rw [← hD]; exact UB OKC w HH))
 clear OKC hD
 go_enter Tryz.func74, Tryz.ntmps74
 go_wp2_with fail
 generalize w.alloc (.cells #[.slice na nm.length nc, .int .i64 6, .int .i64 tt, .int .i64 ad, .slice ta to.length tc, .slice xa tx.length xc, .slice ia nu.length ic] 63) = W at *
 refine (VP (show HasL W (.slice na nm.length nc) nm from (UB H0).name)).mono ?_
 rw [UB HN]
 rintro e w1 ⟨rfl, b1⟩
 have bb1 := UG b0 b1
 have K1 := UC (UE b1 (UB K0))
 have H1 := UC ((UB H0).below b1)
 clear b0 b1 K0 H0
 obtain ⟨d0, d1, d2, d3, d4, d5, d6⟩ := UJ (UB K1)
 go_wp2_with fail
 refine (implTypeOk_any 6 _).mono ?_
 rw [show typeOk 6 = true from rfl]
 rintro e w2 ⟨rfl, rfl⟩
 go_wp2_with fail
 refine (upTo_yes _ ht0 ht1).mono ?_
 rintro e w2 ⟨rfl, rfl⟩
 go_wp2_with fail
 refine (dataOf_S).mono ?_
 rintro e w2 ⟨rfl, b2⟩
 clear d0 d1 d2 d3 d4 d5 d6
 have b2 := UG b2 (UX (w := w2))
 have bb2 := UG bb1 b2
 have K2 := UC (UE b2 (UB K1))
 have H2 := UC ((UB H1).below b2)
 clear bb1 b2 K1 H1
 go_wp2_with fail
 go_region_with (first
  | (go_at_call 158; refine (UB OKD _ (UB H2)).mono ?_; rintro e w3 ⟨rfl, b3⟩; obtain ⟨d0, d1, d2, d3, d4, d5, d6⟩ := UJ (UE b3 (UB K2)))
  | (go_at_call 100; refine (recordOf_S (na := na) (nc := nc) (ta := ta) (tc := tc) (xa := xa) (xc := xc) (ia := ia) (ic := ic) (nm := nm) (to := to) (tx := tx) (nu := nu) (tt := tt) (ad := ad)).mono ?_; rintro e w4 ⟨rfl, b4⟩; have q4 := UG b3 b4; obtain ⟨d0, d1, d2, d3, d4, d5, d6⟩ := UJ (UE q4 (UB K2)))
  | (go_at_call 99; refine (UB NE _).mono ?_; rintro e w5 ⟨rfl, b5⟩; have q5 := UG q4 b5))
 all_goals
  go_wp2_with fail
  go_ret
  first | exact ⟨rfl, UG bb2 q5⟩ | exact ⟨rfl, UG bb2 b3⟩


theorem rrOkData_S_false {na : Option Addr} {nc : Nat} {ta : Option Addr} {tc : Nat} {xa : Option Addr} {xc : Nat} {ia : Option Addr} {ic : Nat} {nm to : List (List Int)} {tx nu : List Int} {tt ad : Int} {w : World} (h : HasR w (.slice na nm.length nc) (.slice ta to.length tc) (.slice xa tx.length xc) (.slice ia nu.length ic) ⟨nm, 6, tt, ad, to, tx, nu⟩) (hN : nameOk nm = true) (ht0 : 0 ≤ tt) (ht1 : tt ≤ 100000) (hD : (nameOk to && numsOk nu) = false) :
  Calls Tryz.prog 74 #[.agg #[.slice na nm.length nc, .int .i64 6, .int .i64 tt, .int .i64 ad, .slice ta to.length tc, .slice xa tx.length xc, .slice ia nu.length ic]] w fun e w' => e = .returned (.bool false) ∧ Below w.heap.size w w' := by
 have b0 := UI (w := w) (.cells #[.slice na nm.length nc, .int .i64 6, .int .i64 tt, .int .i64 ad, .slice ta to.length tc, .slice xa tx.length xc, .slice ia nu.length ic] 63)
 have K0 := UC (heap_alloc_new w (.cells #[.slice na nm.length nc, .int .i64 6, .int .i64 tt, .int .i64 ad, .slice ta to.length tc, .slice xa tx.length xc, .slice ia nu.length ic] 63))
 have H0 := UC (h.below b0)
 have HN := UC hN
 clear h hN
 have NE := UC (fun (w : World) => nothingElse_any (w := w) (na := na) (nl := nm.length) (nc := nc) (ty := 6) (tt := tt) (ad := ad) (ta := ta) (tl := to.length) (tc := tc) (xa := xa) (xl := tx.length) (xc := xc) (ia := ia) (il := nu.length) (ic := ic) (na' := none) (nl' := 0) (nc' := 0) (ty' := 6) (tt' := 0) (ad' := 0) (ta' := ta) (tl' := to.length) (tc' := tc) (xa' := none) (xl' := 0) (xc' := 0) (ia' := ia) (il' := nu.length) (ic' := ic))
 skip
 have OKC := UC (fun (w : World) (HH : HasR w (.slice na nm.length nc) (.slice ta to.length tc) (.slice xa tx.length xc) (.slice ia nu.length ic) ⟨nm, 6, tt, ad, to, tx, nu⟩) => soaOk_has (show HasL w (.slice ta to.length tc) to from HH.to) (show HasI w (.slice ia nu.length ic) nu from HH.nums))
 have OKD := UC (fun (w : World) (HH : HasR w (.slice na nm.length nc) (.slice ta to.length tc) (.slice xa tx.length xc) (.slice ia nu.length ic) ⟨nm, 6, tt, ad, to, tx, nu⟩) => (show Calls Tryz.prog 158 #[.agg #[.slice ta to.length tc, .slice ia nu.length ic]] w fun e w' => e = .returned (.bool false) ∧ Below w.heap.size w w' by rw [← hD]; exact UB OKC w HH))
 clear OKC hD
 go_enter Tryz.func74, Tryz.ntmps74
 go_wp2_with fail
 generalize w.alloc (.cells #[.slice na nm.length nc, .int .i64 6, .int .i64 tt, .int .i64 ad, .slice ta to.length tc, .slice xa tx.length xc, .slice ia nu.length ic] 63) = W at *
 refine (VP (show HasL W (.slice na nm.length nc) nm from (UB H0).name)).mono ?_
 rw [UB HN]
 rintro e w1 ⟨rfl, b1⟩
 have bb1 := UG b0 b1
 have K1 := UC (UE b1 (UB K0))
 have H1 := UC ((UB H0).below b1)
 clear b0 b1 K0 H0
 obtain ⟨d0, d1, d2, d3, d4, d5, d6⟩ := UJ (UB K1)
 go_wp2_with fail
 refine (implTypeOk_any 6 _).mono ?_
 rw [show typeOk 6 = true from rfl]
 rintro e w2 ⟨rfl, rfl⟩
 go_wp2_with fail
 refine (upTo_yes _ ht0 ht1).mono ?_
 rintro e w2 ⟨rfl, rfl⟩
 go_wp2_with fail
 refine (dataOf_S).mono ?_
 rintro e w2 ⟨rfl, b2⟩
 clear d0 d1 d2 d3 d4 d5 d6
 have b2 := UG b2 (UX (w := w2))
 have bb2 := UG bb1 b2
 have K2 := UC (UE b2 (UB K1))
 have H2 := UC ((UB H1).below b2)
 clear bb1 b2 K1 H1
 go_wp2_with fail
 first | (go_region_with (first
  | (go_at_call 158; refine (UB OKD _ (UB H2)).mono ?_; rintro e w3 ⟨rfl, b3⟩; obtain ⟨d0, d1, d2, d3, d4, d5, d6⟩ := UJ (UE b3 (UB K2)))
  | (go_at_call 100; refine (recordOf_S (na := na) (nc := nc) (ta := ta) (tc := tc) (xa := xa) (xc := xc) (ia := ia) (ic := ic) (nm := nm) (to := to) (tx := tx) (nu := nu) (tt := tt) (ad := ad)).mono ?_; rintro e w4 ⟨rfl, b4⟩; have q4 := UG b3 b4; obtain ⟨d0, d1, d2, d3, d4, d5, d6⟩ := UJ (UE q4 (UB K2)))
  | (go_at_call 99; refine (UB NE _).mono ?_; rintro e w5 ⟨rfl, b5⟩; have q5 := UG q4 b5))) | fail
 all_goals
  go_wp2_with fail
  go_ret
  first | exact ⟨rfl, UG bb2 q5⟩ | exact ⟨rfl, UG bb2 b3⟩
set_option maxHeartbeats 1000000
set_option maxRecDepth 100000


theorem rrOkData_X_true {na : Option Addr} {nc : Nat} {ta : Option Addr} {tc : Nat} {xa : Option Addr} {xc : Nat} {ia : Option Addr} {ic : Nat} {nm to : List (List Int)} {tx nu : List Int} {tt ad : Int} {w : World} {ty : Int} (hk : kindV ty = .iface 138 (.agg #[.slice none 0 0])) (hto : typeOk ty = true) (h : HasR w (.slice na nm.length nc) (.slice ta to.length tc) (.slice xa tx.length xc) (.slice ia nu.length ic) ⟨nm, ty, tt, ad, to, tx, nu⟩) (hN : nameOk nm = true) (ht0 : 0 ≤ tt) (ht1 : tt ≤ 100000) (hD : decide (tx.length ≤ 40) = true) :
  Calls Tryz.prog 74 #[.agg #[.slice na nm.length nc, .int .i64 ty, .int .i64 tt, .int .i64 ad, .slice ta to.length tc, .slice xa tx.length xc, .slice ia nu.length ic]] w fun e w' => e = .returned (.bool (decide (ad = 0 ∧ to.length = 0 ∧ tx.length = tx.length ∧ nu.length = 0))) ∧ Below w.heap.size w w' := by
 have b0 := UI (w := w) (.cells #[.slice na nm.length nc, .int .i64 ty, .int .i64 tt, .int .i64 ad, .slice ta to.length tc, .slice xa tx.length xc, .slice ia nu.length ic] 63)
 have K0 := UC (heap_alloc_new w (.cells #[.slice na nm.length nc, .int .i64 ty, .int .i64 tt, .int .i64 ad, .slice ta to.length tc, .slice xa tx.length xc, .slice ia nu.length ic] 63))
 have H0 := UC (h.below b0)
 have HN := UC hN
 clear h hN
 have HKK := UC hk
 have HTO := UC hto
 clear hk hto
 have NE := UC (fun (w : World) => nothingElse_any (w := w) (na := na) (nl := nm.length) (nc := nc) (ty := ty) (tt := tt) (ad := ad) (ta := ta) (tl := to.length) (tc := tc) (xa := xa) (xl := tx.length) (xc := xc) (ia := ia) (il := nu.length) (ic := ic) (na' := none) (nl' := 0) (nc' := 0) (ty' := ty) (tt' := 0) (ad' := 0) (ta' := none) (tl' := 0) (tc' := 0) (xa' := xa) (xl' := tx.length) (xc' := xc) (ia' := none) (il' := 0) (ic' := 0))
 generalize decide (ad = 0 ∧ to.length = 0 ∧ tx.length = tx.length ∧ nu.length = 0) = E at *
 have OKC := UC (fun (w : World) (HH : HasR w (.slice na nm.length nc) (.slice ta to.length tc) (.slice xa tx.length xc) (.slice ia nu.length ic) ⟨nm, ty, tt, ad, to, tx, nu⟩) => textOk_has (show Has w (.slice xa tx.length xc) tx from HH.text))
 have OKD := UC (fun (w : World) (HH : HasR w (.slice na nm.length nc) (.slice ta to.length tc) (.slice xa tx.length xc) (.slice ia nu.length ic) ⟨nm, ty, tt, ad, to, tx, nu⟩) => (show Calls Tryz.prog 162 #[.agg #[.slice xa tx.length xc]] w fun e w' => e = .returned (.bool true) ∧ Below w.heap.size w w' by rw [← hD]; exact UB OKC w HH))
 clear OKC hD
 go_enter Tryz.func74, Tryz.ntmps74
 go_wp2_with fail
 generalize w.alloc (.cells #[.slice na nm.length nc, .int .i64 ty, .int .i64 tt, .int .i64 ad, .slice ta to.length tc, .slice xa tx.length xc, .slice ia nu.length ic] 63) = W at *
 refine (VP (show HasL W (.slice na nm.length nc) nm from (UB H0).name)).mono ?_
 rw [UB HN]
 rintro e w1 ⟨rfl, b1⟩
 have bb1 := UG b0 b1
 have K1 := UC (UE b1 (UB K0))
 have H1 := UC ((UB H0).below b1)
 clear b0 b1 K0 H0
 obtain ⟨d0, d1, d2, d3, d4, d5, d6⟩ := UJ (UB K1)
 go_wp2_with fail
 refine (implTypeOk_any ty _).mono ?_
 rw [UB HTO]
 rintro e w2 ⟨rfl, rfl⟩
 go_wp2_with fail
 refine (upTo_yes _ ht0 ht1).mono ?_
 rintro e w2 ⟨rfl, rfl⟩
 go_wp2_with fail
 refine (dataOf_X (UB HKK) (UB HTO)).mono ?_
 rintro e w2 ⟨rfl, b2⟩
 clear d0 d1 d2 d3 d4 d5 d6
 have b2 := UG b2 (UX (w := w2))
 have bb2 := UG bb1 b2
 have K2 := UC (UE b2 (UB K1))
 have H2 := UC ((UB H1).below b2)
 clear bb1 b2 K1 H1
 go_wp2_with fail
 go_region_with (first
  | (go_at_call 162; refine (UB OKD _ (UB H2)).mono ?_; rintro e w3 ⟨rfl, b3⟩; obtain ⟨d0, d1, d2, d3, d4, d5, d6⟩ := UJ (UE b3 (UB K2)))
  | (go_at_call 100; refine (recordOf_X (na := na) (nc := nc) (ta := ta) (tc := tc) (xa := xa) (xc := xc) (ia := ia) (ic := ic) (nm := nm) (to := to) (tx := tx) (nu := nu) (tt := tt) (ad := ad)).mono ?_; rintro e w4 ⟨rfl, b4⟩; have q4 := UG b3 b4; obtain ⟨d0, d1, d2, d3, d4, d5, d6⟩ := UJ (UE q4 (UB K2)))
  | (go_at_call 99; refine (UB NE _).mono ?_; rintro e w5 ⟨rfl, b5⟩; have q5 := UG q4 b5))
 all_goals
  go_wp2_with fail
  go_ret
  first | exact ⟨rfl, UG bb2 q5⟩ | exact ⟨rfl, UG bb2 b3⟩


theorem rrOkData_X_false {na : Option Addr} {nc : Nat} {ta : Option Addr} {tc : Nat} {xa : Option Addr} {xc : Nat} {ia : Option Addr} {ic : Nat} {nm to : List (List Int)} {tx nu : List Int} {tt ad : Int} {w : World} {ty : Int} (hk : kindV ty = .iface 138 (.agg #[.slice none 0 0])) (hto : typeOk ty = true) (h : HasR w (.slice na nm.length nc) (.slice ta to.length tc) (.slice xa tx.length xc) (.slice ia nu.length ic) ⟨nm, ty, tt, ad, to, tx, nu⟩) (hN : nameOk nm = true) (ht0 : 0 ≤ tt) (ht1 : tt ≤ 100000) (hD : decide (tx.length ≤ 40) = false) :
  Calls Tryz.prog 74 #[.agg #[.slice na nm.length nc, .int .i64 ty, .int .i64 tt, .int .i64 ad, .slice ta to.length tc, .slice xa tx.length xc, .slice ia nu.length ic]] w fun e w' => e = .returned (.bool false) ∧ Below w.heap.size w w' := by
 have b0 := UI (w := w) (.cells #[.slice na nm.length nc, .int .i64 ty, .int .i64 tt, .int .i64 ad, .slice ta to.length tc, .slice xa tx.length xc, .slice ia nu.length ic] 63)
 have K0 := UC (heap_alloc_new w (.cells #[.slice na nm.length nc, .int .i64 ty, .int .i64 tt, .int .i64 ad, .slice ta to.length tc, .slice xa tx.length xc, .slice ia nu.length ic] 63))
 have H0 := UC (h.below b0)
 have HN := UC hN
 clear h hN
 have HKK := UC hk
 have HTO := UC hto
 clear hk hto
 have NE := UC (fun (w : World) => nothingElse_any (w := w) (na := na) (nl := nm.length) (nc := nc) (ty := ty) (tt := tt) (ad := ad) (ta := ta) (tl := to.length) (tc := tc) (xa := xa) (xl := tx.length) (xc := xc) (ia := ia) (il := nu.length) (ic := ic) (na' := none) (nl' := 0) (nc' := 0) (ty' := ty) (tt' := 0) (ad' := 0) (ta' := none) (tl' := 0) (tc' := 0) (xa' := xa) (xl' := tx.length) (xc' := xc) (ia' := none) (il' := 0) (ic' := 0))
 skip
 have OKC := UC (fun (w : World) (HH : HasR w (.slice na nm.length nc) (.slice ta to.length tc) (.slice xa tx.length xc) (.slice ia nu.length ic) ⟨nm, ty, tt, ad, to, tx, nu⟩) => textOk_has (show Has w (.slice xa tx.length xc) tx from HH.text))
 have OKD := UC (fun (w : World) (HH : HasR w (.slice na nm.length nc) (.slice ta to.length tc) (.slice xa tx.length xc) (.slice ia nu.length ic) ⟨nm, ty, tt, ad, to, tx, nu⟩) => (show Calls Tryz.prog 162 #[.agg #[.slice xa tx.length xc]] w fun e w' => e = .returned (.bool false) ∧ Below w.heap.size w w' by rw [← hD]; exact UB OKC w HH))
 clear OKC hD
 go_enter Tryz.func74, Tryz.ntmps74
 go_wp2_with fail
 generalize w.alloc (.cells #[.slice na nm.length nc, .int .i64 ty, .int .i64 tt, .int .i64 ad, .slice ta to.length tc, .slice xa tx.length xc, .slice ia nu.length ic] 63) = W at *
 refine (VP (show HasL W (.slice na nm.length nc) nm from (UB H0).name)).mono ?_
 rw [UB HN]
 rintro e w1 ⟨rfl, b1⟩
 have bb1 := UG b0 b1
 have K1 := UC (UE b1 (UB K0))
 have H1 := UC ((UB H0).below b1)
 clear b0 b1 K0 H0
 obtain ⟨d0, d1, d2, d3, d4, d5, d6⟩ := UJ (UB K1)
 go_wp2_with fail
 refine (implTypeOk_any ty _).mono ?_
 rw [UB HTO]
 rintro e w2 ⟨rfl, rfl⟩
 go_wp2_with fail
 refine (upTo_yes _ ht0 ht1).mono ?_
 rintro e w2 ⟨rfl, rfl⟩
 go_wp2_with fail
 refine (dataOf_X (UB HKK) (UB HTO)).mono ?_
 rintro e w2 ⟨rfl, b2⟩
 clear d0 d1 d2 d3 d4 d5 d6
 have b2 := UG b2 (UX (w := w2))
 have bb2 := UG bb1 b2
 have K2 := UC (UE b2 (UB K1))
 have H2 := UC ((UB H1).below b2)
 clear bb1 b2 K1 H1
 go_wp2_with fail
 first | (go_region_with (first
  | (go_at_call 162; refine (UB OKD _ (UB H2)).mono ?_; rintro e w3 ⟨rfl, b3⟩; obtain ⟨d0, d1, d2, d3, d4, d5, d6⟩ := UJ (UE b3 (UB K2)))
  | (go_at_call 100; refine (recordOf_X (na := na) (nc := nc) (ta := ta) (tc := tc) (xa := xa) (xc := xc) (ia := ia) (ic := ic) (nm := nm) (to := to) (tx := tx) (nu := nu) (tt := tt) (ad := ad)).mono ?_; rintro e w4 ⟨rfl, b4⟩; have q4 := UG b3 b4; obtain ⟨d0, d1, d2, d3, d4, d5, d6⟩ := UJ (UE q4 (UB K2)))
  | (go_at_call 99; refine (UB NE _).mono ?_; rintro e w5 ⟨rfl, b5⟩; have q5 := UG q4 b5))) | fail
 all_goals
  go_wp2_with fail
  go_ret
  first | exact ⟨rfl, UG bb2 q5⟩ | exact ⟨rfl, UG bb2 b3⟩
end Go.Proofs.YtbabmdiklefgcaaGreatDoor
