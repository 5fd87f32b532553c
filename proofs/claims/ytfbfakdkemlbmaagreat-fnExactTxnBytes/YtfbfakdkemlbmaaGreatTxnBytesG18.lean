/-
  Contracts of the program's RrOk where name and time may be, for one kind of data. Contracts of the program's RrOk where name and time may be, for one kind of data. Contracts of the program's RrOk. Contract of the program's listOk of records. Contract of the program's codeOk. Contract of the program's askable.
-/
import Derived.Test.YtfbfakdkemlbmaaGreatTxnBytesG17
import Derived.Deep.RegionWith
import Derived.Test.YtfbfakdkemlbmaaGreatTxnBytesG15
import Derived.Test.YtfbfakdkemlbmaaGreatTxnBytesG16
import Derived.Test.YtfbfakdkemlbmaaGreatTxnBytesG05
namespace Go.Proofs.YtfbfakdkemlbmaaGreat
open Go.RowKit
set_option linter.unusedVariables false


set_option maxHeartbeats 1000000 in
set_option maxRecDepth 100000 in
theorem rrOkData_S_true {na : Option Addr} {nc : Nat} {ta : Option Addr} {tc : Nat} {xa : Option Addr} {xc : Nat} {ia : Option Addr} {ic : Nat} {nm to : List (List Int)} {tx nu : List Int} {tt ad : Int} {w : World} (h : HasR w (.slice na nm.length nc) (.slice ta to.length tc) (.slice xa tx.length xc) (.slice ia nu.length ic) ⟨nm, 6, tt, ad, to, tx, nu⟩) (hN : nameOk nm = true) (ht0 : 0 ≤ tt) (ht1 : tt ≤ 100000) (hD : (nameOk to && numsOk nu) = true) :
  Calls Tryz.prog 121 #[.agg #[.slice na nm.length nc, .int .i64 6, .int .i64 tt, .int .i64 ad, .slice ta to.length tc, .slice xa tx.length xc, .slice ia nu.length ic]] w fun e w' => e = .returned (.bool (decide (ad = 0 ∧ to.length = to.length ∧ tx.length = 0 ∧ nu.length = nu.length))) ∧ Below w.heap.size w w' := by
 have b0 := below_alloc (w := w) (.cells #[.slice na nm.length nc, .int .i64 6, .int .i64 tt, .int .i64 ad, .slice ta to.length tc, .slice xa tx.length xc, .slice ia nu.length ic] 105)
 have K0 := hide (heap_alloc_new w (.cells #[.slice na nm.length nc, .int .i64 6, .int .i64 tt, .int .i64 ad, .slice ta to.length tc, .slice xa tx.length xc, .slice ia nu.length ic] 105))
 have H0 := hide (h.below b0)
 have HN := hide hN
 clear h hN
 have NE := hide (fun (w : World) => nothingElse_any (w := w) (na := na) (nl := nm.length) (nc := nc) (ty := 6) (tt := tt) (ad := ad) (ta := ta) (tl := to.length) (tc := tc) (xa := xa) (xl := tx.length) (xc := xc) (ia := ia) (il := nu.length) (ic := ic) (na' := none) (nl' := 0) (nc' := 0) (ty' := 6) (tt' := 0) (ad' := 0) (ta' := ta) (tl' := to.length) (tc' := tc) (xa' := none) (xl' := 0) (xc' := 0) (ia' := ia) (il' := nu.length) (ic' := ic))
 generalize decide (ad = 0 ∧ to.length = to.length ∧ tx.length = 0 ∧ nu.length = nu.length) = E at *
 have OKC := hide (fun (w : World) (HH : HasR w (.slice na nm.length nc) (.slice ta to.length tc) (.slice xa tx.length xc) (.slice ia nu.length ic) ⟨nm, 6, tt, ad, to, tx, nu⟩) => soaOk_has (show HasL w (.slice ta to.length tc) to from HH.to) (show HasI w (.slice ia nu.length ic) nu from HH.nums))
 have OKD := hide (fun (w : World) (HH : HasR w (.slice na nm.length nc) (.slice ta to.length tc) (.slice xa tx.length xc) (.slice ia nu.length ic) ⟨nm, 6, tt, ad, to, tx, nu⟩) => (show Calls Tryz.prog 164 #[.agg #[.slice ta to.length tc, .slice ia nu.length ic]] w fun e w' => e = .returned (.bool true) ∧ Below w.heap.size w w' by rw [← hD]; exact unhide OKC w HH))
 clear OKC hD
 go_enter Tryz.func121, Tryz.ntmps121
 go_wp2_with fail
 generalize w.alloc (.cells #[.slice na nm.length nc, .int .i64 6, .int .i64 tt, .int .i64 ad, .slice ta to.length tc, .slice xa tx.length xc, .slice ia nu.length ic] 105) = W at *
 refine (implNameOk_has (show HasL W (.slice na nm.length nc) nm from (unhide H0).name)).mono ?_
 rw [unhide HN]
 rintro e w1 ⟨rfl, b1⟩
 have bb1 := below_next b0 b1
 have K1 := hide (block_kept b1 (unhide K0))
 have H1 := hide ((unhide H0).below b1)
 clear b0 b1 K0 H0
 obtain ⟨d0, d1, d2, d3, d4, d5, d6⟩ := cells7 (unhide K1)
 go_wp2_with fail
 refine (implTypeOk_any 6 _).mono ?_
 rw [show typeOk 6 = true from rfl]
 rintro e w2 ⟨rfl, rfl⟩
 go_wp2_with fail
 refine (upTo_yes _ ht0 ht1).mono ?_
 rintro e w2 ⟨rfl, rfl⟩
 go_wp2_with fail
 refine (dataOf_S).mono ?_
 rintro e w2 ⟨rfl, b2⟩
 clear d0 d1 d2 d3 d4 d5 d6
 have b2 := below_next b2 (below_drew (w := w2))
 have bb2 := below_next bb1 b2
 have K2 := hide (block_kept b2 (unhide K1))
 have H2 := hide ((unhide H1).below b2)
 clear bb1 b2 K1 H1
 go_wp2_with fail
 go_region_with (first
  | (go_at_call 164; refine (unhide OKD _ (unhide H2)).mono ?_; rintro e w3 ⟨rfl, b3⟩; obtain ⟨d0, d1, d2, d3, d4, d5, d6⟩ := cells7 (block_kept b3 (unhide K2)))
  | (go_at_call 132; refine (recordOf_S (na := na) (nc := nc) (ta := ta) (tc := tc) (xa := xa) (xc := xc) (ia := ia) (ic := ic) (nm := nm) (to := to) (tx := tx) (nu := nu) (tt := tt) (ad := ad)).mono ?_; rintro e w4 ⟨rfl, b4⟩; have q4 := below_next b3 b4; obtain ⟨d0, d1, d2, d3, d4, d5, d6⟩ := cells7 (block_kept q4 (unhide K2)))
  | (go_at_call 131; refine (unhide NE _).mono ?_; rintro e w5 ⟨rfl, b5⟩; have q5 := below_next q4 b5))
 all_goals
  go_wp2_with fail
  go_ret
  first | exact ⟨rfl, below_next bb2 q5⟩ | exact ⟨rfl, below_next bb2 b3⟩


set_option maxHeartbeats 1000000 in
set_option maxRecDepth 100000 in
theorem rrOkData_S_false {na : Option Addr} {nc : Nat} {ta : Option Addr} {tc : Nat} {xa : Option Addr} {xc : Nat} {ia : Option Addr} {ic : Nat} {nm to : List (List Int)} {tx nu : List Int} {tt ad : Int} {w : World} (h : HasR w (.slice na nm.length nc) (.slice ta to.length tc) (.slice xa tx.length xc) (.slice ia nu.length ic) ⟨nm, 6, tt, ad, to, tx, nu⟩) (hN : nameOk nm = true) (ht0 : 0 ≤ tt) (ht1 : tt ≤ 100000) (hD : (nameOk to && numsOk nu) = false) :
  Calls Tryz.prog 121 #[.agg #[.slice na nm.length nc, .int .i64 6, .int .i64 tt, .int .i64 ad, .slice ta to.length tc, .slice xa tx.length xc, .slice ia nu.length ic]] w fun e w' => e = .returned (.bool false) ∧ Below w.heap.size w w' := by
 have b0 := below_alloc (w := w) (.cells #[.slice na nm.length nc, .int .i64 6, .int .i64 tt, .int .i64 ad, .slice ta to.length tc, .slice xa tx.length xc, .slice ia nu.length ic] 105)
 have K0 := hide (heap_alloc_new w (.cells #[.slice na nm.length nc, .int .i64 6, .int .i64 tt, .int .i64 ad, .slice ta to.length tc, .slice xa tx.length xc, .slice ia nu.length ic] 105))
 have H0 := hide (h.below b0)
 have HN := hide hN
 clear h hN
 have NE := hide (fun (w : World) => nothingElse_any (w := w) (na := na) (nl := nm.length) (nc := nc) (ty := 6) (tt := tt) (ad := ad) (ta := ta) (tl := to.length) (tc := tc) (xa := xa) (xl := tx.length) (xc := xc) (ia := ia) (il := nu.length) (ic := ic) (na' := none) (nl' := 0) (nc' := 0) (ty' := 6) (tt' := 0) (ad' := 0) (ta' := ta) (tl' := to.length) (tc' := tc) (xa' := none) (xl' := 0) (xc' := 0) (ia' := ia) (il' := nu.length) (ic' := ic))
 skip
 have OKC := hide (fun (w : World) (HH : HasR w (.slice na nm.length nc) (.slice ta to.length tc) (.slice xa tx.length xc) (.slice ia nu.length ic) ⟨nm, 6, tt, ad, to, tx, nu⟩) => soaOk_has (show HasL w (.slice ta to.length tc) to from HH.to) (show HasI w (.slice ia nu.length ic) nu from HH.nums))
 have OKD := hide (fun (w : World) (HH : HasR w (.slice na nm.length nc) (.slice ta to.length tc) (.slice xa tx.length xc) (.slice ia nu.length ic) ⟨nm, 6, tt, ad, to, tx, nu⟩) => (show Calls Tryz.prog 164 #[.agg #[.slice ta to.length tc, .slice ia nu.length ic]] w fun e w' => e = .returned (.bool false) ∧ Below w.heap.size w w' by rw [← hD]; exact unhide OKC w HH))
 clear OKC hD
 go_enter Tryz.func121, Tryz.ntmps121
 go_wp2_with fail
 generalize w.alloc (.cells #[.slice na nm.length nc, .int .i64 6, .int .i64 tt, .int .i64 ad, .slice ta to.length tc, .slice xa tx.length xc, .slice ia nu.length ic] 105) = W at *
 refine (implNameOk_has (show HasL W (.slice na nm.length nc) nm from (unhide H0).name)).mono ?_
 rw [unhide HN]
 rintro e w1 ⟨rfl, b1⟩
 have bb1 := below_next b0 b1
 have K1 := hide (block_kept b1 (unhide K0))
 have H1 := hide ((unhide H0).below b1)
 clear b0 b1 K0 H0
 obtain ⟨d0, d1, d2, d3, d4, d5, d6⟩ := cells7 (unhide K1)
 go_wp2_with fail
 refine (implTypeOk_any 6 _).mono ?_
 rw [show typeOk 6 = true from rfl]
 rintro e w2 ⟨rfl, rfl⟩
 go_wp2_with fail
 refine (upTo_yes _ ht0 ht1).mono ?_
 rintro e w2 ⟨rfl, rfl⟩
 go_wp2_with fail
 refine (dataOf_S).mono ?_
 rintro e w2 ⟨rfl, b2⟩
 clear d0 d1 d2 d3 d4 d5 d6
 have b2 := below_next b2 (below_drew (w := w2))
 have bb2 := below_next bb1 b2
 have K2 := hide (block_kept b2 (unhide K1))
 have H2 := hide ((unhide H1).below b2)
 clear bb1 b2 K1 H1
 go_wp2_with fail
 first | (go_region_with (first
  | (go_at_call 164; refine (unhide OKD _ (unhide H2)).mono ?_; rintro e w3 ⟨rfl, b3⟩; obtain ⟨d0, d1, d2, d3, d4, d5, d6⟩ := cells7 (block_kept b3 (unhide K2)))
  | (go_at_call 132; refine (recordOf_S (na := na) (nc := nc) (ta := ta) (tc := tc) (xa := xa) (xc := xc) (ia := ia) (ic := ic) (nm := nm) (to := to) (tx := tx) (nu := nu) (tt := tt) (ad := ad)).mono ?_; rintro e w4 ⟨rfl, b4⟩; have q4 := below_next b3 b4; obtain ⟨d0, d1, d2, d3, d4, d5, d6⟩ := cells7 (block_kept q4 (unhide K2)))
  | (go_at_call 131; refine (unhide NE _).mono ?_; rintro e w5 ⟨rfl, b5⟩; have q5 := below_next q4 b5))) | fail
 all_goals
  go_wp2_with fail
  go_ret
  first | exact ⟨rfl, below_next bb2 q5⟩ | exact ⟨rfl, below_next bb2 b3⟩
end Go.Proofs.YtfbfakdkemlbmaaGreat

namespace Go.Proofs.YtfbfakdkemlbmaaGreat
open Go.RowKit
set_option linter.unusedVariables false


set_option maxHeartbeats 1000000 in
set_option maxRecDepth 100000 in
theorem rrOkData_X_true {na : Option Addr} {nc : Nat} {ta : Option Addr} {tc : Nat} {xa : Option Addr} {xc : Nat} {ia : Option Addr} {ic : Nat} {nm to : List (List Int)} {tx nu : List Int} {tt ad : Int} {w : World} {ty : Int} (hk : kindV ty = .iface 176 (.agg #[.slice none 0 0])) (hto : typeOk ty = true) (h : HasR w (.slice na nm.length nc) (.slice ta to.length tc) (.slice xa tx.length xc) (.slice ia nu.length ic) ⟨nm, ty, tt, ad, to, tx, nu⟩) (hN : nameOk nm = true) (ht0 : 0 ≤ tt) (ht1 : tt ≤ 100000) (hD : decide (tx.length ≤ 40) = true) :
  Calls Tryz.prog 121 #[.agg #[.slice na nm.length nc, .int .i64 ty, .int .i64 tt, .int .i64 ad, .slice ta to.length tc, .slice xa tx.length xc, .slice ia nu.length ic]] w fun e w' => e = .returned (.bool (decide (ad = 0 ∧ to.length = 0 ∧ tx.length = tx.length ∧ nu.length = 0))) ∧ Below w.heap.size w w' := by
 have b0 := below_alloc (w := w) (.cells #[.slice na nm.length nc, .int .i64 ty, .int .i64 tt, .int .i64 ad, .slice ta to.length tc, .slice xa tx.length xc, .slice ia nu.length ic] 105)
 have K0 := hide (heap_alloc_new w (.cells #[.slice na nm.length nc, .int .i64 ty, .int .i64 tt, .int .i64 ad, .slice ta to.length tc, .slice xa tx.length xc, .slice ia nu.length ic] 105))
 have H0 := hide (h.below b0)
 have HN := hide hN
 clear h hN
 have HKK := hide hk
 have HTO := hide hto
 clear hk hto
 have NE := hide (fun (w : World) => nothingElse_any (w := w) (na := na) (nl := nm.length) (nc := nc) (ty := ty) (tt := tt) (ad := ad) (ta := ta) (tl := to.length) (tc := tc) (xa := xa) (xl := tx.length) (xc := xc) (ia := ia) (il := nu.length) (ic := ic) (na' := none) (nl' := 0) (nc' := 0) (ty' := ty) (tt' := 0) (ad' := 0) (ta' := none) (tl' := 0) (tc' := 0) (xa' := xa) (xl' := tx.length) (xc' := xc) (ia' := none) (il' := 0) (ic' := 0))
 generalize decide (ad = 0 ∧ to.length = 0 ∧ tx.length = tx.length ∧ nu.length = 0) = E at *
 have OKC := hide (fun (w : World) (HH : HasR w (.slice na nm.length nc) (.slice ta to.length tc) (.slice xa tx.length xc) (.slice ia nu.length ic) ⟨nm, ty, tt, ad, to, tx, nu⟩) => textOk_has (show Has w (.slice xa tx.length xc) tx from HH.text))
 have OKD := hide (fun (w : World) (HH : HasR w (.slice na nm.length nc) (.slice ta to.length tc) (.slice xa tx.length xc) (.slice ia nu.length ic) ⟨nm, ty, tt, ad, to, tx, nu⟩) => (show Calls Tryz.prog 168 #[.agg #[.slice xa tx.length xc]] w fun e w' => e = .returned (.bool true) ∧ Below w.heap.size w w' by rw [← hD]; exact unhide OKC w HH))
 clear OKC hD
 go_enter Tryz.func121, Tryz.ntmps121
 go_wp2_with fail
 generalize w.alloc (.cells #[.slice na nm.length nc, .int .i64 ty, .int .i64 tt, .int .i64 ad, .slice ta to.length tc, .slice xa tx.length xc, .slice ia nu.length ic] 105) = W at *
 refine (implNameOk_has (show HasL W (.slice na nm.length nc) nm from (unhide H0).name)).mono ?_
 rw [unhide HN]
 rintro e w1 ⟨rfl, b1⟩
 have bb1 := below_next b0 b1
 have K1 := hide (block_kept b1 (unhide K0))
 have H1 := hide ((unhide H0).below b1)
 clear b0 b1 K0 H0
 obtain ⟨d0, d1, d2, d3, d4, d5, d6⟩ := cells7 (unhide K1)
 go_wp2_with fail
 refine (implTypeOk_any ty _).mono ?_
 rw [unhide HTO]
 rintro e w2 ⟨rfl, rfl⟩
 go_wp2_with fail
 refine (upTo_yes _ ht0 ht1).mono ?_
 rintro e w2 ⟨rfl, rfl⟩
 go_wp2_with fail
 refine (dataOf_X (unhide HKK) (unhide HTO)).mono ?_
 rintro e w2 ⟨rfl, b2⟩
 clear d0 d1 d2 d3 d4 d5 d6
 have b2 := below_next b2 (below_drew (w := w2))
 have bb2 := below_next bb1 b2
 have K2 := hide (block_kept b2 (unhide K1))
 have H2 := hide ((unhide H1).below b2)
 clear bb1 b2 K1 H1
 go_wp2_with fail
 go_region_with (first
  | (go_at_call 168; refine (unhide OKD _ (unhide H2)).mono ?_; rintro e w3 ⟨rfl, b3⟩; obtain ⟨d0, d1, d2, d3, d4, d5, d6⟩ := cells7 (block_kept b3 (unhide K2)))
  | (go_at_call 132; refine (recordOf_X (na := na) (nc := nc) (ta := ta) (tc := tc) (xa := xa) (xc := xc) (ia := ia) (ic := ic) (nm := nm) (to := to) (tx := tx) (nu := nu) (tt := tt) (ad := ad)).mono ?_; rintro e w4 ⟨rfl, b4⟩; have q4 := below_next b3 b4; obtain ⟨d0, d1, d2, d3, d4, d5, d6⟩ := cells7 (block_kept q4 (unhide K2)))
  | (go_at_call 131; refine (unhide NE _).mono ?_; rintro e w5 ⟨rfl, b5⟩; have q5 := below_next q4 b5))
 all_goals
  go_wp2_with fail
  go_ret
  first | exact ⟨rfl, below_next bb2 q5⟩ | exact ⟨rfl, below_next bb2 b3⟩


set_option maxHeartbeats 1000000 in
set_option maxRecDepth 100000 in
theorem rrOkData_X_false {na : Option Addr} {nc : Nat} {ta : Option Addr} {tc : Nat} {xa : Option Addr} {xc : Nat} {ia : Option Addr} {ic : Nat} {nm to : List (List Int)} {tx nu : List Int} {tt ad : Int} {w : World} {ty : Int} (hk : kindV ty = .iface 176 (.agg #[.slice none 0 0])) (hto : typeOk ty = true) (h : HasR w (.slice na nm.length nc) (.slice ta to.length tc) (.slice xa tx.length xc) (.slice ia nu.length ic) ⟨nm, ty, tt, ad, to, tx, nu⟩) (hN : nameOk nm = true) (ht0 : 0 ≤ tt) (ht1 : tt ≤ 100000) (hD : decide (tx.length ≤ 40) = false) :
  Calls Tryz.prog 121 #[.agg #[.slice na nm.length nc, .int .i64 ty, .int .i64 tt, .int .i64 ad, .slice ta to.length tc, .slice xa tx.length xc, .slice ia nu.length ic]] w fun e w' => e = .returned (.bool false) ∧ Below w.heap.size w w' := by
 have b0 := below_alloc (w := w) (.cells #[.slice na nm.length nc, .int .i64 ty, .int .i64 tt, .int .i64 ad, .slice ta to.length tc, .slice xa tx.length xc, .slice ia nu.length ic] 105)
 have K0 := hide (heap_alloc_new w (.cells #[.slice na nm.length nc, .int .i64 ty, .int .i64 tt, .int .i64 ad, .slice ta to.length tc, .slice xa tx.length xc, .slice ia nu.length ic] 105))
 have H0 := hide (h.below b0)
 have HN := hide hN
 clear h hN
 have HKK := hide hk
 have HTO := hide hto
 clear hk hto
 have NE := hide (fun (w : World) => nothingElse_any (w := w) (na := na) (nl := nm.length) (nc := nc) (ty := ty) (tt := tt) (ad := ad) (ta := ta) (tl := to.length) (tc := tc) (xa := xa) (xl := tx.length) (xc := xc) (ia := ia) (il := nu.length) (ic := ic) (na' := none) (nl' := 0) (nc' := 0) (ty' := ty) (tt' := 0) (ad' := 0) (ta' := none) (tl' := 0) (tc' := 0) (xa' := xa) (xl' := tx.length) (xc' := xc) (ia' := none) (il' := 0) (ic' := 0))
 skip
 have OKC := hide (fun (w : World) (HH : HasR w (.slice na nm.length nc) (.slice ta to.length tc) (.slice xa tx.length xc) (.slice ia nu.length ic) ⟨nm, ty, tt, ad, to, tx, nu⟩) => textOk_has (show Has w (.slice xa tx.length xc) tx from HH.text))
 have OKD := hide (fun (w : World) (HH : HasR w (.slice na nm.length nc) (.slice ta to.length tc) (.slice xa tx.length xc) (.slice ia nu.length ic) ⟨nm, ty, tt, ad, to, tx, nu⟩) => (show Calls Tryz.prog 168 #[.agg #[.slice xa tx.length xc]] w fun e w' => e = .returned (.bool false) ∧ Below w.heap.size w w' by rw [← hD]; exact unhide OKC w HH))
 clear OKC hD
 go_enter Tryz.func121, Tryz.ntmps121
 go_wp2_with fail
 generalize w.alloc (.cells #[.slice na nm.length nc, .int .i64 ty, .int .i64 tt, .int .i64 ad, .slice ta to.length tc, .slice xa tx.length xc, .slice ia nu.length ic] 105) = W at *
 refine (implNameOk_has (show HasL W (.slice na nm.length nc) nm from (unhide H0).name)).mono ?_
 rw [unhide HN]
 rintro e w1 ⟨rfl, b1⟩
 have bb1 := below_next b0 b1
 have K1 := hide (block_kept b1 (unhide K0))
 have H1 := hide ((unhide H0).below b1)
 clear b0 b1 K0 H0
 obtain ⟨d0, d1, d2, d3, d4, d5, d6⟩ := cells7 (unhide K1)
 go_wp2_with fail
 refine (implTypeOk_any ty _).mono ?_
 rw [unhide HTO]
 rintro e w2 ⟨rfl, rfl⟩
 go_wp2_with fail
 refine (upTo_yes _ ht0 ht1).mono ?_
 rintro e w2 ⟨rfl, rfl⟩
 go_wp2_with fail
 refine (dataOf_X (unhide HKK) (unhide HTO)).mono ?_
 rintro e w2 ⟨rfl, b2⟩
 clear d0 d1 d2 d3 d4 d5 d6
 have b2 := below_next b2 (below_drew (w := w2))
 have bb2 := below_next bb1 b2
 have K2 := hide (block_kept b2 (unhide K1))
 have H2 := hide ((unhide H1).below b2)
 clear bb1 b2 K1 H1
 go_wp2_with fail
 first | (go_region_with (first
  | (go_at_call 168; refine (unhide OKD _ (unhide H2)).mono ?_; rintro e w3 ⟨rfl, b3⟩; obtain ⟨d0, d1, d2, d3, d4, d5, d6⟩ := cells7 (block_kept b3 (unhide K2)))
  | (go_at_call 132; refine (recordOf_X (na := na) (nc := nc) (ta := ta) (tc := tc) (xa := xa) (xc := xc) (ia := ia) (ic := ic) (nm := nm) (to := to) (tx := tx) (nu := nu) (tt := tt) (ad := ad)).mono ?_; rintro e w4 ⟨rfl, b4⟩; have q4 := below_next b3 b4; obtain ⟨d0, d1, d2, d3, d4, d5, d6⟩ := cells7 (block_kept q4 (unhide K2)))
  | (go_at_call 131; refine (unhide NE _).mono ?_; rintro e w5 ⟨rfl, b5⟩; have q5 := below_next q4 b5))) | fail
 all_goals
  go_wp2_with fail
  go_ret
  first | exact ⟨rfl, below_next bb2 q5⟩ | exact ⟨rfl, below_next bb2 b3⟩
end Go.Proofs.YtfbfakdkemlbmaaGreat

namespace Go.Proofs.YtfbfakdkemlbmaaGreat
open Go.RowKit
set_option linter.unusedVariables false

theorem dataOk_A {nm to : List (List Int)} {tx nu : List Int} {tt ad : Int} : dataOk ⟨nm, 1, tt, ad, to, tx, nu⟩ = (decide (0 ≤ ad ∧ ad ≤ 4294967295) && decide (ad = ad ∧ to.length = 0 ∧ tx.length = 0 ∧ nu.length = 0)) := by
 rw [Bool.eq_iff_iff]
 simp [dataOk, show named 1 = false from rfl, show texted 1 = false from rfl]
theorem dataOk_N {nm to : List (List Int)} {tx nu : List Int} {ty tt ad : Int} (h : ty = 2 ∨ ty = 5 ∨ ty = 12) : dataOk ⟨nm, ty, tt, ad, to, tx, nu⟩ = (nameOk to && decide (ad = 0 ∧ to.length = to.length ∧ tx.length = 0 ∧ nu.length = 0)) := by
 have h1 : named ty = true := decide_eq_true (by omega)
 have h2 : texted ty = false := decide_eq_false (by omega)
 have h3 : ty ≠ 1 := by omega
 have h4 : ty ≠ 6 := by omega
 rw [Bool.eq_iff_iff]
 simp [dataOk, h1, h2, h3, h4]
 constructor
 ·rintro ⟨a, b, c, d⟩; exact ⟨b, a, c, d⟩
 ·rintro ⟨b, a, c, d⟩; exact ⟨a, b, c, d⟩
theorem dataOk_S {nm to : List (List Int)} {tx nu : List Int} {tt ad : Int} : dataOk ⟨nm, 6, tt, ad, to, tx, nu⟩ = ((nameOk to && numsOk nu) && decide (ad = 0 ∧ to.length = to.length ∧ tx.length = 0 ∧ nu.length = nu.length)) := by
 rw [Bool.eq_iff_iff]
 simp [dataOk, show named 6 = true from rfl, show texted 6 = false from rfl, numsOk]
 constructor
 ·rintro ⟨a, b, c, d⟩; exact ⟨⟨b, d⟩, a, c⟩
 ·rintro ⟨⟨b, d⟩, a, c⟩; exact ⟨a, b, c, d⟩
theorem dataOk_X {nm to : List (List Int)} {tx nu : List Int} {ty tt ad : Int} (h : ty = 16 ∨ ty = 49) : dataOk ⟨nm, ty, tt, ad, to, tx, nu⟩ = (decide (tx.length ≤ 40) && decide (ad = 0 ∧ to.length = 0 ∧ tx.length = tx.length ∧ nu.length = 0)) := by
 have h1 : named ty = false := decide_eq_false (by omega)
 have h2 : texted ty = true := decide_eq_true (by omega)
 have h3 : ty ≠ 1 := by omega
 have h4 : ty ≠ 6 := by omega
 rw [Bool.eq_iff_iff]
 simp [dataOk, h1, h2, h3, h4]
 constructor
 ·rintro ⟨a, b, c, d⟩; exact ⟨c, a, b, d⟩
 ·rintro ⟨c, a, b, d⟩; exact ⟨a, b, c, d⟩
theorem kindV_N {ty : Int} (h : ty = 2 ∨ ty = 5 ∨ ty = 12) : kindV ty = .iface 172 (.agg #[.slice none 0 0]) := by
 rcases h with rfl | rfl | rfl <;> rfl
theorem kindV_X {ty : Int} (h : ty = 16 ∨ ty = 49) : kindV ty = .iface 176 (.agg #[.slice none 0 0]) := by
 rcases h with rfl | rfl <;> rfl

set_option maxHeartbeats 1000000 in
set_option maxRecDepth 100000 in
theorem implRrOk_has {vn vt vx vi : Value} {r : Rec} {w : World} (h : HasR w vn vt vx vi r) :
  Calls Tryz.prog 121 #[.agg #[vn, .int .i64 r.type, .int .i64 r.ttl, .int .i64 r.addr, vt, vx, vi]] w fun e w' => e = .returned (.bool (rrOk r)) ∧ Below w.heap.size w w' := by
 obtain ⟨na, nc, rfl, _⟩ := h.name.form
 obtain ⟨ta, tc, rfl, _⟩ := h.to.form
 obtain ⟨xa, xc, rfl, _⟩ := h.text.form
 obtain ⟨ia, ic, rfl, _⟩ := h.nums.form
 have b0 := below_alloc (w := w) (.cells #[.slice na r.name.length nc, .int .i64 r.type, .int .i64 r.ttl, .int .i64 r.addr, .slice ta r.to.length tc, .slice xa r.text.length xc, .slice ia r.nums.length ic] 105)
 have K0 := hide (heap_alloc_new w (.cells #[.slice na r.name.length nc, .int .i64 r.type, .int .i64 r.ttl, .int .i64 r.addr, .slice ta r.to.length tc, .slice xa r.text.length xc, .slice ia r.nums.length ic] 105))
 have H0 := hide (h.below b0)
 cases hN : nameOk r.name with
 | false =>
  have e : rrOk r = false := by unfold rrOk; rw [hN]; rfl
  rw [e]
  have HN := hide hN
  clear hN h e
  go_enter Tryz.func121, Tryz.ntmps121
  go_wp2_with fail
  generalize w.alloc (.cells #[.slice na r.name.length nc, .int .i64 r.type, .int .i64 r.ttl, .int .i64 r.addr, .slice ta r.to.length tc, .slice xa r.text.length xc, .slice ia r.nums.length ic] 105) = W at *
  refine (implNameOk_has (unhide H0).name).mono ?_
  rw [unhide HN]
  rintro e w1 ⟨rfl, b1⟩
  go_wp2_with fail
  go_ret
  exact ⟨rfl, below_next b0 b1⟩
 | true =>
  cases hT : typeOk r.type with
  | false =>
   have e : rrOk r = false := by unfold rrOk; rw [hN, hT]; rfl
   rw [e]
   have HN := hide hN
   have HT := hide hT
   clear hN hT h e
   go_enter Tryz.func121, Tryz.ntmps121
   go_wp2_with fail
   generalize w.alloc (.cells #[.slice na r.name.length nc, .int .i64 r.type, .int .i64 r.ttl, .int .i64 r.addr, .slice ta r.to.length tc, .slice xa r.text.length xc, .slice ia r.nums.length ic] 105) = W at *
   refine (implNameOk_has (unhide H0).name).mono ?_
   rw [unhide HN]
   rintro e w1 ⟨rfl, b1⟩
   obtain ⟨d0, d1, d2, d3, d4, d5, d6⟩ := cells7 (block_kept b1 (unhide K0))
   go_wp2_with fail
   refine (implTypeOk_any r.type _).mono ?_
   rw [unhide HT]
   rintro e w2 ⟨rfl, rfl⟩
   go_wp2_with fail
   go_ret
   exact ⟨rfl, below_next b0 b1⟩
  | true =>
   by_cases ht : 0 ≤ r.ttl ∧ r.ttl ≤ 100000
   ·have e : rrOk r = dataOk r := by unfold rrOk; rw [hN, hT, decide_eq_true ht]; rfl
    rw [e]
    clear b0 K0 H0 e
    obtain ⟨nm, ty, tt, ad, to, tx, nu⟩ := r
    simp only at *
    rcases type_cases ty with rfl | rfl | rfl | rfl | rfl | rfl | rfl | h0
    ·rw [dataOk_A]
     cases hD : decide (0 ≤ ad ∧ ad ≤ 4294967295) with
     | true => rw [Bool.true_and]; exact rrOkData_A_true h hN ht.1 ht.2 hD
     | false => rw [Bool.false_and]; exact rrOkData_A_false h hN ht.1 ht.2 hD
    ·rw [dataOk_N (by omega)]
     cases hD : nameOk to with
     | true => rw [Bool.true_and]; exact rrOkData_N_true (kindV_N (by omega)) hT h hN ht.1 ht.2 hD
     | false => rw [Bool.false_and]; exact rrOkData_N_false (kindV_N (by omega)) hT h hN ht.1 ht.2 hD
    ·rw [dataOk_N (by omega)]
     cases hD : nameOk to with
     | true => rw [Bool.true_and]; exact rrOkData_N_true (kindV_N (by omega)) hT h hN ht.1 ht.2 hD
     | false => rw [Bool.false_and]; exact rrOkData_N_false (kindV_N (by omega)) hT h hN ht.1 ht.2 hD
    ·rw [dataOk_S]
     cases hD : (nameOk to && numsOk nu) with
     | true => rw [Bool.true_and]; exact rrOkData_S_true h hN ht.1 ht.2 hD
     | false => rw [Bool.false_and]; exact rrOkData_S_false h hN ht.1 ht.2 hD
    ·rw [dataOk_N (by omega)]
     cases hD : nameOk to with
     | true => rw [Bool.true_and]; exact rrOkData_N_true (kindV_N (by omega)) hT h hN ht.1 ht.2 hD
     | false => rw [Bool.false_and]; exact rrOkData_N_false (kindV_N (by omega)) hT h hN ht.1 ht.2 hD
    ·rw [dataOk_X (by omega)]
     cases hD : decide (tx.length ≤ 40) with
     | true => rw [Bool.true_and]; exact rrOkData_X_true (kindV_X (by omega)) hT h hN ht.1 ht.2 hD
     | false => rw [Bool.false_and]; exact rrOkData_X_false (kindV_X (by omega)) hT h hN ht.1 ht.2 hD
    ·rw [dataOk_X (by omega)]
     cases hD : decide (tx.length ≤ 40) with
     | true => rw [Bool.true_and]; exact rrOkData_X_true (kindV_X (by omega)) hT h hN ht.1 ht.2 hD
     | false => rw [Bool.false_and]; exact rrOkData_X_false (kindV_X (by omega)) hT h hN ht.1 ht.2 hD
    ·rw [hT] at h0; cases h0
   ·have e : rrOk r = false := by unfold rrOk; rw [hN, hT, decide_eq_false ht]; rfl
    rw [e]
    have HN := hide hN
    have HT := hide hT
    have hno : r.ttl < 0 ∨ 100000 < r.ttl := by omega
    have HNO := hide hno
    clear hN hT h e hno ht
    go_enter Tryz.func121, Tryz.ntmps121
    go_wp2_with fail
    generalize w.alloc (.cells #[.slice na r.name.length nc, .int .i64 r.type, .int .i64 r.ttl, .int .i64 r.addr, .slice ta r.to.length tc, .slice xa r.text.length xc, .slice ia r.nums.length ic] 105) = W at *
    refine (implNameOk_has (unhide H0).name).mono ?_
    rw [unhide HN]
    rintro e w1 ⟨rfl, b1⟩
    obtain ⟨d0, d1, d2, d3, d4, d5, d6⟩ := cells7 (block_kept b1 (unhide K0))
    go_wp2_with fail
    refine (implTypeOk_any r.type _).mono ?_
    rw [unhide HT]
    rintro e w2 ⟨rfl, rfl⟩
    go_wp2_with fail
    refine (upTo_no _ (unhide HNO)).mono ?_
    rintro e w2 ⟨rfl, rfl⟩
    go_wp2_with fail
    go_ret
    exact ⟨rfl, below_next b0 b1⟩
end Go.Proofs.YtfbfakdkemlbmaaGreat

namespace Go.Proofs.YtfbfakdkemlbmaaGreat
open Go.RowKit
set_option linter.unusedVariables false

set_option maxHeartbeats 1000000 in
set_option maxRecDepth 100000 in
theorem listOkRr_has {v : Value} {l : List Rec} {w : World} (h : HasRs w v l) :
  Calls Tryz.prog 120 #[v, .func (Fn.func 121) #[] #[]] w fun e w' => e = .returned (.bool (rrsOk l)) ∧ Below w.heap.size w w' := by
 obtain ⟨a, cap, rfl, hl, hm⟩ := h.form
 unfold rrsOk maxLen at *
 have HA := hide (all_of (p := rrOk) l recZ)
 have HB := hide (fun k (hk : k < l.length) (hp : rrOk (l.getD k recZ) = false) => all_not (p := rrOk) l recZ hk hp)
 by_cases h12 : l.length ≤ 12
 ·rw [decide_eq_true h12, Bool.true_and]
  generalize l.all rrOk = R at *
  generalize hn : l.length = m at *
  have HN := hide hn
  have H := hide h
  clear hn h
  go_enter Tryz.func120, Tryz.ntmps120
  go_wp2
  go_loopw [12] (fun i wr => ∃ k : Nat, k ≤ m ∧ i = .int .i64 k ∧ Hid (∀ j, j < k → rrOk (l.getD j recZ) = true) ∧ Below w.heap.size w wr) (fun i _ => m - (intOf i).toNat)
  case atStart => exact ⟨0, Nat.zero_le _, rfl, hide (fun j hj => absurd hj (Nat.not_lt_zero _)), Below.refl _ _⟩
  case round =>
   obtain ⟨k, hk, rfl, hall, hb⟩ := hrel
   by_cases hlt : k < m
   ·obtain ⟨b, off, na, nc, ta, tc, xa, xc, ia, ic, rfl, hbl, hc, hu⟩ := ((unhide H).below hb).here (k := k) (by rw [unhide HN]; exact hlt)
    have hbk := unhide HB k hlt
    have HBK := hide hbk
    have hone := hide (fun (hs : rrOk (l.getD k recZ) = true) => (show ∀ j, j < k + 1 → rrOk (l.getD j recZ) = true from fun j hj => by
      by_cases e : j = k
      ·subst e; exact hs
      ·exact unhide hall j (by omega)))
    clear hbk
    generalize l.getD k recZ = rk at *
    have bA := fun o => below_alloc (w := wr) o
    have HC := hide (fun o => implRrOk_has (hu.below (below_alloc (w := wr) o)))
    obtain ⟨c0, c1, c2, c3, c4, c5, c6⟩ := range7 hc
    clear hc hu
    cases hp : rrOk rk with
    | true =>
     have HC' := unhide HC
     rw [show rrOk rk = true from hp] at HC'
     replace HC := hide HC'
     clear HC'
     go_wp2_with fail
     refine (unhide HC _).mono ?_
     rintro e w1 ⟨rfl, b1⟩
     clear c0 c1 c2 c3 c4 c5 c6
     have b2 := below_next (below_next hb (bA _)) b1
     clear b1 bA
     go_wp2_with fail
     exact ⟨⟨k + 1, by omega, by go_num, hide (unhide hone hp), b2⟩, by simp [intOf]; omega⟩
    | false =>
     have HC' := unhide HC
     rw [show rrOk rk = false from hp] at HC'
     replace HC := hide HC'
     clear HC'
     have hR := unhide HBK hp
     subst hR
     go_wp2_with fail
     refine (unhide HC _).mono ?_
     rintro e w1 ⟨rfl, b1⟩
     clear c0 c1 c2 c3 c4 c5 c6
     have b2 := below_next (below_next hb (bA _)) b1
     clear b1 bA
     go_wp2_with fail
     go_ret
     exact ⟨rfl, b2⟩
   ·obtain rfl : k = m := by omega
    have hR := unhide HA (unhide hall)
    subst hR
    go_wp2
    go_ret
    exact ⟨rfl, hb⟩
 ·rw [decide_eq_false h12, Bool.false_and]
  clear HA HB h
  generalize l.length = m at *
  go_enter Tryz.func120, Tryz.ntmps120
  go_wp2
  go_ret
  exact ⟨rfl, Below.refl _ _⟩
end Go.Proofs.YtfbfakdkemlbmaaGreat

namespace Go.Proofs.YtfbfakdkemlbmaaGreat
open Go.RowKit
set_option linter.unusedVariables false

set_option maxHeartbeats 400000 in
set_option maxRecDepth 100000 in
theorem codeOk_any (c : Int) (w : World) : Calls Tryz.prog 110 #[.int .i64 c] w fun e w' => e = .returned (.bool (decide (0 ≤ c ∧ c ≤ 10))) ∧ w = w' := by
 by_cases h0 : 0 ≤ c
 ·by_cases h1 : c ≤ 10
  ·rw [decide_eq_true ⟨h0, h1⟩]
   go_enter Tryz.func110, Tryz.ntmps110
   go_wp2
   go_ret
   exact ⟨rfl, rfl⟩
  ·rw [decide_eq_false (fun h => h1 h.2)]
   go_enter Tryz.func110, Tryz.ntmps110
   go_wp2
   go_ret
   exact ⟨rfl, rfl⟩
 ·rw [decide_eq_false (fun h => h0 h.1)]
  go_enter Tryz.func110, Tryz.ntmps110
  go_wp2
  go_ret
  exact ⟨rfl, rfl⟩
end Go.Proofs.YtfbfakdkemlbmaaGreat

namespace Go.Proofs.YtfbfakdkemlbmaaGreat
open Go.RowKit
set_option linter.unusedVariables false

set_option maxHeartbeats 1000000 in
set_option maxRecDepth 100000 in
theorem askable_any (t : Int) (w : World) : Calls Tryz.prog 119 #[.int .i64 t] w fun e w' => e = .returned (.bool (asked t)) ∧ w = w' := by
 have HT := implTypeOk_any t w
 unfold asked
 cases ht : typeOk t with
 | true =>
  rw [ht] at HT
  replace HT := hide HT
  rw [Bool.true_or]
  go_enter Tryz.func119, Tryz.ntmps119
  go_wp2_with fail
  refine (unhide HT).mono ?_
  rintro e w1 ⟨rfl, rfl⟩
  go_wp2_with fail
  go_ret
  exact ⟨rfl, rfl⟩
 | false =>
  rw [ht] at HT
  replace HT := hide HT
  rw [Bool.false_or]
  by_cases h5 : t = 255
  ·rw [decide_eq_true h5]
   have h5' : (t == 255) = true := by rw [beq_iff_eq]; exact h5
   clear ht h5
   go_enter Tryz.func119, Tryz.ntmps119
   go_wp2_with fail
   refine (unhide HT).mono ?_
   rintro e w1 ⟨rfl, rfl⟩
   go_wp2_with fail
   go_ret
   exact ⟨rfl, rfl⟩
  ·rw [decide_eq_false h5]
   have h5' : (t == 255) = false := by rw [beq_eq_false_iff_ne]; exact h5
   clear ht h5
   go_enter Tryz.func119, Tryz.ntmps119
   go_wp2_with fail
   refine (unhide HT).mono ?_
   rintro e w1 ⟨rfl, rfl⟩
   go_wp2_with fail
   go_ret
   exact ⟨rfl, rfl⟩

end Go.Proofs.YtfbfakdkemlbmaaGreat
