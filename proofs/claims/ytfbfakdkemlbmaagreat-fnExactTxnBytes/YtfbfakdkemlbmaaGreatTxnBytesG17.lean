/-
  Contracts of the program's dataOf and recordOf, kind by kind. Contracts of the program's nothingElse. Contracts of the program's RrOk where name and time may be, for one kind of data. Contracts of the program's RrOk where name and time may be, for one kind of data.
-/
import Derived.Test.YtfbfakdkemlbmaaGreatTxnBytesG16
import Derived.RegionTactic
import Derived.Test.YtfbfakdkemlbmaaGreatTxnBytesG04
import Derived.Test.YtfbfakdkemlbmaaGreatTxnBytesG00
import Derived.Test.YtfbfakdkemlbmaaGreatTxnBytesG07
import Derived.WalkKit
import Derived.Deep.RegionWith
namespace Go.Proofs.YtfbfakdkemlbmaaGreat
open Go.RowKit
set_option linter.unusedVariables false

set_option maxHeartbeats 400000 in
set_option maxRecDepth 100000 in
theorem dataOf_A {na : Option Addr} {nc : Nat} {ta : Option Addr} {tc : Nat} {xa : Option Addr} {xc : Nat} {ia : Option Addr} {ic : Nat} {nm to : List (List Int)} {tx nu : List Int} {tt ad : Int} {w : World} : Calls Tryz.prog 130 #[.agg #[.slice na nm.length nc, .int .i64 1, .int .i64 tt, .int .i64 ad, .slice ta to.length tc, .slice xa tx.length xc, .slice ia nu.length ic]] w fun e w' => e = .returned (.iface 170 (.agg #[.int .i64 ad])) ∧ Below w.heap.size w w' := by
 have b0 := below_alloc (w := w) (.cells #[.slice na nm.length nc, .int .i64 1, .int .i64 tt, .int .i64 ad, .slice ta to.length tc, .slice xa tx.length xc, .slice ia nu.length ic] 105)
 have ta := ta_aa
 have tn := ta_an
 have ts := ta_as
 have tx := ta_ax
 go_enter Tryz.func130, Tryz.ntmps130
 go_wp2_with fail
 refine (kindOf_any 1 _).mono ?_
 rw [show kindV 1 = .iface 170 (.agg #[.int .i64 0]) from rfl]
 rintro e w1 ⟨rfl, rfl⟩
 go_wp2
 go_ret
 exact ⟨rfl, b0⟩

set_option maxHeartbeats 800000 in
set_option maxRecDepth 100000 in
theorem recordOf_A {na : Option Addr} {nc : Nat} {ta : Option Addr} {tc : Nat} {xa : Option Addr} {xc : Nat} {ia : Option Addr} {ic : Nat} {nm to : List (List Int)} {tx nu : List Int} {tt ad : Int} {w : World} : Calls Tryz.prog 132 #[.int .i64 1, .iface 170 (.agg #[.int .i64 ad])] w fun e w' => e = .returned (.agg #[.slice none 0 0, .int .i64 1, .int .i64 0, .int .i64 ad, .slice none 0 0, .slice none 0 0, .slice none 0 0]) ∧ Below w.heap.size w w' := by
 have ta := ta_aa
 have tn := ta_an
 have ts := ta_as
 have tx := ta_ax
 go_enter Tryz.func132, Tryz.ntmps132
 go_wp2
 go_returns
 exact ⟨rfl, by go_grown⟩

set_option maxHeartbeats 400000 in
set_option maxRecDepth 100000 in
theorem dataOf_N {na : Option Addr} {nc : Nat} {ta : Option Addr} {tc : Nat} {xa : Option Addr} {xc : Nat} {ia : Option Addr} {ic : Nat} {nm to : List (List Int)} {tx nu : List Int} {tt ad : Int} {w : World} {ty : Int} (hk : kindV ty = .iface 172 (.agg #[.slice none 0 0])) (hto : typeOk ty = true) : Calls Tryz.prog 130 #[.agg #[.slice na nm.length nc, .int .i64 ty, .int .i64 tt, .int .i64 ad, .slice ta to.length tc, .slice xa tx.length xc, .slice ia nu.length ic]] w fun e w' => e = .returned (.iface 172 (.agg #[.slice ta to.length tc])) ∧ Below w.heap.size w w' := by
 have b0 := below_alloc (w := w) (.cells #[.slice na nm.length nc, .int .i64 ty, .int .i64 tt, .int .i64 ad, .slice ta to.length tc, .slice xa tx.length xc, .slice ia nu.length ic] 105)
 have HK := hide hk
 clear hk
 have ta := ta_na
 have tn := ta_nn
 have ts := ta_ns
 have tx := ta_nx
 go_enter Tryz.func130, Tryz.ntmps130
 go_wp2_with fail
 refine (kindOf_any ty _).mono ?_
 rw [unhide HK]
 rintro e w1 ⟨rfl, rfl⟩
 go_wp2
 go_ret
 exact ⟨rfl, b0⟩

set_option maxHeartbeats 800000 in
set_option maxRecDepth 100000 in
theorem recordOf_N {na : Option Addr} {nc : Nat} {ta : Option Addr} {tc : Nat} {xa : Option Addr} {xc : Nat} {ia : Option Addr} {ic : Nat} {nm to : List (List Int)} {tx nu : List Int} {tt ad : Int} {w : World} {ty : Int} : Calls Tryz.prog 132 #[.int .i64 ty, .iface 172 (.agg #[.slice ta to.length tc])] w fun e w' => e = .returned (.agg #[.slice none 0 0, .int .i64 ty, .int .i64 0, .int .i64 0, .slice ta to.length tc, .slice none 0 0, .slice none 0 0]) ∧ Below w.heap.size w w' := by
 have ta := ta_na
 have tn := ta_nn
 have ts := ta_ns
 have tx := ta_nx
 go_enter Tryz.func132, Tryz.ntmps132
 go_wp2
 go_returns
 exact ⟨rfl, by go_grown⟩

set_option maxHeartbeats 400000 in
set_option maxRecDepth 100000 in
theorem dataOf_S {na : Option Addr} {nc : Nat} {ta : Option Addr} {tc : Nat} {xa : Option Addr} {xc : Nat} {ia : Option Addr} {ic : Nat} {nm to : List (List Int)} {tx nu : List Int} {tt ad : Int} {w : World} : Calls Tryz.prog 130 #[.agg #[.slice na nm.length nc, .int .i64 6, .int .i64 tt, .int .i64 ad, .slice ta to.length tc, .slice xa tx.length xc, .slice ia nu.length ic]] w fun e w' => e = .returned (.iface 174 (.agg #[.slice ta to.length tc, .slice ia nu.length ic])) ∧ Below w.heap.size w w' := by
 have b0 := below_alloc (w := w) (.cells #[.slice na nm.length nc, .int .i64 6, .int .i64 tt, .int .i64 ad, .slice ta to.length tc, .slice xa tx.length xc, .slice ia nu.length ic] 105)
 have ta := ta_sa
 have tn := ta_sn
 have ts := ta_ss
 have tx := ta_sx
 go_enter Tryz.func130, Tryz.ntmps130
 go_wp2_with fail
 refine (kindOf_any 6 _).mono ?_
 rw [show kindV 6 = .iface 174 (.agg #[.slice none 0 0, .slice none 0 0]) from rfl]
 rintro e w1 ⟨rfl, rfl⟩
 go_wp2
 go_ret
 exact ⟨rfl, b0⟩

set_option maxHeartbeats 800000 in
set_option maxRecDepth 100000 in
theorem recordOf_S {na : Option Addr} {nc : Nat} {ta : Option Addr} {tc : Nat} {xa : Option Addr} {xc : Nat} {ia : Option Addr} {ic : Nat} {nm to : List (List Int)} {tx nu : List Int} {tt ad : Int} {w : World} : Calls Tryz.prog 132 #[.int .i64 6, .iface 174 (.agg #[.slice ta to.length tc, .slice ia nu.length ic])] w fun e w' => e = .returned (.agg #[.slice none 0 0, .int .i64 6, .int .i64 0, .int .i64 0, .slice ta to.length tc, .slice none 0 0, .slice ia nu.length ic]) ∧ Below w.heap.size w w' := by
 have ta := ta_sa
 have tn := ta_sn
 have ts := ta_ss
 have tx := ta_sx
 go_enter Tryz.func132, Tryz.ntmps132
 go_wp2
 go_region
 all_goals go_wp2
 all_goals
  go_returns
  exact ⟨rfl, by go_grown⟩

set_option maxHeartbeats 400000 in
set_option maxRecDepth 100000 in
theorem dataOf_X {na : Option Addr} {nc : Nat} {ta : Option Addr} {tc : Nat} {xa : Option Addr} {xc : Nat} {ia : Option Addr} {ic : Nat} {nm to : List (List Int)} {tx nu : List Int} {tt ad : Int} {w : World} {ty : Int} (hk : kindV ty = .iface 176 (.agg #[.slice none 0 0])) (hto : typeOk ty = true) : Calls Tryz.prog 130 #[.agg #[.slice na nm.length nc, .int .i64 ty, .int .i64 tt, .int .i64 ad, .slice ta to.length tc, .slice xa tx.length xc, .slice ia nu.length ic]] w fun e w' => e = .returned (.iface 176 (.agg #[.slice xa tx.length xc])) ∧ Below w.heap.size w w' := by
 have b0 := below_alloc (w := w) (.cells #[.slice na nm.length nc, .int .i64 ty, .int .i64 tt, .int .i64 ad, .slice ta to.length tc, .slice xa tx.length xc, .slice ia nu.length ic] 105)
 have HK := hide hk
 clear hk
 have ta := ta_xa
 have tn := ta_xn
 have ts := ta_xs
 have tx := ta_xx
 go_enter Tryz.func130, Tryz.ntmps130
 go_wp2_with fail
 refine (kindOf_any ty _).mono ?_
 rw [unhide HK]
 rintro e w1 ⟨rfl, rfl⟩
 go_wp2
 go_ret
 exact ⟨rfl, b0⟩

set_option maxHeartbeats 800000 in
set_option maxRecDepth 100000 in
theorem recordOf_X {na : Option Addr} {nc : Nat} {ta : Option Addr} {tc : Nat} {xa : Option Addr} {xc : Nat} {ia : Option Addr} {ic : Nat} {nm to : List (List Int)} {tx nu : List Int} {tt ad : Int} {w : World} {ty : Int} : Calls Tryz.prog 132 #[.int .i64 ty, .iface 176 (.agg #[.slice xa tx.length xc])] w fun e w' => e = .returned (.agg #[.slice none 0 0, .int .i64 ty, .int .i64 0, .int .i64 0, .slice none 0 0, .slice xa tx.length xc, .slice none 0 0]) ∧ Below w.heap.size w w' := by
 have ta := ta_xa
 have tn := ta_xn
 have ts := ta_xs
 have tx := ta_xx
 go_enter Tryz.func132, Tryz.ntmps132
 go_wp2
 go_returns
 exact ⟨rfl, by go_grown⟩

end Go.Proofs.YtfbfakdkemlbmaaGreat

namespace Go.Proofs.YtfbfakdkemlbmaaGreat
open Go.RowKit
set_option linter.unusedVariables false

set_option maxHeartbeats 800000 in
set_option maxRecDepth 100000 in
theorem nothingElse_any {na na' ta ta' xa xa' ia ia' : Option Addr} {nl nl' nc nc' tl tl' tc tc' xl xl' xc xc' il il' ic ic' : Nat} {ty ty' tt tt' ad ad' : Int} {w : World} :
  Calls Tryz.prog 131 #[.agg #[.slice na nl nc, .int .i64 ty, .int .i64 tt, .int .i64 ad, .slice ta tl tc, .slice xa xl xc, .slice ia il ic], .agg #[.slice na' nl' nc', .int .i64 ty', .int .i64 tt', .int .i64 ad', .slice ta' tl' tc', .slice xa' xl' xc', .slice ia' il' ic']] w fun e w' => e = .returned (.bool (decide (ad = ad' ∧ tl = tl' ∧ xl = xl' ∧ il = il'))) ∧ Below w.heap.size w w' := by
 have b0 := below2 w (.cells #[.slice na nl nc, .int .i64 ty, .int .i64 tt, .int .i64 ad, .slice ta tl tc, .slice xa xl xc, .slice ia il ic] 105) (.cells #[.slice na' nl' nc', .int .i64 ty', .int .i64 tt', .int .i64 ad', .slice ta' tl' tc', .slice xa' xl' xc', .slice ia' il' ic'] 105)

 by_cases h0 : ad ≠ ad'
 ·rw [decide_eq_false (by intro hh; exact h0 hh.1)]
  have e0 : (ad == ad') = false := by rw [beq_eq_false_iff_ne]; omega
  go_enter Tryz.func131, Tryz.ntmps131
  go_wp2
  go_ret
  exact ⟨rfl, below2 _ _ _⟩
 replace h0 : ad = ad' := by omega
 have e0 : (ad == ad') = true := by rw [beq_iff_eq]; omega
 by_cases h1 : tl ≠ tl'
 ·rw [decide_eq_false (by intro hh; exact h1 hh.2.1)]
  have e1 : ((tl : Int) == (tl' : Int)) = false := by rw [beq_eq_false_iff_ne]; omega
  go_enter Tryz.func131, Tryz.ntmps131
  go_wp2
  go_ret
  exact ⟨rfl, below2 _ _ _⟩
 replace h1 : tl = tl' := by omega
 have e1 : ((tl : Int) == (tl' : Int)) = true := by rw [beq_iff_eq]; omega
 by_cases h2 : xl ≠ xl'
 ·rw [decide_eq_false (by intro hh; exact h2 hh.2.2.1)]
  have e2 : ((xl : Int) == (xl' : Int)) = false := by rw [beq_eq_false_iff_ne]; omega
  go_enter Tryz.func131, Tryz.ntmps131
  go_wp2
  go_ret
  exact ⟨rfl, below2 _ _ _⟩
 replace h2 : xl = xl' := by omega
 have e2 : ((xl : Int) == (xl' : Int)) = true := by rw [beq_iff_eq]; omega
 by_cases h3 : il ≠ il'
 ·rw [decide_eq_false (by intro hh; exact h3 hh.2.2.2)]
  have e3 : ((il : Int) == (il' : Int)) = false := by rw [beq_eq_false_iff_ne]; omega
  go_enter Tryz.func131, Tryz.ntmps131
  go_wp2
  go_ret
  exact ⟨rfl, below2 _ _ _⟩
 replace h3 : il = il' := by omega
 have e3 : ((il : Int) == (il' : Int)) = true := by rw [beq_iff_eq]; omega
 rw [decide_eq_true ⟨h0, h1, h2, h3⟩]
 clear h0 h1 h2 h3
 go_enter Tryz.func131, Tryz.ntmps131
 go_wp2
 go_ret
 exact ⟨rfl, below2 _ _ _⟩
end Go.Proofs.YtfbfakdkemlbmaaGreat

namespace Go.Proofs.YtfbfakdkemlbmaaGreat
open Go.RowKit
set_option linter.unusedVariables false


set_option maxHeartbeats 1000000 in
set_option maxRecDepth 100000 in
theorem rrOkData_A_true {na : Option Addr} {nc : Nat} {ta : Option Addr} {tc : Nat} {xa : Option Addr} {xc : Nat} {ia : Option Addr} {ic : Nat} {nm to : List (List Int)} {tx nu : List Int} {tt ad : Int} {w : World} (h : HasR w (.slice na nm.length nc) (.slice ta to.length tc) (.slice xa tx.length xc) (.slice ia nu.length ic) ⟨nm, 1, tt, ad, to, tx, nu⟩) (hN : nameOk nm = true) (ht0 : 0 ≤ tt) (ht1 : tt ≤ 100000) (hD : decide (0 ≤ ad ∧ ad ≤ 4294967295) = true) :
  Calls Tryz.prog 121 #[.agg #[.slice na nm.length nc, .int .i64 1, .int .i64 tt, .int .i64 ad, .slice ta to.length tc, .slice xa tx.length xc, .slice ia nu.length ic]] w fun e w' => e = .returned (.bool (decide (ad = ad ∧ to.length = 0 ∧ tx.length = 0 ∧ nu.length = 0))) ∧ Below w.heap.size w w' := by
 have b0 := below_alloc (w := w) (.cells #[.slice na nm.length nc, .int .i64 1, .int .i64 tt, .int .i64 ad, .slice ta to.length tc, .slice xa tx.length xc, .slice ia nu.length ic] 105)
 have K0 := hide (heap_alloc_new w (.cells #[.slice na nm.length nc, .int .i64 1, .int .i64 tt, .int .i64 ad, .slice ta to.length tc, .slice xa tx.length xc, .slice ia nu.length ic] 105))
 have H0 := hide (h.below b0)
 have HN := hide hN
 clear h hN
 have NE := hide (fun (w : World) => nothingElse_any (w := w) (na := na) (nl := nm.length) (nc := nc) (ty := 1) (tt := tt) (ad := ad) (ta := ta) (tl := to.length) (tc := tc) (xa := xa) (xl := tx.length) (xc := xc) (ia := ia) (il := nu.length) (ic := ic) (na' := none) (nl' := 0) (nc' := 0) (ty' := 1) (tt' := 0) (ad' := ad) (ta' := none) (tl' := 0) (tc' := 0) (xa' := none) (xl' := 0) (xc' := 0) (ia' := none) (il' := 0) (ic' := 0))
 generalize decide (ad = ad ∧ to.length = 0 ∧ tx.length = 0 ∧ nu.length = 0) = E at *
 have OKC := hide (fun (w : World) (HH : HasR w (.slice na nm.length nc) (.slice ta to.length tc) (.slice xa tx.length xc) (.slice ia nu.length ic) ⟨nm, 1, tt, ad, to, tx, nu⟩) => addrOk_any ad w)
 have OKD := hide (fun (w : World) (HH : HasR w (.slice na nm.length nc) (.slice ta to.length tc) (.slice xa tx.length xc) (.slice ia nu.length ic) ⟨nm, 1, tt, ad, to, tx, nu⟩) => (show Calls Tryz.prog 156 #[.agg #[.int .i64 ad]] w fun e w' => e = .returned (.bool true) ∧ Below w.heap.size w w' by rw [← hD]; exact unhide OKC w HH))
 clear OKC hD
 go_enter Tryz.func121, Tryz.ntmps121
 go_wp2_with fail
 generalize w.alloc (.cells #[.slice na nm.length nc, .int .i64 1, .int .i64 tt, .int .i64 ad, .slice ta to.length tc, .slice xa tx.length xc, .slice ia nu.length ic] 105) = W at *
 refine (implNameOk_has (show HasL W (.slice na nm.length nc) nm from (unhide H0).name)).mono ?_
 rw [unhide HN]
 rintro e w1 ⟨rfl, b1⟩
 have bb1 := below_next b0 b1
 have K1 := hide (block_kept b1 (unhide K0))
 have H1 := hide ((unhide H0).below b1)
 clear b0 b1 K0 H0
 obtain ⟨d0, d1, d2, d3, d4, d5, d6⟩ := cells7 (unhide K1)
 go_wp2_with fail
 refine (implTypeOk_any 1 _).mono ?_
 rw [show typeOk 1 = true from rfl]
 rintro e w2 ⟨rfl, rfl⟩
 go_wp2_with fail
 refine (upTo_yes _ ht0 ht1).mono ?_
 rintro e w2 ⟨rfl, rfl⟩
 go_wp2_with fail
 refine (dataOf_A).mono ?_
 rintro e w2 ⟨rfl, b2⟩
 clear d0 d1 d2 d3 d4 d5 d6
 have b2 := below_next b2 (below_drew (w := w2))
 have bb2 := below_next bb1 b2
 have K2 := hide (block_kept b2 (unhide K1))
 have H2 := hide ((unhide H1).below b2)
 clear bb1 b2 K1 H1
 go_wp2_with fail
 go_region_with (first
  | (go_at_call 156; refine (unhide OKD _ (unhide H2)).mono ?_; rintro e w3 ⟨rfl, b3⟩; obtain ⟨d0, d1, d2, d3, d4, d5, d6⟩ := cells7 (block_kept b3 (unhide K2)))
  | (go_at_call 132; refine (recordOf_A (na := na) (nc := nc) (ta := ta) (tc := tc) (xa := xa) (xc := xc) (ia := ia) (ic := ic) (nm := nm) (to := to) (tx := tx) (nu := nu) (tt := tt) (ad := ad)).mono ?_; rintro e w4 ⟨rfl, b4⟩; have q4 := below_next b3 b4; obtain ⟨d0, d1, d2, d3, d4, d5, d6⟩ := cells7 (block_kept q4 (unhide K2)))
  | (go_at_call 131; refine (unhide NE _).mono ?_; rintro e w5 ⟨rfl, b5⟩; have q5 := below_next q4 b5))
 all_goals
  go_wp2_with fail
  go_ret
  first | exact ⟨rfl, below_next bb2 q5⟩ | exact ⟨rfl, below_next bb2 b3⟩


set_option maxHeartbeats 1000000 in
set_option maxRecDepth 100000 in
theorem rrOkData_A_false {na : Option Addr} {nc : Nat} {ta : Option Addr} {tc : Nat} {xa : Option Addr} {xc : Nat} {ia : Option Addr} {ic : Nat} {nm to : List (List Int)} {tx nu : List Int} {tt ad : Int} {w : World} (h : HasR w (.slice na nm.length nc) (.slice ta to.length tc) (.slice xa tx.length xc) (.slice ia nu.length ic) ⟨nm, 1, tt, ad, to, tx, nu⟩) (hN : nameOk nm = true) (ht0 : 0 ≤ tt) (ht1 : tt ≤ 100000) (hD : decide (0 ≤ ad ∧ ad ≤ 4294967295) = false) :
  Calls Tryz.prog 121 #[.agg #[.slice na nm.length nc, .int .i64 1, .int .i64 tt, .int .i64 ad, .slice ta to.length tc, .slice xa tx.length xc, .slice ia nu.length ic]] w fun e w' => e = .returned (.bool false) ∧ Below w.heap.size w w' := by
 have b0 := below_alloc (w := w) (.cells #[.slice na nm.length nc, .int .i64 1, .int .i64 tt, .int .i64 ad, .slice ta to.length tc, .slice xa tx.length xc, .slice ia nu.length ic] 105)
 have K0 := hide (heap_alloc_new w (.cells #[.slice na nm.length nc, .int .i64 1, .int .i64 tt, .int .i64 ad, .slice ta to.length tc, .slice xa tx.length xc, .slice ia nu.length ic] 105))
 have H0 := hide (h.below b0)
 have HN := hide hN
 clear h hN
 have NE := hide (fun (w : World) => nothingElse_any (w := w) (na := na) (nl := nm.length) (nc := nc) (ty := 1) (tt := tt) (ad := ad) (ta := ta) (tl := to.length) (tc := tc) (xa := xa) (xl := tx.length) (xc := xc) (ia := ia) (il := nu.length) (ic := ic) (na' := none) (nl' := 0) (nc' := 0) (ty' := 1) (tt' := 0) (ad' := ad) (ta' := none) (tl' := 0) (tc' := 0) (xa' := none) (xl' := 0) (xc' := 0) (ia' := none) (il' := 0) (ic' := 0))
 skip
 have OKC := hide (fun (w : World) (HH : HasR w (.slice na nm.length nc) (.slice ta to.length tc) (.slice xa tx.length xc) (.slice ia nu.length ic) ⟨nm, 1, tt, ad, to, tx, nu⟩) => addrOk_any ad w)
 have OKD := hide (fun (w : World) (HH : HasR w (.slice na nm.length nc) (.slice ta to.length tc) (.slice xa tx.length xc) (.slice ia nu.length ic) ⟨nm, 1, tt, ad, to, tx, nu⟩) => (show Calls Tryz.prog 156 #[.agg #[.int .i64 ad]] w fun e w' => e = .returned (.bool false) ∧ Below w.heap.size w w' by rw [← hD]; exact unhide OKC w HH))
 clear OKC hD
 go_enter Tryz.func121, Tryz.ntmps121
 go_wp2_with fail
 generalize w.alloc (.cells #[.slice na nm.length nc, .int .i64 1, .int .i64 tt, .int .i64 ad, .slice ta to.length tc, .slice xa tx.length xc, .slice ia nu.length ic] 105) = W at *
 refine (implNameOk_has (show HasL W (.slice na nm.length nc) nm from (unhide H0).name)).mono ?_
 rw [unhide HN]
 rintro e w1 ⟨rfl, b1⟩
 have bb1 := below_next b0 b1
 have K1 := hide (block_kept b1 (unhide K0))
 have H1 := hide ((unhide H0).below b1)
 clear b0 b1 K0 H0
 obtain ⟨d0, d1, d2, d3, d4, d5, d6⟩ := cells7 (unhide K1)
 go_wp2_with fail
 refine (implTypeOk_any 1 _).mono ?_
 rw [show typeOk 1 = true from rfl]
 rintro e w2 ⟨rfl, rfl⟩
 go_wp2_with fail
 refine (upTo_yes _ ht0 ht1).mono ?_
 rintro e w2 ⟨rfl, rfl⟩
 go_wp2_with fail
 refine (dataOf_A).mono ?_
 rintro e w2 ⟨rfl, b2⟩
 clear d0 d1 d2 d3 d4 d5 d6
 have b2 := below_next b2 (below_drew (w := w2))
 have bb2 := below_next bb1 b2
 have K2 := hide (block_kept b2 (unhide K1))
 have H2 := hide ((unhide H1).below b2)
 clear bb1 b2 K1 H1
 go_wp2_with fail
 first | (go_region_with (first
  | (go_at_call 156; refine (unhide OKD _ (unhide H2)).mono ?_; rintro e w3 ⟨rfl, b3⟩; obtain ⟨d0, d1, d2, d3, d4, d5, d6⟩ := cells7 (block_kept b3 (unhide K2)))
  | (go_at_call 132; refine (recordOf_A (na := na) (nc := nc) (ta := ta) (tc := tc) (xa := xa) (xc := xc) (ia := ia) (ic := ic) (nm := nm) (to := to) (tx := tx) (nu := nu) (tt := tt) (ad := ad)).mono ?_; rintro e w4 ⟨rfl, b4⟩; have q4 := below_next b3 b4; obtain ⟨d0, d1, d2, d3, d4, d5, d6⟩ := cells7 (block_kept q4 (unhide K2)))
  | (go_at_call 131; refine (unhide NE _).mono ?_; rintro e w5 ⟨rfl, b5⟩; have q5 := below_next q4 b5))) | fail
 all_goals
  go_wp2_with fail
  go_ret
  first | exact ⟨rfl, below_next bb2 q5⟩ | exact ⟨rfl, below_next bb2 b3⟩
end Go.Proofs.YtfbfakdkemlbmaaGreat

namespace Go.Proofs.YtfbfakdkemlbmaaGreat
open Go.RowKit
set_option linter.unusedVariables false


set_option maxHeartbeats 1000000 in
set_option maxRecDepth 100000 in
theorem rrOkData_N_true {na : Option Addr} {nc : Nat} {ta : Option Addr} {tc : Nat} {xa : Option Addr} {xc : Nat} {ia : Option Addr} {ic : Nat} {nm to : List (List Int)} {tx nu : List Int} {tt ad : Int} {w : World} {ty : Int} (hk : kindV ty = .iface 172 (.agg #[.slice none 0 0])) (hto : typeOk ty = true) (h : HasR w (.slice na nm.length nc) (.slice ta to.length tc) (.slice xa tx.length xc) (.slice ia nu.length ic) ⟨nm, ty, tt, ad, to, tx, nu⟩) (hN : nameOk nm = true) (ht0 : 0 ≤ tt) (ht1 : tt ≤ 100000) (hD : nameOk to = true) :
  Calls Tryz.prog 121 #[.agg #[.slice na nm.length nc, .int .i64 ty, .int .i64 tt, .int .i64 ad, .slice ta to.length tc, .slice xa tx.length xc, .slice ia nu.length ic]] w fun e w' => e = .returned (.bool (decide (ad = 0 ∧ to.length = to.length ∧ tx.length = 0 ∧ nu.length = 0))) ∧ Below w.heap.size w w' := by
 have b0 := below_alloc (w := w) (.cells #[.slice na nm.length nc, .int .i64 ty, .int .i64 tt, .int .i64 ad, .slice ta to.length tc, .slice xa tx.length xc, .slice ia nu.length ic] 105)
 have K0 := hide (heap_alloc_new w (.cells #[.slice na nm.length nc, .int .i64 ty, .int .i64 tt, .int .i64 ad, .slice ta to.length tc, .slice xa tx.length xc, .slice ia nu.length ic] 105))
 have H0 := hide (h.below b0)
 have HN := hide hN
 clear h hN
 have HKK := hide hk
 have HTO := hide hto
 clear hk hto
 have NE := hide (fun (w : World) => nothingElse_any (w := w) (na := na) (nl := nm.length) (nc := nc) (ty := ty) (tt := tt) (ad := ad) (ta := ta) (tl := to.length) (tc := tc) (xa := xa) (xl := tx.length) (xc := xc) (ia := ia) (il := nu.length) (ic := ic) (na' := none) (nl' := 0) (nc' := 0) (ty' := ty) (tt' := 0) (ad' := 0) (ta' := ta) (tl' := to.length) (tc' := tc) (xa' := none) (xl' := 0) (xc' := 0) (ia' := none) (il' := 0) (ic' := 0))
 generalize decide (ad = 0 ∧ to.length = to.length ∧ tx.length = 0 ∧ nu.length = 0) = E at *
 have OKC := hide (fun (w : World) (HH : HasR w (.slice na nm.length nc) (.slice ta to.length tc) (.slice xa tx.length xc) (.slice ia nu.length ic) ⟨nm, ty, tt, ad, to, tx, nu⟩) => nameOkM_has (show HasL w (.slice ta to.length tc) to from HH.to))
 have OKD := hide (fun (w : World) (HH : HasR w (.slice na nm.length nc) (.slice ta to.length tc) (.slice xa tx.length xc) (.slice ia nu.length ic) ⟨nm, ty, tt, ad, to, tx, nu⟩) => (show Calls Tryz.prog 160 #[.agg #[.slice ta to.length tc]] w fun e w' => e = .returned (.bool true) ∧ Below w.heap.size w w' by rw [← hD]; exact unhide OKC w HH))
 clear OKC hD
 go_enter Tryz.func121, Tryz.ntmps121
 go_wp2_with fail
 generalize w.alloc (.cells #[.slice na nm.length nc, .int .i64 ty, .int .i64 tt, .int .i64 ad, .slice ta to.length tc, .slice xa tx.length xc, .slice ia nu.length ic] 105) = W at *
 refine (implNameOk_has (show HasL W (.slice na nm.length nc) nm from (unhide H0).name)).mono ?_
 rw [unhide HN]
 rintro e w1 ⟨rfl, b1⟩
 have bb1 := below_next b0 b1
 have K1 := hide (block_kept b1 (unhide K0))
 have H1 := hide ((unhide H0).below b1)
 clear b0 b1 K0 H0
 obtain ⟨d0, d1, d2, d3, d4, d5, d6⟩ := cells7 (unhide K1)
 go_wp2_with fail
 refine (implTypeOk_any ty _).mono ?_
 rw [unhide HTO]
 rintro e w2 ⟨rfl, rfl⟩
 go_wp2_with fail
 refine (upTo_yes _ ht0 ht1).mono ?_
 rintro e w2 ⟨rfl, rfl⟩
 go_wp2_with fail
 refine (dataOf_N (unhide HKK) (unhide HTO)).mono ?_
 rintro e w2 ⟨rfl, b2⟩
 clear d0 d1 d2 d3 d4 d5 d6
 have b2 := below_next b2 (below_drew (w := w2))
 have bb2 := below_next bb1 b2
 have K2 := hide (block_kept b2 (unhide K1))
 have H2 := hide ((unhide H1).below b2)
 clear bb1 b2 K1 H1
 go_wp2_with fail
 go_region_with (first
  | (go_at_call 160; refine (unhide OKD _ (unhide H2)).mono ?_; rintro e w3 ⟨rfl, b3⟩; obtain ⟨d0, d1, d2, d3, d4, d5, d6⟩ := cells7 (block_kept b3 (unhide K2)))
  | (go_at_call 132; refine (recordOf_N (na := na) (nc := nc) (ta := ta) (tc := tc) (xa := xa) (xc := xc) (ia := ia) (ic := ic) (nm := nm) (to := to) (tx := tx) (nu := nu) (tt := tt) (ad := ad)).mono ?_; rintro e w4 ⟨rfl, b4⟩; have q4 := below_next b3 b4; obtain ⟨d0, d1, d2, d3, d4, d5, d6⟩ := cells7 (block_kept q4 (unhide K2)))
  | (go_at_call 131; refine (unhide NE _).mono ?_; rintro e w5 ⟨rfl, b5⟩; have q5 := below_next q4 b5))
 all_goals
  go_wp2_with fail
  go_ret
  first | exact ⟨rfl, below_next bb2 q5⟩ | exact ⟨rfl, below_next bb2 b3⟩


set_option maxHeartbeats 1000000 in
set_option maxRecDepth 100000 in
theorem rrOkData_N_false {na : Option Addr} {nc : Nat} {ta : Option Addr} {tc : Nat} {xa : Option Addr} {xc : Nat} {ia : Option Addr} {ic : Nat} {nm to : List (List Int)} {tx nu : List Int} {tt ad : Int} {w : World} {ty : Int} (hk : kindV ty = .iface 172 (.agg #[.slice none 0 0])) (hto : typeOk ty = true) (h : HasR w (.slice na nm.length nc) (.slice ta to.length tc) (.slice xa tx.length xc) (.slice ia nu.length ic) ⟨nm, ty, tt, ad, to, tx, nu⟩) (hN : nameOk nm = true) (ht0 : 0 ≤ tt) (ht1 : tt ≤ 100000) (hD : nameOk to = false) :
  Calls Tryz.prog 121 #[.agg #[.slice na nm.length nc, .int .i64 ty, .int .i64 tt, .int .i64 ad, .slice ta to.length tc, .slice xa tx.length xc, .slice ia nu.length ic]] w fun e w' => e = .returned (.bool false) ∧ Below w.heap.size w w' := by
 have b0 := below_alloc (w := w) (.cells #[.slice na nm.length nc, .int .i64 ty, .int .i64 tt, .int .i64 ad, .slice ta to.length tc, .slice xa tx.length xc, .slice ia nu.length ic] 105)
 have K0 := hide (heap_alloc_new w (.cells #[.slice na nm.length nc, .int .i64 ty, .int .i64 tt, .int .i64 ad, .slice ta to.length tc, .slice xa tx.length xc, .slice ia nu.length ic] 105))
 have H0 := hide (h.below b0)
 have HN := hide hN
 clear h hN
 have HKK := hide hk
 have HTO := hide hto
 clear hk hto
 have NE := hide (fun (w : World) => nothingElse_any (w := w) (na := na) (nl := nm.length) (nc := nc) (ty := ty) (tt := tt) (ad := ad) (ta := ta) (tl := to.length) (tc := tc) (xa := xa) (xl := tx.length) (xc := xc) (ia := ia) (il := nu.length) (ic := ic) (na' := none) (nl' := 0) (nc' := 0) (ty' := ty) (tt' := 0) (ad' := 0) (ta' := ta) (tl' := to.length) (tc' := tc) (xa' := none) (xl' := 0) (xc' := 0) (ia' := none) (il' := 0) (ic' := 0))
 skip
 have OKC := hide (fun (w : World) (HH : HasR w (.slice na nm.length nc) (.slice ta to.length tc) (.slice xa tx.length xc) (.slice ia nu.length ic) ⟨nm, ty, tt, ad, to, tx, nu⟩) => nameOkM_has (show HasL w (.slice ta to.length tc) to from HH.to))
 have OKD := hide (fun (w : World) (HH : HasR w (.slice na nm.length nc) (.slice ta to.length tc) (.slice xa tx.length xc) (.slice ia nu.length ic) ⟨nm, ty, tt, ad, to, tx, nu⟩) => (show Calls Tryz.prog 160 #[.agg #[.slice ta to.length tc]] w fun e w' => e = .returned (.bool false) ∧ Below w.heap.size w w' by rw [← hD]; exact unhide OKC w HH))
 clear OKC hD
 go_enter Tryz.func121, Tryz.ntmps121
 go_wp2_with fail
 generalize w.alloc (.cells #[.slice na nm.length nc, .int .i64 ty, .int .i64 tt, .int .i64 ad, .slice ta to.length tc, .slice xa tx.length xc, .slice ia nu.length ic] 105) = W at *
 refine (implNameOk_has (show HasL W (.slice na nm.length nc) nm from (unhide H0).name)).mono ?_
 rw [unhide HN]
 rintro e w1 ⟨rfl, b1⟩
 have bb1 := below_next b0 b1
 have K1 := hide (block_kept b1 (unhide K0))
 have H1 := hide ((unhide H0).below b1)
 clear b0 b1 K0 H0
 obtain ⟨d0, d1, d2, d3, d4, d5, d6⟩ := cells7 (unhide K1)
 go_wp2_with fail
 refine (implTypeOk_any ty _).mono ?_
 rw [unhide HTO]
 rintro e w2 ⟨rfl, rfl⟩
 go_wp2_with fail
 refine (upTo_yes _ ht0 ht1).mono ?_
 rintro e w2 ⟨rfl, rfl⟩
 go_wp2_with fail
 refine (dataOf_N (unhide HKK) (unhide HTO)).mono ?_
 rintro e w2 ⟨rfl, b2⟩
 clear d0 d1 d2 d3 d4 d5 d6
 have b2 := below_next b2 (below_drew (w := w2))
 have bb2 := below_next bb1 b2
 have K2 := hide (block_kept b2 (unhide K1))
 have H2 := hide ((unhide H1).below b2)
 clear bb1 b2 K1 H1
 go_wp2_with fail
 first | (go_region_with (first
  | (go_at_call 160; refine (unhide OKD _ (unhide H2)).mono ?_; rintro e w3 ⟨rfl, b3⟩; obtain ⟨d0, d1, d2, d3, d4, d5, d6⟩ := cells7 (block_kept b3 (unhide K2)))
  | (go_at_call 132; refine (recordOf_N (na := na) (nc := nc) (ta := ta) (tc := tc) (xa := xa) (xc := xc) (ia := ia) (ic := ic) (nm := nm) (to := to) (tx := tx) (nu := nu) (tt := tt) (ad := ad)).mono ?_; rintro e w4 ⟨rfl, b4⟩; have q4 := below_next b3 b4; obtain ⟨d0, d1, d2, d3, d4, d5, d6⟩ := cells7 (block_kept q4 (unhide K2)))
  | (go_at_call 131; refine (unhide NE _).mono ?_; rintro e w5 ⟨rfl, b5⟩; have q5 := below_next q4 b5))) | fail
 all_goals
  go_wp2_with fail
  go_ret
  first | exact ⟨rfl, below_next bb2 q5⟩ | exact ⟨rfl, below_next bb2 b3⟩
end Go.Proofs.YtfbfakdkemlbmaaGreat
