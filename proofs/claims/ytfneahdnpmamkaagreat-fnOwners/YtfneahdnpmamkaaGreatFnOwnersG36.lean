/-
  Contracts of the program's RrOk where name and time may be, for one kind of data. Contracts of the program's RrOk where name and time may be, for one kind of data. Contracts of the program's RrOk. Contracts of the library's bytes.Compare and cmp.Compare at int. Contracts of the program's NameCmp. Contracts of the program's appendCounted: behind a row of the caller's own a byte with how many bytes a text has, and the text.
-/
import Derived.Test.YtfneahdnpmamkaaGreatFnOwnersG35
namespace Go.Proofs.YtfneahdnpmamkaaGreat
open Go.RowKit
set_option linter.unusedVariables false
set_option maxHeartbeats 1000000
set_option maxRecDepth 100000


theorem L6 {na : Option Addr} {nc : Nat} {ta : Option Addr} {tc : Nat} {xa : Option Addr} {xc : Nat} {ia : Option Addr} {ic : Nat} {nm to : List (List Int)} {tx nu : List Int} {tt ad : Int} {w : World} (h : HasR w (.slice na nm.length nc) (.slice ta to.length tc) (.slice xa tx.length xc) (.slice ia nu.length ic) ⟨nm, 6, tt, ad, to, tx, nu⟩) (hN : Ag nm = true) (ht0 : 0 ≤ tt) (ht1 : tt ≤ 100000) (hD : (Ag to && Gz nu) = true) :
  Calls Tryz.prog 67 #[.agg #[.slice na nm.length nc, .int .i64 6, .int .i64 tt, .int .i64 ad, .slice ta to.length tc, .slice xa tx.length xc, .slice ia nu.length ic]] w fun e w' => e = .returned (.bool (decide (ad = 0 ∧ to.length = to.length ∧ tx.length = 0 ∧ nu.length = nu.length))) ∧ Below w.heap.size w w' := by
 have b0 := UI (w := w) (.cells #[.slice na nm.length nc, .int .i64 6, .int .i64 tt, .int .i64 ad, .slice ta to.length tc, .slice xa tx.length xc, .slice ia nu.length ic] 39)
 have K0 := UC (heap_alloc_new w (.cells #[.slice na nm.length nc, .int .i64 6, .int .i64 tt, .int .i64 ad, .slice ta to.length tc, .slice xa tx.length xc, .slice ia nu.length ic] 39))
 have H0 := UC (h.below b0)
 have HN := UC hN
 clear h hN
 have NE := UC (fun (w : World) => Bw (w := w) (na := na) (nl := nm.length) (nc := nc) (ty := 6) (tt := tt) (ad := ad) (ta := ta) (tl := to.length) (tc := tc) (xa := xa) (xl := tx.length) (xc := xc) (ia := ia) (il := nu.length) (ic := ic) (na' := none) (nl' := 0) (nc' := 0) (ty' := 6) (tt' := 0) (ad' := 0) (ta' := ta) (tl' := to.length) (tc' := tc) (xa' := none) (xl' := 0) (xc' := 0) (ia' := ia) (il' := nu.length) (ic' := ic))
 generalize decide (ad = 0 ∧ to.length = to.length ∧ tx.length = 0 ∧ nu.length = nu.length) = E at *
 have OKC := UC (fun (w : World) (HH : HasR w (.slice na nm.length nc) (.slice ta to.length tc) (.slice xa tx.length xc) (.slice ia nu.length ic) ⟨nm, 6, tt, ad, to, tx, nu⟩) => Pl (show HasL w (.slice ta to.length tc) to from HH.to) (show HasI w (.slice ia nu.length ic) nu from HH.nums))
 have OKD := UC (fun (w : World) (HH : HasR w (.slice na nm.length nc) (.slice ta to.length tc) (.slice xa tx.length xc) (.slice ia nu.length ic) ⟨nm, 6, tt, ad, to, tx, nu⟩) => (show Calls Tryz.prog 156 #[.agg #[.slice ta to.length tc, .slice ia nu.length ic]] w fun e w' => e = .returned (.bool true) ∧ Below w.heap.size w w' by rw [← hD]; exact UB OKC w HH))
 clear OKC hD
 go_enter Tryz.func67, Tryz.ntmps67
 go_wp2_with fail
 generalize w.alloc (.cells #[.slice na nm.length nc, .int .i64 6, .int .i64 tt, .int .i64 ad, .slice ta to.length tc, .slice xa tx.length xc, .slice ia nu.length ic] 39) = W at *
 refine (VP (show HasL W (.slice na nm.length nc) nm from (UB H0).name)).mono ?_
 rw [UB HN]
 rintro e w1 ⟨rfl, b1⟩
 have bb1 := UG b0 b1
 have K1 := UC (UE b1 (UB K0))
 have H1 := UC ((UB H0).below b1)
 clear b0 b1 K0 H0
 obtain ⟨d0, d1, d2, d3, d4, d5, d6⟩ := UJ (UB K1)
 go_wp2_with fail
 refine (Bf 6 _).mono ?_
 rw [show Ax 6 = true from rfl]
 rintro e w2 ⟨rfl, rfl⟩
 go_wp2_with fail
 refine (Cz _ ht0 ht1).mono ?_
 rintro e w2 ⟨rfl, rfl⟩
 go_wp2_with fail
 refine (Ip).mono ?_
 rintro e w2 ⟨rfl, b2⟩
 clear d0 d1 d2 d3 d4 d5 d6
 have b2 := UG b2 (UX (w := w2))
 have bb2 := UG bb1 b2
 have K2 := UC (UE b2 (UB K1))
 have H2 := UC ((UB H1).below b2)
 clear bb1 b2 K1 H1
 go_wp2_with fail
 go_region_with (first
  | (go_at_call 156; refine (UB OKD _ (UB H2)).mono ?_; rintro e w3 ⟨rfl, b3⟩; obtain ⟨d0, d1, d2, d3, d4, d5, d6⟩ := UJ (UE b3 (UB K2)))
  | (go_at_call 95; refine (Mn (na := na) (nc := nc) (ta := ta) (tc := tc) (xa := xa) (xc := xc) (ia := ia) (ic := ic) (nm := nm) (to := to) (tx := tx) (nu := nu) (tt := tt) (ad := ad)).mono ?_; rintro e w4 ⟨rfl, b4⟩; have q4 := UG b3 b4; obtain ⟨d0, d1, d2, d3, d4, d5, d6⟩ := UJ (UE q4 (UB K2)))
  | (go_at_call 94; refine (UB NE _).mono ?_; rintro e w5 ⟨rfl, b5⟩; have q5 := UG q4 b5))
 all_goals
  go_wp2_with fail
  go_ret
  first | exact ⟨rfl, UG bb2 q5⟩ | exact ⟨rfl, UG bb2 b3⟩


theorem Kv {na : Option Addr} {nc : Nat} {ta : Option Addr} {tc : Nat} {xa : Option Addr} {xc : Nat} {ia : Option Addr} {ic : Nat} {nm to : List (List Int)} {tx nu : List Int} {tt ad : Int} {w : World} (h : HasR w (.slice na nm.length nc) (.slice ta to.length tc) (.slice xa tx.length xc) (.slice ia nu.length ic) ⟨nm, 6, tt, ad, to, tx, nu⟩) (hN : Ag nm = true) (ht0 : 0 ≤ tt) (ht1 : tt ≤ 100000) (hD : (Ag to && Gz nu) = false) :
  Calls Tryz.prog 67 #[.agg #[.slice na nm.length nc, .int .i64 6, .int .i64 tt, .int .i64 ad, .slice ta to.length tc, .slice xa tx.length xc, .slice ia nu.length ic]] w fun e w' => e = .returned (.bool false) ∧ Below w.heap.size w w' := by
 have b0 := UI (w := w) (.cells #[.slice na nm.length nc, .int .i64 6, .int .i64 tt, .int .i64 ad, .slice ta to.length tc, .slice xa tx.length xc, .slice ia nu.length ic] 39)
 have K0 := UC (heap_alloc_new w (.cells #[.slice na nm.length nc, .int .i64 6, .int .i64 tt, .int .i64 ad, .slice ta to.length tc, .slice xa tx.length xc, .slice ia nu.length ic] 39))
 have H0 := UC (h.below b0)
 have HN := UC hN
 clear h hN
 have NE := UC (fun (w : World) => Bw (w := w) (na := na) (nl := nm.length) (nc := nc) (ty := 6) (tt := tt) (ad := ad) (ta := ta) (tl := to.length) (tc := tc) (xa := xa) (xl := tx.length) (xc := xc) (ia := ia) (il := nu.length) (ic := ic) (na' := none) (nl' := 0) (nc' := 0) (ty' := 6) (tt' := 0) (ad' := 0) (ta' := ta) (tl' := to.length) (tc' := tc) (xa' := none) (xl' := 0) (xc' := 0) (ia' := ia) (il' := nu.length) (ic' := ic))
 skip
 have OKC := UC (fun (w : World) (HH : HasR w (.slice na nm.length nc) (.slice ta to.length tc) (.slice xa tx.length xc) (.slice ia nu.length ic) ⟨nm, 6, tt, ad, to, tx, nu⟩) => Pl (show HasL w (.slice ta to.length tc) to from HH.to) (show HasI w (.slice ia nu.length ic) nu from HH.nums))
 have OKD := UC (fun (w : World) (HH : HasR w (.slice na nm.length nc) (.slice ta to.length tc) (.slice xa tx.length xc) (.slice ia nu.length ic) ⟨nm, 6, tt, ad, to, tx, nu⟩) => (show Calls Tryz.prog 156 #[.agg #[.slice ta to.length tc, .slice ia nu.length ic]] w fun e w' => e = .returned (.bool false) ∧ Below w.heap.size w w' by rw [← hD]; exact UB OKC w HH))
 clear OKC hD
 go_enter Tryz.func67, Tryz.ntmps67
 go_wp2_with fail
 generalize w.alloc (.cells #[.slice na nm.length nc, .int .i64 6, .int .i64 tt, .int .i64 ad, .slice ta to.length tc, .slice xa tx.length xc, .slice ia nu.length ic] 39) = W at *
 refine (VP (show HasL W (.slice na nm.length nc) nm from (UB H0).name)).mono ?_
 rw [UB HN]
 rintro e w1 ⟨rfl, b1⟩
 have bb1 := UG b0 b1
 have K1 := UC (UE b1 (UB K0))
 have H1 := UC ((UB H0).below b1)
 clear b0 b1 K0 H0
 obtain ⟨d0, d1, d2, d3, d4, d5, d6⟩ := UJ (UB K1)
 go_wp2_with fail
 refine (Bf 6 _).mono ?_
 rw [show Ax 6 = true from rfl]
 rintro e w2 ⟨rfl, rfl⟩
 go_wp2_with fail
 refine (Cz _ ht0 ht1).mono ?_
 rintro e w2 ⟨rfl, rfl⟩
 go_wp2_with fail
 refine (Ip).mono ?_
 rintro e w2 ⟨rfl, b2⟩
 clear d0 d1 d2 d3 d4 d5 d6
 have b2 := UG b2 (UX (w := w2))
 have bb2 := UG bb1 b2
 have K2 := UC (UE b2 (UB K1))
 have H2 := UC ((UB H1).below b2)
 clear bb1 b2 K1 H1
 go_wp2_with fail
 first | (go_region_with (first
  | (go_at_call 156; refine (UB OKD _ (UB H2)).mono ?_; rintro e w3 ⟨rfl, b3⟩; obtain ⟨d0, d1, d2, d3, d4, d5, d6⟩ := UJ (UE b3 (UB K2)))
  | (go_at_call 95; refine (Mn (na := na) (nc := nc) (ta := ta) (tc := tc) (xa := xa) (xc := xc) (ia := ia) (ic := ic) (nm := nm) (to := to) (tx := tx) (nu := nu) (tt := tt) (ad := ad)).mono ?_; rintro e w4 ⟨rfl, b4⟩; have q4 := UG b3 b4; obtain ⟨d0, d1, d2, d3, d4, d5, d6⟩ := UJ (UE q4 (UB K2)))
  | (go_at_call 94; refine (UB NE _).mono ?_; rintro e w5 ⟨rfl, b5⟩; have q5 := UG q4 b5))) | fail
 all_goals
  go_wp2_with fail
  go_ret
  first | exact ⟨rfl, UG bb2 q5⟩ | exact ⟨rfl, UG bb2 b3⟩
set_option maxHeartbeats 1000000
set_option maxRecDepth 100000


theorem Hr {na : Option Addr} {nc : Nat} {ta : Option Addr} {tc : Nat} {xa : Option Addr} {xc : Nat} {ia : Option Addr} {ic : Nat} {nm to : List (List Int)} {tx nu : List Int} {tt ad : Int} {w : World} {ty : Int} (hk : Ed ty = .iface 131 (.agg #[.slice none 0 0])) (hto : Ax ty = true) (h : HasR w (.slice na nm.length nc) (.slice ta to.length tc) (.slice xa tx.length xc) (.slice ia nu.length ic) ⟨nm, ty, tt, ad, to, tx, nu⟩) (hN : Ag nm = true) (ht0 : 0 ≤ tt) (ht1 : tt ≤ 100000) (hD : decide (tx.length ≤ 40) = true) :
  Calls Tryz.prog 67 #[.agg #[.slice na nm.length nc, .int .i64 ty, .int .i64 tt, .int .i64 ad, .slice ta to.length tc, .slice xa tx.length xc, .slice ia nu.length ic]] w fun e w' => e = .returned (.bool (decide (ad = 0 ∧ to.length = 0 ∧ tx.length = tx.length ∧ nu.length = 0))) ∧ Below w.heap.size w w' := by
 have b0 := UI (w := w) (.cells #[.slice na nm.length nc, .int .i64 ty, .int .i64 tt, .int .i64 ad, .slice ta to.length tc, .slice xa tx.length xc, .slice ia nu.length ic] 39)
 have K0 := UC (heap_alloc_new w (.cells #[.slice na nm.length nc, .int .i64 ty, .int .i64 tt, .int .i64 ad, .slice ta to.length tc, .slice xa tx.length xc, .slice ia nu.length ic] 39))
 have H0 := UC (h.below b0)
 have HN := UC hN
 clear h hN
 have HKK := UC hk
 have HTO := UC hto
 clear hk hto
 have NE := UC (fun (w : World) => Bw (w := w) (na := na) (nl := nm.length) (nc := nc) (ty := ty) (tt := tt) (ad := ad) (ta := ta) (tl := to.length) (tc := tc) (xa := xa) (xl := tx.length) (xc := xc) (ia := ia) (il := nu.length) (ic := ic) (na' := none) (nl' := 0) (nc' := 0) (ty' := ty) (tt' := 0) (ad' := 0) (ta' := none) (tl' := 0) (tc' := 0) (xa' := xa) (xl' := tx.length) (xc' := xc) (ia' := none) (il' := 0) (ic' := 0))
 generalize decide (ad = 0 ∧ to.length = 0 ∧ tx.length = tx.length ∧ nu.length = 0) = E at *
 have OKC := UC (fun (w : World) (HH : HasR w (.slice na nm.length nc) (.slice ta to.length tc) (.slice xa tx.length xc) (.slice ia nu.length ic) ⟨nm, ty, tt, ad, to, tx, nu⟩) => Nt (show Has w (.slice xa tx.length xc) tx from HH.text))
 have OKD := UC (fun (w : World) (HH : HasR w (.slice na nm.length nc) (.slice ta to.length tc) (.slice xa tx.length xc) (.slice ia nu.length ic) ⟨nm, ty, tt, ad, to, tx, nu⟩) => (show Calls Tryz.prog 160 #[.agg #[.slice xa tx.length xc]] w fun e w' => e = .returned (.bool true) ∧ Below w.heap.size w w' by rw [← hD]; exact UB OKC w HH))
 clear OKC hD
 go_enter Tryz.func67, Tryz.ntmps67
 go_wp2_with fail
 generalize w.alloc (.cells #[.slice na nm.length nc, .int .i64 ty, .int .i64 tt, .int .i64 ad, .slice ta to.length tc, .slice xa tx.length xc, .slice ia nu.length ic] 39) = W at *
 refine (VP (show HasL W (.slice na nm.length nc) nm from (UB H0).name)).mono ?_
 rw [UB HN]
 rintro e w1 ⟨rfl, b1⟩
 have bb1 := UG b0 b1
 have K1 := UC (UE b1 (UB K0))
 have H1 := UC ((UB H0).below b1)
 clear b0 b1 K0 H0
 obtain ⟨d0, d1, d2, d3, d4, d5, d6⟩ := UJ (UB K1)
 go_wp2_with fail
 refine (Bf ty _).mono ?_
 rw [UB HTO]
 rintro e w2 ⟨rfl, rfl⟩
 go_wp2_with fail
 refine (Cz _ ht0 ht1).mono ?_
 rintro e w2 ⟨rfl, rfl⟩
 go_wp2_with fail
 refine (Ik (UB HKK) (UB HTO)).mono ?_
 rintro e w2 ⟨rfl, b2⟩
 clear d0 d1 d2 d3 d4 d5 d6
 have b2 := UG b2 (UX (w := w2))
 have bb2 := UG bb1 b2
 have K2 := UC (UE b2 (UB K1))
 have H2 := UC ((UB H1).below b2)
 clear bb1 b2 K1 H1
 go_wp2_with fail
 go_region_with (first
  | (go_at_call 160; refine (UB OKD _ (UB H2)).mono ?_; rintro e w3 ⟨rfl, b3⟩; obtain ⟨d0, d1, d2, d3, d4, d5, d6⟩ := UJ (UE b3 (UB K2)))
  | (go_at_call 95; refine (Mj (na := na) (nc := nc) (ta := ta) (tc := tc) (xa := xa) (xc := xc) (ia := ia) (ic := ic) (nm := nm) (to := to) (tx := tx) (nu := nu) (tt := tt) (ad := ad)).mono ?_; rintro e w4 ⟨rfl, b4⟩; have q4 := UG b3 b4; obtain ⟨d0, d1, d2, d3, d4, d5, d6⟩ := UJ (UE q4 (UB K2)))
  | (go_at_call 94; refine (UB NE _).mono ?_; rintro e w5 ⟨rfl, b5⟩; have q5 := UG q4 b5))
 all_goals
  go_wp2_with fail
  go_ret
  first | exact ⟨rfl, UG bb2 q5⟩ | exact ⟨rfl, UG bb2 b3⟩


theorem Gq {na : Option Addr} {nc : Nat} {ta : Option Addr} {tc : Nat} {xa : Option Addr} {xc : Nat} {ia : Option Addr} {ic : Nat} {nm to : List (List Int)} {tx nu : List Int} {tt ad : Int} {w : World} {ty : Int} (hk : Ed ty = .iface 131 (.agg #[.slice none 0 0])) (hto : Ax ty = true) (h : HasR w (.slice na nm.length nc) (.slice ta to.length tc) (.slice xa tx.length xc) (.slice ia nu.length ic) ⟨nm, ty, tt, ad, to, tx, nu⟩) (hN : Ag nm = true) (ht0 : 0 ≤ tt) (ht1 : tt ≤ 100000) (hD : decide (tx.length ≤ 40) = false) :
  Calls Tryz.prog 67 #[.agg #[.slice na nm.length nc, .int .i64 ty, .int .i64 tt, .int .i64 ad, .slice ta to.length tc, .slice xa tx.length xc, .slice ia nu.length ic]] w fun e w' => e = .returned (.bool false) ∧ Below w.heap.size w w' := by
 have b0 := UI (w := w) (.cells #[.slice na nm.length nc, .int .i64 ty, .int .i64 tt, .int .i64 ad, .slice ta to.length tc, .slice xa tx.length xc, .slice ia nu.length ic] 39)
 have K0 := UC (heap_alloc_new w (.cells #[.slice na nm.length nc, .int .i64 ty, .int .i64 tt, .int .i64 ad, .slice ta to.length tc, .slice xa tx.length xc, .slice ia nu.length ic] 39))
 have H0 := UC (h.below b0)
 have HN := UC hN
 clear h hN
 have HKK := UC hk
 have HTO := UC hto
 clear hk hto
 have NE := UC (fun (w : World) => Bw (w := w) (na := na) (nl := nm.length) (nc := nc) (ty := ty) (tt := tt) (ad := ad) (ta := ta) (tl := to.length) (tc := tc) (xa := xa) (xl := tx.length) (xc := xc) (ia := ia) (il := nu.length) (ic := ic) (na' := none) (nl' := 0) (nc' := 0) (ty' := ty) (tt' := 0) (ad' := 0) (ta' := none) (tl' := 0) (tc' := 0) (xa' := xa) (xl' := tx.length) (xc' := xc) (ia' := none) (il' := 0) (ic' := 0))
 skip
 have OKC := UC (fun (w : World) (HH : HasR w (.slice na nm.length nc) (.slice ta to.length tc) (.slice xa tx.length xc) (.slice ia nu.length ic) ⟨nm, ty, tt, ad, to, tx, nu⟩) => Nt (show Has w (.slice xa tx.length xc) tx from HH.text))
 have OKD := UC (fun (w : World) (HH : HasR w (.slice na nm.length nc) (.slice ta to.length tc) (.slice xa tx.length xc) (.slice ia nu.length ic) ⟨nm, ty, tt, ad, to, tx, nu⟩) => (show Calls Tryz.prog 160 #[.agg #[.slice xa tx.length xc]] w fun e w' => e = .returned (.bool false) ∧ Below w.heap.size w w' by rw [← hD]; exact UB OKC w HH))
 clear OKC hD
 go_enter Tryz.func67, Tryz.ntmps67
 go_wp2_with fail
 generalize w.alloc (.cells #[.slice na nm.length nc, .int .i64 ty, .int .i64 tt, .int .i64 ad, .slice ta to.length tc, .slice xa tx.length xc, .slice ia nu.length ic] 39) = W at *
 refine (VP (show HasL W (.slice na nm.length nc) nm from (UB H0).name)).mono ?_
 rw [UB HN]
 rintro e w1 ⟨rfl, b1⟩
 have bb1 := UG b0 b1
 have K1 := UC (UE b1 (UB K0))
 have H1 := UC ((UB H0).below b1)
 clear b0 b1 K0 H0
 obtain ⟨d0, d1, d2, d3, d4, d5, d6⟩ := UJ (UB K1)
 go_wp2_with fail
 refine (Bf ty _).mono ?_
 rw [UB HTO]
 rintro e w2 ⟨rfl, rfl⟩
 go_wp2_with fail
 refine (Cz _ ht0 ht1).mono ?_
 rintro e w2 ⟨rfl, rfl⟩
 go_wp2_with fail
 refine (Ik (UB HKK) (UB HTO)).mono ?_
 rintro e w2 ⟨rfl, b2⟩
 clear d0 d1 d2 d3 d4 d5 d6
 have b2 := UG b2 (UX (w := w2))
 have bb2 := UG bb1 b2
 have K2 := UC (UE b2 (UB K1))
 have H2 := UC ((UB H1).below b2)
 clear bb1 b2 K1 H1
 go_wp2_with fail
 first | (go_region_with (first
  | (go_at_call 160; refine (UB OKD _ (UB H2)).mono ?_; rintro e w3 ⟨rfl, b3⟩; obtain ⟨d0, d1, d2, d3, d4, d5, d6⟩ := UJ (UE b3 (UB K2)))
  | (go_at_call 95; refine (Mj (na := na) (nc := nc) (ta := ta) (tc := tc) (xa := xa) (xc := xc) (ia := ia) (ic := ic) (nm := nm) (to := to) (tx := tx) (nu := nu) (tt := tt) (ad := ad)).mono ?_; rintro e w4 ⟨rfl, b4⟩; have q4 := UG b3 b4; obtain ⟨d0, d1, d2, d3, d4, d5, d6⟩ := UJ (UE q4 (UB K2)))
  | (go_at_call 94; refine (UB NE _).mono ?_; rintro e w5 ⟨rfl, b5⟩; have q5 := UG q4 b5))) | fail
 all_goals
  go_wp2_with fail
  go_ret
  first | exact ⟨rfl, UG bb2 q5⟩ | exact ⟨rfl, UG bb2 b3⟩
theorem Za {nm to : List (List Int)} {tx nu : List Int} {tt ad : Int} : Bg ⟨nm, 1, tt, ad, to, tx, nu⟩ = (decide (0 ≤ ad ∧ ad ≤ 4294967295) && decide (ad = ad ∧ to.length = 0 ∧ tx.length = 0 ∧ nu.length = 0)) := by
 rw [Bool.eq_iff_iff]
 simp [Bg, show named 1 = false from rfl, show Cc 1 = false from rfl]
theorem Od {nm to : List (List Int)} {tx nu : List Int} {ty tt ad : Int} (h : ty = 2 ∨ ty = 5 ∨ ty = 12) : Bg ⟨nm, ty, tt, ad, to, tx, nu⟩ = (Ag to && decide (ad = 0 ∧ to.length = to.length ∧ tx.length = 0 ∧ nu.length = 0)) := by
 have h1 : named ty = true := decide_eq_true (by omega)
 have h2 : Cc ty = false := decide_eq_false (by omega)
 have h3 : ty ≠ 1 := by omega
 have h4 : ty ≠ 6 := by omega
 rw [Bool.eq_iff_iff]
 simp [Bg, h1, h2, h3, h4]
 constructor
 ·rintro ⟨a, b, c, d⟩; exact ⟨b, a, c, d⟩
 ·rintro ⟨b, a, c, d⟩; exact ⟨a, b, c, d⟩
theorem X9 {nm to : List (List Int)} {tx nu : List Int} {tt ad : Int} : Bg ⟨nm, 6, tt, ad, to, tx, nu⟩ = ((Ag to && Gz nu) && decide (ad = 0 ∧ to.length = to.length ∧ tx.length = 0 ∧ nu.length = nu.length)) := by
 rw [Bool.eq_iff_iff]
 simp [Bg, show named 6 = true from rfl, show Cc 6 = false from rfl, Gz]
 constructor
 ·rintro ⟨a, b, c, d⟩; exact ⟨⟨b, d⟩, a, c⟩
 ·rintro ⟨⟨b, d⟩, a, c⟩; exact ⟨a, b, c, d⟩
theorem Sf {nm to : List (List Int)} {tx nu : List Int} {ty tt ad : Int} (h : ty = 16 ∨ ty = 49) : Bg ⟨nm, ty, tt, ad, to, tx, nu⟩ = (decide (tx.length ≤ 40) && decide (ad = 0 ∧ to.length = 0 ∧ tx.length = tx.length ∧ nu.length = 0)) := by
 have h1 : named ty = false := decide_eq_false (by omega)
 have h2 : Cc ty = true := decide_eq_true (by omega)
 have h3 : ty ≠ 1 := by omega
 have h4 : ty ≠ 6 := by omega
 rw [Bool.eq_iff_iff]
 simp [Bg, h1, h2, h3, h4]
 constructor
 ·rintro ⟨a, b, c, d⟩; exact ⟨c, a, b, d⟩
 ·rintro ⟨c, a, b, d⟩; exact ⟨a, b, c, d⟩
theorem F0 {ty : Int} (h : ty = 2 ∨ ty = 5 ∨ ty = 12) : Ed ty = .iface 127 (.agg #[.slice none 0 0]) := by
 rcases h with rfl | rfl | rfl <;> rfl
theorem Iw {ty : Int} (h : ty = 16 ∨ ty = 49) : Ed ty = .iface 131 (.agg #[.slice none 0 0]) := by
 rcases h with rfl | rfl <;> rfl

set_option maxHeartbeats 1000000 in
set_option maxRecDepth 100000 in
theorem Bb {vn vt vx vi : Value} {r : Rec} {w : World} (h : HasR w vn vt vx vi r) :
  Calls Tryz.prog 67 #[.agg #[vn, .int .i64 r.type, .int .i64 r.ttl, .int .i64 r.addr, vt, vx, vi]] w fun e w' => e = .returned (.bool (rrOk r)) ∧ Below w.heap.size w w' := by
 obtain ⟨na, nc, rfl, _⟩ := h.name.form
 obtain ⟨ta, tc, rfl, _⟩ := h.to.form
 obtain ⟨xa, xc, rfl, _⟩ := h.text.form
 obtain ⟨ia, ic, rfl, _⟩ := h.nums.form
 have b0 := UI (w := w) (.cells #[.slice na r.name.length nc, .int .i64 r.type, .int .i64 r.ttl, .int .i64 r.addr, .slice ta r.to.length tc, .slice xa r.text.length xc, .slice ia r.nums.length ic] 39)
 have K0 := UC (heap_alloc_new w (.cells #[.slice na r.name.length nc, .int .i64 r.type, .int .i64 r.ttl, .int .i64 r.addr, .slice ta r.to.length tc, .slice xa r.text.length xc, .slice ia r.nums.length ic] 39))
 have H0 := UC (h.below b0)
 cases hN : Ag r.name with
 | false =>
  have e : rrOk r = false := by unfold rrOk; rw [hN]; rfl
  rw [e]
  have HN := UC hN
  clear hN h e
  go_enter Tryz.func67, Tryz.ntmps67
  go_wp2_with fail
  generalize w.alloc (.cells #[.slice na r.name.length nc, .int .i64 r.type, .int .i64 r.ttl, .int .i64 r.addr, .slice ta r.to.length tc, .slice xa r.text.length xc, .slice ia r.nums.length ic] 39) = W at *
  refine (VP (UB H0).name).mono ?_
  rw [UB HN]
  rintro e w1 ⟨rfl, b1⟩
  go_wp2_with fail
  go_ret
  exact ⟨rfl, UG b0 b1⟩
 | true =>
  cases hT : Ax r.type with
  | false =>
   have e : rrOk r = false := by unfold rrOk; rw [hN, hT]; rfl
   rw [e]
   have HN := UC hN
   have HT := UC hT
   clear hN hT h e
   go_enter Tryz.func67, Tryz.ntmps67
   go_wp2_with fail
   generalize w.alloc (.cells #[.slice na r.name.length nc, .int .i64 r.type, .int .i64 r.ttl, .int .i64 r.addr, .slice ta r.to.length tc, .slice xa r.text.length xc, .slice ia r.nums.length ic] 39) = W at *
   refine (VP (UB H0).name).mono ?_
   rw [UB HN]
   rintro e w1 ⟨rfl, b1⟩
   obtain ⟨d0, d1, d2, d3, d4, d5, d6⟩ := UJ (UE b1 (UB K0))
   go_wp2_with fail
   refine (Bf r.type _).mono ?_
   rw [UB HT]
   rintro e w2 ⟨rfl, rfl⟩
   go_wp2_with fail
   go_ret
   exact ⟨rfl, UG b0 b1⟩
  | true =>
   by_cases ht : 0 ≤ r.ttl ∧ r.ttl ≤ 100000
   ·have e : rrOk r = Bg r := by unfold rrOk; rw [hN, hT, decide_eq_true ht]; rfl
    rw [e]
    clear b0 K0 H0 e
    obtain ⟨nm, ty, tt, ad, to, tx, nu⟩ := r
    simp only at *
    rcases Db ty with rfl | rfl | rfl | rfl | rfl | rfl | rfl | h0
    ·rw [Za]
     cases hD : decide (0 ≤ ad ∧ ad ≤ 4294967295) with
     | true => rw [Bool.true_and]; exact L9 h hN ht.1 ht.2 hD
     | false => rw [Bool.false_and]; exact Lb h hN ht.1 ht.2 hD
    ·rw [Od (by omega)]
     cases hD : Ag to with
     | true => rw [Bool.true_and]; exact E1 (F0 (by omega)) hT h hN ht.1 ht.2 hD
     | false => rw [Bool.false_and]; exact Ep (F0 (by omega)) hT h hN ht.1 ht.2 hD
    ·rw [Od (by omega)]
     cases hD : Ag to with
     | true => rw [Bool.true_and]; exact E1 (F0 (by omega)) hT h hN ht.1 ht.2 hD
     | false => rw [Bool.false_and]; exact Ep (F0 (by omega)) hT h hN ht.1 ht.2 hD
    ·rw [X9]
     cases hD : (Ag to && Gz nu) with
     | true => rw [Bool.true_and]; exact L6 h hN ht.1 ht.2 hD
     | false => rw [Bool.false_and]; exact Kv h hN ht.1 ht.2 hD
    ·rw [Od (by omega)]
     cases hD : Ag to with
     | true => rw [Bool.true_and]; exact E1 (F0 (by omega)) hT h hN ht.1 ht.2 hD
     | false => rw [Bool.false_and]; exact Ep (F0 (by omega)) hT h hN ht.1 ht.2 hD
    ·rw [Sf (by omega)]
     cases hD : decide (tx.length ≤ 40) with
     | true => rw [Bool.true_and]; exact Hr (Iw (by omega)) hT h hN ht.1 ht.2 hD
     | false => rw [Bool.false_and]; exact Gq (Iw (by omega)) hT h hN ht.1 ht.2 hD
    ·rw [Sf (by omega)]
     cases hD : decide (tx.length ≤ 40) with
     | true => rw [Bool.true_and]; exact Hr (Iw (by omega)) hT h hN ht.1 ht.2 hD
     | false => rw [Bool.false_and]; exact Gq (Iw (by omega)) hT h hN ht.1 ht.2 hD
    ·rw [hT] at h0; cases h0
   ·have e : rrOk r = false := by unfold rrOk; rw [hN, hT, decide_eq_false ht]; rfl
    rw [e]
    have HN := UC hN
    have HT := UC hT
    have hno : r.ttl < 0 ∨ 100000 < r.ttl := by omega
    have HNO := UC hno
    clear hN hT h e hno ht
    go_enter Tryz.func67, Tryz.ntmps67
    go_wp2_with fail
    generalize w.alloc (.cells #[.slice na r.name.length nc, .int .i64 r.type, .int .i64 r.ttl, .int .i64 r.addr, .slice ta r.to.length tc, .slice xa r.text.length xc, .slice ia r.nums.length ic] 39) = W at *
    refine (VP (UB H0).name).mono ?_
    rw [UB HN]
    rintro e w1 ⟨rfl, b1⟩
    obtain ⟨d0, d1, d2, d3, d4, d5, d6⟩ := UJ (UE b1 (UB K0))
    go_wp2_with fail
    refine (Bf r.type _).mono ?_
    rw [UB HT]
    rintro e w2 ⟨rfl, rfl⟩
    go_wp2_with fail
    refine (Qs _ (UB HNO)).mono ?_
    rintro e w2 ⟨rfl, rfl⟩
    go_wp2_with fail
    go_ret
    exact ⟨rfl, UG b0 b1⟩
set_option maxHeartbeats 400000
set_option maxRecDepth 100000

theorem Co {v v' : Value} {l l' : List Int} {w : World} (h : Has w v l) (h' : Has w v' l') :
  Calls Tryz.prog 96 #[v, v'] w fun e w' => e = .returned (.int .i64 (cmpB l l')) ∧ w = w' := by
 go_enter Tryz.func96, Tryz.ntmps96
 go_wp2
 rw [run_callFunc_extern Tryz.func105 (by kernel_rfl) (by kernel_rfl) (by kernel_rfl) (e := Extern.BytealgCompare.compare) (by kernel_rfl), Mb h h']
 simp only [Result.andThen]
 rw [Oper.upon_value]
 go_wp2
 go_ret
 exact ⟨rfl, rfl⟩

theorem Fc (x : Int) (w : World) :
  Calls Tryz.prog 106 #[.int .i64 x] w fun e w' => e = .returned (.bool false) ∧ w = w' := by
 go_enter Tryz.func106, Tryz.ntmps106
 go_wp2
 go_ret
 exact ⟨rfl, rfl⟩

theorem Cq (x y : Int) (w : World) :
  Calls Tryz.prog 97 #[.int .i64 x, .int .i64 y] w fun e w' => e = .returned (.int .i64 (A4 x y)) ∧ w = w' := by
 unfold A4
 by_cases h1 : x < y
 ·rw [if_pos h1]
  go_enter Tryz.func97, Tryz.ntmps97
  go_wp2_with fail
  refine (Fc x _).mono ?_
  rintro e w1 ⟨rfl, rfl⟩
  go_wp2_with fail
  refine (Fc y _).mono ?_
  rintro e w1 ⟨rfl, rfl⟩
  go_wp2
  go_ret
  exact ⟨rfl, rfl⟩
 ·rw [if_neg h1]
  by_cases h2 : y < x
  ·rw [if_pos h2]
   go_enter Tryz.func97, Tryz.ntmps97
   go_wp2_with fail
   refine (Fc x _).mono ?_
   rintro e w1 ⟨rfl, rfl⟩
   go_wp2_with fail
   refine (Fc y _).mono ?_
   rintro e w1 ⟨rfl, rfl⟩
   go_wp2
   go_ret
   exact ⟨rfl, rfl⟩
  ·rw [if_neg h2]
   go_enter Tryz.func97, Tryz.ntmps97
   go_wp2_with fail
   refine (Fc x _).mono ?_
   rintro e w1 ⟨rfl, rfl⟩
   go_wp2_with fail
   refine (Fc y _).mono ?_
   rintro e w1 ⟨rfl, rfl⟩
   go_wp2
   go_ret
   exact ⟨rfl, rfl⟩
theorem I8 {v v' : Value} {l l' : List Int} {w : World} (h : Has w v l) (h' : Has w v' l') (n : Nat) :
  Calls Tryz.prog 96 #[v, v'] (w.drewN n) fun e w'' => e = .returned (.int .i64 (cmpB l l')) ∧ ∃ m, w'' = w.drewN m :=
 (Co (h.below (Cr n)) (h'.below (Cr n))).mono fun e w' ⟨he, hw⟩ => ⟨he, n, hw.symm⟩

set_option maxHeartbeats 2000000 in
set_option maxRecDepth 100000 in
theorem Ba {v v' : Value} {n n' : List (List Int)} {w : World} (h : HasL w v n) (h' : HasL w v' n') :
  Calls Tryz.prog 69 #[.agg #[v], .agg #[v']] w fun e w' => e = .returned (.int .i64 (Bo n n')) ∧ Below w.heap.size w w' := by
 obtain ⟨a, cap, rfl, _⟩ := h.form
 obtain ⟨a', cap', rfl, _⟩ := h'.form
 have b1 := UI (w := w) (.cells #[.slice a n.length cap] 25)
 have k1 := heap_alloc_new w (.cells #[.slice a n.length cap] 25)
 have e1 : (w.alloc (.cells #[.slice a n.length cap] 25)).heap.size = w.heap.size + 1 := by show (w.heap.push _).size = _; simp
 have b2 := UI (w := w.alloc (.cells #[.slice a n.length cap] 25)) (.cells #[.slice a' n'.length cap'] 25)
 have x2 := heap_alloc_new (w.alloc (.cells #[.slice a n.length cap] 25)) (.cells #[.slice a' n'.length cap'] 25)
 have k2 := UE b2 k1
 rw [e1] at x2
 have bb2 := UG b1 b2
 have h2 := UC (h.below bb2)
 have h2' := UC (h'.below bb2)
 clear h h' b1 b2 k1 e1
 unfold Bo
 cases hok : Ag n with
 | false =>
  rw [if_neg (by simp)]
  have HOK := UC hok
  clear hok
  go_enter Tryz.func69, Tryz.ntmps69
  go_wp2_with fail
  generalize (w.alloc (.cells #[.slice a n.length cap] 25)).alloc (.cells #[.slice a' n'.length cap'] 25) = W at *
  refine (VP (UB h2)).mono ?_
  rw [UB HOK]
  rintro e w3 ⟨rfl, b3⟩
  go_wp2_with fail
  go_ret
  exact ⟨rfl, UG bb2 b3⟩
 | true =>
  cases hok' : Ag n' with
  | false =>
   rw [if_neg (by simp)]
   have HOK := UC hok
   have HOK' := UC hok'
   clear hok hok'
   go_enter Tryz.func69, Tryz.ntmps69
   go_wp2_with fail
   generalize (w.alloc (.cells #[.slice a n.length cap] 25)).alloc (.cells #[.slice a' n'.length cap'] 25) = W at *
   refine (VP (UB h2)).mono ?_
   rw [UB HOK]
   rintro e w3 ⟨rfl, b3⟩
   have x3 := US (UE b3 x2)
   go_wp2_with fail
   refine (VP ((UB h2').below b3)).mono ?_
   rw [UB HOK']
   rintro e w4 ⟨rfl, b4⟩
   go_wp2_with fail
   go_ret
   exact ⟨rfl, UG bb2 (UG b3 b4)⟩
  | true =>
   rw [if_pos ⟨rfl, rfl⟩]
   have hs := (Ai hok).1
   have hs' := (Ai hok').1
   have HOK := UC hok
   have HOK' := UC hok'
   clear hok hok'
   have HIT := UC (fun (k : Nat) => Sm (a := n) (b := n') (k := k))
   have NON := UC (fun (k : Nat) => P3 (a := n) (b := n') (k := k))
   have HAT := UC (S6 n n')
   generalize hR : cmpN n n' = R at *
   clear hR
   generalize hC : Fz n n' = C at *
   clear hC
   go_enter Tryz.func69, Tryz.ntmps69
   go_wp2_with fail
   generalize (w.alloc (.cells #[.slice a n.length cap] 25)).alloc (.cells #[.slice a' n'.length cap'] 25) = W0 at *
   refine (VP (UB h2)).mono ?_
   rw [UB HOK]
   rintro e w3 ⟨rfl, b3⟩
   have x3 := US (UE b3 x2)
   go_wp2_with fail
   refine (VP ((UB h2').below b3)).mono ?_
   rw [UB HOK']
   rintro e W ⟨rfl, b4⟩
   have b4 := UG b3 b4
   have x4 := UE b4 x2
   have k4 := UE b4 k2
   have h4 := UC ((UB h2).below b4)
   have h4' := UC ((UB h2').below b4)
   have bb4 := UG bb2 b4
   clear x3 x2 k2 h2 h2' b3 b4 bb2 HOK HOK'
   generalize hn : n.length = m at *
   have HN := UC hn
   clear hn
   generalize hn' : n'.length = m' at *
   have HN' := UC hn'
   clear hn'
   have X4 := UC x4
   have K4 := UC k4
   clear x4 k4
   go_wp2
   go_loopw [5] (fun i wr => ∃ k : Nat, 1 ≤ k ∧ k ≤ m + 1 ∧ k ≤ m' + 1 ∧ i = .int .i64 k ∧ Hid (∀ j, 1 ≤ j → j < k → C j = 0) ∧ Below W.heap.size W wr) (fun i _ => m + 1 - (intOf i).toNat)
   case atStart => exact ⟨1, Nat.le_refl _, by omega, by omega, rfl, UC (fun j h1 h2 => absurd h2 (by omega)), Below.refl _ _⟩
   case round =>
    obtain ⟨k, hk1, hk2, hk3, rfl, hall, hb⟩ := hrel
    have c1 := US (UE hb (UB K4))
    have c2 := US (UE hb (UB X4))
    by_cases hlt : k ≤ m ∧ k ≤ m'
    ·obtain ⟨hlt, hlt'⟩ := hlt
     obtain ⟨b, off, u, rfl, hbl, hc, hu⟩ := ((UB h4).below hb).here (k := m - k) (by rw [UB HN]; omega)
     obtain ⟨b', off', u', rfl, hbl', hc', hu'⟩ := ((UB h4').below hb).here (k := m' - k) (by rw [UB HN']; omega)
     have hat := UC (UB HAT k)
     have hhit := UC (fun (hz : C k ≠ 0) => UB HIT k hk1 hlt hlt' (UB hall) hz)
     have hone := UC (fun (hz : C k = 0) => (show ∀ j, 1 ≤ j → j < k + 1 → C j = 0 from fun j h1 h2 => by
       by_cases e : j = k
       ·subst e; exact hz
       ·exact UB hall j h1 (by omega)))
     generalize n.getD (m - k) [] = lab at *
     generalize n'.getD (m' - k) [] = lab' at *
     obtain ⟨j, hj⟩ : ∃ j : Nat, m - k = j := ⟨_, rfl⟩
     obtain ⟨j', hj'⟩ : ∃ j' : Nat, m' - k = j' := ⟨_, rfl⟩
     rw [hj] at hc
     rw [hj'] at hc'
     have s1 : (m : Int) - k = j := by omega
     have s2 : (m' : Int) - k = j' := by omega
     have jl : j < m := by omega
     have jl' : j' < m' := by omega
     have wj : IntKind.i64.wrap (j : Int) = j := Az j (by omega)
     have wj' : IntKind.i64.wrap (j' : Int) = j' := Az j' (by omega)
     have HU := UC hu
     have HU' := UC hu'
     obtain ⟨ua, uc, rfl, _⟩ := hu.form
     obtain ⟨ua', uc', rfl, _⟩ := hu'.form
     clear hu hu'
     have i1 : (k : Int) ≤ min (m : Int) m' := by omega
     go_wp2
     all_goals
      go_quiet (first | (exact I8 (UB HU) (UB HU') _))
      clear wj wj' s1 s2 hj hj' jl jl' hc hc' c1 c2 i1
      have bb := UG hb (Cr (w := wr) nq)
      have hcs := Fm lab lab'
      generalize cmpB lab lab' = c at *
      rcases hcs with rfl | rfl | rfl
      ·have hr := UB hhit (by rw [UB hat]; omega)
       rw [UB hat] at hr
       subst hr
       go_wp2
       go_ret
       exact ⟨rfl, UG bb4 bb⟩
      ·go_wp2
       exact ⟨⟨k + 1, by omega, by omega, by omega, by go_num, UC (UB hone (UB hat)), bb⟩, by simp [intOf]; omega⟩
      ·have hr := UB hhit (by rw [UB hat]; omega)
       rw [UB hat] at hr
       subst hr
       go_wp2
       go_ret
       exact ⟨rfl, UG bb4 bb⟩
    ·have hr := UB NON k (by omega) (UB hall)
     have i1 : ¬ (k : Int) ≤ min (m : Int) m' := by omega
     go_wp2_with fail
     all_goals
      refine (Cq (m : Int) (m' : Int) _).mono ?_
      rintro e w5 ⟨rfl, rfl⟩
      go_wp2_with fail
      go_ret
      exact ⟨by rw [hr]; rfl, UG bb4 hb⟩
set_option maxHeartbeats 800000 in
set_option maxRecDepth 100000 in
theorem Fu {B : Nat} {v u : Value} {l t : List Int} {w : World} (h : Own B 5 w v l) (hu : C0 B w u t) (hl : l.length ≤ 1099511627000) (ht : t.length ≤ 255) (hB : B ≤ w.heap.size) :
  Calls Tryz.prog 154 #[v, u] w fun e w' => ∃ v', e = .returned v' ∧ Own B 5 w' v' (l ++ ((t.length : Int) :: t)) ∧ Below B w w' := by
 obtain ⟨ua, uc, rfl, _⟩ := hu.form
 have HU := UC hu
 clear hu
 have hlt : ((t.length : Int) % 256) = t.length := by omega
 generalize hn : t.length = m at *
 have HN := UC hn
 clear hn
 go_enter Tryz.func154, Tryz.ntmps154
 go_wp2_with (at_builtin; refine Aq rfl _ _ 22 5 rfl Tryz.underlying22 VJ B v _ l [(m : Int)] rfl rfl (h.alloc _) (B4 w 0 5 [(m : Int)] (Nat.zero_le _) (by simp [maxLen])).reads (by simp; omega) (by simp; omega) ?_)
 intro v2 w2 o2 g2
 have b2 : Below B w w2 := ((Below.refl _ _).alloc hB _).grown g2 (by simp; omega) (fun q hq => (h.lt q hq).1)
 clear g2
 have hs2 := b2.size
 have U2 := UC ((UB HU).low b2 (Nat.le_refl _))
 go_wp2_with (at_builtin; refine Aq rfl _ _ 22 5 rfl Tryz.underlying22 VJ B v2 (.slice ua m uc) (l ++ [(m : Int)]) t rfl rfl o2 (UB U2).has.reads (by simp; rw [UB HN]; omega) (by omega) ?_)
 intro v3 w3 o3 g3
 have b3 : Below B w w3 := b2.grown g3 (by omega) (fun q hq => (o2.lt q hq).1)
 go_wp2
 go_ret
 exact ⟨v3, rfl, by simpa using o3, b3⟩
end Go.Proofs.YtfneahdnpmamkaaGreat
