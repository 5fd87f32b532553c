/-
  Contracts of the program's RrCmp, kind by kind, and of its RrSame. Contracts of the program's Under. Contracts of the program's mayBeIn and mayFollow.
-/
import Derived.Test.YtfgcmjpkgdjcfaaGreatHouseNewG19
import Derived.Test.YtfgcmjpkgdjcfaaGreatHouseNewG23
import Derived.Test.YtfgcmjpkgdjcfaaGreatHouseNewG24
import Derived.Test.YtfgcmjpkgdjcfaaGreatHouseNewG07
import Derived.Deep.RegionHeld3
import Derived.Deep.RegionWith
import Derived.Test.YtfgcmjpkgdjcfaaGreatHouseNewG25
import Derived.Test.YtfgcmjpkgdjcfaaGreatHouseNewG20
import Derived.Test.YtfgcmjpkgdjcfaaGreatHouseNewG16
namespace Go.Proofs.YtfgcmjpkgdjcfaaGreat
open Go.RowKit
set_option linter.unusedVariables false

set_option maxHeartbeats 2000000 in
set_option maxRecDepth 100000 in
theorem rrCmpData_A {na : Option Addr} {nc : Nat} {ta : Option Addr} {tc : Nat} {xa : Option Addr} {xc : Nat} {ia : Option Addr} {ic : Nat} {nm to : List (List Int)} {tx nu : List Int} {tt ad : Int} {na' : Option Addr} {nc' : Nat} {ta' : Option Addr} {tc' : Nat} {xa' : Option Addr} {xc' : Nat} {ia' : Option Addr} {ic' : Nat} {nm' to' : List (List Int)} {tx' nu' : List Int} {tt' ad' : Int} {w : World} {DA DB : List Int} (h : HasR w (.slice na nm.length nc) (.slice ta to.length tc) (.slice xa tx.length xc) (.slice ia nu.length ic) ⟨nm, 1, tt, ad, to, tx, nu⟩) (h' : HasR w (.slice na' nm'.length nc') (.slice ta' to'.length tc') (.slice xa' tx'.length xc') (.slice ia' nu'.length ic') ⟨nm', 1, tt', ad', to', tx', nu'⟩) (ha : rrOk ⟨nm, 1, tt, ad, to, tx, nu⟩ = true) (hb : rrOk ⟨nm', 1, tt', ad', to', tx', nu'⟩ = true) (hc : nameCmp nm nm' = 0)
  (PA : ∀ w1, Below w.heap.size w w1 → Calls Tryz.prog 185 #[.agg #[.int .i64 ad]] w1 fun e w' => ∃ v', e = .returned v' ∧ Own w1.heap.size 5 w' v' DA ∧ Below w1.heap.size w1 w') (PB : ∀ w1, Below w.heap.size w w1 → Calls Tryz.prog 185 #[.agg #[.int .i64 ad']] w1 fun e w' => ∃ v', e = .returned v' ∧ Own w1.heap.size 5 w' v' DB ∧ Below w1.heap.size w1 w') :
  Calls Tryz.prog 99 #[.agg #[.slice na nm.length nc, .int .i64 1, .int .i64 tt, .int .i64 ad, .slice ta to.length tc, .slice xa tx.length xc, .slice ia nu.length ic], .agg #[.slice na' nm'.length nc', .int .i64 1, .int .i64 tt', .int .i64 ad', .slice ta' to'.length tc', .slice xa' tx'.length xc', .slice ia' nu'.length ic']] w fun e w' => e = .returned (.int .i64 (cmpB DA DB)) ∧ Below w.heap.size w w' := by
 have b0 := below2 w (.cells #[.slice na nm.length nc, .int .i64 1, .int .i64 tt, .int .i64 ad, .slice ta to.length tc, .slice xa tx.length xc, .slice ia nu.length ic] 59) (.cells #[.slice na' nm'.length nc', .int .i64 1, .int .i64 tt', .int .i64 ad', .slice ta' to'.length tc', .slice xa' tx'.length xc', .slice ia' nu'.length ic'] 59)
 obtain ⟨hsz, k0, x0⟩ := box2 w (.cells #[.slice na nm.length nc, .int .i64 1, .int .i64 tt, .int .i64 ad, .slice ta to.length tc, .slice xa tx.length xc, .slice ia nu.length ic] 59) #[.slice na' nm'.length nc', .int .i64 1, .int .i64 tt', .int .i64 ad', .slice ta' to'.length tc', .slice xa' tx'.length xc', .slice ia' nu'.length ic'] 59
 have K0 := hide k0
 have X0 := hide x0
 have H0 := hide (h.below b0)
 have J0 := hide (h'.below b0)
 have HA := hide (fun (w : World) (h : HasR w (.slice na nm.length nc) (.slice ta to.length tc) (.slice xa tx.length xc) (.slice ia nu.length ic) ⟨nm, 1, tt, ad, to, tx, nu⟩) => (show Calls Tryz.prog 96 #[.agg #[.slice na nm.length nc, .int .i64 1, .int .i64 tt, .int .i64 ad, .slice ta to.length tc, .slice xa tx.length xc, .slice ia nu.length ic]] w fun e w' => e = .returned (.bool true) ∧ Below w.heap.size w w' by have q := implRrOk_has h; rw [ha] at q; exact q))
 have HB := hide (fun (w : World) (h : HasR w (.slice na' nm'.length nc') (.slice ta' to'.length tc') (.slice xa' tx'.length xc') (.slice ia' nu'.length ic') ⟨nm', 1, tt', ad', to', tx', nu'⟩) => (show Calls Tryz.prog 96 #[.agg #[.slice na' nm'.length nc', .int .i64 1, .int .i64 tt', .int .i64 ad', .slice ta' to'.length tc', .slice xa' tx'.length xc', .slice ia' nu'.length ic']] w fun e w' => e = .returned (.bool true) ∧ Below w.heap.size w w' by have q := implRrOk_has h; rw [hb] at q; exact q))
 have HC := hide (fun (w : World) (v v' : Value) (h : HasL w v nm) (h' : HasL w v' nm') => (show Calls Tryz.prog 98 #[.agg #[v], .agg #[v']] w fun e w' => e = .returned (.int .i64 0) ∧ Below w.heap.size w w' by have q := implNameCmp_has h h'; rw [hc] at q; exact q))
 have HL := hide (show ∀ w : World, Calls Tryz.prog 124 #[.int .i64 1, .int .i64 1] w fun e w' => e = .returned (.int .i64 0) ∧ w = w' from fun w => by have q := cmpCompare_int 1 1 w; unfold byLength at q; rw [if_neg (by omega), if_neg (by omega)] at q; exact q)
 have QA := hide PA
 have QB := hide PB
 skip
 skip
 clear h h' k0 x0 ha hb hc PA PB 
 go_enter Tryz.func99, Tryz.ntmps99
 go_wp2_with fail
 generalize (w.alloc (.cells #[.slice na nm.length nc, .int .i64 1, .int .i64 tt, .int .i64 ad, .slice ta to.length tc, .slice xa tx.length xc, .slice ia nu.length ic] 59)).alloc (.cells #[.slice na' nm'.length nc', .int .i64 1, .int .i64 tt', .int .i64 ad', .slice ta' to'.length tc', .slice xa' tx'.length xc', .slice ia' nu'.length ic'] 59) = W at *
 refine (unhide HA _ (unhide H0)).mono ?_
 rintro e w1 ⟨rfl, b1⟩
 have bb1 := below_next b0 b1
 have K1 := hide (block_kept b1 (unhide K0))
 have X1 := hide (block_kept b1 (unhide X0))
 have H1 := hide ((unhide H0).below b1)
 have J1 := hide ((unhide J0).below b1)
 clear K0 X0 H0 J0 b1
 obtain ⟨d0, d1, d2, d3, d4, d5, d6⟩ := cells7 (unhide K1)
 obtain ⟨f0, f1, f2, f3, f4, f5, f6⟩ := cells7 (unhide X1)
 go_wp2_with fail
 refine (unhide HB _ (unhide J1)).mono ?_
 rintro e w2 ⟨rfl, b2⟩
 clear d0 d1 d2 d3 d4 d5 d6 f0 f1 f2 f3 f4 f5 f6
 have bb2 := below_next bb1 b2
 have K2 := hide (block_kept b2 (unhide K1))
 have X2 := hide (block_kept b2 (unhide X1))
 have H2 := hide ((unhide H1).below b2)
 have J2 := hide ((unhide J1).below b2)
 clear K1 X1 H1 J1 b2
 obtain ⟨d0, d1, d2, d3, d4, d5, d6⟩ := cells7 (unhide K2)
 obtain ⟨f0, f1, f2, f3, f4, f5, f6⟩ := cells7 (unhide X2)
 go_wp2_with fail
 refine (unhide HC _ _ _ (unhide H2).name (unhide J2).name).mono ?_
 rintro e w3 ⟨rfl, b3⟩
 clear d0 d1 d2 d3 d4 d5 d6 f0 f1 f2 f3 f4 f5 f6
 have bb3 := below_next bb2 b3
 have K3 := hide (block_kept b3 (unhide K2))
 have X3 := hide (block_kept b3 (unhide X2))
 have H3 := hide ((unhide H2).below b3)
 have J3 := hide ((unhide J2).below b3)
 clear K2 X2 H2 J2 b3
 obtain ⟨d0, d1, d2, d3, d4, d5, d6⟩ := cells7 (unhide K3)
 obtain ⟨f0, f1, f2, f3, f4, f5, f6⟩ := cells7 (unhide X3)
 go_wp2_with fail
 refine (unhide HL _).mono ?_
 rintro e w4 ⟨rfl, rfl⟩
 clear d0 d1 d2 d3 d4 d5 d6 f0 f1 f2 f3 f4 f5 f6
 have bd := below_drew (w := w3)
 have bb5 := below_next bb3 bd
 have K5 := hide (block_kept bd (unhide K3))
 have X5 := hide (block_kept bd (unhide X3))
 have H5 := hide ((unhide H3).below bd)
 have J5 := hide ((unhide J3).below bd)
 clear K3 X3 H3 J3 bd
 obtain ⟨d0, d1, d2, d3, d4, d5, d6⟩ := cells7 (unhide K5)
 obtain ⟨f0, f1, f2, f3, f4, f5, f6⟩ := cells7 (unhide X5)
 go_wp2_with fail
 clear d0 d1 d2 d3 d4 d5 d6 f0 f1 f2 f3 f4 f5 f6
 go_region_held3 (fun w' => (w'.cell? ⟨w.heap.size, 0, none⟩ = some (.slice na nm.length nc) ∧ w'.cell? ⟨w.heap.size, 1, none⟩ = some (.int .i64 1) ∧ w'.cell? ⟨w.heap.size, 2, none⟩ = some (.int .i64 tt) ∧ w'.cell? ⟨w.heap.size, 3, none⟩ = some (.int .i64 ad) ∧ w'.cell? ⟨w.heap.size, 4, none⟩ = some (.slice ta to.length tc) ∧ w'.cell? ⟨w.heap.size, 5, none⟩ = some (.slice xa tx.length xc) ∧ w'.cell? ⟨w.heap.size, 6, none⟩ = some (.slice ia nu.length ic)) ∧ (w'.cell? ⟨w.heap.size + 1, 0, none⟩ = some (.slice na' nm'.length nc') ∧ w'.cell? ⟨w.heap.size + 1, 1, none⟩ = some (.int .i64 1) ∧ w'.cell? ⟨w.heap.size + 1, 2, none⟩ = some (.int .i64 tt') ∧ w'.cell? ⟨w.heap.size + 1, 3, none⟩ = some (.int .i64 ad') ∧ w'.cell? ⟨w.heap.size + 1, 4, none⟩ = some (.slice ta' to'.length tc') ∧ w'.cell? ⟨w.heap.size + 1, 5, none⟩ = some (.slice xa' tx'.length xc') ∧ w'.cell? ⟨w.heap.size + 1, 6, none⟩ = some (.slice ia' nu'.length ic')))
  (first | exact ⟨cells7 (unhide K5), cells7 (unhide X5)⟩ | exact ⟨cells7 (block_kept b6 (unhide K5)), cells7 (block_kept b6 (unhide X5))⟩ | exact ⟨cells7 (block_kept q7 (unhide K5)), cells7 (block_kept q7 (unhide X5))⟩ | exact ⟨cells7 (block_kept q8 (unhide K5)), cells7 (block_kept q8 (unhide X5))⟩ | exact ⟨cells7 (block_kept q9 (unhide K5)), cells7 (block_kept q9 (unhide X5))⟩)
  (first
  | (go_at_call_of 108 (Value.slice na nm.length nc); refine (dataOf_A (na := na) (nc := nc) (ta := ta) (tc := tc) (xa := xa) (xc := xc) (ia := ia) (ic := ic) (nm := nm) (to := to) (tx := tx) (nu := nu) (tt := tt) (ad := ad)).mono ?_; rintro e w6 ⟨rfl, b6⟩)
  | (go_at_call_of 108 (Value.slice na' nm'.length nc'); refine (dataOf_A (na := na') (nc := nc') (ta := ta') (tc := tc') (xa := xa') (xc := xc') (ia := ia') (ic := ic') (nm := nm') (to := to') (tx := tx') (nu := nu') (tt := tt') (ad := ad')).mono ?_; rintro e w8 ⟨rfl, b8⟩; have q8 := below_next q7 b8)
  | (go_at_call_of 185 (Value.agg #[Value.int IntKind.i64 ad]); refine (unhide QA _ (below_next bb5 b6)).mono ?_; rintro e w7 ⟨v7, rfl, o7, b7⟩; have q7 := below_next b6 b7)
  | (go_at_call_of 185 (Value.agg #[Value.int IntKind.i64 ad']); refine (unhide QB _ (below_next bb5 q8)).mono ?_; rintro e w9 ⟨v9, rfl, o9, b9⟩; have q9 := below_next q8 b9)
  | (go_at_call 123; refine (bytesCompare_has (o7.below (below_next b8 b9)).has o9.has).mono ?_; rintro e w10 ⟨rfl, rfl⟩))
 go_wp2_with fail
 go_ret
 exact ⟨rfl, below_next bb5 q9⟩

set_option maxHeartbeats 2000000 in
set_option maxRecDepth 100000 in
theorem rrCmpData_N {na : Option Addr} {nc : Nat} {ta : Option Addr} {tc : Nat} {xa : Option Addr} {xc : Nat} {ia : Option Addr} {ic : Nat} {nm to : List (List Int)} {tx nu : List Int} {tt ad : Int} {na' : Option Addr} {nc' : Nat} {ta' : Option Addr} {tc' : Nat} {xa' : Option Addr} {xc' : Nat} {ia' : Option Addr} {ic' : Nat} {nm' to' : List (List Int)} {tx' nu' : List Int} {tt' ad' : Int} {w : World} {DA DB : List Int} {ty : Int} (hk : kindV ty = .iface 146 (.agg #[.slice none 0 0])) (hto : typeOk ty = true) (h : HasR w (.slice na nm.length nc) (.slice ta to.length tc) (.slice xa tx.length xc) (.slice ia nu.length ic) ⟨nm, ty, tt, ad, to, tx, nu⟩) (h' : HasR w (.slice na' nm'.length nc') (.slice ta' to'.length tc') (.slice xa' tx'.length xc') (.slice ia' nu'.length ic') ⟨nm', ty, tt', ad', to', tx', nu'⟩) (ha : rrOk ⟨nm, ty, tt, ad, to, tx, nu⟩ = true) (hb : rrOk ⟨nm', ty, tt', ad', to', tx', nu'⟩ = true) (hc : nameCmp nm nm' = 0)
  (PA : ∀ w1, Below w.heap.size w w1 → Calls Tryz.prog 190 #[.agg #[.slice ta to.length tc]] w1 fun e w' => ∃ v', e = .returned v' ∧ Own w1.heap.size 5 w' v' DA ∧ Below w1.heap.size w1 w') (PB : ∀ w1, Below w.heap.size w w1 → Calls Tryz.prog 190 #[.agg #[.slice ta' to'.length tc']] w1 fun e w' => ∃ v', e = .returned v' ∧ Own w1.heap.size 5 w' v' DB ∧ Below w1.heap.size w1 w') :
  Calls Tryz.prog 99 #[.agg #[.slice na nm.length nc, .int .i64 ty, .int .i64 tt, .int .i64 ad, .slice ta to.length tc, .slice xa tx.length xc, .slice ia nu.length ic], .agg #[.slice na' nm'.length nc', .int .i64 ty, .int .i64 tt', .int .i64 ad', .slice ta' to'.length tc', .slice xa' tx'.length xc', .slice ia' nu'.length ic']] w fun e w' => e = .returned (.int .i64 (cmpB DA DB)) ∧ Below w.heap.size w w' := by
 have b0 := below2 w (.cells #[.slice na nm.length nc, .int .i64 ty, .int .i64 tt, .int .i64 ad, .slice ta to.length tc, .slice xa tx.length xc, .slice ia nu.length ic] 59) (.cells #[.slice na' nm'.length nc', .int .i64 ty, .int .i64 tt', .int .i64 ad', .slice ta' to'.length tc', .slice xa' tx'.length xc', .slice ia' nu'.length ic'] 59)
 obtain ⟨hsz, k0, x0⟩ := box2 w (.cells #[.slice na nm.length nc, .int .i64 ty, .int .i64 tt, .int .i64 ad, .slice ta to.length tc, .slice xa tx.length xc, .slice ia nu.length ic] 59) #[.slice na' nm'.length nc', .int .i64 ty, .int .i64 tt', .int .i64 ad', .slice ta' to'.length tc', .slice xa' tx'.length xc', .slice ia' nu'.length ic'] 59
 have K0 := hide k0
 have X0 := hide x0
 have H0 := hide (h.below b0)
 have J0 := hide (h'.below b0)
 have HA := hide (fun (w : World) (h : HasR w (.slice na nm.length nc) (.slice ta to.length tc) (.slice xa tx.length xc) (.slice ia nu.length ic) ⟨nm, ty, tt, ad, to, tx, nu⟩) => (show Calls Tryz.prog 96 #[.agg #[.slice na nm.length nc, .int .i64 ty, .int .i64 tt, .int .i64 ad, .slice ta to.length tc, .slice xa tx.length xc, .slice ia nu.length ic]] w fun e w' => e = .returned (.bool true) ∧ Below w.heap.size w w' by have q := implRrOk_has h; rw [ha] at q; exact q))
 have HB := hide (fun (w : World) (h : HasR w (.slice na' nm'.length nc') (.slice ta' to'.length tc') (.slice xa' tx'.length xc') (.slice ia' nu'.length ic') ⟨nm', ty, tt', ad', to', tx', nu'⟩) => (show Calls Tryz.prog 96 #[.agg #[.slice na' nm'.length nc', .int .i64 ty, .int .i64 tt', .int .i64 ad', .slice ta' to'.length tc', .slice xa' tx'.length xc', .slice ia' nu'.length ic']] w fun e w' => e = .returned (.bool true) ∧ Below w.heap.size w w' by have q := implRrOk_has h; rw [hb] at q; exact q))
 have HC := hide (fun (w : World) (v v' : Value) (h : HasL w v nm) (h' : HasL w v' nm') => (show Calls Tryz.prog 98 #[.agg #[v], .agg #[v']] w fun e w' => e = .returned (.int .i64 0) ∧ Below w.heap.size w w' by have q := implNameCmp_has h h'; rw [hc] at q; exact q))
 have HL := hide (show ∀ w : World, Calls Tryz.prog 124 #[.int .i64 ty, .int .i64 ty] w fun e w' => e = .returned (.int .i64 0) ∧ w = w' from fun w => by have q := cmpCompare_int ty ty w; unfold byLength at q; rw [if_neg (by omega), if_neg (by omega)] at q; exact q)
 have QA := hide PA
 have QB := hide PB
 have HKK := hide hk
 have HTO := hide hto
 clear h h' k0 x0 ha hb hc PA PB hk hto
 go_enter Tryz.func99, Tryz.ntmps99
 go_wp2_with fail
 generalize (w.alloc (.cells #[.slice na nm.length nc, .int .i64 ty, .int .i64 tt, .int .i64 ad, .slice ta to.length tc, .slice xa tx.length xc, .slice ia nu.length ic] 59)).alloc (.cells #[.slice na' nm'.length nc', .int .i64 ty, .int .i64 tt', .int .i64 ad', .slice ta' to'.length tc', .slice xa' tx'.length xc', .slice ia' nu'.length ic'] 59) = W at *
 refine (unhide HA _ (unhide H0)).mono ?_
 rintro e w1 ⟨rfl, b1⟩
 have bb1 := below_next b0 b1
 have K1 := hide (block_kept b1 (unhide K0))
 have X1 := hide (block_kept b1 (unhide X0))
 have H1 := hide ((unhide H0).below b1)
 have J1 := hide ((unhide J0).below b1)
 clear K0 X0 H0 J0 b1
 obtain ⟨d0, d1, d2, d3, d4, d5, d6⟩ := cells7 (unhide K1)
 obtain ⟨f0, f1, f2, f3, f4, f5, f6⟩ := cells7 (unhide X1)
 go_wp2_with fail
 refine (unhide HB _ (unhide J1)).mono ?_
 rintro e w2 ⟨rfl, b2⟩
 clear d0 d1 d2 d3 d4 d5 d6 f0 f1 f2 f3 f4 f5 f6
 have bb2 := below_next bb1 b2
 have K2 := hide (block_kept b2 (unhide K1))
 have X2 := hide (block_kept b2 (unhide X1))
 have H2 := hide ((unhide H1).below b2)
 have J2 := hide ((unhide J1).below b2)
 clear K1 X1 H1 J1 b2
 obtain ⟨d0, d1, d2, d3, d4, d5, d6⟩ := cells7 (unhide K2)
 obtain ⟨f0, f1, f2, f3, f4, f5, f6⟩ := cells7 (unhide X2)
 go_wp2_with fail
 refine (unhide HC _ _ _ (unhide H2).name (unhide J2).name).mono ?_
 rintro e w3 ⟨rfl, b3⟩
 clear d0 d1 d2 d3 d4 d5 d6 f0 f1 f2 f3 f4 f5 f6
 have bb3 := below_next bb2 b3
 have K3 := hide (block_kept b3 (unhide K2))
 have X3 := hide (block_kept b3 (unhide X2))
 have H3 := hide ((unhide H2).below b3)
 have J3 := hide ((unhide J2).below b3)
 clear K2 X2 H2 J2 b3
 obtain ⟨d0, d1, d2, d3, d4, d5, d6⟩ := cells7 (unhide K3)
 obtain ⟨f0, f1, f2, f3, f4, f5, f6⟩ := cells7 (unhide X3)
 go_wp2_with fail
 refine (unhide HL _).mono ?_
 rintro e w4 ⟨rfl, rfl⟩
 clear d0 d1 d2 d3 d4 d5 d6 f0 f1 f2 f3 f4 f5 f6
 have bd := below_drew (w := w3)
 have bb5 := below_next bb3 bd
 have K5 := hide (block_kept bd (unhide K3))
 have X5 := hide (block_kept bd (unhide X3))
 have H5 := hide ((unhide H3).below bd)
 have J5 := hide ((unhide J3).below bd)
 clear K3 X3 H3 J3 bd
 obtain ⟨d0, d1, d2, d3, d4, d5, d6⟩ := cells7 (unhide K5)
 obtain ⟨f0, f1, f2, f3, f4, f5, f6⟩ := cells7 (unhide X5)
 go_wp2_with fail
 clear d0 d1 d2 d3 d4 d5 d6 f0 f1 f2 f3 f4 f5 f6
 go_region_held3 (fun w' => (w'.cell? ⟨w.heap.size, 0, none⟩ = some (.slice na nm.length nc) ∧ w'.cell? ⟨w.heap.size, 1, none⟩ = some (.int .i64 ty) ∧ w'.cell? ⟨w.heap.size, 2, none⟩ = some (.int .i64 tt) ∧ w'.cell? ⟨w.heap.size, 3, none⟩ = some (.int .i64 ad) ∧ w'.cell? ⟨w.heap.size, 4, none⟩ = some (.slice ta to.length tc) ∧ w'.cell? ⟨w.heap.size, 5, none⟩ = some (.slice xa tx.length xc) ∧ w'.cell? ⟨w.heap.size, 6, none⟩ = some (.slice ia nu.length ic)) ∧ (w'.cell? ⟨w.heap.size + 1, 0, none⟩ = some (.slice na' nm'.length nc') ∧ w'.cell? ⟨w.heap.size + 1, 1, none⟩ = some (.int .i64 ty) ∧ w'.cell? ⟨w.heap.size + 1, 2, none⟩ = some (.int .i64 tt') ∧ w'.cell? ⟨w.heap.size + 1, 3, none⟩ = some (.int .i64 ad') ∧ w'.cell? ⟨w.heap.size + 1, 4, none⟩ = some (.slice ta' to'.length tc') ∧ w'.cell? ⟨w.heap.size + 1, 5, none⟩ = some (.slice xa' tx'.length xc') ∧ w'.cell? ⟨w.heap.size + 1, 6, none⟩ = some (.slice ia' nu'.length ic')))
  (first | exact ⟨cells7 (unhide K5), cells7 (unhide X5)⟩ | exact ⟨cells7 (block_kept b6 (unhide K5)), cells7 (block_kept b6 (unhide X5))⟩ | exact ⟨cells7 (block_kept q7 (unhide K5)), cells7 (block_kept q7 (unhide X5))⟩ | exact ⟨cells7 (block_kept q8 (unhide K5)), cells7 (block_kept q8 (unhide X5))⟩ | exact ⟨cells7 (block_kept q9 (unhide K5)), cells7 (block_kept q9 (unhide X5))⟩)
  (first
  | (go_at_call_of 108 (Value.slice na nm.length nc); refine (dataOf_N (na := na) (nc := nc) (ta := ta) (tc := tc) (xa := xa) (xc := xc) (ia := ia) (ic := ic) (nm := nm) (to := to) (tx := tx) (nu := nu) (tt := tt) (ad := ad) (unhide HKK) (unhide HTO)).mono ?_; rintro e w6 ⟨rfl, b6⟩)
  | (go_at_call_of 108 (Value.slice na' nm'.length nc'); refine (dataOf_N (na := na') (nc := nc') (ta := ta') (tc := tc') (xa := xa') (xc := xc') (ia := ia') (ic := ic') (nm := nm') (to := to') (tx := tx') (nu := nu') (tt := tt') (ad := ad') (unhide HKK) (unhide HTO)).mono ?_; rintro e w8 ⟨rfl, b8⟩; have q8 := below_next q7 b8)
  | (go_at_call_of 190 (Value.agg #[Value.slice ta to.length tc]); refine (unhide QA _ (below_next bb5 b6)).mono ?_; rintro e w7 ⟨v7, rfl, o7, b7⟩; have q7 := below_next b6 b7)
  | (go_at_call_of 190 (Value.agg #[Value.slice ta' to'.length tc']); refine (unhide QB _ (below_next bb5 q8)).mono ?_; rintro e w9 ⟨v9, rfl, o9, b9⟩; have q9 := below_next q8 b9)
  | (go_at_call 123; refine (bytesCompare_has (o7.below (below_next b8 b9)).has o9.has).mono ?_; rintro e w10 ⟨rfl, rfl⟩))
 go_wp2_with fail
 go_ret
 exact ⟨rfl, below_next bb5 q9⟩

set_option maxHeartbeats 2000000 in
set_option maxRecDepth 100000 in
theorem rrCmpData_S {na : Option Addr} {nc : Nat} {ta : Option Addr} {tc : Nat} {xa : Option Addr} {xc : Nat} {ia : Option Addr} {ic : Nat} {nm to : List (List Int)} {tx nu : List Int} {tt ad : Int} {na' : Option Addr} {nc' : Nat} {ta' : Option Addr} {tc' : Nat} {xa' : Option Addr} {xc' : Nat} {ia' : Option Addr} {ic' : Nat} {nm' to' : List (List Int)} {tx' nu' : List Int} {tt' ad' : Int} {w : World} {DA DB : List Int} (h : HasR w (.slice na nm.length nc) (.slice ta to.length tc) (.slice xa tx.length xc) (.slice ia nu.length ic) ⟨nm, 6, tt, ad, to, tx, nu⟩) (h' : HasR w (.slice na' nm'.length nc') (.slice ta' to'.length tc') (.slice xa' tx'.length xc') (.slice ia' nu'.length ic') ⟨nm', 6, tt', ad', to', tx', nu'⟩) (ha : rrOk ⟨nm, 6, tt, ad, to, tx, nu⟩ = true) (hb : rrOk ⟨nm', 6, tt', ad', to', tx', nu'⟩ = true) (hc : nameCmp nm nm' = 0)
  (PA : ∀ w1, Below w.heap.size w w1 → Calls Tryz.prog 196 #[.agg #[.slice ta to.length tc, .slice ia nu.length ic]] w1 fun e w' => ∃ v', e = .returned v' ∧ Own w1.heap.size 5 w' v' DA ∧ Below w1.heap.size w1 w') (PB : ∀ w1, Below w.heap.size w w1 → Calls Tryz.prog 196 #[.agg #[.slice ta' to'.length tc', .slice ia' nu'.length ic']] w1 fun e w' => ∃ v', e = .returned v' ∧ Own w1.heap.size 5 w' v' DB ∧ Below w1.heap.size w1 w') :
  Calls Tryz.prog 99 #[.agg #[.slice na nm.length nc, .int .i64 6, .int .i64 tt, .int .i64 ad, .slice ta to.length tc, .slice xa tx.length xc, .slice ia nu.length ic], .agg #[.slice na' nm'.length nc', .int .i64 6, .int .i64 tt', .int .i64 ad', .slice ta' to'.length tc', .slice xa' tx'.length xc', .slice ia' nu'.length ic']] w fun e w' => e = .returned (.int .i64 (cmpB DA DB)) ∧ Below w.heap.size w w' := by
 have b0 := below2 w (.cells #[.slice na nm.length nc, .int .i64 6, .int .i64 tt, .int .i64 ad, .slice ta to.length tc, .slice xa tx.length xc, .slice ia nu.length ic] 59) (.cells #[.slice na' nm'.length nc', .int .i64 6, .int .i64 tt', .int .i64 ad', .slice ta' to'.length tc', .slice xa' tx'.length xc', .slice ia' nu'.length ic'] 59)
 obtain ⟨hsz, k0, x0⟩ := box2 w (.cells #[.slice na nm.length nc, .int .i64 6, .int .i64 tt, .int .i64 ad, .slice ta to.length tc, .slice xa tx.length xc, .slice ia nu.length ic] 59) #[.slice na' nm'.length nc', .int .i64 6, .int .i64 tt', .int .i64 ad', .slice ta' to'.length tc', .slice xa' tx'.length xc', .slice ia' nu'.length ic'] 59
 have K0 := hide k0
 have X0 := hide x0
 have H0 := hide (h.below b0)
 have J0 := hide (h'.below b0)
 have HA := hide (fun (w : World) (h : HasR w (.slice na nm.length nc) (.slice ta to.length tc) (.slice xa tx.length xc) (.slice ia nu.length ic) ⟨nm, 6, tt, ad, to, tx, nu⟩) => (show Calls Tryz.prog 96 #[.agg #[.slice na nm.length nc, .int .i64 6, .int .i64 tt, .int .i64 ad, .slice ta to.length tc, .slice xa tx.length xc, .slice ia nu.length ic]] w fun e w' => e = .returned (.bool true) ∧ Below w.heap.size w w' by have q := implRrOk_has h; rw [ha] at q; exact q))
 have HB := hide (fun (w : World) (h : HasR w (.slice na' nm'.length nc') (.slice ta' to'.length tc') (.slice xa' tx'.length xc') (.slice ia' nu'.length ic') ⟨nm', 6, tt', ad', to', tx', nu'⟩) => (show Calls Tryz.prog 96 #[.agg #[.slice na' nm'.length nc', .int .i64 6, .int .i64 tt', .int .i64 ad', .slice ta' to'.length tc', .slice xa' tx'.length xc', .slice ia' nu'.length ic']] w fun e w' => e = .returned (.bool true) ∧ Below w.heap.size w w' by have q := implRrOk_has h; rw [hb] at q; exact q))
 have HC := hide (fun (w : World) (v v' : Value) (h : HasL w v nm) (h' : HasL w v' nm') => (show Calls Tryz.prog 98 #[.agg #[v], .agg #[v']] w fun e w' => e = .returned (.int .i64 0) ∧ Below w.heap.size w w' by have q := implNameCmp_has h h'; rw [hc] at q; exact q))
 have HL := hide (show ∀ w : World, Calls Tryz.prog 124 #[.int .i64 6, .int .i64 6] w fun e w' => e = .returned (.int .i64 0) ∧ w = w' from fun w => by have q := cmpCompare_int 6 6 w; unfold byLength at q; rw [if_neg (by omega), if_neg (by omega)] at q; exact q)
 have QA := hide PA
 have QB := hide PB
 skip
 skip
 clear h h' k0 x0 ha hb hc PA PB 
 go_enter Tryz.func99, Tryz.ntmps99
 go_wp2_with fail
 generalize (w.alloc (.cells #[.slice na nm.length nc, .int .i64 6, .int .i64 tt, .int .i64 ad, .slice ta to.length tc, .slice xa tx.length xc, .slice ia nu.length ic] 59)).alloc (.cells #[.slice na' nm'.length nc', .int .i64 6, .int .i64 tt', .int .i64 ad', .slice ta' to'.length tc', .slice xa' tx'.length xc', .slice ia' nu'.length ic'] 59) = W at *
 refine (unhide HA _ (unhide H0)).mono ?_
 rintro e w1 ⟨rfl, b1⟩
 have bb1 := below_next b0 b1
 have K1 := hide (block_kept b1 (unhide K0))
 have X1 := hide (block_kept b1 (unhide X0))
 have H1 := hide ((unhide H0).below b1)
 have J1 := hide ((unhide J0).below b1)
 clear K0 X0 H0 J0 b1
 obtain ⟨d0, d1, d2, d3, d4, d5, d6⟩ := cells7 (unhide K1)
 obtain ⟨f0, f1, f2, f3, f4, f5, f6⟩ := cells7 (unhide X1)
 go_wp2_with fail
 refine (unhide HB _ (unhide J1)).mono ?_
 rintro e w2 ⟨rfl, b2⟩
 clear d0 d1 d2 d3 d4 d5 d6 f0 f1 f2 f3 f4 f5 f6
 have bb2 := below_next bb1 b2
 have K2 := hide (block_kept b2 (unhide K1))
 have X2 := hide (block_kept b2 (unhide X1))
 have H2 := hide ((unhide H1).below b2)
 have J2 := hide ((unhide J1).below b2)
 clear K1 X1 H1 J1 b2
 obtain ⟨d0, d1, d2, d3, d4, d5, d6⟩ := cells7 (unhide K2)
 obtain ⟨f0, f1, f2, f3, f4, f5, f6⟩ := cells7 (unhide X2)
 go_wp2_with fail
 refine (unhide HC _ _ _ (unhide H2).name (unhide J2).name).mono ?_
 rintro e w3 ⟨rfl, b3⟩
 clear d0 d1 d2 d3 d4 d5 d6 f0 f1 f2 f3 f4 f5 f6
 have bb3 := below_next bb2 b3
 have K3 := hide (block_kept b3 (unhide K2))
 have X3 := hide (block_kept b3 (unhide X2))
 have H3 := hide ((unhide H2).below b3)
 have J3 := hide ((unhide J2).below b3)
 clear K2 X2 H2 J2 b3
 obtain ⟨d0, d1, d2, d3, d4, d5, d6⟩ := cells7 (unhide K3)
 obtain ⟨f0, f1, f2, f3, f4, f5, f6⟩ := cells7 (unhide X3)
 go_wp2_with fail
 refine (unhide HL _).mono ?_
 rintro e w4 ⟨rfl, rfl⟩
 clear d0 d1 d2 d3 d4 d5 d6 f0 f1 f2 f3 f4 f5 f6
 have bd := below_drew (w := w3)
 have bb5 := below_next bb3 bd
 have K5 := hide (block_kept bd (unhide K3))
 have X5 := hide (block_kept bd (unhide X3))
 have H5 := hide ((unhide H3).below bd)
 have J5 := hide ((unhide J3).below bd)
 clear K3 X3 H3 J3 bd
 obtain ⟨d0, d1, d2, d3, d4, d5, d6⟩ := cells7 (unhide K5)
 obtain ⟨f0, f1, f2, f3, f4, f5, f6⟩ := cells7 (unhide X5)
 go_wp2_with fail
 clear d0 d1 d2 d3 d4 d5 d6 f0 f1 f2 f3 f4 f5 f6
 go_region_held3 (fun w' => (w'.cell? ⟨w.heap.size, 0, none⟩ = some (.slice na nm.length nc) ∧ w'.cell? ⟨w.heap.size, 1, none⟩ = some (.int .i64 6) ∧ w'.cell? ⟨w.heap.size, 2, none⟩ = some (.int .i64 tt) ∧ w'.cell? ⟨w.heap.size, 3, none⟩ = some (.int .i64 ad) ∧ w'.cell? ⟨w.heap.size, 4, none⟩ = some (.slice ta to.length tc) ∧ w'.cell? ⟨w.heap.size, 5, none⟩ = some (.slice xa tx.length xc) ∧ w'.cell? ⟨w.heap.size, 6, none⟩ = some (.slice ia nu.length ic)) ∧ (w'.cell? ⟨w.heap.size + 1, 0, none⟩ = some (.slice na' nm'.length nc') ∧ w'.cell? ⟨w.heap.size + 1, 1, none⟩ = some (.int .i64 6) ∧ w'.cell? ⟨w.heap.size + 1, 2, none⟩ = some (.int .i64 tt') ∧ w'.cell? ⟨w.heap.size + 1, 3, none⟩ = some (.int .i64 ad') ∧ w'.cell? ⟨w.heap.size + 1, 4, none⟩ = some (.slice ta' to'.length tc') ∧ w'.cell? ⟨w.heap.size + 1, 5, none⟩ = some (.slice xa' tx'.length xc') ∧ w'.cell? ⟨w.heap.size + 1, 6, none⟩ = some (.slice ia' nu'.length ic')))
  (first | exact ⟨cells7 (unhide K5), cells7 (unhide X5)⟩ | exact ⟨cells7 (block_kept b6 (unhide K5)), cells7 (block_kept b6 (unhide X5))⟩ | exact ⟨cells7 (block_kept q7 (unhide K5)), cells7 (block_kept q7 (unhide X5))⟩ | exact ⟨cells7 (block_kept q8 (unhide K5)), cells7 (block_kept q8 (unhide X5))⟩ | exact ⟨cells7 (block_kept q9 (unhide K5)), cells7 (block_kept q9 (unhide X5))⟩)
  (first
  | (go_at_call_of 108 (Value.slice na nm.length nc); refine (dataOf_S (na := na) (nc := nc) (ta := ta) (tc := tc) (xa := xa) (xc := xc) (ia := ia) (ic := ic) (nm := nm) (to := to) (tx := tx) (nu := nu) (tt := tt) (ad := ad)).mono ?_; rintro e w6 ⟨rfl, b6⟩)
  | (go_at_call_of 108 (Value.slice na' nm'.length nc'); refine (dataOf_S (na := na') (nc := nc') (ta := ta') (tc := tc') (xa := xa') (xc := xc') (ia := ia') (ic := ic') (nm := nm') (to := to') (tx := tx') (nu := nu') (tt := tt') (ad := ad')).mono ?_; rintro e w8 ⟨rfl, b8⟩; have q8 := below_next q7 b8)
  | (go_at_call_of 196 (Value.agg #[Value.slice ta to.length tc, Value.slice ia nu.length ic]); refine (unhide QA _ (below_next bb5 b6)).mono ?_; rintro e w7 ⟨v7, rfl, o7, b7⟩; have q7 := below_next b6 b7)
  | (go_at_call_of 196 (Value.agg #[Value.slice ta' to'.length tc', Value.slice ia' nu'.length ic']); refine (unhide QB _ (below_next bb5 q8)).mono ?_; rintro e w9 ⟨v9, rfl, o9, b9⟩; have q9 := below_next q8 b9)
  | (go_at_call 123; refine (bytesCompare_has (o7.below (below_next b8 b9)).has o9.has).mono ?_; rintro e w10 ⟨rfl, rfl⟩))
 go_wp2_with fail
 go_ret
 exact ⟨rfl, below_next bb5 q9⟩

set_option maxHeartbeats 2000000 in
set_option maxRecDepth 100000 in
theorem rrCmpData_X {na : Option Addr} {nc : Nat} {ta : Option Addr} {tc : Nat} {xa : Option Addr} {xc : Nat} {ia : Option Addr} {ic : Nat} {nm to : List (List Int)} {tx nu : List Int} {tt ad : Int} {na' : Option Addr} {nc' : Nat} {ta' : Option Addr} {tc' : Nat} {xa' : Option Addr} {xc' : Nat} {ia' : Option Addr} {ic' : Nat} {nm' to' : List (List Int)} {tx' nu' : List Int} {tt' ad' : Int} {w : World} {DA DB : List Int} {ty : Int} (hk : kindV ty = .iface 150 (.agg #[.slice none 0 0])) (hto : typeOk ty = true) (h : HasR w (.slice na nm.length nc) (.slice ta to.length tc) (.slice xa tx.length xc) (.slice ia nu.length ic) ⟨nm, ty, tt, ad, to, tx, nu⟩) (h' : HasR w (.slice na' nm'.length nc') (.slice ta' to'.length tc') (.slice xa' tx'.length xc') (.slice ia' nu'.length ic') ⟨nm', ty, tt', ad', to', tx', nu'⟩) (ha : rrOk ⟨nm, ty, tt, ad, to, tx, nu⟩ = true) (hb : rrOk ⟨nm', ty, tt', ad', to', tx', nu'⟩ = true) (hc : nameCmp nm nm' = 0)
  (PA : ∀ w1, Below w.heap.size w w1 → Calls Tryz.prog 200 #[.agg #[.slice xa tx.length xc]] w1 fun e w' => ∃ v', e = .returned v' ∧ Own w1.heap.size 5 w' v' DA ∧ Below w1.heap.size w1 w') (PB : ∀ w1, Below w.heap.size w w1 → Calls Tryz.prog 200 #[.agg #[.slice xa' tx'.length xc']] w1 fun e w' => ∃ v', e = .returned v' ∧ Own w1.heap.size 5 w' v' DB ∧ Below w1.heap.size w1 w') :
  Calls Tryz.prog 99 #[.agg #[.slice na nm.length nc, .int .i64 ty, .int .i64 tt, .int .i64 ad, .slice ta to.length tc, .slice xa tx.length xc, .slice ia nu.length ic], .agg #[.slice na' nm'.length nc', .int .i64 ty, .int .i64 tt', .int .i64 ad', .slice ta' to'.length tc', .slice xa' tx'.length xc', .slice ia' nu'.length ic']] w fun e w' => e = .returned (.int .i64 (cmpB DA DB)) ∧ Below w.heap.size w w' := by
 have b0 := below2 w (.cells #[.slice na nm.length nc, .int .i64 ty, .int .i64 tt, .int .i64 ad, .slice ta to.length tc, .slice xa tx.length xc, .slice ia nu.length ic] 59) (.cells #[.slice na' nm'.length nc', .int .i64 ty, .int .i64 tt', .int .i64 ad', .slice ta' to'.length tc', .slice xa' tx'.length xc', .slice ia' nu'.length ic'] 59)
 obtain ⟨hsz, k0, x0⟩ := box2 w (.cells #[.slice na nm.length nc, .int .i64 ty, .int .i64 tt, .int .i64 ad, .slice ta to.length tc, .slice xa tx.length xc, .slice ia nu.length ic] 59) #[.slice na' nm'.length nc', .int .i64 ty, .int .i64 tt', .int .i64 ad', .slice ta' to'.length tc', .slice xa' tx'.length xc', .slice ia' nu'.length ic'] 59
 have K0 := hide k0
 have X0 := hide x0
 have H0 := hide (h.below b0)
 have J0 := hide (h'.below b0)
 have HA := hide (fun (w : World) (h : HasR w (.slice na nm.length nc) (.slice ta to.length tc) (.slice xa tx.length xc) (.slice ia nu.length ic) ⟨nm, ty, tt, ad, to, tx, nu⟩) => (show Calls Tryz.prog 96 #[.agg #[.slice na nm.length nc, .int .i64 ty, .int .i64 tt, .int .i64 ad, .slice ta to.length tc, .slice xa tx.length xc, .slice ia nu.length ic]] w fun e w' => e = .returned (.bool true) ∧ Below w.heap.size w w' by have q := implRrOk_has h; rw [ha] at q; exact q))
 have HB := hide (fun (w : World) (h : HasR w (.slice na' nm'.length nc') (.slice ta' to'.length tc') (.slice xa' tx'.length xc') (.slice ia' nu'.length ic') ⟨nm', ty, tt', ad', to', tx', nu'⟩) => (show Calls Tryz.prog 96 #[.agg #[.slice na' nm'.length nc', .int .i64 ty, .int .i64 tt', .int .i64 ad', .slice ta' to'.length tc', .slice xa' tx'.length xc', .slice ia' nu'.length ic']] w fun e w' => e = .returned (.bool true) ∧ Below w.heap.size w w' by have q := implRrOk_has h; rw [hb] at q; exact q))
 have HC := hide (fun (w : World) (v v' : Value) (h : HasL w v nm) (h' : HasL w v' nm') => (show Calls Tryz.prog 98 #[.agg #[v], .agg #[v']] w fun e w' => e = .returned (.int .i64 0) ∧ Below w.heap.size w w' by have q := implNameCmp_has h h'; rw [hc] at q; exact q))
 have HL := hide (show ∀ w : World, Calls Tryz.prog 124 #[.int .i64 ty, .int .i64 ty] w fun e w' => e = .returned (.int .i64 0) ∧ w = w' from fun w => by have q := cmpCompare_int ty ty w; unfold byLength at q; rw [if_neg (by omega), if_neg (by omega)] at q; exact q)
 have QA := hide PA
 have QB := hide PB
 have HKK := hide hk
 have HTO := hide hto
 clear h h' k0 x0 ha hb hc PA PB hk hto
 go_enter Tryz.func99, Tryz.ntmps99
 go_wp2_with fail
 generalize (w.alloc (.cells #[.slice na nm.length nc, .int .i64 ty, .int .i64 tt, .int .i64 ad, .slice ta to.length tc, .slice xa tx.length xc, .slice ia nu.length ic] 59)).alloc (.cells #[.slice na' nm'.length nc', .int .i64 ty, .int .i64 tt', .int .i64 ad', .slice ta' to'.length tc', .slice xa' tx'.length xc', .slice ia' nu'.length ic'] 59) = W at *
 refine (unhide HA _ (unhide H0)).mono ?_
 rintro e w1 ⟨rfl, b1⟩
 have bb1 := below_next b0 b1
 have K1 := hide (block_kept b1 (unhide K0))
 have X1 := hide (block_kept b1 (unhide X0))
 have H1 := hide ((unhide H0).below b1)
 have J1 := hide ((unhide J0).below b1)
 clear K0 X0 H0 J0 b1
 obtain ⟨d0, d1, d2, d3, d4, d5, d6⟩ := cells7 (unhide K1)
 obtain ⟨f0, f1, f2, f3, f4, f5, f6⟩ := cells7 (unhide X1)
 go_wp2_with fail
 refine (unhide HB _ (unhide J1)).mono ?_
 rintro e w2 ⟨rfl, b2⟩
 clear d0 d1 d2 d3 d4 d5 d6 f0 f1 f2 f3 f4 f5 f6
 have bb2 := below_next bb1 b2
 have K2 := hide (block_kept b2 (unhide K1))
 have X2 := hide (block_kept b2 (unhide X1))
 have H2 := hide ((unhide H1).below b2)
 have J2 := hide ((unhide J1).below b2)
 clear K1 X1 H1 J1 b2
 obtain ⟨d0, d1, d2, d3, d4, d5, d6⟩ := cells7 (unhide K2)
 obtain ⟨f0, f1, f2, f3, f4, f5, f6⟩ := cells7 (unhide X2)
 go_wp2_with fail
 refine (unhide HC _ _ _ (unhide H2).name (unhide J2).name).mono ?_
 rintro e w3 ⟨rfl, b3⟩
 clear d0 d1 d2 d3 d4 d5 d6 f0 f1 f2 f3 f4 f5 f6
 have bb3 := below_next bb2 b3
 have K3 := hide (block_kept b3 (unhide K2))
 have X3 := hide (block_kept b3 (unhide X2))
 have H3 := hide ((unhide H2).below b3)
 have J3 := hide ((unhide J2).below b3)
 clear K2 X2 H2 J2 b3
 obtain ⟨d0, d1, d2, d3, d4, d5, d6⟩ := cells7 (unhide K3)
 obtain ⟨f0, f1, f2, f3, f4, f5, f6⟩ := cells7 (unhide X3)
 go_wp2_with fail
 refine (unhide HL _).mono ?_
 rintro e w4 ⟨rfl, rfl⟩
 clear d0 d1 d2 d3 d4 d5 d6 f0 f1 f2 f3 f4 f5 f6
 have bd := below_drew (w := w3)
 have bb5 := below_next bb3 bd
 have K5 := hide (block_kept bd (unhide K3))
 have X5 := hide (block_kept bd (unhide X3))
 have H5 := hide ((unhide H3).below bd)
 have J5 := hide ((unhide J3).below bd)
 clear K3 X3 H3 J3 bd
 obtain ⟨d0, d1, d2, d3, d4, d5, d6⟩ := cells7 (unhide K5)
 obtain ⟨f0, f1, f2, f3, f4, f5, f6⟩ := cells7 (unhide X5)
 go_wp2_with fail
 clear d0 d1 d2 d3 d4 d5 d6 f0 f1 f2 f3 f4 f5 f6
 go_region_held3 (fun w' => (w'.cell? ⟨w.heap.size, 0, none⟩ = some (.slice na nm.length nc) ∧ w'.cell? ⟨w.heap.size, 1, none⟩ = some (.int .i64 ty) ∧ w'.cell? ⟨w.heap.size, 2, none⟩ = some (.int .i64 tt) ∧ w'.cell? ⟨w.heap.size, 3, none⟩ = some (.int .i64 ad) ∧ w'.cell? ⟨w.heap.size, 4, none⟩ = some (.slice ta to.length tc) ∧ w'.cell? ⟨w.heap.size, 5, none⟩ = some (.slice xa tx.length xc) ∧ w'.cell? ⟨w.heap.size, 6, none⟩ = some (.slice ia nu.length ic)) ∧ (w'.cell? ⟨w.heap.size + 1, 0, none⟩ = some (.slice na' nm'.length nc') ∧ w'.cell? ⟨w.heap.size + 1, 1, none⟩ = some (.int .i64 ty) ∧ w'.cell? ⟨w.heap.size + 1, 2, none⟩ = some (.int .i64 tt') ∧ w'.cell? ⟨w.heap.size + 1, 3, none⟩ = some (.int .i64 ad') ∧ w'.cell? ⟨w.heap.size + 1, 4, none⟩ = some (.slice ta' to'.length tc') ∧ w'.cell? ⟨w.heap.size + 1, 5, none⟩ = some (.slice xa' tx'.length xc') ∧ w'.cell? ⟨w.heap.size + 1, 6, none⟩ = some (.slice ia' nu'.length ic')))
  (first | exact ⟨cells7 (unhide K5), cells7 (unhide X5)⟩ | exact ⟨cells7 (block_kept b6 (unhide K5)), cells7 (block_kept b6 (unhide X5))⟩ | exact ⟨cells7 (block_kept q7 (unhide K5)), cells7 (block_kept q7 (unhide X5))⟩ | exact ⟨cells7 (block_kept q8 (unhide K5)), cells7 (block_kept q8 (unhide X5))⟩ | exact ⟨cells7 (block_kept q9 (unhide K5)), cells7 (block_kept q9 (unhide X5))⟩)
  (first
  | (go_at_call_of 108 (Value.slice na nm.length nc); refine (dataOf_X (na := na) (nc := nc) (ta := ta) (tc := tc) (xa := xa) (xc := xc) (ia := ia) (ic := ic) (nm := nm) (to := to) (tx := tx) (nu := nu) (tt := tt) (ad := ad) (unhide HKK) (unhide HTO)).mono ?_; rintro e w6 ⟨rfl, b6⟩)
  | (go_at_call_of 108 (Value.slice na' nm'.length nc'); refine (dataOf_X (na := na') (nc := nc') (ta := ta') (tc := tc') (xa := xa') (xc := xc') (ia := ia') (ic := ic') (nm := nm') (to := to') (tx := tx') (nu := nu') (tt := tt') (ad := ad') (unhide HKK) (unhide HTO)).mono ?_; rintro e w8 ⟨rfl, b8⟩; have q8 := below_next q7 b8)
  | (go_at_call_of 200 (Value.agg #[Value.slice xa tx.length xc]); refine (unhide QA _ (below_next bb5 b6)).mono ?_; rintro e w7 ⟨v7, rfl, o7, b7⟩; have q7 := below_next b6 b7)
  | (go_at_call_of 200 (Value.agg #[Value.slice xa' tx'.length xc']); refine (unhide QB _ (below_next bb5 q8)).mono ?_; rintro e w9 ⟨v9, rfl, o9, b9⟩; have q9 := below_next q8 b9)
  | (go_at_call 123; refine (bytesCompare_has (o7.below (below_next b8 b9)).has o9.has).mono ?_; rintro e w10 ⟨rfl, rfl⟩))
 go_wp2_with fail
 go_ret
 exact ⟨rfl, below_next bb5 q9⟩

set_option maxHeartbeats 1000000 in
set_option maxRecDepth 100000 in
theorem rrCmp_apart {vn vt vx vi un ut ux ui : Value} {a b : Rec} {w : World} (h : HasR w vn vt vx vi a) (h' : HasR w un ut ux ui b) (ha : rrOk a = true) (hb : rrOk b = true) (hne : cmpN a.name b.name ≠ 0 ∨ byLength a.type b.type ≠ 0) :
  Calls Tryz.prog 99 #[.agg #[vn, .int .i64 a.type, .int .i64 a.ttl, .int .i64 a.addr, vt, vx, vi], .agg #[un, .int .i64 b.type, .int .i64 b.ttl, .int .i64 b.addr, ut, ux, ui]] w fun e w' => e = .returned (.int .i64 (cmpR a b)) ∧ Below w.heap.size w w' := by
 obtain ⟨na, nc, rfl, _⟩ := h.name.form
 obtain ⟨ta, tc, rfl, _⟩ := h.to.form
 obtain ⟨xa, xc, rfl, _⟩ := h.text.form
 obtain ⟨ia, ic, rfl, _⟩ := h.nums.form
 obtain ⟨na', nc', rfl, _⟩ := h'.name.form
 obtain ⟨ta', tc', rfl, _⟩ := h'.to.form
 obtain ⟨xa', xc', rfl, _⟩ := h'.text.form
 obtain ⟨ia', ic', rfl, _⟩ := h'.nums.form
 have b0 := below2 w (.cells #[.slice na a.name.length nc, .int .i64 a.type, .int .i64 a.ttl, .int .i64 a.addr, .slice ta a.to.length tc, .slice xa a.text.length xc, .slice ia a.nums.length ic] 59) (.cells #[.slice na' b.name.length nc', .int .i64 b.type, .int .i64 b.ttl, .int .i64 b.addr, .slice ta' b.to.length tc', .slice xa' b.text.length xc', .slice ia' b.nums.length ic'] 59)
 obtain ⟨hsz, k0, x0⟩ := box2 w (.cells #[.slice na a.name.length nc, .int .i64 a.type, .int .i64 a.ttl, .int .i64 a.addr, .slice ta a.to.length tc, .slice xa a.text.length xc, .slice ia a.nums.length ic] 59) #[.slice na' b.name.length nc', .int .i64 b.type, .int .i64 b.ttl, .int .i64 b.addr, .slice ta' b.to.length tc', .slice xa' b.text.length xc', .slice ia' b.nums.length ic'] 59
 have K0 := hide k0
 have X0 := hide x0
 have H0 := hide (h.below b0)
 have J0 := hide (h'.below b0)
 clear h h' k0 x0
 have HA := hide (fun (w : World) (vn vt vx vi : Value) (h : HasR w vn vt vx vi a) => implRrOk_has h)
 have HB := hide (fun (w : World) (vn vt vx vi : Value) (h : HasR w vn vt vx vi b) => implRrOk_has h)
 have hn : nameCmp a.name b.name = cmpN a.name b.name := by unfold nameCmp; rw [if_pos ⟨(rrOk_parts ha).1, (rrOk_parts hb).1⟩]
 have HC := fun (w : World) (v v' : Value) (h : HasL w v a.name) (h' : HasL w v' b.name) => implNameCmp_has h h'
 rw [hn] at HC
 replace HC := hide HC
 have HL := hide (cmpCompare_int a.type b.type)
 rw [ha] at HA
 rw [hb] at HB
 clear ha hb hn
 unfold cmpR
 generalize cmpN a.name b.name = CN at *
 generalize byLength a.type b.type = CL at *
 by_cases e1 : CN = 0
 ·subst e1
  rw [if_neg (by simp)]
  have e2 : CL ≠ 0 := by
   rcases hne with hne | hne
   ·exact absurd rfl hne
   ·exact hne
  rw [if_pos e2]
  have g2 : (CL != 0) = true := by rw [bne_iff_ne]; exact e2
  clear hne e2
  go_enter Tryz.func99, Tryz.ntmps99
  go_wp2_with fail
  generalize (w.alloc (.cells #[.slice na a.name.length nc, .int .i64 a.type, .int .i64 a.ttl, .int .i64 a.addr, .slice ta a.to.length tc, .slice xa a.text.length xc, .slice ia a.nums.length ic] 59)).alloc (.cells #[.slice na' b.name.length nc', .int .i64 b.type, .int .i64 b.ttl, .int .i64 b.addr, .slice ta' b.to.length tc', .slice xa' b.text.length xc', .slice ia' b.nums.length ic'] 59) = W at *
  refine (unhide HA _ _ _ _ _ (unhide H0)).mono ?_
  rintro e w1 ⟨rfl, b1⟩
  have bb1 := below_next b0 b1
  have K1 := hide (block_kept b1 (unhide K0))
  have X1 := hide (block_kept b1 (unhide X0))
  have H1 := hide ((unhide H0).below b1)
  have J1 := hide ((unhide J0).below b1)
  clear K0 X0 H0 J0 b1
  obtain ⟨d0, d1, d2, d3, d4, d5, d6⟩ := cells7 (unhide K1)
  obtain ⟨f0, f1, f2, f3, f4, f5, f6⟩ := cells7 (unhide X1)
  go_wp2_with fail
  refine (unhide HB _ _ _ _ _ (unhide J1)).mono ?_
  rintro e w2 ⟨rfl, b2⟩
  clear d0 d1 d2 d3 d4 d5 d6 f0 f1 f2 f3 f4 f5 f6
  have bb2 := below_next bb1 b2
  have K2 := hide (block_kept b2 (unhide K1))
  have X2 := hide (block_kept b2 (unhide X1))
  have H2 := hide ((unhide H1).below b2)
  have J2 := hide ((unhide J1).below b2)
  clear K1 X1 H1 J1 b2
  obtain ⟨d0, d1, d2, d3, d4, d5, d6⟩ := cells7 (unhide K2)
  obtain ⟨f0, f1, f2, f3, f4, f5, f6⟩ := cells7 (unhide X2)
  go_wp2_with fail
  refine (unhide HC _ _ _ (unhide H2).name (unhide J2).name).mono ?_
  rintro e w3 ⟨rfl, b3⟩
  clear d0 d1 d2 d3 d4 d5 d6 f0 f1 f2 f3 f4 f5 f6
  have bb3 := below_next bb2 b3
  have K3 := hide (block_kept b3 (unhide K2))
  have X3 := hide (block_kept b3 (unhide X2))
  have H3 := hide ((unhide H2).below b3)
  have J3 := hide ((unhide J2).below b3)
  clear K2 X2 H2 J2 b3
  obtain ⟨d0, d1, d2, d3, d4, d5, d6⟩ := cells7 (unhide K3)
  obtain ⟨f0, f1, f2, f3, f4, f5, f6⟩ := cells7 (unhide X3)
  go_wp2_with fail
  refine (unhide HL _).mono ?_
  rintro e w4 ⟨rfl, rfl⟩
  go_wp2_with fail
  go_ret
  exact ⟨rfl, bb3⟩
 ·rw [if_pos e1]
  have g1 : (CN != 0) = true := by rw [bne_iff_ne]; exact e1
  clear hne e1
  go_enter Tryz.func99, Tryz.ntmps99
  go_wp2_with fail
  generalize (w.alloc (.cells #[.slice na a.name.length nc, .int .i64 a.type, .int .i64 a.ttl, .int .i64 a.addr, .slice ta a.to.length tc, .slice xa a.text.length xc, .slice ia a.nums.length ic] 59)).alloc (.cells #[.slice na' b.name.length nc', .int .i64 b.type, .int .i64 b.ttl, .int .i64 b.addr, .slice ta' b.to.length tc', .slice xa' b.text.length xc', .slice ia' b.nums.length ic'] 59) = W at *
  refine (unhide HA _ _ _ _ _ (unhide H0)).mono ?_
  rintro e w1 ⟨rfl, b1⟩
  have bb1 := below_next b0 b1
  have K1 := hide (block_kept b1 (unhide K0))
  have X1 := hide (block_kept b1 (unhide X0))
  have H1 := hide ((unhide H0).below b1)
  have J1 := hide ((unhide J0).below b1)
  clear K0 X0 H0 J0 b1
  obtain ⟨d0, d1, d2, d3, d4, d5, d6⟩ := cells7 (unhide K1)
  obtain ⟨f0, f1, f2, f3, f4, f5, f6⟩ := cells7 (unhide X1)
  go_wp2_with fail
  refine (unhide HB _ _ _ _ _ (unhide J1)).mono ?_
  rintro e w2 ⟨rfl, b2⟩
  clear d0 d1 d2 d3 d4 d5 d6 f0 f1 f2 f3 f4 f5 f6
  have bb2 := below_next bb1 b2
  have K2 := hide (block_kept b2 (unhide K1))
  have X2 := hide (block_kept b2 (unhide X1))
  have H2 := hide ((unhide H1).below b2)
  have J2 := hide ((unhide J1).below b2)
  clear K1 X1 H1 J1 b2
  obtain ⟨d0, d1, d2, d3, d4, d5, d6⟩ := cells7 (unhide K2)
  obtain ⟨f0, f1, f2, f3, f4, f5, f6⟩ := cells7 (unhide X2)
  go_wp2_with fail
  refine (unhide HC _ _ _ (unhide H2).name (unhide J2).name).mono ?_
  rintro e w3 ⟨rfl, b3⟩
  clear d0 d1 d2 d3 d4 d5 d6 f0 f1 f2 f3 f4 f5 f6
  go_wp2_with fail
  go_ret
  exact ⟨rfl, below_next bb2 b3⟩

set_option maxHeartbeats 1000000 in
set_option maxRecDepth 100000 in
theorem rrCmp_bad {vn vt vx vi un ut ux ui : Value} {a b : Rec} {w : World} (h : HasR w vn vt vx vi a) (h' : HasR w un ut ux ui b) (hno : rrOk a = false ∨ rrOk b = false) :
  Calls Tryz.prog 99 #[.agg #[vn, .int .i64 a.type, .int .i64 a.ttl, .int .i64 a.addr, vt, vx, vi], .agg #[un, .int .i64 b.type, .int .i64 b.ttl, .int .i64 b.addr, ut, ux, ui]] w fun e w' => e = .returned (.int .i64 0) ∧ Below w.heap.size w w' := by
 obtain ⟨na, nc, rfl, _⟩ := h.name.form
 obtain ⟨ta, tc, rfl, _⟩ := h.to.form
 obtain ⟨xa, xc, rfl, _⟩ := h.text.form
 obtain ⟨ia, ic, rfl, _⟩ := h.nums.form
 obtain ⟨na', nc', rfl, _⟩ := h'.name.form
 obtain ⟨ta', tc', rfl, _⟩ := h'.to.form
 obtain ⟨xa', xc', rfl, _⟩ := h'.text.form
 obtain ⟨ia', ic', rfl, _⟩ := h'.nums.form
 have b0 := below2 w (.cells #[.slice na a.name.length nc, .int .i64 a.type, .int .i64 a.ttl, .int .i64 a.addr, .slice ta a.to.length tc, .slice xa a.text.length xc, .slice ia a.nums.length ic] 59) (.cells #[.slice na' b.name.length nc', .int .i64 b.type, .int .i64 b.ttl, .int .i64 b.addr, .slice ta' b.to.length tc', .slice xa' b.text.length xc', .slice ia' b.nums.length ic'] 59)
 obtain ⟨hsz, k0, x0⟩ := box2 w (.cells #[.slice na a.name.length nc, .int .i64 a.type, .int .i64 a.ttl, .int .i64 a.addr, .slice ta a.to.length tc, .slice xa a.text.length xc, .slice ia a.nums.length ic] 59) #[.slice na' b.name.length nc', .int .i64 b.type, .int .i64 b.ttl, .int .i64 b.addr, .slice ta' b.to.length tc', .slice xa' b.text.length xc', .slice ia' b.nums.length ic'] 59
 have K0 := hide k0
 have X0 := hide x0
 have H0 := hide (h.below b0)
 have J0 := hide (h'.below b0)
 clear h h' k0 x0
 have HA := hide (fun (w : World) (vn vt vx vi : Value) (h : HasR w vn vt vx vi a) => implRrOk_has h)
 have HB := hide (fun (w : World) (vn vt vx vi : Value) (h : HasR w vn vt vx vi b) => implRrOk_has h)
 cases hA : rrOk a with
 | false =>
  rw [hA] at HA
  clear hno hA
  go_enter Tryz.func99, Tryz.ntmps99
  go_wp2_with fail
  generalize (w.alloc (.cells #[.slice na a.name.length nc, .int .i64 a.type, .int .i64 a.ttl, .int .i64 a.addr, .slice ta a.to.length tc, .slice xa a.text.length xc, .slice ia a.nums.length ic] 59)).alloc (.cells #[.slice na' b.name.length nc', .int .i64 b.type, .int .i64 b.ttl, .int .i64 b.addr, .slice ta' b.to.length tc', .slice xa' b.text.length xc', .slice ia' b.nums.length ic'] 59) = W at *
  refine (unhide HA _ _ _ _ _ (unhide H0)).mono ?_
  rintro e w1 ⟨rfl, b1⟩
  go_wp2_with fail
  go_ret
  exact ⟨rfl, below_next b0 b1⟩
 | true =>
  have hB : rrOk b = false := by
   rcases hno with hno | hno
   ·rw [hA] at hno; cases hno
   ·exact hno
  rw [hA] at HA
  rw [hB] at HB
  clear hno hA hB
  go_enter Tryz.func99, Tryz.ntmps99
  go_wp2_with fail
  generalize (w.alloc (.cells #[.slice na a.name.length nc, .int .i64 a.type, .int .i64 a.ttl, .int .i64 a.addr, .slice ta a.to.length tc, .slice xa a.text.length xc, .slice ia a.nums.length ic] 59)).alloc (.cells #[.slice na' b.name.length nc', .int .i64 b.type, .int .i64 b.ttl, .int .i64 b.addr, .slice ta' b.to.length tc', .slice xa' b.text.length xc', .slice ia' b.nums.length ic'] 59) = W at *
  refine (unhide HA _ _ _ _ _ (unhide H0)).mono ?_
  rintro e w1 ⟨rfl, b1⟩
  have bb1 := below_next b0 b1
  have K1 := hide (block_kept b1 (unhide K0))
  have X1 := hide (block_kept b1 (unhide X0))
  have H1 := hide ((unhide H0).below b1)
  have J1 := hide ((unhide J0).below b1)
  clear K0 X0 H0 J0 b1
  obtain ⟨d0, d1, d2, d3, d4, d5, d6⟩ := cells7 (unhide K1)
  obtain ⟨f0, f1, f2, f3, f4, f5, f6⟩ := cells7 (unhide X1)
  go_wp2_with fail
  refine (unhide HB _ _ _ _ _ (unhide J1)).mono ?_
  rintro e w2 ⟨rfl, b2⟩
  go_wp2_with fail
  go_ret
  exact ⟨rfl, below_next bb1 b2⟩

theorem implRrCmp_has {vn vt vx vi un ut ux ui : Value} {a b : Rec} {w : World} (h : HasR w vn vt vx vi a) (h' : HasR w un ut ux ui b) :
  Calls Tryz.prog 99 #[.agg #[vn, .int .i64 a.type, .int .i64 a.ttl, .int .i64 a.addr, vt, vx, vi], .agg #[un, .int .i64 b.type, .int .i64 b.ttl, .int .i64 b.addr, ut, ux, ui]] w fun e w' => e = .returned (.int .i64 (rrCmp a b)) ∧ Below w.heap.size w w' := by
 unfold rrCmp
 by_cases hab : rrOk a = true ∧ rrOk b = true
 ·rw [if_pos hab]
  obtain ⟨ha, hb⟩ := hab
  by_cases hne : cmpN a.name b.name ≠ 0 ∨ byLength a.type b.type ≠ 0
  ·exact rrCmp_apart h h' ha hb hne
  ·have hn0 : cmpN a.name b.name = 0 := by omega
   have ht0 : a.type = b.type := byLength_zero (by omega)
   have e : cmpR a b = cmpB (dataB a) (dataB b) := by
    unfold cmpR
    rw [if_neg (by omega), if_neg (by omega)]
   rw [e]
   have hc : nameCmp a.name b.name = 0 := by unfold nameCmp; rw [if_pos ⟨(rrOk_parts ha).1, (rrOk_parts hb).1⟩]; exact hn0
   clear hne e hn0
   obtain ⟨_, ht, _, _, hd⟩ := rrOk_parts ha
   obtain ⟨_, ht', _, _, hd'⟩ := rrOk_parts hb
   obtain ⟨na, nc, rfl, _⟩ := h.name.form
   obtain ⟨ta, tc, rfl, _⟩ := h.to.form
   obtain ⟨xa, xc, rfl, _⟩ := h.text.form
   obtain ⟨ia, ic, rfl, _⟩ := h.nums.form
   obtain ⟨na', nc', rfl, _⟩ := h'.name.form
   obtain ⟨ta', tc', rfl, _⟩ := h'.to.form
   obtain ⟨xa', xc', rfl, _⟩ := h'.text.form
   obtain ⟨ia', ic', rfl, _⟩ := h'.nums.form
   rcases data_kinds ht hd with ⟨e, h0, h1, eb⟩ | ⟨e, hn, eb⟩ | ⟨e, hn, x, y, exy, _, _, _, _, eb⟩ | ⟨e, hx, eb⟩
   ·rcases data_kinds ht' hd' with ⟨e', _, _, eb'⟩ | ⟨e', _⟩ | ⟨e', _⟩ | ⟨e', _⟩
    ·rw [eb, eb']
     obtain ⟨nm, ty, tt, ad, to, tx, nu⟩ := a
     obtain ⟨nm', ty', tt', ad', to', tx', nu'⟩ := b
     simp only at *
     subst e e'
     exact rrCmpData_A h h' ha hb hc (fun w1 _ => addrPut_any ad w1) (fun w1 _ => addrPut_any ad' w1)
    all_goals omega
   ·rcases data_kinds ht' hd' with ⟨e', _⟩ | ⟨e', hn', eb'⟩ | ⟨e', _⟩ | ⟨e', _⟩
    ·omega
    ·rw [eb, eb']
     obtain ⟨nm, ty, tt, ad, to, tx, nu⟩ := a
     obtain ⟨nm', ty', tt', ad', to', tx', nu'⟩ := b
     simp only at *
     subst ht0
     exact rrCmpData_N (kindV_N e) ht h h' ha hb hc (fun w1 hb1 => namePutM_has (h.to.below hb1) hn) (fun w1 hb1 => namePutM_has (h'.to.below hb1) hn')
    all_goals omega
   ·rcases data_kinds ht' hd' with ⟨e', _⟩ | ⟨e', _⟩ | ⟨e', hn', x', y', exy', _, _, _, _, eb'⟩ | ⟨e', _⟩
    ·omega
    ·omega
    ·rw [eb, eb']
     obtain ⟨nm, ty, tt, ad, to, tx, nu⟩ := a
     obtain ⟨nm', ty', tt', ad', to', tx', nu'⟩ := b
     simp only at *
     subst e e' exy exy'
     exact rrCmpData_S h h' ha hb hc (fun w1 hb1 => soaPut_has (h.to.below hb1) (h.nums.below hb1) hn) (fun w1 hb1 => soaPut_has (h'.to.below hb1) (h'.nums.below hb1) hn')
    ·omega
   ·rcases data_kinds ht' hd' with ⟨e', _⟩ | ⟨e', _⟩ | ⟨e', _⟩ | ⟨e', hx', eb'⟩
    ·omega
    ·omega
    ·omega
    ·rw [eb, eb']
     obtain ⟨nm, ty, tt, ad, to, tx, nu⟩ := a
     obtain ⟨nm', ty', tt', ad', to', tx', nu'⟩ := b
     simp only at *
     subst ht0
     exact rrCmpData_X (kindV_X e) ht h h' ha hb hc (fun w1 hb1 => textPut_has (h.text.below hb1) hx) (fun w1 hb1 => textPut_has (h'.text.below hb1) hx')
 ·rw [if_neg hab]
  refine rrCmp_bad h h' ?_
  cases hA : rrOk a with
  | false => exact .inl rfl
  | true =>
   cases hB : rrOk b with
   | false => exact .inr rfl
   | true => exact absurd ⟨hA, hB⟩ hab
end Go.Proofs.YtfgcmjpkgdjcfaaGreat

namespace Go.Proofs.YtfgcmjpkgdjcfaaGreat
open Go.RowKit
set_option linter.unusedVariables false

set_option maxHeartbeats 2000000 in
set_option maxRecDepth 100000 in
theorem implUnder_has {v v' : Value} {n n' : List (List Int)} {w : World} (h : HasL w v n) (h' : HasL w v' n') :
  Calls Tryz.prog 97 #[.agg #[v], .agg #[v']] w fun e w' => e = .returned (.bool (under n n')) ∧ Below w.heap.size w w' := by
 obtain ⟨a, cap, rfl, hcl, hcm⟩ := h.form
 obtain ⟨a', cap', rfl, _⟩ := h'.form
 unfold maxLen at hcm
 have b1 := below_alloc (w := w) (.cells #[.slice a n.length cap] 30)
 have k1 := heap_alloc_new w (.cells #[.slice a n.length cap] 30)
 have e1 : (w.alloc (.cells #[.slice a n.length cap] 30)).heap.size = w.heap.size + 1 := by show (w.heap.push _).size = _; simp
 have b2 := below_alloc (w := w.alloc (.cells #[.slice a n.length cap] 30)) (.cells #[.slice a' n'.length cap'] 30)
 have x2 := heap_alloc_new (w.alloc (.cells #[.slice a n.length cap] 30)) (.cells #[.slice a' n'.length cap'] 30)
 have k2 := block_kept b2 k1
 rw [e1] at x2
 have bb2 := below_next b1 b2
 have h2 := hide (h.below bb2)
 have h2' := hide (h'.below bb2)
 clear h h' b1 b2 k1 e1
 unfold under
 cases hok : nameOk n with
 | false =>
  rw [Bool.false_and]
  have HOK := hide hok
  clear hok
  go_enter Tryz.func97, Tryz.ntmps97
  go_wp2_with fail
  generalize (w.alloc (.cells #[.slice a n.length cap] 30)).alloc (.cells #[.slice a' n'.length cap'] 30) = W at *
  refine (implNameOk_has (unhide h2)).mono ?_
  rw [unhide HOK]
  rintro e w3 ⟨rfl, b3⟩
  go_wp2_with fail
  go_ret
  exact ⟨rfl, below_next bb2 b3⟩
 | true =>
  cases hok' : nameOk n' with
  | false =>
   rw [Bool.true_and, Bool.false_and]
   have HOK := hide hok
   have HOK' := hide hok'
   clear hok hok'
   go_enter Tryz.func97, Tryz.ntmps97
   go_wp2_with fail
   generalize (w.alloc (.cells #[.slice a n.length cap] 30)).alloc (.cells #[.slice a' n'.length cap'] 30) = W at *
   refine (implNameOk_has (unhide h2)).mono ?_
   rw [unhide HOK]
   rintro e w3 ⟨rfl, b3⟩
   have x3 := block_one (block_kept b3 x2)
   go_wp2_with fail
   refine (implNameOk_has ((unhide h2').below b3)).mono ?_
   rw [unhide HOK']
   rintro e w4 ⟨rfl, b4⟩
   go_wp2_with fail
   go_ret
   exact ⟨rfl, below_next bb2 (below_next b3 b4)⟩
  | true =>
   rw [Bool.true_and, Bool.true_and]
   have hs := (nameOk_parts hok).1
   have hs' := (nameOk_parts hok').1
   have hno := hide (fun (hlt : n.length < n'.length) => endsWith_no hlt)
   have hyes := hide (fun (hle : n'.length ≤ n.length) => (show endsWith n n' = (nameCmp (n.drop (n.length - n'.length)) n' == 0) by
    rw [endsWith_yes hle]; unfold nameCmp; rw [if_pos ⟨nameOk_drop hok _, hok'⟩]))
   have HOK := hide hok
   have HOK' := hide hok'
   clear hok hok'
   generalize endsWith n n' = R at *
   have hdrop := hide (fun (W : World) (hW : HasL W (.slice a n.length cap) n) (k : Nat) (hk : k ≤ n.length) => HasL.drop hW rfl hk)
   go_enter Tryz.func97, Tryz.ntmps97
   go_wp2_with fail
   generalize (w.alloc (.cells #[.slice a n.length cap] 30)).alloc (.cells #[.slice a' n'.length cap'] 30) = W0 at *
   refine (implNameOk_has (unhide h2)).mono ?_
   rw [unhide HOK]
   rintro e w3 ⟨rfl, b3⟩
   have x3 := block_one (block_kept b3 x2)
   go_wp2_with fail
   refine (implNameOk_has ((unhide h2').below b3)).mono ?_
   rw [unhide HOK']
   rintro e W ⟨rfl, b4⟩
   have b4 := below_next b3 b4
   have cx := block_one (block_kept b4 x2)
   have ck := block_one (block_kept b4 k2)
   have h4 := hide ((unhide h2).below b4)
   have h4' := hide ((unhide h2').below b4)
   have bb4 := below_next bb2 b4
   clear x3 x2 k2 h2 h2' b3 b4 bb2 HOK HOK'
   by_cases hle : n'.length ≤ n.length
   ·have hr := unhide hyes hle
    have hd := unhide hdrop W (unhide h4) (n.length - n'.length) (by omega)
    clear hyes hno hdrop
    generalize hj : n.length - n'.length = j at *
    have hlen : (n.drop j).length = n.length - j := by simp
    generalize n.drop j = nd at *
    have i0 : ¬ (n.length : Int) < n'.length := by omega
    have s1 : (n.length : Int) - n'.length = j := by omega
    have wj : IntKind.i64.wrap (j : Int) = j := wrap_small j (by omega)
    have jl : j ≤ n.length := by omega
    have jc : j ≤ cap := by omega
    rcases hd with ⟨ha, hm0, hc0⟩ | ⟨g, off, ha, hd⟩
    ·have hz' : n'.length = 0 := by omega
     have hz : j = 0 := by omega
     obtain rfl : nd = [] := List.eq_nil_of_length_eq_zero (by omega)
     obtain rfl : n' = [] := List.eq_nil_of_length_eq_zero hz'
     obtain rfl : n = [] := List.eq_nil_of_length_eq_zero hm0
     subst ha hc0 hz
     clear hj hlen i0 s1 wj jl jc hz' hm0 hle hs hs' hcl
     simp only [List.length_nil] at *
     have HD := hide (show HasL W (.slice none 0 0) [] from .inl ⟨rfl, rfl⟩)
     go_wp2_with fail
     refine (implNameCmp_has (unhide HD) (unhide h4')).mono ?_
     generalize nameCmp [] [] = c at *
     subst hr
     rintro e w5 ⟨rfl, b5⟩
     go_wp2_with fail
     go_ret
     exact ⟨rfl, below_next bb4 b5⟩
    ·subst ha
     by_cases hcj : cap = j
     ·have e2 : j = n.length := by omega
      have e1 : cap = n.length := by omega
      obtain rfl : n' = [] := List.eq_nil_of_length_eq_zero (by omega)
      obtain rfl : nd = [] := List.eq_nil_of_length_eq_zero (by omega)
      rw [if_pos hcj, e1, e2, Nat.sub_self] at hd
      have HD := hide hd
      subst e1 e2
      clear hd hj hlen hcj hle hs' jl jc s1 i0 hcl
      simp only [List.length_nil] at *
      generalize hn : n.length = m at *
      go_wp2_with fail
      refine (implNameCmp_has (unhide HD) (unhide h4')).mono ?_
      generalize nameCmp [] [] = c at *
      subst hr
      rintro e w5 ⟨rfl, b5⟩
      go_wp2_with fail
      go_ret
      exact ⟨rfl, below_next bb4 b5⟩
     ·rw [if_neg hcj] at hd
      have HD := hide hd
      clear hd
      generalize hn : n.length = m at *
      generalize hn' : n'.length = m' at *
      go_wp2_with fail
      refine (implNameCmp_has (unhide HD) (unhide h4')).mono ?_
      generalize nameCmp nd n' = c at *
      subst hr
      rintro e w5 ⟨rfl, b5⟩
      go_wp2_with fail
      go_ret
      exact ⟨rfl, below_next bb4 b5⟩
   ·have hr := unhide hno (by omega)
    subst hr
    have i0 : (n.length : Int) < n'.length := by omega
    go_wp2_with fail
    go_ret
    exact ⟨rfl, bb4⟩
end Go.Proofs.YtfgcmjpkgdjcfaaGreat

namespace Go.Proofs.YtfgcmjpkgdjcfaaGreat
open Go.RowKit
set_option linter.unusedVariables false

set_option maxHeartbeats 1000000 in
set_option maxRecDepth 100000 in
theorem mayBeIn_has {vo vn vt vx vi : Value} {o : List (List Int)} {r : Rec} {w : World} (ho : HasL w vo o) (h : HasR w vn vt vx vi r) :
  Calls Tryz.prog 65 #[.agg #[vo], .agg #[vn, .int .i64 r.type, .int .i64 r.ttl, .int .i64 r.addr, vt, vx, vi]] w fun e w' => e = .returned (.bool (inZone o r)) ∧ Below w.heap.size w w' := by
 obtain ⟨oa, oc, rfl, _⟩ := ho.form
 obtain ⟨na, nc, rfl, _⟩ := h.name.form
 obtain ⟨ta, tc, rfl, _⟩ := h.to.form
 obtain ⟨xa, xc, rfl, _⟩ := h.text.form
 obtain ⟨ia, ic, rfl, _⟩ := h.nums.form
 have b0 := below2 w (.cells #[.slice oa o.length oc] 30) (.cells #[.slice na r.name.length nc, .int .i64 r.type, .int .i64 r.ttl, .int .i64 r.addr, .slice ta r.to.length tc, .slice xa r.text.length xc, .slice ia r.nums.length ic] 59)
 obtain ⟨hsz, k0, x0⟩ := box2 w (.cells #[.slice oa o.length oc] 30) #[.slice na r.name.length nc, .int .i64 r.type, .int .i64 r.ttl, .int .i64 r.addr, .slice ta r.to.length tc, .slice xa r.text.length xc, .slice ia r.nums.length ic] 59
 have H0 := hide (h.below b0)
 have O0 := hide (ho.below b0)
 have K0 := hide k0
 have X0 := hide x0
 have HR := implRrOk_has (h.below b0)
 have UN := fun (w : World) (h1 : HasL w (.slice na r.name.length nc) r.name) (h2 : HasL w (.slice oa o.length oc) o) => implUnder_has h1 h2
 have NC := fun (w : World) (h1 : HasL w (.slice na r.name.length nc) r.name) (h2 : HasL w (.slice oa o.length oc) o) => implNameCmp_has h1 h2
 unfold inZone
 generalize rrOk r = ok at *
 generalize under r.name o = und at *
 generalize nameCmp r.name o = c at *
 replace HR := hide HR
 replace UN := hide UN
 replace NC := hide NC
 clear h ho k0 x0 hsz
 cases ok with
 | false =>
  rw [Bool.false_and]
  go_enter Tryz.func65, Tryz.ntmps65
  go_wp2_with fail
  refine (unhide HR).mono ?_
  rintro e w1 ⟨rfl, b1⟩
  go_wp2_with fail
  go_ret
  exact ⟨rfl, below_next b0 b1⟩
 | true =>
  rw [Bool.true_and]
  generalize hRes : (und && (decide (r.type ≠ 6) || decide (c = 0))) = Res
  have HRES := hide hRes
  clear hRes
  go_enter Tryz.func65, Tryz.ntmps65
  go_wp2_with fail
  generalize (w.alloc (.cells #[.slice oa o.length oc] 30)).alloc (.cells #[.slice na r.name.length nc, .int .i64 r.type, .int .i64 r.ttl, .int .i64 r.addr, .slice ta r.to.length tc, .slice xa r.text.length xc, .slice ia r.nums.length ic] 59) = W at *
  refine (unhide HR).mono ?_
  rintro e w1 ⟨rfl, b1⟩
  have O1 := hide ((unhide O0).below b1)
  have H1 := hide ((unhide H0).below b1)
  have K1 := hide (block_kept b1 (unhide K0))
  have X1 := hide (block_kept b1 (unhide X0))
  have bb1 := below_next b0 b1
  obtain ⟨d0, d1, d2, d3, d4, d5, d6⟩ := cells7 (unhide X1)
  have c0 := block_one (unhide K1)
  clear HR O0 H0 K0 X0 b0 b1
  go_wp2_with fail
  clear d0 d1 d2 d3 d4 d5 d6 c0
  refine (unhide UN _ (unhide H1).name (unhide O1)).mono ?_
  rintro e w2 ⟨rfl, b2⟩
  have bb2 := below_next bb1 b2
  cases und with
  | false =>
   have hRes := unhide HRES
   rw [Bool.false_and] at hRes
   subst hRes
   clear HRES
   go_wp2_with fail
   go_ret
   exact ⟨rfl, bb2⟩
  | true =>
   have hRes := unhide HRES
   rw [Bool.true_and] at hRes
   have K2 := hide (block_kept b2 (unhide K1))
   have X2 := hide (block_kept b2 (unhide X1))
   have O2 := hide ((unhide O1).below b2)
   have H2 := hide ((unhide H1).below b2)
   obtain ⟨d0, d1, d2, d3, d4, d5, d6⟩ := cells7 (unhide X2)
   have c0 := block_one (unhide K2)
   clear HRES O1 H1 K1 X1 bb1 b2
   by_cases h6 : r.type = 6
   ·rw [decide_eq_false (by omega), Bool.false_or] at hRes
    have e6 : (r.type != 6) = false := by rw [h6]; rfl
    have HRES := hide hRes
    clear hRes h6
    go_wp2_with fail
    clear d0 d1 d2 d3 d4 d5 d6 c0
    refine (unhide NC _ (unhide H2).name (unhide O2)).mono ?_
    rintro e w3 ⟨rfl, b3⟩
    have hRes := unhide HRES
    have ec : (c == 0) = Res := by rw [← hRes, Bool.eq_iff_iff, beq_iff_eq, decide_eq_true_iff]
    clear hRes HRES
    go_wp2_with fail
    go_ret
    exact ⟨rfl, below_next bb2 b3⟩
   ·rw [decide_eq_true (show r.type ≠ 6 from h6), Bool.true_or] at hRes
    subst hRes
    have e6 : (r.type != 6) = true := by rw [bne_iff_ne]; exact h6
    clear h6
    go_wp2_with fail
    go_ret
    exact ⟨rfl, bb2⟩

set_option maxHeartbeats 1000000 in
set_option maxRecDepth 100000 in
theorem mayFollow_has {vn vt vx vi un ut ux ui : Value} {a b : Rec} {w : World} (h : HasR w vn vt vx vi a) (h' : HasR w un ut ux ui b) :
  Calls Tryz.prog 66 #[.agg #[vn, .int .i64 a.type, .int .i64 a.ttl, .int .i64 a.addr, vt, vx, vi], .agg #[un, .int .i64 b.type, .int .i64 b.ttl, .int .i64 b.addr, ut, ux, ui]] w fun e w' => e = .returned (.bool (follows a b)) ∧ Below w.heap.size w w' := by
 obtain ⟨na, nc, rfl, _⟩ := h.name.form
 obtain ⟨ta, tc, rfl, _⟩ := h.to.form
 obtain ⟨xa, xc, rfl, _⟩ := h.text.form
 obtain ⟨ia, ic, rfl, _⟩ := h.nums.form
 obtain ⟨na', nc', rfl, _⟩ := h'.name.form
 obtain ⟨ta', tc', rfl, _⟩ := h'.to.form
 obtain ⟨xa', xc', rfl, _⟩ := h'.text.form
 obtain ⟨ia', ic', rfl, _⟩ := h'.nums.form
 have b0 := below2 w (.cells #[.slice na a.name.length nc, .int .i64 a.type, .int .i64 a.ttl, .int .i64 a.addr, .slice ta a.to.length tc, .slice xa a.text.length xc, .slice ia a.nums.length ic] 59) (.cells #[.slice na' b.name.length nc', .int .i64 b.type, .int .i64 b.ttl, .int .i64 b.addr, .slice ta' b.to.length tc', .slice xa' b.text.length xc', .slice ia' b.nums.length ic'] 59)
 obtain ⟨hsz, k0, x0⟩ := box2 w (.cells #[.slice na a.name.length nc, .int .i64 a.type, .int .i64 a.ttl, .int .i64 a.addr, .slice ta a.to.length tc, .slice xa a.text.length xc, .slice ia a.nums.length ic] 59) #[.slice na' b.name.length nc', .int .i64 b.type, .int .i64 b.ttl, .int .i64 b.addr, .slice ta' b.to.length tc', .slice xa' b.text.length xc', .slice ia' b.nums.length ic'] 59
 have H0 := hide (h.below b0)
 have J0 := hide (h'.below b0)
 have K0 := hide k0
 have X0 := hide x0
 have CM := implRrCmp_has (h.below b0) (h'.below b0)
 have NC := fun (w : World) (h1 : HasL w (.slice na a.name.length nc) a.name) (h2 : HasL w (.slice na' b.name.length nc') b.name) => implNameCmp_has h1 h2
 unfold follows
 generalize rrCmp a b = c at *
 generalize nameCmp a.name b.name = d at *
 replace CM := hide CM
 replace NC := hide NC
 clear h h' k0 x0 hsz
 generalize hRes : (decide (c < 0) && ((decide (a.type ≠ 5) && decide (b.type ≠ 5)) || decide (d ≠ 0))) = Res
 have HRES := hide hRes
 clear hRes
 go_enter Tryz.func66, Tryz.ntmps66
 go_wp2_with fail
 generalize (w.alloc (.cells #[.slice na a.name.length nc, .int .i64 a.type, .int .i64 a.ttl, .int .i64 a.addr, .slice ta a.to.length tc, .slice xa a.text.length xc, .slice ia a.nums.length ic] 59)).alloc (.cells #[.slice na' b.name.length nc', .int .i64 b.type, .int .i64 b.ttl, .int .i64 b.addr, .slice ta' b.to.length tc', .slice xa' b.text.length xc', .slice ia' b.nums.length ic'] 59) = W at *
 refine (unhide CM).mono ?_
 rintro e w1 ⟨rfl, b1⟩
 have H1 := hide ((unhide H0).below b1)
 have J1 := hide ((unhide J0).below b1)
 have K1 := hide (block_kept b1 (unhide K0))
 have X1 := hide (block_kept b1 (unhide X0))
 have bb1 := below_next b0 b1
 clear CM H0 J0 K0 X0 b0 b1
 by_cases hc : c < 0
 ·have hRes := unhide HRES
  rw [decide_eq_true hc, Bool.true_and] at hRes
  have hc' : ¬ (0 ≤ c) := by omega
  obtain ⟨d0, d1, d2, d3, d4, d5, d6⟩ := cells7 (unhide K1)
  obtain ⟨f0, f1, f2, f3, f4, f5, f6⟩ := cells7 (unhide X1)
  clear HRES hc
  by_cases h5 : a.type ≠ 5 ∧ b.type ≠ 5
  ·rw [decide_eq_true h5.1, decide_eq_true h5.2, Bool.true_and, Bool.true_or] at hRes
   subst hRes
   have e5 : (a.type != 5) = true := by rw [bne_iff_ne]; exact h5.1
   have e5' : (b.type != 5) = true := by rw [bne_iff_ne]; exact h5.2
   clear h5
   go_wp2_with fail
   go_ret
   exact ⟨rfl, bb1⟩
  ·have hf : (decide (a.type ≠ 5) && decide (b.type ≠ 5)) = false := by
    rw [Bool.and_eq_false_iff, decide_eq_false_iff_not, decide_eq_false_iff_not]
    omega
   rw [hf, Bool.false_or] at hRes
   have ed : (d != 0) = Res := by rw [← hRes, Bool.eq_iff_iff, bne_iff_ne, decide_eq_true_iff]
   have HED := hide ed
   clear hRes hf ed
   by_cases h6 : a.type = 5
   ·have e5 : (a.type != 5) = false := by rw [h6]; rfl
    clear h5 h6
    go_wp2_with fail
    clear d0 d1 d2 d3 d4 d5 d6 f0 f1 f2 f3 f4 f5 f6
    refine (unhide NC _ (unhide H1).name (unhide J1).name).mono ?_
    rintro e w2 ⟨rfl, b2⟩
    have ed := unhide HED
    clear HED
    go_wp2_with fail
    go_ret
    exact ⟨rfl, below_next bb1 b2⟩
   ·have e5 : (a.type != 5) = true := by rw [bne_iff_ne]; exact h6
    have h7 : b.type = 5 := by omega
    have e5' : (b.type != 5) = false := by rw [h7]; rfl
    clear h5 h6 h7
    go_wp2_with fail
    clear d0 d1 d2 d3 d4 d5 d6 f0 f1 f2 f3 f4 f5 f6
    refine (unhide NC _ (unhide H1).name (unhide J1).name).mono ?_
    rintro e w2 ⟨rfl, b2⟩
    have ed := unhide HED
    clear HED
    go_wp2_with fail
    go_ret
    exact ⟨rfl, below_next bb1 b2⟩
 ·have hRes := unhide HRES
  rw [decide_eq_false hc, Bool.false_and] at hRes
  subst hRes
  have hc' : 0 ≤ c := by omega
  clear HRES hc
  go_wp2_with fail
  go_ret
  exact ⟨rfl, bb1⟩
end Go.Proofs.YtfgcmjpkgdjcfaaGreat
