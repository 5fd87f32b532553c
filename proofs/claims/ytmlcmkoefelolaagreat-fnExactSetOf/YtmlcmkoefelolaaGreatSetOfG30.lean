/-
  Contracts of the program's RrCmp, kind by kind, and of its RrSame. A region that draws its order, one way through it: what only looks is taken in the order of its number, whether its guard wants it or not. Contract of the program's dataKey: a record's type and data as a text that ascends as RrCmp does.
-/
import Derived.Test.YtmlcmkoefelolaaGreatSetOfG15
import Derived.Test.YtmlcmkoefelolaaGreatSetOfG29
import Derived.Test.YtmlcmkoefelolaaGreatSetOfG06
import Derived.Deep.RegionHeld3
import Derived.Deep.RegionWith
import Derived.Test.YtmlcmkoefelolaaGreatSetOfG26
import Derived.Test.YtmlcmkoefelolaaGreatSetOfG04
import Derived.Test.YtmlcmkoefelolaaGreatSetOfG27
import Derived.Test.YtmlcmkoefelolaaGreatSetOfG23
import Derived.Test.YtmlcmkoefelolaaGreatSetOfG08
import Derived.Test.YtmlcmkoefelolaaGreatSetOfG19
namespace Go.Proofs.YtmlcmkoefelolaaGreat
open Go.RowKit
set_option linter.unusedVariables false

set_option maxHeartbeats 2000000 in
set_option maxRecDepth 100000 in
theorem rrCmpData_A {na : Option Addr} {nc : Nat} {ta : Option Addr} {tc : Nat} {xa : Option Addr} {xc : Nat} {ia : Option Addr} {ic : Nat} {nm to : List (List Int)} {tx nu : List Int} {tt ad : Int} {na' : Option Addr} {nc' : Nat} {ta' : Option Addr} {tc' : Nat} {xa' : Option Addr} {xc' : Nat} {ia' : Option Addr} {ic' : Nat} {nm' to' : List (List Int)} {tx' nu' : List Int} {tt' ad' : Int} {w : World} {DA DB : List Int} (h : HasR w (.slice na nm.length nc) (.slice ta to.length tc) (.slice xa tx.length xc) (.slice ia nu.length ic) ⟨nm, 1, tt, ad, to, tx, nu⟩) (h' : HasR w (.slice na' nm'.length nc') (.slice ta' to'.length tc') (.slice xa' tx'.length xc') (.slice ia' nu'.length ic') ⟨nm', 1, tt', ad', to', tx', nu'⟩) (ha : rrOk ⟨nm, 1, tt, ad, to, tx, nu⟩ = true) (hb : rrOk ⟨nm', 1, tt', ad', to', tx', nu'⟩ = true) (hc : nameCmp nm nm' = 0)
  (PA : ∀ w1, Below w.heap.size w w1 → Calls Tryz.prog 209 #[.agg #[.int .i64 ad]] w1 fun e w' => ∃ v', e = .returned v' ∧ Own w1.heap.size 5 w' v' DA ∧ Below w1.heap.size w1 w') (PB : ∀ w1, Below w.heap.size w w1 → Calls Tryz.prog 209 #[.agg #[.int .i64 ad']] w1 fun e w' => ∃ v', e = .returned v' ∧ Own w1.heap.size 5 w' v' DB ∧ Below w1.heap.size w1 w') :
  Calls Tryz.prog 128 #[.agg #[.slice na nm.length nc, .int .i64 1, .int .i64 tt, .int .i64 ad, .slice ta to.length tc, .slice xa tx.length xc, .slice ia nu.length ic], .agg #[.slice na' nm'.length nc', .int .i64 1, .int .i64 tt', .int .i64 ad', .slice ta' to'.length tc', .slice xa' tx'.length xc', .slice ia' nu'.length ic']] w fun e w' => e = .returned (.int .i64 (cmpB DA DB)) ∧ Below w.heap.size w w' := by
 have b0 := below2 w (.cells #[.slice na nm.length nc, .int .i64 1, .int .i64 tt, .int .i64 ad, .slice ta to.length tc, .slice xa tx.length xc, .slice ia nu.length ic] 52) (.cells #[.slice na' nm'.length nc', .int .i64 1, .int .i64 tt', .int .i64 ad', .slice ta' to'.length tc', .slice xa' tx'.length xc', .slice ia' nu'.length ic'] 52)
 obtain ⟨hsz, k0, x0⟩ := box2 w (.cells #[.slice na nm.length nc, .int .i64 1, .int .i64 tt, .int .i64 ad, .slice ta to.length tc, .slice xa tx.length xc, .slice ia nu.length ic] 52) #[.slice na' nm'.length nc', .int .i64 1, .int .i64 tt', .int .i64 ad', .slice ta' to'.length tc', .slice xa' tx'.length xc', .slice ia' nu'.length ic'] 52
 have K0 := hide k0
 have X0 := hide x0
 have H0 := hide (h.below b0)
 have J0 := hide (h'.below b0)
 have HA := hide (fun (w : World) (h : HasR w (.slice na nm.length nc) (.slice ta to.length tc) (.slice xa tx.length xc) (.slice ia nu.length ic) ⟨nm, 1, tt, ad, to, tx, nu⟩) => (show Calls Tryz.prog 67 #[.agg #[.slice na nm.length nc, .int .i64 1, .int .i64 tt, .int .i64 ad, .slice ta to.length tc, .slice xa tx.length xc, .slice ia nu.length ic]] w fun e w' => e = .returned (.bool true) ∧ Below w.heap.size w w' by have q := implRrOk_has h; rw [ha] at q; exact q))
 have HB := hide (fun (w : World) (h : HasR w (.slice na' nm'.length nc') (.slice ta' to'.length tc') (.slice xa' tx'.length xc') (.slice ia' nu'.length ic') ⟨nm', 1, tt', ad', to', tx', nu'⟩) => (show Calls Tryz.prog 67 #[.agg #[.slice na' nm'.length nc', .int .i64 1, .int .i64 tt', .int .i64 ad', .slice ta' to'.length tc', .slice xa' tx'.length xc', .slice ia' nu'.length ic']] w fun e w' => e = .returned (.bool true) ∧ Below w.heap.size w w' by have q := implRrOk_has h; rw [hb] at q; exact q))
 have HC := hide (fun (w : World) (v v' : Value) (h : HasL w v nm) (h' : HasL w v' nm') => (show Calls Tryz.prog 127 #[.agg #[v], .agg #[v']] w fun e w' => e = .returned (.int .i64 0) ∧ Below w.heap.size w w' by have q := implNameCmp_has h h'; rw [hc] at q; exact q))
 have HL := hide (show ∀ w : World, Calls Tryz.prog 154 #[.int .i64 1, .int .i64 1] w fun e w' => e = .returned (.int .i64 0) ∧ w = w' from fun w => by have q := cmpCompare_int 1 1 w; unfold byLength at q; rw [if_neg (by omega), if_neg (by omega)] at q; exact q)
 have QA := hide PA
 have QB := hide PB
 skip
 skip
 clear h h' k0 x0 ha hb hc PA PB 
 go_enter Tryz.func128, Tryz.ntmps128
 go_wp2_with fail
 generalize (w.alloc (.cells #[.slice na nm.length nc, .int .i64 1, .int .i64 tt, .int .i64 ad, .slice ta to.length tc, .slice xa tx.length xc, .slice ia nu.length ic] 52)).alloc (.cells #[.slice na' nm'.length nc', .int .i64 1, .int .i64 tt', .int .i64 ad', .slice ta' to'.length tc', .slice xa' tx'.length xc', .slice ia' nu'.length ic'] 52) = W at *
 refine (unhide HA _ (unhide H0)).mono ?_
 rintro e w1 ⟨rfl, b1⟩
 have bb1 := below_next b0 b1
 have K1 := hide (block_kept b1 (unhide K0))
 have X1 := hide (block_kept b1 (unhide X0))
 have H1 := hide ((unhide H0).below b1)
 have J1 := hide ((unhide J0).below b1)
 clear K0 X0 H0 J0 b1
 obtain ⟨d0, d1, d2, d3, d4, d5, d6⟩ := cells7 (unhide K1)
 obtain ⟨f0, f1, f2, f3, f4, f5, f6⟩ := cells7 (unhide X1)
 go_wp2_with fail
 refine (unhide HB _ (unhide J1)).mono ?_
 rintro e w2 ⟨rfl, b2⟩
 clear d0 d1 d2 d3 d4 d5 d6 f0 f1 f2 f3 f4 f5 f6
 have bb2 := below_next bb1 b2
 have K2 := hide (block_kept b2 (unhide K1))
 have X2 := hide (block_kept b2 (unhide X1))
 have H2 := hide ((unhide H1).below b2)
 have J2 := hide ((unhide J1).below b2)
 clear K1 X1 H1 J1 b2
 obtain ⟨d0, d1, d2, d3, d4, d5, d6⟩ := cells7 (unhide K2)
 obtain ⟨f0, f1, f2, f3, f4, f5, f6⟩ := cells7 (unhide X2)
 go_wp2_with fail
 refine (unhide HC _ _ _ (unhide H2).name (unhide J2).name).mono ?_
 rintro e w3 ⟨rfl, b3⟩
 clear d0 d1 d2 d3 d4 d5 d6 f0 f1 f2 f3 f4 f5 f6
 have bb3 := below_next bb2 b3
 have K3 := hide (block_kept b3 (unhide K2))
 have X3 := hide (block_kept b3 (unhide X2))
 have H3 := hide ((unhide H2).below b3)
 have J3 := hide ((unhide J2).below b3)
 clear K2 X2 H2 J2 b3
 obtain ⟨d0, d1, d2, d3, d4, d5, d6⟩ := cells7 (unhide K3)
 obtain ⟨f0, f1, f2, f3, f4, f5, f6⟩ := cells7 (unhide X3)
 go_wp2_with fail
 refine (unhide HL _).mono ?_
 rintro e w4 ⟨rfl, rfl⟩
 clear d0 d1 d2 d3 d4 d5 d6 f0 f1 f2 f3 f4 f5 f6
 have bd := below_drew (w := w3)
 have bb5 := below_next bb3 bd
 have K5 := hide (block_kept bd (unhide K3))
 have X5 := hide (block_kept bd (unhide X3))
 have H5 := hide ((unhide H3).below bd)
 have J5 := hide ((unhide J3).below bd)
 clear K3 X3 H3 J3 bd
 obtain ⟨d0, d1, d2, d3, d4, d5, d6⟩ := cells7 (unhide K5)
 obtain ⟨f0, f1, f2, f3, f4, f5, f6⟩ := cells7 (unhide X5)
 go_wp2_with fail
 clear d0 d1 d2 d3 d4 d5 d6 f0 f1 f2 f3 f4 f5 f6
 go_region_held3 (fun w' => (w'.cell? ⟨w.heap.size, 0, none⟩ = some (.slice na nm.length nc) ∧ w'.cell? ⟨w.heap.size, 1, none⟩ = some (.int .i64 1) ∧ w'.cell? ⟨w.heap.size, 2, none⟩ = some (.int .i64 tt) ∧ w'.cell? ⟨w.heap.size, 3, none⟩ = some (.int .i64 ad) ∧ w'.cell? ⟨w.heap.size, 4, none⟩ = some (.slice ta to.length tc) ∧ w'.cell? ⟨w.heap.size, 5, none⟩ = some (.slice xa tx.length xc) ∧ w'.cell? ⟨w.heap.size, 6, none⟩ = some (.slice ia nu.length ic)) ∧ (w'.cell? ⟨w.heap.size + 1, 0, none⟩ = some (.slice na' nm'.length nc') ∧ w'.cell? ⟨w.heap.size + 1, 1, none⟩ = some (.int .i64 1) ∧ w'.cell? ⟨w.heap.size + 1, 2, none⟩ = some (.int .i64 tt') ∧ w'.cell? ⟨w.heap.size + 1, 3, none⟩ = some (.int .i64 ad') ∧ w'.cell? ⟨w.heap.size + 1, 4, none⟩ = some (.slice ta' to'.length tc') ∧ w'.cell? ⟨w.heap.size + 1, 5, none⟩ = some (.slice xa' tx'.length xc') ∧ w'.cell? ⟨w.heap.size + 1, 6, none⟩ = some (.slice ia' nu'.length ic')))
  (first | exact ⟨cells7 (unhide K5), cells7 (unhide X5)⟩ | exact ⟨cells7 (block_kept b6 (unhide K5)), cells7 (block_kept b6 (unhide X5))⟩ | exact ⟨cells7 (block_kept q7 (unhide K5)), cells7 (block_kept q7 (unhide X5))⟩ | exact ⟨cells7 (block_kept q8 (unhide K5)), cells7 (block_kept q8 (unhide X5))⟩ | exact ⟨cells7 (block_kept q9 (unhide K5)), cells7 (block_kept q9 (unhide X5))⟩)
  (first
  | (go_at_call_of 103 (Value.slice na nm.length nc); refine (dataOf_A (na := na) (nc := nc) (ta := ta) (tc := tc) (xa := xa) (xc := xc) (ia := ia) (ic := ic) (nm := nm) (to := to) (tx := tx) (nu := nu) (tt := tt) (ad := ad)).mono ?_; rintro e w6 ⟨rfl, b6⟩)
  | (go_at_call_of 103 (Value.slice na' nm'.length nc'); refine (dataOf_A (na := na') (nc := nc') (ta := ta') (tc := tc') (xa := xa') (xc := xc') (ia := ia') (ic := ic') (nm := nm') (to := to') (tx := tx') (nu := nu') (tt := tt') (ad := ad')).mono ?_; rintro e w8 ⟨rfl, b8⟩; have q8 := below_next q7 b8)
  | (go_at_call_of 209 (Value.agg #[Value.int IntKind.i64 ad]); refine (unhide QA _ (below_next bb5 b6)).mono ?_; rintro e w7 ⟨v7, rfl, o7, b7⟩; have q7 := below_next b6 b7)
  | (go_at_call_of 209 (Value.agg #[Value.int IntKind.i64 ad']); refine (unhide QB _ (below_next bb5 q8)).mono ?_; rintro e w9 ⟨v9, rfl, o9, b9⟩; have q9 := below_next q8 b9)
  | (go_at_call 153; refine (bytesCompare_has (o7.below (below_next b8 b9)).has o9.has).mono ?_; rintro e w10 ⟨rfl, rfl⟩))
 go_wp2_with fail
 go_ret
 exact ⟨rfl, below_next bb5 q9⟩

set_option maxHeartbeats 2000000 in
set_option maxRecDepth 100000 in
theorem rrCmpData_N {na : Option Addr} {nc : Nat} {ta : Option Addr} {tc : Nat} {xa : Option Addr} {xc : Nat} {ia : Option Addr} {ic : Nat} {nm to : List (List Int)} {tx nu : List Int} {tt ad : Int} {na' : Option Addr} {nc' : Nat} {ta' : Option Addr} {tc' : Nat} {xa' : Option Addr} {xc' : Nat} {ia' : Option Addr} {ic' : Nat} {nm' to' : List (List Int)} {tx' nu' : List Int} {tt' ad' : Int} {w : World} {DA DB : List Int} {ty : Int} (hk : kindV ty = .iface 164 (.agg #[.slice none 0 0])) (hto : typeOk ty = true) (h : HasR w (.slice na nm.length nc) (.slice ta to.length tc) (.slice xa tx.length xc) (.slice ia nu.length ic) ⟨nm, ty, tt, ad, to, tx, nu⟩) (h' : HasR w (.slice na' nm'.length nc') (.slice ta' to'.length tc') (.slice xa' tx'.length xc') (.slice ia' nu'.length ic') ⟨nm', ty, tt', ad', to', tx', nu'⟩) (ha : rrOk ⟨nm, ty, tt, ad, to, tx, nu⟩ = true) (hb : rrOk ⟨nm', ty, tt', ad', to', tx', nu'⟩ = true) (hc : nameCmp nm nm' = 0)
  (PA : ∀ w1, Below w.heap.size w w1 → Calls Tryz.prog 214 #[.agg #[.slice ta to.length tc]] w1 fun e w' => ∃ v', e = .returned v' ∧ Own w1.heap.size 5 w' v' DA ∧ Below w1.heap.size w1 w') (PB : ∀ w1, Below w.heap.size w w1 → Calls Tryz.prog 214 #[.agg #[.slice ta' to'.length tc']] w1 fun e w' => ∃ v', e = .returned v' ∧ Own w1.heap.size 5 w' v' DB ∧ Below w1.heap.size w1 w') :
  Calls Tryz.prog 128 #[.agg #[.slice na nm.length nc, .int .i64 ty, .int .i64 tt, .int .i64 ad, .slice ta to.length tc, .slice xa tx.length xc, .slice ia nu.length ic], .agg #[.slice na' nm'.length nc', .int .i64 ty, .int .i64 tt', .int .i64 ad', .slice ta' to'.length tc', .slice xa' tx'.length xc', .slice ia' nu'.length ic']] w fun e w' => e = .returned (.int .i64 (cmpB DA DB)) ∧ Below w.heap.size w w' := by
 have b0 := below2 w (.cells #[.slice na nm.length nc, .int .i64 ty, .int .i64 tt, .int .i64 ad, .slice ta to.length tc, .slice xa tx.length xc, .slice ia nu.length ic] 52) (.cells #[.slice na' nm'.length nc', .int .i64 ty, .int .i64 tt', .int .i64 ad', .slice ta' to'.length tc', .slice xa' tx'.length xc', .slice ia' nu'.length ic'] 52)
 obtain ⟨hsz, k0, x0⟩ := box2 w (.cells #[.slice na nm.length nc, .int .i64 ty, .int .i64 tt, .int .i64 ad, .slice ta to.length tc, .slice xa tx.length xc, .slice ia nu.length ic] 52) #[.slice na' nm'.length nc', .int .i64 ty, .int .i64 tt', .int .i64 ad', .slice ta' to'.length tc', .slice xa' tx'.length xc', .slice ia' nu'.length ic'] 52
 have K0 := hide k0
 have X0 := hide x0
 have H0 := hide (h.below b0)
 have J0 := hide (h'.below b0)
 have HA := hide (fun (w : World) (h : HasR w (.slice na nm.length nc) (.slice ta to.length tc) (.slice xa tx.length xc) (.slice ia nu.length ic) ⟨nm, ty, tt, ad, to, tx, nu⟩) => (show Calls Tryz.prog 67 #[.agg #[.slice na nm.length nc, .int .i64 ty, .int .i64 tt, .int .i64 ad, .slice ta to.length tc, .slice xa tx.length xc, .slice ia nu.length ic]] w fun e w' => e = .returned (.bool true) ∧ Below w.heap.size w w' by have q := implRrOk_has h; rw [ha] at q; exact q))
 have HB := hide (fun (w : World) (h : HasR w (.slice na' nm'.length nc') (.slice ta' to'.length tc') (.slice xa' tx'.length xc') (.slice ia' nu'.length ic') ⟨nm', ty, tt', ad', to', tx', nu'⟩) => (show Calls Tryz.prog 67 #[.agg #[.slice na' nm'.length nc', .int .i64 ty, .int .i64 tt', .int .i64 ad', .slice ta' to'.length tc', .slice xa' tx'.length xc', .slice ia' nu'.length ic']] w fun e w' => e = .returned (.bool true) ∧ Below w.heap.size w w' by have q := implRrOk_has h; rw [hb] at q; exact q))
 have HC := hide (fun (w : World) (v v' : Value) (h : HasL w v nm) (h' : HasL w v' nm') => (show Calls Tryz.prog 127 #[.agg #[v], .agg #[v']] w fun e w' => e = .returned (.int .i64 0) ∧ Below w.heap.size w w' by have q := implNameCmp_has h h'; rw [hc] at q; exact q))
 have HL := hide (show ∀ w : World, Calls Tryz.prog 154 #[.int .i64 ty, .int .i64 ty] w fun e w' => e = .returned (.int .i64 0) ∧ w = w' from fun w => by have q := cmpCompare_int ty ty w; unfold byLength at q; rw [if_neg (by omega), if_neg (by omega)] at q; exact q)
 have QA := hide PA
 have QB := hide PB
 have HKK := hide hk
 have HTO := hide hto
 clear h h' k0 x0 ha hb hc PA PB hk hto
 go_enter Tryz.func128, Tryz.ntmps128
 go_wp2_with fail
 generalize (w.alloc (.cells #[.slice na nm.length nc, .int .i64 ty, .int .i64 tt, .int .i64 ad, .slice ta to.length tc, .slice xa tx.length xc, .slice ia nu.length ic] 52)).alloc (.cells #[.slice na' nm'.length nc', .int .i64 ty, .int .i64 tt', .int .i64 ad', .slice ta' to'.length tc', .slice xa' tx'.length xc', .slice ia' nu'.length ic'] 52) = W at *
 refine (unhide HA _ (unhide H0)).mono ?_
 rintro e w1 ⟨rfl, b1⟩
 have bb1 := below_next b0 b1
 have K1 := hide (block_kept b1 (unhide K0))
 have X1 := hide (block_kept b1 (unhide X0))
 have H1 := hide ((unhide H0).below b1)
 have J1 := hide ((unhide J0).below b1)
 clear K0 X0 H0 J0 b1
 obtain ⟨d0, d1, d2, d3, d4, d5, d6⟩ := cells7 (unhide K1)
 obtain ⟨f0, f1, f2, f3, f4, f5, f6⟩ := cells7 (unhide X1)
 go_wp2_with fail
 refine (unhide HB _ (unhide J1)).mono ?_
 rintro e w2 ⟨rfl, b2⟩
 clear d0 d1 d2 d3 d4 d5 d6 f0 f1 f2 f3 f4 f5 f6
 have bb2 := below_next bb1 b2
 have K2 := hide (block_kept b2 (unhide K1))
 have X2 := hide (block_kept b2 (unhide X1))
 have H2 := hide ((unhide H1).below b2)
 have J2 := hide ((unhide J1).below b2)
 clear K1 X1 H1 J1 b2
 obtain ⟨d0, d1, d2, d3, d4, d5, d6⟩ := cells7 (unhide K2)
 obtain ⟨f0, f1, f2, f3, f4, f5, f6⟩ := cells7 (unhide X2)
 go_wp2_with fail
 refine (unhide HC _ _ _ (unhide H2).name (unhide J2).name).mono ?_
 rintro e w3 ⟨rfl, b3⟩
 clear d0 d1 d2 d3 d4 d5 d6 f0 f1 f2 f3 f4 f5 f6
 have bb3 := below_next bb2 b3
 have K3 := hide (block_kept b3 (unhide K2))
 have X3 := hide (block_kept b3 (unhide X2))
 have H3 := hide ((unhide H2).below b3)
 have J3 := hide ((unhide J2).below b3)
 clear K2 X2 H2 J2 b3
 obtain ⟨d0, d1, d2, d3, d4, d5, d6⟩ := cells7 (unhide K3)
 obtain ⟨f0, f1, f2, f3, f4, f5, f6⟩ := cells7 (unhide X3)
 go_wp2_with fail
 refine (unhide HL _).mono ?_
 rintro e w4 ⟨rfl, rfl⟩
 clear d0 d1 d2 d3 d4 d5 d6 f0 f1 f2 f3 f4 f5 f6
 have bd := below_drew (w := w3)
 have bb5 := below_next bb3 bd
 have K5 := hide (block_kept bd (unhide K3))
 have X5 := hide (block_kept bd (unhide X3))
 have H5 := hide ((unhide H3).below bd)
 have J5 := hide ((unhide J3).below bd)
 clear K3 X3 H3 J3 bd
 obtain ⟨d0, d1, d2, d3, d4, d5, d6⟩ := cells7 (unhide K5)
 obtain ⟨f0, f1, f2, f3, f4, f5, f6⟩ := cells7 (unhide X5)
 go_wp2_with fail
 clear d0 d1 d2 d3 d4 d5 d6 f0 f1 f2 f3 f4 f5 f6
 go_region_held3 (fun w' => (w'.cell? ⟨w.heap.size, 0, none⟩ = some (.slice na nm.length nc) ∧ w'.cell? ⟨w.heap.size, 1, none⟩ = some (.int .i64 ty) ∧ w'.cell? ⟨w.heap.size, 2, none⟩ = some (.int .i64 tt) ∧ w'.cell? ⟨w.heap.size, 3, none⟩ = some (.int .i64 ad) ∧ w'.cell? ⟨w.heap.size, 4, none⟩ = some (.slice ta to.length tc) ∧ w'.cell? ⟨w.heap.size, 5, none⟩ = some (.slice xa tx.length xc) ∧ w'.cell? ⟨w.heap.size, 6, none⟩ = some (.slice ia nu.length ic)) ∧ (w'.cell? ⟨w.heap.size + 1, 0, none⟩ = some (.slice na' nm'.length nc') ∧ w'.cell? ⟨w.heap.size + 1, 1, none⟩ = some (.int .i64 ty) ∧ w'.cell? ⟨w.heap.size + 1, 2, none⟩ = some (.int .i64 tt') ∧ w'.cell? ⟨w.heap.size + 1, 3, none⟩ = some (.int .i64 ad') ∧ w'.cell? ⟨w.heap.size + 1, 4, none⟩ = some (.slice ta' to'.length tc') ∧ w'.cell? ⟨w.heap.size + 1, 5, none⟩ = some (.slice xa' tx'.length xc') ∧ w'.cell? ⟨w.heap.size + 1, 6, none⟩ = some (.slice ia' nu'.length ic')))
  (first | exact ⟨cells7 (unhide K5), cells7 (unhide X5)⟩ | exact ⟨cells7 (block_kept b6 (unhide K5)), cells7 (block_kept b6 (unhide X5))⟩ | exact ⟨cells7 (block_kept q7 (unhide K5)), cells7 (block_kept q7 (unhide X5))⟩ | exact ⟨cells7 (block_kept q8 (unhide K5)), cells7 (block_kept q8 (unhide X5))⟩ | exact ⟨cells7 (block_kept q9 (unhide K5)), cells7 (block_kept q9 (unhide X5))⟩)
  (first
  | (go_at_call_of 103 (Value.slice na nm.length nc); refine (dataOf_N (na := na) (nc := nc) (ta := ta) (tc := tc) (xa := xa) (xc := xc) (ia := ia) (ic := ic) (nm := nm) (to := to) (tx := tx) (nu := nu) (tt := tt) (ad := ad) (unhide HKK) (unhide HTO)).mono ?_; rintro e w6 ⟨rfl, b6⟩)
  | (go_at_call_of 103 (Value.slice na' nm'.length nc'); refine (dataOf_N (na := na') (nc := nc') (ta := ta') (tc := tc') (xa := xa') (xc := xc') (ia := ia') (ic := ic') (nm := nm') (to := to') (tx := tx') (nu := nu') (tt := tt') (ad := ad') (unhide HKK) (unhide HTO)).mono ?_; rintro e w8 ⟨rfl, b8⟩; have q8 := below_next q7 b8)
  | (go_at_call_of 214 (Value.agg #[Value.slice ta to.length tc]); refine (unhide QA _ (below_next bb5 b6)).mono ?_; rintro e w7 ⟨v7, rfl, o7, b7⟩; have q7 := below_next b6 b7)
  | (go_at_call_of 214 (Value.agg #[Value.slice ta' to'.length tc']); refine (unhide QB _ (below_next bb5 q8)).mono ?_; rintro e w9 ⟨v9, rfl, o9, b9⟩; have q9 := below_next q8 b9)
  | (go_at_call 153; refine (bytesCompare_has (o7.below (below_next b8 b9)).has o9.has).mono ?_; rintro e w10 ⟨rfl, rfl⟩))
 go_wp2_with fail
 go_ret
 exact ⟨rfl, below_next bb5 q9⟩

set_option maxHeartbeats 2000000 in
set_option maxRecDepth 100000 in
theorem rrCmpData_S {na : Option Addr} {nc : Nat} {ta : Option Addr} {tc : Nat} {xa : Option Addr} {xc : Nat} {ia : Option Addr} {ic : Nat} {nm to : List (List Int)} {tx nu : List Int} {tt ad : Int} {na' : Option Addr} {nc' : Nat} {ta' : Option Addr} {tc' : Nat} {xa' : Option Addr} {xc' : Nat} {ia' : Option Addr} {ic' : Nat} {nm' to' : List (List Int)} {tx' nu' : List Int} {tt' ad' : Int} {w : World} {DA DB : List Int} (h : HasR w (.slice na nm.length nc) (.slice ta to.length tc) (.slice xa tx.length xc) (.slice ia nu.length ic) ⟨nm, 6, tt, ad, to, tx, nu⟩) (h' : HasR w (.slice na' nm'.length nc') (.slice ta' to'.length tc') (.slice xa' tx'.length xc') (.slice ia' nu'.length ic') ⟨nm', 6, tt', ad', to', tx', nu'⟩) (ha : rrOk ⟨nm, 6, tt, ad, to, tx, nu⟩ = true) (hb : rrOk ⟨nm', 6, tt', ad', to', tx', nu'⟩ = true) (hc : nameCmp nm nm' = 0)
  (PA : ∀ w1, Below w.heap.size w w1 → Calls Tryz.prog 220 #[.agg #[.slice ta to.length tc, .slice ia nu.length ic]] w1 fun e w' => ∃ v', e = .returned v' ∧ Own w1.heap.size 5 w' v' DA ∧ Below w1.heap.size w1 w') (PB : ∀ w1, Below w.heap.size w w1 → Calls Tryz.prog 220 #[.agg #[.slice ta' to'.length tc', .slice ia' nu'.length ic']] w1 fun e w' => ∃ v', e = .returned v' ∧ Own w1.heap.size 5 w' v' DB ∧ Below w1.heap.size w1 w') :
  Calls Tryz.prog 128 #[.agg #[.slice na nm.length nc, .int .i64 6, .int .i64 tt, .int .i64 ad, .slice ta to.length tc, .slice xa tx.length xc, .slice ia nu.length ic], .agg #[.slice na' nm'.length nc', .int .i64 6, .int .i64 tt', .int .i64 ad', .slice ta' to'.length tc', .slice xa' tx'.length xc', .slice ia' nu'.length ic']] w fun e w' => e = .returned (.int .i64 (cmpB DA DB)) ∧ Below w.heap.size w w' := by
 have b0 := below2 w (.cells #[.slice na nm.length nc, .int .i64 6, .int .i64 tt, .int .i64 ad, .slice ta to.length tc, .slice xa tx.length xc, .slice ia nu.length ic] 52) (.cells #[.slice na' nm'.length nc', .int .i64 6, .int .i64 tt', .int .i64 ad', .slice ta' to'.length tc', .slice xa' tx'.length xc', .slice ia' nu'.length ic'] 52)
 obtain ⟨hsz, k0, x0⟩ := box2 w (.cells #[.slice na nm.length nc, .int .i64 6, .int .i64 tt, .int .i64 ad, .slice ta to.length tc, .slice xa tx.length xc, .slice ia nu.length ic] 52) #[.slice na' nm'.length nc', .int .i64 6, .int .i64 tt', .int .i64 ad', .slice ta' to'.length tc', .slice xa' tx'.length xc', .slice ia' nu'.length ic'] 52
 have K0 := hide k0
 have X0 := hide x0
 have H0 := hide (h.below b0)
 have J0 := hide (h'.below b0)
 have HA := hide (fun (w : World) (h : HasR w (.slice na nm.length nc) (.slice ta to.length tc) (.slice xa tx.length xc) (.slice ia nu.length ic) ⟨nm, 6, tt, ad, to, tx, nu⟩) => (show Calls Tryz.prog 67 #[.agg #[.slice na nm.length nc, .int .i64 6, .int .i64 tt, .int .i64 ad, .slice ta to.length tc, .slice xa tx.length xc, .slice ia nu.length ic]] w fun e w' => e = .returned (.bool true) ∧ Below w.heap.size w w' by have q := implRrOk_has h; rw [ha] at q; exact q))
 have HB := hide (fun (w : World) (h : HasR w (.slice na' nm'.length nc') (.slice ta' to'.length tc') (.slice xa' tx'.length xc') (.slice ia' nu'.length ic') ⟨nm', 6, tt', ad', to', tx', nu'⟩) => (show Calls Tryz.prog 67 #[.agg #[.slice na' nm'.length nc', .int .i64 6, .int .i64 tt', .int .i64 ad', .slice ta' to'.length tc', .slice xa' tx'.length xc', .slice ia' nu'.length ic']] w fun e w' => e = .returned (.bool true) ∧ Below w.heap.size w w' by have q := implRrOk_has h; rw [hb] at q; exact q))
 have HC := hide (fun (w : World) (v v' : Value) (h : HasL w v nm) (h' : HasL w v' nm') => (show Calls Tryz.prog 127 #[.agg #[v], .agg #[v']] w fun e w' => e = .returned (.int .i64 0) ∧ Below w.heap.size w w' by have q := implNameCmp_has h h'; rw [hc] at q; exact q))
 have HL := hide (show ∀ w : World, Calls Tryz.prog 154 #[.int .i64 6, .int .i64 6] w fun e w' => e = .returned (.int .i64 0) ∧ w = w' from fun w => by have q := cmpCompare_int 6 6 w; unfold byLength at q; rw [if_neg (by omega), if_neg (by omega)] at q; exact q)
 have QA := hide PA
 have QB := hide PB
 skip
 skip
 clear h h' k0 x0 ha hb hc PA PB 
 go_enter Tryz.func128, Tryz.ntmps128
 go_wp2_with fail
 generalize (w.alloc (.cells #[.slice na nm.length nc, .int .i64 6, .int .i64 tt, .int .i64 ad, .slice ta to.length tc, .slice xa tx.length xc, .slice ia nu.length ic] 52)).alloc (.cells #[.slice na' nm'.length nc', .int .i64 6, .int .i64 tt', .int .i64 ad', .slice ta' to'.length tc', .slice xa' tx'.length xc', .slice ia' nu'.length ic'] 52) = W at *
 refine (unhide HA _ (unhide H0)).mono ?_
 rintro e w1 ⟨rfl, b1⟩
 have bb1 := below_next b0 b1
 have K1 := hide (block_kept b1 (unhide K0))
 have X1 := hide (block_kept b1 (unhide X0))
 have H1 := hide ((unhide H0).below b1)
 have J1 := hide ((unhide J0).below b1)
 clear K0 X0 H0 J0 b1
 obtain ⟨d0, d1, d2, d3, d4, d5, d6⟩ := cells7 (unhide K1)
 obtain ⟨f0, f1, f2, f3, f4, f5, f6⟩ := cells7 (unhide X1)
 go_wp2_with fail
 refine (unhide HB _ (unhide J1)).mono ?_
 rintro e w2 ⟨rfl, b2⟩
 clear d0 d1 d2 d3 d4 d5 d6 f0 f1 f2 f3 f4 f5 f6
 have bb2 := below_next bb1 b2
 have K2 := hide (block_kept b2 (unhide K1))
 have X2 := hide (block_kept b2 (unhide X1))
 have H2 := hide ((unhide H1).below b2)
 have J2 := hide ((unhide J1).below b2)
 clear K1 X1 H1 J1 b2
 obtain ⟨d0, d1, d2, d3, d4, d5, d6⟩ := cells7 (unhide K2)
 obtain ⟨f0, f1, f2, f3, f4, f5, f6⟩ := cells7 (unhide X2)
 go_wp2_with fail
 refine (unhide HC _ _ _ (unhide H2).name (unhide J2).name).mono ?_
 rintro e w3 ⟨rfl, b3⟩
 clear d0 d1 d2 d3 d4 d5 d6 f0 f1 f2 f3 f4 f5 f6
 have bb3 := below_next bb2 b3
 have K3 := hide (block_kept b3 (unhide K2))
 have X3 := hide (block_kept b3 (unhide X2))
 have H3 := hide ((unhide H2).below b3)
 have J3 := hide ((unhide J2).below b3)
 clear K2 X2 H2 J2 b3
 obtain ⟨d0, d1, d2, d3, d4, d5, d6⟩ := cells7 (unhide K3)
 obtain ⟨f0, f1, f2, f3, f4, f5, f6⟩ := cells7 (unhide X3)
 go_wp2_with fail
 refine (unhide HL _).mono ?_
 rintro e w4 ⟨rfl, rfl⟩
 clear d0 d1 d2 d3 d4 d5 d6 f0 f1 f2 f3 f4 f5 f6
 have bd := below_drew (w := w3)
 have bb5 := below_next bb3 bd
 have K5 := hide (block_kept bd (unhide K3))
 have X5 := hide (block_kept bd (unhide X3))
 have H5 := hide ((unhide H3).below bd)
 have J5 := hide ((unhide J3).below bd)
 clear K3 X3 H3 J3 bd
 obtain ⟨d0, d1, d2, d3, d4, d5, d6⟩ := cells7 (unhide K5)
 obtain ⟨f0, f1, f2, f3, f4, f5, f6⟩ := cells7 (unhide X5)
 go_wp2_with fail
 clear d0 d1 d2 d3 d4 d5 d6 f0 f1 f2 f3 f4 f5 f6
 go_region_held3 (fun w' => (w'.cell? ⟨w.heap.size, 0, none⟩ = some (.slice na nm.length nc) ∧ w'.cell? ⟨w.heap.size, 1, none⟩ = some (.int .i64 6) ∧ w'.cell? ⟨w.heap.size, 2, none⟩ = some (.int .i64 tt) ∧ w'.cell? ⟨w.heap.size, 3, none⟩ = some (.int .i64 ad) ∧ w'.cell? ⟨w.heap.size, 4, none⟩ = some (.slice ta to.length tc) ∧ w'.cell? ⟨w.heap.size, 5, none⟩ = some (.slice xa tx.length xc) ∧ w'.cell? ⟨w.heap.size, 6, none⟩ = some (.slice ia nu.length ic)) ∧ (w'.cell? ⟨w.heap.size + 1, 0, none⟩ = some (.slice na' nm'.length nc') ∧ w'.cell? ⟨w.heap.size + 1, 1, none⟩ = some (.int .i64 6) ∧ w'.cell? ⟨w.heap.size + 1, 2, none⟩ = some (.int .i64 tt') ∧ w'.cell? ⟨w.heap.size + 1, 3, none⟩ = some (.int .i64 ad') ∧ w'.cell? ⟨w.heap.size + 1, 4, none⟩ = some (.slice ta' to'.length tc') ∧ w'.cell? ⟨w.heap.size + 1, 5, none⟩ = some (.slice xa' tx'.length xc') ∧ w'.cell? ⟨w.heap.size + 1, 6, none⟩ = some (.slice ia' nu'.length ic')))
  (first | exact ⟨cells7 (unhide K5), cells7 (unhide X5)⟩ | exact ⟨cells7 (block_kept b6 (unhide K5)), cells7 (block_kept b6 (unhide X5))⟩ | exact ⟨cells7 (block_kept q7 (unhide K5)), cells7 (block_kept q7 (unhide X5))⟩ | exact ⟨cells7 (block_kept q8 (unhide K5)), cells7 (block_kept q8 (unhide X5))⟩ | exact ⟨cells7 (block_kept q9 (unhide K5)), cells7 (block_kept q9 (unhide X5))⟩)
  (first
  | (go_at_call_of 103 (Value.slice na nm.length nc); refine (dataOf_S (na := na) (nc := nc) (ta := ta) (tc := tc) (xa := xa) (xc := xc) (ia := ia) (ic := ic) (nm := nm) (to := to) (tx := tx) (nu := nu) (tt := tt) (ad := ad)).mono ?_; rintro e w6 ⟨rfl, b6⟩)
  | (go_at_call_of 103 (Value.slice na' nm'.length nc'); refine (dataOf_S (na := na') (nc := nc') (ta := ta') (tc := tc') (xa := xa') (xc := xc') (ia := ia') (ic := ic') (nm := nm') (to := to') (tx := tx') (nu := nu') (tt := tt') (ad := ad')).mono ?_; rintro e w8 ⟨rfl, b8⟩; have q8 := below_next q7 b8)
  | (go_at_call_of 220 (Value.agg #[Value.slice ta to.length tc, Value.slice ia nu.length ic]); refine (unhide QA _ (below_next bb5 b6)).mono ?_; rintro e w7 ⟨v7, rfl, o7, b7⟩; have q7 := below_next b6 b7)
  | (go_at_call_of 220 (Value.agg #[Value.slice ta' to'.length tc', Value.slice ia' nu'.length ic']); refine (unhide QB _ (below_next bb5 q8)).mono ?_; rintro e w9 ⟨v9, rfl, o9, b9⟩; have q9 := below_next q8 b9)
  | (go_at_call 153; refine (bytesCompare_has (o7.below (below_next b8 b9)).has o9.has).mono ?_; rintro e w10 ⟨rfl, rfl⟩))
 go_wp2_with fail
 go_ret
 exact ⟨rfl, below_next bb5 q9⟩

set_option maxHeartbeats 2000000 in
set_option maxRecDepth 100000 in
theorem rrCmpData_X {na : Option Addr} {nc : Nat} {ta : Option Addr} {tc : Nat} {xa : Option Addr} {xc : Nat} {ia : Option Addr} {ic : Nat} {nm to : List (List Int)} {tx nu : List Int} {tt ad : Int} {na' : Option Addr} {nc' : Nat} {ta' : Option Addr} {tc' : Nat} {xa' : Option Addr} {xc' : Nat} {ia' : Option Addr} {ic' : Nat} {nm' to' : List (List Int)} {tx' nu' : List Int} {tt' ad' : Int} {w : World} {DA DB : List Int} {ty : Int} (hk : kindV ty = .iface 168 (.agg #[.slice none 0 0])) (hto : typeOk ty = true) (h : HasR w (.slice na nm.length nc) (.slice ta to.length tc) (.slice xa tx.length xc) (.slice ia nu.length ic) ⟨nm, ty, tt, ad, to, tx, nu⟩) (h' : HasR w (.slice na' nm'.length nc') (.slice ta' to'.length tc') (.slice xa' tx'.length xc') (.slice ia' nu'.length ic') ⟨nm', ty, tt', ad', to', tx', nu'⟩) (ha : rrOk ⟨nm, ty, tt, ad, to, tx, nu⟩ = true) (hb : rrOk ⟨nm', ty, tt', ad', to', tx', nu'⟩ = true) (hc : nameCmp nm nm' = 0)
  (PA : ∀ w1, Below w.heap.size w w1 → Calls Tryz.prog 224 #[.agg #[.slice xa tx.length xc]] w1 fun e w' => ∃ v', e = .returned v' ∧ Own w1.heap.size 5 w' v' DA ∧ Below w1.heap.size w1 w') (PB : ∀ w1, Below w.heap.size w w1 → Calls Tryz.prog 224 #[.agg #[.slice xa' tx'.length xc']] w1 fun e w' => ∃ v', e = .returned v' ∧ Own w1.heap.size 5 w' v' DB ∧ Below w1.heap.size w1 w') :
  Calls Tryz.prog 128 #[.agg #[.slice na nm.length nc, .int .i64 ty, .int .i64 tt, .int .i64 ad, .slice ta to.length tc, .slice xa tx.length xc, .slice ia nu.length ic], .agg #[.slice na' nm'.length nc', .int .i64 ty, .int .i64 tt', .int .i64 ad', .slice ta' to'.length tc', .slice xa' tx'.length xc', .slice ia' nu'.length ic']] w fun e w' => e = .returned (.int .i64 (cmpB DA DB)) ∧ Below w.heap.size w w' := by
 have b0 := below2 w (.cells #[.slice na nm.length nc, .int .i64 ty, .int .i64 tt, .int .i64 ad, .slice ta to.length tc, .slice xa tx.length xc, .slice ia nu.length ic] 52) (.cells #[.slice na' nm'.length nc', .int .i64 ty, .int .i64 tt', .int .i64 ad', .slice ta' to'.length tc', .slice xa' tx'.length xc', .slice ia' nu'.length ic'] 52)
 obtain ⟨hsz, k0, x0⟩ := box2 w (.cells #[.slice na nm.length nc, .int .i64 ty, .int .i64 tt, .int .i64 ad, .slice ta to.length tc, .slice xa tx.length xc, .slice ia nu.length ic] 52) #[.slice na' nm'.length nc', .int .i64 ty, .int .i64 tt', .int .i64 ad', .slice ta' to'.length tc', .slice xa' tx'.length xc', .slice ia' nu'.length ic'] 52
 have K0 := hide k0
 have X0 := hide x0
 have H0 := hide (h.below b0)
 have J0 := hide (h'.below b0)
 have HA := hide (fun (w : World) (h : HasR w (.slice na nm.length nc) (.slice ta to.length tc) (.slice xa tx.length xc) (.slice ia nu.length ic) ⟨nm, ty, tt, ad, to, tx, nu⟩) => (show Calls Tryz.prog 67 #[.agg #[.slice na nm.length nc, .int .i64 ty, .int .i64 tt, .int .i64 ad, .slice ta to.length tc, .slice xa tx.length xc, .slice ia nu.length ic]] w fun e w' => e = .returned (.bool true) ∧ Below w.heap.size w w' by have q := implRrOk_has h; rw [ha] at q; exact q))
 have HB := hide (fun (w : World) (h : HasR w (.slice na' nm'.length nc') (.slice ta' to'.length tc') (.slice xa' tx'.length xc') (.slice ia' nu'.length ic') ⟨nm', ty, tt', ad', to', tx', nu'⟩) => (show Calls Tryz.prog 67 #[.agg #[.slice na' nm'.length nc', .int .i64 ty, .int .i64 tt', .int .i64 ad', .slice ta' to'.length tc', .slice xa' tx'.length xc', .slice ia' nu'.length ic']] w fun e w' => e = .returned (.bool true) ∧ Below w.heap.size w w' by have q := implRrOk_has h; rw [hb] at q; exact q))
 have HC := hide (fun (w : World) (v v' : Value) (h : HasL w v nm) (h' : HasL w v' nm') => (show Calls Tryz.prog 127 #[.agg #[v], .agg #[v']] w fun e w' => e = .returned (.int .i64 0) ∧ Below w.heap.size w w' by have q := implNameCmp_has h h'; rw [hc] at q; exact q))
 have HL := hide (show ∀ w : World, Calls Tryz.prog 154 #[.int .i64 ty, .int .i64 ty] w fun e w' => e = .returned (.int .i64 0) ∧ w = w' from fun w => by have q := cmpCompare_int ty ty w; unfold byLength at q; rw [if_neg (by omega), if_neg (by omega)] at q; exact q)
 have QA := hide PA
 have QB := hide PB
 have HKK := hide hk
 have HTO := hide hto
 clear h h' k0 x0 ha hb hc PA PB hk hto
 go_enter Tryz.func128, Tryz.ntmps128
 go_wp2_with fail
 generalize (w.alloc (.cells #[.slice na nm.length nc, .int .i64 ty, .int .i64 tt, .int .i64 ad, .slice ta to.length tc, .slice xa tx.length xc, .slice ia nu.length ic] 52)).alloc (.cells #[.slice na' nm'.length nc', .int .i64 ty, .int .i64 tt', .int .i64 ad', .slice ta' to'.length tc', .slice xa' tx'.length xc', .slice ia' nu'.length ic'] 52) = W at *
 refine (unhide HA _ (unhide H0)).mono ?_
 rintro e w1 ⟨rfl, b1⟩
 have bb1 := below_next b0 b1
 have K1 := hide (block_kept b1 (unhide K0))
 have X1 := hide (block_kept b1 (unhide X0))
 have H1 := hide ((unhide H0).below b1)
 have J1 := hide ((unhide J0).below b1)
 clear K0 X0 H0 J0 b1
 obtain ⟨d0, d1, d2, d3, d4, d5, d6⟩ := cells7 (unhide K1)
 obtain ⟨f0, f1, f2, f3, f4, f5, f6⟩ := cells7 (unhide X1)
 go_wp2_with fail
 refine (unhide HB _ (unhide J1)).mono ?_
 rintro e w2 ⟨rfl, b2⟩
 clear d0 d1 d2 d3 d4 d5 d6 f0 f1 f2 f3 f4 f5 f6
 have bb2 := below_next bb1 b2
 have K2 := hide (block_kept b2 (unhide K1))
 have X2 := hide (block_kept b2 (unhide X1))
 have H2 := hide ((unhide H1).below b2)
 have J2 := hide ((unhide J1).below b2)
 clear K1 X1 H1 J1 b2
 obtain ⟨d0, d1, d2, d3, d4, d5, d6⟩ := cells7 (unhide K2)
 obtain ⟨f0, f1, f2, f3, f4, f5, f6⟩ := cells7 (unhide X2)
 go_wp2_with fail
 refine (unhide HC _ _ _ (unhide H2).name (unhide J2).name).mono ?_
 rintro e w3 ⟨rfl, b3⟩
 clear d0 d1 d2 d3 d4 d5 d6 f0 f1 f2 f3 f4 f5 f6
 have bb3 := below_next bb2 b3
 have K3 := hide (block_kept b3 (unhide K2))
 have X3 := hide (block_kept b3 (unhide X2))
 have H3 := hide ((unhide H2).below b3)
 have J3 := hide ((unhide J2).below b3)
 clear K2 X2 H2 J2 b3
 obtain ⟨d0, d1, d2, d3, d4, d5, d6⟩ := cells7 (unhide K3)
 obtain ⟨f0, f1, f2, f3, f4, f5, f6⟩ := cells7 (unhide X3)
 go_wp2_with fail
 refine (unhide HL _).mono ?_
 rintro e w4 ⟨rfl, rfl⟩
 clear d0 d1 d2 d3 d4 d5 d6 f0 f1 f2 f3 f4 f5 f6
 have bd := below_drew (w := w3)
 have bb5 := below_next bb3 bd
 have K5 := hide (block_kept bd (unhide K3))
 have X5 := hide (block_kept bd (unhide X3))
 have H5 := hide ((unhide H3).below bd)
 have J5 := hide ((unhide J3).below bd)
 clear K3 X3 H3 J3 bd
 obtain ⟨d0, d1, d2, d3, d4, d5, d6⟩ := cells7 (unhide K5)
 obtain ⟨f0, f1, f2, f3, f4, f5, f6⟩ := cells7 (unhide X5)
 go_wp2_with fail
 clear d0 d1 d2 d3 d4 d5 d6 f0 f1 f2 f3 f4 f5 f6
 go_region_held3 (fun w' => (w'.cell? ⟨w.heap.size, 0, none⟩ = some (.slice na nm.length nc) ∧ w'.cell? ⟨w.heap.size, 1, none⟩ = some (.int .i64 ty) ∧ w'.cell? ⟨w.heap.size, 2, none⟩ = some (.int .i64 tt) ∧ w'.cell? ⟨w.heap.size, 3, none⟩ = some (.int .i64 ad) ∧ w'.cell? ⟨w.heap.size, 4, none⟩ = some (.slice ta to.length tc) ∧ w'.cell? ⟨w.heap.size, 5, none⟩ = some (.slice xa tx.length xc) ∧ w'.cell? ⟨w.heap.size, 6, none⟩ = some (.slice ia nu.length ic)) ∧ (w'.cell? ⟨w.heap.size + 1, 0, none⟩ = some (.slice na' nm'.length nc') ∧ w'.cell? ⟨w.heap.size + 1, 1, none⟩ = some (.int .i64 ty) ∧ w'.cell? ⟨w.heap.size + 1, 2, none⟩ = some (.int .i64 tt') ∧ w'.cell? ⟨w.heap.size + 1, 3, none⟩ = some (.int .i64 ad') ∧ w'.cell? ⟨w.heap.size + 1, 4, none⟩ = some (.slice ta' to'.length tc') ∧ w'.cell? ⟨w.heap.size + 1, 5, none⟩ = some (.slice xa' tx'.length xc') ∧ w'.cell? ⟨w.heap.size + 1, 6, none⟩ = some (.slice ia' nu'.length ic')))
  (first | exact ⟨cells7 (unhide K5), cells7 (unhide X5)⟩ | exact ⟨cells7 (block_kept b6 (unhide K5)), cells7 (block_kept b6 (unhide X5))⟩ | exact ⟨cells7 (block_kept q7 (unhide K5)), cells7 (block_kept q7 (unhide X5))⟩ | exact ⟨cells7 (block_kept q8 (unhide K5)), cells7 (block_kept q8 (unhide X5))⟩ | exact ⟨cells7 (block_kept q9 (unhide K5)), cells7 (block_kept q9 (unhide X5))⟩)
  (first
  | (go_at_call_of 103 (Value.slice na nm.length nc); refine (dataOf_X (na := na) (nc := nc) (ta := ta) (tc := tc) (xa := xa) (xc := xc) (ia := ia) (ic := ic) (nm := nm) (to := to) (tx := tx) (nu := nu) (tt := tt) (ad := ad) (unhide HKK) (unhide HTO)).mono ?_; rintro e w6 ⟨rfl, b6⟩)
  | (go_at_call_of 103 (Value.slice na' nm'.length nc'); refine (dataOf_X (na := na') (nc := nc') (ta := ta') (tc := tc') (xa := xa') (xc := xc') (ia := ia') (ic := ic') (nm := nm') (to := to') (tx := tx') (nu := nu') (tt := tt') (ad := ad') (unhide HKK) (unhide HTO)).mono ?_; rintro e w8 ⟨rfl, b8⟩; have q8 := below_next q7 b8)
  | (go_at_call_of 224 (Value.agg #[Value.slice xa tx.length xc]); refine (unhide QA _ (below_next bb5 b6)).mono ?_; rintro e w7 ⟨v7, rfl, o7, b7⟩; have q7 := below_next b6 b7)
  | (go_at_call_of 224 (Value.agg #[Value.slice xa' tx'.length xc']); refine (unhide QB _ (below_next bb5 q8)).mono ?_; rintro e w9 ⟨v9, rfl, o9, b9⟩; have q9 := below_next q8 b9)
  | (go_at_call 153; refine (bytesCompare_has (o7.below (below_next b8 b9)).has o9.has).mono ?_; rintro e w10 ⟨rfl, rfl⟩))
 go_wp2_with fail
 go_ret
 exact ⟨rfl, below_next bb5 q9⟩

set_option maxHeartbeats 1000000 in
set_option maxRecDepth 100000 in
theorem rrCmp_apart {vn vt vx vi un ut ux ui : Value} {a b : Rec} {w : World} (h : HasR w vn vt vx vi a) (h' : HasR w un ut ux ui b) (ha : rrOk a = true) (hb : rrOk b = true) (hne : cmpN a.name b.name ≠ 0 ∨ byLength a.type b.type ≠ 0) :
  Calls Tryz.prog 128 #[.agg #[vn, .int .i64 a.type, .int .i64 a.ttl, .int .i64 a.addr, vt, vx, vi], .agg #[un, .int .i64 b.type, .int .i64 b.ttl, .int .i64 b.addr, ut, ux, ui]] w fun e w' => e = .returned (.int .i64 (cmpR a b)) ∧ Below w.heap.size w w' := by
 obtain ⟨na, nc, rfl, _⟩ := h.name.form
 obtain ⟨ta, tc, rfl, _⟩ := h.to.form
 obtain ⟨xa, xc, rfl, _⟩ := h.text.form
 obtain ⟨ia, ic, rfl, _⟩ := h.nums.form
 obtain ⟨na', nc', rfl, _⟩ := h'.name.form
 obtain ⟨ta', tc', rfl, _⟩ := h'.to.form
 obtain ⟨xa', xc', rfl, _⟩ := h'.text.form
 obtain ⟨ia', ic', rfl, _⟩ := h'.nums.form
 have b0 := below2 w (.cells #[.slice na a.name.length nc, .int .i64 a.type, .int .i64 a.ttl, .int .i64 a.addr, .slice ta a.to.length tc, .slice xa a.text.length xc, .slice ia a.nums.length ic] 52) (.cells #[.slice na' b.name.length nc', .int .i64 b.type, .int .i64 b.ttl, .int .i64 b.addr, .slice ta' b.to.length tc', .slice xa' b.text.length xc', .slice ia' b.nums.length ic'] 52)
 obtain ⟨hsz, k0, x0⟩ := box2 w (.cells #[.slice na a.name.length nc, .int .i64 a.type, .int .i64 a.ttl, .int .i64 a.addr, .slice ta a.to.length tc, .slice xa a.text.length xc, .slice ia a.nums.length ic] 52) #[.slice na' b.name.length nc', .int .i64 b.type, .int .i64 b.ttl, .int .i64 b.addr, .slice ta' b.to.length tc', .slice xa' b.text.length xc', .slice ia' b.nums.length ic'] 52
 have K0 := hide k0
 have X0 := hide x0
 have H0 := hide (h.below b0)
 have J0 := hide (h'.below b0)
 clear h h' k0 x0
 have HA := hide (fun (w : World) (vn vt vx vi : Value) (h : HasR w vn vt vx vi a) => implRrOk_has h)
 have HB := hide (fun (w : World) (vn vt vx vi : Value) (h : HasR w vn vt vx vi b) => implRrOk_has h)
 have hn : nameCmp a.name b.name = cmpN a.name b.name := by unfold nameCmp; rw [if_pos ⟨(rrOk_parts ha).1, (rrOk_parts hb).1⟩]
 have HC := fun (w : World) (v v' : Value) (h : HasL w v a.name) (h' : HasL w v' b.name) => implNameCmp_has h h'
 rw [hn] at HC
 replace HC := hide HC
 have HL := hide (cmpCompare_int a.type b.type)
 rw [ha] at HA
 rw [hb] at HB
 clear ha hb hn
 unfold cmpR
 generalize cmpN a.name b.name = CN at *
 generalize byLength a.type b.type = CL at *
 by_cases e1 : CN = 0
 ·subst e1
  rw [if_neg (by simp)]
  have e2 : CL ≠ 0 := by
   rcases hne with hne | hne
   ·exact absurd rfl hne
   ·exact hne
  rw [if_pos e2]
  have g2 : (CL != 0) = true := by rw [bne_iff_ne]; exact e2
  clear hne e2
  go_enter Tryz.func128, Tryz.ntmps128
  go_wp2_with fail
  generalize (w.alloc (.cells #[.slice na a.name.length nc, .int .i64 a.type, .int .i64 a.ttl, .int .i64 a.addr, .slice ta a.to.length tc, .slice xa a.text.length xc, .slice ia a.nums.length ic] 52)).alloc (.cells #[.slice na' b.name.length nc', .int .i64 b.type, .int .i64 b.ttl, .int .i64 b.addr, .slice ta' b.to.length tc', .slice xa' b.text.length xc', .slice ia' b.nums.length ic'] 52) = W at *
  refine (unhide HA _ _ _ _ _ (unhide H0)).mono ?_
  rintro e w1 ⟨rfl, b1⟩
  have bb1 := below_next b0 b1
  have K1 := hide (block_kept b1 (unhide K0))
  have X1 := hide (block_kept b1 (unhide X0))
  have H1 := hide ((unhide H0).below b1)
  have J1 := hide ((unhide J0).below b1)
  clear K0 X0 H0 J0 b1
  obtain ⟨d0, d1, d2, d3, d4, d5, d6⟩ := cells7 (unhide K1)
  obtain ⟨f0, f1, f2, f3, f4, f5, f6⟩ := cells7 (unhide X1)
  go_wp2_with fail
  refine (unhide HB _ _ _ _ _ (unhide J1)).mono ?_
  rintro e w2 ⟨rfl, b2⟩
  clear d0 d1 d2 d3 d4 d5 d6 f0 f1 f2 f3 f4 f5 f6
  have bb2 := below_next bb1 b2
  have K2 := hide (block_kept b2 (unhide K1))
  have X2 := hide (block_kept b2 (unhide X1))
  have H2 := hide ((unhide H1).below b2)
  have J2 := hide ((unhide J1).below b2)
  clear K1 X1 H1 J1 b2
  obtain ⟨d0, d1, d2, d3, d4, d5, d6⟩ := cells7 (unhide K2)
  obtain ⟨f0, f1, f2, f3, f4, f5, f6⟩ := cells7 (unhide X2)
  go_wp2_with fail
  refine (unhide HC _ _ _ (unhide H2).name (unhide J2).name).mono ?_
  rintro e w3 ⟨rfl, b3⟩
  clear d0 d1 d2 d3 d4 d5 d6 f0 f1 f2 f3 f4 f5 f6
  have bb3 := below_next bb2 b3
  have K3 := hide (block_kept b3 (unhide K2))
  have X3 := hide (block_kept b3 (unhide X2))
  have H3 := hide ((unhide H2).below b3)
  have J3 := hide ((unhide J2).below b3)
  clear K2 X2 H2 J2 b3
  obtain ⟨d0, d1, d2, d3, d4, d5, d6⟩ := cells7 (unhide K3)
  obtain ⟨f0, f1, f2, f3, f4, f5, f6⟩ := cells7 (unhide X3)
  go_wp2_with fail
  refine (unhide HL _).mono ?_
  rintro e w4 ⟨rfl, rfl⟩
  go_wp2_with fail
  go_ret
  exact ⟨rfl, bb3⟩
 ·rw [if_pos e1]
  have g1 : (CN != 0) = true := by rw [bne_iff_ne]; exact e1
  clear hne e1
  go_enter Tryz.func128, Tryz.ntmps128
  go_wp2_with fail
  generalize (w.alloc (.cells #[.slice na a.name.length nc, .int .i64 a.type, .int .i64 a.ttl, .int .i64 a.addr, .slice ta a.to.length tc, .slice xa a.text.length xc, .slice ia a.nums.length ic] 52)).alloc (.cells #[.slice na' b.name.length nc', .int .i64 b.type, .int .i64 b.ttl, .int .i64 b.addr, .slice ta' b.to.length tc', .slice xa' b.text.length xc', .slice ia' b.nums.length ic'] 52) = W at *
  refine (unhide HA _ _ _ _ _ (unhide H0)).mono ?_
  rintro e w1 ⟨rfl, b1⟩
  have bb1 := below_next b0 b1
  have K1 := hide (block_kept b1 (unhide K0))
  have X1 := hide (block_kept b1 (unhide X0))
  have H1 := hide ((unhide H0).below b1)
  have J1 := hide ((unhide J0).below b1)
  clear K0 X0 H0 J0 b1
  obtain ⟨d0, d1, d2, d3, d4, d5, d6⟩ := cells7 (unhide K1)
  obtain ⟨f0, f1, f2, f3, f4, f5, f6⟩ := cells7 (unhide X1)
  go_wp2_with fail
  refine (unhide HB _ _ _ _ _ (unhide J1)).mono ?_
  rintro e w2 ⟨rfl, b2⟩
  clear d0 d1 d2 d3 d4 d5 d6 f0 f1 f2 f3 f4 f5 f6
  have bb2 := below_next bb1 b2
  have K2 := hide (block_kept b2 (unhide K1))
  have X2 := hide (block_kept b2 (unhide X1))
  have H2 := hide ((unhide H1).below b2)
  have J2 := hide ((unhide J1).below b2)
  clear K1 X1 H1 J1 b2
  obtain ⟨d0, d1, d2, d3, d4, d5, d6⟩ := cells7 (unhide K2)
  obtain ⟨f0, f1, f2, f3, f4, f5, f6⟩ := cells7 (unhide X2)
  go_wp2_with fail
  refine (unhide HC _ _ _ (unhide H2).name (unhide J2).name).mono ?_
  rintro e w3 ⟨rfl, b3⟩
  clear d0 d1 d2 d3 d4 d5 d6 f0 f1 f2 f3 f4 f5 f6
  go_wp2_with fail
  go_ret
  exact ⟨rfl, below_next bb2 b3⟩

set_option maxHeartbeats 1000000 in
set_option maxRecDepth 100000 in
theorem rrCmp_bad {vn vt vx vi un ut ux ui : Value} {a b : Rec} {w : World} (h : HasR w vn vt vx vi a) (h' : HasR w un ut ux ui b) (hno : rrOk a = false ∨ rrOk b = false) :
  Calls Tryz.prog 128 #[.agg #[vn, .int .i64 a.type, .int .i64 a.ttl, .int .i64 a.addr, vt, vx, vi], .agg #[un, .int .i64 b.type, .int .i64 b.ttl, .int .i64 b.addr, ut, ux, ui]] w fun e w' => e = .returned (.int .i64 0) ∧ Below w.heap.size w w' := by
 obtain ⟨na, nc, rfl, _⟩ := h.name.form
 obtain ⟨ta, tc, rfl, _⟩ := h.to.form
 obtain ⟨xa, xc, rfl, _⟩ := h.text.form
 obtain ⟨ia, ic, rfl, _⟩ := h.nums.form
 obtain ⟨na', nc', rfl, _⟩ := h'.name.form
 obtain ⟨ta', tc', rfl, _⟩ := h'.to.form
 obtain ⟨xa', xc', rfl, _⟩ := h'.text.form
 obtain ⟨ia', ic', rfl, _⟩ := h'.nums.form
 have b0 := below2 w (.cells #[.slice na a.name.length nc, .int .i64 a.type, .int .i64 a.ttl, .int .i64 a.addr, .slice ta a.to.length tc, .slice xa a.text.length xc, .slice ia a.nums.length ic] 52) (.cells #[.slice na' b.name.length nc', .int .i64 b.type, .int .i64 b.ttl, .int .i64 b.addr, .slice ta' b.to.length tc', .slice xa' b.text.length xc', .slice ia' b.nums.length ic'] 52)
 obtain ⟨hsz, k0, x0⟩ := box2 w (.cells #[.slice na a.name.length nc, .int .i64 a.type, .int .i64 a.ttl, .int .i64 a.addr, .slice ta a.to.length tc, .slice xa a.text.length xc, .slice ia a.nums.length ic] 52) #[.slice na' b.name.length nc', .int .i64 b.type, .int .i64 b.ttl, .int .i64 b.addr, .slice ta' b.to.length tc', .slice xa' b.text.length xc', .slice ia' b.nums.length ic'] 52
 have K0 := hide k0
 have X0 := hide x0
 have H0 := hide (h.below b0)
 have J0 := hide (h'.below b0)
 clear h h' k0 x0
 have HA := hide (fun (w : World) (vn vt vx vi : Value) (h : HasR w vn vt vx vi a) => implRrOk_has h)
 have HB := hide (fun (w : World) (vn vt vx vi : Value) (h : HasR w vn vt vx vi b) => implRrOk_has h)
 cases hA : rrOk a with
 | false =>
  rw [hA] at HA
  clear hno hA
  go_enter Tryz.func128, Tryz.ntmps128
  go_wp2_with fail
  generalize (w.alloc (.cells #[.slice na a.name.length nc, .int .i64 a.type, .int .i64 a.ttl, .int .i64 a.addr, .slice ta a.to.length tc, .slice xa a.text.length xc, .slice ia a.nums.length ic] 52)).alloc (.cells #[.slice na' b.name.length nc', .int .i64 b.type, .int .i64 b.ttl, .int .i64 b.addr, .slice ta' b.to.length tc', .slice xa' b.text.length xc', .slice ia' b.nums.length ic'] 52) = W at *
  refine (unhide HA _ _ _ _ _ (unhide H0)).mono ?_
  rintro e w1 ⟨rfl, b1⟩
  go_wp2_with fail
  go_ret
  exact ⟨rfl, below_next b0 b1⟩
 | true =>
  have hB : rrOk b = false := by
   rcases hno with hno | hno
   ·rw [hA] at hno; cases hno
   ·exact hno
  rw [hA] at HA
  rw [hB] at HB
  clear hno hA hB
  go_enter Tryz.func128, Tryz.ntmps128
  go_wp2_with fail
  generalize (w.alloc (.cells #[.slice na a.name.length nc, .int .i64 a.type, .int .i64 a.ttl, .int .i64 a.addr, .slice ta a.to.length tc, .slice xa a.text.length xc, .slice ia a.nums.length ic] 52)).alloc (.cells #[.slice na' b.name.length nc', .int .i64 b.type, .int .i64 b.ttl, .int .i64 b.addr, .slice ta' b.to.length tc', .slice xa' b.text.length xc', .slice ia' b.nums.length ic'] 52) = W at *
  refine (unhide HA _ _ _ _ _ (unhide H0)).mono ?_
  rintro e w1 ⟨rfl, b1⟩
  have bb1 := below_next b0 b1
  have K1 := hide (block_kept b1 (unhide K0))
  have X1 := hide (block_kept b1 (unhide X0))
  have H1 := hide ((unhide H0).below b1)
  have J1 := hide ((unhide J0).below b1)
  clear K0 X0 H0 J0 b1
  obtain ⟨d0, d1, d2, d3, d4, d5, d6⟩ := cells7 (unhide K1)
  obtain ⟨f0, f1, f2, f3, f4, f5, f6⟩ := cells7 (unhide X1)
  go_wp2_with fail
  refine (unhide HB _ _ _ _ _ (unhide J1)).mono ?_
  rintro e w2 ⟨rfl, b2⟩
  go_wp2_with fail
  go_ret
  exact ⟨rfl, below_next bb1 b2⟩

theorem implRrCmp_has {vn vt vx vi un ut ux ui : Value} {a b : Rec} {w : World} (h : HasR w vn vt vx vi a) (h' : HasR w un ut ux ui b) :
  Calls Tryz.prog 128 #[.agg #[vn, .int .i64 a.type, .int .i64 a.ttl, .int .i64 a.addr, vt, vx, vi], .agg #[un, .int .i64 b.type, .int .i64 b.ttl, .int .i64 b.addr, ut, ux, ui]] w fun e w' => e = .returned (.int .i64 (rrCmp a b)) ∧ Below w.heap.size w w' := by
 unfold rrCmp
 by_cases hab : rrOk a = true ∧ rrOk b = true
 ·rw [if_pos hab]
  obtain ⟨ha, hb⟩ := hab
  by_cases hne : cmpN a.name b.name ≠ 0 ∨ byLength a.type b.type ≠ 0
  ·exact rrCmp_apart h h' ha hb hne
  ·have hn0 : cmpN a.name b.name = 0 := by omega
   have ht0 : a.type = b.type := byLength_zero (by omega)
   have e : cmpR a b = cmpB (dataB a) (dataB b) := by
    unfold cmpR
    rw [if_neg (by omega), if_neg (by omega)]
   rw [e]
   have hc : nameCmp a.name b.name = 0 := by unfold nameCmp; rw [if_pos ⟨(rrOk_parts ha).1, (rrOk_parts hb).1⟩]; exact hn0
   clear hne e hn0
   obtain ⟨_, ht, _, _, hd⟩ := rrOk_parts ha
   obtain ⟨_, ht', _, _, hd'⟩ := rrOk_parts hb
   obtain ⟨na, nc, rfl, _⟩ := h.name.form
   obtain ⟨ta, tc, rfl, _⟩ := h.to.form
   obtain ⟨xa, xc, rfl, _⟩ := h.text.form
   obtain ⟨ia, ic, rfl, _⟩ := h.nums.form
   obtain ⟨na', nc', rfl, _⟩ := h'.name.form
   obtain ⟨ta', tc', rfl, _⟩ := h'.to.form
   obtain ⟨xa', xc', rfl, _⟩ := h'.text.form
   obtain ⟨ia', ic', rfl, _⟩ := h'.nums.form
   rcases data_kinds ht hd with ⟨e, h0, h1, eb⟩ | ⟨e, hn, eb⟩ | ⟨e, hn, x, y, exy, _, _, _, _, eb⟩ | ⟨e, hx, eb⟩
   ·rcases data_kinds ht' hd' with ⟨e', _, _, eb'⟩ | ⟨e', _⟩ | ⟨e', _⟩ | ⟨e', _⟩
    ·rw [eb, eb']
     obtain ⟨nm, ty, tt, ad, to, tx, nu⟩ := a
     obtain ⟨nm', ty', tt', ad', to', tx', nu'⟩ := b
     simp only at *
     subst e e'
     exact rrCmpData_A h h' ha hb hc (fun w1 _ => addrPut_any ad w1) (fun w1 _ => addrPut_any ad' w1)
    all_goals omega
   ·rcases data_kinds ht' hd' with ⟨e', _⟩ | ⟨e', hn', eb'⟩ | ⟨e', _⟩ | ⟨e', _⟩
    ·omega
    ·rw [eb, eb']
     obtain ⟨nm, ty, tt, ad, to, tx, nu⟩ := a
     obtain ⟨nm', ty', tt', ad', to', tx', nu'⟩ := b
     simp only at *
     subst ht0
     exact rrCmpData_N (kindV_N e) ht h h' ha hb hc (fun w1 hb1 => namePutM_has (h.to.below hb1) hn) (fun w1 hb1 => namePutM_has (h'.to.below hb1) hn')
    all_goals omega
   ·rcases data_kinds ht' hd' with ⟨e', _⟩ | ⟨e', _⟩ | ⟨e', hn', x', y', exy', _, _, _, _, eb'⟩ | ⟨e', _⟩
    ·omega
    ·omega
    ·rw [eb, eb']
     obtain ⟨nm, ty, tt, ad, to, tx, nu⟩ := a
     obtain ⟨nm', ty', tt', ad', to', tx', nu'⟩ := b
     simp only at *
     subst e e' exy exy'
     exact rrCmpData_S h h' ha hb hc (fun w1 hb1 => soaPut_has (h.to.below hb1) (h.nums.below hb1) hn) (fun w1 hb1 => soaPut_has (h'.to.below hb1) (h'.nums.below hb1) hn')
    ·omega
   ·rcases data_kinds ht' hd' with ⟨e', _⟩ | ⟨e', _⟩ | ⟨e', _⟩ | ⟨e', hx', eb'⟩
    ·omega
    ·omega
    ·omega
    ·rw [eb, eb']
     obtain ⟨nm, ty, tt, ad, to, tx, nu⟩ := a
     obtain ⟨nm', ty', tt', ad', to', tx', nu'⟩ := b
     simp only at *
     subst ht0
     exact rrCmpData_X (kindV_X e) ht h h' ha hb hc (fun w1 hb1 => textPut_has (h.text.below hb1) hx) (fun w1 hb1 => textPut_has (h'.text.below hb1) hx')
 ·rw [if_neg hab]
  refine rrCmp_bad h h' ?_
  cases hA : rrOk a with
  | false => exact .inl rfl
  | true =>
   cases hB : rrOk b with
   | false => exact .inr rfl
   | true => exact absurd ⟨hA, hB⟩ hab
end Go.Proofs.YtmlcmkoefelolaaGreat

namespace Go.Proofs.YtmlcmkoefelolaaGreat
open Go.RowKit
set_option linter.unusedVariables false

def nextF : List Bool → Nat
 | true :: l => nextF l + 1
 | _ => 0
def setF : List Bool → List Bool
 | true :: l => true :: setF l
 | false :: l => true :: l
 | [] => []
def dropF {α : Type} : List Bool → List α → List α
 | true :: l, _ :: m => dropF l m
 | _, m => m
theorem setF_eq : ∀ l : List Bool, l.set (nextF l) true = setF l
 | [] => rfl
 | false :: _ => rfl
 | true :: l => by simp [nextF, setF, setF_eq l]
theorem dropF_get {α : Type} {o : α} {r : List α} : ∀ (l : List Bool) (m : List α), dropF l m = o :: r → m[nextF l]? = some o
 | [], m, h => by simp only [dropF] at h; subst h; rfl
 | false :: _, m, h => by simp only [dropF] at h; subst h; rfl
 | true :: l, [], h => by simp only [dropF] at h; cases h
 | true :: l, _ :: m, h => by simp only [dropF] at h; simpa [nextF] using dropF_get l m h
def callsF : Op → Bool
 | .call _ => true
 | _ => false

section
variable {P : Program} {ops : Array Oper} {Q : Exit → Act → World → Prop} {md : Region.Mode} {S : World → Prop}
theorem ops_next {l : List Bool} {oi : Oper} {rest : List Oper} (hi : dropF l ops.toList = oi :: rest) : ops[nextF l]? = some oi := by
 have := dropF_get l ops.toList hi
 rwa [Array.getElem?_toList] at this
theorem ops_drop {i : Nat} {oi : Oper} {rest : List Oper} (hi : ops.toList.drop i = oi :: rest) : ops[i]? = some oi := by
 rw [← Array.getElem?_toList, ← List.head?_drop, hi]
 rfl
theorem listed_next (l : List Bool) : l.toArray.setIfInBounds (nextF l) true = (setF l).toArray := by
 rw [List.setIfInBounds_toArray, setF_eq]
/-- The next one is wanted and only looks. -/
theorem tkF (v : Value) {oi : Oper} {rest : List Oper} {fuel : Nat} {l : List Bool} {a : Act} {w : World} (hi : dropF l ops.toList = oi :: rest)
  (hk : (!callsF oi.op && Region.noSelect ops && Region.free md ops l.toArray (nextF l) && (Region.ready md ops l.toArray).contains (nextF l)) = true)
  (hb : Region.wanted oi (yielded ops a.tmps) = true) (hQ : ∀ c a w, Q (.panic c) (a.put oi.dst v) w → Q (.panic c) a w)
  (hy : ∀ w, S w → (execOp a.eval oi).run P w = .ok (.value v) w) (hS : S w)
  (h : wpAnyH P md ops Q S fuel (setF l).toArray (a.put oi.dst v) w) : wpAnyH P md ops Q S (fuel + 1) l.toArray a w := by
 simp only [Bool.and_eq_true] at hk
 refine wpAnyH_take (ops_next hi) hk.1.1.2 hk.1.2 hk.2 hQ (Or.inl ⟨hb, hy⟩) hS ?_
 rw [listed_next]
 exact h
/-- The next one is not wanted. -/
theorem skF {oi : Oper} {rest : List Oper} {fuel : Nat} {l : List Bool} {a : Act} {w : World} (hi : dropF l ops.toList = oi :: rest)
  (hk : (Region.noSelect ops && Region.free md ops l.toArray (nextF l) && (Region.ready md ops l.toArray).contains (nextF l)) = true)
  (hb : Region.wanted oi (yielded ops a.tmps) = false) (hQ : ∀ c a w, Q (.panic c) (a.put oi.dst undef) w → Q (.panic c) a w) (hS : S w)
  (h : wpAnyH P md ops Q S fuel (setF l).toArray (a.put oi.dst undef) w) : wpAnyH P md ops Q S (fuel + 1) l.toArray a w := by
 simp only [Bool.and_eq_true] at hk
 refine wpAnyH_take (ops_next hi) hk.1.1 hk.1.2 hk.2 hQ (Or.inr ⟨hb, rfl⟩) hS ?_
 rw [listed_next]
 exact h
/-- Number i is wanted and only looks. -/
theorem tkI (i : Nat) (v : Value) {oi : Oper} {rest : List Oper} {fuel : Nat} {listed : Array Bool} {a : Act} {w : World} (hi : ops.toList.drop i = oi :: rest)
  (hk : (Region.noSelect ops && Region.free md ops listed i && (Region.ready md ops listed).contains i) = true)
  (hb : Region.wanted oi (yielded ops a.tmps) = true) (hQ : ∀ c a w, Q (.panic c) (a.put oi.dst v) w → Q (.panic c) a w)
  (hy : ∀ w, S w → (execOp a.eval oi).run P w = .ok (.value v) w) (hS : S w)
  (h : wpAnyH P md ops Q S fuel (listed.setIfInBounds i true) (a.put oi.dst v) w) : wpAnyH P md ops Q S (fuel + 1) listed a w := by
 simp only [Bool.and_eq_true] at hk
 exact wpAnyH_take (ops_drop hi) hk.1.1 hk.1.2 hk.2 hQ (Or.inl ⟨hb, hy⟩) hS h
/-- Number i alone may come up: it is run, and S shown anew. -/
theorem runI (i : Nat) {oi : Oper} {rest : List Oper} {fuel : Nat} {listed : Array Bool} {a : Act} {w : World} (hi : ops.toList.drop i = oi :: rest)
  (hk : (Region.ready md ops listed == [i]) = true) (hb : Region.wanted oi (yielded ops a.tmps) = true)
  (h : ∀ K' : Act → World → Prop, Shut (∀ a w, S w → (S w → wpAnyH P md ops Q S fuel (listed.setIfInBounds i true) a w) → K' a w) → Oper.wp P oi a w K' Q) :
  wpAnyH P md ops Q S (fuel + 1) listed a w := by
 rw [beq_iff_eq] at hk
 refine wpAnyH_ready hk (by simp) (AllReadyH.cons (ops_drop hi) (fun K hK => ?_) AllReadyH.nil)
 rw [if_pos hb]
 exact h K hK
end
end Go.Proofs.YtmlcmkoefelolaaGreat

namespace Go.Proofs.YtmlcmkoefelolaaGreat
open Go.RowKit
set_option linter.unusedVariables false

set_option maxHeartbeats 1000000 in
set_option maxRecDepth 100000 in
theorem dataKey_A {na : Option Addr} {nc : Nat} {ta : Option Addr} {tc : Nat} {xa : Option Addr} {xc : Nat} {ia : Option Addr} {ic : Nat} {nm to : List (List Int)} {tx nu : List Int} {tt ad : Int} {w : World} {D : List Int} (hD : D.length ≤ 1000)
  (PA : ∀ w1, Below w.heap.size w w1 → Calls Tryz.prog 209 #[.agg #[.int .i64 ad]] w1 fun e w' => ∃ v', e = .returned v' ∧ Own w1.heap.size 5 w' v' D ∧ Below w1.heap.size w1 w') :
  Calls Tryz.prog 111 #[.agg #[.slice na nm.length nc, .int .i64 1, .int .i64 tt, .int .i64 ad, .slice ta to.length tc, .slice xa tx.length xc, .slice ia nu.length ic]] w fun e w' => e = .returned (.string (strOfNums ([] ++ [1 / 256, 1 % 256] ++ D))) ∧ Below w.heap.size w w' := by
 have b0 := below_alloc (w := w) (.cells #[.slice na nm.length nc, .int .i64 1, .int .i64 tt, .int .i64 ad, .slice ta to.length tc, .slice xa tx.length xc, .slice ia nu.length ic] 52)
 have KB := hide (heap_alloc_new w (.cells #[.slice na nm.length nc, .int .i64 1, .int .i64 tt, .int .i64 ad, .slice ta to.length tc, .slice xa tx.length xc, .slice ia nu.length ic] 52))
 have QA := hide PA
 clear PA
 go_enter Tryz.func111, Tryz.ntmps111
 go_wp2_with fail
 generalize w.alloc (.cells #[.slice na nm.length nc, .int .i64 1, .int .i64 tt, .int .i64 ad, .slice ta to.length tc, .slice xa tx.length xc, .slice ia nu.length ic] 52) = W at *
 have bd := below_drew (w := W)
 have bb := below_next b0 bd
 replace KB := hide (block_kept bd (unhide KB))
 have z0 := bb.size
 clear bd b0
 refine wp_region_held_drew (S := (fun w' => w'.cell? ⟨w.heap.size, 0, none⟩ = some (.slice na nm.length nc) ∧ w'.cell? ⟨w.heap.size, 1, none⟩ = some (.int .i64 1) ∧ w'.cell? ⟨w.heap.size, 2, none⟩ = some (.int .i64 tt) ∧ w'.cell? ⟨w.heap.size, 3, none⟩ = some (.int .i64 ad) ∧ w'.cell? ⟨w.heap.size, 4, none⟩ = some (.slice ta to.length tc) ∧ w'.cell? ⟨w.heap.size, 5, none⟩ = some (.slice xa tx.length xc) ∧ w'.cell? ⟨w.heap.size, 6, none⟩ = some (.slice ia nu.length ic))) (by kernel_rfl) (cells7 (unhide KB)) (fun hHeld => ?_)
 show wpAnyH _ _ _ _ _ 9 #[false, false, false, false, false, false, false, false, false] _ _
 generalize W.drew = W0 at *
 have ZB := hide (block_lt (unhide KB))
 refine tkF (.pointer (some ⟨w.heap.size, 1, none⟩)) rfl (by kernel_rfl) (by kernel_rfl) (fun _ _ _ h => h) ?_ hHeld ?_; (· (intro w hSw; (try dsimp only at hSw); go_simp)); simp only [Act.put, setF, List.setIfInBounds_toArray, List.set_cons_zero, List.set_cons_succ]
 refine tkF (.int .i64 1) rfl (by kernel_rfl) (by kernel_rfl) (fun _ _ _ h => h) ?_ hHeld ?_; (· (intro w hSw; (try dsimp only at hSw); go_simp)); simp only [Act.put, setF, List.setIfInBounds_toArray, List.set_cons_zero, List.set_cons_succ]
 refine tkI 3 (.agg #[.slice na nm.length nc, .int .i64 1, .int .i64 tt, .int .i64 ad, .slice ta to.length tc, .slice xa tx.length xc, .slice ia nu.length ic]) rfl (by kernel_rfl) (by kernel_rfl) (fun _ _ _ h => h) ?_ hHeld ?_
 ·(intro w hSw; (try dsimp only at hSw); go_simp)
 try simp only [Act.put, List.setIfInBounds_toArray, List.set_cons_zero, List.set_cons_succ]
 refine wpAnyH_ready (rs := [2]) (by kernel_rfl) (by simp) (AllReadyH.cons (ops_drop rfl) (fun K hK => ?_) AllReadyH.nil)
 have HK := hide hK
 clear hK hHeld
 go_simp
 refine (implPut16_yes (B := 0) 1 (own_none 0 5 _) (by simp) (by omega) (by omega)).mono ?_
 rintro e w1 ⟨v1, rfl, o1, b1⟩
 obtain ⟨p1, q1, hv1, _⟩ := o1.lies
 replace hv1 : v1 = .slice p1 2 q1 := hv1
 subst hv1
 replace KB := hide (block_kept b1 (unhide KB))
 replace bb := below_next bb b1
 have z1 := b1.size
 have O1 := hide o1
 clear o1 b1
 go_simp
 refine (unhide HK).out _ _ (cells7 (unhide KB)) (fun hHeld => ?_)
 clear HK K
 try simp only [List.setIfInBounds_toArray, List.set_cons_zero, List.set_cons_succ]
 refine wpAnyH_ready (rs := [4]) (by kernel_rfl) (by simp) (AllReadyH.cons (ops_drop rfl) (fun K hK => ?_) AllReadyH.nil)
 have HK := hide hK
 clear hK hHeld
 go_simp
 refine (dataOf_A (na := na) (nc := nc) (ta := ta) (tc := tc) (xa := xa) (xc := xc) (ia := ia) (ic := ic) (nm := nm) (to := to) (tx := tx) (nu := nu) (tt := tt) (ad := ad)).mono ?_
 rintro e w2 ⟨rfl, b2⟩
 replace KB := hide (block_kept b2 (unhide KB))
 replace bb := below_next bb b2
 have z2 := b2.size
 replace O1 := hide ((unhide O1).below b2)
 clear b2
 go_simp
 refine (unhide HK).out _ _ (cells7 (unhide KB)) (fun hHeld => ?_)
 clear HK K
 try simp only [List.setIfInBounds_toArray, List.set_cons_zero, List.set_cons_succ]
 refine wpAnyH_ready (rs := [5]) (by kernel_rfl) (by simp) (AllReadyH.cons (ops_drop rfl) (fun K hK => ?_) AllReadyH.nil)
 have HK := hide hK
 clear hK hHeld
 go_simp
 refine (unhide QA _ bb).mono ?_
 rintro e w3 ⟨v3, rfl, o3, b3⟩
 obtain ⟨p3, q3, hv3, _⟩ := o3.lies
 subst hv3
 replace KB := hide (block_kept b3 (unhide KB))
 replace bb := below_next bb b3
 have z3 := b3.size
 replace O1 := hide ((unhide O1).below b3)
 have O3 := hide o3
 clear o3 b3
 go_simp
 refine (unhide HK).out _ _ (cells7 (unhide KB)) (fun hHeld => ?_)
 clear HK K
 try simp only [List.setIfInBounds_toArray, List.set_cons_zero, List.set_cons_succ]
 refine wpAnyH_ready (rs := [6]) (by kernel_rfl) (by simp) (AllReadyH.cons (ops_drop rfl) (fun K hK => ?_) AllReadyH.nil)
 have HK := hide hK
 clear hK hHeld
 refine step_append_bytes rfl (.tmp 5) (.tmp 8) 44 5 rfl Tryz.underlying44 info_u8 W0.heap.size (.slice p1 2 q1) (.slice p3 D.length q3) ([] ++ [1 / 256, 1 % 256]) D (by simp [Act.eval]) (by simp [Act.eval]) (unhide O1) (unhide O3).reads (by simp; omega) (by omega) ?_
 intro v4 w4 o4 g4
 have b4 : Below W0.heap.size w3 w4 := (Below.refl _ w3).grown g4 (by omega) (fun k e => ((unhide O1).lt k e).1)
 have kb4 := block_grown g4 (unhide KB) (fun e => by have := ((unhide O1).lt _ e).1; have := unhide ZB; omega)
 have bb4 : Below w.heap.size w w4 := bb.grown g4 (by omega) (fun k e => by have := ((unhide O1).lt k e).1; omega)
 have hcv := conv_own o4
 clear g4
 refine (unhide HK).out _ _ (cells7 kb4) (fun hHeld => ?_)
 clear HK K
 try simp only [List.setIfInBounds_toArray, List.set_cons_zero, List.set_cons_succ]
 refine wpAnyH_ready (rs := [7]) (by kernel_rfl) (by simp) (AllReadyH.cons (ops_drop rfl) (fun K hK => ?_) AllReadyH.nil)
 have HK := hide hK
 clear hK hHeld
 go_simp
 go_simp
 refine (unhide HK).out _ _ (cells7 kb4) (fun hHeld => ?_)
 clear HK K
 try simp only [List.setIfInBounds_toArray, List.set_cons_zero, List.set_cons_succ]
 refine wpAnyH_ready (rs := [8]) (by kernel_rfl) (by simp) (AllReadyH.cons (ops_drop rfl) (fun K hK => ?_) AllReadyH.nil)
 have HK := hide hK
 clear hK hHeld
 go_simp
 go_simp
 refine (unhide HK).out _ _ (cells7 kb4) (fun hHeld => ?_)
 clear HK K
 try simp only [List.setIfInBounds_toArray, List.set_cons_zero, List.set_cons_succ]
 refine wpAnyH_done (by kernel_rfl) ?_ _
 clear hHeld
 go_wp2_with fail
 go_ret
 exact ⟨rfl, bb4⟩

set_option maxHeartbeats 1000000 in
set_option maxRecDepth 100000 in
theorem dataKey_N {na : Option Addr} {nc : Nat} {ta : Option Addr} {tc : Nat} {xa : Option Addr} {xc : Nat} {ia : Option Addr} {ic : Nat} {nm to : List (List Int)} {tx nu : List Int} {tt ad : Int} {w : World} {D : List Int} {ty : Int} (hk : kindV ty = .iface 164 (.agg #[.slice none 0 0])) (hto : typeOk ty = true) (ht0 : 0 ≤ ty) (ht1 : ty ≤ 65535) (hD : D.length ≤ 1000)
  (PA : ∀ w1, Below w.heap.size w w1 → Calls Tryz.prog 214 #[.agg #[.slice ta to.length tc]] w1 fun e w' => ∃ v', e = .returned v' ∧ Own w1.heap.size 5 w' v' D ∧ Below w1.heap.size w1 w') :
  Calls Tryz.prog 111 #[.agg #[.slice na nm.length nc, .int .i64 ty, .int .i64 tt, .int .i64 ad, .slice ta to.length tc, .slice xa tx.length xc, .slice ia nu.length ic]] w fun e w' => e = .returned (.string (strOfNums ([] ++ [ty / 256, ty % 256] ++ D))) ∧ Below w.heap.size w w' := by
 have b0 := below_alloc (w := w) (.cells #[.slice na nm.length nc, .int .i64 ty, .int .i64 tt, .int .i64 ad, .slice ta to.length tc, .slice xa tx.length xc, .slice ia nu.length ic] 52)
 have KB := hide (heap_alloc_new w (.cells #[.slice na nm.length nc, .int .i64 ty, .int .i64 tt, .int .i64 ad, .slice ta to.length tc, .slice xa tx.length xc, .slice ia nu.length ic] 52))
 have QA := hide PA
 have HKK := hide hk
 have HTO := hide hto
 clear hk hto
 clear PA
 go_enter Tryz.func111, Tryz.ntmps111
 go_wp2_with fail
 generalize w.alloc (.cells #[.slice na nm.length nc, .int .i64 ty, .int .i64 tt, .int .i64 ad, .slice ta to.length tc, .slice xa tx.length xc, .slice ia nu.length ic] 52) = W at *
 have bd := below_drew (w := W)
 have bb := below_next b0 bd
 replace KB := hide (block_kept bd (unhide KB))
 have z0 := bb.size
 clear bd b0
 refine wp_region_held_drew (S := (fun w' => w'.cell? ⟨w.heap.size, 0, none⟩ = some (.slice na nm.length nc) ∧ w'.cell? ⟨w.heap.size, 1, none⟩ = some (.int .i64 ty) ∧ w'.cell? ⟨w.heap.size, 2, none⟩ = some (.int .i64 tt) ∧ w'.cell? ⟨w.heap.size, 3, none⟩ = some (.int .i64 ad) ∧ w'.cell? ⟨w.heap.size, 4, none⟩ = some (.slice ta to.length tc) ∧ w'.cell? ⟨w.heap.size, 5, none⟩ = some (.slice xa tx.length xc) ∧ w'.cell? ⟨w.heap.size, 6, none⟩ = some (.slice ia nu.length ic))) (by kernel_rfl) (cells7 (unhide KB)) (fun hHeld => ?_)
 show wpAnyH _ _ _ _ _ 9 #[false, false, false, false, false, false, false, false, false] _ _
 generalize W.drew = W0 at *
 have ZB := hide (block_lt (unhide KB))
 refine tkF (.pointer (some ⟨w.heap.size, 1, none⟩)) rfl (by kernel_rfl) (by kernel_rfl) (fun _ _ _ h => h) ?_ hHeld ?_; (· (intro w hSw; (try dsimp only at hSw); go_simp)); simp only [Act.put, setF, List.setIfInBounds_toArray, List.set_cons_zero, List.set_cons_succ]
 refine tkF (.int .i64 ty) rfl (by kernel_rfl) (by kernel_rfl) (fun _ _ _ h => h) ?_ hHeld ?_; (· (intro w hSw; (try dsimp only at hSw); go_simp)); simp only [Act.put, setF, List.setIfInBounds_toArray, List.set_cons_zero, List.set_cons_succ]
 refine tkI 3 (.agg #[.slice na nm.length nc, .int .i64 ty, .int .i64 tt, .int .i64 ad, .slice ta to.length tc, .slice xa tx.length xc, .slice ia nu.length ic]) rfl (by kernel_rfl) (by kernel_rfl) (fun _ _ _ h => h) ?_ hHeld ?_
 ·(intro w hSw; (try dsimp only at hSw); go_simp)
 try simp only [Act.put, List.setIfInBounds_toArray, List.set_cons_zero, List.set_cons_succ]
 refine wpAnyH_ready (rs := [2]) (by kernel_rfl) (by simp) (AllReadyH.cons (ops_drop rfl) (fun K hK => ?_) AllReadyH.nil)
 have HK := hide hK
 clear hK hHeld
 go_simp
 refine (implPut16_yes (B := 0) ty (own_none 0 5 _) (by simp) (by omega) (by omega)).mono ?_
 rintro e w1 ⟨v1, rfl, o1, b1⟩
 obtain ⟨p1, q1, hv1, _⟩ := o1.lies
 replace hv1 : v1 = .slice p1 2 q1 := hv1
 subst hv1
 replace KB := hide (block_kept b1 (unhide KB))
 replace bb := below_next bb b1
 have z1 := b1.size
 have O1 := hide o1
 clear o1 b1
 go_simp
 refine (unhide HK).out _ _ (cells7 (unhide KB)) (fun hHeld => ?_)
 clear HK K
 try simp only [List.setIfInBounds_toArray, List.set_cons_zero, List.set_cons_succ]
 refine wpAnyH_ready (rs := [4]) (by kernel_rfl) (by simp) (AllReadyH.cons (ops_drop rfl) (fun K hK => ?_) AllReadyH.nil)
 have HK := hide hK
 clear hK hHeld
 go_simp
 refine (dataOf_N (na := na) (nc := nc) (ta := ta) (tc := tc) (xa := xa) (xc := xc) (ia := ia) (ic := ic) (nm := nm) (to := to) (tx := tx) (nu := nu) (tt := tt) (ad := ad) (unhide HKK) (unhide HTO)).mono ?_
 rintro e w2 ⟨rfl, b2⟩
 replace KB := hide (block_kept b2 (unhide KB))
 replace bb := below_next bb b2
 have z2 := b2.size
 replace O1 := hide ((unhide O1).below b2)
 clear b2
 go_simp
 refine (unhide HK).out _ _ (cells7 (unhide KB)) (fun hHeld => ?_)
 clear HK K
 try simp only [List.setIfInBounds_toArray, List.set_cons_zero, List.set_cons_succ]
 refine wpAnyH_ready (rs := [5]) (by kernel_rfl) (by simp) (AllReadyH.cons (ops_drop rfl) (fun K hK => ?_) AllReadyH.nil)
 have HK := hide hK
 clear hK hHeld
 go_simp
 refine (unhide QA _ bb).mono ?_
 rintro e w3 ⟨v3, rfl, o3, b3⟩
 obtain ⟨p3, q3, hv3, _⟩ := o3.lies
 subst hv3
 replace KB := hide (block_kept b3 (unhide KB))
 replace bb := below_next bb b3
 have z3 := b3.size
 replace O1 := hide ((unhide O1).below b3)
 have O3 := hide o3
 clear o3 b3
 go_simp
 refine (unhide HK).out _ _ (cells7 (unhide KB)) (fun hHeld => ?_)
 clear HK K
 try simp only [List.setIfInBounds_toArray, List.set_cons_zero, List.set_cons_succ]
 refine wpAnyH_ready (rs := [6]) (by kernel_rfl) (by simp) (AllReadyH.cons (ops_drop rfl) (fun K hK => ?_) AllReadyH.nil)
 have HK := hide hK
 clear hK hHeld
 refine step_append_bytes rfl (.tmp 5) (.tmp 8) 44 5 rfl Tryz.underlying44 info_u8 W0.heap.size (.slice p1 2 q1) (.slice p3 D.length q3) ([] ++ [ty / 256, ty % 256]) D (by simp [Act.eval]) (by simp [Act.eval]) (unhide O1) (unhide O3).reads (by simp; omega) (by omega) ?_
 intro v4 w4 o4 g4
 have b4 : Below W0.heap.size w3 w4 := (Below.refl _ w3).grown g4 (by omega) (fun k e => ((unhide O1).lt k e).1)
 have kb4 := block_grown g4 (unhide KB) (fun e => by have := ((unhide O1).lt _ e).1; have := unhide ZB; omega)
 have bb4 : Below w.heap.size w w4 := bb.grown g4 (by omega) (fun k e => by have := ((unhide O1).lt k e).1; omega)
 have hcv := conv_own o4
 clear g4
 refine (unhide HK).out _ _ (cells7 kb4) (fun hHeld => ?_)
 clear HK K
 try simp only [List.setIfInBounds_toArray, List.set_cons_zero, List.set_cons_succ]
 refine wpAnyH_ready (rs := [7]) (by kernel_rfl) (by simp) (AllReadyH.cons (ops_drop rfl) (fun K hK => ?_) AllReadyH.nil)
 have HK := hide hK
 clear hK hHeld
 go_simp
 go_simp
 refine (unhide HK).out _ _ (cells7 kb4) (fun hHeld => ?_)
 clear HK K
 try simp only [List.setIfInBounds_toArray, List.set_cons_zero, List.set_cons_succ]
 refine wpAnyH_ready (rs := [8]) (by kernel_rfl) (by simp) (AllReadyH.cons (ops_drop rfl) (fun K hK => ?_) AllReadyH.nil)
 have HK := hide hK
 clear hK hHeld
 go_simp
 go_simp
 refine (unhide HK).out _ _ (cells7 kb4) (fun hHeld => ?_)
 clear HK K
 try simp only [List.setIfInBounds_toArray, List.set_cons_zero, List.set_cons_succ]
 refine wpAnyH_done (by kernel_rfl) ?_ _
 clear hHeld
 go_wp2_with fail
 go_ret
 exact ⟨rfl, bb4⟩

set_option maxHeartbeats 1000000 in
set_option maxRecDepth 100000 in
theorem dataKey_S {na : Option Addr} {nc : Nat} {ta : Option Addr} {tc : Nat} {xa : Option Addr} {xc : Nat} {ia : Option Addr} {ic : Nat} {nm to : List (List Int)} {tx nu : List Int} {tt ad : Int} {w : World} {D : List Int} (hD : D.length ≤ 1000)
  (PA : ∀ w1, Below w.heap.size w w1 → Calls Tryz.prog 220 #[.agg #[.slice ta to.length tc, .slice ia nu.length ic]] w1 fun e w' => ∃ v', e = .returned v' ∧ Own w1.heap.size 5 w' v' D ∧ Below w1.heap.size w1 w') :
  Calls Tryz.prog 111 #[.agg #[.slice na nm.length nc, .int .i64 6, .int .i64 tt, .int .i64 ad, .slice ta to.length tc, .slice xa tx.length xc, .slice ia nu.length ic]] w fun e w' => e = .returned (.string (strOfNums ([] ++ [6 / 256, 6 % 256] ++ D))) ∧ Below w.heap.size w w' := by
 have b0 := below_alloc (w := w) (.cells #[.slice na nm.length nc, .int .i64 6, .int .i64 tt, .int .i64 ad, .slice ta to.length tc, .slice xa tx.length xc, .slice ia nu.length ic] 52)
 have KB := hide (heap_alloc_new w (.cells #[.slice na nm.length nc, .int .i64 6, .int .i64 tt, .int .i64 ad, .slice ta to.length tc, .slice xa tx.length xc, .slice ia nu.length ic] 52))
 have QA := hide PA
 clear PA
 go_enter Tryz.func111, Tryz.ntmps111
 go_wp2_with fail
 generalize w.alloc (.cells #[.slice na nm.length nc, .int .i64 6, .int .i64 tt, .int .i64 ad, .slice ta to.length tc, .slice xa tx.length xc, .slice ia nu.length ic] 52) = W at *
 have bd := below_drew (w := W)
 have bb := below_next b0 bd
 replace KB := hide (block_kept bd (unhide KB))
 have z0 := bb.size
 clear bd b0
 refine wp_region_held_drew (S := (fun w' => w'.cell? ⟨w.heap.size, 0, none⟩ = some (.slice na nm.length nc) ∧ w'.cell? ⟨w.heap.size, 1, none⟩ = some (.int .i64 6) ∧ w'.cell? ⟨w.heap.size, 2, none⟩ = some (.int .i64 tt) ∧ w'.cell? ⟨w.heap.size, 3, none⟩ = some (.int .i64 ad) ∧ w'.cell? ⟨w.heap.size, 4, none⟩ = some (.slice ta to.length tc) ∧ w'.cell? ⟨w.heap.size, 5, none⟩ = some (.slice xa tx.length xc) ∧ w'.cell? ⟨w.heap.size, 6, none⟩ = some (.slice ia nu.length ic))) (by kernel_rfl) (cells7 (unhide KB)) (fun hHeld => ?_)
 show wpAnyH _ _ _ _ _ 9 #[false, false, false, false, false, false, false, false, false] _ _
 generalize W.drew = W0 at *
 have ZB := hide (block_lt (unhide KB))
 refine tkF (.pointer (some ⟨w.heap.size, 1, none⟩)) rfl (by kernel_rfl) (by kernel_rfl) (fun _ _ _ h => h) ?_ hHeld ?_; (· (intro w hSw; (try dsimp only at hSw); go_simp)); simp only [Act.put, setF, List.setIfInBounds_toArray, List.set_cons_zero, List.set_cons_succ]
 refine tkF (.int .i64 6) rfl (by kernel_rfl) (by kernel_rfl) (fun _ _ _ h => h) ?_ hHeld ?_; (· (intro w hSw; (try dsimp only at hSw); go_simp)); simp only [Act.put, setF, List.setIfInBounds_toArray, List.set_cons_zero, List.set_cons_succ]
 refine tkI 3 (.agg #[.slice na nm.length nc, .int .i64 6, .int .i64 tt, .int .i64 ad, .slice ta to.length tc, .slice xa tx.length xc, .slice ia nu.length ic]) rfl (by kernel_rfl) (by kernel_rfl) (fun _ _ _ h => h) ?_ hHeld ?_
 ·(intro w hSw; (try dsimp only at hSw); go_simp)
 try simp only [Act.put, List.setIfInBounds_toArray, List.set_cons_zero, List.set_cons_succ]
 refine wpAnyH_ready (rs := [2]) (by kernel_rfl) (by simp) (AllReadyH.cons (ops_drop rfl) (fun K hK => ?_) AllReadyH.nil)
 have HK := hide hK
 clear hK hHeld
 go_simp
 refine (implPut16_yes (B := 0) 6 (own_none 0 5 _) (by simp) (by omega) (by omega)).mono ?_
 rintro e w1 ⟨v1, rfl, o1, b1⟩
 obtain ⟨p1, q1, hv1, _⟩ := o1.lies
 replace hv1 : v1 = .slice p1 2 q1 := hv1
 subst hv1
 replace KB := hide (block_kept b1 (unhide KB))
 replace bb := below_next bb b1
 have z1 := b1.size
 have O1 := hide o1
 clear o1 b1
 go_simp
 refine (unhide HK).out _ _ (cells7 (unhide KB)) (fun hHeld => ?_)
 clear HK K
 try simp only [List.setIfInBounds_toArray, List.set_cons_zero, List.set_cons_succ]
 refine wpAnyH_ready (rs := [4]) (by kernel_rfl) (by simp) (AllReadyH.cons (ops_drop rfl) (fun K hK => ?_) AllReadyH.nil)
 have HK := hide hK
 clear hK hHeld
 go_simp
 refine (dataOf_S (na := na) (nc := nc) (ta := ta) (tc := tc) (xa := xa) (xc := xc) (ia := ia) (ic := ic) (nm := nm) (to := to) (tx := tx) (nu := nu) (tt := tt) (ad := ad)).mono ?_
 rintro e w2 ⟨rfl, b2⟩
 replace KB := hide (block_kept b2 (unhide KB))
 replace bb := below_next bb b2
 have z2 := b2.size
 replace O1 := hide ((unhide O1).below b2)
 clear b2
 go_simp
 refine (unhide HK).out _ _ (cells7 (unhide KB)) (fun hHeld => ?_)
 clear HK K
 try simp only [List.setIfInBounds_toArray, List.set_cons_zero, List.set_cons_succ]
 refine wpAnyH_ready (rs := [5]) (by kernel_rfl) (by simp) (AllReadyH.cons (ops_drop rfl) (fun K hK => ?_) AllReadyH.nil)
 have HK := hide hK
 clear hK hHeld
 go_simp
 refine (unhide QA _ bb).mono ?_
 rintro e w3 ⟨v3, rfl, o3, b3⟩
 obtain ⟨p3, q3, hv3, _⟩ := o3.lies
 subst hv3
 replace KB := hide (block_kept b3 (unhide KB))
 replace bb := below_next bb b3
 have z3 := b3.size
 replace O1 := hide ((unhide O1).below b3)
 have O3 := hide o3
 clear o3 b3
 go_simp
 refine (unhide HK).out _ _ (cells7 (unhide KB)) (fun hHeld => ?_)
 clear HK K
 try simp only [List.setIfInBounds_toArray, List.set_cons_zero, List.set_cons_succ]
 refine wpAnyH_ready (rs := [6]) (by kernel_rfl) (by simp) (AllReadyH.cons (ops_drop rfl) (fun K hK => ?_) AllReadyH.nil)
 have HK := hide hK
 clear hK hHeld
 refine step_append_bytes rfl (.tmp 5) (.tmp 8) 44 5 rfl Tryz.underlying44 info_u8 W0.heap.size (.slice p1 2 q1) (.slice p3 D.length q3) ([] ++ [6 / 256, 6 % 256]) D (by simp [Act.eval]) (by simp [Act.eval]) (unhide O1) (unhide O3).reads (by simp; omega) (by omega) ?_
 intro v4 w4 o4 g4
 have b4 : Below W0.heap.size w3 w4 := (Below.refl _ w3).grown g4 (by omega) (fun k e => ((unhide O1).lt k e).1)
 have kb4 := block_grown g4 (unhide KB) (fun e => by have := ((unhide O1).lt _ e).1; have := unhide ZB; omega)
 have bb4 : Below w.heap.size w w4 := bb.grown g4 (by omega) (fun k e => by have := ((unhide O1).lt k e).1; omega)
 have hcv := conv_own o4
 clear g4
 refine (unhide HK).out _ _ (cells7 kb4) (fun hHeld => ?_)
 clear HK K
 try simp only [List.setIfInBounds_toArray, List.set_cons_zero, List.set_cons_succ]
 refine wpAnyH_ready (rs := [7]) (by kernel_rfl) (by simp) (AllReadyH.cons (ops_drop rfl) (fun K hK => ?_) AllReadyH.nil)
 have HK := hide hK
 clear hK hHeld
 go_simp
 go_simp
 refine (unhide HK).out _ _ (cells7 kb4) (fun hHeld => ?_)
 clear HK K
 try simp only [List.setIfInBounds_toArray, List.set_cons_zero, List.set_cons_succ]
 refine wpAnyH_ready (rs := [8]) (by kernel_rfl) (by simp) (AllReadyH.cons (ops_drop rfl) (fun K hK => ?_) AllReadyH.nil)
 have HK := hide hK
 clear hK hHeld
 go_simp
 go_simp
 refine (unhide HK).out _ _ (cells7 kb4) (fun hHeld => ?_)
 clear HK K
 try simp only [List.setIfInBounds_toArray, List.set_cons_zero, List.set_cons_succ]
 refine wpAnyH_done (by kernel_rfl) ?_ _
 clear hHeld
 go_wp2_with fail
 go_ret
 exact ⟨rfl, bb4⟩

set_option maxHeartbeats 1000000 in
set_option maxRecDepth 100000 in
theorem dataKey_X {na : Option Addr} {nc : Nat} {ta : Option Addr} {tc : Nat} {xa : Option Addr} {xc : Nat} {ia : Option Addr} {ic : Nat} {nm to : List (List Int)} {tx nu : List Int} {tt ad : Int} {w : World} {D : List Int} {ty : Int} (hk : kindV ty = .iface 168 (.agg #[.slice none 0 0])) (hto : typeOk ty = true) (ht0 : 0 ≤ ty) (ht1 : ty ≤ 65535) (hD : D.length ≤ 1000)
  (PA : ∀ w1, Below w.heap.size w w1 → Calls Tryz.prog 224 #[.agg #[.slice xa tx.length xc]] w1 fun e w' => ∃ v', e = .returned v' ∧ Own w1.heap.size 5 w' v' D ∧ Below w1.heap.size w1 w') :
  Calls Tryz.prog 111 #[.agg #[.slice na nm.length nc, .int .i64 ty, .int .i64 tt, .int .i64 ad, .slice ta to.length tc, .slice xa tx.length xc, .slice ia nu.length ic]] w fun e w' => e = .returned (.string (strOfNums ([] ++ [ty / 256, ty % 256] ++ D))) ∧ Below w.heap.size w w' := by
 have b0 := below_alloc (w := w) (.cells #[.slice na nm.length nc, .int .i64 ty, .int .i64 tt, .int .i64 ad, .slice ta to.length tc, .slice xa tx.length xc, .slice ia nu.length ic] 52)
 have KB := hide (heap_alloc_new w (.cells #[.slice na nm.length nc, .int .i64 ty, .int .i64 tt, .int .i64 ad, .slice ta to.length tc, .slice xa tx.length xc, .slice ia nu.length ic] 52))
 have QA := hide PA
 have HKK := hide hk
 have HTO := hide hto
 clear hk hto
 clear PA
 go_enter Tryz.func111, Tryz.ntmps111
 go_wp2_with fail
 generalize w.alloc (.cells #[.slice na nm.length nc, .int .i64 ty, .int .i64 tt, .int .i64 ad, .slice ta to.length tc, .slice xa tx.length xc, .slice ia nu.length ic] 52) = W at *
 have bd := below_drew (w := W)
 have bb := below_next b0 bd
 replace KB := hide (block_kept bd (unhide KB))
 have z0 := bb.size
 clear bd b0
 refine wp_region_held_drew (S := (fun w' => w'.cell? ⟨w.heap.size, 0, none⟩ = some (.slice na nm.length nc) ∧ w'.cell? ⟨w.heap.size, 1, none⟩ = some (.int .i64 ty) ∧ w'.cell? ⟨w.heap.size, 2, none⟩ = some (.int .i64 tt) ∧ w'.cell? ⟨w.heap.size, 3, none⟩ = some (.int .i64 ad) ∧ w'.cell? ⟨w.heap.size, 4, none⟩ = some (.slice ta to.length tc) ∧ w'.cell? ⟨w.heap.size, 5, none⟩ = some (.slice xa tx.length xc) ∧ w'.cell? ⟨w.heap.size, 6, none⟩ = some (.slice ia nu.length ic))) (by kernel_rfl) (cells7 (unhide KB)) (fun hHeld => ?_)
 show wpAnyH _ _ _ _ _ 9 #[false, false, false, false, false, false, false, false, false] _ _
 generalize W.drew = W0 at *
 have ZB := hide (block_lt (unhide KB))
 refine tkF (.pointer (some ⟨w.heap.size, 1, none⟩)) rfl (by kernel_rfl) (by kernel_rfl) (fun _ _ _ h => h) ?_ hHeld ?_; (· (intro w hSw; (try dsimp only at hSw); go_simp)); simp only [Act.put, setF, List.setIfInBounds_toArray, List.set_cons_zero, List.set_cons_succ]
 refine tkF (.int .i64 ty) rfl (by kernel_rfl) (by kernel_rfl) (fun _ _ _ h => h) ?_ hHeld ?_; (· (intro w hSw; (try dsimp only at hSw); go_simp)); simp only [Act.put, setF, List.setIfInBounds_toArray, List.set_cons_zero, List.set_cons_succ]
 refine tkI 3 (.agg #[.slice na nm.length nc, .int .i64 ty, .int .i64 tt, .int .i64 ad, .slice ta to.length tc, .slice xa tx.length xc, .slice ia nu.length ic]) rfl (by kernel_rfl) (by kernel_rfl) (fun _ _ _ h => h) ?_ hHeld ?_
 ·(intro w hSw; (try dsimp only at hSw); go_simp)
 try simp only [Act.put, List.setIfInBounds_toArray, List.set_cons_zero, List.set_cons_succ]
 refine wpAnyH_ready (rs := [2]) (by kernel_rfl) (by simp) (AllReadyH.cons (ops_drop rfl) (fun K hK => ?_) AllReadyH.nil)
 have HK := hide hK
 clear hK hHeld
 go_simp
 refine (implPut16_yes (B := 0) ty (own_none 0 5 _) (by simp) (by omega) (by omega)).mono ?_
 rintro e w1 ⟨v1, rfl, o1, b1⟩
 obtain ⟨p1, q1, hv1, _⟩ := o1.lies
 replace hv1 : v1 = .slice p1 2 q1 := hv1
 subst hv1
 replace KB := hide (block_kept b1 (unhide KB))
 replace bb := below_next bb b1
 have z1 := b1.size
 have O1 := hide o1
 clear o1 b1
 go_simp
 refine (unhide HK).out _ _ (cells7 (unhide KB)) (fun hHeld => ?_)
 clear HK K
 try simp only [List.setIfInBounds_toArray, List.set_cons_zero, List.set_cons_succ]
 refine wpAnyH_ready (rs := [4]) (by kernel_rfl) (by simp) (AllReadyH.cons (ops_drop rfl) (fun K hK => ?_) AllReadyH.nil)
 have HK := hide hK
 clear hK hHeld
 go_simp
 refine (dataOf_X (na := na) (nc := nc) (ta := ta) (tc := tc) (xa := xa) (xc := xc) (ia := ia) (ic := ic) (nm := nm) (to := to) (tx := tx) (nu := nu) (tt := tt) (ad := ad) (unhide HKK) (unhide HTO)).mono ?_
 rintro e w2 ⟨rfl, b2⟩
 replace KB := hide (block_kept b2 (unhide KB))
 replace bb := below_next bb b2
 have z2 := b2.size
 replace O1 := hide ((unhide O1).below b2)
 clear b2
 go_simp
 refine (unhide HK).out _ _ (cells7 (unhide KB)) (fun hHeld => ?_)
 clear HK K
 try simp only [List.setIfInBounds_toArray, List.set_cons_zero, List.set_cons_succ]
 refine wpAnyH_ready (rs := [5]) (by kernel_rfl) (by simp) (AllReadyH.cons (ops_drop rfl) (fun K hK => ?_) AllReadyH.nil)
 have HK := hide hK
 clear hK hHeld
 go_simp
 refine (unhide QA _ bb).mono ?_
 rintro e w3 ⟨v3, rfl, o3, b3⟩
 obtain ⟨p3, q3, hv3, _⟩ := o3.lies
 subst hv3
 replace KB := hide (block_kept b3 (unhide KB))
 replace bb := below_next bb b3
 have z3 := b3.size
 replace O1 := hide ((unhide O1).below b3)
 have O3 := hide o3
 clear o3 b3
 go_simp
 refine (unhide HK).out _ _ (cells7 (unhide KB)) (fun hHeld => ?_)
 clear HK K
 try simp only [List.setIfInBounds_toArray, List.set_cons_zero, List.set_cons_succ]
 refine wpAnyH_ready (rs := [6]) (by kernel_rfl) (by simp) (AllReadyH.cons (ops_drop rfl) (fun K hK => ?_) AllReadyH.nil)
 have HK := hide hK
 clear hK hHeld
 refine step_append_bytes rfl (.tmp 5) (.tmp 8) 44 5 rfl Tryz.underlying44 info_u8 W0.heap.size (.slice p1 2 q1) (.slice p3 D.length q3) ([] ++ [ty / 256, ty % 256]) D (by simp [Act.eval]) (by simp [Act.eval]) (unhide O1) (unhide O3).reads (by simp; omega) (by omega) ?_
 intro v4 w4 o4 g4
 have b4 : Below W0.heap.size w3 w4 := (Below.refl _ w3).grown g4 (by omega) (fun k e => ((unhide O1).lt k e).1)
 have kb4 := block_grown g4 (unhide KB) (fun e => by have := ((unhide O1).lt _ e).1; have := unhide ZB; omega)
 have bb4 : Below w.heap.size w w4 := bb.grown g4 (by omega) (fun k e => by have := ((unhide O1).lt k e).1; omega)
 have hcv := conv_own o4
 clear g4
 refine (unhide HK).out _ _ (cells7 kb4) (fun hHeld => ?_)
 clear HK K
 try simp only [List.setIfInBounds_toArray, List.set_cons_zero, List.set_cons_succ]
 refine wpAnyH_ready (rs := [7]) (by kernel_rfl) (by simp) (AllReadyH.cons (ops_drop rfl) (fun K hK => ?_) AllReadyH.nil)
 have HK := hide hK
 clear hK hHeld
 go_simp
 go_simp
 refine (unhide HK).out _ _ (cells7 kb4) (fun hHeld => ?_)
 clear HK K
 try simp only [List.setIfInBounds_toArray, List.set_cons_zero, List.set_cons_succ]
 refine wpAnyH_ready (rs := [8]) (by kernel_rfl) (by simp) (AllReadyH.cons (ops_drop rfl) (fun K hK => ?_) AllReadyH.nil)
 have HK := hide hK
 clear hK hHeld
 go_simp
 go_simp
 refine (unhide HK).out _ _ (cells7 kb4) (fun hHeld => ?_)
 clear HK K
 try simp only [List.setIfInBounds_toArray, List.set_cons_zero, List.set_cons_succ]
 refine wpAnyH_done (by kernel_rfl) ?_ _
 clear hHeld
 go_wp2_with fail
 go_ret
 exact ⟨rfl, bb4⟩

theorem dataKey_has {vn vt vx vi : Value} {r : Rec} {w : World} (h : HasR w vn vt vx vi r) (hok : rrOk r = true) :
  Calls Tryz.prog 111 #[.agg #[vn, .int .i64 r.type, .int .i64 r.ttl, .int .i64 r.addr, vt, vx, vi]] w fun e w' => e = .returned (.string (strOfNums (keyD r))) ∧ Below w.heap.size w w' := by
 obtain ⟨_, ht, _, _, hd⟩ := rrOk_parts hok
 have hlen : (dataB r).length ≤ 1000 := Nat.le_trans (dataB_length hok) (by omega)
 obtain ⟨na, nc, rfl, _⟩ := h.name.form
 obtain ⟨ta, tc, rfl, _⟩ := h.to.form
 obtain ⟨xa, xc, rfl, _⟩ := h.text.form
 obtain ⟨ia, ic, rfl, _⟩ := h.nums.form
 unfold keyD
 rcases data_kinds ht hd with ⟨e, h0, h1, eb⟩ | ⟨e, hn, eb⟩ | ⟨e, hn, x, y, exy, _, _, _, _, eb⟩ | ⟨e, hx, eb⟩
 all_goals
  rw [eb] at hlen ⊢
  obtain ⟨nm, ty, tt, ad, to, tx, nu⟩ := r
  simp only at *
 ·subst e
  exact dataKey_A hlen (fun w1 _ => addrPut_any ad w1)
 ·exact dataKey_N (kindV_N e) ht (by omega) (by omega) hlen (fun w1 hb => namePutM_has (h.to.below hb) hn)
 ·subst e exy
  exact dataKey_S hlen (fun w1 hb => soaPut_has (h.to.below hb) (h.nums.below hb) hn)
 ·exact dataKey_X (kindV_X e) ht (by omega) (by omega) hlen (fun w1 hb => textPut_has (h.text.below hb) hx)
end Go.Proofs.YtmlcmkoefelolaaGreat
