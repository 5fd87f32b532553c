/-
  Contracts of the program's RrCmp, kind by kind, and of its RrSame. Plain facts: a name that ends with another, and the end of a list of texts in memory. No program is named here. Plain facts: the order of names is one. No program is named here.
-/
import Derived.Test.YtdghbcjlahjjdaaGreatZoneDiffG14
import Derived.Test.YtdghbcjlahjjdaaGreatZoneDiffG18
import Derived.Test.YtdghbcjlahjjdaaGreatZoneDiffG19
import Derived.Test.YtdghbcjlahjjdaaGreatZoneDiffG05
import Derived.Deep.RegionHeld3
import Derived.Deep.RegionWith
import Derived.Test.YtdghbcjlahjjdaaGreatZoneDiffG20
namespace Go.Proofs.YtdghbcjlahjjdaaGreat
open Go.RowKit
set_option linter.unusedVariables false

set_option maxHeartbeats 2000000 in
set_option maxRecDepth 100000 in
theorem rrCmpData_A {na : Option Addr} {nc : Nat} {ta : Option Addr} {tc : Nat} {xa : Option Addr} {xc : Nat} {ia : Option Addr} {ic : Nat} {nm to : List (List Int)} {tx nu : List Int} {tt ad : Int} {na' : Option Addr} {nc' : Nat} {ta' : Option Addr} {tc' : Nat} {xa' : Option Addr} {xc' : Nat} {ia' : Option Addr} {ic' : Nat} {nm' to' : List (List Int)} {tx' nu' : List Int} {tt' ad' : Int} {w : World} {DA DB : List Int} (h : HasR w (.slice na nm.length nc) (.slice ta to.length tc) (.slice xa tx.length xc) (.slice ia nu.length ic) ⟨nm, 1, tt, ad, to, tx, nu⟩) (h' : HasR w (.slice na' nm'.length nc') (.slice ta' to'.length tc') (.slice xa' tx'.length xc') (.slice ia' nu'.length ic') ⟨nm', 1, tt', ad', to', tx', nu'⟩) (ha : rrOk ⟨nm, 1, tt, ad, to, tx, nu⟩ = true) (hb : rrOk ⟨nm', 1, tt', ad', to', tx', nu'⟩ = true) (hc : nameCmp nm nm' = 0)
    (PA : ∀ w1, Below w.heap.size w w1 → Calls Tryz.prog 218 #[.agg #[.int .i64 ad]] w1 fun e w' => ∃ v', e = .returned v' ∧ Own w1.heap.size 5 w' v' DA ∧ Below w1.heap.size w1 w') (PB : ∀ w1, Below w.heap.size w w1 → Calls Tryz.prog 218 #[.agg #[.int .i64 ad']] w1 fun e w' => ∃ v', e = .returned v' ∧ Own w1.heap.size 5 w' v' DB ∧ Below w1.heap.size w1 w') :
    Calls Tryz.prog 154 #[.agg #[.slice na nm.length nc, .int .i64 1, .int .i64 tt, .int .i64 ad, .slice ta to.length tc, .slice xa tx.length xc, .slice ia nu.length ic], .agg #[.slice na' nm'.length nc', .int .i64 1, .int .i64 tt', .int .i64 ad', .slice ta' to'.length tc', .slice xa' tx'.length xc', .slice ia' nu'.length ic']] w fun e w' => e = .returned (.int .i64 (cmpB DA DB)) ∧ Below w.heap.size w w' := by
  have b0 := below2 w (.cells #[.slice na nm.length nc, .int .i64 1, .int .i64 tt, .int .i64 ad, .slice ta to.length tc, .slice xa tx.length xc, .slice ia nu.length ic] 101) (.cells #[.slice na' nm'.length nc', .int .i64 1, .int .i64 tt', .int .i64 ad', .slice ta' to'.length tc', .slice xa' tx'.length xc', .slice ia' nu'.length ic'] 101)
  obtain ⟨hsz, k0, x0⟩ := box2 w (.cells #[.slice na nm.length nc, .int .i64 1, .int .i64 tt, .int .i64 ad, .slice ta to.length tc, .slice xa tx.length xc, .slice ia nu.length ic] 101) #[.slice na' nm'.length nc', .int .i64 1, .int .i64 tt', .int .i64 ad', .slice ta' to'.length tc', .slice xa' tx'.length xc', .slice ia' nu'.length ic'] 101
  have K0 := hide k0
  have X0 := hide x0
  have H0 := hide (h.below b0)
  have J0 := hide (h'.below b0)
  have HA := hide (fun (w : World) (h : HasR w (.slice na nm.length nc) (.slice ta to.length tc) (.slice xa tx.length xc) (.slice ia nu.length ic) ⟨nm, 1, tt, ad, to, tx, nu⟩) => (show Calls Tryz.prog 143 #[.agg #[.slice na nm.length nc, .int .i64 1, .int .i64 tt, .int .i64 ad, .slice ta to.length tc, .slice xa tx.length xc, .slice ia nu.length ic]] w fun e w' => e = .returned (.bool true) ∧ Below w.heap.size w w' by have q := implRrOk_has h; rw [ha] at q; exact q))
  have HB := hide (fun (w : World) (h : HasR w (.slice na' nm'.length nc') (.slice ta' to'.length tc') (.slice xa' tx'.length xc') (.slice ia' nu'.length ic') ⟨nm', 1, tt', ad', to', tx', nu'⟩) => (show Calls Tryz.prog 143 #[.agg #[.slice na' nm'.length nc', .int .i64 1, .int .i64 tt', .int .i64 ad', .slice ta' to'.length tc', .slice xa' tx'.length xc', .slice ia' nu'.length ic']] w fun e w' => e = .returned (.bool true) ∧ Below w.heap.size w w' by have q := implRrOk_has h; rw [hb] at q; exact q))
  have HC := hide (fun (w : World) (v v' : Value) (h : HasL w v nm) (h' : HasL w v' nm') => (show Calls Tryz.prog 153 #[.agg #[v], .agg #[v']] w fun e w' => e = .returned (.int .i64 0) ∧ Below w.heap.size w w' by have q := implNameCmp_has h h'; rw [hc] at q; exact q))
  have HL := hide (show ∀ w : World, Calls Tryz.prog 171 #[.int .i64 1, .int .i64 1] w fun e w' => e = .returned (.int .i64 0) ∧ w = w' from fun w => by have q := cmpCompare_int 1 1 w; unfold byLength at q; rw [if_neg (by omega), if_neg (by omega)] at q; exact q)
  have QA := hide PA
  have QB := hide PB
  skip
  skip
  clear h h' k0 x0 ha hb hc PA PB 
  go_enter Tryz.func154, Tryz.ntmps154
  go_wp2_with fail
  generalize (w.alloc (.cells #[.slice na nm.length nc, .int .i64 1, .int .i64 tt, .int .i64 ad, .slice ta to.length tc, .slice xa tx.length xc, .slice ia nu.length ic] 101)).alloc (.cells #[.slice na' nm'.length nc', .int .i64 1, .int .i64 tt', .int .i64 ad', .slice ta' to'.length tc', .slice xa' tx'.length xc', .slice ia' nu'.length ic'] 101) = W at *
  refine (unhide HA _ (unhide H0)).mono ?_
  rintro e w1 ⟨rfl, b1⟩
  have bb1 := below_next b0 b1
  have K1 := hide (block_kept b1 (unhide K0))
  have X1 := hide (block_kept b1 (unhide X0))
  have H1 := hide ((unhide H0).below b1)
  have J1 := hide ((unhide J0).below b1)
  clear K0 X0 H0 J0 b1
  obtain ⟨d0, d1, d2, d3, d4, d5, d6⟩ := cells7 (unhide K1)
  obtain ⟨f0, f1, f2, f3, f4, f5, f6⟩ := cells7 (unhide X1)
  go_wp2_with fail
  refine (unhide HB _ (unhide J1)).mono ?_
  rintro e w2 ⟨rfl, b2⟩
  clear d0 d1 d2 d3 d4 d5 d6 f0 f1 f2 f3 f4 f5 f6
  have bb2 := below_next bb1 b2
  have K2 := hide (block_kept b2 (unhide K1))
  have X2 := hide (block_kept b2 (unhide X1))
  have H2 := hide ((unhide H1).below b2)
  have J2 := hide ((unhide J1).below b2)
  clear K1 X1 H1 J1 b2
  obtain ⟨d0, d1, d2, d3, d4, d5, d6⟩ := cells7 (unhide K2)
  obtain ⟨f0, f1, f2, f3, f4, f5, f6⟩ := cells7 (unhide X2)
  go_wp2_with fail
  refine (unhide HC _ _ _ (unhide H2).name (unhide J2).name).mono ?_
  rintro e w3 ⟨rfl, b3⟩
  clear d0 d1 d2 d3 d4 d5 d6 f0 f1 f2 f3 f4 f5 f6
  have bb3 := below_next bb2 b3
  have K3 := hide (block_kept b3 (unhide K2))
  have X3 := hide (block_kept b3 (unhide X2))
  have H3 := hide ((unhide H2).below b3)
  have J3 := hide ((unhide J2).below b3)
  clear K2 X2 H2 J2 b3
  obtain ⟨d0, d1, d2, d3, d4, d5, d6⟩ := cells7 (unhide K3)
  obtain ⟨f0, f1, f2, f3, f4, f5, f6⟩ := cells7 (unhide X3)
  go_wp2_with fail
  refine (unhide HL _).mono ?_
  rintro e w4 ⟨rfl, rfl⟩
  clear d0 d1 d2 d3 d4 d5 d6 f0 f1 f2 f3 f4 f5 f6
  have bd := below_drew (w := w3)
  have bb5 := below_next bb3 bd
  have K5 := hide (block_kept bd (unhide K3))
  have X5 := hide (block_kept bd (unhide X3))
  have H5 := hide ((unhide H3).below bd)
  have J5 := hide ((unhide J3).below bd)
  clear K3 X3 H3 J3 bd
  obtain ⟨d0, d1, d2, d3, d4, d5, d6⟩ := cells7 (unhide K5)
  obtain ⟨f0, f1, f2, f3, f4, f5, f6⟩ := cells7 (unhide X5)
  go_wp2_with fail
  clear d0 d1 d2 d3 d4 d5 d6 f0 f1 f2 f3 f4 f5 f6
  go_region_held3 (fun w' => (w'.cell? ⟨w.heap.size, 0, none⟩ = some (.slice na nm.length nc) ∧ w'.cell? ⟨w.heap.size, 1, none⟩ = some (.int .i64 1) ∧ w'.cell? ⟨w.heap.size, 2, none⟩ = some (.int .i64 tt) ∧ w'.cell? ⟨w.heap.size, 3, none⟩ = some (.int .i64 ad) ∧ w'.cell? ⟨w.heap.size, 4, none⟩ = some (.slice ta to.length tc) ∧ w'.cell? ⟨w.heap.size, 5, none⟩ = some (.slice xa tx.length xc) ∧ w'.cell? ⟨w.heap.size, 6, none⟩ = some (.slice ia nu.length ic)) ∧ (w'.cell? ⟨w.heap.size + 1, 0, none⟩ = some (.slice na' nm'.length nc') ∧ w'.cell? ⟨w.heap.size + 1, 1, none⟩ = some (.int .i64 1) ∧ w'.cell? ⟨w.heap.size + 1, 2, none⟩ = some (.int .i64 tt') ∧ w'.cell? ⟨w.heap.size + 1, 3, none⟩ = some (.int .i64 ad') ∧ w'.cell? ⟨w.heap.size + 1, 4, none⟩ = some (.slice ta' to'.length tc') ∧ w'.cell? ⟨w.heap.size + 1, 5, none⟩ = some (.slice xa' tx'.length xc') ∧ w'.cell? ⟨w.heap.size + 1, 6, none⟩ = some (.slice ia' nu'.length ic')))
    (first | exact ⟨cells7 (unhide K5), cells7 (unhide X5)⟩ | exact ⟨cells7 (block_kept b6 (unhide K5)), cells7 (block_kept b6 (unhide X5))⟩ | exact ⟨cells7 (block_kept q7 (unhide K5)), cells7 (block_kept q7 (unhide X5))⟩ | exact ⟨cells7 (block_kept q8 (unhide K5)), cells7 (block_kept q8 (unhide X5))⟩ | exact ⟨cells7 (block_kept q9 (unhide K5)), cells7 (block_kept q9 (unhide X5))⟩)
    (first
    | (go_at_call_of 164 (Value.slice na nm.length nc); refine (dataOf_A (na := na) (nc := nc) (ta := ta) (tc := tc) (xa := xa) (xc := xc) (ia := ia) (ic := ic) (nm := nm) (to := to) (tx := tx) (nu := nu) (tt := tt) (ad := ad)).mono ?_; rintro e w6 ⟨rfl, b6⟩)
    | (go_at_call_of 164 (Value.slice na' nm'.length nc'); refine (dataOf_A (na := na') (nc := nc') (ta := ta') (tc := tc') (xa := xa') (xc := xc') (ia := ia') (ic := ic') (nm := nm') (to := to') (tx := tx') (nu := nu') (tt := tt') (ad := ad')).mono ?_; rintro e w8 ⟨rfl, b8⟩; have q8 := below_next q7 b8)
    | (go_at_call_of 218 (Value.agg #[Value.int IntKind.i64 ad]); refine (unhide QA _ (below_next bb5 b6)).mono ?_; rintro e w7 ⟨v7, rfl, o7, b7⟩; have q7 := below_next b6 b7)
    | (go_at_call_of 218 (Value.agg #[Value.int IntKind.i64 ad']); refine (unhide QB _ (below_next bb5 q8)).mono ?_; rintro e w9 ⟨v9, rfl, o9, b9⟩; have q9 := below_next q8 b9)
    | (go_at_call 170; refine (bytesCompare_has (o7.below (below_next b8 b9)).has o9.has).mono ?_; rintro e w10 ⟨rfl, rfl⟩))
  go_wp2_with fail
  go_ret
  exact ⟨rfl, below_next bb5 q9⟩

set_option maxHeartbeats 2000000 in
set_option maxRecDepth 100000 in
theorem rrCmpData_N {na : Option Addr} {nc : Nat} {ta : Option Addr} {tc : Nat} {xa : Option Addr} {xc : Nat} {ia : Option Addr} {ic : Nat} {nm to : List (List Int)} {tx nu : List Int} {tt ad : Int} {na' : Option Addr} {nc' : Nat} {ta' : Option Addr} {tc' : Nat} {xa' : Option Addr} {xc' : Nat} {ia' : Option Addr} {ic' : Nat} {nm' to' : List (List Int)} {tx' nu' : List Int} {tt' ad' : Int} {w : World} {DA DB : List Int} {ty : Int} (hk : kindV ty = .iface 189 (.agg #[.slice none 0 0])) (hto : typeOk ty = true) (h : HasR w (.slice na nm.length nc) (.slice ta to.length tc) (.slice xa tx.length xc) (.slice ia nu.length ic) ⟨nm, ty, tt, ad, to, tx, nu⟩) (h' : HasR w (.slice na' nm'.length nc') (.slice ta' to'.length tc') (.slice xa' tx'.length xc') (.slice ia' nu'.length ic') ⟨nm', ty, tt', ad', to', tx', nu'⟩) (ha : rrOk ⟨nm, ty, tt, ad, to, tx, nu⟩ = true) (hb : rrOk ⟨nm', ty, tt', ad', to', tx', nu'⟩ = true) (hc : nameCmp nm nm' = 0)
    (PA : ∀ w1, Below w.heap.size w w1 → Calls Tryz.prog 222 #[.agg #[.slice ta to.length tc]] w1 fun e w' => ∃ v', e = .returned v' ∧ Own w1.heap.size 5 w' v' DA ∧ Below w1.heap.size w1 w') (PB : ∀ w1, Below w.heap.size w w1 → Calls Tryz.prog 222 #[.agg #[.slice ta' to'.length tc']] w1 fun e w' => ∃ v', e = .returned v' ∧ Own w1.heap.size 5 w' v' DB ∧ Below w1.heap.size w1 w') :
    Calls Tryz.prog 154 #[.agg #[.slice na nm.length nc, .int .i64 ty, .int .i64 tt, .int .i64 ad, .slice ta to.length tc, .slice xa tx.length xc, .slice ia nu.length ic], .agg #[.slice na' nm'.length nc', .int .i64 ty, .int .i64 tt', .int .i64 ad', .slice ta' to'.length tc', .slice xa' tx'.length xc', .slice ia' nu'.length ic']] w fun e w' => e = .returned (.int .i64 (cmpB DA DB)) ∧ Below w.heap.size w w' := by
  have b0 := below2 w (.cells #[.slice na nm.length nc, .int .i64 ty, .int .i64 tt, .int .i64 ad, .slice ta to.length tc, .slice xa tx.length xc, .slice ia nu.length ic] 101) (.cells #[.slice na' nm'.length nc', .int .i64 ty, .int .i64 tt', .int .i64 ad', .slice ta' to'.length tc', .slice xa' tx'.length xc', .slice ia' nu'.length ic'] 101)
  obtain ⟨hsz, k0, x0⟩ := box2 w (.cells #[.slice na nm.length nc, .int .i64 ty, .int .i64 tt, .int .i64 ad, .slice ta to.length tc, .slice xa tx.length xc, .slice ia nu.length ic] 101) #[.slice na' nm'.length nc', .int .i64 ty, .int .i64 tt', .int .i64 ad', .slice ta' to'.length tc', .slice xa' tx'.length xc', .slice ia' nu'.length ic'] 101
  have K0 := hide k0
  have X0 := hide x0
  have H0 := hide (h.below b0)
  have J0 := hide (h'.below b0)
  have HA := hide (fun (w : World) (h : HasR w (.slice na nm.length nc) (.slice ta to.length tc) (.slice xa tx.length xc) (.slice ia nu.length ic) ⟨nm, ty, tt, ad, to, tx, nu⟩) => (show Calls Tryz.prog 143 #[.agg #[.slice na nm.length nc, .int .i64 ty, .int .i64 tt, .int .i64 ad, .slice ta to.length tc, .slice xa tx.length xc, .slice ia nu.length ic]] w fun e w' => e = .returned (.bool true) ∧ Below w.heap.size w w' by have q := implRrOk_has h; rw [ha] at q; exact q))
  have HB := hide (fun (w : World) (h : HasR w (.slice na' nm'.length nc') (.slice ta' to'.length tc') (.slice xa' tx'.length xc') (.slice ia' nu'.length ic') ⟨nm', ty, tt', ad', to', tx', nu'⟩) => (show Calls Tryz.prog 143 #[.agg #[.slice na' nm'.length nc', .int .i64 ty, .int .i64 tt', .int .i64 ad', .slice ta' to'.length tc', .slice xa' tx'.length xc', .slice ia' nu'.length ic']] w fun e w' => e = .returned (.bool true) ∧ Below w.heap.size w w' by have q := implRrOk_has h; rw [hb] at q; exact q))
  have HC := hide (fun (w : World) (v v' : Value) (h : HasL w v nm) (h' : HasL w v' nm') => (show Calls Tryz.prog 153 #[.agg #[v], .agg #[v']] w fun e w' => e = .returned (.int .i64 0) ∧ Below w.heap.size w w' by have q := implNameCmp_has h h'; rw [hc] at q; exact q))
  have HL := hide (show ∀ w : World, Calls Tryz.prog 171 #[.int .i64 ty, .int .i64 ty] w fun e w' => e = .returned (.int .i64 0) ∧ w = w' from fun w => by have q := cmpCompare_int ty ty w; unfold byLength at q; rw [if_neg (by omega), if_neg (by omega)] at q; exact q)
  have QA := hide PA
  have QB := hide PB
  have HKK := hide hk
  have HTO := hide hto
  clear h h' k0 x0 ha hb hc PA PB hk hto
  go_enter Tryz.func154, Tryz.ntmps154
  go_wp2_with fail
  generalize (w.alloc (.cells #[.slice na nm.length nc, .int .i64 ty, .int .i64 tt, .int .i64 ad, .slice ta to.length tc, .slice xa tx.length xc, .slice ia nu.length ic] 101)).alloc (.cells #[.slice na' nm'.length nc', .int .i64 ty, .int .i64 tt', .int .i64 ad', .slice ta' to'.length tc', .slice xa' tx'.length xc', .slice ia' nu'.length ic'] 101) = W at *
  refine (unhide HA _ (unhide H0)).mono ?_
  rintro e w1 ⟨rfl, b1⟩
  have bb1 := below_next b0 b1
  have K1 := hide (block_kept b1 (unhide K0))
  have X1 := hide (block_kept b1 (unhide X0))
  have H1 := hide ((unhide H0).below b1)
  have J1 := hide ((unhide J0).below b1)
  clear K0 X0 H0 J0 b1
  obtain ⟨d0, d1, d2, d3, d4, d5, d6⟩ := cells7 (unhide K1)
  obtain ⟨f0, f1, f2, f3, f4, f5, f6⟩ := cells7 (unhide X1)
  go_wp2_with fail
  refine (unhide HB _ (unhide J1)).mono ?_
  rintro e w2 ⟨rfl, b2⟩
  clear d0 d1 d2 d3 d4 d5 d6 f0 f1 f2 f3 f4 f5 f6
  have bb2 := below_next bb1 b2
  have K2 := hide (block_kept b2 (unhide K1))
  have X2 := hide (block_kept b2 (unhide X1))
  have H2 := hide ((unhide H1).below b2)
  have J2 := hide ((unhide J1).below b2)
  clear K1 X1 H1 J1 b2
  obtain ⟨d0, d1, d2, d3, d4, d5, d6⟩ := cells7 (unhide K2)
  obtain ⟨f0, f1, f2, f3, f4, f5, f6⟩ := cells7 (unhide X2)
  go_wp2_with fail
  refine (unhide HC _ _ _ (unhide H2).name (unhide J2).name).mono ?_
  rintro e w3 ⟨rfl, b3⟩
  clear d0 d1 d2 d3 d4 d5 d6 f0 f1 f2 f3 f4 f5 f6
  have bb3 := below_next bb2 b3
  have K3 := hide (block_kept b3 (unhide K2))
  have X3 := hide (block_kept b3 (unhide X2))
  have H3 := hide ((unhide H2).below b3)
  have J3 := hide ((unhide J2).below b3)
  clear K2 X2 H2 J2 b3
  obtain ⟨d0, d1, d2, d3, d4, d5, d6⟩ := cells7 (unhide K3)
  obtain ⟨f0, f1, f2, f3, f4, f5, f6⟩ := cells7 (unhide X3)
  go_wp2_with fail
  refine (unhide HL _).mono ?_
  rintro e w4 ⟨rfl, rfl⟩
  clear d0 d1 d2 d3 d4 d5 d6 f0 f1 f2 f3 f4 f5 f6
  have bd := below_drew (w := w3)
  have bb5 := below_next bb3 bd
  have K5 := hide (block_kept bd (unhide K3))
  have X5 := hide (block_kept bd (unhide X3))
  have H5 := hide ((unhide H3).below bd)
  have J5 := hide ((unhide J3).below bd)
  clear K3 X3 H3 J3 bd
  obtain ⟨d0, d1, d2, d3, d4, d5, d6⟩ := cells7 (unhide K5)
  obtain ⟨f0, f1, f2, f3, f4, f5, f6⟩ := cells7 (unhide X5)
  go_wp2_with fail
  clear d0 d1 d2 d3 d4 d5 d6 f0 f1 f2 f3 f4 f5 f6
  go_region_held3 (fun w' => (w'.cell? ⟨w.heap.size, 0, none⟩ = some (.slice na nm.length nc) ∧ w'.cell? ⟨w.heap.size, 1, none⟩ = some (.int .i64 ty) ∧ w'.cell? ⟨w.heap.size, 2, none⟩ = some (.int .i64 tt) ∧ w'.cell? ⟨w.heap.size, 3, none⟩ = some (.int .i64 ad) ∧ w'.cell? ⟨w.heap.size, 4, none⟩ = some (.slice ta to.length tc) ∧ w'.cell? ⟨w.heap.size, 5, none⟩ = some (.slice xa tx.length xc) ∧ w'.cell? ⟨w.heap.size, 6, none⟩ = some (.slice ia nu.length ic)) ∧ (w'.cell? ⟨w.heap.size + 1, 0, none⟩ = some (.slice na' nm'.length nc') ∧ w'.cell? ⟨w.heap.size + 1, 1, none⟩ = some (.int .i64 ty) ∧ w'.cell? ⟨w.heap.size + 1, 2, none⟩ = some (.int .i64 tt') ∧ w'.cell? ⟨w.heap.size + 1, 3, none⟩ = some (.int .i64 ad') ∧ w'.cell? ⟨w.heap.size + 1, 4, none⟩ = some (.slice ta' to'.length tc') ∧ w'.cell? ⟨w.heap.size + 1, 5, none⟩ = some (.slice xa' tx'.length xc') ∧ w'.cell? ⟨w.heap.size + 1, 6, none⟩ = some (.slice ia' nu'.length ic')))
    (first | exact ⟨cells7 (unhide K5), cells7 (unhide X5)⟩ | exact ⟨cells7 (block_kept b6 (unhide K5)), cells7 (block_kept b6 (unhide X5))⟩ | exact ⟨cells7 (block_kept q7 (unhide K5)), cells7 (block_kept q7 (unhide X5))⟩ | exact ⟨cells7 (block_kept q8 (unhide K5)), cells7 (block_kept q8 (unhide X5))⟩ | exact ⟨cells7 (block_kept q9 (unhide K5)), cells7 (block_kept q9 (unhide X5))⟩)
    (first
    | (go_at_call_of 164 (Value.slice na nm.length nc); refine (dataOf_N (na := na) (nc := nc) (ta := ta) (tc := tc) (xa := xa) (xc := xc) (ia := ia) (ic := ic) (nm := nm) (to := to) (tx := tx) (nu := nu) (tt := tt) (ad := ad) (unhide HKK) (unhide HTO)).mono ?_; rintro e w6 ⟨rfl, b6⟩)
    | (go_at_call_of 164 (Value.slice na' nm'.length nc'); refine (dataOf_N (na := na') (nc := nc') (ta := ta') (tc := tc') (xa := xa') (xc := xc') (ia := ia') (ic := ic') (nm := nm') (to := to') (tx := tx') (nu := nu') (tt := tt') (ad := ad') (unhide HKK) (unhide HTO)).mono ?_; rintro e w8 ⟨rfl, b8⟩; have q8 := below_next q7 b8)
    | (go_at_call_of 222 (Value.agg #[Value.slice ta to.length tc]); refine (unhide QA _ (below_next bb5 b6)).mono ?_; rintro e w7 ⟨v7, rfl, o7, b7⟩; have q7 := below_next b6 b7)
    | (go_at_call_of 222 (Value.agg #[Value.slice ta' to'.length tc']); refine (unhide QB _ (below_next bb5 q8)).mono ?_; rintro e w9 ⟨v9, rfl, o9, b9⟩; have q9 := below_next q8 b9)
    | (go_at_call 170; refine (bytesCompare_has (o7.below (below_next b8 b9)).has o9.has).mono ?_; rintro e w10 ⟨rfl, rfl⟩))
  go_wp2_with fail
  go_ret
  exact ⟨rfl, below_next bb5 q9⟩

set_option maxHeartbeats 2000000 in
set_option maxRecDepth 100000 in
theorem rrCmpData_S {na : Option Addr} {nc : Nat} {ta : Option Addr} {tc : Nat} {xa : Option Addr} {xc : Nat} {ia : Option Addr} {ic : Nat} {nm to : List (List Int)} {tx nu : List Int} {tt ad : Int} {na' : Option Addr} {nc' : Nat} {ta' : Option Addr} {tc' : Nat} {xa' : Option Addr} {xc' : Nat} {ia' : Option Addr} {ic' : Nat} {nm' to' : List (List Int)} {tx' nu' : List Int} {tt' ad' : Int} {w : World} {DA DB : List Int} (h : HasR w (.slice na nm.length nc) (.slice ta to.length tc) (.slice xa tx.length xc) (.slice ia nu.length ic) ⟨nm, 6, tt, ad, to, tx, nu⟩) (h' : HasR w (.slice na' nm'.length nc') (.slice ta' to'.length tc') (.slice xa' tx'.length xc') (.slice ia' nu'.length ic') ⟨nm', 6, tt', ad', to', tx', nu'⟩) (ha : rrOk ⟨nm, 6, tt, ad, to, tx, nu⟩ = true) (hb : rrOk ⟨nm', 6, tt', ad', to', tx', nu'⟩ = true) (hc : nameCmp nm nm' = 0)
    (PA : ∀ w1, Below w.heap.size w w1 → Calls Tryz.prog 226 #[.agg #[.slice ta to.length tc, .slice ia nu.length ic]] w1 fun e w' => ∃ v', e = .returned v' ∧ Own w1.heap.size 5 w' v' DA ∧ Below w1.heap.size w1 w') (PB : ∀ w1, Below w.heap.size w w1 → Calls Tryz.prog 226 #[.agg #[.slice ta' to'.length tc', .slice ia' nu'.length ic']] w1 fun e w' => ∃ v', e = .returned v' ∧ Own w1.heap.size 5 w' v' DB ∧ Below w1.heap.size w1 w') :
    Calls Tryz.prog 154 #[.agg #[.slice na nm.length nc, .int .i64 6, .int .i64 tt, .int .i64 ad, .slice ta to.length tc, .slice xa tx.length xc, .slice ia nu.length ic], .agg #[.slice na' nm'.length nc', .int .i64 6, .int .i64 tt', .int .i64 ad', .slice ta' to'.length tc', .slice xa' tx'.length xc', .slice ia' nu'.length ic']] w fun e w' => e = .returned (.int .i64 (cmpB DA DB)) ∧ Below w.heap.size w w' := by
  have b0 := below2 w (.cells #[.slice na nm.length nc, .int .i64 6, .int .i64 tt, .int .i64 ad, .slice ta to.length tc, .slice xa tx.length xc, .slice ia nu.length ic] 101) (.cells #[.slice na' nm'.length nc', .int .i64 6, .int .i64 tt', .int .i64 ad', .slice ta' to'.length tc', .slice xa' tx'.length xc', .slice ia' nu'.length ic'] 101)
  obtain ⟨hsz, k0, x0⟩ := box2 w (.cells #[.slice na nm.length nc, .int .i64 6, .int .i64 tt, .int .i64 ad, .slice ta to.length tc, .slice xa tx.length xc, .slice ia nu.length ic] 101) #[.slice na' nm'.length nc', .int .i64 6, .int .i64 tt', .int .i64 ad', .slice ta' to'.length tc', .slice xa' tx'.length xc', .slice ia' nu'.length ic'] 101
  have K0 := hide k0
  have X0 := hide x0
  have H0 := hide (h.below b0)
  have J0 := hide (h'.below b0)
  have HA := hide (fun (w : World) (h : HasR w (.slice na nm.length nc) (.slice ta to.length tc) (.slice xa tx.length xc) (.slice ia nu.length ic) ⟨nm, 6, tt, ad, to, tx, nu⟩) => (show Calls Tryz.prog 143 #[.agg #[.slice na nm.length nc, .int .i64 6, .int .i64 tt, .int .i64 ad, .slice ta to.length tc, .slice xa tx.length xc, .slice ia nu.length ic]] w fun e w' => e = .returned (.bool true) ∧ Below w.heap.size w w' by have q := implRrOk_has h; rw [ha] at q; exact q))
  have HB := hide (fun (w : World) (h : HasR w (.slice na' nm'.length nc') (.slice ta' to'.length tc') (.slice xa' tx'.length xc') (.slice ia' nu'.length ic') ⟨nm', 6, tt', ad', to', tx', nu'⟩) => (show Calls Tryz.prog 143 #[.agg #[.slice na' nm'.length nc', .int .i64 6, .int .i64 tt', .int .i64 ad', .slice ta' to'.length tc', .slice xa' tx'.length xc', .slice ia' nu'.length ic']] w fun e w' => e = .returned (.bool true) ∧ Below w.heap.size w w' by have q := implRrOk_has h; rw [hb] at q; exact q))
  have HC := hide (fun (w : World) (v v' : Value) (h : HasL w v nm) (h' : HasL w v' nm') => (show Calls Tryz.prog 153 #[.agg #[v], .agg #[v']] w fun e w' => e = .returned (.int .i64 0) ∧ Below w.heap.size w w' by have q := implNameCmp_has h h'; rw [hc] at q; exact q))
  have HL := hide (show ∀ w : World, Calls Tryz.prog 171 #[.int .i64 6, .int .i64 6] w fun e w' => e = .returned (.int .i64 0) ∧ w = w' from fun w => by have q := cmpCompare_int 6 6 w; unfold byLength at q; rw [if_neg (by omega), if_neg (by omega)] at q; exact q)
  have QA := hide PA
  have QB := hide PB
  skip
  skip
  clear h h' k0 x0 ha hb hc PA PB 
  go_enter Tryz.func154, Tryz.ntmps154
  go_wp2_with fail
  generalize (w.alloc (.cells #[.slice na nm.length nc, .int .i64 6, .int .i64 tt, .int .i64 ad, .slice ta to.length tc, .slice xa tx.length xc, .slice ia nu.length ic] 101)).alloc (.cells #[.slice na' nm'.length nc', .int .i64 6, .int .i64 tt', .int .i64 ad', .slice ta' to'.length tc', .slice xa' tx'.length xc', .slice ia' nu'.length ic'] 101) = W at *
  refine (unhide HA _ (unhide H0)).mono ?_
  rintro e w1 ⟨rfl, b1⟩
  have bb1 := below_next b0 b1
  have K1 := hide (block_kept b1 (unhide K0))
  have X1 := hide (block_kept b1 (unhide X0))
  have H1 := hide ((unhide H0).below b1)
  have J1 := hide ((unhide J0).below b1)
  clear K0 X0 H0 J0 b1
  obtain ⟨d0, d1, d2, d3, d4, d5, d6⟩ := cells7 (unhide K1)
  obtain ⟨f0, f1, f2, f3, f4, f5, f6⟩ := cells7 (unhide X1)
  go_wp2_with fail
  refine (unhide HB _ (unhide J1)).mono ?_
  rintro e w2 ⟨rfl, b2⟩
  clear d0 d1 d2 d3 d4 d5 d6 f0 f1 f2 f3 f4 f5 f6
  have bb2 := below_next bb1 b2
  have K2 := hide (block_kept b2 (unhide K1))
  have X2 := hide (block_kept b2 (unhide X1))
  have H2 := hide ((unhide H1).below b2)
  have J2 := hide ((unhide J1).below b2)
  clear K1 X1 H1 J1 b2
  obtain ⟨d0, d1, d2, d3, d4, d5, d6⟩ := cells7 (unhide K2)
  obtain ⟨f0, f1, f2, f3, f4, f5, f6⟩ := cells7 (unhide X2)
  go_wp2_with fail
  refine (unhide HC _ _ _ (unhide H2).name (unhide J2).name).mono ?_
  rintro e w3 ⟨rfl, b3⟩
  clear d0 d1 d2 d3 d4 d5 d6 f0 f1 f2 f3 f4 f5 f6
  have bb3 := below_next bb2 b3
  have K3 := hide (block_kept b3 (unhide K2))
  have X3 := hide (block_kept b3 (unhide X2))
  have H3 := hide ((unhide H2).below b3)
  have J3 := hide ((unhide J2).below b3)
  clear K2 X2 H2 J2 b3
  obtain ⟨d0, d1, d2, d3, d4, d5, d6⟩ := cells7 (unhide K3)
  obtain ⟨f0, f1, f2, f3, f4, f5, f6⟩ := cells7 (unhide X3)
  go_wp2_with fail
  refine (unhide HL _).mono ?_
  rintro e w4 ⟨rfl, rfl⟩
  clear d0 d1 d2 d3 d4 d5 d6 f0 f1 f2 f3 f4 f5 f6
  have bd := below_drew (w := w3)
  have bb5 := below_next bb3 bd
  have K5 := hide (block_kept bd (unhide K3))
  have X5 := hide (block_kept bd (unhide X3))
  have H5 := hide ((unhide H3).below bd)
  have J5 := hide ((unhide J3).below bd)
  clear K3 X3 H3 J3 bd
  obtain ⟨d0, d1, d2, d3, d4, d5, d6⟩ := cells7 (unhide K5)
  obtain ⟨f0, f1, f2, f3, f4, f5, f6⟩ := cells7 (unhide X5)
  go_wp2_with fail
  clear d0 d1 d2 d3 d4 d5 d6 f0 f1 f2 f3 f4 f5 f6
  go_region_held3 (fun w' => (w'.cell? ⟨w.heap.size, 0, none⟩ = some (.slice na nm.length nc) ∧ w'.cell? ⟨w.heap.size, 1, none⟩ = some (.int .i64 6) ∧ w'.cell? ⟨w.heap.size, 2, none⟩ = some (.int .i64 tt) ∧ w'.cell? ⟨w.heap.size, 3, none⟩ = some (.int .i64 ad) ∧ w'.cell? ⟨w.heap.size, 4, none⟩ = some (.slice ta to.length tc) ∧ w'.cell? ⟨w.heap.size, 5, none⟩ = some (.slice xa tx.length xc) ∧ w'.cell? ⟨w.heap.size, 6, none⟩ = some (.slice ia nu.length ic)) ∧ (w'.cell? ⟨w.heap.size + 1, 0, none⟩ = some (.slice na' nm'.length nc') ∧ w'.cell? ⟨w.heap.size + 1, 1, none⟩ = some (.int .i64 6) ∧ w'.cell? ⟨w.heap.size + 1, 2, none⟩ = some (.int .i64 tt') ∧ w'.cell? ⟨w.heap.size + 1, 3, none⟩ = some (.int .i64 ad') ∧ w'.cell? ⟨w.heap.size + 1, 4, none⟩ = some (.slice ta' to'.length tc') ∧ w'.cell? ⟨w.heap.size + 1, 5, none⟩ = some (.slice xa' tx'.length xc') ∧ w'.cell? ⟨w.heap.size + 1, 6, none⟩ = some (.slice ia' nu'.length ic')))
    (first | exact ⟨cells7 (unhide K5), cells7 (unhide X5)⟩ | exact ⟨cells7 (block_kept b6 (unhide K5)), cells7 (block_kept b6 (unhide X5))⟩ | exact ⟨cells7 (block_kept q7 (unhide K5)), cells7 (block_kept q7 (unhide X5))⟩ | exact ⟨cells7 (block_kept q8 (unhide K5)), cells7 (block_kept q8 (unhide X5))⟩ | exact ⟨cells7 (block_kept q9 (unhide K5)), cells7 (block_kept q9 (unhide X5))⟩)
    (first
    | (go_at_call_of 164 (Value.slice na nm.length nc); refine (dataOf_S (na := na) (nc := nc) (ta := ta) (tc := tc) (xa := xa) (xc := xc) (ia := ia) (ic := ic) (nm := nm) (to := to) (tx := tx) (nu := nu) (tt := tt) (ad := ad)).mono ?_; rintro e w6 ⟨rfl, b6⟩)
    | (go_at_call_of 164 (Value.slice na' nm'.length nc'); refine (dataOf_S (na := na') (nc := nc') (ta := ta') (tc := tc') (xa := xa') (xc := xc') (ia := ia') (ic := ic') (nm := nm') (to := to') (tx := tx') (nu := nu') (tt := tt') (ad := ad')).mono ?_; rintro e w8 ⟨rfl, b8⟩; have q8 := below_next q7 b8)
    | (go_at_call_of 226 (Value.agg #[Value.slice ta to.length tc, Value.slice ia nu.length ic]); refine (unhide QA _ (below_next bb5 b6)).mono ?_; rintro e w7 ⟨v7, rfl, o7, b7⟩; have q7 := below_next b6 b7)
    | (go_at_call_of 226 (Value.agg #[Value.slice ta' to'.length tc', Value.slice ia' nu'.length ic']); refine (unhide QB _ (below_next bb5 q8)).mono ?_; rintro e w9 ⟨v9, rfl, o9, b9⟩; have q9 := below_next q8 b9)
    | (go_at_call 170; refine (bytesCompare_has (o7.below (below_next b8 b9)).has o9.has).mono ?_; rintro e w10 ⟨rfl, rfl⟩))
  go_wp2_with fail
  go_ret
  exact ⟨rfl, below_next bb5 q9⟩

set_option maxHeartbeats 2000000 in
set_option maxRecDepth 100000 in
theorem rrCmpData_X {na : Option Addr} {nc : Nat} {ta : Option Addr} {tc : Nat} {xa : Option Addr} {xc : Nat} {ia : Option Addr} {ic : Nat} {nm to : List (List Int)} {tx nu : List Int} {tt ad : Int} {na' : Option Addr} {nc' : Nat} {ta' : Option Addr} {tc' : Nat} {xa' : Option Addr} {xc' : Nat} {ia' : Option Addr} {ic' : Nat} {nm' to' : List (List Int)} {tx' nu' : List Int} {tt' ad' : Int} {w : World} {DA DB : List Int} {ty : Int} (hk : kindV ty = .iface 193 (.agg #[.slice none 0 0])) (hto : typeOk ty = true) (h : HasR w (.slice na nm.length nc) (.slice ta to.length tc) (.slice xa tx.length xc) (.slice ia nu.length ic) ⟨nm, ty, tt, ad, to, tx, nu⟩) (h' : HasR w (.slice na' nm'.length nc') (.slice ta' to'.length tc') (.slice xa' tx'.length xc') (.slice ia' nu'.length ic') ⟨nm', ty, tt', ad', to', tx', nu'⟩) (ha : rrOk ⟨nm, ty, tt, ad, to, tx, nu⟩ = true) (hb : rrOk ⟨nm', ty, tt', ad', to', tx', nu'⟩ = true) (hc : nameCmp nm nm' = 0)
    (PA : ∀ w1, Below w.heap.size w w1 → Calls Tryz.prog 230 #[.agg #[.slice xa tx.length xc]] w1 fun e w' => ∃ v', e = .returned v' ∧ Own w1.heap.size 5 w' v' DA ∧ Below w1.heap.size w1 w') (PB : ∀ w1, Below w.heap.size w w1 → Calls Tryz.prog 230 #[.agg #[.slice xa' tx'.length xc']] w1 fun e w' => ∃ v', e = .returned v' ∧ Own w1.heap.size 5 w' v' DB ∧ Below w1.heap.size w1 w') :
    Calls Tryz.prog 154 #[.agg #[.slice na nm.length nc, .int .i64 ty, .int .i64 tt, .int .i64 ad, .slice ta to.length tc, .slice xa tx.length xc, .slice ia nu.length ic], .agg #[.slice na' nm'.length nc', .int .i64 ty, .int .i64 tt', .int .i64 ad', .slice ta' to'.length tc', .slice xa' tx'.length xc', .slice ia' nu'.length ic']] w fun e w' => e = .returned (.int .i64 (cmpB DA DB)) ∧ Below w.heap.size w w' := by
  have b0 := below2 w (.cells #[.slice na nm.length nc, .int .i64 ty, .int .i64 tt, .int .i64 ad, .slice ta to.length tc, .slice xa tx.length xc, .slice ia nu.length ic] 101) (.cells #[.slice na' nm'.length nc', .int .i64 ty, .int .i64 tt', .int .i64 ad', .slice ta' to'.length tc', .slice xa' tx'.length xc', .slice ia' nu'.length ic'] 101)
  obtain ⟨hsz, k0, x0⟩ := box2 w (.cells #[.slice na nm.length nc, .int .i64 ty, .int .i64 tt, .int .i64 ad, .slice ta to.length tc, .slice xa tx.length xc, .slice ia nu.length ic] 101) #[.slice na' nm'.length nc', .int .i64 ty, .int .i64 tt', .int .i64 ad', .slice ta' to'.length tc', .slice xa' tx'.length xc', .slice ia' nu'.length ic'] 101
  have K0 := hide k0
  have X0 := hide x0
  have H0 := hide (h.below b0)
  have J0 := hide (h'.below b0)
  have HA := hide (fun (w : World) (h : HasR w (.slice na nm.length nc) (.slice ta to.length tc) (.slice xa tx.length xc) (.slice ia nu.length ic) ⟨nm, ty, tt, ad, to, tx, nu⟩) => (show Calls Tryz.prog 143 #[.agg #[.slice na nm.length nc, .int .i64 ty, .int .i64 tt, .int .i64 ad, .slice ta to.length tc, .slice xa tx.length xc, .slice ia nu.length ic]] w fun e w' => e = .returned (.bool true) ∧ Below w.heap.size w w' by have q := implRrOk_has h; rw [ha] at q; exact q))
  have HB := hide (fun (w : World) (h : HasR w (.slice na' nm'.length nc') (.slice ta' to'.length tc') (.slice xa' tx'.length xc') (.slice ia' nu'.length ic') ⟨nm', ty, tt', ad', to', tx', nu'⟩) => (show Calls Tryz.prog 143 #[.agg #[.slice na' nm'.length nc', .int .i64 ty, .int .i64 tt', .int .i64 ad', .slice ta' to'.length tc', .slice xa' tx'.length xc', .slice ia' nu'.length ic']] w fun e w' => e = .returned (.bool true) ∧ Below w.heap.size w w' by have q := implRrOk_has h; rw [hb] at q; exact q))
  have HC := hide (fun (w : World) (v v' : Value) (h : HasL w v nm) (h' : HasL w v' nm') => (show Calls Tryz.prog 153 #[.agg #[v], .agg #[v']] w fun e w' => e = .returned (.int .i64 0) ∧ Below w.heap.size w w' by have q := implNameCmp_has h h'; rw [hc] at q; exact q))
  have HL := hide (show ∀ w : World, Calls Tryz.prog 171 #[.int .i64 ty, .int .i64 ty] w fun e w' => e = .returned (.int .i64 0) ∧ w = w' from fun w => by have q := cmpCompare_int ty ty w; unfold byLength at q; rw [if_neg (by omega), if_neg (by omega)] at q; exact q)
  have QA := hide PA
  have QB := hide PB
  have HKK := hide hk
  have HTO := hide hto
  clear h h' k0 x0 ha hb hc PA PB hk hto
  go_enter Tryz.func154, Tryz.ntmps154
  go_wp2_with fail
  generalize (w.alloc (.cells #[.slice na nm.length nc, .int .i64 ty, .int .i64 tt, .int .i64 ad, .slice ta to.length tc, .slice xa tx.length xc, .slice ia nu.length ic] 101)).alloc (.cells #[.slice na' nm'.length nc', .int .i64 ty, .int .i64 tt', .int .i64 ad', .slice ta' to'.length tc', .slice xa' tx'.length xc', .slice ia' nu'.length ic'] 101) = W at *
  refine (unhide HA _ (unhide H0)).mono ?_
  rintro e w1 ⟨rfl, b1⟩
  have bb1 := below_next b0 b1
  have K1 := hide (block_kept b1 (unhide K0))
  have X1 := hide (block_kept b1 (unhide X0))
  have H1 := hide ((unhide H0).below b1)
  have J1 := hide ((unhide J0).below b1)
  clear K0 X0 H0 J0 b1
  obtain ⟨d0, d1, d2, d3, d4, d5, d6⟩ := cells7 (unhide K1)
  obtain ⟨f0, f1, f2, f3, f4, f5, f6⟩ := cells7 (unhide X1)
  go_wp2_with fail
  refine (unhide HB _ (unhide J1)).mono ?_
  rintro e w2 ⟨rfl, b2⟩
  clear d0 d1 d2 d3 d4 d5 d6 f0 f1 f2 f3 f4 f5 f6
  have bb2 := below_next bb1 b2
  have K2 := hide (block_kept b2 (unhide K1))
  have X2 := hide (block_kept b2 (unhide X1))
  have H2 := hide ((unhide H1).below b2)
  have J2 := hide ((unhide J1).below b2)
  clear K1 X1 H1 J1 b2
  obtain ⟨d0, d1, d2, d3, d4, d5, d6⟩ := cells7 (unhide K2)
  obtain ⟨f0, f1, f2, f3, f4, f5, f6⟩ := cells7 (unhide X2)
  go_wp2_with fail
  refine (unhide HC _ _ _ (unhide H2).name (unhide J2).name).mono ?_
  rintro e w3 ⟨rfl, b3⟩
  clear d0 d1 d2 d3 d4 d5 d6 f0 f1 f2 f3 f4 f5 f6
  have bb3 := below_next bb2 b3
  have K3 := hide (block_kept b3 (unhide K2))
  have X3 := hide (block_kept b3 (unhide X2))
  have H3 := hide ((unhide H2).below b3)
  have J3 := hide ((unhide J2).below b3)
  clear K2 X2 H2 J2 b3
  obtain ⟨d0, d1, d2, d3, d4, d5, d6⟩ := cells7 (unhide K3)
  obtain ⟨f0, f1, f2, f3, f4, f5, f6⟩ := cells7 (unhide X3)
  go_wp2_with fail
  refine (unhide HL _).mono ?_
  rintro e w4 ⟨rfl, rfl⟩
  clear d0 d1 d2 d3 d4 d5 d6 f0 f1 f2 f3 f4 f5 f6
  have bd := below_drew (w := w3)
  have bb5 := below_next bb3 bd
  have K5 := hide (block_kept bd (unhide K3))
  have X5 := hide (block_kept bd (unhide X3))
  have H5 := hide ((unhide H3).below bd)
  have J5 := hide ((unhide J3).below bd)
  clear K3 X3 H3 J3 bd
  obtain ⟨d0, d1, d2, d3, d4, d5, d6⟩ := cells7 (unhide K5)
  obtain ⟨f0, f1, f2, f3, f4, f5, f6⟩ := cells7 (unhide X5)
  go_wp2_with fail
  clear d0 d1 d2 d3 d4 d5 d6 f0 f1 f2 f3 f4 f5 f6
  go_region_held3 (fun w' => (w'.cell? ⟨w.heap.size, 0, none⟩ = some (.slice na nm.length nc) ∧ w'.cell? ⟨w.heap.size, 1, none⟩ = some (.int .i64 ty) ∧ w'.cell? ⟨w.heap.size, 2, none⟩ = some (.int .i64 tt) ∧ w'.cell? ⟨w.heap.size, 3, none⟩ = some (.int .i64 ad) ∧ w'.cell? ⟨w.heap.size, 4, none⟩ = some (.slice ta to.length tc) ∧ w'.cell? ⟨w.heap.size, 5, none⟩ = some (.slice xa tx.length xc) ∧ w'.cell? ⟨w.heap.size, 6, none⟩ = some (.slice ia nu.length ic)) ∧ (w'.cell? ⟨w.heap.size + 1, 0, none⟩ = some (.slice na' nm'.length nc') ∧ w'.cell? ⟨w.heap.size + 1, 1, none⟩ = some (.int .i64 ty) ∧ w'.cell? ⟨w.heap.size + 1, 2, none⟩ = some (.int .i64 tt') ∧ w'.cell? ⟨w.heap.size + 1, 3, none⟩ = some (.int .i64 ad') ∧ w'.cell? ⟨w.heap.size + 1, 4, none⟩ = some (.slice ta' to'.length tc') ∧ w'.cell? ⟨w.heap.size + 1, 5, none⟩ = some (.slice xa' tx'.length xc') ∧ w'.cell? ⟨w.heap.size + 1, 6, none⟩ = some (.slice ia' nu'.length ic')))
    (first | exact ⟨cells7 (unhide K5), cells7 (unhide X5)⟩ | exact ⟨cells7 (block_kept b6 (unhide K5)), cells7 (block_kept b6 (unhide X5))⟩ | exact ⟨cells7 (block_kept q7 (unhide K5)), cells7 (block_kept q7 (unhide X5))⟩ | exact ⟨cells7 (block_kept q8 (unhide K5)), cells7 (block_kept q8 (unhide X5))⟩ | exact ⟨cells7 (block_kept q9 (unhide K5)), cells7 (block_kept q9 (unhide X5))⟩)
    (first
    | (go_at_call_of 164 (Value.slice na nm.length nc); refine (dataOf_X (na := na) (nc := nc) (ta := ta) (tc := tc) (xa := xa) (xc := xc) (ia := ia) (ic := ic) (nm := nm) (to := to) (tx := tx) (nu := nu) (tt := tt) (ad := ad) (unhide HKK) (unhide HTO)).mono ?_; rintro e w6 ⟨rfl, b6⟩)
    | (go_at_call_of 164 (Value.slice na' nm'.length nc'); refine (dataOf_X (na := na') (nc := nc') (ta := ta') (tc := tc') (xa := xa') (xc := xc') (ia := ia') (ic := ic') (nm := nm') (to := to') (tx := tx') (nu := nu') (tt := tt') (ad := ad') (unhide HKK) (unhide HTO)).mono ?_; rintro e w8 ⟨rfl, b8⟩; have q8 := below_next q7 b8)
    | (go_at_call_of 230 (Value.agg #[Value.slice xa tx.length xc]); refine (unhide QA _ (below_next bb5 b6)).mono ?_; rintro e w7 ⟨v7, rfl, o7, b7⟩; have q7 := below_next b6 b7)
    | (go_at_call_of 230 (Value.agg #[Value.slice xa' tx'.length xc']); refine (unhide QB _ (below_next bb5 q8)).mono ?_; rintro e w9 ⟨v9, rfl, o9, b9⟩; have q9 := below_next q8 b9)
    | (go_at_call 170; refine (bytesCompare_has (o7.below (below_next b8 b9)).has o9.has).mono ?_; rintro e w10 ⟨rfl, rfl⟩))
  go_wp2_with fail
  go_ret
  exact ⟨rfl, below_next bb5 q9⟩

set_option maxHeartbeats 1000000 in
set_option maxRecDepth 100000 in
theorem rrCmp_apart {vn vt vx vi un ut ux ui : Value} {a b : Rec} {w : World} (h : HasR w vn vt vx vi a) (h' : HasR w un ut ux ui b) (ha : rrOk a = true) (hb : rrOk b = true) (hne : cmpN a.name b.name ≠ 0 ∨ byLength a.type b.type ≠ 0) :
    Calls Tryz.prog 154 #[.agg #[vn, .int .i64 a.type, .int .i64 a.ttl, .int .i64 a.addr, vt, vx, vi], .agg #[un, .int .i64 b.type, .int .i64 b.ttl, .int .i64 b.addr, ut, ux, ui]] w fun e w' => e = .returned (.int .i64 (cmpR a b)) ∧ Below w.heap.size w w' := by
  obtain ⟨na, nc, rfl, _⟩ := h.name.form
  obtain ⟨ta, tc, rfl, _⟩ := h.to.form
  obtain ⟨xa, xc, rfl, _⟩ := h.text.form
  obtain ⟨ia, ic, rfl, _⟩ := h.nums.form
  obtain ⟨na', nc', rfl, _⟩ := h'.name.form
  obtain ⟨ta', tc', rfl, _⟩ := h'.to.form
  obtain ⟨xa', xc', rfl, _⟩ := h'.text.form
  obtain ⟨ia', ic', rfl, _⟩ := h'.nums.form
  have b0 := below2 w (.cells #[.slice na a.name.length nc, .int .i64 a.type, .int .i64 a.ttl, .int .i64 a.addr, .slice ta a.to.length tc, .slice xa a.text.length xc, .slice ia a.nums.length ic] 101) (.cells #[.slice na' b.name.length nc', .int .i64 b.type, .int .i64 b.ttl, .int .i64 b.addr, .slice ta' b.to.length tc', .slice xa' b.text.length xc', .slice ia' b.nums.length ic'] 101)
  obtain ⟨hsz, k0, x0⟩ := box2 w (.cells #[.slice na a.name.length nc, .int .i64 a.type, .int .i64 a.ttl, .int .i64 a.addr, .slice ta a.to.length tc, .slice xa a.text.length xc, .slice ia a.nums.length ic] 101) #[.slice na' b.name.length nc', .int .i64 b.type, .int .i64 b.ttl, .int .i64 b.addr, .slice ta' b.to.length tc', .slice xa' b.text.length xc', .slice ia' b.nums.length ic'] 101
  have K0 := hide k0
  have X0 := hide x0
  have H0 := hide (h.below b0)
  have J0 := hide (h'.below b0)
  clear h h' k0 x0
  have HA := hide (fun (w : World) (vn vt vx vi : Value) (h : HasR w vn vt vx vi a) => implRrOk_has h)
  have HB := hide (fun (w : World) (vn vt vx vi : Value) (h : HasR w vn vt vx vi b) => implRrOk_has h)
  have hn : nameCmp a.name b.name = cmpN a.name b.name := by unfold nameCmp; rw [if_pos ⟨(rrOk_parts ha).1, (rrOk_parts hb).1⟩]
  have HC := fun (w : World) (v v' : Value) (h : HasL w v a.name) (h' : HasL w v' b.name) => implNameCmp_has h h'
  rw [hn] at HC
  replace HC := hide HC
  have HL := hide (cmpCompare_int a.type b.type)
  rw [ha] at HA
  rw [hb] at HB
  clear ha hb hn
  unfold cmpR
  generalize cmpN a.name b.name = CN at *
  generalize byLength a.type b.type = CL at *
  by_cases e1 : CN = 0
  · subst e1
    rw [if_neg (by simp)]
    have e2 : CL ≠ 0 := by
      rcases hne with hne | hne
      · exact absurd rfl hne
      · exact hne
    rw [if_pos e2]
    have g2 : (CL != 0) = true := by rw [bne_iff_ne]; exact e2
    clear hne e2
    go_enter Tryz.func154, Tryz.ntmps154
    go_wp2_with fail
    generalize (w.alloc (.cells #[.slice na a.name.length nc, .int .i64 a.type, .int .i64 a.ttl, .int .i64 a.addr, .slice ta a.to.length tc, .slice xa a.text.length xc, .slice ia a.nums.length ic] 101)).alloc (.cells #[.slice na' b.name.length nc', .int .i64 b.type, .int .i64 b.ttl, .int .i64 b.addr, .slice ta' b.to.length tc', .slice xa' b.text.length xc', .slice ia' b.nums.length ic'] 101) = W at *
    refine (unhide HA _ _ _ _ _ (unhide H0)).mono ?_
    rintro e w1 ⟨rfl, b1⟩
    have bb1 := below_next b0 b1
    have K1 := hide (block_kept b1 (unhide K0))
    have X1 := hide (block_kept b1 (unhide X0))
    have H1 := hide ((unhide H0).below b1)
    have J1 := hide ((unhide J0).below b1)
    clear K0 X0 H0 J0 b1
    obtain ⟨d0, d1, d2, d3, d4, d5, d6⟩ := cells7 (unhide K1)
    obtain ⟨f0, f1, f2, f3, f4, f5, f6⟩ := cells7 (unhide X1)
    go_wp2_with fail
    refine (unhide HB _ _ _ _ _ (unhide J1)).mono ?_
    rintro e w2 ⟨rfl, b2⟩
    clear d0 d1 d2 d3 d4 d5 d6 f0 f1 f2 f3 f4 f5 f6
    have bb2 := below_next bb1 b2
    have K2 := hide (block_kept b2 (unhide K1))
    have X2 := hide (block_kept b2 (unhide X1))
    have H2 := hide ((unhide H1).below b2)
    have J2 := hide ((unhide J1).below b2)
    clear K1 X1 H1 J1 b2
    obtain ⟨d0, d1, d2, d3, d4, d5, d6⟩ := cells7 (unhide K2)
    obtain ⟨f0, f1, f2, f3, f4, f5, f6⟩ := cells7 (unhide X2)
    go_wp2_with fail
    refine (unhide HC _ _ _ (unhide H2).name (unhide J2).name).mono ?_
    rintro e w3 ⟨rfl, b3⟩
    clear d0 d1 d2 d3 d4 d5 d6 f0 f1 f2 f3 f4 f5 f6
    have bb3 := below_next bb2 b3
    have K3 := hide (block_kept b3 (unhide K2))
    have X3 := hide (block_kept b3 (unhide X2))
    have H3 := hide ((unhide H2).below b3)
    have J3 := hide ((unhide J2).below b3)
    clear K2 X2 H2 J2 b3
    obtain ⟨d0, d1, d2, d3, d4, d5, d6⟩ := cells7 (unhide K3)
    obtain ⟨f0, f1, f2, f3, f4, f5, f6⟩ := cells7 (unhide X3)
    go_wp2_with fail
    refine (unhide HL _).mono ?_
    rintro e w4 ⟨rfl, rfl⟩
    go_wp2_with fail
    go_ret
    exact ⟨rfl, bb3⟩
  · rw [if_pos e1]
    have g1 : (CN != 0) = true := by rw [bne_iff_ne]; exact e1
    clear hne e1
    go_enter Tryz.func154, Tryz.ntmps154
    go_wp2_with fail
    generalize (w.alloc (.cells #[.slice na a.name.length nc, .int .i64 a.type, .int .i64 a.ttl, .int .i64 a.addr, .slice ta a.to.length tc, .slice xa a.text.length xc, .slice ia a.nums.length ic] 101)).alloc (.cells #[.slice na' b.name.length nc', .int .i64 b.type, .int .i64 b.ttl, .int .i64 b.addr, .slice ta' b.to.length tc', .slice xa' b.text.length xc', .slice ia' b.nums.length ic'] 101) = W at *
    refine (unhide HA _ _ _ _ _ (unhide H0)).mono ?_
    rintro e w1 ⟨rfl, b1⟩
    have bb1 := below_next b0 b1
    have K1 := hide (block_kept b1 (unhide K0))
    have X1 := hide (block_kept b1 (unhide X0))
    have H1 := hide ((unhide H0).below b1)
    have J1 := hide ((unhide J0).below b1)
    clear K0 X0 H0 J0 b1
    obtain ⟨d0, d1, d2, d3, d4, d5, d6⟩ := cells7 (unhide K1)
    obtain ⟨f0, f1, f2, f3, f4, f5, f6⟩ := cells7 (unhide X1)
    go_wp2_with fail
    refine (unhide HB _ _ _ _ _ (unhide J1)).mono ?_
    rintro e w2 ⟨rfl, b2⟩
    clear d0 d1 d2 d3 d4 d5 d6 f0 f1 f2 f3 f4 f5 f6
    have bb2 := below_next bb1 b2
    have K2 := hide (block_kept b2 (unhide K1))
    have X2 := hide (block_kept b2 (unhide X1))
    have H2 := hide ((unhide H1).below b2)
    have J2 := hide ((unhide J1).below b2)
    clear K1 X1 H1 J1 b2
    obtain ⟨d0, d1, d2, d3, d4, d5, d6⟩ := cells7 (unhide K2)
    obtain ⟨f0, f1, f2, f3, f4, f5, f6⟩ := cells7 (unhide X2)
    go_wp2_with fail
    refine (unhide HC _ _ _ (unhide H2).name (unhide J2).name).mono ?_
    rintro e w3 ⟨rfl, b3⟩
    clear d0 d1 d2 d3 d4 d5 d6 f0 f1 f2 f3 f4 f5 f6
    go_wp2_with fail
    go_ret
    exact ⟨rfl, below_next bb2 b3⟩

set_option maxHeartbeats 1000000 in
set_option maxRecDepth 100000 in
theorem rrCmp_bad {vn vt vx vi un ut ux ui : Value} {a b : Rec} {w : World} (h : HasR w vn vt vx vi a) (h' : HasR w un ut ux ui b) (hno : rrOk a = false ∨ rrOk b = false) :
    Calls Tryz.prog 154 #[.agg #[vn, .int .i64 a.type, .int .i64 a.ttl, .int .i64 a.addr, vt, vx, vi], .agg #[un, .int .i64 b.type, .int .i64 b.ttl, .int .i64 b.addr, ut, ux, ui]] w fun e w' => e = .returned (.int .i64 0) ∧ Below w.heap.size w w' := by
  obtain ⟨na, nc, rfl, _⟩ := h.name.form
  obtain ⟨ta, tc, rfl, _⟩ := h.to.form
  obtain ⟨xa, xc, rfl, _⟩ := h.text.form
  obtain ⟨ia, ic, rfl, _⟩ := h.nums.form
  obtain ⟨na', nc', rfl, _⟩ := h'.name.form
  obtain ⟨ta', tc', rfl, _⟩ := h'.to.form
  obtain ⟨xa', xc', rfl, _⟩ := h'.text.form
  obtain ⟨ia', ic', rfl, _⟩ := h'.nums.form
  have b0 := below2 w (.cells #[.slice na a.name.length nc, .int .i64 a.type, .int .i64 a.ttl, .int .i64 a.addr, .slice ta a.to.length tc, .slice xa a.text.length xc, .slice ia a.nums.length ic] 101) (.cells #[.slice na' b.name.length nc', .int .i64 b.type, .int .i64 b.ttl, .int .i64 b.addr, .slice ta' b.to.length tc', .slice xa' b.text.length xc', .slice ia' b.nums.length ic'] 101)
  obtain ⟨hsz, k0, x0⟩ := box2 w (.cells #[.slice na a.name.length nc, .int .i64 a.type, .int .i64 a.ttl, .int .i64 a.addr, .slice ta a.to.length tc, .slice xa a.text.length xc, .slice ia a.nums.length ic] 101) #[.slice na' b.name.length nc', .int .i64 b.type, .int .i64 b.ttl, .int .i64 b.addr, .slice ta' b.to.length tc', .slice xa' b.text.length xc', .slice ia' b.nums.length ic'] 101
  have K0 := hide k0
  have X0 := hide x0
  have H0 := hide (h.below b0)
  have J0 := hide (h'.below b0)
  clear h h' k0 x0
  have HA := hide (fun (w : World) (vn vt vx vi : Value) (h : HasR w vn vt vx vi a) => implRrOk_has h)
  have HB := hide (fun (w : World) (vn vt vx vi : Value) (h : HasR w vn vt vx vi b) => implRrOk_has h)
  cases hA : rrOk a with
  | false =>
    rw [hA] at HA
    clear hno hA
    go_enter Tryz.func154, Tryz.ntmps154
    go_wp2_with fail
    generalize (w.alloc (.cells #[.slice na a.name.length nc, .int .i64 a.type, .int .i64 a.ttl, .int .i64 a.addr, .slice ta a.to.length tc, .slice xa a.text.length xc, .slice ia a.nums.length ic] 101)).alloc (.cells #[.slice na' b.name.length nc', .int .i64 b.type, .int .i64 b.ttl, .int .i64 b.addr, .slice ta' b.to.length tc', .slice xa' b.text.length xc', .slice ia' b.nums.length ic'] 101) = W at *
    refine (unhide HA _ _ _ _ _ (unhide H0)).mono ?_
    rintro e w1 ⟨rfl, b1⟩
    go_wp2_with fail
    go_ret
    exact ⟨rfl, below_next b0 b1⟩
  | true =>
    have hB : rrOk b = false := by
      rcases hno with hno | hno
      · rw [hA] at hno; cases hno
      · exact hno
    rw [hA] at HA
    rw [hB] at HB
    clear hno hA hB
    go_enter Tryz.func154, Tryz.ntmps154
    go_wp2_with fail
    generalize (w.alloc (.cells #[.slice na a.name.length nc, .int .i64 a.type, .int .i64 a.ttl, .int .i64 a.addr, .slice ta a.to.length tc, .slice xa a.text.length xc, .slice ia a.nums.length ic] 101)).alloc (.cells #[.slice na' b.name.length nc', .int .i64 b.type, .int .i64 b.ttl, .int .i64 b.addr, .slice ta' b.to.length tc', .slice xa' b.text.length xc', .slice ia' b.nums.length ic'] 101) = W at *
    refine (unhide HA _ _ _ _ _ (unhide H0)).mono ?_
    rintro e w1 ⟨rfl, b1⟩
    have bb1 := below_next b0 b1
    have K1 := hide (block_kept b1 (unhide K0))
    have X1 := hide (block_kept b1 (unhide X0))
    have H1 := hide ((unhide H0).below b1)
    have J1 := hide ((unhide J0).below b1)
    clear K0 X0 H0 J0 b1
    obtain ⟨d0, d1, d2, d3, d4, d5, d6⟩ := cells7 (unhide K1)
    obtain ⟨f0, f1, f2, f3, f4, f5, f6⟩ := cells7 (unhide X1)
    go_wp2_with fail
    refine (unhide HB _ _ _ _ _ (unhide J1)).mono ?_
    rintro e w2 ⟨rfl, b2⟩
    go_wp2_with fail
    go_ret
    exact ⟨rfl, below_next bb1 b2⟩

theorem implRrCmp_has {vn vt vx vi un ut ux ui : Value} {a b : Rec} {w : World} (h : HasR w vn vt vx vi a) (h' : HasR w un ut ux ui b) :
    Calls Tryz.prog 154 #[.agg #[vn, .int .i64 a.type, .int .i64 a.ttl, .int .i64 a.addr, vt, vx, vi], .agg #[un, .int .i64 b.type, .int .i64 b.ttl, .int .i64 b.addr, ut, ux, ui]] w fun e w' => e = .returned (.int .i64 (rrCmp a b)) ∧ Below w.heap.size w w' := by
  unfold rrCmp
  by_cases hab : rrOk a = true ∧ rrOk b = true
  · rw [if_pos hab]
    obtain ⟨ha, hb⟩ := hab
    by_cases hne : cmpN a.name b.name ≠ 0 ∨ byLength a.type b.type ≠ 0
    · exact rrCmp_apart h h' ha hb hne
    · have hn0 : cmpN a.name b.name = 0 := by omega
      have ht0 : a.type = b.type := byLength_zero (by omega)
      have e : cmpR a b = cmpB (dataB a) (dataB b) := by
        unfold cmpR
        rw [if_neg (by omega), if_neg (by omega)]
      rw [e]
      have hc : nameCmp a.name b.name = 0 := by unfold nameCmp; rw [if_pos ⟨(rrOk_parts ha).1, (rrOk_parts hb).1⟩]; exact hn0
      clear hne e hn0
      obtain ⟨_, ht, _, _, hd⟩ := rrOk_parts ha
      obtain ⟨_, ht', _, _, hd'⟩ := rrOk_parts hb
      obtain ⟨na, nc, rfl, _⟩ := h.name.form
      obtain ⟨ta, tc, rfl, _⟩ := h.to.form
      obtain ⟨xa, xc, rfl, _⟩ := h.text.form
      obtain ⟨ia, ic, rfl, _⟩ := h.nums.form
      obtain ⟨na', nc', rfl, _⟩ := h'.name.form
      obtain ⟨ta', tc', rfl, _⟩ := h'.to.form
      obtain ⟨xa', xc', rfl, _⟩ := h'.text.form
      obtain ⟨ia', ic', rfl, _⟩ := h'.nums.form
      rcases data_kinds ht hd with ⟨e, h0, h1, eb⟩ | ⟨e, hn, eb⟩ | ⟨e, hn, x, y, exy, _, _, _, _, eb⟩ | ⟨e, hx, eb⟩
      · rcases data_kinds ht' hd' with ⟨e', _, _, eb'⟩ | ⟨e', _⟩ | ⟨e', _⟩ | ⟨e', _⟩
        · rw [eb, eb']
          obtain ⟨nm, ty, tt, ad, to, tx, nu⟩ := a
          obtain ⟨nm', ty', tt', ad', to', tx', nu'⟩ := b
          simp only at *
          subst e e'
          exact rrCmpData_A h h' ha hb hc (fun w1 _ => addrPut_any ad w1) (fun w1 _ => addrPut_any ad' w1)
        all_goals omega
      · rcases data_kinds ht' hd' with ⟨e', _⟩ | ⟨e', hn', eb'⟩ | ⟨e', _⟩ | ⟨e', _⟩
        · omega
        · rw [eb, eb']
          obtain ⟨nm, ty, tt, ad, to, tx, nu⟩ := a
          obtain ⟨nm', ty', tt', ad', to', tx', nu'⟩ := b
          simp only at *
          subst ht0
          exact rrCmpData_N (kindV_N e) ht h h' ha hb hc (fun w1 hb1 => namePutM_has (h.to.below hb1) hn) (fun w1 hb1 => namePutM_has (h'.to.below hb1) hn')
        all_goals omega
      · rcases data_kinds ht' hd' with ⟨e', _⟩ | ⟨e', _⟩ | ⟨e', hn', x', y', exy', _, _, _, _, eb'⟩ | ⟨e', _⟩
        · omega
        · omega
        · rw [eb, eb']
          obtain ⟨nm, ty, tt, ad, to, tx, nu⟩ := a
          obtain ⟨nm', ty', tt', ad', to', tx', nu'⟩ := b
          simp only at *
          subst e e' exy exy'
          exact rrCmpData_S h h' ha hb hc (fun w1 hb1 => soaPut_has (h.to.below hb1) (h.nums.below hb1) hn) (fun w1 hb1 => soaPut_has (h'.to.below hb1) (h'.nums.below hb1) hn')
        · omega
      · rcases data_kinds ht' hd' with ⟨e', _⟩ | ⟨e', _⟩ | ⟨e', _⟩ | ⟨e', hx', eb'⟩
        · omega
        · omega
        · omega
        · rw [eb, eb']
          obtain ⟨nm, ty, tt, ad, to, tx, nu⟩ := a
          obtain ⟨nm', ty', tt', ad', to', tx', nu'⟩ := b
          simp only at *
          subst ht0
          exact rrCmpData_X (kindV_X e) ht h h' ha hb hc (fun w1 hb1 => textPut_has (h.text.below hb1) hx) (fun w1 hb1 => textPut_has (h'.text.below hb1) hx')
  · rw [if_neg hab]
    refine rrCmp_bad h h' ?_
    cases hA : rrOk a with
    | false => exact .inl rfl
    | true =>
      cases hB : rrOk b with
      | false => exact .inr rfl
      | true => exact absurd ⟨hA, hB⟩ hab

set_option maxHeartbeats 1000000 in
set_option maxRecDepth 100000 in
theorem implRrSame_has {vn vt vx vi un ut ux ui : Value} {a b : Rec} {w : World} (h : HasR w vn vt vx vi a) (h' : HasR w un ut ux ui b) :
    Calls Tryz.prog 134 #[.agg #[vn, .int .i64 a.type, .int .i64 a.ttl, .int .i64 a.addr, vt, vx, vi], .agg #[un, .int .i64 b.type, .int .i64 b.ttl, .int .i64 b.addr, ut, ux, ui]] w fun e w' => e = .returned (.bool (rrSame a b)) ∧ Below w.heap.size w w' := by
  obtain ⟨na, nc, rfl, _⟩ := h.name.form
  obtain ⟨ta, tc, rfl, _⟩ := h.to.form
  obtain ⟨xa, xc, rfl, _⟩ := h.text.form
  obtain ⟨ia, ic, rfl, _⟩ := h.nums.form
  obtain ⟨na', nc', rfl, _⟩ := h'.name.form
  obtain ⟨ta', tc', rfl, _⟩ := h'.to.form
  obtain ⟨xa', xc', rfl, _⟩ := h'.text.form
  obtain ⟨ia', ic', rfl, _⟩ := h'.nums.form
  have b0 := below2 w (.cells #[.slice na a.name.length nc, .int .i64 a.type, .int .i64 a.ttl, .int .i64 a.addr, .slice ta a.to.length tc, .slice xa a.text.length xc, .slice ia a.nums.length ic] 101) (.cells #[.slice na' b.name.length nc', .int .i64 b.type, .int .i64 b.ttl, .int .i64 b.addr, .slice ta' b.to.length tc', .slice xa' b.text.length xc', .slice ia' b.nums.length ic'] 101)
  obtain ⟨hsz, k0, x0⟩ := box2 w (.cells #[.slice na a.name.length nc, .int .i64 a.type, .int .i64 a.ttl, .int .i64 a.addr, .slice ta a.to.length tc, .slice xa a.text.length xc, .slice ia a.nums.length ic] 101) #[.slice na' b.name.length nc', .int .i64 b.type, .int .i64 b.ttl, .int .i64 b.addr, .slice ta' b.to.length tc', .slice xa' b.text.length xc', .slice ia' b.nums.length ic'] 101
  have K0 := hide k0
  have X0 := hide x0
  have H0 := hide (h.below b0)
  have J0 := hide (h'.below b0)
  clear h h' k0 x0
  have HA := hide (fun (w : World) (vn vt vx vi : Value) (h : HasR w vn vt vx vi a) => implRrOk_has h)
  have HB := hide (fun (w : World) (vn vt vx vi : Value) (h : HasR w vn vt vx vi b) => implRrOk_has h)
  have HC := hide (show ∀ (w : World) (vn vt vx vi un ut ux ui : Value), HasR w vn vt vx vi a → HasR w un ut ux ui b → rrOk a = true → rrOk b = true → Calls Tryz.prog 154 #[.agg #[vn, .int .i64 a.type, .int .i64 a.ttl, .int .i64 a.addr, vt, vx, vi], .agg #[un, .int .i64 b.type, .int .i64 b.ttl, .int .i64 b.addr, ut, ux, ui]] w fun e w' => e = .returned (.int .i64 (cmpR a b)) ∧ Below w.heap.size w w' from fun w vn vt vx vi un ut ux ui h h' ha hb => (by have q := implRrCmp_has h h'; unfold rrCmp at q; rw [if_pos ⟨ha, hb⟩] at q; exact q))
  unfold rrSame
  generalize cmpR a b = R at *
  cases hA : rrOk a with
  | false =>
    rw [Bool.false_and]
    rw [hA] at HA
    go_enter Tryz.func134, Tryz.ntmps134
    go_wp2_with fail
    generalize (w.alloc (.cells #[.slice na a.name.length nc, .int .i64 a.type, .int .i64 a.ttl, .int .i64 a.addr, .slice ta a.to.length tc, .slice xa a.text.length xc, .slice ia a.nums.length ic] 101)).alloc (.cells #[.slice na' b.name.length nc', .int .i64 b.type, .int .i64 b.ttl, .int .i64 b.addr, .slice ta' b.to.length tc', .slice xa' b.text.length xc', .slice ia' b.nums.length ic'] 101) = W at *
    refine (unhide HA _ _ _ _ _ (unhide H0)).mono ?_
    rintro e w1 ⟨rfl, b1⟩
    go_wp2_with fail
    go_ret
    exact ⟨rfl, below_next b0 b1⟩
  | true =>
    rw [hA] at HA
    have HTA := hide hA
    clear hA
    rw [Bool.true_and]
    cases hB : rrOk b with
    | false =>
      rw [Bool.false_and]
      rw [hB] at HB
      go_enter Tryz.func134, Tryz.ntmps134
      go_wp2_with fail
      generalize (w.alloc (.cells #[.slice na a.name.length nc, .int .i64 a.type, .int .i64 a.ttl, .int .i64 a.addr, .slice ta a.to.length tc, .slice xa a.text.length xc, .slice ia a.nums.length ic] 101)).alloc (.cells #[.slice na' b.name.length nc', .int .i64 b.type, .int .i64 b.ttl, .int .i64 b.addr, .slice ta' b.to.length tc', .slice xa' b.text.length xc', .slice ia' b.nums.length ic'] 101) = W at *
      refine (unhide HA _ _ _ _ _ (unhide H0)).mono ?_
      rintro e w1 ⟨rfl, b1⟩
      have bb1 := below_next b0 b1
      have K1 := hide (block_kept b1 (unhide K0))
      have X1 := hide (block_kept b1 (unhide X0))
      have H1 := hide ((unhide H0).below b1)
      have J1 := hide ((unhide J0).below b1)
      clear K0 X0 H0 J0 b1
      obtain ⟨d0, d1, d2, d3, d4, d5, d6⟩ := cells7 (unhide K1)
      obtain ⟨f0, f1, f2, f3, f4, f5, f6⟩ := cells7 (unhide X1)
      go_wp2_with fail
      refine (unhide HB _ _ _ _ _ (unhide J1)).mono ?_
      rintro e w2 ⟨rfl, b2⟩
      go_wp2_with fail
      go_ret
      exact ⟨rfl, below_next bb1 b2⟩
    | true =>
      rw [Bool.true_and]
      rw [hB] at HB
      have HTB := hide hB
      clear hB
      go_enter Tryz.func134, Tryz.ntmps134
      go_wp2_with fail
      generalize (w.alloc (.cells #[.slice na a.name.length nc, .int .i64 a.type, .int .i64 a.ttl, .int .i64 a.addr, .slice ta a.to.length tc, .slice xa a.text.length xc, .slice ia a.nums.length ic] 101)).alloc (.cells #[.slice na' b.name.length nc', .int .i64 b.type, .int .i64 b.ttl, .int .i64 b.addr, .slice ta' b.to.length tc', .slice xa' b.text.length xc', .slice ia' b.nums.length ic'] 101) = W at *
      refine (unhide HA _ _ _ _ _ (unhide H0)).mono ?_
      rintro e w1 ⟨rfl, b1⟩
      have bb1 := below_next b0 b1
      have K1 := hide (block_kept b1 (unhide K0))
      have X1 := hide (block_kept b1 (unhide X0))
      have H1 := hide ((unhide H0).below b1)
      have J1 := hide ((unhide J0).below b1)
      clear K0 X0 H0 J0 b1
      obtain ⟨d0, d1, d2, d3, d4, d5, d6⟩ := cells7 (unhide K1)
      obtain ⟨f0, f1, f2, f3, f4, f5, f6⟩ := cells7 (unhide X1)
      go_wp2_with fail
      refine (unhide HB _ _ _ _ _ (unhide J1)).mono ?_
      rintro e w2 ⟨rfl, b2⟩
      clear d0 d1 d2 d3 d4 d5 d6 f0 f1 f2 f3 f4 f5 f6
      have bb2 := below_next bb1 b2
      have K2 := hide (block_kept b2 (unhide K1))
      have X2 := hide (block_kept b2 (unhide X1))
      have H2 := hide ((unhide H1).below b2)
      have J2 := hide ((unhide J1).below b2)
      clear K1 X1 H1 J1 b2
      obtain ⟨d0, d1, d2, d3, d4, d5, d6⟩ := cells7 (unhide K2)
      obtain ⟨f0, f1, f2, f3, f4, f5, f6⟩ := cells7 (unhide X2)
      go_wp2_with fail
      refine (unhide HC _ _ _ _ _ _ _ _ _ (unhide H2) (unhide J2) (unhide HTA) (unhide HTB)).mono ?_
      rintro e w3 ⟨rfl, b3⟩
      go_wp2_with fail
      go_ret
      exact ⟨rfl, below_next bb2 b3⟩
end Go.Proofs.YtdghbcjlahjjdaaGreat

namespace Go.Proofs.YtdghbcjlahjjdaaGreat
open Go.RowKit

/-- n ends with all labels of z. -/
def endsWith (n z : List (List Int)) : Bool := decide (z.length ≤ n.length) && (cmpN (n.drop (n.length - z.length)) z == 0)
def under (n z : List (List Int)) : Bool := nameOk n && (nameOk z && endsWith n z)

theorem endsWith_no {n z : List (List Int)} (h : n.length < z.length) : endsWith n z = false := by
  unfold endsWith
  rw [decide_eq_false (by omega)]
  rfl
theorem endsWith_yes {n z : List (List Int)} (h : z.length ≤ n.length) : endsWith n z = (cmpN (n.drop (n.length - z.length)) z == 0) := by
  unfold endsWith
  rw [decide_eq_true h]
  rfl

theorem nameOk_drop {n : List (List Int)} (h : nameOk n = true) (k : Nat) : nameOk (n.drop k) = true := by
  obtain ⟨h1, h2⟩ := nameOk_parts h
  refine nameOk_yes (by simp; omega) fun j hj => ?_
  simp at hj
  have := h2 (k + j) (by omega)
  have e : (n.drop k).getD j [] = n.getD (k + j) [] := by simp [List.getD]
  rw [e]; exact this

theorem HasL.drop {w : World} {a : Option Addr} {m cap k : Nat} {n : List (List Int)} (h : HasL w (.slice a m cap) n) (hn : n.length = m) (hk : k ≤ m) :
    (a = none ∧ m = 0 ∧ cap = 0) ∨ ∃ g off, a = some ⟨g, off, none⟩ ∧ HasL w (.slice (if cap = k then some ⟨g, off, none⟩ else some ⟨g, off + k, none⟩) (m - k) (cap - k)) (n.drop k) := by
  subst hn
  rcases h with ⟨hv, rfl⟩ | ⟨g, off, cap', hv, hlt, hl, hm, hc⟩
  · simp only [Value.slice.injEq] at hv
    exact .inl ⟨hv.1, rfl, hv.2.2⟩
  · simp only [Value.slice.injEq, true_and] at hv
    obtain ⟨rfl, rfl⟩ := hv
    right
    refine ⟨g, off, rfl, ?_⟩
    have hlen : (n.drop k).length = n.length - k := by simp
    by_cases e : cap = k
    · rw [if_pos e]
      refine .inr ⟨g, off, cap - k, by rw [hlen], hlt, by rw [hlen]; omega, by omega, fun i hi => ?_⟩
      rw [hlen] at hi
      omega
    · rw [if_neg e]
      refine .inr ⟨g, off + k, cap - k, by rw [hlen], hlt, by rw [hlen]; omega, by omega, fun i hi => ?_⟩
      rw [hlen] at hi
      obtain ⟨u, h1, h2⟩ := hc (k + i) (by omega)
      refine ⟨u, by rw [Nat.add_assoc]; exact h1, ?_⟩
      have e2 : (n.drop k).getD i [] = n.getD (k + i) [] := by simp [List.getD]
      rw [e2]; exact h2

theorem HasL.drop_cases {w : World} {g off m cap k : Nat} {n : List (List Int)} (h : HasL w (.slice (if cap = k then some ⟨g, off, none⟩ else some ⟨g, off + k, none⟩) (m - k) (cap - k)) (n.drop k)) :
    (cap = k ∧ HasL w (.slice (some ⟨g, off, none⟩) (m - k) 0) (n.drop k)) ∨ (cap ≠ k ∧ HasL w (.slice (some ⟨g, off + k, none⟩) (m - k) (cap - k)) (n.drop k)) := by
  by_cases e : cap = k
  · rw [if_pos e, e, Nat.sub_self] at h
    exact .inl ⟨e, h⟩
  · rw [if_neg e] at h
    exact .inr ⟨e, h⟩
end Go.Proofs.YtdghbcjlahjjdaaGreat

namespace Go.Proofs.YtdghbcjlahjjdaaGreat
open Go.RowKit

theorem compare_swap : ∀ (a b : List UInt8), Lib.compareBytes a b = - Lib.compareBytes b a
  | [], [] => rfl
  | [], _ :: _ => rfl
  | _ :: _, [] => rfl
  | x :: a, y :: b => by
    have ih := compare_swap a b
    unfold Lib.compareBytes
    by_cases h1 : x < y
    · have h2 : ¬ y < x := fun h => UInt8.lt_irrefl x (UInt8.lt_trans h1 h)
      simp [h1, h2]
    · by_cases h2 : y < x
      · simp [h1, h2]
      · simp only [h1, h2, if_false]
        exact ih

theorem compare_trans : ∀ (a b c : List UInt8), Lib.compareBytes a b ≤ 0 → Lib.compareBytes b c ≤ 0 → Lib.compareBytes a c ≤ 0
  | [], _, [], _, _ => by decide
  | [], _, _ :: _, _, _ => by
    unfold Lib.compareBytes
    omega
  | _ :: _, [], _, h, _ => by
    unfold Lib.compareBytes at h
    omega
  | _ :: _, _ :: _, [], _, h => by
    unfold Lib.compareBytes at h
    omega
  | x :: a, y :: b, z :: c, h1, h2 => by
    unfold Lib.compareBytes at h1 h2 ⊢
    by_cases hxz : x < z
    · simp [hxz]
    · simp only [hxz, if_false]
      by_cases hxy : x < y
      · by_cases hyz : y < z
        · exact absurd (UInt8.lt_trans hxy hyz) hxz
        · simp only [hyz, if_false] at h2
          by_cases hzy : z < y
          · simp [hzy] at h2
          · have e : y = z := UInt8.le_antisymm (UInt8.not_lt.1 hzy) (UInt8.not_lt.1 hyz)
            subst e
            exact absurd hxy hxz
      · simp only [hxy, if_false] at h1
        by_cases hyx : y < x
        · simp [hyx] at h1
        · have e : x = y := UInt8.le_antisymm (UInt8.not_lt.1 hyx) (UInt8.not_lt.1 hxy)
          subst e
          simp only [hyx, if_false] at h1
          simp only [hxz, if_false] at h2
          by_cases hzx : z < x
          · simp [hzx] at h2
          · simp only [hzx, if_false] at h2 ⊢
            exact compare_trans a b c h1 h2

theorem cmpB_swap (a b : List Int) : cmpB a b = - cmpB b a := compare_swap _ _
theorem cmpB_trans {a b c : List Int} (h : cmpB a b ≤ 0) (k : cmpB b c ≤ 0) : cmpB a c ≤ 0 := compare_trans _ _ _ h k
theorem cmpB_between {a b c : List Int} (h : cmpB a b ≤ 0) (k : cmpB b c ≤ 0) (e : cmpB a c = 0) : cmpB a b = 0 ∧ cmpB b c = 0 := by
  have e1 := cmpB_swap a c
  have e2 := cmpB_swap a b
  have e3 := cmpB_swap b c
  have h1 : cmpB b a ≤ 0 := cmpB_trans k (by omega)
  have h2 : cmpB c b ≤ 0 := cmpB_trans (by omega : cmpB c a ≤ 0) h
  omega
theorem cmpB_self (a : List Int) : cmpB a a = 0 := by
  have := cmpB_swap a a
  omega
/-- Lists of texts held against each other from the first on. -/
def cmpL : List (List Int) → List (List Int) → Int
  | [], [] => 0
  | [], _ :: _ => -1
  | _ :: _, [] => 1
  | x :: a, y :: b => if cmpB x y ≠ 0 then cmpB x y else cmpL a b

theorem cmpL_swap : ∀ (a b : List (List Int)), cmpL a b = - cmpL b a
  | [], [] => rfl
  | [], _ :: _ => rfl
  | _ :: _, [] => rfl
  | x :: a, y :: b => by
    have ih := cmpL_swap a b
    have hs := cmpB_swap x y
    unfold cmpL
    by_cases h : cmpB x y = 0
    · have h' : cmpB y x = 0 := by omega
      simp only [h, h', ne_eq, not_true, if_false]
      exact ih
    · have h' : ¬ cmpB y x = 0 := by omega
      simp only [h, h', ne_eq, not_false_iff, if_true]
      exact hs
theorem cmpL_trans : ∀ (a b c : List (List Int)), cmpL a b ≤ 0 → cmpL b c ≤ 0 → cmpL a c ≤ 0
  | [], _, [], _, _ => by decide
  | [], _, _ :: _, _, _ => by
    unfold cmpL
    omega
  | _ :: _, [], _, h, _ => by
    unfold cmpL at h
    omega
  | _ :: _, _ :: _, [], _, h => by
    unfold cmpL at h
    omega
  | x :: a, y :: b, z :: c, h1, h2 => by
    unfold cmpL at h1 h2 ⊢
    have p1 : cmpB x y ≤ 0 := by
      by_cases h : cmpB x y = 0
      · omega
      · simpa [h] using h1
    have p2 : cmpB y z ≤ 0 := by
      by_cases h : cmpB y z = 0
      · omega
      · simpa [h] using h2
    have p3 := cmpB_trans p1 p2
    by_cases h : cmpB x z = 0
    · obtain ⟨e1, e2⟩ := cmpB_between p1 p2 h
      simp only [h, ne_eq, not_true, if_false]
      simp only [e1, ne_eq, not_true, if_false] at h1
      simp only [e2, ne_eq, not_true, if_false] at h2
      exact cmpL_trans a b c h1 h2
    · simp only [h, ne_eq, not_false_iff, if_true]
      exact p3

theorem find_congr {α : Type} {p q : α → Bool} : ∀ {l : List α}, (∀ x ∈ l, p x = q x) → l.find? p = l.find? q
  | [], _ => rfl
  | y :: l, h => by
    rw [List.find?_cons, List.find?_cons, h y (by simp), find_congr (fun x hx => h x (by simp [hx]))]

/-- As cmpN, but from the first label on. -/
def cmpF (a b : List (List Int)) : Int :=
  match (List.range (min a.length b.length)).find? (fun j => cmpB (a.getD j []) (b.getD j []) != 0) with
  | some j => cmpB (a.getD j []) (b.getD j [])
  | none => byLength a.length b.length

theorem cmpF_eq : ∀ (a b : List (List Int)), cmpF a b = cmpL a b
  | [], [] => rfl
  | [], y :: b => by
    unfold cmpF cmpL byLength
    simp
  | x :: a, [] => by
    unfold cmpF cmpL byLength
    simp
    omega
  | x :: a, y :: b => by
    have ih := cmpF_eq a b
    unfold cmpL
    have e : min (x :: a).length (y :: b).length = min a.length b.length + 1 := by simp
    unfold cmpF
    rw [e, List.range_succ_eq_map, List.find?_cons]
    by_cases h : cmpB x y = 0
    · have h1 : (cmpB ((x :: a).getD 0 []) ((y :: b).getD 0 []) != 0) = false := by simpa using h
      rw [h1]
      simp only [h, ne_eq, not_true, if_false]
      rw [List.find?_map]
      rw [← ih]
      unfold cmpF
      have hq : ((fun j => cmpB ((x :: a).getD j []) ((y :: b).getD j []) != 0) ∘ Nat.succ) = (fun j => cmpB (a.getD j []) (b.getD j []) != 0) := by
        funext j
        simp
      rw [hq]
      cases hf : (List.range (min a.length b.length)).find? (fun j => cmpB (a.getD j []) (b.getD j []) != 0) with
      | none =>
        simp only [Option.map_none]
        unfold byLength
        simp
      | some j =>
        simp only [Option.map_some]
        simp
    · have h1 : (cmpB ((x :: a).getD 0 []) ((y :: b).getD 0 []) != 0) = true := by simpa using h
      rw [h1]
      simp [h]

theorem getD_reverse (a : List (List Int)) (j : Nat) (h : j < a.length) : a.reverse.getD j [] = a.getD (a.length - (j + 1)) [] := by
  rw [List.getD_eq_getElem?_getD, List.getD_eq_getElem?_getD, List.getElem?_reverse h]
  congr 2
  omega

theorem cmpN_eq (a b : List (List Int)) : cmpN a b = cmpL a.reverse b.reverse := by
  rw [← cmpF_eq]
  unfold cmpN cmpF
  rw [List.length_reverse, List.length_reverse]
  have hp : ∀ j, j < min a.length b.length → atEnd a b (j + 1) = cmpB (a.reverse.getD j []) (b.reverse.getD j []) := fun j hj => by
    rw [getD_reverse a j (by omega), getD_reverse b j (by omega)]
    rfl
  have hf : (List.range (min a.length b.length)).find? (fun j => atEnd a b (j + 1) != 0) = (List.range (min a.length b.length)).find? (fun j => cmpB (a.reverse.getD j []) (b.reverse.getD j []) != 0) := find_congr (fun j hj => by
    rw [hp j (by simpa using hj)])
  rw [hf]
  cases hq : (List.range (min a.length b.length)).find? (fun j => cmpB (a.reverse.getD j []) (b.reverse.getD j []) != 0) with
  | none => rfl
  | some j =>
    have := List.mem_of_find?_eq_some hq
    exact hp j (by simpa using this)

theorem cmpN_swap (a b : List (List Int)) : cmpN a b = - cmpN b a := by
  rw [cmpN_eq, cmpN_eq, ← cmpL_swap]
theorem cmpN_trans {a b c : List (List Int)} (h : cmpN a b ≤ 0) (k : cmpN b c ≤ 0) : cmpN a c ≤ 0 := by
  rw [cmpN_eq] at *
  exact cmpL_trans _ _ _ h k
theorem cmpN_self (a : List (List Int)) : cmpN a a = 0 := by
  have := cmpN_swap a a
  omega
theorem cmpN_between {a b c : List (List Int)} (h : cmpN a b ≤ 0) (k : cmpN b c ≤ 0) (e : cmpN a c = 0) : cmpN a b = 0 ∧ cmpN b c = 0 := by
  have e1 := cmpN_swap a c
  have e2 := cmpN_swap a b
  have e3 := cmpN_swap b c
  have h1 : cmpN b a ≤ 0 := cmpN_trans k (by omega)
  have h2 : cmpN c b ≤ 0 := cmpN_trans (by omega : cmpN c a ≤ 0) h
  omega
end Go.Proofs.YtdghbcjlahjjdaaGreat
