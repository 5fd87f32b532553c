/-
  Contracts of the program's RrCmp, kind by kind, and of its RrSame.
-/
import Derived.Test.YtfneahdnpmamkaaGreatFnOwnersG37
namespace Go.Proofs.YtfneahdnpmamkaaGreat
open Go.RowKit
set_option linter.unusedVariables false
set_option maxHeartbeats 2000000
set_option maxRecDepth 100000

theorem S5 {na : Option Addr} {nc : Nat} {ta : Option Addr} {tc : Nat} {xa : Option Addr} {xc : Nat} {ia : Option Addr} {ic : Nat} {nm to : List (List Int)} {tx nu : List Int} {tt ad : Int} {na' : Option Addr} {nc' : Nat} {ta' : Option Addr} {tc' : Nat} {xa' : Option Addr} {xc' : Nat} {ia' : Option Addr} {ic' : Nat} {nm' to' : List (List Int)} {tx' nu' : List Int} {tt' ad' : Int} {w : World} {DA DB : List Int} (h : HasR w (.slice na nm.length nc) (.slice ta to.length tc) (.slice xa tx.length xc) (.slice ia nu.length ic) ⟨nm, 1, tt, ad, to, tx, nu⟩) (h' : HasR w (.slice na' nm'.length nc') (.slice ta' to'.length tc') (.slice xa' tx'.length xc') (.slice ia' nu'.length ic') ⟨nm', 1, tt', ad', to', tx', nu'⟩) (ha : rrOk ⟨nm, 1, tt, ad, to, tx, nu⟩ = true) (hb : rrOk ⟨nm', 1, tt', ad', to', tx', nu'⟩ = true) (hc : Bo nm nm' = 0)
  (PA : ∀ w1, Below w.heap.size w w1 → Calls Tryz.prog 146 #[.agg #[.int .i64 ad]] w1 fun e w' => ∃ v', e = .returned v' ∧ Own w1.heap.size 5 w' v' DA ∧ Below w1.heap.size w1 w') (PB : ∀ w1, Below w.heap.size w w1 → Calls Tryz.prog 146 #[.agg #[.int .i64 ad']] w1 fun e w' => ∃ v', e = .returned v' ∧ Own w1.heap.size 5 w' v' DB ∧ Below w1.heap.size w1 w') :
  Calls Tryz.prog 70 #[.agg #[.slice na nm.length nc, .int .i64 1, .int .i64 tt, .int .i64 ad, .slice ta to.length tc, .slice xa tx.length xc, .slice ia nu.length ic], .agg #[.slice na' nm'.length nc', .int .i64 1, .int .i64 tt', .int .i64 ad', .slice ta' to'.length tc', .slice xa' tx'.length xc', .slice ia' nu'.length ic']] w fun e w' => e = .returned (.int .i64 (cmpB DA DB)) ∧ Below w.heap.size w w' := by
 have b0 := Bl w (.cells #[.slice na nm.length nc, .int .i64 1, .int .i64 tt, .int .i64 ad, .slice ta to.length tc, .slice xa tx.length xc, .slice ia nu.length ic] 39) (.cells #[.slice na' nm'.length nc', .int .i64 1, .int .i64 tt', .int .i64 ad', .slice ta' to'.length tc', .slice xa' tx'.length xc', .slice ia' nu'.length ic'] 39)
 obtain ⟨hsz, k0, x0⟩ := box2 w (.cells #[.slice na nm.length nc, .int .i64 1, .int .i64 tt, .int .i64 ad, .slice ta to.length tc, .slice xa tx.length xc, .slice ia nu.length ic] 39) #[.slice na' nm'.length nc', .int .i64 1, .int .i64 tt', .int .i64 ad', .slice ta' to'.length tc', .slice xa' tx'.length xc', .slice ia' nu'.length ic'] 39
 have K0 := UC k0
 have X0 := UC x0
 have H0 := UC (h.below b0)
 have J0 := UC (h'.below b0)
 have HA := UC (fun (w : World) (h : HasR w (.slice na nm.length nc) (.slice ta to.length tc) (.slice xa tx.length xc) (.slice ia nu.length ic) ⟨nm, 1, tt, ad, to, tx, nu⟩) => (show Calls Tryz.prog 67 #[.agg #[.slice na nm.length nc, .int .i64 1, .int .i64 tt, .int .i64 ad, .slice ta to.length tc, .slice xa tx.length xc, .slice ia nu.length ic]] w fun e w' => e = .returned (.bool true) ∧ Below w.heap.size w w' by have q := Bb h; rw [ha] at q; exact q))
 have HB := UC (fun (w : World) (h : HasR w (.slice na' nm'.length nc') (.slice ta' to'.length tc') (.slice xa' tx'.length xc') (.slice ia' nu'.length ic') ⟨nm', 1, tt', ad', to', tx', nu'⟩) => (show Calls Tryz.prog 67 #[.agg #[.slice na' nm'.length nc', .int .i64 1, .int .i64 tt', .int .i64 ad', .slice ta' to'.length tc', .slice xa' tx'.length xc', .slice ia' nu'.length ic']] w fun e w' => e = .returned (.bool true) ∧ Below w.heap.size w w' by have q := Bb h; rw [hb] at q; exact q))
 have HC := UC (fun (w : World) (v v' : Value) (h : HasL w v nm) (h' : HasL w v' nm') => (show Calls Tryz.prog 69 #[.agg #[v], .agg #[v']] w fun e w' => e = .returned (.int .i64 0) ∧ Below w.heap.size w w' by have q := Ba h h'; rw [hc] at q; exact q))
 have HL := UC (show ∀ w : World, Calls Tryz.prog 97 #[.int .i64 1, .int .i64 1] w fun e w' => e = .returned (.int .i64 0) ∧ w = w' from fun w => by have q := Cq 1 1 w; unfold A4 at q; rw [if_neg (by omega), if_neg (by omega)] at q; exact q)
 have QA := UC PA
 have QB := UC PB
 skip
 skip
 clear h h' k0 x0 ha hb hc PA PB 
 go_enter Tryz.func70, Tryz.ntmps70
 go_wp2_with fail
 generalize (w.alloc (.cells #[.slice na nm.length nc, .int .i64 1, .int .i64 tt, .int .i64 ad, .slice ta to.length tc, .slice xa tx.length xc, .slice ia nu.length ic] 39)).alloc (.cells #[.slice na' nm'.length nc', .int .i64 1, .int .i64 tt', .int .i64 ad', .slice ta' to'.length tc', .slice xa' tx'.length xc', .slice ia' nu'.length ic'] 39) = W at *
 refine (UB HA _ (UB H0)).mono ?_
 rintro e w1 ⟨rfl, b1⟩
 have bb1 := UG b0 b1
 have K1 := UC (UE b1 (UB K0))
 have X1 := UC (UE b1 (UB X0))
 have H1 := UC ((UB H0).below b1)
 have J1 := UC ((UB J0).below b1)
 clear K0 X0 H0 J0 b1
 obtain ⟨d0, d1, d2, d3, d4, d5, d6⟩ := UJ (UB K1)
 obtain ⟨f0, f1, f2, f3, f4, f5, f6⟩ := UJ (UB X1)
 go_wp2_with fail
 refine (UB HB _ (UB J1)).mono ?_
 rintro e w2 ⟨rfl, b2⟩
 clear d0 d1 d2 d3 d4 d5 d6 f0 f1 f2 f3 f4 f5 f6
 have bb2 := UG bb1 b2
 have K2 := UC (UE b2 (UB K1))
 have X2 := UC (UE b2 (UB X1))
 have H2 := UC ((UB H1).below b2)
 have J2 := UC ((UB J1).below b2)
 clear K1 X1 H1 J1 b2
 obtain ⟨d0, d1, d2, d3, d4, d5, d6⟩ := UJ (UB K2)
 obtain ⟨f0, f1, f2, f3, f4, f5, f6⟩ := UJ (UB X2)
 go_wp2_with fail
 refine (UB HC _ _ _ (UB H2).name (UB J2).name).mono ?_
 rintro e w3 ⟨rfl, b3⟩
 clear d0 d1 d2 d3 d4 d5 d6 f0 f1 f2 f3 f4 f5 f6
 have bb3 := UG bb2 b3
 have K3 := UC (UE b3 (UB K2))
 have X3 := UC (UE b3 (UB X2))
 have H3 := UC ((UB H2).below b3)
 have J3 := UC ((UB J2).below b3)
 clear K2 X2 H2 J2 b3
 obtain ⟨d0, d1, d2, d3, d4, d5, d6⟩ := UJ (UB K3)
 obtain ⟨f0, f1, f2, f3, f4, f5, f6⟩ := UJ (UB X3)
 go_wp2_with fail
 refine (UB HL _).mono ?_
 rintro e w4 ⟨rfl, rfl⟩
 clear d0 d1 d2 d3 d4 d5 d6 f0 f1 f2 f3 f4 f5 f6
 have bd := UX (w := w3)
 have bb5 := UG bb3 bd
 have K5 := UC (UE bd (UB K3))
 have X5 := UC (UE bd (UB X3))
 have H5 := UC ((UB H3).below bd)
 have J5 := UC ((UB J3).below bd)
 clear K3 X3 H3 J3 bd
 obtain ⟨d0, d1, d2, d3, d4, d5, d6⟩ := UJ (UB K5)
 obtain ⟨f0, f1, f2, f3, f4, f5, f6⟩ := UJ (UB X5)
 go_wp2_with fail
 clear d0 d1 d2 d3 d4 d5 d6 f0 f1 f2 f3 f4 f5 f6
 go_region_held3 (fun w' => (w'.cell? ⟨w.heap.size, 0, none⟩ = some (.slice na nm.length nc) ∧ w'.cell? ⟨w.heap.size, 1, none⟩ = some (.int .i64 1) ∧ w'.cell? ⟨w.heap.size, 2, none⟩ = some (.int .i64 tt) ∧ w'.cell? ⟨w.heap.size, 3, none⟩ = some (.int .i64 ad) ∧ w'.cell? ⟨w.heap.size, 4, none⟩ = some (.slice ta to.length tc) ∧ w'.cell? ⟨w.heap.size, 5, none⟩ = some (.slice xa tx.length xc) ∧ w'.cell? ⟨w.heap.size, 6, none⟩ = some (.slice ia nu.length ic)) ∧ (w'.cell? ⟨w.heap.size + 1, 0, none⟩ = some (.slice na' nm'.length nc') ∧ w'.cell? ⟨w.heap.size + 1, 1, none⟩ = some (.int .i64 1) ∧ w'.cell? ⟨w.heap.size + 1, 2, none⟩ = some (.int .i64 tt') ∧ w'.cell? ⟨w.heap.size + 1, 3, none⟩ = some (.int .i64 ad') ∧ w'.cell? ⟨w.heap.size + 1, 4, none⟩ = some (.slice ta' to'.length tc') ∧ w'.cell? ⟨w.heap.size + 1, 5, none⟩ = some (.slice xa' tx'.length xc') ∧ w'.cell? ⟨w.heap.size + 1, 6, none⟩ = some (.slice ia' nu'.length ic')))
  (first | exact ⟨UJ (UB K5), UJ (UB X5)⟩ | exact ⟨UJ (UE b6 (UB K5)), UJ (UE b6 (UB X5))⟩ | exact ⟨UJ (UE q7 (UB K5)), UJ (UE q7 (UB X5))⟩ | exact ⟨UJ (UE q8 (UB K5)), UJ (UE q8 (UB X5))⟩ | exact ⟨UJ (UE q9 (UB K5)), UJ (UE q9 (UB X5))⟩)
  (first
  | (go_at_call_of 93 (Value.slice na nm.length nc); refine (Ic (na := na) (nc := nc) (ta := ta) (tc := tc) (xa := xa) (xc := xc) (ia := ia) (ic := ic) (nm := nm) (to := to) (tx := tx) (nu := nu) (tt := tt) (ad := ad)).mono ?_; rintro e w6 ⟨rfl, b6⟩)
  | (go_at_call_of 93 (Value.slice na' nm'.length nc'); refine (Ic (na := na') (nc := nc') (ta := ta') (tc := tc') (xa := xa') (xc := xc') (ia := ia') (ic := ic') (nm := nm') (to := to') (tx := tx') (nu := nu') (tt := tt') (ad := ad')).mono ?_; rintro e w8 ⟨rfl, b8⟩; have q8 := UG q7 b8)
  | (go_at_call_of 146 (Value.agg #[Value.int IntKind.i64 ad]); refine (UB QA _ (UG bb5 b6)).mono ?_; rintro e w7 ⟨v7, rfl, o7, b7⟩; have q7 := UG b6 b7)
  | (go_at_call_of 146 (Value.agg #[Value.int IntKind.i64 ad']); refine (UB QB _ (UG bb5 q8)).mono ?_; rintro e w9 ⟨v9, rfl, o9, b9⟩; have q9 := UG q8 b9)
  | (go_at_call 96; refine (Co (o7.below (UG b8 b9)).has o9.has).mono ?_; rintro e w10 ⟨rfl, rfl⟩))
 go_wp2_with fail
 go_ret
 exact ⟨rfl, UG bb5 q9⟩

theorem Q4 {na : Option Addr} {nc : Nat} {ta : Option Addr} {tc : Nat} {xa : Option Addr} {xc : Nat} {ia : Option Addr} {ic : Nat} {nm to : List (List Int)} {tx nu : List Int} {tt ad : Int} {na' : Option Addr} {nc' : Nat} {ta' : Option Addr} {tc' : Nat} {xa' : Option Addr} {xc' : Nat} {ia' : Option Addr} {ic' : Nat} {nm' to' : List (List Int)} {tx' nu' : List Int} {tt' ad' : Int} {w : World} {DA DB : List Int} {ty : Int} (hk : Ed ty = .iface 127 (.agg #[.slice none 0 0])) (hto : Ax ty = true) (h : HasR w (.slice na nm.length nc) (.slice ta to.length tc) (.slice xa tx.length xc) (.slice ia nu.length ic) ⟨nm, ty, tt, ad, to, tx, nu⟩) (h' : HasR w (.slice na' nm'.length nc') (.slice ta' to'.length tc') (.slice xa' tx'.length xc') (.slice ia' nu'.length ic') ⟨nm', ty, tt', ad', to', tx', nu'⟩) (ha : rrOk ⟨nm, ty, tt, ad, to, tx, nu⟩ = true) (hb : rrOk ⟨nm', ty, tt', ad', to', tx', nu'⟩ = true) (hc : Bo nm nm' = 0)
  (PA : ∀ w1, Below w.heap.size w w1 → Calls Tryz.prog 151 #[.agg #[.slice ta to.length tc]] w1 fun e w' => ∃ v', e = .returned v' ∧ Own w1.heap.size 5 w' v' DA ∧ Below w1.heap.size w1 w') (PB : ∀ w1, Below w.heap.size w w1 → Calls Tryz.prog 151 #[.agg #[.slice ta' to'.length tc']] w1 fun e w' => ∃ v', e = .returned v' ∧ Own w1.heap.size 5 w' v' DB ∧ Below w1.heap.size w1 w') :
  Calls Tryz.prog 70 #[.agg #[.slice na nm.length nc, .int .i64 ty, .int .i64 tt, .int .i64 ad, .slice ta to.length tc, .slice xa tx.length xc, .slice ia nu.length ic], .agg #[.slice na' nm'.length nc', .int .i64 ty, .int .i64 tt', .int .i64 ad', .slice ta' to'.length tc', .slice xa' tx'.length xc', .slice ia' nu'.length ic']] w fun e w' => e = .returned (.int .i64 (cmpB DA DB)) ∧ Below w.heap.size w w' := by
 have b0 := Bl w (.cells #[.slice na nm.length nc, .int .i64 ty, .int .i64 tt, .int .i64 ad, .slice ta to.length tc, .slice xa tx.length xc, .slice ia nu.length ic] 39) (.cells #[.slice na' nm'.length nc', .int .i64 ty, .int .i64 tt', .int .i64 ad', .slice ta' to'.length tc', .slice xa' tx'.length xc', .slice ia' nu'.length ic'] 39)
 obtain ⟨hsz, k0, x0⟩ := box2 w (.cells #[.slice na nm.length nc, .int .i64 ty, .int .i64 tt, .int .i64 ad, .slice ta to.length tc, .slice xa tx.length xc, .slice ia nu.length ic] 39) #[.slice na' nm'.length nc', .int .i64 ty, .int .i64 tt', .int .i64 ad', .slice ta' to'.length tc', .slice xa' tx'.length xc', .slice ia' nu'.length ic'] 39
 have K0 := UC k0
 have X0 := UC x0
 have H0 := UC (h.below b0)
 have J0 := UC (h'.below b0)
 have HA := UC (fun (w : World) (h : HasR w (.slice na nm.length nc) (.slice ta to.length tc) (.slice xa tx.length xc) (.slice ia nu.length ic) ⟨nm, ty, tt, ad, to, tx, nu⟩) => (show Calls Tryz.prog 67 #[.agg #[.slice na nm.length nc, .int .i64 ty, .int .i64 tt, .int .i64 ad, .slice ta to.length tc, .slice xa tx.length xc, .slice ia nu.length ic]] w fun e w' => e = .returned (.bool true) ∧ Below w.heap.size w w' by have q := Bb h; rw [ha] at q; exact q))
 have HB := UC (fun (w : World) (h : HasR w (.slice na' nm'.length nc') (.slice ta' to'.length tc') (.slice xa' tx'.length xc') (.slice ia' nu'.length ic') ⟨nm', ty, tt', ad', to', tx', nu'⟩) => (show Calls Tryz.prog 67 #[.agg #[.slice na' nm'.length nc', .int .i64 ty, .int .i64 tt', .int .i64 ad', .slice ta' to'.length tc', .slice xa' tx'.length xc', .slice ia' nu'.length ic']] w fun e w' => e = .returned (.bool true) ∧ Below w.heap.size w w' by have q := Bb h; rw [hb] at q; exact q))
 have HC := UC (fun (w : World) (v v' : Value) (h : HasL w v nm) (h' : HasL w v' nm') => (show Calls Tryz.prog 69 #[.agg #[v], .agg #[v']] w fun e w' => e = .returned (.int .i64 0) ∧ Below w.heap.size w w' by have q := Ba h h'; rw [hc] at q; exact q))
 have HL := UC (show ∀ w : World, Calls Tryz.prog 97 #[.int .i64 ty, .int .i64 ty] w fun e w' => e = .returned (.int .i64 0) ∧ w = w' from fun w => by have q := Cq ty ty w; unfold A4 at q; rw [if_neg (by omega), if_neg (by omega)] at q; exact q)
 have QA := UC PA
 have QB := UC PB
 have HKK := UC hk
 have HTO := UC hto
 clear h h' k0 x0 ha hb hc PA PB hk hto
 go_enter Tryz.func70, Tryz.ntmps70
 go_wp2_with fail
 generalize (w.alloc (.cells #[.slice na nm.length nc, .int .i64 ty, .int .i64 tt, .int .i64 ad, .slice ta to.length tc, .slice xa tx.length xc, .slice ia nu.length ic] 39)).alloc (.cells #[.slice na' nm'.length nc', .int .i64 ty, .int .i64 tt', .int .i64 ad', .slice ta' to'.length tc', .slice xa' tx'.length xc', .slice ia' nu'.length ic'] 39) = W at *
 refine (UB HA _ (UB H0)).mono ?_
 rintro e w1 ⟨rfl, b1⟩
 have bb1 := UG b0 b1
 have K1 := UC (UE b1 (UB K0))
 have X1 := UC (UE b1 (UB X0))
 have H1 := UC ((UB H0).below b1)
 have J1 := UC ((UB J0).below b1)
 clear K0 X0 H0 J0 b1
 obtain ⟨d0, d1, d2, d3, d4, d5, d6⟩ := UJ (UB K1)
 obtain ⟨f0, f1, f2, f3, f4, f5, f6⟩ := UJ (UB X1)
 go_wp2_with fail
 refine (UB HB _ (UB J1)).mono ?_
 rintro e w2 ⟨rfl, b2⟩
 clear d0 d1 d2 d3 d4 d5 d6 f0 f1 f2 f3 f4 f5 f6
 have bb2 := UG bb1 b2
 have K2 := UC (UE b2 (UB K1))
 have X2 := UC (UE b2 (UB X1))
 have H2 := UC ((UB H1).below b2)
 have J2 := UC ((UB J1).below b2)
 clear K1 X1 H1 J1 b2
 obtain ⟨d0, d1, d2, d3, d4, d5, d6⟩ := UJ (UB K2)
 obtain ⟨f0, f1, f2, f3, f4, f5, f6⟩ := UJ (UB X2)
 go_wp2_with fail
 refine (UB HC _ _ _ (UB H2).name (UB J2).name).mono ?_
 rintro e w3 ⟨rfl, b3⟩
 clear d0 d1 d2 d3 d4 d5 d6 f0 f1 f2 f3 f4 f5 f6
 have bb3 := UG bb2 b3
 have K3 := UC (UE b3 (UB K2))
 have X3 := UC (UE b3 (UB X2))
 have H3 := UC ((UB H2).below b3)
 have J3 := UC ((UB J2).below b3)
 clear K2 X2 H2 J2 b3
 obtain ⟨d0, d1, d2, d3, d4, d5, d6⟩ := UJ (UB K3)
 obtain ⟨f0, f1, f2, f3, f4, f5, f6⟩ := UJ (UB X3)
 go_wp2_with fail
 refine (UB HL _).mono ?_
 rintro e w4 ⟨rfl, rfl⟩
 clear d0 d1 d2 d3 d4 d5 d6 f0 f1 f2 f3 f4 f5 f6
 have bd := UX (w := w3)
 have bb5 := UG bb3 bd
 have K5 := UC (UE bd (UB K3))
 have X5 := UC (UE bd (UB X3))
 have H5 := UC ((UB H3).below bd)
 have J5 := UC ((UB J3).below bd)
 clear K3 X3 H3 J3 bd
 obtain ⟨d0, d1, d2, d3, d4, d5, d6⟩ := UJ (UB K5)
 obtain ⟨f0, f1, f2, f3, f4, f5, f6⟩ := UJ (UB X5)
 go_wp2_with fail
 clear d0 d1 d2 d3 d4 d5 d6 f0 f1 f2 f3 f4 f5 f6
 go_region_held3 (fun w' => (w'.cell? ⟨w.heap.size, 0, none⟩ = some (.slice na nm.length nc) ∧ w'.cell? ⟨w.heap.size, 1, none⟩ = some (.int .i64 ty) ∧ w'.cell? ⟨w.heap.size, 2, none⟩ = some (.int .i64 tt) ∧ w'.cell? ⟨w.heap.size, 3, none⟩ = some (.int .i64 ad) ∧ w'.cell? ⟨w.heap.size, 4, none⟩ = some (.slice ta to.length tc) ∧ w'.cell? ⟨w.heap.size, 5, none⟩ = some (.slice xa tx.length xc) ∧ w'.cell? ⟨w.heap.size, 6, none⟩ = some (.slice ia nu.length ic)) ∧ (w'.cell? ⟨w.heap.size + 1, 0, none⟩ = some (.slice na' nm'.length nc') ∧ w'.cell? ⟨w.heap.size + 1, 1, none⟩ = some (.int .i64 ty) ∧ w'.cell? ⟨w.heap.size + 1, 2, none⟩ = some (.int .i64 tt') ∧ w'.cell? ⟨w.heap.size + 1, 3, none⟩ = some (.int .i64 ad') ∧ w'.cell? ⟨w.heap.size + 1, 4, none⟩ = some (.slice ta' to'.length tc') ∧ w'.cell? ⟨w.heap.size + 1, 5, none⟩ = some (.slice xa' tx'.length xc') ∧ w'.cell? ⟨w.heap.size + 1, 6, none⟩ = some (.slice ia' nu'.length ic')))
  (first | exact ⟨UJ (UB K5), UJ (UB X5)⟩ | exact ⟨UJ (UE b6 (UB K5)), UJ (UE b6 (UB X5))⟩ | exact ⟨UJ (UE q7 (UB K5)), UJ (UE q7 (UB X5))⟩ | exact ⟨UJ (UE q8 (UB K5)), UJ (UE q8 (UB X5))⟩ | exact ⟨UJ (UE q9 (UB K5)), UJ (UE q9 (UB X5))⟩)
  (first
  | (go_at_call_of 93 (Value.slice na nm.length nc); refine (It (na := na) (nc := nc) (ta := ta) (tc := tc) (xa := xa) (xc := xc) (ia := ia) (ic := ic) (nm := nm) (to := to) (tx := tx) (nu := nu) (tt := tt) (ad := ad) (UB HKK) (UB HTO)).mono ?_; rintro e w6 ⟨rfl, b6⟩)
  | (go_at_call_of 93 (Value.slice na' nm'.length nc'); refine (It (na := na') (nc := nc') (ta := ta') (tc := tc') (xa := xa') (xc := xc') (ia := ia') (ic := ic') (nm := nm') (to := to') (tx := tx') (nu := nu') (tt := tt') (ad := ad') (UB HKK) (UB HTO)).mono ?_; rintro e w8 ⟨rfl, b8⟩; have q8 := UG q7 b8)
  | (go_at_call_of 151 (Value.agg #[Value.slice ta to.length tc]); refine (UB QA _ (UG bb5 b6)).mono ?_; rintro e w7 ⟨v7, rfl, o7, b7⟩; have q7 := UG b6 b7)
  | (go_at_call_of 151 (Value.agg #[Value.slice ta' to'.length tc']); refine (UB QB _ (UG bb5 q8)).mono ?_; rintro e w9 ⟨v9, rfl, o9, b9⟩; have q9 := UG q8 b9)
  | (go_at_call 96; refine (Co (o7.below (UG b8 b9)).has o9.has).mono ?_; rintro e w10 ⟨rfl, rfl⟩))
 go_wp2_with fail
 go_ret
 exact ⟨rfl, UG bb5 q9⟩

theorem Ri {na : Option Addr} {nc : Nat} {ta : Option Addr} {tc : Nat} {xa : Option Addr} {xc : Nat} {ia : Option Addr} {ic : Nat} {nm to : List (List Int)} {tx nu : List Int} {tt ad : Int} {na' : Option Addr} {nc' : Nat} {ta' : Option Addr} {tc' : Nat} {xa' : Option Addr} {xc' : Nat} {ia' : Option Addr} {ic' : Nat} {nm' to' : List (List Int)} {tx' nu' : List Int} {tt' ad' : Int} {w : World} {DA DB : List Int} (h : HasR w (.slice na nm.length nc) (.slice ta to.length tc) (.slice xa tx.length xc) (.slice ia nu.length ic) ⟨nm, 6, tt, ad, to, tx, nu⟩) (h' : HasR w (.slice na' nm'.length nc') (.slice ta' to'.length tc') (.slice xa' tx'.length xc') (.slice ia' nu'.length ic') ⟨nm', 6, tt', ad', to', tx', nu'⟩) (ha : rrOk ⟨nm, 6, tt, ad, to, tx, nu⟩ = true) (hb : rrOk ⟨nm', 6, tt', ad', to', tx', nu'⟩ = true) (hc : Bo nm nm' = 0)
  (PA : ∀ w1, Below w.heap.size w w1 → Calls Tryz.prog 157 #[.agg #[.slice ta to.length tc, .slice ia nu.length ic]] w1 fun e w' => ∃ v', e = .returned v' ∧ Own w1.heap.size 5 w' v' DA ∧ Below w1.heap.size w1 w') (PB : ∀ w1, Below w.heap.size w w1 → Calls Tryz.prog 157 #[.agg #[.slice ta' to'.length tc', .slice ia' nu'.length ic']] w1 fun e w' => ∃ v', e = .returned v' ∧ Own w1.heap.size 5 w' v' DB ∧ Below w1.heap.size w1 w') :
  Calls Tryz.prog 70 #[.agg #[.slice na nm.length nc, .int .i64 6, .int .i64 tt, .int .i64 ad, .slice ta to.length tc, .slice xa tx.length xc, .slice ia nu.length ic], .agg #[.slice na' nm'.length nc', .int .i64 6, .int .i64 tt', .int .i64 ad', .slice ta' to'.length tc', .slice xa' tx'.length xc', .slice ia' nu'.length ic']] w fun e w' => e = .returned (.int .i64 (cmpB DA DB)) ∧ Below w.heap.size w w' := by
 have b0 := Bl w (.cells #[.slice na nm.length nc, .int .i64 6, .int .i64 tt, .int .i64 ad, .slice ta to.length tc, .slice xa tx.length xc, .slice ia nu.length ic] 39) (.cells #[.slice na' nm'.length nc', .int .i64 6, .int .i64 tt', .int .i64 ad', .slice ta' to'.length tc', .slice xa' tx'.length xc', .slice ia' nu'.length ic'] 39)
 obtain ⟨hsz, k0, x0⟩ := box2 w (.cells #[.slice na nm.length nc, .int .i64 6, .int .i64 tt, .int .i64 ad, .slice ta to.length tc, .slice xa tx.length xc, .slice ia nu.length ic] 39) #[.slice na' nm'.length nc', .int .i64 6, .int .i64 tt', .int .i64 ad', .slice ta' to'.length tc', .slice xa' tx'.length xc', .slice ia' nu'.length ic'] 39
 have K0 := UC k0
 have X0 := UC x0
 have H0 := UC (h.below b0)
 have J0 := UC (h'.below b0)
 have HA := UC (fun (w : World) (h : HasR w (.slice na nm.length nc) (.slice ta to.length tc) (.slice xa tx.length xc) (.slice ia nu.length ic) ⟨nm, 6, tt, ad, to, tx, nu⟩) => (show Calls Tryz.prog 67 #[.agg #[.slice na nm.length nc, .int .i64 6, .int .i64 tt, .int .i64 ad, .slice ta to.length tc, .slice xa tx.length xc, .slice ia nu.length ic]] w fun e w' => e = .returned (.bool true) ∧ Below w.heap.size w w' by have q := Bb h; rw [ha] at q; exact q))
 have HB := UC (fun (w : World) (h : HasR w (.slice na' nm'.length nc') (.slice ta' to'.length tc') (.slice xa' tx'.length xc') (.slice ia' nu'.length ic') ⟨nm', 6, tt', ad', to', tx', nu'⟩) => (show Calls Tryz.prog 67 #[.agg #[.slice na' nm'.length nc', .int .i64 6, .int .i64 tt', .int .i64 ad', .slice ta' to'.length tc', .slice xa' tx'.length xc', .slice ia' nu'.length ic']] w fun e w' => e = .returned (.bool true) ∧ Below w.heap.size w w' by have q := Bb h; rw [hb] at q; exact q))
 have HC := UC (fun (w : World) (v v' : Value) (h : HasL w v nm) (h' : HasL w v' nm') => (show Calls Tryz.prog 69 #[.agg #[v], .agg #[v']] w fun e w' => e = .returned (.int .i64 0) ∧ Below w.heap.size w w' by have q := Ba h h'; rw [hc] at q; exact q))
 have HL := UC (show ∀ w : World, Calls Tryz.prog 97 #[.int .i64 6, .int .i64 6] w fun e w' => e = .returned (.int .i64 0) ∧ w = w' from fun w => by have q := Cq 6 6 w; unfold A4 at q; rw [if_neg (by omega), if_neg (by omega)] at q; exact q)
 have QA := UC PA
 have QB := UC PB
 skip
 skip
 clear h h' k0 x0 ha hb hc PA PB 
 go_enter Tryz.func70, Tryz.ntmps70
 go_wp2_with fail
 generalize (w.alloc (.cells #[.slice na nm.length nc, .int .i64 6, .int .i64 tt, .int .i64 ad, .slice ta to.length tc, .slice xa tx.length xc, .slice ia nu.length ic] 39)).alloc (.cells #[.slice na' nm'.length nc', .int .i64 6, .int .i64 tt', .int .i64 ad', .slice ta' to'.length tc', .slice xa' tx'.length xc', .slice ia' nu'.length ic'] 39) = W at *
 refine (UB HA _ (UB H0)).mono ?_
 rintro e w1 ⟨rfl, b1⟩
 have bb1 := UG b0 b1
 have K1 := UC (UE b1 (UB K0))
 have X1 := UC (UE b1 (UB X0))
 have H1 := UC ((UB H0).below b1)
 have J1 := UC ((UB J0).below b1)
 clear K0 X0 H0 J0 b1
 obtain ⟨d0, d1, d2, d3, d4, d5, d6⟩ := UJ (UB K1)
 obtain ⟨f0, f1, f2, f3, f4, f5, f6⟩ := UJ (UB X1)
 go_wp2_with fail
 refine (UB HB _ (UB J1)).mono ?_
 rintro e w2 ⟨rfl, b2⟩
 clear d0 d1 d2 d3 d4 d5 d6 f0 f1 f2 f3 f4 f5 f6
 have bb2 := UG bb1 b2
 have K2 := UC (UE b2 (UB K1))
 have X2 := UC (UE b2 (UB X1))
 have H2 := UC ((UB H1).below b2)
 have J2 := UC ((UB J1).below b2)
 clear K1 X1 H1 J1 b2
 obtain ⟨d0, d1, d2, d3, d4, d5, d6⟩ := UJ (UB K2)
 obtain ⟨f0, f1, f2, f3, f4, f5, f6⟩ := UJ (UB X2)
 go_wp2_with fail
 refine (UB HC _ _ _ (UB H2).name (UB J2).name).mono ?_
 rintro e w3 ⟨rfl, b3⟩
 clear d0 d1 d2 d3 d4 d5 d6 f0 f1 f2 f3 f4 f5 f6
 have bb3 := UG bb2 b3
 have K3 := UC (UE b3 (UB K2))
 have X3 := UC (UE b3 (UB X2))
 have H3 := UC ((UB H2).below b3)
 have J3 := UC ((UB J2).below b3)
 clear K2 X2 H2 J2 b3
 obtain ⟨d0, d1, d2, d3, d4, d5, d6⟩ := UJ (UB K3)
 obtain ⟨f0, f1, f2, f3, f4, f5, f6⟩ := UJ (UB X3)
 go_wp2_with fail
 refine (UB HL _).mono ?_
 rintro e w4 ⟨rfl, rfl⟩
 clear d0 d1 d2 d3 d4 d5 d6 f0 f1 f2 f3 f4 f5 f6
 have bd := UX (w := w3)
 have bb5 := UG bb3 bd
 have K5 := UC (UE bd (UB K3))
 have X5 := UC (UE bd (UB X3))
 have H5 := UC ((UB H3).below bd)
 have J5 := UC ((UB J3).below bd)
 clear K3 X3 H3 J3 bd
 obtain ⟨d0, d1, d2, d3, d4, d5, d6⟩ := UJ (UB K5)
 obtain ⟨f0, f1, f2, f3, f4, f5, f6⟩ := UJ (UB X5)
 go_wp2_with fail
 clear d0 d1 d2 d3 d4 d5 d6 f0 f1 f2 f3 f4 f5 f6
 go_region_held3 (fun w' => (w'.cell? ⟨w.heap.size, 0, none⟩ = some (.slice na nm.length nc) ∧ w'.cell? ⟨w.heap.size, 1, none⟩ = some (.int .i64 6) ∧ w'.cell? ⟨w.heap.size, 2, none⟩ = some (.int .i64 tt) ∧ w'.cell? ⟨w.heap.size, 3, none⟩ = some (.int .i64 ad) ∧ w'.cell? ⟨w.heap.size, 4, none⟩ = some (.slice ta to.length tc) ∧ w'.cell? ⟨w.heap.size, 5, none⟩ = some (.slice xa tx.length xc) ∧ w'.cell? ⟨w.heap.size, 6, none⟩ = some (.slice ia nu.length ic)) ∧ (w'.cell? ⟨w.heap.size + 1, 0, none⟩ = some (.slice na' nm'.length nc') ∧ w'.cell? ⟨w.heap.size + 1, 1, none⟩ = some (.int .i64 6) ∧ w'.cell? ⟨w.heap.size + 1, 2, none⟩ = some (.int .i64 tt') ∧ w'.cell? ⟨w.heap.size + 1, 3, none⟩ = some (.int .i64 ad') ∧ w'.cell? ⟨w.heap.size + 1, 4, none⟩ = some (.slice ta' to'.length tc') ∧ w'.cell? ⟨w.heap.size + 1, 5, none⟩ = some (.slice xa' tx'.length xc') ∧ w'.cell? ⟨w.heap.size + 1, 6, none⟩ = some (.slice ia' nu'.length ic')))
  (first | exact ⟨UJ (UB K5), UJ (UB X5)⟩ | exact ⟨UJ (UE b6 (UB K5)), UJ (UE b6 (UB X5))⟩ | exact ⟨UJ (UE q7 (UB K5)), UJ (UE q7 (UB X5))⟩ | exact ⟨UJ (UE q8 (UB K5)), UJ (UE q8 (UB X5))⟩ | exact ⟨UJ (UE q9 (UB K5)), UJ (UE q9 (UB X5))⟩)
  (first
  | (go_at_call_of 93 (Value.slice na nm.length nc); refine (Ip (na := na) (nc := nc) (ta := ta) (tc := tc) (xa := xa) (xc := xc) (ia := ia) (ic := ic) (nm := nm) (to := to) (tx := tx) (nu := nu) (tt := tt) (ad := ad)).mono ?_; rintro e w6 ⟨rfl, b6⟩)
  | (go_at_call_of 93 (Value.slice na' nm'.length nc'); refine (Ip (na := na') (nc := nc') (ta := ta') (tc := tc') (xa := xa') (xc := xc') (ia := ia') (ic := ic') (nm := nm') (to := to') (tx := tx') (nu := nu') (tt := tt') (ad := ad')).mono ?_; rintro e w8 ⟨rfl, b8⟩; have q8 := UG q7 b8)
  | (go_at_call_of 157 (Value.agg #[Value.slice ta to.length tc, Value.slice ia nu.length ic]); refine (UB QA _ (UG bb5 b6)).mono ?_; rintro e w7 ⟨v7, rfl, o7, b7⟩; have q7 := UG b6 b7)
  | (go_at_call_of 157 (Value.agg #[Value.slice ta' to'.length tc', Value.slice ia' nu'.length ic']); refine (UB QB _ (UG bb5 q8)).mono ?_; rintro e w9 ⟨v9, rfl, o9, b9⟩; have q9 := UG q8 b9)
  | (go_at_call 96; refine (Co (o7.below (UG b8 b9)).has o9.has).mono ?_; rintro e w10 ⟨rfl, rfl⟩))
 go_wp2_with fail
 go_ret
 exact ⟨rfl, UG bb5 q9⟩

theorem Q9 {na : Option Addr} {nc : Nat} {ta : Option Addr} {tc : Nat} {xa : Option Addr} {xc : Nat} {ia : Option Addr} {ic : Nat} {nm to : List (List Int)} {tx nu : List Int} {tt ad : Int} {na' : Option Addr} {nc' : Nat} {ta' : Option Addr} {tc' : Nat} {xa' : Option Addr} {xc' : Nat} {ia' : Option Addr} {ic' : Nat} {nm' to' : List (List Int)} {tx' nu' : List Int} {tt' ad' : Int} {w : World} {DA DB : List Int} {ty : Int} (hk : Ed ty = .iface 131 (.agg #[.slice none 0 0])) (hto : Ax ty = true) (h : HasR w (.slice na nm.length nc) (.slice ta to.length tc) (.slice xa tx.length xc) (.slice ia nu.length ic) ⟨nm, ty, tt, ad, to, tx, nu⟩) (h' : HasR w (.slice na' nm'.length nc') (.slice ta' to'.length tc') (.slice xa' tx'.length xc') (.slice ia' nu'.length ic') ⟨nm', ty, tt', ad', to', tx', nu'⟩) (ha : rrOk ⟨nm, ty, tt, ad, to, tx, nu⟩ = true) (hb : rrOk ⟨nm', ty, tt', ad', to', tx', nu'⟩ = true) (hc : Bo nm nm' = 0)
  (PA : ∀ w1, Below w.heap.size w w1 → Calls Tryz.prog 161 #[.agg #[.slice xa tx.length xc]] w1 fun e w' => ∃ v', e = .returned v' ∧ Own w1.heap.size 5 w' v' DA ∧ Below w1.heap.size w1 w') (PB : ∀ w1, Below w.heap.size w w1 → Calls Tryz.prog 161 #[.agg #[.slice xa' tx'.length xc']] w1 fun e w' => ∃ v', e = .returned v' ∧ Own w1.heap.size 5 w' v' DB ∧ Below w1.heap.size w1 w') :
  Calls Tryz.prog 70 #[.agg #[.slice na nm.length nc, .int .i64 ty, .int .i64 tt, .int .i64 ad, .slice ta to.length tc, .slice xa tx.length xc, .slice ia nu.length ic], .agg #[.slice na' nm'.length nc', .int .i64 ty, .int .i64 tt', .int .i64 ad', .slice ta' to'.length tc', .slice xa' tx'.length xc', .slice ia' nu'.length ic']] w fun e w' => e = .returned (.int .i64 (cmpB DA DB)) ∧ Below w.heap.size w w' := by
 have b0 := Bl w (.cells #[.slice na nm.length nc, .int .i64 ty, .int .i64 tt, .int .i64 ad, .slice ta to.length tc, .slice xa tx.length xc, .slice ia nu.length ic] 39) (.cells #[.slice na' nm'.length nc', .int .i64 ty, .int .i64 tt', .int .i64 ad', .slice ta' to'.length tc', .slice xa' tx'.length xc', .slice ia' nu'.length ic'] 39)
 obtain ⟨hsz, k0, x0⟩ := box2 w (.cells #[.slice na nm.length nc, .int .i64 ty, .int .i64 tt, .int .i64 ad, .slice ta to.length tc, .slice xa tx.length xc, .slice ia nu.length ic] 39) #[.slice na' nm'.length nc', .int .i64 ty, .int .i64 tt', .int .i64 ad', .slice ta' to'.length tc', .slice xa' tx'.length xc', .slice ia' nu'.length ic'] 39
 have K0 := UC k0
 have X0 := UC x0
 have H0 := UC (h.below b0)
 have J0 := UC (h'.below b0)
 have HA := UC (fun (w : World) (h : HasR w (.slice na nm.length nc) (.slice ta to.length tc) (.slice xa tx.length xc) (.slice ia nu.length ic) ⟨nm, ty, tt, ad, to, tx, nu⟩) => (show Calls Tryz.prog 67 #[.agg #[.slice na nm.length nc, .int .i64 ty, .int .i64 tt, .int .i64 ad, .slice ta to.length tc, .slice xa tx.length xc, .slice ia nu.length ic]] w fun e w' => e = .returned (.bool true) ∧ Below w.heap.size w w' by have q := Bb h; rw [ha] at q; exact q))
 have HB := UC (fun (w : World) (h : HasR w (.slice na' nm'.length nc') (.slice ta' to'.length tc') (.slice xa' tx'.length xc') (.slice ia' nu'.length ic') ⟨nm', ty, tt', ad', to', tx', nu'⟩) => (show Calls Tryz.prog 67 #[.agg #[.slice na' nm'.length nc', .int .i64 ty, .int .i64 tt', .int .i64 ad', .slice ta' to'.length tc', .slice xa' tx'.length xc', .slice ia' nu'.length ic']] w fun e w' => e = .returned (.bool true) ∧ Below w.heap.size w w' by have q := Bb h; rw [hb] at q; exact q))
 have HC := UC (fun (w : World) (v v' : Value) (h : HasL w v nm) (h' : HasL w v' nm') => (show Calls Tryz.prog 69 #[.agg #[v], .agg #[v']] w fun e w' => e = .returned (.int .i64 0) ∧ Below w.heap.size w w' by have q := Ba h h'; rw [hc] at q; exact q))
 have HL := UC (show ∀ w : World, Calls Tryz.prog 97 #[.int .i64 ty, .int .i64 ty] w fun e w' => e = .returned (.int .i64 0) ∧ w = w' from fun w => by have q := Cq ty ty w; unfold A4 at q; rw [if_neg (by omega), if_neg (by omega)] at q; exact q)
 have QA := UC PA
 have QB := UC PB
 have HKK := UC hk
 have HTO := UC hto
 clear h h' k0 x0 ha hb hc PA PB hk hto
 go_enter Tryz.func70, Tryz.ntmps70
 go_wp2_with fail
 generalize (w.alloc (.cells #[.slice na nm.length nc, .int .i64 ty, .int .i64 tt, .int .i64 ad, .slice ta to.length tc, .slice xa tx.length xc, .slice ia nu.length ic] 39)).alloc (.cells #[.slice na' nm'.length nc', .int .i64 ty, .int .i64 tt', .int .i64 ad', .slice ta' to'.length tc', .slice xa' tx'.length xc', .slice ia' nu'.length ic'] 39) = W at *
 refine (UB HA _ (UB H0)).mono ?_
 rintro e w1 ⟨rfl, b1⟩
 have bb1 := UG b0 b1
 have K1 := UC (UE b1 (UB K0))
 have X1 := UC (UE b1 (UB X0))
 have H1 := UC ((UB H0).below b1)
 have J1 := UC ((UB J0).below b1)
 clear K0 X0 H0 J0 b1
 obtain ⟨d0, d1, d2, d3, d4, d5, d6⟩ := UJ (UB K1)
 obtain ⟨f0, f1, f2, f3, f4, f5, f6⟩ := UJ (UB X1)
 go_wp2_with fail
 refine (UB HB _ (UB J1)).mono ?_
 rintro e w2 ⟨rfl, b2⟩
 clear d0 d1 d2 d3 d4 d5 d6 f0 f1 f2 f3 f4 f5 f6
 have bb2 := UG bb1 b2
 have K2 := UC (UE b2 (UB K1))
 have X2 := UC (UE b2 (UB X1))
 have H2 := UC ((UB H1).below b2)
 have J2 := UC ((UB J1).below b2)
 clear K1 X1 H1 J1 b2
 obtain ⟨d0, d1, d2, d3, d4, d5, d6⟩ := UJ (UB K2)
 obtain ⟨f0, f1, f2, f3, f4, f5, f6⟩ := UJ (UB X2)
 go_wp2_with fail
 refine (UB HC _ _ _ (UB H2).name (UB J2).name).mono ?_
 rintro e w3 ⟨rfl, b3⟩
 clear d0 d1 d2 d3 d4 d5 d6 f0 f1 f2 f3 f4 f5 f6
 have bb3 := UG bb2 b3
 have K3 := UC (UE b3 (UB K2))
 have X3 := UC (UE b3 (UB X2))
 have H3 := UC ((UB H2).below b3)
 have J3 := UC ((UB J2).below b3)
 clear K2 X2 H2 J2 b3
 obtain ⟨d0, d1, d2, d3, d4, d5, d6⟩ := UJ (UB K3)
 obtain ⟨f0, f1, f2, f3, f4, f5, f6⟩ := UJ (UB X3)
 go_wp2_with fail
 refine (UB HL _).mono ?_
 rintro e w4 ⟨rfl, rfl⟩
 clear d0 d1 d2 d3 d4 d5 d6 f0 f1 f2 f3 f4 f5 f6
 have bd := UX (w := w3)
 have bb5 := UG bb3 bd
 have K5 := UC (UE bd (UB K3))
 have X5 := UC (UE bd (UB X3))
 have H5 := UC ((UB H3).below bd)
 have J5 := UC ((UB J3).below bd)
 clear K3 X3 H3 J3 bd
 obtain ⟨d0, d1, d2, d3, d4, d5, d6⟩ := UJ (UB K5)
 obtain ⟨f0, f1, f2, f3, f4, f5, f6⟩ := UJ (UB X5)
 go_wp2_with fail
 clear d0 d1 d2 d3 d4 d5 d6 f0 f1 f2 f3 f4 f5 f6
 go_region_held3 (fun w' => (w'.cell? ⟨w.heap.size, 0, none⟩ = some (.slice na nm.length nc) ∧ w'.cell? ⟨w.heap.size, 1, none⟩ = some (.int .i64 ty) ∧ w'.cell? ⟨w.heap.size, 2, none⟩ = some (.int .i64 tt) ∧ w'.cell? ⟨w.heap.size, 3, none⟩ = some (.int .i64 ad) ∧ w'.cell? ⟨w.heap.size, 4, none⟩ = some (.slice ta to.length tc) ∧ w'.cell? ⟨w.heap.size, 5, none⟩ = some (.slice xa tx.length xc) ∧ w'.cell? ⟨w.heap.size, 6, none⟩ = some (.slice ia nu.length ic)) ∧ (w'.cell? ⟨w.heap.size + 1, 0, none⟩ = some (.slice na' nm'.length nc') ∧ w'.cell? ⟨w.heap.size + 1, 1, none⟩ = some (.int .i64 ty) ∧ w'.cell? ⟨w.heap.size + 1, 2, none⟩ = some (.int .i64 tt') ∧ w'.cell? ⟨w.heap.size + 1, 3, none⟩ = some (.int .i64 ad') ∧ w'.cell? ⟨w.heap.size + 1, 4, none⟩ = some (.slice ta' to'.length tc') ∧ w'.cell? ⟨w.heap.size + 1, 5, none⟩ = some (.slice xa' tx'.length xc') ∧ w'.cell? ⟨w.heap.size + 1, 6, none⟩ = some (.slice ia' nu'.length ic')))
  (first | exact ⟨UJ (UB K5), UJ (UB X5)⟩ | exact ⟨UJ (UE b6 (UB K5)), UJ (UE b6 (UB X5))⟩ | exact ⟨UJ (UE q7 (UB K5)), UJ (UE q7 (UB X5))⟩ | exact ⟨UJ (UE q8 (UB K5)), UJ (UE q8 (UB X5))⟩ | exact ⟨UJ (UE q9 (UB K5)), UJ (UE q9 (UB X5))⟩)
  (first
  | (go_at_call_of 93 (Value.slice na nm.length nc); refine (Ik (na := na) (nc := nc) (ta := ta) (tc := tc) (xa := xa) (xc := xc) (ia := ia) (ic := ic) (nm := nm) (to := to) (tx := tx) (nu := nu) (tt := tt) (ad := ad) (UB HKK) (UB HTO)).mono ?_; rintro e w6 ⟨rfl, b6⟩)
  | (go_at_call_of 93 (Value.slice na' nm'.length nc'); refine (Ik (na := na') (nc := nc') (ta := ta') (tc := tc') (xa := xa') (xc := xc') (ia := ia') (ic := ic') (nm := nm') (to := to') (tx := tx') (nu := nu') (tt := tt') (ad := ad') (UB HKK) (UB HTO)).mono ?_; rintro e w8 ⟨rfl, b8⟩; have q8 := UG q7 b8)
  | (go_at_call_of 161 (Value.agg #[Value.slice xa tx.length xc]); refine (UB QA _ (UG bb5 b6)).mono ?_; rintro e w7 ⟨v7, rfl, o7, b7⟩; have q7 := UG b6 b7)
  | (go_at_call_of 161 (Value.agg #[Value.slice xa' tx'.length xc']); refine (UB QB _ (UG bb5 q8)).mono ?_; rintro e w9 ⟨v9, rfl, o9, b9⟩; have q9 := UG q8 b9)
  | (go_at_call 96; refine (Co (o7.below (UG b8 b9)).has o9.has).mono ?_; rintro e w10 ⟨rfl, rfl⟩))
 go_wp2_with fail
 go_ret
 exact ⟨rfl, UG bb5 q9⟩

theorem Rq {vn vt vx vi un ut ux ui : Value} {a b : Rec} {w : World} (h : HasR w vn vt vx vi a) (h' : HasR w un ut ux ui b) (ha : rrOk a = true) (hb : rrOk b = true) (hne : cmpN a.name b.name ≠ 0 ∨ A4 a.type b.type ≠ 0) :
  Calls Tryz.prog 70 #[.agg #[vn, .int .i64 a.type, .int .i64 a.ttl, .int .i64 a.addr, vt, vx, vi], .agg #[un, .int .i64 b.type, .int .i64 b.ttl, .int .i64 b.addr, ut, ux, ui]] w fun e w' => e = .returned (.int .i64 (cmpR a b)) ∧ Below w.heap.size w w' := by
 obtain ⟨na, nc, rfl, _⟩ := h.name.form
 obtain ⟨ta, tc, rfl, _⟩ := h.to.form
 obtain ⟨xa, xc, rfl, _⟩ := h.text.form
 obtain ⟨ia, ic, rfl, _⟩ := h.nums.form
 obtain ⟨na', nc', rfl, _⟩ := h'.name.form
 obtain ⟨ta', tc', rfl, _⟩ := h'.to.form
 obtain ⟨xa', xc', rfl, _⟩ := h'.text.form
 obtain ⟨ia', ic', rfl, _⟩ := h'.nums.form
 have b0 := Bl w (.cells #[.slice na a.name.length nc, .int .i64 a.type, .int .i64 a.ttl, .int .i64 a.addr, .slice ta a.to.length tc, .slice xa a.text.length xc, .slice ia a.nums.length ic] 39) (.cells #[.slice na' b.name.length nc', .int .i64 b.type, .int .i64 b.ttl, .int .i64 b.addr, .slice ta' b.to.length tc', .slice xa' b.text.length xc', .slice ia' b.nums.length ic'] 39)
 obtain ⟨hsz, k0, x0⟩ := box2 w (.cells #[.slice na a.name.length nc, .int .i64 a.type, .int .i64 a.ttl, .int .i64 a.addr, .slice ta a.to.length tc, .slice xa a.text.length xc, .slice ia a.nums.length ic] 39) #[.slice na' b.name.length nc', .int .i64 b.type, .int .i64 b.ttl, .int .i64 b.addr, .slice ta' b.to.length tc', .slice xa' b.text.length xc', .slice ia' b.nums.length ic'] 39
 have K0 := UC k0
 have X0 := UC x0
 have H0 := UC (h.below b0)
 have J0 := UC (h'.below b0)
 clear h h' k0 x0
 have HA := UC (fun (w : World) (vn vt vx vi : Value) (h : HasR w vn vt vx vi a) => Bb h)
 have HB := UC (fun (w : World) (vn vt vx vi : Value) (h : HasR w vn vt vx vi b) => Bb h)
 have hn : Bo a.name b.name = cmpN a.name b.name := by unfold Bo; rw [if_pos ⟨(A2 ha).1, (A2 hb).1⟩]
 have HC := fun (w : World) (v v' : Value) (h : HasL w v a.name) (h' : HasL w v' b.name) => Ba h h'
 rw [hn] at HC
 replace HC := UC HC
 have HL := UC (Cq a.type b.type)
 rw [ha] at HA
 rw [hb] at HB
 clear ha hb hn
 unfold cmpR
 generalize cmpN a.name b.name = CN at *
 generalize A4 a.type b.type = CL at *
 by_cases e1 : CN = 0
 ·subst e1
  rw [if_neg (by simp)]
  have e2 : CL ≠ 0 := by
   rcases hne with hne | hne
   ·exact absurd rfl hne
   ·exact hne
  rw [if_pos e2]
  have g2 : (CL != 0) = true := by rw [bne_iff_ne]; exact e2
  clear hne e2
  go_enter Tryz.func70, Tryz.ntmps70
  go_wp2_with fail
  generalize (w.alloc (.cells #[.slice na a.name.length nc, .int .i64 a.type, .int .i64 a.ttl, .int .i64 a.addr, .slice ta a.to.length tc, .slice xa a.text.length xc, .slice ia a.nums.length ic] 39)).alloc (.cells #[.slice na' b.name.length nc', .int .i64 b.type, .int .i64 b.ttl, .int .i64 b.addr, .slice ta' b.to.length tc', .slice xa' b.text.length xc', .slice ia' b.nums.length ic'] 39) = W at *
  refine (UB HA _ _ _ _ _ (UB H0)).mono ?_
  rintro e w1 ⟨rfl, b1⟩
  have bb1 := UG b0 b1
  have K1 := UC (UE b1 (UB K0))
  have X1 := UC (UE b1 (UB X0))
  have H1 := UC ((UB H0).below b1)
  have J1 := UC ((UB J0).below b1)
  clear K0 X0 H0 J0 b1
  obtain ⟨d0, d1, d2, d3, d4, d5, d6⟩ := UJ (UB K1)
  obtain ⟨f0, f1, f2, f3, f4, f5, f6⟩ := UJ (UB X1)
  go_wp2_with fail
  refine (UB HB _ _ _ _ _ (UB J1)).mono ?_
  rintro e w2 ⟨rfl, b2⟩
  clear d0 d1 d2 d3 d4 d5 d6 f0 f1 f2 f3 f4 f5 f6
  have bb2 := UG bb1 b2
  have K2 := UC (UE b2 (UB K1))
  have X2 := UC (UE b2 (UB X1))
  have H2 := UC ((UB H1).below b2)
  have J2 := UC ((UB J1).below b2)
  clear K1 X1 H1 J1 b2
  obtain ⟨d0, d1, d2, d3, d4, d5, d6⟩ := UJ (UB K2)
  obtain ⟨f0, f1, f2, f3, f4, f5, f6⟩ := UJ (UB X2)
  go_wp2_with fail
  refine (UB HC _ _ _ (UB H2).name (UB J2).name).mono ?_
  rintro e w3 ⟨rfl, b3⟩
  clear d0 d1 d2 d3 d4 d5 d6 f0 f1 f2 f3 f4 f5 f6
  have bb3 := UG bb2 b3
  have K3 := UC (UE b3 (UB K2))
  have X3 := UC (UE b3 (UB X2))
  have H3 := UC ((UB H2).below b3)
  have J3 := UC ((UB J2).below b3)
  clear K2 X2 H2 J2 b3
  obtain ⟨d0, d1, d2, d3, d4, d5, d6⟩ := UJ (UB K3)
  obtain ⟨f0, f1, f2, f3, f4, f5, f6⟩ := UJ (UB X3)
  go_wp2_with fail
  refine (UB HL _).mono ?_
  rintro e w4 ⟨rfl, rfl⟩
  go_wp2_with fail
  go_ret
  exact ⟨rfl, bb3⟩
 ·rw [if_pos e1]
  have g1 : (CN != 0) = true := by rw [bne_iff_ne]; exact e1
  clear hne e1
  go_enter Tryz.func70, Tryz.ntmps70
  go_wp2_with fail
  generalize (w.alloc (.cells #[.slice na a.name.length nc, .int .i64 a.type, .int .i64 a.ttl, .int .i64 a.addr, .slice ta a.to.length tc, .slice xa a.text.length xc, .slice ia a.nums.length ic] 39)).alloc (.cells #[.slice na' b.name.length nc', .int .i64 b.type, .int .i64 b.ttl, .int .i64 b.addr, .slice ta' b.to.length tc', .slice xa' b.text.length xc', .slice ia' b.nums.length ic'] 39) = W at *
  refine (UB HA _ _ _ _ _ (UB H0)).mono ?_
  rintro e w1 ⟨rfl, b1⟩
  have bb1 := UG b0 b1
  have K1 := UC (UE b1 (UB K0))
  have X1 := UC (UE b1 (UB X0))
  have H1 := UC ((UB H0).below b1)
  have J1 := UC ((UB J0).below b1)
  clear K0 X0 H0 J0 b1
  obtain ⟨d0, d1, d2, d3, d4, d5, d6⟩ := UJ (UB K1)
  obtain ⟨f0, f1, f2, f3, f4, f5, f6⟩ := UJ (UB X1)
  go_wp2_with fail
  refine (UB HB _ _ _ _ _ (UB J1)).mono ?_
  rintro e w2 ⟨rfl, b2⟩
  clear d0 d1 d2 d3 d4 d5 d6 f0 f1 f2 f3 f4 f5 f6
  have bb2 := UG bb1 b2
  have K2 := UC (UE b2 (UB K1))
  have X2 := UC (UE b2 (UB X1))
  have H2 := UC ((UB H1).below b2)
  have J2 := UC ((UB J1).below b2)
  clear K1 X1 H1 J1 b2
  obtain ⟨d0, d1, d2, d3, d4, d5, d6⟩ := UJ (UB K2)
  obtain ⟨f0, f1, f2, f3, f4, f5, f6⟩ := UJ (UB X2)
  go_wp2_with fail
  refine (UB HC _ _ _ (UB H2).name (UB J2).name).mono ?_
  rintro e w3 ⟨rfl, b3⟩
  clear d0 d1 d2 d3 d4 d5 d6 f0 f1 f2 f3 f4 f5 f6
  go_wp2_with fail
  go_ret
  exact ⟨rfl, UG bb2 b3⟩

theorem Vt {vn vt vx vi un ut ux ui : Value} {a b : Rec} {w : World} (h : HasR w vn vt vx vi a) (h' : HasR w un ut ux ui b) (hno : rrOk a = false ∨ rrOk b = false) :
  Calls Tryz.prog 70 #[.agg #[vn, .int .i64 a.type, .int .i64 a.ttl, .int .i64 a.addr, vt, vx, vi], .agg #[un, .int .i64 b.type, .int .i64 b.ttl, .int .i64 b.addr, ut, ux, ui]] w fun e w' => e = .returned (.int .i64 0) ∧ Below w.heap.size w w' := by
 obtain ⟨na, nc, rfl, _⟩ := h.name.form
 obtain ⟨ta, tc, rfl, _⟩ := h.to.form
 obtain ⟨xa, xc, rfl, _⟩ := h.text.form
 obtain ⟨ia, ic, rfl, _⟩ := h.nums.form
 obtain ⟨na', nc', rfl, _⟩ := h'.name.form
 obtain ⟨ta', tc', rfl, _⟩ := h'.to.form
 obtain ⟨xa', xc', rfl, _⟩ := h'.text.form
 obtain ⟨ia', ic', rfl, _⟩ := h'.nums.form
 have b0 := Bl w (.cells #[.slice na a.name.length nc, .int .i64 a.type, .int .i64 a.ttl, .int .i64 a.addr, .slice ta a.to.length tc, .slice xa a.text.length xc, .slice ia a.nums.length ic] 39) (.cells #[.slice na' b.name.length nc', .int .i64 b.type, .int .i64 b.ttl, .int .i64 b.addr, .slice ta' b.to.length tc', .slice xa' b.text.length xc', .slice ia' b.nums.length ic'] 39)
 obtain ⟨hsz, k0, x0⟩ := box2 w (.cells #[.slice na a.name.length nc, .int .i64 a.type, .int .i64 a.ttl, .int .i64 a.addr, .slice ta a.to.length tc, .slice xa a.text.length xc, .slice ia a.nums.length ic] 39) #[.slice na' b.name.length nc', .int .i64 b.type, .int .i64 b.ttl, .int .i64 b.addr, .slice ta' b.to.length tc', .slice xa' b.text.length xc', .slice ia' b.nums.length ic'] 39
 have K0 := UC k0
 have X0 := UC x0
 have H0 := UC (h.below b0)
 have J0 := UC (h'.below b0)
 clear h h' k0 x0
 have HA := UC (fun (w : World) (vn vt vx vi : Value) (h : HasR w vn vt vx vi a) => Bb h)
 have HB := UC (fun (w : World) (vn vt vx vi : Value) (h : HasR w vn vt vx vi b) => Bb h)
 cases hA : rrOk a with
 | false =>
  rw [hA] at HA
  clear hno hA
  go_enter Tryz.func70, Tryz.ntmps70
  go_wp2_with fail
  generalize (w.alloc (.cells #[.slice na a.name.length nc, .int .i64 a.type, .int .i64 a.ttl, .int .i64 a.addr, .slice ta a.to.length tc, .slice xa a.text.length xc, .slice ia a.nums.length ic] 39)).alloc (.cells #[.slice na' b.name.length nc', .int .i64 b.type, .int .i64 b.ttl, .int .i64 b.addr, .slice ta' b.to.length tc', .slice xa' b.text.length xc', .slice ia' b.nums.length ic'] 39) = W at *
  refine (UB HA _ _ _ _ _ (UB H0)).mono ?_
  rintro e w1 ⟨rfl, b1⟩
  go_wp2_with fail
  go_ret
  exact ⟨rfl, UG b0 b1⟩
 | true =>
  have hB : rrOk b = false := by
   rcases hno with hno | hno
   ·rw [hA] at hno; cases hno
   ·exact hno
  rw [hA] at HA
  rw [hB] at HB
  clear hno hA hB
  go_enter Tryz.func70, Tryz.ntmps70
  go_wp2_with fail
  generalize (w.alloc (.cells #[.slice na a.name.length nc, .int .i64 a.type, .int .i64 a.ttl, .int .i64 a.addr, .slice ta a.to.length tc, .slice xa a.text.length xc, .slice ia a.nums.length ic] 39)).alloc (.cells #[.slice na' b.name.length nc', .int .i64 b.type, .int .i64 b.ttl, .int .i64 b.addr, .slice ta' b.to.length tc', .slice xa' b.text.length xc', .slice ia' b.nums.length ic'] 39) = W at *
  refine (UB HA _ _ _ _ _ (UB H0)).mono ?_
  rintro e w1 ⟨rfl, b1⟩
  have bb1 := UG b0 b1
  have K1 := UC (UE b1 (UB K0))
  have X1 := UC (UE b1 (UB X0))
  have H1 := UC ((UB H0).below b1)
  have J1 := UC ((UB J0).below b1)
  clear K0 X0 H0 J0 b1
  obtain ⟨d0, d1, d2, d3, d4, d5, d6⟩ := UJ (UB K1)
  obtain ⟨f0, f1, f2, f3, f4, f5, f6⟩ := UJ (UB X1)
  go_wp2_with fail
  refine (UB HB _ _ _ _ _ (UB J1)).mono ?_
  rintro e w2 ⟨rfl, b2⟩
  go_wp2_with fail
  go_ret
  exact ⟨rfl, UG bb1 b2⟩

theorem Ox {vn vt vx vi un ut ux ui : Value} {a b : Rec} {w : World} (h : HasR w vn vt vx vi a) (h' : HasR w un ut ux ui b) :
  Calls Tryz.prog 70 #[.agg #[vn, .int .i64 a.type, .int .i64 a.ttl, .int .i64 a.addr, vt, vx, vi], .agg #[un, .int .i64 b.type, .int .i64 b.ttl, .int .i64 b.addr, ut, ux, ui]] w fun e w' => e = .returned (.int .i64 (Pd a b)) ∧ Below w.heap.size w w' := by
 unfold Pd
 by_cases hab : rrOk a = true ∧ rrOk b = true
 ·rw [if_pos hab]
  obtain ⟨ha, hb⟩ := hab
  by_cases hne : cmpN a.name b.name ≠ 0 ∨ A4 a.type b.type ≠ 0
  ·exact Rq h h' ha hb hne
  ·have hn0 : cmpN a.name b.name = 0 := by omega
   have ht0 : a.type = b.type := I6 (by omega)
   have e : cmpR a b = cmpB (Cs a) (Cs b) := by
    unfold cmpR
    rw [if_neg (by omega), if_neg (by omega)]
   rw [e]
   have hc : Bo a.name b.name = 0 := by unfold Bo; rw [if_pos ⟨(A2 ha).1, (A2 hb).1⟩]; exact hn0
   clear hne e hn0
   obtain ⟨_, ht, _, _, hd⟩ := A2 ha
   obtain ⟨_, ht', _, _, hd'⟩ := A2 hb
   obtain ⟨na, nc, rfl, _⟩ := h.name.form
   obtain ⟨ta, tc, rfl, _⟩ := h.to.form
   obtain ⟨xa, xc, rfl, _⟩ := h.text.form
   obtain ⟨ia, ic, rfl, _⟩ := h.nums.form
   obtain ⟨na', nc', rfl, _⟩ := h'.name.form
   obtain ⟨ta', tc', rfl, _⟩ := h'.to.form
   obtain ⟨xa', xc', rfl, _⟩ := h'.text.form
   obtain ⟨ia', ic', rfl, _⟩ := h'.nums.form
   rcases C9 ht hd with ⟨e, h0, h1, eb⟩ | ⟨e, hn, eb⟩ | ⟨e, hn, x, y, exy, _, _, _, _, eb⟩ | ⟨e, hx, eb⟩
   ·rcases C9 ht' hd' with ⟨e', _, _, eb'⟩ | ⟨e', _⟩ | ⟨e', _⟩ | ⟨e', _⟩
    ·rw [eb, eb']
     obtain ⟨nm, ty, tt, ad, to, tx, nu⟩ := a
     obtain ⟨nm', ty', tt', ad', to', tx', nu'⟩ := b
     simp only at *
     subst e e'
     exact S5 h h' ha hb hc (fun w1 _ => Ij ad w1) (fun w1 _ => Ij ad' w1)
    all_goals omega
   ·rcases C9 ht' hd' with ⟨e', _⟩ | ⟨e', hn', eb'⟩ | ⟨e', _⟩ | ⟨e', _⟩
    ·omega
    ·rw [eb, eb']
     obtain ⟨nm, ty, tt, ad, to, tx, nu⟩ := a
     obtain ⟨nm', ty', tt', ad', to', tx', nu'⟩ := b
     simp only at *
     subst ht0
     exact Q4 (F0 e) ht h h' ha hb hc (fun w1 hb1 => Gt (h.to.below hb1) hn) (fun w1 hb1 => Gt (h'.to.below hb1) hn')
    all_goals omega
   ·rcases C9 ht' hd' with ⟨e', _⟩ | ⟨e', _⟩ | ⟨e', hn', x', y', exy', _, _, _, _, eb'⟩ | ⟨e', _⟩
    ·omega
    ·omega
    ·rw [eb, eb']
     obtain ⟨nm, ty, tt, ad, to, tx, nu⟩ := a
     obtain ⟨nm', ty', tt', ad', to', tx', nu'⟩ := b
     simp only at *
     subst e e' exy exy'
     exact Ri h h' ha hb hc (fun w1 hb1 => Jh (h.to.below hb1) (h.nums.below hb1) hn) (fun w1 hb1 => Jh (h'.to.below hb1) (h'.nums.below hb1) hn')
    ·omega
   ·rcases C9 ht' hd' with ⟨e', _⟩ | ⟨e', _⟩ | ⟨e', _⟩ | ⟨e', hx', eb'⟩
    ·omega
    ·omega
    ·omega
    ·rw [eb, eb']
     obtain ⟨nm, ty, tt, ad, to, tx, nu⟩ := a
     obtain ⟨nm', ty', tt', ad', to', tx', nu'⟩ := b
     simp only at *
     subst ht0
     exact Q9 (Iw e) ht h h' ha hb hc (fun w1 hb1 => Iu (h.text.below hb1) hx) (fun w1 hb1 => Iu (h'.text.below hb1) hx')
 ·rw [if_neg hab]
  refine Vt h h' ?_
  cases hA : rrOk a with
  | false => exact .inl rfl
  | true =>
   cases hB : rrOk b with
   | false => exact .inr rfl
   | true => exact absurd ⟨hA, hB⟩ hab
end Go.Proofs.YtfneahdnpmamkaaGreat
