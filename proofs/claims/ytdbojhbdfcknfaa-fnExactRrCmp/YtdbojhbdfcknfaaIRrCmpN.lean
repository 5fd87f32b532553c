/-
  Contracts of the program's RrCmp where both records may be and have one name and type, for one kind of data.
-/
import Derived.Test.YtdbojhbdfcknfaaCmpR
import Derived.Test.YtdbojhbdfcknfaaIRrOk
import Derived.Test.YtdbojhbdfcknfaaINameCmp
import Derived.Test.YtdbojhbdfcknfaaICompare
import Derived.Test.YtdbojhbdfcknfaaRows2
import Derived.Deep.RegionHeld3
import Derived.Deep.RegionWith
namespace Go.Proofs.Ytdbojhbdfcknfaa
open Go.RowKit
set_option linter.unusedVariables false

set_option maxHeartbeats 2000000 in
set_option maxRecDepth 100000 in
theorem rrCmpData_N {na : Option Addr} {nc : Nat} {ta : Option Addr} {tc : Nat} {xa : Option Addr} {xc : Nat} {ia : Option Addr} {ic : Nat} {nm to : List (List Int)} {tx nu : List Int} {tt ad : Int} {na' : Option Addr} {nc' : Nat} {ta' : Option Addr} {tc' : Nat} {xa' : Option Addr} {xc' : Nat} {ia' : Option Addr} {ic' : Nat} {nm' to' : List (List Int)} {tx' nu' : List Int} {tt' ad' : Int} {w : World} {DA DB : List Int} {ty : Int} (hk : kindV ty = .iface 137 (.agg #[.slice none 0 0])) (hto : typeOk ty = true) (h : HasR w (.slice na nm.length nc) (.slice ta to.length tc) (.slice xa tx.length xc) (.slice ia nu.length ic) ⟨nm, ty, tt, ad, to, tx, nu⟩) (h' : HasR w (.slice na' nm'.length nc') (.slice ta' to'.length tc') (.slice xa' tx'.length xc') (.slice ia' nu'.length ic') ⟨nm', ty, tt', ad', to', tx', nu'⟩) (ha : rrOk ⟨nm, ty, tt, ad, to, tx, nu⟩ = true) (hb : rrOk ⟨nm', ty, tt', ad', to', tx', nu'⟩ = true) (hc : nameCmp nm nm' = 0)
    (PA : ∀ w1, Below w.heap.size w w1 → Calls Try.prog 184 #[.agg #[.slice ta to.length tc]] w1 fun e w' => ∃ v', e = .returned v' ∧ Own w1.heap.size 5 w' v' DA ∧ Below w1.heap.size w1 w') (PB : ∀ w1, Below w.heap.size w w1 → Calls Try.prog 184 #[.agg #[.slice ta' to'.length tc']] w1 fun e w' => ∃ v', e = .returned v' ∧ Own w1.heap.size 5 w' v' DB ∧ Below w1.heap.size w1 w') :
    Calls Try.prog 41 #[.agg #[.slice na nm.length nc, .int .i64 ty, .int .i64 tt, .int .i64 ad, .slice ta to.length tc, .slice xa tx.length xc, .slice ia nu.length ic], .agg #[.slice na' nm'.length nc', .int .i64 ty, .int .i64 tt', .int .i64 ad', .slice ta' to'.length tc', .slice xa' tx'.length xc', .slice ia' nu'.length ic']] w fun e w' => e = .returned (.int .i64 (cmpB DA DB)) ∧ Below w.heap.size w w' := by
  have b0 := below2 w (.cells #[.slice na nm.length nc, .int .i64 ty, .int .i64 tt, .int .i64 ad, .slice ta to.length tc, .slice xa tx.length xc, .slice ia nu.length ic] 50) (.cells #[.slice na' nm'.length nc', .int .i64 ty, .int .i64 tt', .int .i64 ad', .slice ta' to'.length tc', .slice xa' tx'.length xc', .slice ia' nu'.length ic'] 50)
  obtain ⟨hsz, k0, x0⟩ := box2 w (.cells #[.slice na nm.length nc, .int .i64 ty, .int .i64 tt, .int .i64 ad, .slice ta to.length tc, .slice xa tx.length xc, .slice ia nu.length ic] 50) #[.slice na' nm'.length nc', .int .i64 ty, .int .i64 tt', .int .i64 ad', .slice ta' to'.length tc', .slice xa' tx'.length xc', .slice ia' nu'.length ic'] 50
  have K0 := hide k0
  have X0 := hide x0
  have H0 := hide (h.below b0)
  have J0 := hide (h'.below b0)
  have HA := hide (fun (w : World) (h : HasR w (.slice na nm.length nc) (.slice ta to.length tc) (.slice xa tx.length xc) (.slice ia nu.length ic) ⟨nm, ty, tt, ad, to, tx, nu⟩) => (show Calls Try.prog 66 #[.agg #[.slice na nm.length nc, .int .i64 ty, .int .i64 tt, .int .i64 ad, .slice ta to.length tc, .slice xa tx.length xc, .slice ia nu.length ic]] w fun e w' => e = .returned (.bool true) ∧ Below w.heap.size w w' by have q := implRrOk_has h; rw [ha] at q; exact q))
  have HB := hide (fun (w : World) (h : HasR w (.slice na' nm'.length nc') (.slice ta' to'.length tc') (.slice xa' tx'.length xc') (.slice ia' nu'.length ic') ⟨nm', ty, tt', ad', to', tx', nu'⟩) => (show Calls Try.prog 66 #[.agg #[.slice na' nm'.length nc', .int .i64 ty, .int .i64 tt', .int .i64 ad', .slice ta' to'.length tc', .slice xa' tx'.length xc', .slice ia' nu'.length ic']] w fun e w' => e = .returned (.bool true) ∧ Below w.heap.size w w' by have q := implRrOk_has h; rw [hb] at q; exact q))
  have HC := hide (fun (w : World) (v v' : Value) (h : HasL w v nm) (h' : HasL w v' nm') => (show Calls Try.prog 31 #[.agg #[v], .agg #[v']] w fun e w' => e = .returned (.int .i64 0) ∧ Below w.heap.size w w' by have q := implNameCmp_has h h'; rw [hc] at q; exact q))
  have HL := hide (show ∀ w : World, Calls Try.prog 92 #[.int .i64 ty, .int .i64 ty] w fun e w' => e = .returned (.int .i64 0) ∧ w = w' from fun w => by have q := cmpCompare_int ty ty w; unfold byLength at q; rw [if_neg (by omega), if_neg (by omega)] at q; exact q)
  have QA := hide PA
  have QB := hide PB
  have HKK := hide hk
  have HTO := hide hto
  clear h h' k0 x0 ha hb hc PA PB hk hto
  go_enter Try.func41, Try.ntmps41
  go_wp2_with fail
  generalize (w.alloc (.cells #[.slice na nm.length nc, .int .i64 ty, .int .i64 tt, .int .i64 ad, .slice ta to.length tc, .slice xa tx.length xc, .slice ia nu.length ic] 50)).alloc (.cells #[.slice na' nm'.length nc', .int .i64 ty, .int .i64 tt', .int .i64 ad', .slice ta' to'.length tc', .slice xa' tx'.length xc', .slice ia' nu'.length ic'] 50) = W at *
  refine (unhide HA _ (unhide H0)).mono ?_
  rintro e w1 ⟨rfl, b1⟩
  have bb1 := below_next b0 b1
  have K1 := hide (block_kept b1 (unhide K0))
  have X1 := hide (block_kept b1 (unhide X0))
  have H1 := hide ((unhide H0).below b1)
  have J1 := hide ((unhide J0).below b1)
  clear K0 X0 H0 J0 b1
  obtain ⟨d0, d1, d2, d3, d4, d5, d6⟩ := cells7 (unhide K1)
  obtain ⟨f0, f1, f2, f3, f4, f5, f6⟩ := cells7 (unhide X1)
  go_wp2_with fail
  refine (unhide HB _ (unhide J1)).mono ?_
  rintro e w2 ⟨rfl, b2⟩
  clear d0 d1 d2 d3 d4 d5 d6 f0 f1 f2 f3 f4 f5 f6
  have bb2 := below_next bb1 b2
  have K2 := hide (block_kept b2 (unhide K1))
  have X2 := hide (block_kept b2 (unhide X1))
  have H2 := hide ((unhide H1).below b2)
  have J2 := hide ((unhide J1).below b2)
  clear K1 X1 H1 J1 b2
  obtain ⟨d0, d1, d2, d3, d4, d5, d6⟩ := cells7 (unhide K2)
  obtain ⟨f0, f1, f2, f3, f4, f5, f6⟩ := cells7 (unhide X2)
  go_wp2_with fail
  refine (unhide HC _ _ _ (unhide H2).name (unhide J2).name).mono ?_
  rintro e w3 ⟨rfl, b3⟩
  clear d0 d1 d2 d3 d4 d5 d6 f0 f1 f2 f3 f4 f5 f6
  have bb3 := below_next bb2 b3
  have K3 := hide (block_kept b3 (unhide K2))
  have X3 := hide (block_kept b3 (unhide X2))
  have H3 := hide ((unhide H2).below b3)
  have J3 := hide ((unhide J2).below b3)
  clear K2 X2 H2 J2 b3
  obtain ⟨d0, d1, d2, d3, d4, d5, d6⟩ := cells7 (unhide K3)
  obtain ⟨f0, f1, f2, f3, f4, f5, f6⟩ := cells7 (unhide X3)
  go_wp2_with fail
  refine (unhide HL _).mono ?_
  rintro e w4 ⟨rfl, rfl⟩
  clear d0 d1 d2 d3 d4 d5 d6 f0 f1 f2 f3 f4 f5 f6
  have bd := below_drew (w := w3)
  have bb5 := below_next bb3 bd
  have K5 := hide (block_kept bd (unhide K3))
  have X5 := hide (block_kept bd (unhide X3))
  have H5 := hide ((unhide H3).below bd)
  have J5 := hide ((unhide J3).below bd)
  clear K3 X3 H3 J3 bd
  obtain ⟨d0, d1, d2, d3, d4, d5, d6⟩ := cells7 (unhide K5)
  obtain ⟨f0, f1, f2, f3, f4, f5, f6⟩ := cells7 (unhide X5)
  go_wp2_with fail
  clear d0 d1 d2 d3 d4 d5 d6 f0 f1 f2 f3 f4 f5 f6
  go_region_held3 (fun w' => (w'.cell? ⟨w.heap.size, 0, none⟩ = some (.slice na nm.length nc) ∧ w'.cell? ⟨w.heap.size, 1, none⟩ = some (.int .i64 ty) ∧ w'.cell? ⟨w.heap.size, 2, none⟩ = some (.int .i64 tt) ∧ w'.cell? ⟨w.heap.size, 3, none⟩ = some (.int .i64 ad) ∧ w'.cell? ⟨w.heap.size, 4, none⟩ = some (.slice ta to.length tc) ∧ w'.cell? ⟨w.heap.size, 5, none⟩ = some (.slice xa tx.length xc) ∧ w'.cell? ⟨w.heap.size, 6, none⟩ = some (.slice ia nu.length ic)) ∧ (w'.cell? ⟨w.heap.size + 1, 0, none⟩ = some (.slice na' nm'.length nc') ∧ w'.cell? ⟨w.heap.size + 1, 1, none⟩ = some (.int .i64 ty) ∧ w'.cell? ⟨w.heap.size + 1, 2, none⟩ = some (.int .i64 tt') ∧ w'.cell? ⟨w.heap.size + 1, 3, none⟩ = some (.int .i64 ad') ∧ w'.cell? ⟨w.heap.size + 1, 4, none⟩ = some (.slice ta' to'.length tc') ∧ w'.cell? ⟨w.heap.size + 1, 5, none⟩ = some (.slice xa' tx'.length xc') ∧ w'.cell? ⟨w.heap.size + 1, 6, none⟩ = some (.slice ia' nu'.length ic')))
    (first | exact ⟨cells7 (unhide K5), cells7 (unhide X5)⟩ | exact ⟨cells7 (block_kept b6 (unhide K5)), cells7 (block_kept b6 (unhide X5))⟩ | exact ⟨cells7 (block_kept q7 (unhide K5)), cells7 (block_kept q7 (unhide X5))⟩ | exact ⟨cells7 (block_kept q8 (unhide K5)), cells7 (block_kept q8 (unhide X5))⟩ | exact ⟨cells7 (block_kept q9 (unhide K5)), cells7 (block_kept q9 (unhide X5))⟩)
    (first
    | (go_at_call_of 105 (Value.slice na nm.length nc); refine (dataOf_N (na := na) (nc := nc) (ta := ta) (tc := tc) (xa := xa) (xc := xc) (ia := ia) (ic := ic) (nm := nm) (to := to) (tx := tx) (nu := nu) (tt := tt) (ad := ad) (unhide HKK) (unhide HTO)).mono ?_; rintro e w6 ⟨rfl, b6⟩)
    | (go_at_call_of 105 (Value.slice na' nm'.length nc'); refine (dataOf_N (na := na') (nc := nc') (ta := ta') (tc := tc') (xa := xa') (xc := xc') (ia := ia') (ic := ic') (nm := nm') (to := to') (tx := tx') (nu := nu') (tt := tt') (ad := ad') (unhide HKK) (unhide HTO)).mono ?_; rintro e w8 ⟨rfl, b8⟩; have q8 := below_next q7 b8)
    | (go_at_call_of 184 (Value.agg #[Value.slice ta to.length tc]); refine (unhide QA _ (below_next bb5 b6)).mono ?_; rintro e w7 ⟨v7, rfl, o7, b7⟩; have q7 := below_next b6 b7)
    | (go_at_call_of 184 (Value.agg #[Value.slice ta' to'.length tc']); refine (unhide QB _ (below_next bb5 q8)).mono ?_; rintro e w9 ⟨v9, rfl, o9, b9⟩; have q9 := below_next q8 b9)
    | (go_at_call 91; refine (bytesCompare_has (o7.below (below_next b8 b9)).has o9.has).mono ?_; rintro e w10 ⟨rfl, rfl⟩))
  go_wp2_with fail
  go_ret
  exact ⟨rfl, below_next bb5 q9⟩
end Go.Proofs.Ytdbojhbdfcknfaa
