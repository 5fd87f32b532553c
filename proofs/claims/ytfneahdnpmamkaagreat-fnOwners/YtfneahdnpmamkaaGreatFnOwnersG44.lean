/-
  Contract of the program's dataKey: a record's type and data as a text that ascends as RrCmp does.
-/
import Derived.Test.YtfneahdnpmamkaaGreatFnOwnersG43
import Derived.Test.YtfneahdnpmamkaaGreatFnOwnersG38
namespace Go.Proofs.YtfneahdnpmamkaaGreat
open Go.RowKit
set_option linter.unusedVariables false
set_option maxHeartbeats 1000000
set_option maxRecDepth 100000

theorem V5 {na : Option Addr} {nc : Nat} {ta : Option Addr} {tc : Nat} {xa : Option Addr} {xc : Nat} {ia : Option Addr} {ic : Nat} {nm to : List (List Int)} {tx nu : List Int} {tt ad : Int} {w : World} {D : List Int} (hD : D.length ≤ 1000)
  (PA : ∀ w1, Below w.heap.size w w1 → Calls Tryz.prog 146 #[.agg #[.int .i64 ad]] w1 fun e w' => ∃ v', e = .returned v' ∧ Own w1.heap.size 5 w' v' D ∧ Below w1.heap.size w1 w') :
  Calls Tryz.prog 72 #[.agg #[.slice na nm.length nc, .int .i64 1, .int .i64 tt, .int .i64 ad, .slice ta to.length tc, .slice xa tx.length xc, .slice ia nu.length ic]] w fun e w' => e = .returned (.string (strOfNums ([] ++ [1 / 256, 1 % 256] ++ D))) ∧ Below w.heap.size w w' := by
 have b0 := UI (w := w) (.cells #[.slice na nm.length nc, .int .i64 1, .int .i64 tt, .int .i64 ad, .slice ta to.length tc, .slice xa tx.length xc, .slice ia nu.length ic] 39)
 have KB := UC (heap_alloc_new w (.cells #[.slice na nm.length nc, .int .i64 1, .int .i64 tt, .int .i64 ad, .slice ta to.length tc, .slice xa tx.length xc, .slice ia nu.length ic] 39))
 have QA := UC PA
 clear PA
 go_enter Tryz.func72, Tryz.ntmps72
 go_wp2_with fail
 generalize w.alloc (.cells #[.slice na nm.length nc, .int .i64 1, .int .i64 tt, .int .i64 ad, .slice ta to.length tc, .slice xa tx.length xc, .slice ia nu.length ic] 39) = W at *
 have bd := UX (w := W)
 have bb := UG b0 bd
 replace KB := UC (UE bd (UB KB))
 have z0 := bb.size
 clear bd b0
 refine wp_region_held_drew (S := (fun w' => w'.cell? ⟨w.heap.size, 0, none⟩ = some (.slice na nm.length nc) ∧ w'.cell? ⟨w.heap.size, 1, none⟩ = some (.int .i64 1) ∧ w'.cell? ⟨w.heap.size, 2, none⟩ = some (.int .i64 tt) ∧ w'.cell? ⟨w.heap.size, 3, none⟩ = some (.int .i64 ad) ∧ w'.cell? ⟨w.heap.size, 4, none⟩ = some (.slice ta to.length tc) ∧ w'.cell? ⟨w.heap.size, 5, none⟩ = some (.slice xa tx.length xc) ∧ w'.cell? ⟨w.heap.size, 6, none⟩ = some (.slice ia nu.length ic))) (by kernel_rfl) (UJ (UB KB)) (fun hHeld => ?_)
 show wpAnyH _ _ _ _ _ 9 #[false, false, false, false, false, false, false, false, false] _ _
 generalize W.drew = W0 at *
 have ZB := UC (VC (UB KB))
 refine tkF (.pointer (some ⟨w.heap.size, 1, none⟩)) rfl (by kernel_rfl) (by kernel_rfl) (fun _ _ _ h => h) ?_ hHeld ?_; (· (intro w hSw; (try dsimp only at hSw); go_simp)); simp only [Act.put, setF, List.setIfInBounds_toArray, List.set_cons_zero, List.set_cons_succ]
 refine tkF (.int .i64 1) rfl (by kernel_rfl) (by kernel_rfl) (fun _ _ _ h => h) ?_ hHeld ?_; (· (intro w hSw; (try dsimp only at hSw); go_simp)); simp only [Act.put, setF, List.setIfInBounds_toArray, List.set_cons_zero, List.set_cons_succ]
 refine tkI 3 (.agg #[.slice na nm.length nc, .int .i64 1, .int .i64 tt, .int .i64 ad, .slice ta to.length tc, .slice xa tx.length xc, .slice ia nu.length ic]) rfl (by kernel_rfl) (by kernel_rfl) (fun _ _ _ h => h) ?_ hHeld ?_
 ·(intro w hSw; (try dsimp only at hSw); go_simp)
 try simp only [Act.put, List.setIfInBounds_toArray, List.set_cons_zero, List.set_cons_succ]
 refine wpAnyH_ready (rs := [2]) (by kernel_rfl) (by simp) (AllReadyH.cons (UY rfl) (fun K hK => ?_) AllReadyH.nil)
 have HK := UC hK
 clear hK hHeld
 go_simp
 refine (Er (B := 0) 1 (Gi 0 5 _) (by simp) (by omega) (by omega)).mono ?_
 rintro e w1 ⟨v1, rfl, o1, b1⟩
 obtain ⟨p1, q1, hv1, _⟩ := o1.lies
 replace hv1 : v1 = .slice p1 2 q1 := hv1
 subst hv1
 replace KB := UC (UE b1 (UB KB))
 replace bb := UG bb b1
 have z1 := b1.size
 have O1 := UC o1
 clear o1 b1
 go_simp
 refine (UB HK).out _ _ (UJ (UB KB)) (fun hHeld => ?_)
 clear HK K
 try simp only [List.setIfInBounds_toArray, List.set_cons_zero, List.set_cons_succ]
 refine wpAnyH_ready (rs := [4]) (by kernel_rfl) (by simp) (AllReadyH.cons (UY rfl) (fun K hK => ?_) AllReadyH.nil)
 have HK := UC hK
 clear hK hHeld
 go_simp
 refine (Ic (na := na) (nc := nc) (ta := ta) (tc := tc) (xa := xa) (xc := xc) (ia := ia) (ic := ic) (nm := nm) (to := to) (tx := tx) (nu := nu) (tt := tt) (ad := ad)).mono ?_
 rintro e w2 ⟨rfl, b2⟩
 replace KB := UC (UE b2 (UB KB))
 replace bb := UG bb b2
 have z2 := b2.size
 replace O1 := UC ((UB O1).below b2)
 clear b2
 go_simp
 refine (UB HK).out _ _ (UJ (UB KB)) (fun hHeld => ?_)
 clear HK K
 try simp only [List.setIfInBounds_toArray, List.set_cons_zero, List.set_cons_succ]
 refine wpAnyH_ready (rs := [5]) (by kernel_rfl) (by simp) (AllReadyH.cons (UY rfl) (fun K hK => ?_) AllReadyH.nil)
 have HK := UC hK
 clear hK hHeld
 go_simp
 refine (UB QA _ bb).mono ?_
 rintro e w3 ⟨v3, rfl, o3, b3⟩
 obtain ⟨p3, q3, hv3, _⟩ := o3.lies
 subst hv3
 replace KB := UC (UE b3 (UB KB))
 replace bb := UG bb b3
 have z3 := b3.size
 replace O1 := UC ((UB O1).below b3)
 have O3 := UC o3
 clear o3 b3
 go_simp
 refine (UB HK).out _ _ (UJ (UB KB)) (fun hHeld => ?_)
 clear HK K
 try simp only [List.setIfInBounds_toArray, List.set_cons_zero, List.set_cons_succ]
 refine wpAnyH_ready (rs := [6]) (by kernel_rfl) (by simp) (AllReadyH.cons (UY rfl) (fun K hK => ?_) AllReadyH.nil)
 have HK := UC hK
 clear hK hHeld
 refine Bc rfl (.tmp 5) (.tmp 8) 22 5 rfl Tryz.underlying22 VJ W0.heap.size (.slice p1 2 q1) (.slice p3 D.length q3) ([] ++ [1 / 256, 1 % 256]) D (by simp [Act.eval]) (by simp [Act.eval]) (UB O1) (UB O3).reads (by simp; omega) (by omega) ?_
 intro v4 w4 o4 g4
 have b4 : Below W0.heap.size w3 w4 := (Below.refl _ w3).grown g4 (by omega) (fun k e => ((UB O1).lt k e).1)
 have kb4 := Aa g4 (UB KB) (fun e => by have := ((UB O1).lt _ e).1; have := UB ZB; omega)
 have bb4 : Below w.heap.size w w4 := bb.grown g4 (by omega) (fun k e => by have := ((UB O1).lt k e).1; omega)
 have hcv := Il o4
 clear g4
 refine (UB HK).out _ _ (UJ kb4) (fun hHeld => ?_)
 clear HK K
 try simp only [List.setIfInBounds_toArray, List.set_cons_zero, List.set_cons_succ]
 refine wpAnyH_ready (rs := [7]) (by kernel_rfl) (by simp) (AllReadyH.cons (UY rfl) (fun K hK => ?_) AllReadyH.nil)
 have HK := UC hK
 clear hK hHeld
 go_simp
 go_simp
 refine (UB HK).out _ _ (UJ kb4) (fun hHeld => ?_)
 clear HK K
 try simp only [List.setIfInBounds_toArray, List.set_cons_zero, List.set_cons_succ]
 refine wpAnyH_ready (rs := [8]) (by kernel_rfl) (by simp) (AllReadyH.cons (UY rfl) (fun K hK => ?_) AllReadyH.nil)
 have HK := UC hK
 clear hK hHeld
 go_simp
 go_simp
 refine (UB HK).out _ _ (UJ kb4) (fun hHeld => ?_)
 clear HK K
 try simp only [List.setIfInBounds_toArray, List.set_cons_zero, List.set_cons_succ]
 refine wpAnyH_done (by kernel_rfl) ?_ _
 clear hHeld
 go_wp2_with fail
 go_ret
 exact ⟨rfl, bb4⟩

theorem Wu {na : Option Addr} {nc : Nat} {ta : Option Addr} {tc : Nat} {xa : Option Addr} {xc : Nat} {ia : Option Addr} {ic : Nat} {nm to : List (List Int)} {tx nu : List Int} {tt ad : Int} {w : World} {D : List Int} {ty : Int} (hk : Ed ty = .iface 127 (.agg #[.slice none 0 0])) (hto : Ax ty = true) (ht0 : 0 ≤ ty) (ht1 : ty ≤ 65535) (hD : D.length ≤ 1000)
  (PA : ∀ w1, Below w.heap.size w w1 → Calls Tryz.prog 151 #[.agg #[.slice ta to.length tc]] w1 fun e w' => ∃ v', e = .returned v' ∧ Own w1.heap.size 5 w' v' D ∧ Below w1.heap.size w1 w') :
  Calls Tryz.prog 72 #[.agg #[.slice na nm.length nc, .int .i64 ty, .int .i64 tt, .int .i64 ad, .slice ta to.length tc, .slice xa tx.length xc, .slice ia nu.length ic]] w fun e w' => e = .returned (.string (strOfNums ([] ++ [ty / 256, ty % 256] ++ D))) ∧ Below w.heap.size w w' := by
 have b0 := UI (w := w) (.cells #[.slice na nm.length nc, .int .i64 ty, .int .i64 tt, .int .i64 ad, .slice ta to.length tc, .slice xa tx.length xc, .slice ia nu.length ic] 39)
 have KB := UC (heap_alloc_new w (.cells #[.slice na nm.length nc, .int .i64 ty, .int .i64 tt, .int .i64 ad, .slice ta to.length tc, .slice xa tx.length xc, .slice ia nu.length ic] 39))
 have QA := UC PA
 have HKK := UC hk
 have HTO := UC hto
 clear hk hto
 clear PA
 go_enter Tryz.func72, Tryz.ntmps72
 go_wp2_with fail
 generalize w.alloc (.cells #[.slice na nm.length nc, .int .i64 ty, .int .i64 tt, .int .i64 ad, .slice ta to.length tc, .slice xa tx.length xc, .slice ia nu.length ic] 39) = W at *
 have bd := UX (w := W)
 have bb := UG b0 bd
 replace KB := UC (UE bd (UB KB))
 have z0 := bb.size
 clear bd b0
 refine wp_region_held_drew (S := (fun w' => w'.cell? ⟨w.heap.size, 0, none⟩ = some (.slice na nm.length nc) ∧ w'.cell? ⟨w.heap.size, 1, none⟩ = some (.int .i64 ty) ∧ w'.cell? ⟨w.heap.size, 2, none⟩ = some (.int .i64 tt) ∧ w'.cell? ⟨w.heap.size, 3, none⟩ = some (.int .i64 ad) ∧ w'.cell? ⟨w.heap.size, 4, none⟩ = some (.slice ta to.length tc) ∧ w'.cell? ⟨w.heap.size, 5, none⟩ = some (.slice xa tx.length xc) ∧ w'.cell? ⟨w.heap.size, 6, none⟩ = some (.slice ia nu.length ic))) (by kernel_rfl) (UJ (UB KB)) (fun hHeld => ?_)
 show wpAnyH _ _ _ _ _ 9 #[false, false, false, false, false, false, false, false, false] _ _
 generalize W.drew = W0 at *
 have ZB := UC (VC (UB KB))
 refine tkF (.pointer (some ⟨w.heap.size, 1, none⟩)) rfl (by kernel_rfl) (by kernel_rfl) (fun _ _ _ h => h) ?_ hHeld ?_; (· (intro w hSw; (try dsimp only at hSw); go_simp)); simp only [Act.put, setF, List.setIfInBounds_toArray, List.set_cons_zero, List.set_cons_succ]
 refine tkF (.int .i64 ty) rfl (by kernel_rfl) (by kernel_rfl) (fun _ _ _ h => h) ?_ hHeld ?_; (· (intro w hSw; (try dsimp only at hSw); go_simp)); simp only [Act.put, setF, List.setIfInBounds_toArray, List.set_cons_zero, List.set_cons_succ]
 refine tkI 3 (.agg #[.slice na nm.length nc, .int .i64 ty, .int .i64 tt, .int .i64 ad, .slice ta to.length tc, .slice xa tx.length xc, .slice ia nu.length ic]) rfl (by kernel_rfl) (by kernel_rfl) (fun _ _ _ h => h) ?_ hHeld ?_
 ·(intro w hSw; (try dsimp only at hSw); go_simp)
 try simp only [Act.put, List.setIfInBounds_toArray, List.set_cons_zero, List.set_cons_succ]
 refine wpAnyH_ready (rs := [2]) (by kernel_rfl) (by simp) (AllReadyH.cons (UY rfl) (fun K hK => ?_) AllReadyH.nil)
 have HK := UC hK
 clear hK hHeld
 go_simp
 refine (Er (B := 0) ty (Gi 0 5 _) (by simp) (by omega) (by omega)).mono ?_
 rintro e w1 ⟨v1, rfl, o1, b1⟩
 obtain ⟨p1, q1, hv1, _⟩ := o1.lies
 replace hv1 : v1 = .slice p1 2 q1 := hv1
 subst hv1
 replace KB := UC (UE b1 (UB KB))
 replace bb := UG bb b1
 have z1 := b1.size
 have O1 := UC o1
 clear o1 b1
 go_simp
 refine (UB HK).out _ _ (UJ (UB KB)) (fun hHeld => ?_)
 clear HK K
 try simp only [List.setIfInBounds_toArray, List.set_cons_zero, List.set_cons_succ]
 refine wpAnyH_ready (rs := [4]) (by kernel_rfl) (by simp) (AllReadyH.cons (UY rfl) (fun K hK => ?_) AllReadyH.nil)
 have HK := UC hK
 clear hK hHeld
 go_simp
 refine (It (na := na) (nc := nc) (ta := ta) (tc := tc) (xa := xa) (xc := xc) (ia := ia) (ic := ic) (nm := nm) (to := to) (tx := tx) (nu := nu) (tt := tt) (ad := ad) (UB HKK) (UB HTO)).mono ?_
 rintro e w2 ⟨rfl, b2⟩
 replace KB := UC (UE b2 (UB KB))
 replace bb := UG bb b2
 have z2 := b2.size
 replace O1 := UC ((UB O1).below b2)
 clear b2
 go_simp
 refine (UB HK).out _ _ (UJ (UB KB)) (fun hHeld => ?_)
 clear HK K
 try simp only [List.setIfInBounds_toArray, List.set_cons_zero, List.set_cons_succ]
 refine wpAnyH_ready (rs := [5]) (by kernel_rfl) (by simp) (AllReadyH.cons (UY rfl) (fun K hK => ?_) AllReadyH.nil)
 have HK := UC hK
 clear hK hHeld
 go_simp
 refine (UB QA _ bb).mono ?_
 rintro e w3 ⟨v3, rfl, o3, b3⟩
 obtain ⟨p3, q3, hv3, _⟩ := o3.lies
 subst hv3
 replace KB := UC (UE b3 (UB KB))
 replace bb := UG bb b3
 have z3 := b3.size
 replace O1 := UC ((UB O1).below b3)
 have O3 := UC o3
 clear o3 b3
 go_simp
 refine (UB HK).out _ _ (UJ (UB KB)) (fun hHeld => ?_)
 clear HK K
 try simp only [List.setIfInBounds_toArray, List.set_cons_zero, List.set_cons_succ]
 refine wpAnyH_ready (rs := [6]) (by kernel_rfl) (by simp) (AllReadyH.cons (UY rfl) (fun K hK => ?_) AllReadyH.nil)
 have HK := UC hK
 clear hK hHeld
 refine Bc rfl (.tmp 5) (.tmp 8) 22 5 rfl Tryz.underlying22 VJ W0.heap.size (.slice p1 2 q1) (.slice p3 D.length q3) ([] ++ [ty / 256, ty % 256]) D (by simp [Act.eval]) (by simp [Act.eval]) (UB O1) (UB O3).reads (by simp; omega) (by omega) ?_
 intro v4 w4 o4 g4
 have b4 : Below W0.heap.size w3 w4 := (Below.refl _ w3).grown g4 (by omega) (fun k e => ((UB O1).lt k e).1)
 have kb4 := Aa g4 (UB KB) (fun e => by have := ((UB O1).lt _ e).1; have := UB ZB; omega)
 have bb4 : Below w.heap.size w w4 := bb.grown g4 (by omega) (fun k e => by have := ((UB O1).lt k e).1; omega)
 have hcv := Il o4
 clear g4
 refine (UB HK).out _ _ (UJ kb4) (fun hHeld => ?_)
 clear HK K
 try simp only [List.setIfInBounds_toArray, List.set_cons_zero, List.set_cons_succ]
 refine wpAnyH_ready (rs := [7]) (by kernel_rfl) (by simp) (AllReadyH.cons (UY rfl) (fun K hK => ?_) AllReadyH.nil)
 have HK := UC hK
 clear hK hHeld
 go_simp
 go_simp
 refine (UB HK).out _ _ (UJ kb4) (fun hHeld => ?_)
 clear HK K
 try simp only [List.setIfInBounds_toArray, List.set_cons_zero, List.set_cons_succ]
 refine wpAnyH_ready (rs := [8]) (by kernel_rfl) (by simp) (AllReadyH.cons (UY rfl) (fun K hK => ?_) AllReadyH.nil)
 have HK := UC hK
 clear hK hHeld
 go_simp
 go_simp
 refine (UB HK).out _ _ (UJ kb4) (fun hHeld => ?_)
 clear HK K
 try simp only [List.setIfInBounds_toArray, List.set_cons_zero, List.set_cons_succ]
 refine wpAnyH_done (by kernel_rfl) ?_ _
 clear hHeld
 go_wp2_with fail
 go_ret
 exact ⟨rfl, bb4⟩

theorem Wr {na : Option Addr} {nc : Nat} {ta : Option Addr} {tc : Nat} {xa : Option Addr} {xc : Nat} {ia : Option Addr} {ic : Nat} {nm to : List (List Int)} {tx nu : List Int} {tt ad : Int} {w : World} {D : List Int} (hD : D.length ≤ 1000)
  (PA : ∀ w1, Below w.heap.size w w1 → Calls Tryz.prog 157 #[.agg #[.slice ta to.length tc, .slice ia nu.length ic]] w1 fun e w' => ∃ v', e = .returned v' ∧ Own w1.heap.size 5 w' v' D ∧ Below w1.heap.size w1 w') :
  Calls Tryz.prog 72 #[.agg #[.slice na nm.length nc, .int .i64 6, .int .i64 tt, .int .i64 ad, .slice ta to.length tc, .slice xa tx.length xc, .slice ia nu.length ic]] w fun e w' => e = .returned (.string (strOfNums ([] ++ [6 / 256, 6 % 256] ++ D))) ∧ Below w.heap.size w w' := by
 have b0 := UI (w := w) (.cells #[.slice na nm.length nc, .int .i64 6, .int .i64 tt, .int .i64 ad, .slice ta to.length tc, .slice xa tx.length xc, .slice ia nu.length ic] 39)
 have KB := UC (heap_alloc_new w (.cells #[.slice na nm.length nc, .int .i64 6, .int .i64 tt, .int .i64 ad, .slice ta to.length tc, .slice xa tx.length xc, .slice ia nu.length ic] 39))
 have QA := UC PA
 clear PA
 go_enter Tryz.func72, Tryz.ntmps72
 go_wp2_with fail
 generalize w.alloc (.cells #[.slice na nm.length nc, .int .i64 6, .int .i64 tt, .int .i64 ad, .slice ta to.length tc, .slice xa tx.length xc, .slice ia nu.length ic] 39) = W at *
 have bd := UX (w := W)
 have bb := UG b0 bd
 replace KB := UC (UE bd (UB KB))
 have z0 := bb.size
 clear bd b0
 refine wp_region_held_drew (S := (fun w' => w'.cell? ⟨w.heap.size, 0, none⟩ = some (.slice na nm.length nc) ∧ w'.cell? ⟨w.heap.size, 1, none⟩ = some (.int .i64 6) ∧ w'.cell? ⟨w.heap.size, 2, none⟩ = some (.int .i64 tt) ∧ w'.cell? ⟨w.heap.size, 3, none⟩ = some (.int .i64 ad) ∧ w'.cell? ⟨w.heap.size, 4, none⟩ = some (.slice ta to.length tc) ∧ w'.cell? ⟨w.heap.size, 5, none⟩ = some (.slice xa tx.length xc) ∧ w'.cell? ⟨w.heap.size, 6, none⟩ = some (.slice ia nu.length ic))) (by kernel_rfl) (UJ (UB KB)) (fun hHeld => ?_)
 show wpAnyH _ _ _ _ _ 9 #[false, false, false, false, false, false, false, false, false] _ _
 generalize W.drew = W0 at *
 have ZB := UC (VC (UB KB))
 refine tkF (.pointer (some ⟨w.heap.size, 1, none⟩)) rfl (by kernel_rfl) (by kernel_rfl) (fun _ _ _ h => h) ?_ hHeld ?_; (· (intro w hSw; (try dsimp only at hSw); go_simp)); simp only [Act.put, setF, List.setIfInBounds_toArray, List.set_cons_zero, List.set_cons_succ]
 refine tkF (.int .i64 6) rfl (by kernel_rfl) (by kernel_rfl) (fun _ _ _ h => h) ?_ hHeld ?_; (· (intro w hSw; (try dsimp only at hSw); go_simp)); simp only [Act.put, setF, List.setIfInBounds_toArray, List.set_cons_zero, List.set_cons_succ]
 refine tkI 3 (.agg #[.slice na nm.length nc, .int .i64 6, .int .i64 tt, .int .i64 ad, .slice ta to.length tc, .slice xa tx.length xc, .slice ia nu.length ic]) rfl (by kernel_rfl) (by kernel_rfl) (fun _ _ _ h => h) ?_ hHeld ?_
 ·(intro w hSw; (try dsimp only at hSw); go_simp)
 try simp only [Act.put, List.setIfInBounds_toArray, List.set_cons_zero, List.set_cons_succ]
 refine wpAnyH_ready (rs := [2]) (by kernel_rfl) (by simp) (AllReadyH.cons (UY rfl) (fun K hK => ?_) AllReadyH.nil)
 have HK := UC hK
 clear hK hHeld
 go_simp
 refine (Er (B := 0) 6 (Gi 0 5 _) (by simp) (by omega) (by omega)).mono ?_
 rintro e w1 ⟨v1, rfl, o1, b1⟩
 obtain ⟨p1, q1, hv1, _⟩ := o1.lies
 replace hv1 : v1 = .slice p1 2 q1 := hv1
 subst hv1
 replace KB := UC (UE b1 (UB KB))
 replace bb := UG bb b1
 have z1 := b1.size
 have O1 := UC o1
 clear o1 b1
 go_simp
 refine (UB HK).out _ _ (UJ (UB KB)) (fun hHeld => ?_)
 clear HK K
 try simp only [List.setIfInBounds_toArray, List.set_cons_zero, List.set_cons_succ]
 refine wpAnyH_ready (rs := [4]) (by kernel_rfl) (by simp) (AllReadyH.cons (UY rfl) (fun K hK => ?_) AllReadyH.nil)
 have HK := UC hK
 clear hK hHeld
 go_simp
 refine (Ip (na := na) (nc := nc) (ta := ta) (tc := tc) (xa := xa) (xc := xc) (ia := ia) (ic := ic) (nm := nm) (to := to) (tx := tx) (nu := nu) (tt := tt) (ad := ad)).mono ?_
 rintro e w2 ⟨rfl, b2⟩
 replace KB := UC (UE b2 (UB KB))
 replace bb := UG bb b2
 have z2 := b2.size
 replace O1 := UC ((UB O1).below b2)
 clear b2
 go_simp
 refine (UB HK).out _ _ (UJ (UB KB)) (fun hHeld => ?_)
 clear HK K
 try simp only [List.setIfInBounds_toArray, List.set_cons_zero, List.set_cons_succ]
 refine wpAnyH_ready (rs := [5]) (by kernel_rfl) (by simp) (AllReadyH.cons (UY rfl) (fun K hK => ?_) AllReadyH.nil)
 have HK := UC hK
 clear hK hHeld
 go_simp
 refine (UB QA _ bb).mono ?_
 rintro e w3 ⟨v3, rfl, o3, b3⟩
 obtain ⟨p3, q3, hv3, _⟩ := o3.lies
 subst hv3
 replace KB := UC (UE b3 (UB KB))
 replace bb := UG bb b3
 have z3 := b3.size
 replace O1 := UC ((UB O1).below b3)
 have O3 := UC o3
 clear o3 b3
 go_simp
 refine (UB HK).out _ _ (UJ (UB KB)) (fun hHeld => ?_)
 clear HK K
 try simp only [List.setIfInBounds_toArray, List.set_cons_zero, List.set_cons_succ]
 refine wpAnyH_ready (rs := [6]) (by kernel_rfl) (by simp) (AllReadyH.cons (UY rfl) (fun K hK => ?_) AllReadyH.nil)
 have HK := UC hK
 clear hK hHeld
 refine Bc rfl (.tmp 5) (.tmp 8) 22 5 rfl Tryz.underlying22 VJ W0.heap.size (.slice p1 2 q1) (.slice p3 D.length q3) ([] ++ [6 / 256, 6 % 256]) D (by simp [Act.eval]) (by simp [Act.eval]) (UB O1) (UB O3).reads (by simp; omega) (by omega) ?_
 intro v4 w4 o4 g4
 have b4 : Below W0.heap.size w3 w4 := (Below.refl _ w3).grown g4 (by omega) (fun k e => ((UB O1).lt k e).1)
 have kb4 := Aa g4 (UB KB) (fun e => by have := ((UB O1).lt _ e).1; have := UB ZB; omega)
 have bb4 : Below w.heap.size w w4 := bb.grown g4 (by omega) (fun k e => by have := ((UB O1).lt k e).1; omega)
 have hcv := Il o4
 clear g4
 refine (UB HK).out _ _ (UJ kb4) (fun hHeld => ?_)
 clear HK K
 try simp only [List.setIfInBounds_toArray, List.set_cons_zero, List.set_cons_succ]
 refine wpAnyH_ready (rs := [7]) (by kernel_rfl) (by simp) (AllReadyH.cons (UY rfl) (fun K hK => ?_) AllReadyH.nil)
 have HK := UC hK
 clear hK hHeld
 go_simp
 go_simp
 refine (UB HK).out _ _ (UJ kb4) (fun hHeld => ?_)
 clear HK K
 try simp only [List.setIfInBounds_toArray, List.set_cons_zero, List.set_cons_succ]
 refine wpAnyH_ready (rs := [8]) (by kernel_rfl) (by simp) (AllReadyH.cons (UY rfl) (fun K hK => ?_) AllReadyH.nil)
 have HK := UC hK
 clear hK hHeld
 go_simp
 go_simp
 refine (UB HK).out _ _ (UJ kb4) (fun hHeld => ?_)
 clear HK K
 try simp only [List.setIfInBounds_toArray, List.set_cons_zero, List.set_cons_succ]
 refine wpAnyH_done (by kernel_rfl) ?_ _
 clear hHeld
 go_wp2_with fail
 go_ret
 exact ⟨rfl, bb4⟩

theorem Wn {na : Option Addr} {nc : Nat} {ta : Option Addr} {tc : Nat} {xa : Option Addr} {xc : Nat} {ia : Option Addr} {ic : Nat} {nm to : List (List Int)} {tx nu : List Int} {tt ad : Int} {w : World} {D : List Int} {ty : Int} (hk : Ed ty = .iface 131 (.agg #[.slice none 0 0])) (hto : Ax ty = true) (ht0 : 0 ≤ ty) (ht1 : ty ≤ 65535) (hD : D.length ≤ 1000)
  (PA : ∀ w1, Below w.heap.size w w1 → Calls Tryz.prog 161 #[.agg #[.slice xa tx.length xc]] w1 fun e w' => ∃ v', e = .returned v' ∧ Own w1.heap.size 5 w' v' D ∧ Below w1.heap.size w1 w') :
  Calls Tryz.prog 72 #[.agg #[.slice na nm.length nc, .int .i64 ty, .int .i64 tt, .int .i64 ad, .slice ta to.length tc, .slice xa tx.length xc, .slice ia nu.length ic]] w fun e w' => e = .returned (.string (strOfNums ([] ++ [ty / 256, ty % 256] ++ D))) ∧ Below w.heap.size w w' := by
 have b0 := UI (w := w) (.cells #[.slice na nm.length nc, .int .i64 ty, .int .i64 tt, .int .i64 ad, .slice ta to.length tc, .slice xa tx.length xc, .slice ia nu.length ic] 39)
 have KB := UC (heap_alloc_new w (.cells #[.slice na nm.length nc, .int .i64 ty, .int .i64 tt, .int .i64 ad, .slice ta to.length tc, .slice xa tx.length xc, .slice ia nu.length ic] 39))
 have QA := UC PA
 have HKK := UC hk
 have HTO := UC hto
 clear hk hto
 clear PA
 go_enter Tryz.func72, Tryz.ntmps72
 go_wp2_with fail
 generalize w.alloc (.cells #[.slice na nm.length nc, .int .i64 ty, .int .i64 tt, .int .i64 ad, .slice ta to.length tc, .slice xa tx.length xc, .slice ia nu.length ic] 39) = W at *
 have bd := UX (w := W)
 have bb := UG b0 bd
 replace KB := UC (UE bd (UB KB))
 have z0 := bb.size
 clear bd b0
 refine wp_region_held_drew (S := (fun w' => w'.cell? ⟨w.heap.size, 0, none⟩ = some (.slice na nm.length nc) ∧ w'.cell? ⟨w.heap.size, 1, none⟩ = some (.int .i64 ty) ∧ w'.cell? ⟨w.heap.size, 2, none⟩ = some (.int .i64 tt) ∧ w'.cell? ⟨w.heap.size, 3, none⟩ = some (.int .i64 ad) ∧ w'.cell? ⟨w.heap.size, 4, none⟩ = some (.slice ta to.length tc) ∧ w'.cell? ⟨w.heap.size, 5, none⟩ = some (.slice xa tx.length xc) ∧ w'.cell? ⟨w.heap.size, 6, none⟩ = some (.slice ia nu.length ic))) (by kernel_rfl) (UJ (UB KB)) (fun hHeld => ?_)
 show wpAnyH _ _ _ _ _ 9 #[false, false, false, false, false, false, false, false, false] _ _
 generalize W.drew = W0 at *
 have ZB := UC (VC (UB KB))
 refine tkF (.pointer (some ⟨w.heap.size, 1, none⟩)) rfl (by kernel_rfl) (by kernel_rfl) (fun _ _ _ h => h) ?_ hHeld ?_; (· (intro w hSw; (try dsimp only at hSw); go_simp)); simp only [Act.put, setF, List.setIfInBounds_toArray, List.set_cons_zero, List.set_cons_succ]
 refine tkF (.int .i64 ty) rfl (by kernel_rfl) (by kernel_rfl) (fun _ _ _ h => h) ?_ hHeld ?_; (· (intro w hSw; (try dsimp only at hSw); go_simp)); simp only [Act.put, setF, List.setIfInBounds_toArray, List.set_cons_zero, List.set_cons_succ]
 refine tkI 3 (.agg #[.slice na nm.length nc, .int .i64 ty, .int .i64 tt, .int .i64 ad, .slice ta to.length tc, .slice xa tx.length xc, .slice ia nu.length ic]) rfl (by kernel_rfl) (by kernel_rfl) (fun _ _ _ h => h) ?_ hHeld ?_
 ·(intro w hSw; (try dsimp only at hSw); go_simp)
 try simp only [Act.put, List.setIfInBounds_toArray, List.set_cons_zero, List.set_cons_succ]
 refine wpAnyH_ready (rs := [2]) (by kernel_rfl) (by simp) (AllReadyH.cons (UY rfl) (fun K hK => ?_) AllReadyH.nil)
 have HK := UC hK
 clear hK hHeld
 go_simp
 refine (Er (B := 0) ty (Gi 0 5 _) (by simp) (by omega) (by omega)).mono ?_
 rintro e w1 ⟨v1, rfl, o1, b1⟩
 obtain ⟨p1, q1, hv1, _⟩ := o1.lies
 replace hv1 : v1 = .slice p1 2 q1 := hv1
 subst hv1
 replace KB := UC (UE b1 (UB KB))
 replace bb := UG bb b1
 have z1 := b1.size
 have O1 := UC o1
 clear o1 b1
 go_simp
 refine (UB HK).out _ _ (UJ (UB KB)) (fun hHeld => ?_)
 clear HK K
 try simp only [List.setIfInBounds_toArray, List.set_cons_zero, List.set_cons_succ]
 refine wpAnyH_ready (rs := [4]) (by kernel_rfl) (by simp) (AllReadyH.cons (UY rfl) (fun K hK => ?_) AllReadyH.nil)
 have HK := UC hK
 clear hK hHeld
 go_simp
 refine (Ik (na := na) (nc := nc) (ta := ta) (tc := tc) (xa := xa) (xc := xc) (ia := ia) (ic := ic) (nm := nm) (to := to) (tx := tx) (nu := nu) (tt := tt) (ad := ad) (UB HKK) (UB HTO)).mono ?_
 rintro e w2 ⟨rfl, b2⟩
 replace KB := UC (UE b2 (UB KB))
 replace bb := UG bb b2
 have z2 := b2.size
 replace O1 := UC ((UB O1).below b2)
 clear b2
 go_simp
 refine (UB HK).out _ _ (UJ (UB KB)) (fun hHeld => ?_)
 clear HK K
 try simp only [List.setIfInBounds_toArray, List.set_cons_zero, List.set_cons_succ]
 refine wpAnyH_ready (rs := [5]) (by kernel_rfl) (by simp) (AllReadyH.cons (UY rfl) (fun K hK => ?_) AllReadyH.nil)
 have HK := UC hK
 clear hK hHeld
 go_simp
 refine (UB QA _ bb).mono ?_
 rintro e w3 ⟨v3, rfl, o3, b3⟩
 obtain ⟨p3, q3, hv3, _⟩ := o3.lies
 subst hv3
 replace KB := UC (UE b3 (UB KB))
 replace bb := UG bb b3
 have z3 := b3.size
 replace O1 := UC ((UB O1).below b3)
 have O3 := UC o3
 clear o3 b3
 go_simp
 refine (UB HK).out _ _ (UJ (UB KB)) (fun hHeld => ?_)
 clear HK K
 try simp only [List.setIfInBounds_toArray, List.set_cons_zero, List.set_cons_succ]
 refine wpAnyH_ready (rs := [6]) (by kernel_rfl) (by simp) (AllReadyH.cons (UY rfl) (fun K hK => ?_) AllReadyH.nil)
 have HK := UC hK
 clear hK hHeld
 refine Bc rfl (.tmp 5) (.tmp 8) 22 5 rfl Tryz.underlying22 VJ W0.heap.size (.slice p1 2 q1) (.slice p3 D.length q3) ([] ++ [ty / 256, ty % 256]) D (by simp [Act.eval]) (by simp [Act.eval]) (UB O1) (UB O3).reads (by simp; omega) (by omega) ?_
 intro v4 w4 o4 g4
 have b4 : Below W0.heap.size w3 w4 := (Below.refl _ w3).grown g4 (by omega) (fun k e => ((UB O1).lt k e).1)
 have kb4 := Aa g4 (UB KB) (fun e => by have := ((UB O1).lt _ e).1; have := UB ZB; omega)
 have bb4 : Below w.heap.size w w4 := bb.grown g4 (by omega) (fun k e => by have := ((UB O1).lt k e).1; omega)
 have hcv := Il o4
 clear g4
 refine (UB HK).out _ _ (UJ kb4) (fun hHeld => ?_)
 clear HK K
 try simp only [List.setIfInBounds_toArray, List.set_cons_zero, List.set_cons_succ]
 refine wpAnyH_ready (rs := [7]) (by kernel_rfl) (by simp) (AllReadyH.cons (UY rfl) (fun K hK => ?_) AllReadyH.nil)
 have HK := UC hK
 clear hK hHeld
 go_simp
 go_simp
 refine (UB HK).out _ _ (UJ kb4) (fun hHeld => ?_)
 clear HK K
 try simp only [List.setIfInBounds_toArray, List.set_cons_zero, List.set_cons_succ]
 refine wpAnyH_ready (rs := [8]) (by kernel_rfl) (by simp) (AllReadyH.cons (UY rfl) (fun K hK => ?_) AllReadyH.nil)
 have HK := UC hK
 clear hK hHeld
 go_simp
 go_simp
 refine (UB HK).out _ _ (UJ kb4) (fun hHeld => ?_)
 clear HK K
 try simp only [List.setIfInBounds_toArray, List.set_cons_zero, List.set_cons_succ]
 refine wpAnyH_done (by kernel_rfl) ?_ _
 clear hHeld
 go_wp2_with fail
 go_ret
 exact ⟨rfl, bb4⟩

theorem Lp {vn vt vx vi : Value} {r : Rec} {w : World} (h : HasR w vn vt vx vi r) (hok : rrOk r = true) :
  Calls Tryz.prog 72 #[.agg #[vn, .int .i64 r.type, .int .i64 r.ttl, .int .i64 r.addr, vt, vx, vi]] w fun e w' => e = .returned (.string (strOfNums (keyD r))) ∧ Below w.heap.size w w' := by
 obtain ⟨_, ht, _, _, hd⟩ := A2 hok
 have hlen : (Cs r).length ≤ 1000 := Nat.le_trans (Jw hok) (by omega)
 obtain ⟨na, nc, rfl, _⟩ := h.name.form
 obtain ⟨ta, tc, rfl, _⟩ := h.to.form
 obtain ⟨xa, xc, rfl, _⟩ := h.text.form
 obtain ⟨ia, ic, rfl, _⟩ := h.nums.form
 unfold keyD
 rcases C9 ht hd with ⟨e, h0, h1, eb⟩ | ⟨e, hn, eb⟩ | ⟨e, hn, x, y, exy, _, _, _, _, eb⟩ | ⟨e, hx, eb⟩
 all_goals
  rw [eb] at hlen ⊢
  obtain ⟨nm, ty, tt, ad, to, tx, nu⟩ := r
  simp only at *
 ·subst e
  exact V5 hlen (fun w1 _ => Ij ad w1)
 ·exact Wu (F0 e) ht (by omega) (by omega) hlen (fun w1 hb => Gt (h.to.below hb) hn)
 ·subst e exy
  exact Wr hlen (fun w1 hb => Jh (h.to.below hb) (h.nums.below hb) hn)
 ·exact Wn (Iw e) ht (by omega) (by omega) hlen (fun w1 hb => Iu (h.text.below hb) hx)
end Go.Proofs.YtfneahdnpmamkaaGreat
