/-
  The walk of laws.FnExactRrText. What is known of a name that came in as an argument: a struct of one slice of slices of bytes, wherever they lie.
-/
import Derived.Test.YthmihglfffeedaaDoorRrTextG05
import Derived.Test.YthmihglfffeedaaDoorRrTextG06
import Derived.Test.YthmihglfffeedaaDoorRrTextG02
import Derived.Test.YthmihglfffeedaaDoorRrTextG21
import Derived.Test.YthmihglfffeedaaDoorRrTextG31
import Derived.Deep.RegionHeld3
import Derived.Deep.RegionWith
import Derived.Test.YthmihglfffeedaaDoorRrTextG01
import Derived.ProofKit
import Derived.ChangeArms
import Derived.ChangeSame
import Derived.ChangeSlices
namespace Go.Proofs.YthmihglfffeedaaDoor
open Go.RowKit
set_option linter.unusedVariables false

set_option maxHeartbeats 4000000 in
set_option maxRecDepth 100000 in
theorem lawRrText (an0 : Option Addr) (cn0 : Nat) (at0 : Option Addr) (ct0 : Nat) (ax0 : Option Addr) (cx0 : Nat) (ai0 : Option Addr) (ci0 : Nat) (r0 : Rec) (w : World) (h0 : InR w an0 at0 ax0 ai0 r0) (hm0 : SizeR maxLen r0) (hbt : Byt r0.text) (hpt : Pow10 w) :
  Calls Tryd.prog 3 #[.agg #[.slice an0 r0.name.length cn0, .int .i64 r0.type, .int .i64 r0.ttl, .int .i64 r0.addr, .slice at0 r0.to.length ct0, .slice ax0 r0.text.length cx0, .slice ai0 r0.nums.length ci0]] w fun e w' => e = .returned (.bool true) ∧ Below w.heap.size w w' := by
 have HBT := UC hbt
 have HT := UC hpt
 clear hbt hpt
 have bb := UI (w := w) (.cells #[.slice an0 r0.name.length cn0, .int .i64 r0.type, .int .i64 r0.ttl, .int .i64 r0.addr, .slice at0 r0.to.length ct0, .slice ax0 r0.text.length cx0, .slice ai0 r0.nums.length ci0] 28)
 have K0 := heap_alloc_new w (.cells #[.slice an0 r0.name.length cn0, .int .i64 r0.type, .int .i64 r0.ttl, .int .i64 r0.addr, .slice at0 r0.to.length ct0, .slice ax0 r0.text.length cx0, .slice ai0 r0.nums.length ci0] 28)
 replace K0 := UC K0
 have L0 := UC h0
 have HM0 := UC hm0
 clear h0 hm0
 go_enter Tryd.func3, Tryd.ntmps3
 go_wp2_with fail
 generalize w.alloc (.cells #[.slice an0 r0.name.length cn0, .int .i64 r0.type, .int .i64 r0.ttl, .int .i64 r0.addr, .slice at0 r0.to.length ct0, .slice ax0 r0.text.length cx0, .slice ai0 r0.nums.length ci0] 28) = W at *
 have zk0 := VC (UB K0)
 refine (szRr_any an0 cn0 at0 ct0 ax0 cx0 ai0 ci0 r0 1048576 _ ((UB L0).below bb) (UB HM0) (by omega) (by omega)).mono ?_
 rintro e w1 ⟨⟨y0, rfl, hr00, hr10, hr20⟩, b1⟩
 replace bb := UG bb b1
 replace K0 := UC (UE b1 (UB K0))
 have z1 := b1.size
 clear b1
 by_cases hneg0 : y0 < 0
 ·clear hr20
  go_wp2_with fail
  go_ret
  exact ⟨rfl, bb⟩
 have HS0 := UC ((hr20 (by omega)).mono (m' := 1048576) (by omega))
 have HSS0 := UC ((UB HS0).mono (m' := 2097152) (by omega))
 clear hr20 HM0
 obtain ⟨P0, hPa0, hPb0, MK0⟩ := markRr_any (r := r0) (UB HS0) 1 (by omega) (by omega)
 replace MK0 := UC MK0
 have hPn0 : ¬ P0 < 0 := by omega
 have hG0 := rrText_length r0
 have SP := fun (w : World) (xn0 xt0 xx0 xi0 : Value) (h0 : HasR w xn0 xt0 xx0 xi0 r0) => specRrText_has h0 (UB HBT)
 have IM := fun (w : World) (xn0 xt0 xx0 xi0 : Value) (h0 : HasR w xn0 xt0 xx0 xi0 r0) (ht : Pow10 w) => implRrText_has h0 (UB HBT) ht
 generalize rrText r0 = G0 at *
 replace SP := UC SP
 replace IM := UC IM
 obtain ⟨c_K00, c_K01, c_K02, c_K03, c_K04, c_K05, c_K06⟩ := UJ (UB K0)
 go_wp2_with fail
 clear c_K00 c_K01 c_K02 c_K03 c_K04 c_K05 c_K06
 refine (toRr_any an0 cn0 at0 ct0 ax0 cx0 ai0 ci0 r0 _ ((UB L0).below bb) (UB HS0)).mono ?_
 rintro e w2 ⟨xn2, xt2, xx2, xi2, rfl, o2, b2⟩
 obtain ⟨na2, nc2, rfl, _⟩ := o2.hasR.name.form
 obtain ⟨ta2, tc2, rfl, _⟩ := o2.hasR.to.form
 obtain ⟨xa2, xc2, rfl, _⟩ := o2.hasR.text.form
 obtain ⟨ia2, ic2, rfl, _⟩ := o2.hasR.nums.form
 have A2 := UC (o2.hasR)
 clear o2
 replace bb := UG bb b2
 replace K0 := UC (UE b2 (UB K0))
 have z2 := b2.size
 clear b2
 obtain ⟨c_K00, c_K01, c_K02, c_K03, c_K04, c_K05, c_K06⟩ := UJ (UB K0)
 go_wp2_with fail
 clear c_K00 c_K01 c_K02 c_K03 c_K04 c_K05 c_K06
 refine (UB SP _ _ _ _ _ (UB A2)).mono ?_
 rintro e w3 ⟨y3, rfl, o3, b3⟩
 clear A2
 replace bb := UG bb b3
 replace K0 := UC (UE b3 (UB K0))
 have z3 := b3.size
 clear b3
 have W0 := UC o3.has.at
 clear o3
 obtain ⟨c_K00, c_K01, c_K02, c_K03, c_K04, c_K05, c_K06⟩ := UJ (UB K0)
 go_wp2_with fail
 clear c_K00 c_K01 c_K02 c_K03 c_K04 c_K05 c_K06
 refine (toRr_any an0 cn0 at0 ct0 ax0 cx0 ai0 ci0 r0 _ ((UB L0).below bb) (UB HS0)).mono ?_
 rintro e w4 ⟨xn4, xt4, xx4, xi4, rfl, o4, b4⟩
 obtain ⟨na4, nc4, rfl, _⟩ := o4.hasR.name.form
 obtain ⟨ta4, tc4, rfl, _⟩ := o4.hasR.to.form
 obtain ⟨xa4, xc4, rfl, _⟩ := o4.hasR.text.form
 obtain ⟨ia4, ic4, rfl, _⟩ := o4.hasR.nums.form
 have X0 := UC o4
 clear o4
 replace bb := UG bb b4
 replace K0 := UC (UE b4 (UB K0))
 replace W0 := UC ((UB W0).below b4)
 have z4 := b4.size
 clear b4
 have b5 := UI (w := w4) (.cells #[.slice na4 r0.name.length nc4, .int .i64 r0.type, .int .i64 r0.ttl, .int .i64 r0.addr, .slice ta4 r0.to.length tc4, .slice xa4 r0.text.length xc4, .slice ia4 r0.nums.length ic4] 33)
 have VX0 := UC (heap_alloc_new w4 (.cells #[.slice na4 r0.name.length nc4, .int .i64 r0.type, .int .i64 r0.ttl, .int .i64 r0.addr, .slice ta4 r0.to.length tc4, .slice xa4 r0.text.length xc4, .slice ia4 r0.nums.length ic4] 33))
 obtain ⟨c_K00, c_K01, c_K02, c_K03, c_K04, c_K05, c_K06⟩ := UJ (UE b5 (UB K0))
 go_wp2_with fail
 clear c_K00 c_K01 c_K02 c_K03 c_K04 c_K05 c_K06
 generalize w4.alloc (.cells #[.slice na4 r0.name.length nc4, .int .i64 r0.type, .int .i64 r0.ttl, .int .i64 r0.addr, .slice ta4 r0.to.length tc4, .slice xa4 r0.text.length xc4, .slice ia4 r0.nums.length ic4] 33) = w5 at *
 replace bb := UG bb b5
 replace K0 := UC (UE b5 (UB K0))
 replace W0 := UC ((UB W0).below b5)
 replace X0 := UC ((UB X0).below b5)
 have z5 := b5.size
 clear b5
 have zz5 := VC (UB VX0)
 refine (UB IM _ _ _ _ _ (UB X0).hasR ((UB HT).below bb)).mono ?_
 rintro e w6 ⟨y6, rfl, o6, b6⟩
 replace bb := UG bb b6
 replace K0 := UC (UE b6 (UB K0))
 replace W0 := UC ((UB W0).below b6)
 replace X0 := UC ((UB X0).below b6)
 replace VX0 := UC (UE b6 (UB VX0))
 have z6 := b6.size
 clear b6
 have GG := UC o6.here
 clear o6
 obtain ⟨c_K00, c_K01, c_K02, c_K03, c_K04, c_K05, c_K06⟩ := UJ (UB K0)
 obtain ⟨c_VX00, c_VX01, c_VX02, c_VX03, c_VX04, c_VX05, c_VX06⟩ := UJ (UB VX0)
 go_wp2_with fail
 clear c_K00 c_K01 c_K02 c_K03 c_K04 c_K05 c_K06
 clear c_VX00 c_VX01 c_VX02 c_VX03 c_VX04 c_VX05 c_VX06
 refine (eqByteS_has (UB GG).has (UB W0).has (by omega)).mono ?_
 rintro e w7 ⟨rfl, m7, hm7⟩
 have b7 : Below w6.heap.size w6 w7 := by rw [hm7]; exact below_draws m7
 clear hm7
 replace bb := UG bb b7
 replace K0 := UC (UE b7 (UB K0))
 replace W0 := UC ((UB W0).below b7)
 replace X0 := UC ((UB X0).below b7)
 replace VX0 := UC (UE b7 (UB VX0))
 replace GG := UC ((UB GG).below b7)
 have z7 := b7.size
 clear b7
 have bd := UX (w := w7)
 have zdw7 : w7.drew.heap.size = w7.heap.size := rfl
 replace bb := UG bb bd
 replace K0 := UC (UE bd (UB K0))
 replace W0 := UC ((UB W0).below bd)
 replace X0 := UC ((UB X0).below bd)
 replace VX0 := UC (UE bd (UB VX0))
 replace GG := UC ((UB GG).below bd)
 clear bd
 obtain ⟨c_K00, c_K01, c_K02, c_K03, c_K04, c_K05, c_K06⟩ := UJ (UB K0)
 obtain ⟨c_VX00, c_VX01, c_VX02, c_VX03, c_VX04, c_VX05, c_VX06⟩ := UJ (UB VX0)
 go_wp2_with fail
 clear c_K00 c_K01 c_K02 c_K03 c_K04 c_K05 c_K06
 clear c_VX00 c_VX01 c_VX02 c_VX03 c_VX04 c_VX05 c_VX06
 go_region_held3 (fun w' => (w'.cell? ⟨w.heap.size, 0, none⟩ = some (.slice an0 r0.name.length cn0) ∧ w'.cell? ⟨w.heap.size, 1, none⟩ = some (.int .i64 r0.type) ∧ w'.cell? ⟨w.heap.size, 2, none⟩ = some (.int .i64 r0.ttl) ∧ w'.cell? ⟨w.heap.size, 3, none⟩ = some (.int .i64 r0.addr) ∧ w'.cell? ⟨w.heap.size, 4, none⟩ = some (.slice at0 r0.to.length ct0) ∧ w'.cell? ⟨w.heap.size, 5, none⟩ = some (.slice ax0 r0.text.length cx0) ∧ w'.cell? ⟨w.heap.size, 6, none⟩ = some (.slice ai0 r0.nums.length ci0)) ∧ (w'.cell? ⟨w4.heap.size, 0, none⟩ = some (.slice na4 r0.name.length nc4) ∧ w'.cell? ⟨w4.heap.size, 1, none⟩ = some (.int .i64 r0.type) ∧ w'.cell? ⟨w4.heap.size, 2, none⟩ = some (.int .i64 r0.ttl) ∧ w'.cell? ⟨w4.heap.size, 3, none⟩ = some (.int .i64 r0.addr) ∧ w'.cell? ⟨w4.heap.size, 4, none⟩ = some (.slice ta4 r0.to.length tc4) ∧ w'.cell? ⟨w4.heap.size, 5, none⟩ = some (.slice xa4 r0.text.length xc4) ∧ w'.cell? ⟨w4.heap.size, 6, none⟩ = some (.slice ia4 r0.nums.length ic4)))
  (first | exact ⟨UJ (UB K0), UJ (UB VX0)⟩ | exact ⟨UJ (UE b8 (UB K0)), UJ (UE b8 (UB VX0))⟩ | exact ⟨UJ (UE q9 (UB K0)), UJ (UE q9 (UB VX0))⟩)
  (first
  | (go_at_call 6; refine (toRr_any an0 cn0 at0 ct0 ax0 cx0 ai0 ci0 r0 _ ((UB L0).below bb) (UB HS0)).mono ?_; rintro e w8 ⟨xn8, xt8, xx8, xi8, rfl, o8, b8⟩; obtain ⟨na8, nc8, rfl, _⟩ := o8.hasR.name.form; obtain ⟨ta8, tc8, rfl, _⟩ := o8.hasR.to.form; obtain ⟨xa8, xc8, rfl, _⟩ := o8.hasR.text.form; obtain ⟨ia8, ic8, rfl, _⟩ := o8.hasR.nums.form)
  | (go_at_call 9; refine (eqRr_has ((UB X0).below b8).hasR o8.hasR (UB HSS0)).mono ?_; rintro e w9 ⟨rfl, b9⟩; have q9 := UG b8 b9))
 clear b8 b9 o8
 replace bb := UG bb q9
 replace K0 := UC (UE q9 (UB K0))
 replace W0 := UC ((UB W0).below q9)
 replace X0 := UC ((UB X0).below q9)
 replace VX0 := UC (UE q9 (UB VX0))
 replace GG := UC ((UB GG).below q9)
 have z9 := q9.size
 clear q9
 obtain ⟨c_K00, c_K01, c_K02, c_K03, c_K04, c_K05, c_K06⟩ := UJ (UB K0)
 obtain ⟨c_VX00, c_VX01, c_VX02, c_VX03, c_VX04, c_VX05, c_VX06⟩ := UJ (UB VX0)
 go_wp2_with fail
 clear c_K00 c_K01 c_K02 c_K03 c_K04 c_K05 c_K06
 clear c_VX00 c_VX01 c_VX02 c_VX03 c_VX04 c_VX05 c_VX06
 refine (UB MK0 _ _ _ _ _ _ _ (by omega) (UB X0)).mono ?_
 rintro e w10 ⟨rfl, u10⟩
 clear X0
 replace bb := u10.below bb (by omega)
 replace K0 := UC (u10.kept (UB K0) (by omega))
 replace W0 := UC ((UB W0).outside u10 (by omega))
 replace VX0 := UC (u10.kept (UB VX0) (by omega))
 replace GG := UC ((UB GG).outside u10 (by omega))
 have z10 := u10.size
 clear u10
 obtain ⟨c_K00, c_K01, c_K02, c_K03, c_K04, c_K05, c_K06⟩ := UJ (UB K0)
 obtain ⟨c_VX00, c_VX01, c_VX02, c_VX03, c_VX04, c_VX05, c_VX06⟩ := UJ (UB VX0)
 go_wp2_with fail
 clear c_K00 c_K01 c_K02 c_K03 c_K04 c_K05 c_K06
 clear c_VX00 c_VX01 c_VX02 c_VX03 c_VX04 c_VX05 c_VX06
 refine (eqByteS_has (UB GG).has (UB W0).has (by omega)).mono ?_
 rintro e w11 ⟨rfl, m11, hm11⟩
 have b11 : Below w10.heap.size w10 w11 := by rw [hm11]; exact below_draws m11
 clear hm11
 replace bb := UG bb b11
 replace K0 := UC (UE b11 (UB K0))
 replace W0 := UC ((UB W0).below b11)
 replace VX0 := UC (UE b11 (UB VX0))
 replace GG := UC ((UB GG).below b11)
 have z11 := b11.size
 clear b11
 obtain ⟨c_K00, c_K01, c_K02, c_K03, c_K04, c_K05, c_K06⟩ := UJ (UB K0)
 obtain ⟨c_VX00, c_VX01, c_VX02, c_VX03, c_VX04, c_VX05, c_VX06⟩ := UJ (UB VX0)
 go_wp2_with fail
 clear c_K00 c_K01 c_K02 c_K03 c_K04 c_K05 c_K06
 clear c_VX00 c_VX01 c_VX02 c_VX03 c_VX04 c_VX05 c_VX06
 refine (markByteS_fr 1 (UB GG) (by omega) (by omega) (by omega)).mono ?_
 rintro e w12 ⟨rfl, GM, u12⟩
 clear GG
 replace bb := u12.below bb (by omega)
 replace K0 := UC (u12.kept (UB K0) (by omega))
 replace W0 := UC ((UB W0).outside u12 (by omega))
 replace VX0 := UC (u12.kept (UB VX0) (by omega))
 have z12 := u12.size
 clear u12
 replace GM := UC GM
 obtain ⟨c_K00, c_K01, c_K02, c_K03, c_K04, c_K05, c_K06⟩ := UJ (UB K0)
 obtain ⟨c_VX00, c_VX01, c_VX02, c_VX03, c_VX04, c_VX05, c_VX06⟩ := UJ (UB VX0)
 go_wp2_with fail
 clear c_K00 c_K01 c_K02 c_K03 c_K04 c_K05 c_K06
 clear c_VX00 c_VX01 c_VX02 c_VX03 c_VX04 c_VX05 c_VX06
 refine (heldByteS_fr 1 (UB GM) (by omega) (by omega) (by omega)).mono ?_
 rintro e wh ⟨rfl, rfl⟩
 obtain ⟨c_K00, c_K01, c_K02, c_K03, c_K04, c_K05, c_K06⟩ := UJ (UB K0)
 obtain ⟨c_VX00, c_VX01, c_VX02, c_VX03, c_VX04, c_VX05, c_VX06⟩ := UJ (UB VX0)
 go_wp2_with fail
 clear c_K00 c_K01 c_K02 c_K03 c_K04 c_K05 c_K06
 clear c_VX00 c_VX01 c_VX02 c_VX03 c_VX04 c_VX05 c_VX06
 refine (toRr_any an0 cn0 at0 ct0 ax0 cx0 ai0 ci0 r0 _ ((UB L0).below bb) (UB HS0)).mono ?_
 rintro e w13 ⟨xn13, xt13, xx13, xi13, rfl, o13, b13⟩
 obtain ⟨na13, nc13, rfl, _⟩ := o13.hasR.name.form
 obtain ⟨ta13, tc13, rfl, _⟩ := o13.hasR.to.form
 obtain ⟨xa13, xc13, rfl, _⟩ := o13.hasR.text.form
 obtain ⟨ia13, ic13, rfl, _⟩ := o13.hasR.nums.form
 have A13 := UC (o13.hasR)
 clear o13
 replace bb := UG bb b13
 replace K0 := UC (UE b13 (UB K0))
 replace W0 := UC ((UB W0).below b13)
 replace VX0 := UC (UE b13 (UB VX0))
 replace GM := UC ((UB GM).below b13)
 have z13 := b13.size
 clear b13
 obtain ⟨c_K00, c_K01, c_K02, c_K03, c_K04, c_K05, c_K06⟩ := UJ (UB K0)
 obtain ⟨c_VX00, c_VX01, c_VX02, c_VX03, c_VX04, c_VX05, c_VX06⟩ := UJ (UB VX0)
 go_wp2_with fail
 clear c_K00 c_K01 c_K02 c_K03 c_K04 c_K05 c_K06
 clear c_VX00 c_VX01 c_VX02 c_VX03 c_VX04 c_VX05 c_VX06
 refine (UB IM _ _ _ _ _ (UB A13) ((UB HT).below bb)).mono ?_
 rintro e w14 ⟨y14, rfl, o14, b14⟩
 clear A13
 replace bb := UG bb b14
 replace K0 := UC (UE b14 (UB K0))
 replace W0 := UC ((UB W0).below b14)
 replace VX0 := UC (UE b14 (UB VX0))
 replace GM := UC ((UB GM).below b14)
 have z14 := b14.size
 clear b14
 have H0 := UC o14.here
 clear o14
 obtain ⟨c_K00, c_K01, c_K02, c_K03, c_K04, c_K05, c_K06⟩ := UJ (UB K0)
 obtain ⟨c_VX00, c_VX01, c_VX02, c_VX03, c_VX04, c_VX05, c_VX06⟩ := UJ (UB VX0)
 go_wp2_with fail
 clear c_K00 c_K01 c_K02 c_K03 c_K04 c_K05 c_K06
 clear c_VX00 c_VX01 c_VX02 c_VX03 c_VX04 c_VX05 c_VX06
 refine (eqByteS_has (UB H0).has (UB W0).has (by omega)).mono ?_
 rintro e w15 ⟨rfl, m15, hm15⟩
 have b15 : Below w14.heap.size w14 w15 := by rw [hm15]; exact below_draws m15
 clear hm15
 replace bb := UG bb b15
 replace K0 := UC (UE b15 (UB K0))
 replace W0 := UC ((UB W0).below b15)
 replace VX0 := UC (UE b15 (UB VX0))
 replace GM := UC ((UB GM).below b15)
 replace H0 := UC ((UB H0).below b15)
 have z15 := b15.size
 clear b15
 obtain ⟨c_K00, c_K01, c_K02, c_K03, c_K04, c_K05, c_K06⟩ := UJ (UB K0)
 obtain ⟨c_VX00, c_VX01, c_VX02, c_VX03, c_VX04, c_VX05, c_VX06⟩ := UJ (UB VX0)
 go_wp2_with fail
 clear c_K00 c_K01 c_K02 c_K03 c_K04 c_K05 c_K06
 clear c_VX00 c_VX01 c_VX02 c_VX03 c_VX04 c_VX05 c_VX06
 refine (heldByteS_fr 1 (UB GM) (by omega) (by omega) (by omega)).mono ?_
 rintro e wh ⟨rfl, rfl⟩
 go_wp2_with fail
 go_ret
 exact ⟨rfl, bb⟩
end Go.Proofs.YthmihglfffeedaaDoor

namespace Go.Proofs.YthmihglfffeedaaDoor
open Go.RowKit Go.ChangeShapes Go.WideShapes Go.ChangeAt

theorem ints_lies {H : Type} {enc : TypeId × Value → H} {P : Program} {w : World} {sp : Nat → Bool} {held : Bool} {t e : TypeId} {fuel : Nat} {v : Value} {x : DataW H × List MemPlace}
  (ht : P.underlying t = some (.slice e)) (he : P.underlying e = some (.int .u8)) (hc : P.cellsOf e = 1) (hsp : ∀ b, sp b = true) (h : DataW.trod enc P w 0 sp held fuel t [v] = some x) :
  ∃ (a : Option Addr) (cap : Nat) (l : List Int), v = .slice a l.length cap ∧ l.length ≤ maxLen ∧ Lies w a l ∧ ∀ k, 0 ≤ l.getD k 0 ∧ l.getD k 0 ≤ 255 := by
 have key : ∃ a len cap zs, v = .slice a len cap ∧ IsRow .u8 w a len cap zs := by
  rcases open_ints ht he hc h with ⟨hcs, _⟩ | ⟨x, l, c, zs, hcs, _, hl, hm, hz, _, hcell, hwz⟩
  ·simp at hcs
   exact ⟨none, 0, 0, [], hcs, .inl ⟨rfl, rfl, rfl, rfl⟩⟩
  ·simp at hcs
   exact ⟨some x, l, c, zs, hcs, .inr ⟨_, rfl, hl, hm, by simpa [hsp] using hz, hcell, hwz⟩⟩
 obtain ⟨a, len, cap, zs, rfl, hr⟩ := key
 obtain ⟨l, rfl, hm, hL, hb⟩ := isRow_lies hr
 exact ⟨a, cap, l, rfl, hm, hL, hb⟩

theorem open_texts {H : Type} {enc : TypeId × Value → H} {P : Program} {w : World} {sp : Nat → Bool} {held : Bool} {t e u : TypeId} {fuel : Nat} {v : Value} {x : DataW H × List MemPlace}
  (ht : P.underlying t = some (.slice e)) (he : P.underlying e = some (.slice u)) (hu : P.underlying u = some (.int .u8)) (hc : P.cellsOf e = 1) (hcu : P.cellsOf u = 1) (hsp : ∀ b, sp b = true)
  (h : DataW.trod enc P w 0 sp held fuel t [v] = some x) :
  ∃ (a : Option Addr) (cap : Nat) (n : List (List Int)), v = .slice a n.length cap ∧ n.length ≤ maxLen ∧ LiesL w a n ∧ ∀ i, i < n.length → (n.getD i []).length ≤ maxLen ∧ ∀ k, 0 ≤ (n.getD i []).getD k 0 ∧ (n.getD i []).getD k 0 ≤ 255 := by
 rcases DataW.trod_slice ht h with ⟨hv, _⟩ | ⟨a, len, cap, elems, rest, n, _, hcs, hx, _, hl, hm, hlen, hel, _⟩
 ·simp at hv
  exact ⟨none, 0, [], hv, Nat.zero_le _, .inl rfl, by simp⟩
 ·simp at hcs
  subst hcs
  have each : ∀ i, i < len → ∃ c : Value, w.cell? (a.add i) = some c ∧ ∃ y, DataW.trod enc P w 0 sp held n e [c] = some y := by
   intro i hi
   have hE := hel i hi
   rw [hc, Nat.mul_one] at hE
   have hi' : i < elems.length := by omega
   rw [List.getElem?_eq_getElem hi'] at hE
   simp only [Option.bind_eq_some_iff] at hE
   obtain ⟨c1, hc1, hy1⟩ := hE
   have e0 : (a.add i).add 0 = a.add i := by simp [Addr.add]
   have : ∃ c, c1 = [c] ∧ w.cell? (a.add i) = some c := by
    unfold World.cells? at hc1
    split at hc1
    ·simp only [List.range_succ, List.range_zero, List.nil_append, List.mapM_cons, List.mapM_nil, e0] at hc1
     cases hcc : w.cell? (a.add i) with
     | none => simp [hcc] at hc1
     | some c => simp [hcc] at hc1; exact ⟨c, hc1.symm, rfl⟩
    ·cases hc1
   obtain ⟨c, rfl, hcell⟩ := this
   exact ⟨c, hcell, _, hy1⟩
  have each2 : ∀ i, i < len → ∃ (l : List Int), l.length ≤ maxLen ∧ (∀ k, 0 ≤ l.getD k 0 ∧ l.getD k 0 ≤ 255) ∧ ∃ ia ic, w.cell? (a.add i) = some (.slice ia l.length ic) ∧ Lies w ia l := by
   intro i hi
   obtain ⟨c, hcell, y, hy⟩ := each i hi
   obtain ⟨ia, ic, l, rfl, h1, h2, h3⟩ := ints_lies he hu hcu hsp hy
   exact ⟨l, h1, h3, ia, ic, hcell, h2⟩
  have hch : ∃ L : Nat → List Int, ∀ i, i < len → (L i).length ≤ maxLen ∧ (∀ k, 0 ≤ (L i).getD k 0 ∧ (L i).getD k 0 ≤ 255) ∧ ∃ ia ic, w.cell? (a.add i) = some (.slice ia (L i).length ic) ∧ Lies w ia (L i) := by
   refine ⟨fun i => if hi : i < len then (each2 i hi).choose else [], fun i hi => ?_⟩
   simp only [hi, dite_true]
   exact (each2 i hi).choose_spec
  obtain ⟨L, hL⟩ := hch
  have hln : ((List.range len).map L).length = len := by simp
  have hget : ∀ i, i < len → ((List.range len).map L).getD i [] = L i := fun i hi => by simp [hi]
  refine ⟨some a, cap, (List.range len).map L, by rw [hln], by omega, ?_, ?_⟩
  ·by_cases h0 : len = 0
   ·subst h0; exact .inl (by simp)
   ·right
    obtain ⟨b, off, spot⟩ := a
    obtain ⟨c, hc0, _⟩ := each 0 (by omega)
    have hspot : spot = none := by simpa [Addr.add] using World.cell?_spot hc0
    subst hspot
    refine ⟨b, off, rfl, cell_lt hc0, fun i hi => ?_⟩
    rw [hln] at hi
    rw [hget i hi]
    obtain ⟨_, _, ia, ic, h1, h2⟩ := hL i hi
    rw [Addr.add_lit] at h1
    exact ⟨ia, ic, h1, h2⟩
  ·intro i hi
   rw [hln] at hi
   rw [hget i hi]
   exact ⟨(hL i hi).1, (hL i hi).2.1⟩

end Go.Proofs.YthmihglfffeedaaDoor
