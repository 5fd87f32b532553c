/-
  The walk of laws.FnExactDataPut.
-/
import Derived.Test.YtdbojhbdfcknfaaRecT
import Derived.Test.YtdbojhbdfcknfaaBytes
import Derived.Test.YtdbojhbdfcknfaaCarry
import Derived.Test.YtdbojhbdfcknfaaIDataPut
import Derived.Test.YtdbojhbdfcknfaaSDataPut
import Derived.Test.YtdbojhbdfcknfaaMarkRr
import Derived.Deep.RegionHeld3
import Derived.Deep.RegionWith
namespace Go.Proofs.Ytdbojhbdfcknfaa
open Go.RowKit
set_option linter.unusedVariables false

set_option maxHeartbeats 4000000 in
set_option maxRecDepth 100000 in
theorem lawDataPut (an0 : Option Addr) (cn0 : Nat) (at0 : Option Addr) (ct0 : Nat) (ax0 : Option Addr) (cx0 : Nat) (ai0 : Option Addr) (ci0 : Nat) (r0 : Rec) (w : World) (h0 : InR w an0 at0 ax0 ai0 r0) (hm0 : SizeR maxLen r0) :
    Calls Try.prog 18 #[.agg #[.slice an0 r0.name.length cn0, .int .i64 r0.type, .int .i64 r0.ttl, .int .i64 r0.addr, .slice at0 r0.to.length ct0, .slice ax0 r0.text.length cx0, .slice ai0 r0.nums.length ci0]] w fun e w' => e = .returned (.bool true) ∧ Below w.heap.size w w' := by
  have bb := below_alloc (w := w) (.cells #[.slice an0 r0.name.length cn0, .int .i64 r0.type, .int .i64 r0.ttl, .int .i64 r0.addr, .slice at0 r0.to.length ct0, .slice ax0 r0.text.length cx0, .slice ai0 r0.nums.length ci0] 69)
  have K0 := heap_alloc_new w (.cells #[.slice an0 r0.name.length cn0, .int .i64 r0.type, .int .i64 r0.ttl, .int .i64 r0.addr, .slice at0 r0.to.length ct0, .slice ax0 r0.text.length cx0, .slice ai0 r0.nums.length ci0] 69)
  replace K0 := hide K0
  have L0 := hide h0
  have HM0 := hide hm0
  clear h0 hm0
  go_enter Try.func18, Try.ntmps18
  go_wp2_with fail
  generalize w.alloc (.cells #[.slice an0 r0.name.length cn0, .int .i64 r0.type, .int .i64 r0.ttl, .int .i64 r0.addr, .slice at0 r0.to.length ct0, .slice ax0 r0.text.length cx0, .slice ai0 r0.nums.length ci0] 69) = W at *
  have zk0 := block_lt (unhide K0)
  refine (szRr_any an0 cn0 at0 ct0 ax0 cx0 ai0 ci0 r0 1048576 _ ((unhide L0).below bb) (unhide HM0) (by omega) (by omega)).mono ?_
  rintro e w1 ⟨⟨y0, rfl, hr00, hr10, hr20⟩, b1⟩
  replace bb := below_next bb b1
  replace K0 := hide (block_kept b1 (unhide K0))
  have z1 := b1.size
  clear b1
  by_cases hneg0 : y0 < 0
  · clear hr20
    go_wp2_with fail
    go_ret
    exact ⟨rfl, bb⟩
  have HS0 := hide ((hr20 (by omega)).mono (m' := 1048576) (by omega))
  have HSS0 := hide ((unhide HS0).mono (m' := 2097152) (by omega))
  clear hr20 HM0
  obtain ⟨P0, hPa0, hPb0, MK0⟩ := markRr_any (r := r0) (unhide HS0) 1 (by omega) (by omega)
  replace MK0 := hide MK0
  have hPn0 : ¬ P0 < 0 := by omega
  have hG0 := dataPut_length r0
  have SP := fun (w : World) (xn0 xt0 xx0 xi0 : Value) (h0 : HasR w xn0 xt0 xx0 xi0 r0) => specDataPut_has h0
  have IM := fun (w : World) (xn0 xt0 xx0 xi0 : Value) (h0 : HasR w xn0 xt0 xx0 xi0 r0) => implDataPut_has h0
  generalize (dataPut r0).1 = G0 at *
  generalize (dataPut r0).2 = G1 at *
  replace SP := hide SP
  replace IM := hide IM
  obtain ⟨c_K00, c_K01, c_K02, c_K03, c_K04, c_K05, c_K06⟩ := cells7 (unhide K0)
  go_wp2_with fail
  clear c_K00 c_K01 c_K02 c_K03 c_K04 c_K05 c_K06
  refine (toRr_any an0 cn0 at0 ct0 ax0 cx0 ai0 ci0 r0 _ ((unhide L0).below bb) (unhide HS0)).mono ?_
  rintro e w2 ⟨xn2, xt2, xx2, xi2, rfl, o2, b2⟩
  obtain ⟨na2, nc2, rfl, _⟩ := o2.hasR.name.form
  obtain ⟨ta2, tc2, rfl, _⟩ := o2.hasR.to.form
  obtain ⟨xa2, xc2, rfl, _⟩ := o2.hasR.text.form
  obtain ⟨ia2, ic2, rfl, _⟩ := o2.hasR.nums.form
  have A2 := hide (o2.hasR)
  clear o2
  replace bb := below_next bb b2
  replace K0 := hide (block_kept b2 (unhide K0))
  have z2 := b2.size
  clear b2
  obtain ⟨c_K00, c_K01, c_K02, c_K03, c_K04, c_K05, c_K06⟩ := cells7 (unhide K0)
  go_wp2_with fail
  clear c_K00 c_K01 c_K02 c_K03 c_K04 c_K05 c_K06
  refine (unhide SP _ _ _ _ _ (unhide A2)).mono ?_
  rintro e w3 ⟨y3, rfl, o3, b3⟩
  clear A2
  replace bb := below_next bb b3
  replace K0 := hide (block_kept b3 (unhide K0))
  have z3 := b3.size
  clear b3
  have W0 := hide o3.has.at
  clear o3
  obtain ⟨c_K00, c_K01, c_K02, c_K03, c_K04, c_K05, c_K06⟩ := cells7 (unhide K0)
  go_wp2_with fail
  clear c_K00 c_K01 c_K02 c_K03 c_K04 c_K05 c_K06
  refine (toRr_any an0 cn0 at0 ct0 ax0 cx0 ai0 ci0 r0 _ ((unhide L0).below bb) (unhide HS0)).mono ?_
  rintro e w4 ⟨xn4, xt4, xx4, xi4, rfl, o4, b4⟩
  obtain ⟨na4, nc4, rfl, _⟩ := o4.hasR.name.form
  obtain ⟨ta4, tc4, rfl, _⟩ := o4.hasR.to.form
  obtain ⟨xa4, xc4, rfl, _⟩ := o4.hasR.text.form
  obtain ⟨ia4, ic4, rfl, _⟩ := o4.hasR.nums.form
  have X0 := hide o4
  clear o4
  replace bb := below_next bb b4
  replace K0 := hide (block_kept b4 (unhide K0))
  replace W0 := hide ((unhide W0).below b4)
  have z4 := b4.size
  clear b4
  have b5 := below_alloc (w := w4) (.cells #[.slice na4 r0.name.length nc4, .int .i64 r0.type, .int .i64 r0.ttl, .int .i64 r0.addr, .slice ta4 r0.to.length tc4, .slice xa4 r0.text.length xc4, .slice ia4 r0.nums.length ic4] 50)
  have VX0 := hide (heap_alloc_new w4 (.cells #[.slice na4 r0.name.length nc4, .int .i64 r0.type, .int .i64 r0.ttl, .int .i64 r0.addr, .slice ta4 r0.to.length tc4, .slice xa4 r0.text.length xc4, .slice ia4 r0.nums.length ic4] 50))
  obtain ⟨c_K00, c_K01, c_K02, c_K03, c_K04, c_K05, c_K06⟩ := cells7 (block_kept b5 (unhide K0))
  go_wp2_with fail
  clear c_K00 c_K01 c_K02 c_K03 c_K04 c_K05 c_K06
  generalize w4.alloc (.cells #[.slice na4 r0.name.length nc4, .int .i64 r0.type, .int .i64 r0.ttl, .int .i64 r0.addr, .slice ta4 r0.to.length tc4, .slice xa4 r0.text.length xc4, .slice ia4 r0.nums.length ic4] 50) = w5 at *
  replace bb := below_next bb b5
  replace K0 := hide (block_kept b5 (unhide K0))
  replace W0 := hide ((unhide W0).below b5)
  replace X0 := hide ((unhide X0).below b5)
  have z5 := b5.size
  clear b5
  have zz5 := block_lt (unhide VX0)
  refine (unhide IM _ _ _ _ _ (unhide X0).hasR).mono ?_
  rintro e w6 ⟨y6, rfl, o6, b6⟩
  replace bb := below_next bb b6
  replace K0 := hide (block_kept b6 (unhide K0))
  replace W0 := hide ((unhide W0).below b6)
  replace X0 := hide ((unhide X0).below b6)
  replace VX0 := hide (block_kept b6 (unhide VX0))
  have z6 := b6.size
  clear b6
  have GG := hide o6.here
  clear o6
  obtain ⟨c_K00, c_K01, c_K02, c_K03, c_K04, c_K05, c_K06⟩ := cells7 (unhide K0)
  obtain ⟨c_VX00, c_VX01, c_VX02, c_VX03, c_VX04, c_VX05, c_VX06⟩ := cells7 (unhide VX0)
  go_wp2_with fail
  clear c_K00 c_K01 c_K02 c_K03 c_K04 c_K05 c_K06
  clear c_VX00 c_VX01 c_VX02 c_VX03 c_VX04 c_VX05 c_VX06
  refine (eqByteS_has (unhide GG).has (unhide W0).has (by omega)).mono ?_
  rintro e w7 ⟨rfl, m7, hm7⟩
  have b7 : Below w6.heap.size w6 w7 := by rw [hm7]; exact below_draws m7
  clear hm7
  replace bb := below_next bb b7
  replace K0 := hide (block_kept b7 (unhide K0))
  replace W0 := hide ((unhide W0).below b7)
  replace X0 := hide ((unhide X0).below b7)
  replace VX0 := hide (block_kept b7 (unhide VX0))
  replace GG := hide ((unhide GG).below b7)
  have z7 := b7.size
  clear b7
  have bd := below_drew (w := w7)
  have zdw7 : w7.drew.heap.size = w7.heap.size := rfl
  replace bb := below_next bb bd
  replace K0 := hide (block_kept bd (unhide K0))
  replace W0 := hide ((unhide W0).below bd)
  replace X0 := hide ((unhide X0).below bd)
  replace VX0 := hide (block_kept bd (unhide VX0))
  replace GG := hide ((unhide GG).below bd)
  clear bd
  obtain ⟨c_K00, c_K01, c_K02, c_K03, c_K04, c_K05, c_K06⟩ := cells7 (unhide K0)
  obtain ⟨c_VX00, c_VX01, c_VX02, c_VX03, c_VX04, c_VX05, c_VX06⟩ := cells7 (unhide VX0)
  go_wp2_with fail
  clear c_K00 c_K01 c_K02 c_K03 c_K04 c_K05 c_K06
  clear c_VX00 c_VX01 c_VX02 c_VX03 c_VX04 c_VX05 c_VX06
  go_region_held3 (fun w' => (w'.cell? ⟨w.heap.size, 0, none⟩ = some (.slice an0 r0.name.length cn0) ∧ w'.cell? ⟨w.heap.size, 1, none⟩ = some (.int .i64 r0.type) ∧ w'.cell? ⟨w.heap.size, 2, none⟩ = some (.int .i64 r0.ttl) ∧ w'.cell? ⟨w.heap.size, 3, none⟩ = some (.int .i64 r0.addr) ∧ w'.cell? ⟨w.heap.size, 4, none⟩ = some (.slice at0 r0.to.length ct0) ∧ w'.cell? ⟨w.heap.size, 5, none⟩ = some (.slice ax0 r0.text.length cx0) ∧ w'.cell? ⟨w.heap.size, 6, none⟩ = some (.slice ai0 r0.nums.length ci0)) ∧ (w'.cell? ⟨w4.heap.size, 0, none⟩ = some (.slice na4 r0.name.length nc4) ∧ w'.cell? ⟨w4.heap.size, 1, none⟩ = some (.int .i64 r0.type) ∧ w'.cell? ⟨w4.heap.size, 2, none⟩ = some (.int .i64 r0.ttl) ∧ w'.cell? ⟨w4.heap.size, 3, none⟩ = some (.int .i64 r0.addr) ∧ w'.cell? ⟨w4.heap.size, 4, none⟩ = some (.slice ta4 r0.to.length tc4) ∧ w'.cell? ⟨w4.heap.size, 5, none⟩ = some (.slice xa4 r0.text.length xc4) ∧ w'.cell? ⟨w4.heap.size, 6, none⟩ = some (.slice ia4 r0.nums.length ic4)))
    (first | exact ⟨cells7 (unhide K0), cells7 (unhide VX0)⟩ | exact ⟨cells7 (block_kept b8 (unhide K0)), cells7 (block_kept b8 (unhide VX0))⟩ | exact ⟨cells7 (block_kept q9 (unhide K0)), cells7 (block_kept q9 (unhide VX0))⟩)
    (first
    | (go_at_call 65; refine (toRr_any an0 cn0 at0 ct0 ax0 cx0 ai0 ci0 r0 _ ((unhide L0).below bb) (unhide HS0)).mono ?_; rintro e w8 ⟨xn8, xt8, xx8, xi8, rfl, o8, b8⟩; obtain ⟨na8, nc8, rfl, _⟩ := o8.hasR.name.form; obtain ⟨ta8, tc8, rfl, _⟩ := o8.hasR.to.form; obtain ⟨xa8, xc8, rfl, _⟩ := o8.hasR.text.form; obtain ⟨ia8, ic8, rfl, _⟩ := o8.hasR.nums.form)
    | (go_at_call 67; refine (eqRr_has ((unhide X0).below b8).hasR o8.hasR (unhide HSS0)).mono ?_; rintro e w9 ⟨rfl, b9⟩; have q9 := below_next b8 b9))
  clear b8 b9 o8
  replace bb := below_next bb q9
  replace K0 := hide (block_kept q9 (unhide K0))
  replace W0 := hide ((unhide W0).below q9)
  replace X0 := hide ((unhide X0).below q9)
  replace VX0 := hide (block_kept q9 (unhide VX0))
  replace GG := hide ((unhide GG).below q9)
  have z9 := q9.size
  clear q9
  obtain ⟨c_K00, c_K01, c_K02, c_K03, c_K04, c_K05, c_K06⟩ := cells7 (unhide K0)
  obtain ⟨c_VX00, c_VX01, c_VX02, c_VX03, c_VX04, c_VX05, c_VX06⟩ := cells7 (unhide VX0)
  go_wp2_with fail
  clear c_K00 c_K01 c_K02 c_K03 c_K04 c_K05 c_K06
  clear c_VX00 c_VX01 c_VX02 c_VX03 c_VX04 c_VX05 c_VX06
  refine (unhide MK0 _ _ _ _ _ _ _ (by omega) (unhide X0)).mono ?_
  rintro e w10 ⟨rfl, u10⟩
  clear X0
  replace bb := u10.below bb (by omega)
  replace K0 := hide (u10.kept (unhide K0) (by omega))
  replace W0 := hide ((unhide W0).outside u10 (by omega))
  replace VX0 := hide (u10.kept (unhide VX0) (by omega))
  replace GG := hide ((unhide GG).outside u10 (by omega))
  have z10 := u10.size
  clear u10
  obtain ⟨c_K00, c_K01, c_K02, c_K03, c_K04, c_K05, c_K06⟩ := cells7 (unhide K0)
  obtain ⟨c_VX00, c_VX01, c_VX02, c_VX03, c_VX04, c_VX05, c_VX06⟩ := cells7 (unhide VX0)
  go_wp2_with fail
  clear c_K00 c_K01 c_K02 c_K03 c_K04 c_K05 c_K06
  clear c_VX00 c_VX01 c_VX02 c_VX03 c_VX04 c_VX05 c_VX06
  refine (eqByteS_has (unhide GG).has (unhide W0).has (by omega)).mono ?_
  rintro e w11 ⟨rfl, m11, hm11⟩
  have b11 : Below w10.heap.size w10 w11 := by rw [hm11]; exact below_draws m11
  clear hm11
  replace bb := below_next bb b11
  replace K0 := hide (block_kept b11 (unhide K0))
  replace W0 := hide ((unhide W0).below b11)
  replace VX0 := hide (block_kept b11 (unhide VX0))
  replace GG := hide ((unhide GG).below b11)
  have z11 := b11.size
  clear b11
  obtain ⟨c_K00, c_K01, c_K02, c_K03, c_K04, c_K05, c_K06⟩ := cells7 (unhide K0)
  obtain ⟨c_VX00, c_VX01, c_VX02, c_VX03, c_VX04, c_VX05, c_VX06⟩ := cells7 (unhide VX0)
  go_wp2_with fail
  clear c_K00 c_K01 c_K02 c_K03 c_K04 c_K05 c_K06
  clear c_VX00 c_VX01 c_VX02 c_VX03 c_VX04 c_VX05 c_VX06
  refine (markByteS_any 1 (unhide GG).1 (by omega) (by omega) (by omega)).mono ?_
  rintro e w12 ⟨rfl, o12, g12⟩
  obtain ⟨GM, u12⟩ := (unhide GG).marks o12 g12
  clear o12 g12 GG
  replace bb := u12.below bb (by omega)
  replace K0 := hide (u12.kept (unhide K0) (by omega))
  replace W0 := hide ((unhide W0).outside u12 (by omega))
  replace VX0 := hide (u12.kept (unhide VX0) (by omega))
  have z12 := u12.size
  clear u12
  replace GM := hide GM
  obtain ⟨c_K00, c_K01, c_K02, c_K03, c_K04, c_K05, c_K06⟩ := cells7 (unhide K0)
  obtain ⟨c_VX00, c_VX01, c_VX02, c_VX03, c_VX04, c_VX05, c_VX06⟩ := cells7 (unhide VX0)
  go_wp2_with fail
  clear c_K00 c_K01 c_K02 c_K03 c_K04 c_K05 c_K06
  clear c_VX00 c_VX01 c_VX02 c_VX03 c_VX04 c_VX05 c_VX06
  refine (heldByteS_any 1 (unhide GM).1 (by omega) (by omega) (by omega)).mono ?_
  rintro e wh ⟨rfl, rfl⟩
  obtain ⟨c_K00, c_K01, c_K02, c_K03, c_K04, c_K05, c_K06⟩ := cells7 (unhide K0)
  obtain ⟨c_VX00, c_VX01, c_VX02, c_VX03, c_VX04, c_VX05, c_VX06⟩ := cells7 (unhide VX0)
  go_wp2_with fail
  clear c_K00 c_K01 c_K02 c_K03 c_K04 c_K05 c_K06
  clear c_VX00 c_VX01 c_VX02 c_VX03 c_VX04 c_VX05 c_VX06
  refine (toRr_any an0 cn0 at0 ct0 ax0 cx0 ai0 ci0 r0 _ ((unhide L0).below bb) (unhide HS0)).mono ?_
  rintro e w13 ⟨xn13, xt13, xx13, xi13, rfl, o13, b13⟩
  obtain ⟨na13, nc13, rfl, _⟩ := o13.hasR.name.form
  obtain ⟨ta13, tc13, rfl, _⟩ := o13.hasR.to.form
  obtain ⟨xa13, xc13, rfl, _⟩ := o13.hasR.text.form
  obtain ⟨ia13, ic13, rfl, _⟩ := o13.hasR.nums.form
  have A13 := hide (o13.hasR)
  clear o13
  replace bb := below_next bb b13
  replace K0 := hide (block_kept b13 (unhide K0))
  replace W0 := hide ((unhide W0).below b13)
  replace VX0 := hide (block_kept b13 (unhide VX0))
  replace GM := hide ((unhide GM).below b13)
  have z13 := b13.size
  clear b13
  obtain ⟨c_K00, c_K01, c_K02, c_K03, c_K04, c_K05, c_K06⟩ := cells7 (unhide K0)
  obtain ⟨c_VX00, c_VX01, c_VX02, c_VX03, c_VX04, c_VX05, c_VX06⟩ := cells7 (unhide VX0)
  go_wp2_with fail
  clear c_K00 c_K01 c_K02 c_K03 c_K04 c_K05 c_K06
  clear c_VX00 c_VX01 c_VX02 c_VX03 c_VX04 c_VX05 c_VX06
  refine (unhide IM _ _ _ _ _ (unhide A13)).mono ?_
  rintro e w14 ⟨y14, rfl, o14, b14⟩
  clear A13
  replace bb := below_next bb b14
  replace K0 := hide (block_kept b14 (unhide K0))
  replace W0 := hide ((unhide W0).below b14)
  replace VX0 := hide (block_kept b14 (unhide VX0))
  replace GM := hide ((unhide GM).below b14)
  have z14 := b14.size
  clear b14
  have H0 := hide o14.here
  clear o14
  obtain ⟨c_K00, c_K01, c_K02, c_K03, c_K04, c_K05, c_K06⟩ := cells7 (unhide K0)
  obtain ⟨c_VX00, c_VX01, c_VX02, c_VX03, c_VX04, c_VX05, c_VX06⟩ := cells7 (unhide VX0)
  go_wp2_with fail
  clear c_K00 c_K01 c_K02 c_K03 c_K04 c_K05 c_K06
  clear c_VX00 c_VX01 c_VX02 c_VX03 c_VX04 c_VX05 c_VX06
  refine (eqByteS_has (unhide H0).has (unhide W0).has (by omega)).mono ?_
  rintro e w15 ⟨rfl, m15, hm15⟩
  have b15 : Below w14.heap.size w14 w15 := by rw [hm15]; exact below_draws m15
  clear hm15
  replace bb := below_next bb b15
  replace K0 := hide (block_kept b15 (unhide K0))
  replace W0 := hide ((unhide W0).below b15)
  replace VX0 := hide (block_kept b15 (unhide VX0))
  replace GM := hide ((unhide GM).below b15)
  replace H0 := hide ((unhide H0).below b15)
  have z15 := b15.size
  clear b15
  obtain ⟨c_K00, c_K01, c_K02, c_K03, c_K04, c_K05, c_K06⟩ := cells7 (unhide K0)
  obtain ⟨c_VX00, c_VX01, c_VX02, c_VX03, c_VX04, c_VX05, c_VX06⟩ := cells7 (unhide VX0)
  go_wp2_with fail
  clear c_K00 c_K01 c_K02 c_K03 c_K04 c_K05 c_K06
  clear c_VX00 c_VX01 c_VX02 c_VX03 c_VX04 c_VX05 c_VX06
  refine (heldByteS_any 1 (unhide GM).1 (by omega) (by omega) (by omega)).mono ?_
  rintro e wh ⟨rfl, rfl⟩
  go_wp2_with fail
  go_ret
  exact ⟨rfl, bb⟩
end Go.Proofs.Ytdbojhbdfcknfaa
