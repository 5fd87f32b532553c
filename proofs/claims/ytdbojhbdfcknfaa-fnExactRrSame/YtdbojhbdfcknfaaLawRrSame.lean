/-
  The walk of laws.FnExactRrSame.
-/
import Derived.Test.YtdbojhbdfcknfaaRecT
import Derived.Test.YtdbojhbdfcknfaaCarry
import Derived.Test.YtdbojhbdfcknfaaIRrCmp
import Derived.Test.YtdbojhbdfcknfaaSRrCmp
import Derived.Deep.RegionHeld3
import Derived.Deep.RegionWith
namespace Go.Proofs.Ytdbojhbdfcknfaa
open Go.RowKit
set_option linter.unusedVariables false

set_option maxHeartbeats 4000000 in
set_option maxRecDepth 100000 in
theorem lawRrSame (an0 : Option Addr) (cn0 : Nat) (at0 : Option Addr) (ct0 : Nat) (ax0 : Option Addr) (cx0 : Nat) (ai0 : Option Addr) (ci0 : Nat) (r0 : Rec) (an1 : Option Addr) (cn1 : Nat) (at1 : Option Addr) (ct1 : Nat) (ax1 : Option Addr) (cx1 : Nat) (ai1 : Option Addr) (ci1 : Nat) (r1 : Rec) (w : World) (h0 : InR w an0 at0 ax0 ai0 r0) (hm0 : SizeR maxLen r0) (h1 : InR w an1 at1 ax1 ai1 r1) (hm1 : SizeR maxLen r1) :
    Calls Try.prog 16 #[.agg #[.slice an0 r0.name.length cn0, .int .i64 r0.type, .int .i64 r0.ttl, .int .i64 r0.addr, .slice at0 r0.to.length ct0, .slice ax0 r0.text.length cx0, .slice ai0 r0.nums.length ci0], .agg #[.slice an1 r1.name.length cn1, .int .i64 r1.type, .int .i64 r1.ttl, .int .i64 r1.addr, .slice at1 r1.to.length ct1, .slice ax1 r1.text.length cx1, .slice ai1 r1.nums.length ci1]] w fun e w' => e = .returned (.bool true) ∧ Below w.heap.size w w' := by
  have bb := below_alloc (w := w) (.cells #[.slice an0 r0.name.length cn0, .int .i64 r0.type, .int .i64 r0.ttl, .int .i64 r0.addr, .slice at0 r0.to.length ct0, .slice ax0 r0.text.length cx0, .slice ai0 r0.nums.length ci0] 69)
  have K0 := heap_alloc_new w (.cells #[.slice an0 r0.name.length cn0, .int .i64 r0.type, .int .i64 r0.ttl, .int .i64 r0.addr, .slice at0 r0.to.length ct0, .slice ax0 r0.text.length cx0, .slice ai0 r0.nums.length ci0] 69)
  have e1 : (w.alloc (.cells #[.slice an0 r0.name.length cn0, .int .i64 r0.type, .int .i64 r0.ttl, .int .i64 r0.addr, .slice at0 r0.to.length ct0, .slice ax0 r0.text.length cx0, .slice ai0 r0.nums.length ci0] 69)).heap.size = w.heap.size + 1 := by show (w.heap.push _).size = _; simp
  have b2 := below_alloc (w := w.alloc (.cells #[.slice an0 r0.name.length cn0, .int .i64 r0.type, .int .i64 r0.ttl, .int .i64 r0.addr, .slice at0 r0.to.length ct0, .slice ax0 r0.text.length cx0, .slice ai0 r0.nums.length ci0] 69)) (.cells #[.slice an1 r1.name.length cn1, .int .i64 r1.type, .int .i64 r1.ttl, .int .i64 r1.addr, .slice at1 r1.to.length ct1, .slice ax1 r1.text.length cx1, .slice ai1 r1.nums.length ci1] 69)
  have K1 := heap_alloc_new (w.alloc (.cells #[.slice an0 r0.name.length cn0, .int .i64 r0.type, .int .i64 r0.ttl, .int .i64 r0.addr, .slice at0 r0.to.length ct0, .slice ax0 r0.text.length cx0, .slice ai0 r0.nums.length ci0] 69)) (.cells #[.slice an1 r1.name.length cn1, .int .i64 r1.type, .int .i64 r1.ttl, .int .i64 r1.addr, .slice at1 r1.to.length ct1, .slice ax1 r1.text.length cx1, .slice ai1 r1.nums.length ci1] 69)
  replace K0 := block_kept b2 K0
  rw [e1] at K1
  replace bb := below_next bb b2
  clear b2 e1
  replace K0 := hide K0
  replace K1 := hide K1
  have L0 := hide h0
  have HM0 := hide hm0
  clear h0 hm0
  have L1 := hide h1
  have HM1 := hide hm1
  clear h1 hm1
  go_enter Try.func16, Try.ntmps16
  go_wp2_with fail
  generalize (w.alloc (.cells #[.slice an0 r0.name.length cn0, .int .i64 r0.type, .int .i64 r0.ttl, .int .i64 r0.addr, .slice at0 r0.to.length ct0, .slice ax0 r0.text.length cx0, .slice ai0 r0.nums.length ci0] 69)).alloc (.cells #[.slice an1 r1.name.length cn1, .int .i64 r1.type, .int .i64 r1.ttl, .int .i64 r1.addr, .slice at1 r1.to.length ct1, .slice ax1 r1.text.length cx1, .slice ai1 r1.nums.length ci1] 69) = W at *
  have zk0 := block_lt (unhide K0)
  have zk1 := block_lt (unhide K1)
  refine (szRr_any an0 cn0 at0 ct0 ax0 cx0 ai0 ci0 r0 1048576 _ ((unhide L0).below bb) (unhide HM0) (by omega) (by omega)).mono ?_
  rintro e w1 ⟨⟨y0, rfl, hr00, hr10, hr20⟩, b1⟩
  replace bb := below_next bb b1
  replace K0 := hide (block_kept b1 (unhide K0))
  replace K1 := hide (block_kept b1 (unhide K1))
  have z1 := b1.size
  clear b1
  by_cases hneg0 : y0 < 0
  · clear hr20
    go_wp2_with fail
    go_ret
    exact ⟨rfl, bb⟩
  have HS0 := hide ((hr20 (by omega)).mono (m' := 1048576) (by omega))
  have HSS0 := hide ((unhide HS0).mono (m' := 2097152) (by omega))
  clear hr20 HM0
  obtain ⟨c_K00, c_K01, c_K02, c_K03, c_K04, c_K05, c_K06⟩ := cells7 (unhide K0)
  obtain ⟨c_K10, c_K11, c_K12, c_K13, c_K14, c_K15, c_K16⟩ := cells7 (unhide K1)
  go_wp2_with fail
  clear c_K00 c_K01 c_K02 c_K03 c_K04 c_K05 c_K06
  clear c_K10 c_K11 c_K12 c_K13 c_K14 c_K15 c_K16
  refine (szRr_any an1 cn1 at1 ct1 ax1 cx1 ai1 ci1 r1 y0 _ ((unhide L1).below bb) (unhide HM1) (by omega) (by omega)).mono ?_
  rintro e w2 ⟨⟨y1, rfl, hr01, hr11, hr21⟩, b2⟩
  replace bb := below_next bb b2
  replace K0 := hide (block_kept b2 (unhide K0))
  replace K1 := hide (block_kept b2 (unhide K1))
  have z2 := b2.size
  clear b2
  by_cases hneg1 : y1 < 0
  · clear hr21
    go_wp2_with fail
    go_ret
    exact ⟨rfl, bb⟩
  have HS1 := hide ((hr21 (by omega)).mono (m' := 1048576) (by omega))
  have HSS1 := hide ((unhide HS1).mono (m' := 2097152) (by omega))
  clear hr21 HM1
  have SP := fun (w : World) (xn0 xt0 xx0 xi0 : Value) (h0 : HasR w xn0 xt0 xx0 xi0 r0) (xn1 xt1 xx1 xi1 : Value) (h1 : HasR w xn1 xt1 xx1 xi1 r1) => specRrSame_has h0 h1
  have IM := fun (w : World) (xn0 xt0 xx0 xi0 : Value) (h0 : HasR w xn0 xt0 xx0 xi0 r0) (xn1 xt1 xx1 xi1 : Value) (h1 : HasR w xn1 xt1 xx1 xi1 r1) => implRrSame_has h0 h1
  generalize rrSame r0 r1 = G0 at *
  replace SP := hide SP
  replace IM := hide IM
  have bd := below_drew (w := w2)
  have zdw2 : w2.drew.heap.size = w2.heap.size := rfl
  replace bb := below_next bb bd
  replace K0 := hide (block_kept bd (unhide K0))
  replace K1 := hide (block_kept bd (unhide K1))
  clear bd
  obtain ⟨c_K00, c_K01, c_K02, c_K03, c_K04, c_K05, c_K06⟩ := cells7 (unhide K0)
  obtain ⟨c_K10, c_K11, c_K12, c_K13, c_K14, c_K15, c_K16⟩ := cells7 (unhide K1)
  go_wp2_with fail
  clear c_K00 c_K01 c_K02 c_K03 c_K04 c_K05 c_K06
  clear c_K10 c_K11 c_K12 c_K13 c_K14 c_K15 c_K16
  go_region_held3 (fun w' => (w'.cell? ⟨w.heap.size, 0, none⟩ = some (.slice an0 r0.name.length cn0) ∧ w'.cell? ⟨w.heap.size, 1, none⟩ = some (.int .i64 r0.type) ∧ w'.cell? ⟨w.heap.size, 2, none⟩ = some (.int .i64 r0.ttl) ∧ w'.cell? ⟨w.heap.size, 3, none⟩ = some (.int .i64 r0.addr) ∧ w'.cell? ⟨w.heap.size, 4, none⟩ = some (.slice at0 r0.to.length ct0) ∧ w'.cell? ⟨w.heap.size, 5, none⟩ = some (.slice ax0 r0.text.length cx0) ∧ w'.cell? ⟨w.heap.size, 6, none⟩ = some (.slice ai0 r0.nums.length ci0)) ∧ (w'.cell? ⟨w.heap.size + 1, 0, none⟩ = some (.slice an1 r1.name.length cn1) ∧ w'.cell? ⟨w.heap.size + 1, 1, none⟩ = some (.int .i64 r1.type) ∧ w'.cell? ⟨w.heap.size + 1, 2, none⟩ = some (.int .i64 r1.ttl) ∧ w'.cell? ⟨w.heap.size + 1, 3, none⟩ = some (.int .i64 r1.addr) ∧ w'.cell? ⟨w.heap.size + 1, 4, none⟩ = some (.slice at1 r1.to.length ct1) ∧ w'.cell? ⟨w.heap.size + 1, 5, none⟩ = some (.slice ax1 r1.text.length cx1) ∧ w'.cell? ⟨w.heap.size + 1, 6, none⟩ = some (.slice ai1 r1.nums.length ci1)))
    (first | exact ⟨cells7 (unhide K0), cells7 (unhide K1)⟩ | exact ⟨cells7 (block_kept q3 (unhide K0)), cells7 (block_kept q3 (unhide K1))⟩ | exact ⟨cells7 (block_kept q4 (unhide K0)), cells7 (block_kept q4 (unhide K1))⟩ | exact ⟨cells7 (block_kept q5 (unhide K0)), cells7 (block_kept q5 (unhide K1))⟩)
    (first
    | (go_at_call_of 65 (Value.slice an0 r0.name.length cn0); refine (toRr_any an0 cn0 at0 ct0 ax0 cx0 ai0 ci0 r0 _ ((unhide L0).below bb) (unhide HS0)).mono ?_; rintro e w3 ⟨xn3, xt3, xx3, xi3, rfl, o3, b3⟩; obtain ⟨na3, nc3, rfl, _⟩ := o3.hasR.name.form; obtain ⟨ta3, tc3, rfl, _⟩ := o3.hasR.to.form; obtain ⟨xa3, xc3, rfl, _⟩ := o3.hasR.text.form; obtain ⟨ia3, ic3, rfl, _⟩ := o3.hasR.nums.form; have q3 := b3)
    | (go_at_call_of 65 (Value.slice an1 r1.name.length cn1); refine (toRr_any an1 cn1 at1 ct1 ax1 cx1 ai1 ci1 r1 _ ((unhide L1).below (below_next bb q3)) (unhide HS1)).mono ?_; rintro e w4 ⟨xn4, xt4, xx4, xi4, rfl, o4, b4⟩; obtain ⟨na4, nc4, rfl, _⟩ := o4.hasR.name.form; obtain ⟨ta4, tc4, rfl, _⟩ := o4.hasR.to.form; obtain ⟨xa4, xc4, rfl, _⟩ := o4.hasR.text.form; obtain ⟨ia4, ic4, rfl, _⟩ := o4.hasR.nums.form; have q4 := below_next q3 b4)
    | (go_at_call 68; refine (unhide SP _ _ _ _ _ (o3.below b4).hasR _ _ _ _ o4.hasR).mono ?_; rintro e w5 ⟨rfl, b5⟩; have q5 := below_next q4 b5))
  clear b3 o3 q3 b4 o4 q4 b5
  replace bb := below_next bb q5
  replace K0 := hide (block_kept q5 (unhide K0))
  replace K1 := hide (block_kept q5 (unhide K1))
  have z5 := q5.size
  clear q5
  obtain ⟨c_K00, c_K01, c_K02, c_K03, c_K04, c_K05, c_K06⟩ := cells7 (unhide K0)
  obtain ⟨c_K10, c_K11, c_K12, c_K13, c_K14, c_K15, c_K16⟩ := cells7 (unhide K1)
  go_wp2_with fail
  clear c_K00 c_K01 c_K02 c_K03 c_K04 c_K05 c_K06
  clear c_K10 c_K11 c_K12 c_K13 c_K14 c_K15 c_K16
  refine (toRr_any an0 cn0 at0 ct0 ax0 cx0 ai0 ci0 r0 _ ((unhide L0).below bb) (unhide HS0)).mono ?_
  rintro e w6 ⟨xn6, xt6, xx6, xi6, rfl, o6, b6⟩
  obtain ⟨na6, nc6, rfl, _⟩ := o6.hasR.name.form
  obtain ⟨ta6, tc6, rfl, _⟩ := o6.hasR.to.form
  obtain ⟨xa6, xc6, rfl, _⟩ := o6.hasR.text.form
  obtain ⟨ia6, ic6, rfl, _⟩ := o6.hasR.nums.form
  have X0 := hide o6
  clear o6
  replace bb := below_next bb b6
  replace K0 := hide (block_kept b6 (unhide K0))
  replace K1 := hide (block_kept b6 (unhide K1))
  have z6 := b6.size
  clear b6
  have b7 := below_alloc (w := w6) (.cells #[.slice na6 r0.name.length nc6, .int .i64 r0.type, .int .i64 r0.ttl, .int .i64 r0.addr, .slice ta6 r0.to.length tc6, .slice xa6 r0.text.length xc6, .slice ia6 r0.nums.length ic6] 50)
  have VX0 := hide (heap_alloc_new w6 (.cells #[.slice na6 r0.name.length nc6, .int .i64 r0.type, .int .i64 r0.ttl, .int .i64 r0.addr, .slice ta6 r0.to.length tc6, .slice xa6 r0.text.length xc6, .slice ia6 r0.nums.length ic6] 50))
  obtain ⟨c_K00, c_K01, c_K02, c_K03, c_K04, c_K05, c_K06⟩ := cells7 (block_kept b7 (unhide K0))
  obtain ⟨c_K10, c_K11, c_K12, c_K13, c_K14, c_K15, c_K16⟩ := cells7 (block_kept b7 (unhide K1))
  go_wp2_with fail
  clear c_K00 c_K01 c_K02 c_K03 c_K04 c_K05 c_K06
  clear c_K10 c_K11 c_K12 c_K13 c_K14 c_K15 c_K16
  generalize w6.alloc (.cells #[.slice na6 r0.name.length nc6, .int .i64 r0.type, .int .i64 r0.ttl, .int .i64 r0.addr, .slice ta6 r0.to.length tc6, .slice xa6 r0.text.length xc6, .slice ia6 r0.nums.length ic6] 50) = w7 at *
  replace bb := below_next bb b7
  replace K0 := hide (block_kept b7 (unhide K0))
  replace K1 := hide (block_kept b7 (unhide K1))
  replace X0 := hide ((unhide X0).below b7)
  have z7 := b7.size
  clear b7
  have zz7 := block_lt (unhide VX0)
  obtain ⟨c_K00, c_K01, c_K02, c_K03, c_K04, c_K05, c_K06⟩ := cells7 (unhide K0)
  obtain ⟨c_K10, c_K11, c_K12, c_K13, c_K14, c_K15, c_K16⟩ := cells7 (unhide K1)
  obtain ⟨c_VX00, c_VX01, c_VX02, c_VX03, c_VX04, c_VX05, c_VX06⟩ := cells7 (unhide VX0)
  go_wp2_with fail
  clear c_K00 c_K01 c_K02 c_K03 c_K04 c_K05 c_K06
  clear c_K10 c_K11 c_K12 c_K13 c_K14 c_K15 c_K16
  clear c_VX00 c_VX01 c_VX02 c_VX03 c_VX04 c_VX05 c_VX06
  refine (toRr_any an1 cn1 at1 ct1 ax1 cx1 ai1 ci1 r1 _ ((unhide L1).below bb) (unhide HS1)).mono ?_
  rintro e w8 ⟨xn8, xt8, xx8, xi8, rfl, o8, b8⟩
  obtain ⟨na8, nc8, rfl, _⟩ := o8.hasR.name.form
  obtain ⟨ta8, tc8, rfl, _⟩ := o8.hasR.to.form
  obtain ⟨xa8, xc8, rfl, _⟩ := o8.hasR.text.form
  obtain ⟨ia8, ic8, rfl, _⟩ := o8.hasR.nums.form
  have X1 := hide o8
  clear o8
  replace bb := below_next bb b8
  replace K0 := hide (block_kept b8 (unhide K0))
  replace K1 := hide (block_kept b8 (unhide K1))
  replace X0 := hide ((unhide X0).below b8)
  replace VX0 := hide (block_kept b8 (unhide VX0))
  have z8 := b8.size
  clear b8
  have b9 := below_alloc (w := w8) (.cells #[.slice na8 r1.name.length nc8, .int .i64 r1.type, .int .i64 r1.ttl, .int .i64 r1.addr, .slice ta8 r1.to.length tc8, .slice xa8 r1.text.length xc8, .slice ia8 r1.nums.length ic8] 50)
  have VX1 := hide (heap_alloc_new w8 (.cells #[.slice na8 r1.name.length nc8, .int .i64 r1.type, .int .i64 r1.ttl, .int .i64 r1.addr, .slice ta8 r1.to.length tc8, .slice xa8 r1.text.length xc8, .slice ia8 r1.nums.length ic8] 50))
  obtain ⟨c_K00, c_K01, c_K02, c_K03, c_K04, c_K05, c_K06⟩ := cells7 (block_kept b9 (unhide K0))
  obtain ⟨c_K10, c_K11, c_K12, c_K13, c_K14, c_K15, c_K16⟩ := cells7 (block_kept b9 (unhide K1))
  obtain ⟨c_VX00, c_VX01, c_VX02, c_VX03, c_VX04, c_VX05, c_VX06⟩ := cells7 (block_kept b9 (unhide VX0))
  go_wp2_with fail
  clear c_K00 c_K01 c_K02 c_K03 c_K04 c_K05 c_K06
  clear c_K10 c_K11 c_K12 c_K13 c_K14 c_K15 c_K16
  clear c_VX00 c_VX01 c_VX02 c_VX03 c_VX04 c_VX05 c_VX06
  generalize w8.alloc (.cells #[.slice na8 r1.name.length nc8, .int .i64 r1.type, .int .i64 r1.ttl, .int .i64 r1.addr, .slice ta8 r1.to.length tc8, .slice xa8 r1.text.length xc8, .slice ia8 r1.nums.length ic8] 50) = w9 at *
  replace bb := below_next bb b9
  replace K0 := hide (block_kept b9 (unhide K0))
  replace K1 := hide (block_kept b9 (unhide K1))
  replace X0 := hide ((unhide X0).below b9)
  replace VX0 := hide (block_kept b9 (unhide VX0))
  replace X1 := hide ((unhide X1).below b9)
  have z9 := b9.size
  clear b9
  have zz9 := block_lt (unhide VX1)
  refine (unhide IM _ _ _ _ _ (unhide X0).hasR _ _ _ _ (unhide X1).hasR).mono ?_
  rintro e w10 ⟨rfl, b10⟩
  replace bb := below_next bb b10
  replace K0 := hide (block_kept b10 (unhide K0))
  replace K1 := hide (block_kept b10 (unhide K1))
  replace X0 := hide ((unhide X0).below b10)
  replace VX0 := hide (block_kept b10 (unhide VX0))
  replace X1 := hide ((unhide X1).below b10)
  replace VX1 := hide (block_kept b10 (unhide VX1))
  have z10 := b10.size
  clear b10
  have bd := below_drew (w := w10)
  have zdw10 : w10.drew.heap.size = w10.heap.size := rfl
  replace bb := below_next bb bd
  replace K0 := hide (block_kept bd (unhide K0))
  replace K1 := hide (block_kept bd (unhide K1))
  replace X0 := hide ((unhide X0).below bd)
  replace VX0 := hide (block_kept bd (unhide VX0))
  replace X1 := hide ((unhide X1).below bd)
  replace VX1 := hide (block_kept bd (unhide VX1))
  clear bd
  obtain ⟨c_K00, c_K01, c_K02, c_K03, c_K04, c_K05, c_K06⟩ := cells7 (unhide K0)
  obtain ⟨c_K10, c_K11, c_K12, c_K13, c_K14, c_K15, c_K16⟩ := cells7 (unhide K1)
  obtain ⟨c_VX00, c_VX01, c_VX02, c_VX03, c_VX04, c_VX05, c_VX06⟩ := cells7 (unhide VX0)
  obtain ⟨c_VX10, c_VX11, c_VX12, c_VX13, c_VX14, c_VX15, c_VX16⟩ := cells7 (unhide VX1)
  go_wp2_with fail
  clear c_K00 c_K01 c_K02 c_K03 c_K04 c_K05 c_K06
  clear c_K10 c_K11 c_K12 c_K13 c_K14 c_K15 c_K16
  clear c_VX00 c_VX01 c_VX02 c_VX03 c_VX04 c_VX05 c_VX06
  clear c_VX10 c_VX11 c_VX12 c_VX13 c_VX14 c_VX15 c_VX16
  go_region_held3 (fun w' => (w'.cell? ⟨w.heap.size, 0, none⟩ = some (.slice an0 r0.name.length cn0) ∧ w'.cell? ⟨w.heap.size, 1, none⟩ = some (.int .i64 r0.type) ∧ w'.cell? ⟨w.heap.size, 2, none⟩ = some (.int .i64 r0.ttl) ∧ w'.cell? ⟨w.heap.size, 3, none⟩ = some (.int .i64 r0.addr) ∧ w'.cell? ⟨w.heap.size, 4, none⟩ = some (.slice at0 r0.to.length ct0) ∧ w'.cell? ⟨w.heap.size, 5, none⟩ = some (.slice ax0 r0.text.length cx0) ∧ w'.cell? ⟨w.heap.size, 6, none⟩ = some (.slice ai0 r0.nums.length ci0)) ∧ (w'.cell? ⟨w6.heap.size, 0, none⟩ = some (.slice na6 r0.name.length nc6) ∧ w'.cell? ⟨w6.heap.size, 1, none⟩ = some (.int .i64 r0.type) ∧ w'.cell? ⟨w6.heap.size, 2, none⟩ = some (.int .i64 r0.ttl) ∧ w'.cell? ⟨w6.heap.size, 3, none⟩ = some (.int .i64 r0.addr) ∧ w'.cell? ⟨w6.heap.size, 4, none⟩ = some (.slice ta6 r0.to.length tc6) ∧ w'.cell? ⟨w6.heap.size, 5, none⟩ = some (.slice xa6 r0.text.length xc6) ∧ w'.cell? ⟨w6.heap.size, 6, none⟩ = some (.slice ia6 r0.nums.length ic6)))
    (first | exact ⟨cells7 (unhide K0), cells7 (unhide VX0)⟩ | exact ⟨cells7 (block_kept b11 (unhide K0)), cells7 (block_kept b11 (unhide VX0))⟩ | exact ⟨cells7 (block_kept q12 (unhide K0)), cells7 (block_kept q12 (unhide VX0))⟩)
    (first
    | (go_at_call 65; refine (toRr_any an0 cn0 at0 ct0 ax0 cx0 ai0 ci0 r0 _ ((unhide L0).below bb) (unhide HS0)).mono ?_; rintro e w11 ⟨xn11, xt11, xx11, xi11, rfl, o11, b11⟩; obtain ⟨na11, nc11, rfl, _⟩ := o11.hasR.name.form; obtain ⟨ta11, tc11, rfl, _⟩ := o11.hasR.to.form; obtain ⟨xa11, xc11, rfl, _⟩ := o11.hasR.text.form; obtain ⟨ia11, ic11, rfl, _⟩ := o11.hasR.nums.form)
    | (go_at_call 67; refine (eqRr_has ((unhide X0).below b11).hasR o11.hasR (unhide HSS0)).mono ?_; rintro e w12 ⟨rfl, b12⟩; have q12 := below_next b11 b12))
  clear b11 b12 o11
  replace bb := below_next bb q12
  replace K0 := hide (block_kept q12 (unhide K0))
  replace K1 := hide (block_kept q12 (unhide K1))
  replace X0 := hide ((unhide X0).below q12)
  replace VX0 := hide (block_kept q12 (unhide VX0))
  replace X1 := hide ((unhide X1).below q12)
  replace VX1 := hide (block_kept q12 (unhide VX1))
  have z12 := q12.size
  clear q12
  have bd := below_drew (w := w12)
  have zdw12 : w12.drew.heap.size = w12.heap.size := rfl
  replace bb := below_next bb bd
  replace K0 := hide (block_kept bd (unhide K0))
  replace K1 := hide (block_kept bd (unhide K1))
  replace X0 := hide ((unhide X0).below bd)
  replace VX0 := hide (block_kept bd (unhide VX0))
  replace X1 := hide ((unhide X1).below bd)
  replace VX1 := hide (block_kept bd (unhide VX1))
  clear bd
  obtain ⟨c_K00, c_K01, c_K02, c_K03, c_K04, c_K05, c_K06⟩ := cells7 (unhide K0)
  obtain ⟨c_K10, c_K11, c_K12, c_K13, c_K14, c_K15, c_K16⟩ := cells7 (unhide K1)
  obtain ⟨c_VX00, c_VX01, c_VX02, c_VX03, c_VX04, c_VX05, c_VX06⟩ := cells7 (unhide VX0)
  obtain ⟨c_VX10, c_VX11, c_VX12, c_VX13, c_VX14, c_VX15, c_VX16⟩ := cells7 (unhide VX1)
  go_wp2_with fail
  clear c_K00 c_K01 c_K02 c_K03 c_K04 c_K05 c_K06
  clear c_K10 c_K11 c_K12 c_K13 c_K14 c_K15 c_K16
  clear c_VX00 c_VX01 c_VX02 c_VX03 c_VX04 c_VX05 c_VX06
  clear c_VX10 c_VX11 c_VX12 c_VX13 c_VX14 c_VX15 c_VX16
  go_region_held3 (fun w' => (w'.cell? ⟨w.heap.size + 1, 0, none⟩ = some (.slice an1 r1.name.length cn1) ∧ w'.cell? ⟨w.heap.size + 1, 1, none⟩ = some (.int .i64 r1.type) ∧ w'.cell? ⟨w.heap.size + 1, 2, none⟩ = some (.int .i64 r1.ttl) ∧ w'.cell? ⟨w.heap.size + 1, 3, none⟩ = some (.int .i64 r1.addr) ∧ w'.cell? ⟨w.heap.size + 1, 4, none⟩ = some (.slice at1 r1.to.length ct1) ∧ w'.cell? ⟨w.heap.size + 1, 5, none⟩ = some (.slice ax1 r1.text.length cx1) ∧ w'.cell? ⟨w.heap.size + 1, 6, none⟩ = some (.slice ai1 r1.nums.length ci1)) ∧ (w'.cell? ⟨w8.heap.size, 0, none⟩ = some (.slice na8 r1.name.length nc8) ∧ w'.cell? ⟨w8.heap.size, 1, none⟩ = some (.int .i64 r1.type) ∧ w'.cell? ⟨w8.heap.size, 2, none⟩ = some (.int .i64 r1.ttl) ∧ w'.cell? ⟨w8.heap.size, 3, none⟩ = some (.int .i64 r1.addr) ∧ w'.cell? ⟨w8.heap.size, 4, none⟩ = some (.slice ta8 r1.to.length tc8) ∧ w'.cell? ⟨w8.heap.size, 5, none⟩ = some (.slice xa8 r1.text.length xc8) ∧ w'.cell? ⟨w8.heap.size, 6, none⟩ = some (.slice ia8 r1.nums.length ic8)))
    (first | exact ⟨cells7 (unhide K1), cells7 (unhide VX1)⟩ | exact ⟨cells7 (block_kept b13 (unhide K1)), cells7 (block_kept b13 (unhide VX1))⟩ | exact ⟨cells7 (block_kept q14 (unhide K1)), cells7 (block_kept q14 (unhide VX1))⟩)
    (first
    | (go_at_call 65; refine (toRr_any an1 cn1 at1 ct1 ax1 cx1 ai1 ci1 r1 _ ((unhide L1).below bb) (unhide HS1)).mono ?_; rintro e w13 ⟨xn13, xt13, xx13, xi13, rfl, o13, b13⟩; obtain ⟨na13, nc13, rfl, _⟩ := o13.hasR.name.form; obtain ⟨ta13, tc13, rfl, _⟩ := o13.hasR.to.form; obtain ⟨xa13, xc13, rfl, _⟩ := o13.hasR.text.form; obtain ⟨ia13, ic13, rfl, _⟩ := o13.hasR.nums.form)
    | (go_at_call 67; refine (eqRr_has ((unhide X1).below b13).hasR o13.hasR (unhide HSS1)).mono ?_; rintro e w14 ⟨rfl, b14⟩; have q14 := below_next b13 b14))
  clear b13 b14 o13
  replace bb := below_next bb q14
  replace K0 := hide (block_kept q14 (unhide K0))
  replace K1 := hide (block_kept q14 (unhide K1))
  replace X0 := hide ((unhide X0).below q14)
  replace VX0 := hide (block_kept q14 (unhide VX0))
  replace X1 := hide ((unhide X1).below q14)
  replace VX1 := hide (block_kept q14 (unhide VX1))
  have z14 := q14.size
  clear q14
  go_wp2_with fail
  go_ret
  exact ⟨rfl, bb⟩
end Go.Proofs.Ytdbojhbdfcknfaa
