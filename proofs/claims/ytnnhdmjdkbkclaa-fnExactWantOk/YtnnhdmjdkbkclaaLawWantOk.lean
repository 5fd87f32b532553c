/-
  The walk of laws.FnExactWantOk.
-/
import Derived.Test.YtnnhdmjdkbkclaaRecT
import Derived.Test.YtnnhdmjdkbkclaaCarry
import Derived.Test.YtnnhdmjdkbkclaaIWantOk
import Derived.Test.YtnnhdmjdkbkclaaSWantOk
import Derived.Test.YtnnhdmjdkbkclaaWantH
import Derived.Deep.RegionHeld3
namespace Go.Proofs.Ytnnhdmjdkbkclaa
open Go.RowKit
set_option linter.unusedVariables false

set_option maxHeartbeats 4000000 in
set_option maxRecDepth 100000 in
theorem lawWantOk (an0 : Option Addr) (cn0 : Nat) (at0 : Option Addr) (ct0 : Nat) (ax0 : Option Addr) (cx0 : Nat) (ai0 : Option Addr) (ci0 : Nat) (r0 : Rec) (c0 : Int) (b0 : Bool) (w : World) (h0 : InR w an0 at0 ax0 ai0 r0) (hm0 : SizeR maxLen r0) :
    Calls Try.prog 3 #[.agg #[.slice an0 r0.name.length cn0, .int .i64 r0.type, .int .i64 r0.ttl, .int .i64 r0.addr, .slice at0 r0.to.length ct0, .slice ax0 r0.text.length cx0, .slice ai0 r0.nums.length ci0, .int .i64 c0, .bool b0]] w fun e w' => e = .returned (.bool true) ∧ Below w.heap.size w w' := by
  have bb := below_alloc (w := w) (.cells #[.slice an0 r0.name.length cn0, .int .i64 r0.type, .int .i64 r0.ttl, .int .i64 r0.addr, .slice at0 r0.to.length ct0, .slice ax0 r0.text.length cx0, .slice ai0 r0.nums.length ci0, .int .i64 c0, .bool b0] 30)
  have K0 := heap_alloc_new w (.cells #[.slice an0 r0.name.length cn0, .int .i64 r0.type, .int .i64 r0.ttl, .int .i64 r0.addr, .slice at0 r0.to.length ct0, .slice ax0 r0.text.length cx0, .slice ai0 r0.nums.length ci0, .int .i64 c0, .bool b0] 30)
  replace K0 := hide K0
  have L0 := hide h0
  have HM0 := hide hm0
  clear h0 hm0
  go_enter Try.func3, Try.ntmps3
  go_wp2_with fail
  generalize w.alloc (.cells #[.slice an0 r0.name.length cn0, .int .i64 r0.type, .int .i64 r0.ttl, .int .i64 r0.addr, .slice at0 r0.to.length ct0, .slice ax0 r0.text.length cx0, .slice ai0 r0.nums.length ci0, .int .i64 c0, .bool b0] 30) = W at *
  have zk0 := block_lt (unhide K0)
  refine (szWant_any an0 cn0 at0 ct0 ax0 cx0 ai0 ci0 r0 c0 b0 1048576 _ ((unhide L0).below bb) (unhide HM0) (by omega) (by omega)).mono ?_
  rintro e w1 ⟨⟨y0, rfl, hr00, hr10, hr20⟩, b1⟩
  replace bb := below_next bb b1
  replace K0 := hide (block_kept b1 (unhide K0))
  have z1 := b1.size
  clear b1
  by_cases hneg0 : y0 < 0
  · clear hr20
    go_wp2_with fail
    go_ret
    exact ⟨rfl, bb⟩
  have HS0 := hide ((hr20 (by omega)).mono (m' := 1048576) (by omega))
  have HSS0 := hide ((unhide HS0).mono (m' := 2097152) (by omega))
  clear hr20 HM0
  have SP := fun (w : World) (xn0 xt0 xx0 xi0 : Value) (h0 : HasR w xn0 xt0 xx0 xi0 r0) => specWantOk_has c0 b0 h0
  have IM := fun (w : World) (xn0 xt0 xx0 xi0 : Value) (h0 : HasR w xn0 xt0 xx0 xi0 r0) => implWantOk_has c0 b0 h0
  generalize wantOk r0 c0 b0 = G0 at *
  replace SP := hide SP
  replace IM := hide IM
  obtain ⟨c_K00, c_K01, c_K02, c_K03, c_K04, c_K05, c_K06, c_K07, c_K08⟩ := cells9 (unhide K0)
  go_wp2_with fail
  clear c_K00 c_K01 c_K02 c_K03 c_K04 c_K05 c_K06 c_K07 c_K08
  refine (toWant_any an0 cn0 at0 ct0 ax0 cx0 ai0 ci0 r0 c0 b0 _ ((unhide L0).below bb) (unhide HS0)).mono ?_
  rintro e w2 ⟨xn2, xt2, xx2, xi2, rfl, o2, b2⟩
  obtain ⟨na2, nc2, rfl, _⟩ := o2.hasR.name.form
  obtain ⟨ta2, tc2, rfl, _⟩ := o2.hasR.to.form
  obtain ⟨xa2, xc2, rfl, _⟩ := o2.hasR.text.form
  obtain ⟨ia2, ic2, rfl, _⟩ := o2.hasR.nums.form
  have A2 := hide (o2.hasR)
  clear o2
  replace bb := below_next bb b2
  replace K0 := hide (block_kept b2 (unhide K0))
  have z2 := b2.size
  clear b2
  obtain ⟨c_K00, c_K01, c_K02, c_K03, c_K04, c_K05, c_K06, c_K07, c_K08⟩ := cells9 (unhide K0)
  go_wp2_with fail
  clear c_K00 c_K01 c_K02 c_K03 c_K04 c_K05 c_K06 c_K07 c_K08
  refine (unhide SP _ _ _ _ _ (unhide A2)).mono ?_
  rintro e w3 ⟨rfl, b3⟩
  clear A2
  replace bb := below_next bb b3
  replace K0 := hide (block_kept b3 (unhide K0))
  have z3 := b3.size
  clear b3
  obtain ⟨c_K00, c_K01, c_K02, c_K03, c_K04, c_K05, c_K06, c_K07, c_K08⟩ := cells9 (unhide K0)
  go_wp2_with fail
  clear c_K00 c_K01 c_K02 c_K03 c_K04 c_K05 c_K06 c_K07 c_K08
  refine (toWant_any an0 cn0 at0 ct0 ax0 cx0 ai0 ci0 r0 c0 b0 _ ((unhide L0).below bb) (unhide HS0)).mono ?_
  rintro e w4 ⟨xn4, xt4, xx4, xi4, rfl, o4, b4⟩
  obtain ⟨na4, nc4, rfl, _⟩ := o4.hasR.name.form
  obtain ⟨ta4, tc4, rfl, _⟩ := o4.hasR.to.form
  obtain ⟨xa4, xc4, rfl, _⟩ := o4.hasR.text.form
  obtain ⟨ia4, ic4, rfl, _⟩ := o4.hasR.nums.form
  have X0 := hide o4
  clear o4
  replace bb := below_next bb b4
  replace K0 := hide (block_kept b4 (unhide K0))
  have z4 := b4.size
  clear b4
  have b5 := below_alloc (w := w4) (.cells #[.slice na4 r0.name.length nc4, .int .i64 r0.type, .int .i64 r0.ttl, .int .i64 r0.addr, .slice ta4 r0.to.length tc4, .slice xa4 r0.text.length xc4, .slice ia4 r0.nums.length ic4, .int .i64 c0, .bool b0] 37)
  have VX0 := hide (heap_alloc_new w4 (.cells #[.slice na4 r0.name.length nc4, .int .i64 r0.type, .int .i64 r0.ttl, .int .i64 r0.addr, .slice ta4 r0.to.length tc4, .slice xa4 r0.text.length xc4, .slice ia4 r0.nums.length ic4, .int .i64 c0, .bool b0] 37))
  obtain ⟨c_K00, c_K01, c_K02, c_K03, c_K04, c_K05, c_K06, c_K07, c_K08⟩ := cells9 (block_kept b5 (unhide K0))
  go_wp2_with fail
  clear c_K00 c_K01 c_K02 c_K03 c_K04 c_K05 c_K06 c_K07 c_K08
  generalize w4.alloc (.cells #[.slice na4 r0.name.length nc4, .int .i64 r0.type, .int .i64 r0.ttl, .int .i64 r0.addr, .slice ta4 r0.to.length tc4, .slice xa4 r0.text.length xc4, .slice ia4 r0.nums.length ic4, .int .i64 c0, .bool b0] 37) = w5 at *
  replace bb := below_next bb b5
  replace K0 := hide (block_kept b5 (unhide K0))
  replace X0 := hide ((unhide X0).below b5)
  have z5 := b5.size
  clear b5
  have zz5 := block_lt (unhide VX0)
  refine (unhide IM _ _ _ _ _ (unhide X0).hasR).mono ?_
  rintro e w6 ⟨rfl, b6⟩
  replace bb := below_next bb b6
  replace K0 := hide (block_kept b6 (unhide K0))
  replace X0 := hide ((unhide X0).below b6)
  replace VX0 := hide (block_kept b6 (unhide VX0))
  have z6 := b6.size
  clear b6
  have bd := below_drew (w := w6)
  have zdw6 : w6.drew.heap.size = w6.heap.size := rfl
  replace bb := below_next bb bd
  replace K0 := hide (block_kept bd (unhide K0))
  replace X0 := hide ((unhide X0).below bd)
  replace VX0 := hide (block_kept bd (unhide VX0))
  clear bd
  obtain ⟨c_K00, c_K01, c_K02, c_K03, c_K04, c_K05, c_K06, c_K07, c_K08⟩ := cells9 (unhide K0)
  obtain ⟨c_VX00, c_VX01, c_VX02, c_VX03, c_VX04, c_VX05, c_VX06, c_VX07, c_VX08⟩ := cells9 (unhide VX0)
  go_wp2_with fail
  clear c_K00 c_K01 c_K02 c_K03 c_K04 c_K05 c_K06 c_K07 c_K08
  clear c_VX00 c_VX01 c_VX02 c_VX03 c_VX04 c_VX05 c_VX06 c_VX07 c_VX08
  go_region_held3 (fun w' => (w'.cell? ⟨w.heap.size, 0, none⟩ = some (.slice an0 r0.name.length cn0) ∧ w'.cell? ⟨w.heap.size, 1, none⟩ = some (.int .i64 r0.type) ∧ w'.cell? ⟨w.heap.size, 2, none⟩ = some (.int .i64 r0.ttl) ∧ w'.cell? ⟨w.heap.size, 3, none⟩ = some (.int .i64 r0.addr) ∧ w'.cell? ⟨w.heap.size, 4, none⟩ = some (.slice at0 r0.to.length ct0) ∧ w'.cell? ⟨w.heap.size, 5, none⟩ = some (.slice ax0 r0.text.length cx0) ∧ w'.cell? ⟨w.heap.size, 6, none⟩ = some (.slice ai0 r0.nums.length ci0) ∧ w'.cell? ⟨w.heap.size, 7, none⟩ = some (.int .i64 c0) ∧ w'.cell? ⟨w.heap.size, 8, none⟩ = some (.bool b0)) ∧ (w'.cell? ⟨w4.heap.size, 0, none⟩ = some (.slice na4 r0.name.length nc4) ∧ w'.cell? ⟨w4.heap.size, 1, none⟩ = some (.int .i64 r0.type) ∧ w'.cell? ⟨w4.heap.size, 2, none⟩ = some (.int .i64 r0.ttl) ∧ w'.cell? ⟨w4.heap.size, 3, none⟩ = some (.int .i64 r0.addr) ∧ w'.cell? ⟨w4.heap.size, 4, none⟩ = some (.slice ta4 r0.to.length tc4) ∧ w'.cell? ⟨w4.heap.size, 5, none⟩ = some (.slice xa4 r0.text.length xc4) ∧ w'.cell? ⟨w4.heap.size, 6, none⟩ = some (.slice ia4 r0.nums.length ic4) ∧ w'.cell? ⟨w4.heap.size, 7, none⟩ = some (.int .i64 c0) ∧ w'.cell? ⟨w4.heap.size, 8, none⟩ = some (.bool b0)))
    (first | exact ⟨cells9 (unhide K0), cells9 (unhide VX0)⟩ | exact ⟨cells9 (block_kept b7 (unhide K0)), cells9 (block_kept b7 (unhide VX0))⟩ | exact ⟨cells9 (block_kept q8 (unhide K0)), cells9 (block_kept q8 (unhide VX0))⟩)
    (first
    | (go_at_call 6; refine (toWant_any an0 cn0 at0 ct0 ax0 cx0 ai0 ci0 r0 c0 b0 _ ((unhide L0).below bb) (unhide HS0)).mono ?_; rintro e w7 ⟨xn7, xt7, xx7, xi7, rfl, o7, b7⟩; obtain ⟨na7, nc7, rfl, _⟩ := o7.hasR.name.form; obtain ⟨ta7, tc7, rfl, _⟩ := o7.hasR.to.form; obtain ⟨xa7, xc7, rfl, _⟩ := o7.hasR.text.form; obtain ⟨ia7, ic7, rfl, _⟩ := o7.hasR.nums.form)
    | (go_at_call 8; refine (eqWant_has c0 b0 ((unhide X0).below b7).hasR o7.hasR (unhide HSS0)).mono ?_; rintro e w8 ⟨rfl, b8⟩; have q8 := below_next b7 b8))
  clear b7 b8 o7
  replace bb := below_next bb q8
  replace K0 := hide (block_kept q8 (unhide K0))
  replace X0 := hide ((unhide X0).below q8)
  replace VX0 := hide (block_kept q8 (unhide VX0))
  have z8 := q8.size
  clear q8
  go_wp2_with fail
  go_ret
  exact ⟨rfl, bb⟩
end Go.Proofs.Ytnnhdmjdkbkclaa
