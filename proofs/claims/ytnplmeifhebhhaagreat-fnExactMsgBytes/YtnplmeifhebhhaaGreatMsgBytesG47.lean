/-
  Contract of the specification's MsgBytes. The walk of laws.FnExactMsgBytes.
-/
import Derived.Test.YtnplmeifhebhhaaGreatMsgBytesG43
import Derived.Test.YtnplmeifhebhhaaGreatMsgBytesG30
import Derived.Test.YtnplmeifhebhhaaGreatMsgBytesG16
import Derived.Test.YtnplmeifhebhhaaGreatMsgBytesG03
import Derived.Test.YtnplmeifhebhhaaGreatMsgBytesG46
import Derived.Deep.RegionHeld3
namespace Go.Proofs.YtnplmeifhebhhaaGreat
open Go.RowKit
set_option linter.unusedVariables false

set_option maxHeartbeats 1000000 in
set_option maxRecDepth 100000 in
theorem specMsgBytes_has {vq va vb vm vp vu : Value} {m : Mg} {w : World} (h : HasM w vq va vb vm vp vu m) :
  Calls Tryz.prog 13 #[.agg #[.int .i64 m.id, .bool m.reply, .int .i64 m.op, .bool m.auth, .int .i64 m.code, vq, va, vb, vm, vp, vu]] w fun e w' => ∃ v', e = .returned (.tuple #[v', .bool (msgPut m).2]) ∧ Own w.heap.size 5 w' v' (msgPut m).1 ∧ Below w.heap.size w w' := by
 obtain ⟨xq, yq, rfl, _, zq⟩ := h.qs.form
 obtain ⟨xa, ya, rfl, _, za⟩ := h.ans.form
 obtain ⟨xb, yb, rfl, _, zb⟩ := h.aus.form
 obtain ⟨xm, ym, rfl, _, zm⟩ := h.more.form
 obtain ⟨xp, yp, rfl, _, zp⟩ := h.pres.form
 obtain ⟨xu, yu, rfl, _, zu⟩ := h.ups.form
 have b0 := below_alloc (w := w) (.cells #[.int .i64 m.id, .bool m.reply, .int .i64 m.op, .bool m.auth, .int .i64 m.code, .slice xq m.qs.length yq, .slice xa m.ans.length ya, .slice xb m.aus.length yb, .slice xm m.more.length ym, .slice xp m.pres.length yp, .slice xu m.ups.length yu] 33)
 have KK := hide (heap_alloc_new w (.cells #[.int .i64 m.id, .bool m.reply, .int .i64 m.op, .bool m.auth, .int .i64 m.code, .slice xq m.qs.length yq, .slice xa m.ans.length ya, .slice xb m.aus.length yb, .slice xm m.more.length ym, .slice xp m.pres.length yp, .slice xu m.ups.length yu] 33))
 have H := hide (h.below b0)
 have CM := fun (w : World) (h : HasM w (.slice xq m.qs.length yq) (.slice xa m.ans.length ya) (.slice xb m.aus.length yb) (.slice xm m.more.length ym) (.slice xp m.pres.length yp) (.slice xu m.ups.length yu) m) => specMsgOk_has h
 have CB := fun (e : mayM m = true) (w : World) (h : HasM w (.slice xq m.qs.length yq) (.slice xa m.ans.length ya) (.slice xb m.aus.length yb) (.slice xm m.more.length ym) (.slice xp m.pres.length yp) (.slice xu m.ups.length yu) m) => l4bytes_has h e
 cases hm : okM m with
 | false =>
  have hp : msgPut m = ([], false) := by unfold msgPut; rw [hm, if_neg (by simp)]
  rw [hp]
  rw [hm] at CM
  replace CM := hide CM
  clear h CB hm hp
  obtain ⟨d0, d1, d2, d3, d4, d5, d6, d7, d8, d9, d10⟩ := cells11 (unhide KK)
  go_enter Tryz.func13, Tryz.ntmps13
  go_wp2_with fail
  clear d0 d1 d2 d3 d4 d5 d6 d7 d8 d9 d10
  generalize w.alloc (.cells #[.int .i64 m.id, .bool m.reply, .int .i64 m.op, .bool m.auth, .int .i64 m.code, .slice xq m.qs.length yq, .slice xa m.ans.length ya, .slice xb m.aus.length yb, .slice xm m.more.length ym, .slice xp m.pres.length yp, .slice xu m.ups.length yu] 33) = W at *
  refine (unhide CM _ (unhide H)).mono ?_
  rintro e w1 ⟨rfl, b1⟩
  replace b0 := below_next b0 b1
  go_wp2_with fail
  go_ret2
  exact ⟨_, rfl, World.ownsRow_nil _ _ _ _, b0⟩
 | true =>
  have hp : msgPut m = (bytesM m, true) := by unfold msgPut; rw [hm, if_pos rfl]
  rw [hp]
  have hmay : mayM m = true := by unfold okM at hm; simp only [Bool.and_eq_true] at hm; exact hm.1
  rw [hm] at CM
  replace CM := hide CM
  have CB' := hide (CB hmay)
  clear h CB hm hmay hp
  generalize bytesM m = BM at *
  obtain ⟨d0, d1, d2, d3, d4, d5, d6, d7, d8, d9, d10⟩ := cells11 (unhide KK)
  have zz := b0.size
  go_enter Tryz.func13, Tryz.ntmps13
  go_wp2_with fail
  clear d0 d1 d2 d3 d4 d5 d6 d7 d8 d9 d10
  generalize w.alloc (.cells #[.int .i64 m.id, .bool m.reply, .int .i64 m.op, .bool m.auth, .int .i64 m.code, .slice xq m.qs.length yq, .slice xa m.ans.length ya, .slice xb m.aus.length yb, .slice xm m.more.length ym, .slice xp m.pres.length yp, .slice xu m.ups.length yu] 33) = W at *
  refine (unhide CM _ (unhide H)).mono ?_
  rintro e w1 ⟨rfl, b1⟩
  replace b0 := below_next b0 b1
  replace H := hide ((unhide H).below b1)
  have z1 := b1.size
  obtain ⟨d0, d1, d2, d3, d4, d5, d6, d7, d8, d9, d10⟩ := cells11 (block_kept b1 (unhide KK))
  clear b1 KK
  go_wp2_with fail
  clear d0 d1 d2 d3 d4 d5 d6 d7 d8 d9 d10
  refine (unhide CB' _ (unhide H)).mono ?_
  rintro e w2 ⟨v2, rfl, o2, b2⟩
  replace b0 := below_next b0 b2
  have O2 := hide (o2.mono (show w.heap.size ≤ _ by omega))
  clear o2 b2 H CM CB'
  go_wp2_with fail
  go_ret2
  exact ⟨_, rfl, unhide O2, b0⟩
end Go.Proofs.YtnplmeifhebhhaaGreat

namespace Go.Proofs.YtnplmeifhebhhaaGreat
open Go.RowKit
set_option linter.unusedVariables false

set_option maxHeartbeats 4000000 in
set_option maxRecDepth 100000 in
theorem lawMsgBytes (aq : Option Addr) (cq : Nat) (aa : Option Addr) (ca : Nat) (ab : Option Addr) (cb : Nat) (am : Option Addr) (cm : Nat) (ap : Option Addr) (cp : Nat) (au : Option Addr) (cu : Nat) (m : Mg) (w : World) (h : InM w aq aa ab am ap au m) (hl : m.qs.length ≤ maxLen ∧ m.ans.length ≤ maxLen ∧ m.aus.length ≤ maxLen ∧ m.more.length ≤ maxLen ∧ m.pres.length ≤ maxLen ∧ m.ups.length ≤ maxLen) (hm : SizeM maxLen m) :
  Calls Tryz.prog 4 #[.agg #[.int .i64 m.id, .bool m.reply, .int .i64 m.op, .bool m.auth, .int .i64 m.code, .slice aq m.qs.length cq, .slice aa m.ans.length ca, .slice ab m.aus.length cb, .slice am m.more.length cm, .slice ap m.pres.length cp, .slice au m.ups.length cu]] w fun e w' => e = .returned (.bool true) ∧ Below w.heap.size w w' := by
 have bb := below_alloc (w := w) (.cells #[.int .i64 m.id, .bool m.reply, .int .i64 m.op, .bool m.auth, .int .i64 m.code, .slice aq m.qs.length cq, .slice aa m.ans.length ca, .slice ab m.aus.length cb, .slice am m.more.length cm, .slice ap m.pres.length cp, .slice au m.ups.length cu] 26)
 have K0 := hide (heap_alloc_new w (.cells #[.int .i64 m.id, .bool m.reply, .int .i64 m.op, .bool m.auth, .int .i64 m.code, .slice aq m.qs.length cq, .slice aa m.ans.length ca, .slice ab m.aus.length cb, .slice am m.more.length cm, .slice ap m.pres.length cp, .slice au m.ups.length cu] 26))
 have L0 := hide h
 have HM := hide hm
 have HLL := hide hl
 clear h hm hl
 go_enter Tryz.func4, Tryz.ntmps4
 go_wp2_with fail
 generalize w.alloc (.cells #[.int .i64 m.id, .bool m.reply, .int .i64 m.op, .bool m.auth, .int .i64 m.code, .slice aq m.qs.length cq, .slice aa m.ans.length ca, .slice ab m.aus.length cb, .slice am m.more.length cm, .slice ap m.pres.length cp, .slice au m.ups.length cu] 26) = W at *
 have zk0 := block_lt (unhide K0)
 refine (szMsg_any aq cq aa ca ab cb am cm ap cp au cu m 1048576 _ ((unhide L0).below bb) (unhide HLL) (unhide HM) (by omega) (by omega)).mono ?_
 rintro e w1 ⟨⟨y, rfl, hr0, hr1, hr2⟩, b1⟩
 replace bb := below_next bb b1
 replace K0 := hide (block_kept b1 (unhide K0))
 have z1 := b1.size
 clear b1
 by_cases hneg : y < 0
 ·clear hr2
  go_wp2_with fail
  go_ret
  exact ⟨rfl, bb⟩
 have HS := hide ((hr2 (by omega)).1.mono (s' := 1048576) (by omega))
 have HSS := hide ((unhide HS).mono (s' := 2097152) (by omega))
 have hcnt : m.count ≤ 1048576 := by have := (hr2 (by omega)).2; omega
 clear hr2 HM HLL
 have MK := hide (markMsg_out (m := m) (unhide HS) hcnt)
 have hG0 := msgPut_length m
 have SP := fun (w : World) (vq va vb vm vp vu : Value) (h : HasM w vq va vb vm vp vu m) => specMsgBytes_has h
 have IM := fun (w : World) (vq va vb vm vp vu : Value) (h : HasM w vq va vb vm vp vu m) => implMsgBytes_has h
 generalize (msgPut m).1 = G0 at *
 generalize (msgPut m).2 = G1 at *
 replace SP := hide SP
 replace IM := hide IM
 obtain ⟨k0, k1, k2, k3, k4, k5, k6, k7, k8, k9, k10⟩ := cells11 (unhide K0)
 go_wp2_with fail
 clear k0 k1 k2 k3 k4 k5 k6 k7 k8 k9 k10
 refine (toMsg_own aq cq aa ca ab cb am cm ap cp au cu m _ ((unhide L0).below bb) hcnt (unhide HS)).mono ?_
 rintro e w2 ⟨vq2, va2, vb2, vm2, vp2, vu2, rfl, o2, b2⟩
 obtain ⟨xq2, yq2, rfl, _⟩ := o2.has.qs.form
 obtain ⟨xa2, ya2, rfl, _⟩ := o2.has.ans.form
 obtain ⟨xb2, yb2, rfl, _⟩ := o2.has.aus.form
 obtain ⟨xm2, ym2, rfl, _⟩ := o2.has.more.form
 obtain ⟨xp2, yp2, rfl, _⟩ := o2.has.pres.form
 obtain ⟨xu2, yu2, rfl, _⟩ := o2.has.ups.form
 have A2 := hide o2.has
 clear o2
 replace bb := below_next bb b2
 replace K0 := hide (block_kept b2 (unhide K0))
 have zb2 := b2.size
 clear b2
 obtain ⟨k0, k1, k2, k3, k4, k5, k6, k7, k8, k9, k10⟩ := cells11 (unhide K0)
 go_wp2_with fail
 clear k0 k1 k2 k3 k4 k5 k6 k7 k8 k9 k10
 refine (unhide SP _ _ _ _ _ _ _ (unhide A2)).mono ?_
 rintro e w3 ⟨y3, rfl, o3, b3⟩
 clear A2
 replace bb := below_next bb b3
 replace K0 := hide (block_kept b3 (unhide K0))
 have zb3 := b3.size
 clear b3
 have W0 := hide o3.has.at
 clear o3
 obtain ⟨k0, k1, k2, k3, k4, k5, k6, k7, k8, k9, k10⟩ := cells11 (unhide K0)
 go_wp2_with fail
 clear k0 k1 k2 k3 k4 k5 k6 k7 k8 k9 k10
 refine (toMsg_own aq cq aa ca ab cb am cm ap cp au cu m _ ((unhide L0).below bb) hcnt (unhide HS)).mono ?_
 rintro e w4 ⟨vq4, va4, vb4, vm4, vp4, vu4, rfl, o4, b4⟩
 obtain ⟨xq4, yq4, rfl, _⟩ := o4.has.qs.form
 obtain ⟨xa4, ya4, rfl, _⟩ := o4.has.ans.form
 obtain ⟨xb4, yb4, rfl, _⟩ := o4.has.aus.form
 obtain ⟨xm4, ym4, rfl, _⟩ := o4.has.more.form
 obtain ⟨xp4, yp4, rfl, _⟩ := o4.has.pres.form
 obtain ⟨xu4, yu4, rfl, _⟩ := o4.has.ups.form
 have X0 := hide o4
 clear o4
 replace bb := below_next bb b4
 replace K0 := hide (block_kept b4 (unhide K0))
 replace W0 := hide ((unhide W0).below b4)
 have zb4 := b4.size
 clear b4
 have b5 := below_alloc (w := w4) (.cells #[.int .i64 m.id, .bool m.reply, .int .i64 m.op, .bool m.auth, .int .i64 m.code, .slice xq4 m.qs.length yq4, .slice xa4 m.ans.length ya4, .slice xb4 m.aus.length yb4, .slice xm4 m.more.length ym4, .slice xp4 m.pres.length yp4, .slice xu4 m.ups.length yu4] 33)
 have VX := hide (heap_alloc_new w4 (.cells #[.int .i64 m.id, .bool m.reply, .int .i64 m.op, .bool m.auth, .int .i64 m.code, .slice xq4 m.qs.length yq4, .slice xa4 m.ans.length ya4, .slice xb4 m.aus.length yb4, .slice xm4 m.more.length ym4, .slice xp4 m.pres.length yp4, .slice xu4 m.ups.length yu4] 33))
 obtain ⟨k0, k1, k2, k3, k4, k5, k6, k7, k8, k9, k10⟩ := cells11 (block_kept b5 (unhide K0))
 go_wp2_with fail
 clear k0 k1 k2 k3 k4 k5 k6 k7 k8 k9 k10
 generalize w4.alloc (.cells #[.int .i64 m.id, .bool m.reply, .int .i64 m.op, .bool m.auth, .int .i64 m.code, .slice xq4 m.qs.length yq4, .slice xa4 m.ans.length ya4, .slice xb4 m.aus.length yb4, .slice xm4 m.more.length ym4, .slice xp4 m.pres.length yp4, .slice xu4 m.ups.length yu4] 33) = w5 at *
 replace bb := below_next bb b5
 replace K0 := hide (block_kept b5 (unhide K0))
 replace W0 := hide ((unhide W0).below b5)
 replace X0 := hide ((unhide X0).below b5)
 have zb5 := b5.size
 clear b5
 have zvx := block_lt (unhide VX)
 refine (unhide IM _ _ _ _ _ _ _ (unhide X0).has).mono ?_
 rintro e w6 ⟨y6, rfl, o6, b6⟩
 replace bb := below_next bb b6
 replace K0 := hide (block_kept b6 (unhide K0))
 replace W0 := hide ((unhide W0).below b6)
 replace X0 := hide ((unhide X0).below b6)
 replace VX := hide (block_kept b6 (unhide VX))
 have zb6 := b6.size
 clear b6
 have GG := hide o6.here
 clear o6
 obtain ⟨k0, k1, k2, k3, k4, k5, k6, k7, k8, k9, k10⟩ := cells11 (unhide K0)
 obtain ⟨x0, x1, x2, x3, x4, x5, x6, x7, x8, x9, x10⟩ := cells11 (unhide VX)
 go_wp2_with fail
 clear k0 k1 k2 k3 k4 k5 k6 k7 k8 k9 k10 x0 x1 x2 x3 x4 x5 x6 x7 x8 x9 x10
 refine (eqByteS_has (unhide GG).has (unhide W0).has (by omega)).mono ?_
 rintro e w7 ⟨rfl, m7, hm7⟩
 have b7 : Below w6.heap.size w6 w7 := by rw [hm7]; exact below_draws m7
 clear hm7
 replace bb := below_next bb b7
 replace K0 := hide (block_kept b7 (unhide K0))
 replace W0 := hide ((unhide W0).below b7)
 replace X0 := hide ((unhide X0).below b7)
 replace VX := hide (block_kept b7 (unhide VX))
 replace GG := hide ((unhide GG).below b7)
 have zb7 := b7.size
 clear b7
 have bd := below_drew (w := w7)
 have zd : w7.drew.heap.size = w7.heap.size := rfl
 replace bb := below_next bb bd
 replace K0 := hide (block_kept bd (unhide K0))
 replace W0 := hide ((unhide W0).below bd)
 replace X0 := hide ((unhide X0).below bd)
 replace VX := hide (block_kept bd (unhide VX))
 replace GG := hide ((unhide GG).below bd)
 have zbd := bd.size
 clear bd
 obtain ⟨k0, k1, k2, k3, k4, k5, k6, k7, k8, k9, k10⟩ := cells11 (unhide K0)
 obtain ⟨x0, x1, x2, x3, x4, x5, x6, x7, x8, x9, x10⟩ := cells11 (unhide VX)
 go_wp2_with fail
 clear k0 k1 k2 k3 k4 k5 k6 k7 k8 k9 k10 x0 x1 x2 x3 x4 x5 x6 x7 x8 x9 x10
 go_region_held3 (fun w' => (w'.cell? ⟨w.heap.size, 0, none⟩ = some (.int .i64 m.id) ∧ w'.cell? ⟨w.heap.size, 1, none⟩ = some (.bool m.reply) ∧ w'.cell? ⟨w.heap.size, 2, none⟩ = some (.int .i64 m.op) ∧ w'.cell? ⟨w.heap.size, 3, none⟩ = some (.bool m.auth) ∧ w'.cell? ⟨w.heap.size, 4, none⟩ = some (.int .i64 m.code) ∧ w'.cell? ⟨w.heap.size, 5, none⟩ = some (.slice aq m.qs.length cq) ∧ w'.cell? ⟨w.heap.size, 6, none⟩ = some (.slice aa m.ans.length ca) ∧ w'.cell? ⟨w.heap.size, 7, none⟩ = some (.slice ab m.aus.length cb) ∧ w'.cell? ⟨w.heap.size, 8, none⟩ = some (.slice am m.more.length cm) ∧ w'.cell? ⟨w.heap.size, 9, none⟩ = some (.slice ap m.pres.length cp) ∧ w'.cell? ⟨w.heap.size, 10, none⟩ = some (.slice au m.ups.length cu)) ∧ (w'.cell? ⟨w4.heap.size, 0, none⟩ = some (.int .i64 m.id) ∧ w'.cell? ⟨w4.heap.size, 1, none⟩ = some (.bool m.reply) ∧ w'.cell? ⟨w4.heap.size, 2, none⟩ = some (.int .i64 m.op) ∧ w'.cell? ⟨w4.heap.size, 3, none⟩ = some (.bool m.auth) ∧ w'.cell? ⟨w4.heap.size, 4, none⟩ = some (.int .i64 m.code) ∧ w'.cell? ⟨w4.heap.size, 5, none⟩ = some (.slice xq4 m.qs.length yq4) ∧ w'.cell? ⟨w4.heap.size, 6, none⟩ = some (.slice xa4 m.ans.length ya4) ∧ w'.cell? ⟨w4.heap.size, 7, none⟩ = some (.slice xb4 m.aus.length yb4) ∧ w'.cell? ⟨w4.heap.size, 8, none⟩ = some (.slice xm4 m.more.length ym4) ∧ w'.cell? ⟨w4.heap.size, 9, none⟩ = some (.slice xp4 m.pres.length yp4) ∧ w'.cell? ⟨w4.heap.size, 10, none⟩ = some (.slice xu4 m.ups.length yu4)))
  (first | exact ⟨cells11 (unhide K0), cells11 (unhide VX)⟩ | exact ⟨cells11 (block_kept b8 (unhide K0)), cells11 (block_kept b8 (unhide VX))⟩ | exact ⟨cells11 (block_kept q9 (unhide K0)), cells11 (block_kept q9 (unhide VX))⟩)
  (first
  | (go_at_call 10; refine (toMsg_own aq cq aa ca ab cb am cm ap cp au cu m _ ((unhide L0).below bb) hcnt (unhide HS)).mono ?_; rintro e w8 ⟨vq8, va8, vb8, vm8, vp8, vu8, rfl, o8, b8⟩; obtain ⟨xq8, yq8, rfl, _⟩ := o8.has.qs.form; obtain ⟨xa8, ya8, rfl, _⟩ := o8.has.ans.form; obtain ⟨xb8, yb8, rfl, _⟩ := o8.has.aus.form; obtain ⟨xm8, ym8, rfl, _⟩ := o8.has.more.form; obtain ⟨xp8, yp8, rfl, _⟩ := o8.has.pres.form; obtain ⟨xu8, yu8, rfl, _⟩ := o8.has.ups.form)
  | (go_at_call 12; refine (eqMsg_has ((unhide X0).below b8).has o8.has (unhide HSS)).mono ?_; rintro e w9 ⟨rfl, b9⟩; have q9 := below_next b8 b9))
 clear b8 b9 o8
 replace bb := below_next bb q9
 replace K0 := hide (block_kept q9 (unhide K0))
 replace W0 := hide ((unhide W0).below q9)
 replace X0 := hide ((unhide X0).below q9)
 replace VX := hide (block_kept q9 (unhide VX))
 replace GG := hide ((unhide GG).below q9)
 have zq9 := q9.size
 clear q9
 obtain ⟨k0, k1, k2, k3, k4, k5, k6, k7, k8, k9, k10⟩ := cells11 (unhide K0)
 obtain ⟨x0, x1, x2, x3, x4, x5, x6, x7, x8, x9, x10⟩ := cells11 (unhide VX)
 go_wp2_with fail
 clear k0 k1 k2 k3 k4 k5 k6 k7 k8 k9 k10 x0 x1 x2 x3 x4 x5 x6 x7 x8 x9 x10
 refine (unhide MK _ _ _ _ _ _ _ _ _ (by omega) (unhide X0)).mono ?_
 rintro e w10 ⟨⟨P0, rfl, hPa⟩, u10⟩
 have hPn : ¬ P0 < 0 := by omega
 clear X0
 replace bb := u10.below bb (by omega)
 replace K0 := hide (u10.kept (unhide K0) (by omega))
 replace W0 := hide ((unhide W0).outside u10 (by omega))
 replace VX := hide (u10.kept (unhide VX) (by omega))
 replace GG := hide ((unhide GG).outside u10 (by omega))
 have zu10 := u10.size
 clear u10
 obtain ⟨k0, k1, k2, k3, k4, k5, k6, k7, k8, k9, k10⟩ := cells11 (unhide K0)
 obtain ⟨x0, x1, x2, x3, x4, x5, x6, x7, x8, x9, x10⟩ := cells11 (unhide VX)
 go_wp2_with fail
 clear k0 k1 k2 k3 k4 k5 k6 k7 k8 k9 k10 x0 x1 x2 x3 x4 x5 x6 x7 x8 x9 x10
 refine (eqByteS_has (unhide GG).has (unhide W0).has (by omega)).mono ?_
 rintro e w11 ⟨rfl, m11, hm11⟩
 have b11 : Below w10.heap.size w10 w11 := by rw [hm11]; exact below_draws m11
 clear hm11
 replace bb := below_next bb b11
 replace K0 := hide (block_kept b11 (unhide K0))
 replace W0 := hide ((unhide W0).below b11)
 replace VX := hide (block_kept b11 (unhide VX))
 replace GG := hide ((unhide GG).below b11)
 have zb11 := b11.size
 clear b11
 obtain ⟨k0, k1, k2, k3, k4, k5, k6, k7, k8, k9, k10⟩ := cells11 (unhide K0)
 obtain ⟨x0, x1, x2, x3, x4, x5, x6, x7, x8, x9, x10⟩ := cells11 (unhide VX)
 go_wp2_with fail
 clear k0 k1 k2 k3 k4 k5 k6 k7 k8 k9 k10 x0 x1 x2 x3 x4 x5 x6 x7 x8 x9 x10
 refine (markByteS_any 1 (unhide GG).1 (by omega) (by omega) (by omega)).mono ?_
 rintro e w12 ⟨rfl, o12, g12⟩
 obtain ⟨GM, u12⟩ := (unhide GG).marks o12 g12
 clear o12 g12 GG
 replace bb := u12.below bb (by omega)
 replace K0 := hide (u12.kept (unhide K0) (by omega))
 replace W0 := hide ((unhide W0).outside u12 (by omega))
 replace VX := hide (u12.kept (unhide VX) (by omega))
 have zu12 := u12.size
 clear u12
 replace GM := hide GM
 obtain ⟨k0, k1, k2, k3, k4, k5, k6, k7, k8, k9, k10⟩ := cells11 (unhide K0)
 obtain ⟨x0, x1, x2, x3, x4, x5, x6, x7, x8, x9, x10⟩ := cells11 (unhide VX)
 go_wp2_with fail
 clear k0 k1 k2 k3 k4 k5 k6 k7 k8 k9 k10 x0 x1 x2 x3 x4 x5 x6 x7 x8 x9 x10
 refine (heldByteS_any 1 (unhide GM).1 (by omega) (by omega) (by omega)).mono ?_
 rintro e wh ⟨rfl, rfl⟩
 obtain ⟨k0, k1, k2, k3, k4, k5, k6, k7, k8, k9, k10⟩ := cells11 (unhide K0)
 obtain ⟨x0, x1, x2, x3, x4, x5, x6, x7, x8, x9, x10⟩ := cells11 (unhide VX)
 go_wp2_with fail
 clear k0 k1 k2 k3 k4 k5 k6 k7 k8 k9 k10 x0 x1 x2 x3 x4 x5 x6 x7 x8 x9 x10
 refine (toMsg_own aq cq aa ca ab cb am cm ap cp au cu m _ ((unhide L0).below bb) hcnt (unhide HS)).mono ?_
 rintro e w13 ⟨vq13, va13, vb13, vm13, vp13, vu13, rfl, o13, b13⟩
 obtain ⟨xq13, yq13, rfl, _⟩ := o13.has.qs.form
 obtain ⟨xa13, ya13, rfl, _⟩ := o13.has.ans.form
 obtain ⟨xb13, yb13, rfl, _⟩ := o13.has.aus.form
 obtain ⟨xm13, ym13, rfl, _⟩ := o13.has.more.form
 obtain ⟨xp13, yp13, rfl, _⟩ := o13.has.pres.form
 obtain ⟨xu13, yu13, rfl, _⟩ := o13.has.ups.form
 have A13 := hide o13.has
 clear o13
 replace bb := below_next bb b13
 replace K0 := hide (block_kept b13 (unhide K0))
 replace W0 := hide ((unhide W0).below b13)
 replace VX := hide (block_kept b13 (unhide VX))
 replace GM := hide ((unhide GM).below b13)
 have zb13 := b13.size
 clear b13
 obtain ⟨k0, k1, k2, k3, k4, k5, k6, k7, k8, k9, k10⟩ := cells11 (unhide K0)
 obtain ⟨x0, x1, x2, x3, x4, x5, x6, x7, x8, x9, x10⟩ := cells11 (unhide VX)
 go_wp2_with fail
 clear k0 k1 k2 k3 k4 k5 k6 k7 k8 k9 k10 x0 x1 x2 x3 x4 x5 x6 x7 x8 x9 x10
 refine (unhide IM _ _ _ _ _ _ _ (unhide A13)).mono ?_
 rintro e w14 ⟨y14, rfl, o14, b14⟩
 clear A13
 replace bb := below_next bb b14
 replace K0 := hide (block_kept b14 (unhide K0))
 replace W0 := hide ((unhide W0).below b14)
 replace VX := hide (block_kept b14 (unhide VX))
 replace GM := hide ((unhide GM).below b14)
 have zb14 := b14.size
 clear b14
 have H0 := hide o14.here
 clear o14
 obtain ⟨k0, k1, k2, k3, k4, k5, k6, k7, k8, k9, k10⟩ := cells11 (unhide K0)
 obtain ⟨x0, x1, x2, x3, x4, x5, x6, x7, x8, x9, x10⟩ := cells11 (unhide VX)
 go_wp2_with fail
 clear k0 k1 k2 k3 k4 k5 k6 k7 k8 k9 k10 x0 x1 x2 x3 x4 x5 x6 x7 x8 x9 x10
 refine (eqByteS_has (unhide H0).has (unhide W0).has (by omega)).mono ?_
 rintro e w15 ⟨rfl, m15, hm15⟩
 have b15 : Below w14.heap.size w14 w15 := by rw [hm15]; exact below_draws m15
 clear hm15
 replace bb := below_next bb b15
 replace K0 := hide (block_kept b15 (unhide K0))
 replace W0 := hide ((unhide W0).below b15)
 replace VX := hide (block_kept b15 (unhide VX))
 replace GM := hide ((unhide GM).below b15)
 replace H0 := hide ((unhide H0).below b15)
 have zb15 := b15.size
 clear b15
 obtain ⟨k0, k1, k2, k3, k4, k5, k6, k7, k8, k9, k10⟩ := cells11 (unhide K0)
 obtain ⟨x0, x1, x2, x3, x4, x5, x6, x7, x8, x9, x10⟩ := cells11 (unhide VX)
 go_wp2_with fail
 clear k0 k1 k2 k3 k4 k5 k6 k7 k8 k9 k10 x0 x1 x2 x3 x4 x5 x6 x7 x8 x9 x10
 refine (heldByteS_any 1 (unhide GM).1 (by omega) (by omega) (by omega)).mono ?_
 rintro e wh ⟨rfl, rfl⟩
 go_wp2_with fail
 go_ret
 exact ⟨rfl, bb⟩
end Go.Proofs.YtnplmeifhebhhaaGreat
