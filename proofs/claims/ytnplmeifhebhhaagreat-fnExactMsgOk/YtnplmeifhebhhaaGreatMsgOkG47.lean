/-
  Contracts of the specification's l4bytes and MsgOk. The walk of laws.FnExactMsgOk.
-/
import Derived.Test.YtnplmeifhebhhaaGreatMsgOkG41
import Derived.Test.YtnplmeifhebhhaaGreatMsgOkG42
import Derived.Test.YtnplmeifhebhhaaGreatMsgOkG46
import Derived.Test.YtnplmeifhebhhaaGreatMsgOkG17
import Derived.Test.YtnplmeifhebhhaaGreatMsgOkG33
import Derived.Test.YtnplmeifhebhhaaGreatMsgOkG03
import Derived.Deep.RegionHeld3
namespace Go.Proofs.YtnplmeifhebhhaaGreat
open Go.RowKit
set_option linter.unusedVariables false

theorem l4bytes_has {vq va vb vm vp vu : Value} {m : Mg} {w : World} (h : HasM w vq va vb vm vp vu m) (hmay : mayM m = true) :
  Calls Tryz.prog 34 #[.agg #[.int .i64 m.id, .bool m.reply, .int .i64 m.op, .bool m.auth, .int .i64 m.code, vq, va, vb, vm, vp, vu]] w fun e w' => ∃ v', e = .returned v' ∧ Own w.heap.size 5 w' v' (bytesM m) ∧ Below w.heap.size w w' := by
 have hop := (mayM_parts hmay).2.2.2.2.2.1
 rcases hop with hop | hop
 ·cases hr : m.reply with
  | true =>
   cases ha : m.auth with
   | true =>
    have := l4bytes_qra h hmay hop hr ha
    rw [hr, ha] at this
    exact this
   | false =>
    have := l4bytes_qrn h hmay hop hr ha
    rw [hr, ha] at this
    exact this
  | false =>
   cases ha : m.auth with
   | true =>
    have := l4bytes_qna h hmay hop hr ha
    rw [hr, ha] at this
    exact this
   | false =>
    have := l4bytes_qnn h hmay hop hr ha
    rw [hr, ha] at this
    exact this
 ·cases hr : m.reply with
  | true =>
   cases ha : m.auth with
   | true =>
    have := l4bytes_ura h hmay hop hr ha
    rw [hr, ha] at this
    exact this
   | false =>
    have := l4bytes_urn h hmay hop hr ha
    rw [hr, ha] at this
    exact this
  | false =>
   cases ha : m.auth with
   | true =>
    have := l4bytes_una h hmay hop hr ha
    rw [hr, ha] at this
    exact this
   | false =>
    have := l4bytes_unn h hmay hop hr ha
    rw [hr, ha] at this
    exact this

set_option maxHeartbeats 1000000 in
set_option maxRecDepth 100000 in
theorem specMsgOk_has {vq va vb vm vp vu : Value} {m : Mg} {w : World} (h : HasM w vq va vb vm vp vu m) :
  Calls Tryz.prog 9 #[.agg #[.int .i64 m.id, .bool m.reply, .int .i64 m.op, .bool m.auth, .int .i64 m.code, vq, va, vb, vm, vp, vu]] w fun e w' => e = .returned (.bool (okM m)) ∧ Below w.heap.size w w' := by
 obtain ⟨xq, yq, rfl, _, zq⟩ := h.qs.form
 obtain ⟨xa, ya, rfl, _, za⟩ := h.ans.form
 obtain ⟨xb, yb, rfl, _, zb⟩ := h.aus.form
 obtain ⟨xm, ym, rfl, _, zm⟩ := h.more.form
 obtain ⟨xp, yp, rfl, _, zp⟩ := h.pres.form
 obtain ⟨xu, yu, rfl, _, zu⟩ := h.ups.form
 have b0 := below_alloc (w := w) (.cells #[.int .i64 m.id, .bool m.reply, .int .i64 m.op, .bool m.auth, .int .i64 m.code, .slice xq m.qs.length yq, .slice xa m.ans.length ya, .slice xb m.aus.length yb, .slice xm m.more.length ym, .slice xp m.pres.length yp, .slice xu m.ups.length yu] 33)
 have KK := hide (heap_alloc_new w (.cells #[.int .i64 m.id, .bool m.reply, .int .i64 m.op, .bool m.auth, .int .i64 m.code, .slice xq m.qs.length yq, .slice xa m.ans.length ya, .slice xb m.aus.length yb, .slice xm m.more.length ym, .slice xp m.pres.length yp, .slice xu m.ups.length yu] 33))
 have H := hide (h.below b0)
 have CM := fun (w : World) (h : HasM w (.slice xq m.qs.length yq) (.slice xa m.ans.length ya) (.slice xb m.aus.length yb) (.slice xm m.more.length ym) (.slice xp m.pres.length yp) (.slice xu m.ups.length yu) m) => l4may_has h
 have CB := fun (e : mayM m = true) (w : World) (h : HasM w (.slice xq m.qs.length yq) (.slice xa m.ans.length ya) (.slice xb m.aus.length yb) (.slice xm m.more.length ym) (.slice xp m.pres.length yp) (.slice xu m.ups.length yu) m) => l4bytes_has h e
 unfold okM
 have hbl := fun (e : mayM m = true) => (show (bytesM m).length ≤ 12833 by obtain ⟨_, _, _, _, _, _, _, _, _, _, _, _, _, _, _, _, q⟩ := bytesM_parts e; exact q)
 cases hm : mayM m with
 | false =>
  rw [hm] at CM
  replace CM := hide CM
  rw [Bool.false_and]
  clear h CB hbl hm
  obtain ⟨d0, d1, d2, d3, d4, d5, d6, d7, d8, d9, d10⟩ := cells11 (unhide KK)
  go_enter Tryz.func9, Tryz.ntmps9
  go_wp2_with fail
  clear d0 d1 d2 d3 d4 d5 d6 d7 d8 d9 d10
  generalize w.alloc (.cells #[.int .i64 m.id, .bool m.reply, .int .i64 m.op, .bool m.auth, .int .i64 m.code, .slice xq m.qs.length yq, .slice xa m.ans.length ya, .slice xb m.aus.length yb, .slice xm m.more.length ym, .slice xp m.pres.length yp, .slice xu m.ups.length yu] 33) = W at *
  refine (unhide CM _ (unhide H)).mono ?_
  rintro e w1 ⟨rfl, b1⟩
  replace b0 := below_next b0 b1
  go_wp2_with fail
  go_ret
  exact ⟨rfl, b0⟩
 | true =>
  rw [hm] at CM
  replace CM := hide CM
  have CB' := hide (CB hm)
  have hl := hbl hm
  rw [Bool.true_and]
  have HR := hide (show decide ((bytesM m).length ≤ 512) = decide ((bytesM m).length ≤ 512) from rfl)
  generalize hR : decide ((bytesM m).length ≤ 512) = R at *
  replace HR := hide hR
  clear h CB hbl hm hR
  generalize bytesM m = BM at *
  obtain ⟨d0, d1, d2, d3, d4, d5, d6, d7, d8, d9, d10⟩ := cells11 (unhide KK)
  go_enter Tryz.func9, Tryz.ntmps9
  go_wp2_with fail
  clear d0 d1 d2 d3 d4 d5 d6 d7 d8 d9 d10
  generalize w.alloc (.cells #[.int .i64 m.id, .bool m.reply, .int .i64 m.op, .bool m.auth, .int .i64 m.code, .slice xq m.qs.length yq, .slice xa m.ans.length ya, .slice xb m.aus.length yb, .slice xm m.more.length ym, .slice xp m.pres.length yp, .slice xu m.ups.length yu] 33) = W at *
  refine (unhide CM _ (unhide H)).mono ?_
  rintro e w1 ⟨rfl, b1⟩
  replace b0 := below_next b0 b1
  replace H := hide ((unhide H).below b1)
  obtain ⟨d0, d1, d2, d3, d4, d5, d6, d7, d8, d9, d10⟩ := cells11 (block_kept b1 (unhide KK))
  clear b1 KK
  go_wp2_with fail
  clear d0 d1 d2 d3 d4 d5 d6 d7 d8 d9 d10
  refine (unhide CB' _ (unhide H)).mono ?_
  rintro e w2 ⟨v2, rfl, o2, b2⟩
  obtain ⟨va, vc, rfl, _⟩ := o2.lies
  replace b0 := below_next b0 b2
  clear o2 b2 H CM CB'
  by_cases h512 : BM.length ≤ 512
  ·have hR := unhide HR
   rw [decide_eq_true h512] at hR
   subst hR
   clear HR
   generalize BM.length = n at *
   go_wp2_with fail
   go_ret
   exact ⟨show Ending.returned (.bool (decide ((n : Int) ≤ 512))) = .returned (.bool true) by rw [decide_eq_true (by omega)], b0⟩
  ·have hR := unhide HR
   rw [decide_eq_false h512] at hR
   subst hR
   clear HR
   generalize BM.length = n at *
   go_wp2_with fail
   go_ret
   exact ⟨show Ending.returned (.bool (decide ((n : Int) ≤ 512))) = .returned (.bool false) by rw [decide_eq_false (by omega)], b0⟩
end Go.Proofs.YtnplmeifhebhhaaGreat

namespace Go.Proofs.YtnplmeifhebhhaaGreat
open Go.RowKit
set_option linter.unusedVariables false

set_option maxHeartbeats 4000000 in
set_option maxRecDepth 100000 in
theorem lawMsgOk (aq : Option Addr) (cq : Nat) (aa : Option Addr) (ca : Nat) (ab : Option Addr) (cb : Nat) (am : Option Addr) (cm : Nat) (ap : Option Addr) (cp : Nat) (au : Option Addr) (cu : Nat) (m : Mg) (w : World) (h : InM w aq aa ab am ap au m) (hl : m.qs.length ≤ maxLen ∧ m.ans.length ≤ maxLen ∧ m.aus.length ≤ maxLen ∧ m.more.length ≤ maxLen ∧ m.pres.length ≤ maxLen ∧ m.ups.length ≤ maxLen) (hm : SizeM maxLen m) :
  Calls Tryz.prog 3 #[.agg #[.int .i64 m.id, .bool m.reply, .int .i64 m.op, .bool m.auth, .int .i64 m.code, .slice aq m.qs.length cq, .slice aa m.ans.length ca, .slice ab m.aus.length cb, .slice am m.more.length cm, .slice ap m.pres.length cp, .slice au m.ups.length cu]] w fun e w' => e = .returned (.bool true) ∧ Below w.heap.size w w' := by
 have bb := below_alloc (w := w) (.cells #[.int .i64 m.id, .bool m.reply, .int .i64 m.op, .bool m.auth, .int .i64 m.code, .slice aq m.qs.length cq, .slice aa m.ans.length ca, .slice ab m.aus.length cb, .slice am m.more.length cm, .slice ap m.pres.length cp, .slice au m.ups.length cu] 26)
 have K0 := hide (heap_alloc_new w (.cells #[.int .i64 m.id, .bool m.reply, .int .i64 m.op, .bool m.auth, .int .i64 m.code, .slice aq m.qs.length cq, .slice aa m.ans.length ca, .slice ab m.aus.length cb, .slice am m.more.length cm, .slice ap m.pres.length cp, .slice au m.ups.length cu] 26))
 have L0 := hide h
 have HM := hide hm
 have HLL := hide hl
 clear h hm hl
 go_enter Tryz.func3, Tryz.ntmps3
 go_wp2_with fail
 generalize w.alloc (.cells #[.int .i64 m.id, .bool m.reply, .int .i64 m.op, .bool m.auth, .int .i64 m.code, .slice aq m.qs.length cq, .slice aa m.ans.length ca, .slice ab m.aus.length cb, .slice am m.more.length cm, .slice ap m.pres.length cp, .slice au m.ups.length cu] 26) = W at *
 have zk0 := block_lt (unhide K0)
 refine (szMsg_any aq cq aa ca ab cb am cm ap cp au cu m 1048576 _ ((unhide L0).below bb) (unhide HLL) (unhide HM) (by omega) (by omega)).mono ?_
 rintro e w1 ⟨⟨y, rfl, hr0, hr1, hr2⟩, b1⟩
 replace bb := below_next bb b1
 replace K0 := hide (block_kept b1 (unhide K0))
 have z1 := b1.size
 clear b1
 by_cases hneg : y < 0
 ·clear hr2
  go_wp2_with fail
  go_ret
  exact ⟨rfl, bb⟩
 have HS := hide ((hr2 (by omega)).1.mono (s' := 1048576) (by omega))
 have HSS := hide ((unhide HS).mono (s' := 2097152) (by omega))
 have hcnt : m.count ≤ 1048576 := by have := (hr2 (by omega)).2; omega
 clear hr2 HM HLL
 have SP := fun (w : World) (vq va vb vm vp vu : Value) (h : HasM w vq va vb vm vp vu m) => specMsgOk_has h
 have IM := fun (w : World) (vq va vb vm vp vu : Value) (h : HasM w vq va vb vm vp vu m) => implMsgOk_has h
 generalize okM m = G0 at *
 have hgg : (G0 != G0) = false := by simp
 replace SP := hide SP
 replace IM := hide IM
 obtain ⟨k0, k1, k2, k3, k4, k5, k6, k7, k8, k9, k10⟩ := cells11 (unhide K0)
 go_wp2_with fail
 clear k0 k1 k2 k3 k4 k5 k6 k7 k8 k9 k10
 refine (toMsg_own aq cq aa ca ab cb am cm ap cp au cu m _ ((unhide L0).below bb) hcnt (unhide HS)).mono ?_
 rintro e w2 ⟨vq2, va2, vb2, vm2, vp2, vu2, rfl, o2, b2⟩
 obtain ⟨xq2, yq2, rfl, _⟩ := o2.has.qs.form
 obtain ⟨xa2, ya2, rfl, _⟩ := o2.has.ans.form
 obtain ⟨xb2, yb2, rfl, _⟩ := o2.has.aus.form
 obtain ⟨xm2, ym2, rfl, _⟩ := o2.has.more.form
 obtain ⟨xp2, yp2, rfl, _⟩ := o2.has.pres.form
 obtain ⟨xu2, yu2, rfl, _⟩ := o2.has.ups.form
 have A2 := hide o2.has
 clear o2
 replace bb := below_next bb b2
 replace K0 := hide (block_kept b2 (unhide K0))
 have zb2 := b2.size
 clear b2
 obtain ⟨k0, k1, k2, k3, k4, k5, k6, k7, k8, k9, k10⟩ := cells11 (unhide K0)
 go_wp2_with fail
 clear k0 k1 k2 k3 k4 k5 k6 k7 k8 k9 k10
 refine (unhide SP _ _ _ _ _ _ _ (unhide A2)).mono ?_
 rintro e w3 ⟨rfl, b3⟩
 clear A2
 replace bb := below_next bb b3
 replace K0 := hide (block_kept b3 (unhide K0))
 have zb3 := b3.size
 clear b3
 obtain ⟨k0, k1, k2, k3, k4, k5, k6, k7, k8, k9, k10⟩ := cells11 (unhide K0)
 go_wp2_with fail
 clear k0 k1 k2 k3 k4 k5 k6 k7 k8 k9 k10
 refine (toMsg_own aq cq aa ca ab cb am cm ap cp au cu m _ ((unhide L0).below bb) hcnt (unhide HS)).mono ?_
 rintro e w4 ⟨vq4, va4, vb4, vm4, vp4, vu4, rfl, o4, b4⟩
 obtain ⟨xq4, yq4, rfl, _⟩ := o4.has.qs.form
 obtain ⟨xa4, ya4, rfl, _⟩ := o4.has.ans.form
 obtain ⟨xb4, yb4, rfl, _⟩ := o4.has.aus.form
 obtain ⟨xm4, ym4, rfl, _⟩ := o4.has.more.form
 obtain ⟨xp4, yp4, rfl, _⟩ := o4.has.pres.form
 obtain ⟨xu4, yu4, rfl, _⟩ := o4.has.ups.form
 have X0 := hide o4
 clear o4
 replace bb := below_next bb b4
 replace K0 := hide (block_kept b4 (unhide K0))
 have zb4 := b4.size
 clear b4
 have b5 := below_alloc (w := w4) (.cells #[.int .i64 m.id, .bool m.reply, .int .i64 m.op, .bool m.auth, .int .i64 m.code, .slice xq4 m.qs.length yq4, .slice xa4 m.ans.length ya4, .slice xb4 m.aus.length yb4, .slice xm4 m.more.length ym4, .slice xp4 m.pres.length yp4, .slice xu4 m.ups.length yu4] 33)
 have VX := hide (heap_alloc_new w4 (.cells #[.int .i64 m.id, .bool m.reply, .int .i64 m.op, .bool m.auth, .int .i64 m.code, .slice xq4 m.qs.length yq4, .slice xa4 m.ans.length ya4, .slice xb4 m.aus.length yb4, .slice xm4 m.more.length ym4, .slice xp4 m.pres.length yp4, .slice xu4 m.ups.length yu4] 33))
 obtain ⟨k0, k1, k2, k3, k4, k5, k6, k7, k8, k9, k10⟩ := cells11 (block_kept b5 (unhide K0))
 go_wp2_with fail
 clear k0 k1 k2 k3 k4 k5 k6 k7 k8 k9 k10
 generalize w4.alloc (.cells #[.int .i64 m.id, .bool m.reply, .int .i64 m.op, .bool m.auth, .int .i64 m.code, .slice xq4 m.qs.length yq4, .slice xa4 m.ans.length ya4, .slice xb4 m.aus.length yb4, .slice xm4 m.more.length ym4, .slice xp4 m.pres.length yp4, .slice xu4 m.ups.length yu4] 33) = w5 at *
 replace bb := below_next bb b5
 replace K0 := hide (block_kept b5 (unhide K0))
 replace X0 := hide ((unhide X0).below b5)
 have zb5 := b5.size
 clear b5
 have zvx := block_lt (unhide VX)
 refine (unhide IM _ _ _ _ _ _ _ (unhide X0).has).mono ?_
 rintro e w6 ⟨rfl, b6⟩
 replace bb := below_next bb b6
 replace K0 := hide (block_kept b6 (unhide K0))
 replace X0 := hide ((unhide X0).below b6)
 replace VX := hide (block_kept b6 (unhide VX))
 have zb6 := b6.size
 clear b6
 have bd := below_drew (w := w6)
 have zd : w6.drew.heap.size = w6.heap.size := rfl
 replace bb := below_next bb bd
 replace K0 := hide (block_kept bd (unhide K0))
 replace X0 := hide ((unhide X0).below bd)
 replace VX := hide (block_kept bd (unhide VX))
 have zbd := bd.size
 clear bd
 obtain ⟨k0, k1, k2, k3, k4, k5, k6, k7, k8, k9, k10⟩ := cells11 (unhide K0)
 obtain ⟨x0, x1, x2, x3, x4, x5, x6, x7, x8, x9, x10⟩ := cells11 (unhide VX)
 go_wp2_with fail
 clear k0 k1 k2 k3 k4 k5 k6 k7 k8 k9 k10 x0 x1 x2 x3 x4 x5 x6 x7 x8 x9 x10
 go_region_held3 (fun w' => (w'.cell? ⟨w.heap.size, 0, none⟩ = some (.int .i64 m.id) ∧ w'.cell? ⟨w.heap.size, 1, none⟩ = some (.bool m.reply) ∧ w'.cell? ⟨w.heap.size, 2, none⟩ = some (.int .i64 m.op) ∧ w'.cell? ⟨w.heap.size, 3, none⟩ = some (.bool m.auth) ∧ w'.cell? ⟨w.heap.size, 4, none⟩ = some (.int .i64 m.code) ∧ w'.cell? ⟨w.heap.size, 5, none⟩ = some (.slice aq m.qs.length cq) ∧ w'.cell? ⟨w.heap.size, 6, none⟩ = some (.slice aa m.ans.length ca) ∧ w'.cell? ⟨w.heap.size, 7, none⟩ = some (.slice ab m.aus.length cb) ∧ w'.cell? ⟨w.heap.size, 8, none⟩ = some (.slice am m.more.length cm) ∧ w'.cell? ⟨w.heap.size, 9, none⟩ = some (.slice ap m.pres.length cp) ∧ w'.cell? ⟨w.heap.size, 10, none⟩ = some (.slice au m.ups.length cu)) ∧ (w'.cell? ⟨w4.heap.size, 0, none⟩ = some (.int .i64 m.id) ∧ w'.cell? ⟨w4.heap.size, 1, none⟩ = some (.bool m.reply) ∧ w'.cell? ⟨w4.heap.size, 2, none⟩ = some (.int .i64 m.op) ∧ w'.cell? ⟨w4.heap.size, 3, none⟩ = some (.bool m.auth) ∧ w'.cell? ⟨w4.heap.size, 4, none⟩ = some (.int .i64 m.code) ∧ w'.cell? ⟨w4.heap.size, 5, none⟩ = some (.slice xq4 m.qs.length yq4) ∧ w'.cell? ⟨w4.heap.size, 6, none⟩ = some (.slice xa4 m.ans.length ya4) ∧ w'.cell? ⟨w4.heap.size, 7, none⟩ = some (.slice xb4 m.aus.length yb4) ∧ w'.cell? ⟨w4.heap.size, 8, none⟩ = some (.slice xm4 m.more.length ym4) ∧ w'.cell? ⟨w4.heap.size, 9, none⟩ = some (.slice xp4 m.pres.length yp4) ∧ w'.cell? ⟨w4.heap.size, 10, none⟩ = some (.slice xu4 m.ups.length yu4)))
  (first | exact ⟨cells11 (unhide K0), cells11 (unhide VX)⟩ | exact ⟨cells11 (block_kept b8 (unhide K0)), cells11 (block_kept b8 (unhide VX))⟩ | exact ⟨cells11 (block_kept q9 (unhide K0)), cells11 (block_kept q9 (unhide VX))⟩)
  (first
  | (go_at_call 10; refine (toMsg_own aq cq aa ca ab cb am cm ap cp au cu m _ ((unhide L0).below bb) hcnt (unhide HS)).mono ?_; rintro e w8 ⟨vq8, va8, vb8, vm8, vp8, vu8, rfl, o8, b8⟩; obtain ⟨xq8, yq8, rfl, _⟩ := o8.has.qs.form; obtain ⟨xa8, ya8, rfl, _⟩ := o8.has.ans.form; obtain ⟨xb8, yb8, rfl, _⟩ := o8.has.aus.form; obtain ⟨xm8, ym8, rfl, _⟩ := o8.has.more.form; obtain ⟨xp8, yp8, rfl, _⟩ := o8.has.pres.form; obtain ⟨xu8, yu8, rfl, _⟩ := o8.has.ups.form)
  | (go_at_call 12; refine (eqMsg_has ((unhide X0).below b8).has o8.has (unhide HSS)).mono ?_; rintro e w9 ⟨rfl, b9⟩; have q9 := below_next b8 b9))
 clear b8 b9 o8
 replace bb := below_next bb q9
 replace K0 := hide (block_kept q9 (unhide K0))
 replace X0 := hide ((unhide X0).below q9)
 replace VX := hide (block_kept q9 (unhide VX))
 have zq9 := q9.size
 clear q9
 go_wp2_with fail
 go_ret
 exact ⟨rfl, bb⟩
end Go.Proofs.YtnplmeifhebhhaaGreat
