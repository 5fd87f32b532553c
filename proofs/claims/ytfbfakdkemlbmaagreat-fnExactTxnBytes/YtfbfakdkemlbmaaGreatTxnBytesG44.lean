/-
  Contracts of the specification's l4bytes and MsgOk. Contract of the specification's TxnOk at kind 0. Contract of the specification's TxnOk at kind 1. Contract of the specification's TxnOk at kind 2. Contract of the specification's TxnOk at kind 3.
-/
import Derived.Test.YtfbfakdkemlbmaaGreatTxnBytesG38
import Derived.Test.YtfbfakdkemlbmaaGreatTxnBytesG39
import Derived.Test.YtfbfakdkemlbmaaGreatTxnBytesG43
import Derived.Test.YtfbfakdkemlbmaaGreatTxnBytesG16
import Derived.Test.YtfbfakdkemlbmaaGreatTxnBytesG15
import Derived.Test.YtfbfakdkemlbmaaGreatTxnBytesG33
import Derived.Test.YtfbfakdkemlbmaaGreatTxnBytesG01
namespace Go.Proofs.YtfbfakdkemlbmaaGreat
open Go.RowKit
set_option linter.unusedVariables false

theorem l4bytes_has {vq va vb vm vp vu : Value} {m : Mg} {w : World} (h : HasM w vq va vb vm vp vu m) (hmay : mayM m = true) :
  Calls Tryz.prog 31 #[.agg #[.int .i64 m.id, .bool m.reply, .int .i64 m.op, .bool m.auth, .int .i64 m.code, vq, va, vb, vm, vp, vu]] w fun e w' => ∃ v', e = .returned v' ∧ Own w.heap.size 5 w' v' (bytesM m) ∧ Below w.heap.size w w' := by
 rcases (mayM_parts hmay).2.2.2.2.2.1 with hop | hop
 ·exact l4bytes_q h hmay hop
 ·exact l4bytes_u h hmay hop

set_option maxHeartbeats 1000000 in
set_option maxRecDepth 100000 in
theorem specMsgOk_has {vq va vb vm vp vu : Value} {m : Mg} {w : World} (h : HasM w vq va vb vm vp vu m) :
  Calls Tryz.prog 26 #[.agg #[.int .i64 m.id, .bool m.reply, .int .i64 m.op, .bool m.auth, .int .i64 m.code, vq, va, vb, vm, vp, vu]] w fun e w' => e = .returned (.bool (okM m)) ∧ Below w.heap.size w w' := by
 obtain ⟨xq, yq, rfl, _, zq⟩ := h.qs.form
 obtain ⟨xa, ya, rfl, _, za⟩ := h.ans.form
 obtain ⟨xb, yb, rfl, _, zb⟩ := h.aus.form
 obtain ⟨xm, ym, rfl, _, zm⟩ := h.more.form
 obtain ⟨xp, yp, rfl, _, zp⟩ := h.pres.form
 obtain ⟨xu, yu, rfl, _, zu⟩ := h.ups.form
 have b0 := below_alloc (w := w) (.cells #[.int .i64 m.id, .bool m.reply, .int .i64 m.op, .bool m.auth, .int .i64 m.code, .slice xq m.qs.length yq, .slice xa m.ans.length ya, .slice xb m.aus.length yb, .slice xm m.more.length ym, .slice xp m.pres.length yp, .slice xu m.ups.length yu] 37)
 have KK := hide (heap_alloc_new w (.cells #[.int .i64 m.id, .bool m.reply, .int .i64 m.op, .bool m.auth, .int .i64 m.code, .slice xq m.qs.length yq, .slice xa m.ans.length ya, .slice xb m.aus.length yb, .slice xm m.more.length ym, .slice xp m.pres.length yp, .slice xu m.ups.length yu] 37))
 have H := hide (h.below b0)
 have CM := fun (w : World) (h : HasM w (.slice xq m.qs.length yq) (.slice xa m.ans.length ya) (.slice xb m.aus.length yb) (.slice xm m.more.length ym) (.slice xp m.pres.length yp) (.slice xu m.ups.length yu) m) => l4may_has h
 have CB := fun (e : mayM m = true) (w : World) (h : HasM w (.slice xq m.qs.length yq) (.slice xa m.ans.length ya) (.slice xb m.aus.length yb) (.slice xm m.more.length ym) (.slice xp m.pres.length yp) (.slice xu m.ups.length yu) m) => l4bytes_has h e
 unfold okM
 have hbl := fun (e : mayM m = true) => (show (bytesM m).length ≤ 12833 by obtain ⟨_, _, _, _, _, _, _, _, _, _, _, _, _, _, _, _, q⟩ := bytesM_parts e; exact q)
 cases hm : mayM m with
 | false =>
  rw [hm] at CM
  replace CM := hide CM
  rw [Bool.false_and]
  clear h CB hbl hm
  obtain ⟨d0, d1, d2, d3, d4, d5, d6, d7, d8, d9, d10⟩ := cells11 (unhide KK)
  go_enter Tryz.func26, Tryz.ntmps26
  go_wp2_with fail
  clear d0 d1 d2 d3 d4 d5 d6 d7 d8 d9 d10
  generalize w.alloc (.cells #[.int .i64 m.id, .bool m.reply, .int .i64 m.op, .bool m.auth, .int .i64 m.code, .slice xq m.qs.length yq, .slice xa m.ans.length ya, .slice xb m.aus.length yb, .slice xm m.more.length ym, .slice xp m.pres.length yp, .slice xu m.ups.length yu] 37) = W at *
  refine (unhide CM _ (unhide H)).mono ?_
  rintro e w1 ⟨rfl, b1⟩
  replace b0 := below_next b0 b1
  go_wp2_with fail
  go_ret
  exact ⟨rfl, b0⟩
 | true =>
  rw [hm] at CM
  replace CM := hide CM
  have CB' := hide (CB hm)
  have hl := hbl hm
  rw [Bool.true_and]
  have HR := hide (show decide ((bytesM m).length ≤ 512) = decide ((bytesM m).length ≤ 512) from rfl)
  generalize hR : decide ((bytesM m).length ≤ 512) = R at *
  replace HR := hide hR
  clear h CB hbl hm hR
  generalize bytesM m = BM at *
  obtain ⟨d0, d1, d2, d3, d4, d5, d6, d7, d8, d9, d10⟩ := cells11 (unhide KK)
  go_enter Tryz.func26, Tryz.ntmps26
  go_wp2_with fail
  clear d0 d1 d2 d3 d4 d5 d6 d7 d8 d9 d10
  generalize w.alloc (.cells #[.int .i64 m.id, .bool m.reply, .int .i64 m.op, .bool m.auth, .int .i64 m.code, .slice xq m.qs.length yq, .slice xa m.ans.length ya, .slice xb m.aus.length yb, .slice xm m.more.length ym, .slice xp m.pres.length yp, .slice xu m.ups.length yu] 37) = W at *
  refine (unhide CM _ (unhide H)).mono ?_
  rintro e w1 ⟨rfl, b1⟩
  replace b0 := below_next b0 b1
  replace H := hide ((unhide H).below b1)
  obtain ⟨d0, d1, d2, d3, d4, d5, d6, d7, d8, d9, d10⟩ := cells11 (block_kept b1 (unhide KK))
  clear b1 KK
  go_wp2_with fail
  clear d0 d1 d2 d3 d4 d5 d6 d7 d8 d9 d10
  refine (unhide CB' _ (unhide H)).mono ?_
  rintro e w2 ⟨v2, rfl, o2, b2⟩
  obtain ⟨va, vc, rfl, _⟩ := o2.lies
  replace b0 := below_next b0 b2
  clear o2 b2 H CM CB'
  by_cases h512 : BM.length ≤ 512
  ·have hR := unhide HR
   rw [decide_eq_true h512] at hR
   subst hR
   clear HR
   generalize BM.length = n at *
   go_wp2_with fail
   go_ret
   exact ⟨show Ending.returned (.bool (decide ((n : Int) ≤ 512))) = .returned (.bool true) by rw [decide_eq_true (by omega)], b0⟩
  ·have hR := unhide HR
   rw [decide_eq_false h512] at hR
   subst hR
   clear HR
   generalize BM.length = n at *
   go_wp2_with fail
   go_ret
   exact ⟨show Ending.returned (.bool (decide ((n : Int) ≤ 512))) = .returned (.bool false) by rw [decide_eq_false (by omega)], b0⟩
end Go.Proofs.YtfbfakdkemlbmaaGreat

namespace Go.Proofs.YtfbfakdkemlbmaaGreat
open Go.RowKit
set_option linter.unusedVariables false

set_option maxHeartbeats 4000000 in
set_option maxRecDepth 100000 in
theorem specTxnOk0 {vq va vb vm vp vu vc vh : Value} {t : Tx} {w : World} (h : HasTx w vq va vb vm vp vu vc vh t) (hct : t.msg.count ≤ 1048576) :
  Calls Tryz.prog 15 #[.agg #[.int .i64 0, .int .i64 t.msg.id, .bool t.msg.reply, .int .i64 t.msg.op, .bool t.msg.auth, .int .i64 t.msg.code, vq, va, vb, vm, vp, vu, .int .i64 t.ip, vc, vh, .int .i64 t.when]] w fun e w' => e = .returned (.bool (okM t.msg && (decide (t.msg.op = 5) && (!t.msg.reply && (decide (t.ip = 0) && (decide (t.client.length = 0) && (decide (t.host.length = 0) && decide (t.when = 0)))))))) ∧ Below w.heap.size w w' := by
 obtain ⟨xq, yq, rfl, _, zq⟩ := h.msg.qs.form
 obtain ⟨xa, ya, rfl, _, za⟩ := h.msg.ans.form
 obtain ⟨xb, yb, rfl, _, zb⟩ := h.msg.aus.form
 obtain ⟨xm, ym, rfl, _, zm⟩ := h.msg.more.form
 obtain ⟨xp, yp, rfl, _, zp⟩ := h.msg.pres.form
 obtain ⟨xu, yu, rfl, _, zu⟩ := h.msg.ups.form
 have hcb := h.client.bound
 have hhb := h.host.bound
 obtain ⟨xc, yc, rfl, _⟩ := h.client.form
 obtain ⟨xh, yh, rfl, _⟩ := h.host.form
 have b0 := below_alloc (w := w) (.cells #[.int .i64 0, .int .i64 t.msg.id, .bool t.msg.reply, .int .i64 t.msg.op, .bool t.msg.auth, .int .i64 t.msg.code, .slice xq t.msg.qs.length yq, .slice xa t.msg.ans.length ya, .slice xb t.msg.aus.length yb, .slice xm t.msg.more.length ym, .slice xp t.msg.pres.length yp, .slice xu t.msg.ups.length yu, .int .i64 t.ip, .slice xc t.client.length yc, .slice xh t.host.length yh, .int .i64 t.when] 39)
 have KK := hide (heap_alloc_new w (.cells #[.int .i64 0, .int .i64 t.msg.id, .bool t.msg.reply, .int .i64 t.msg.op, .bool t.msg.auth, .int .i64 t.msg.code, .slice xq t.msg.qs.length yq, .slice xa t.msg.ans.length ya, .slice xb t.msg.aus.length yb, .slice xm t.msg.more.length ym, .slice xp t.msg.pres.length yp, .slice xu t.msg.ups.length yu, .int .i64 t.ip, .slice xc t.client.length yc, .slice xh t.host.length yh, .int .i64 t.when] 39))
 have CM := specMsgOk_has (h.below b0).msg
 have HC := hide (h.below b0).client
 have HH := hide (h.below b0).host
 generalize hR0 : (okM t.msg && (decide (t.msg.op = 5) && (!t.msg.reply && (decide (t.ip = 0) && (decide (t.client.length = 0) && (decide (t.host.length = 0) && decide (t.when = 0))))))) = R at *
 have HR := hide hR0.symm
 clear hR0 h hct
 generalize okM t.msg = GM at *
 replace CM := hide CM
 clear HC HH
 generalize t.msg.op = O at *
 generalize t.msg.reply = RE at *
 generalize t.ip = IPV at *
 generalize t.when = WHV at *
 generalize t.client.length = NC at *
 generalize t.host.length = NH at *
 go_enter Tryz.func15, Tryz.ntmps15
 obtain ⟨d0, d1, d2, d3, d4, d5, d6, d7, d8, d9, d10, d11, d12, d13, d14, d15⟩ := cells16 (unhide KK)
 go_wp2_with fail
 clear d0 d1 d2 d3 d4 d5 d6 d7 d8 d9 d10 d11 d12 d13 d14 d15
 refine (unhide CM).mono ?_
 rintro e w1 ⟨rfl, b1⟩
 replace b0 := below_next b0 b1
 replace KK := hide (block_kept b1 (unhide KK))
 clear b1 CM
 cases GM with
 | false =>
  have hR : R = false := by have := unhide HR; rw [this] <;> simp
  subst hR
  clear HR
  obtain ⟨d0, d1, d2, d3, d4, d5, d6, d7, d8, d9, d10, d11, d12, d13, d14, d15⟩ := cells16 (unhide KK)
  go_wp2_with fail
  go_ret
  exact ⟨rfl, b0⟩
 | true =>
  by_cases e1 : O = 5
  ·subst e1
   cases RE with
   | true =>
    have hR : R = false := by have := unhide HR; rw [this] <;> simp
    subst hR
    clear HR
    obtain ⟨d0, d1, d2, d3, d4, d5, d6, d7, d8, d9, d10, d11, d12, d13, d14, d15⟩ := cells16 (unhide KK)
    go_wp2_with fail
    go_ret
    exact ⟨rfl, b0⟩
   | false =>
    by_cases e3 : IPV = 0
    ·subst e3
     by_cases e4 : NC = 0
     ·subst e4
      by_cases e5 : NH = 0
      ·subst e5
       by_cases e6 : WHV = 0
       ·subst e6
        have hR : R = true := by have := unhide HR; rw [this] <;> simp
        subst hR
        obtain ⟨d0, d1, d2, d3, d4, d5, d6, d7, d8, d9, d10, d11, d12, d13, d14, d15⟩ := cells16 (unhide KK)
        go_wp2_with fail
        go_ret
        exact ⟨rfl, b0⟩
       ·have q6 : (WHV == 0) = false := by rw [beq_eq_false_iff_ne]; omega
        have hR : R = false := by have := unhide HR; rw [this] <;> simp [e6]
        subst hR
        clear HR e6
        obtain ⟨d0, d1, d2, d3, d4, d5, d6, d7, d8, d9, d10, d11, d12, d13, d14, d15⟩ := cells16 (unhide KK)
        go_wp2_with fail
        go_ret
        exact ⟨rfl, b0⟩
      ·have q5 : (((NH : Nat) : Int) == 0) = false := by rw [beq_eq_false_iff_ne]; omega
       have hR : R = false := by have := unhide HR; rw [this] <;> simp [e5]
       subst hR
       clear HR e5
       obtain ⟨d0, d1, d2, d3, d4, d5, d6, d7, d8, d9, d10, d11, d12, d13, d14, d15⟩ := cells16 (unhide KK)
       go_wp2_with fail
       go_ret
       exact ⟨rfl, b0⟩
     ·have q4 : (((NC : Nat) : Int) == 0) = false := by rw [beq_eq_false_iff_ne]; omega
      have hR : R = false := by have := unhide HR; rw [this] <;> simp [e4]
      subst hR
      clear HR e4
      obtain ⟨d0, d1, d2, d3, d4, d5, d6, d7, d8, d9, d10, d11, d12, d13, d14, d15⟩ := cells16 (unhide KK)
      go_wp2_with fail
      go_ret
      exact ⟨rfl, b0⟩
    ·have q3 : (IPV == 0) = false := by rw [beq_eq_false_iff_ne]; omega
     have hR : R = false := by have := unhide HR; rw [this] <;> simp [e3]
     subst hR
     clear HR e3
     obtain ⟨d0, d1, d2, d3, d4, d5, d6, d7, d8, d9, d10, d11, d12, d13, d14, d15⟩ := cells16 (unhide KK)
     go_wp2_with fail
     go_ret
     exact ⟨rfl, b0⟩
  ·have q1 : (O == 5) = false := by rw [beq_eq_false_iff_ne]; omega
   have hR : R = false := by have := unhide HR; rw [this] <;> simp [e1]
   subst hR
   clear HR e1
   obtain ⟨d0, d1, d2, d3, d4, d5, d6, d7, d8, d9, d10, d11, d12, d13, d14, d15⟩ := cells16 (unhide KK)
   go_wp2_with fail
   go_ret
   exact ⟨rfl, b0⟩
end Go.Proofs.YtfbfakdkemlbmaaGreat

namespace Go.Proofs.YtfbfakdkemlbmaaGreat
open Go.RowKit
set_option linter.unusedVariables false

set_option maxHeartbeats 4000000 in
set_option maxRecDepth 100000 in
theorem specTxnOk1 {vq va vb vm vp vu vc vh : Value} {t : Tx} {w : World} (h : HasTx w vq va vb vm vp vu vc vh t) (hct : t.msg.count ≤ 1048576) :
  Calls Tryz.prog 15 #[.agg #[.int .i64 1, .int .i64 t.msg.id, .bool t.msg.reply, .int .i64 t.msg.op, .bool t.msg.auth, .int .i64 t.msg.code, vq, va, vb, vm, vp, vu, .int .i64 t.ip, vc, vh, .int .i64 t.when]] w fun e w' => e = .returned (.bool (emptyM t.msg && (ipB t.ip && (clientB t.client && (labelOk t.host && (decide (0 ≤ t.when ∧ t.when ≤ 2000000))))))) ∧ Below w.heap.size w w' := by
 obtain ⟨xq, yq, rfl, _, zq⟩ := h.msg.qs.form
 obtain ⟨xa, ya, rfl, _, za⟩ := h.msg.ans.form
 obtain ⟨xb, yb, rfl, _, zb⟩ := h.msg.aus.form
 obtain ⟨xm, ym, rfl, _, zm⟩ := h.msg.more.form
 obtain ⟨xp, yp, rfl, _, zp⟩ := h.msg.pres.form
 obtain ⟨xu, yu, rfl, _, zu⟩ := h.msg.ups.form
 have hcb := h.client.bound
 have hhb := h.host.bound
 obtain ⟨xc, yc, rfl, _⟩ := h.client.form
 obtain ⟨xh, yh, rfl, _⟩ := h.host.form
 have b0 := below_alloc (w := w) (.cells #[.int .i64 1, .int .i64 t.msg.id, .bool t.msg.reply, .int .i64 t.msg.op, .bool t.msg.auth, .int .i64 t.msg.code, .slice xq t.msg.qs.length yq, .slice xa t.msg.ans.length ya, .slice xb t.msg.aus.length yb, .slice xm t.msg.more.length ym, .slice xp t.msg.pres.length yp, .slice xu t.msg.ups.length yu, .int .i64 t.ip, .slice xc t.client.length yc, .slice xh t.host.length yh, .int .i64 t.when] 39)
 have KK := hide (heap_alloc_new w (.cells #[.int .i64 1, .int .i64 t.msg.id, .bool t.msg.reply, .int .i64 t.msg.op, .bool t.msg.auth, .int .i64 t.msg.code, .slice xq t.msg.qs.length yq, .slice xa t.msg.ans.length ya, .slice xb t.msg.aus.length yb, .slice xm t.msg.more.length ym, .slice xp t.msg.pres.length yp, .slice xu t.msg.ups.length yu, .int .i64 t.ip, .slice xc t.client.length yc, .slice xh t.host.length yh, .int .i64 t.when] 39))
 have CM := l9emptyMsg_has (h.below b0).msg hct
 have C0 := fun (w : World) => l8ip_any t.ip w
 have C1 := fun (w : World) (h : Has w (.slice xc t.client.length yc) t.client) => l7client_has h
 have C2 := fun (w : World) (h : Has w (.slice xh t.host.length yh) t.host) => specLabelOk_has h
 have HC := hide (h.below b0).client
 have HH := hide (h.below b0).host
 generalize hR0 : (emptyM t.msg && (ipB t.ip && (clientB t.client && (labelOk t.host && (decide (0 ≤ t.when ∧ t.when ≤ 2000000)))))) = R at *
 have HR := hide hR0.symm
 clear hR0 h hct
 generalize emptyM t.msg = GM at *
 generalize ipB t.ip = G0 at *
 generalize clientB t.client = G1 at *
 generalize labelOk t.host = G2 at *
 replace CM := hide CM
 replace C0 := hide C0
 replace C1 := hide C1
 replace C2 := hide C2
 generalize t.ip = IPV at *
 generalize t.when = WHV at *
 go_enter Tryz.func15, Tryz.ntmps15
 obtain ⟨d0, d1, d2, d3, d4, d5, d6, d7, d8, d9, d10, d11, d12, d13, d14, d15⟩ := cells16 (unhide KK)
 go_wp2_with fail
 clear d0 d1 d2 d3 d4 d5 d6 d7 d8 d9 d10 d11 d12 d13 d14 d15
 refine (unhide CM).mono ?_
 rintro e w1 ⟨rfl, b1⟩
 replace b0 := below_next b0 b1
 replace KK := hide (block_kept b1 (unhide KK))
 replace HC := hide ((unhide HC).below b1)
 replace HH := hide ((unhide HH).below b1)
 clear b1 CM
 cases GM with
 | false =>
  have hR : R = false := by have := unhide HR; rw [this] <;> simp
  subst hR
  clear HR
  obtain ⟨d0, d1, d2, d3, d4, d5, d6, d7, d8, d9, d10, d11, d12, d13, d14, d15⟩ := cells16 (unhide KK)
  go_wp2_with fail
  go_ret
  exact ⟨rfl, b0⟩
 | true =>
  obtain ⟨d0, d1, d2, d3, d4, d5, d6, d7, d8, d9, d10, d11, d12, d13, d14, d15⟩ := cells16 (unhide KK)
  go_wp2_with fail
  clear d0 d1 d2 d3 d4 d5 d6 d7 d8 d9 d10 d11 d12 d13 d14 d15
  refine (unhide C0 _).mono ?_
  rintro e w2 ⟨rfl, rfl⟩
  cases G0 with
  | false =>
   have hR : R = false := by have := unhide HR; rw [this] <;> simp
   subst hR
   clear HR
   obtain ⟨d0, d1, d2, d3, d4, d5, d6, d7, d8, d9, d10, d11, d12, d13, d14, d15⟩ := cells16 (unhide KK)
   go_wp2_with fail
   go_ret
   exact ⟨rfl, b0⟩
  | true =>
   obtain ⟨d0, d1, d2, d3, d4, d5, d6, d7, d8, d9, d10, d11, d12, d13, d14, d15⟩ := cells16 (unhide KK)
   go_wp2_with fail
   clear d0 d1 d2 d3 d4 d5 d6 d7 d8 d9 d10 d11 d12 d13 d14 d15
   refine (unhide C1 _ (unhide HC)).mono ?_
   rintro e w3 ⟨rfl, rfl⟩
   clear HC
   cases G1 with
   | false =>
    have hR : R = false := by have := unhide HR; rw [this] <;> simp
    subst hR
    clear HR
    obtain ⟨d0, d1, d2, d3, d4, d5, d6, d7, d8, d9, d10, d11, d12, d13, d14, d15⟩ := cells16 (unhide KK)
    go_wp2_with fail
    go_ret
    exact ⟨rfl, b0⟩
   | true =>
    obtain ⟨d0, d1, d2, d3, d4, d5, d6, d7, d8, d9, d10, d11, d12, d13, d14, d15⟩ := cells16 (unhide KK)
    go_wp2_with fail
    clear d0 d1 d2 d3 d4 d5 d6 d7 d8 d9 d10 d11 d12 d13 d14 d15
    refine (unhide C2 _ (unhide HH)).mono ?_
    rintro e w4 ⟨rfl, rfl⟩
    clear HH
    cases G2 with
    | false =>
     have hR : R = false := by have := unhide HR; rw [this] <;> simp
     subst hR
     clear HR
     obtain ⟨d0, d1, d2, d3, d4, d5, d6, d7, d8, d9, d10, d11, d12, d13, d14, d15⟩ := cells16 (unhide KK)
     go_wp2_with fail
     go_ret
     exact ⟨rfl, b0⟩
    | true =>
     by_cases e4 : 0 ≤ WHV
     ·by_cases e5 : WHV ≤ 2000000
      ·have hR : R = true := by have := unhide HR; rw [this] <;> simp [e4, e5]
       subst hR
       obtain ⟨d0, d1, d2, d3, d4, d5, d6, d7, d8, d9, d10, d11, d12, d13, d14, d15⟩ := cells16 (unhide KK)
       go_wp2_with fail
       go_ret
       exact ⟨rfl, b0⟩
      ·have hR : R = false := by have := unhide HR; rw [this] <;> simp [e5]
       have n5 : decide (WHV ≤ 2000000) = false := by first | omega | exact decide_eq_false (by omega)
       subst hR
       clear HR e5
       obtain ⟨d0, d1, d2, d3, d4, d5, d6, d7, d8, d9, d10, d11, d12, d13, d14, d15⟩ := cells16 (unhide KK)
       go_wp2_with fail
       go_ret
       exact ⟨rfl, b0⟩
     ·have hR : R = false := by have := unhide HR; rw [this] <;> simp [e4]
      have n4 : WHV < 0 := by first | omega | exact decide_eq_false (by omega)
      subst hR
      clear HR e4
      obtain ⟨d0, d1, d2, d3, d4, d5, d6, d7, d8, d9, d10, d11, d12, d13, d14, d15⟩ := cells16 (unhide KK)
      go_wp2_with fail
      go_ret
      exact ⟨rfl, b0⟩
end Go.Proofs.YtfbfakdkemlbmaaGreat

namespace Go.Proofs.YtfbfakdkemlbmaaGreat
open Go.RowKit
set_option linter.unusedVariables false

set_option maxHeartbeats 4000000 in
set_option maxRecDepth 100000 in
theorem specTxnOk2 {vq va vb vm vp vu vc vh : Value} {t : Tx} {w : World} (h : HasTx w vq va vb vm vp vu vc vh t) (hct : t.msg.count ≤ 1048576) :
  Calls Tryz.prog 15 #[.agg #[.int .i64 2, .int .i64 t.msg.id, .bool t.msg.reply, .int .i64 t.msg.op, .bool t.msg.auth, .int .i64 t.msg.code, vq, va, vb, vm, vp, vu, .int .i64 t.ip, vc, vh, .int .i64 t.when]] w fun e w' => e = .returned (.bool (emptyM t.msg && (ipB t.ip && (clientB t.client && (decide (t.host.length = 0) && decide (t.when = 0)))))) ∧ Below w.heap.size w w' := by
 obtain ⟨xq, yq, rfl, _, zq⟩ := h.msg.qs.form
 obtain ⟨xa, ya, rfl, _, za⟩ := h.msg.ans.form
 obtain ⟨xb, yb, rfl, _, zb⟩ := h.msg.aus.form
 obtain ⟨xm, ym, rfl, _, zm⟩ := h.msg.more.form
 obtain ⟨xp, yp, rfl, _, zp⟩ := h.msg.pres.form
 obtain ⟨xu, yu, rfl, _, zu⟩ := h.msg.ups.form
 have hcb := h.client.bound
 have hhb := h.host.bound
 obtain ⟨xc, yc, rfl, _⟩ := h.client.form
 obtain ⟨xh, yh, rfl, _⟩ := h.host.form
 have b0 := below_alloc (w := w) (.cells #[.int .i64 2, .int .i64 t.msg.id, .bool t.msg.reply, .int .i64 t.msg.op, .bool t.msg.auth, .int .i64 t.msg.code, .slice xq t.msg.qs.length yq, .slice xa t.msg.ans.length ya, .slice xb t.msg.aus.length yb, .slice xm t.msg.more.length ym, .slice xp t.msg.pres.length yp, .slice xu t.msg.ups.length yu, .int .i64 t.ip, .slice xc t.client.length yc, .slice xh t.host.length yh, .int .i64 t.when] 39)
 have KK := hide (heap_alloc_new w (.cells #[.int .i64 2, .int .i64 t.msg.id, .bool t.msg.reply, .int .i64 t.msg.op, .bool t.msg.auth, .int .i64 t.msg.code, .slice xq t.msg.qs.length yq, .slice xa t.msg.ans.length ya, .slice xb t.msg.aus.length yb, .slice xm t.msg.more.length ym, .slice xp t.msg.pres.length yp, .slice xu t.msg.ups.length yu, .int .i64 t.ip, .slice xc t.client.length yc, .slice xh t.host.length yh, .int .i64 t.when] 39))
 have CM := l9emptyMsg_has (h.below b0).msg hct
 have C0 := fun (w : World) => l8ip_any t.ip w
 have C1 := fun (w : World) (h : Has w (.slice xc t.client.length yc) t.client) => l7client_has h
 have HC := hide (h.below b0).client
 have HH := hide (h.below b0).host
 generalize hR0 : (emptyM t.msg && (ipB t.ip && (clientB t.client && (decide (t.host.length = 0) && decide (t.when = 0))))) = R at *
 have HR := hide hR0.symm
 clear hR0 h hct
 generalize emptyM t.msg = GM at *
 generalize ipB t.ip = G0 at *
 generalize clientB t.client = G1 at *
 replace CM := hide CM
 replace C0 := hide C0
 replace C1 := hide C1
 generalize t.ip = IPV at *
 generalize t.when = WHV at *
 go_enter Tryz.func15, Tryz.ntmps15
 obtain ⟨d0, d1, d2, d3, d4, d5, d6, d7, d8, d9, d10, d11, d12, d13, d14, d15⟩ := cells16 (unhide KK)
 go_wp2_with fail
 clear d0 d1 d2 d3 d4 d5 d6 d7 d8 d9 d10 d11 d12 d13 d14 d15
 refine (unhide CM).mono ?_
 rintro e w1 ⟨rfl, b1⟩
 replace b0 := below_next b0 b1
 replace KK := hide (block_kept b1 (unhide KK))
 replace HC := hide ((unhide HC).below b1)
 replace HH := hide ((unhide HH).below b1)
 clear b1 CM
 cases GM with
 | false =>
  have hR : R = false := by have := unhide HR; rw [this] <;> simp
  subst hR
  clear HR
  obtain ⟨d0, d1, d2, d3, d4, d5, d6, d7, d8, d9, d10, d11, d12, d13, d14, d15⟩ := cells16 (unhide KK)
  go_wp2_with fail
  go_ret
  exact ⟨rfl, b0⟩
 | true =>
  obtain ⟨d0, d1, d2, d3, d4, d5, d6, d7, d8, d9, d10, d11, d12, d13, d14, d15⟩ := cells16 (unhide KK)
  go_wp2_with fail
  clear d0 d1 d2 d3 d4 d5 d6 d7 d8 d9 d10 d11 d12 d13 d14 d15
  refine (unhide C0 _).mono ?_
  rintro e w2 ⟨rfl, rfl⟩
  cases G0 with
  | false =>
   have hR : R = false := by have := unhide HR; rw [this] <;> simp
   subst hR
   clear HR
   obtain ⟨d0, d1, d2, d3, d4, d5, d6, d7, d8, d9, d10, d11, d12, d13, d14, d15⟩ := cells16 (unhide KK)
   go_wp2_with fail
   go_ret
   exact ⟨rfl, b0⟩
  | true =>
   obtain ⟨d0, d1, d2, d3, d4, d5, d6, d7, d8, d9, d10, d11, d12, d13, d14, d15⟩ := cells16 (unhide KK)
   go_wp2_with fail
   clear d0 d1 d2 d3 d4 d5 d6 d7 d8 d9 d10 d11 d12 d13 d14 d15
   refine (unhide C1 _ (unhide HC)).mono ?_
   rintro e w3 ⟨rfl, rfl⟩
   clear HC
   clear HH
   generalize t.host.length = NH at *
   cases G1 with
   | false =>
    have hR : R = false := by have := unhide HR; rw [this] <;> simp
    subst hR
    clear HR
    obtain ⟨d0, d1, d2, d3, d4, d5, d6, d7, d8, d9, d10, d11, d12, d13, d14, d15⟩ := cells16 (unhide KK)
    go_wp2_with fail
    go_ret
    exact ⟨rfl, b0⟩
   | true =>
    by_cases e3 : NH = 0
    ·subst e3
     by_cases e4 : WHV = 0
     ·subst e4
      have hR : R = true := by have := unhide HR; rw [this] <;> simp
      subst hR
      obtain ⟨d0, d1, d2, d3, d4, d5, d6, d7, d8, d9, d10, d11, d12, d13, d14, d15⟩ := cells16 (unhide KK)
      go_wp2_with fail
      go_ret
      exact ⟨rfl, b0⟩
     ·have q4 : (WHV == 0) = false := by rw [beq_eq_false_iff_ne]; omega
      have hR : R = false := by have := unhide HR; rw [this] <;> simp [e4]
      subst hR
      clear HR e4
      obtain ⟨d0, d1, d2, d3, d4, d5, d6, d7, d8, d9, d10, d11, d12, d13, d14, d15⟩ := cells16 (unhide KK)
      go_wp2_with fail
      go_ret
      exact ⟨rfl, b0⟩
    ·have q3 : (((NH : Nat) : Int) == 0) = false := by rw [beq_eq_false_iff_ne]; omega
     have hR : R = false := by have := unhide HR; rw [this] <;> simp [e3]
     subst hR
     clear HR e3
     obtain ⟨d0, d1, d2, d3, d4, d5, d6, d7, d8, d9, d10, d11, d12, d13, d14, d15⟩ := cells16 (unhide KK)
     go_wp2_with fail
     go_ret
     exact ⟨rfl, b0⟩
end Go.Proofs.YtfbfakdkemlbmaaGreat

namespace Go.Proofs.YtfbfakdkemlbmaaGreat
open Go.RowKit
set_option linter.unusedVariables false

set_option maxHeartbeats 4000000 in
set_option maxRecDepth 100000 in
theorem specTxnOk3 {vq va vb vm vp vu vc vh : Value} {t : Tx} {w : World} (h : HasTx w vq va vb vm vp vu vc vh t) (hct : t.msg.count ≤ 1048576) :
  Calls Tryz.prog 15 #[.agg #[.int .i64 3, .int .i64 t.msg.id, .bool t.msg.reply, .int .i64 t.msg.op, .bool t.msg.auth, .int .i64 t.msg.code, vq, va, vb, vm, vp, vu, .int .i64 t.ip, vc, vh, .int .i64 t.when]] w fun e w' => e = .returned (.bool (emptyM t.msg && (decide (t.ip = 0) && (decide (t.client.length = 0) && (decide (t.host.length = 0) && decide (0 ≤ t.when ∧ t.when ≤ 1000000)))))) ∧ Below w.heap.size w w' := by
 obtain ⟨xq, yq, rfl, _, zq⟩ := h.msg.qs.form
 obtain ⟨xa, ya, rfl, _, za⟩ := h.msg.ans.form
 obtain ⟨xb, yb, rfl, _, zb⟩ := h.msg.aus.form
 obtain ⟨xm, ym, rfl, _, zm⟩ := h.msg.more.form
 obtain ⟨xp, yp, rfl, _, zp⟩ := h.msg.pres.form
 obtain ⟨xu, yu, rfl, _, zu⟩ := h.msg.ups.form
 have hcb := h.client.bound
 have hhb := h.host.bound
 obtain ⟨xc, yc, rfl, _⟩ := h.client.form
 obtain ⟨xh, yh, rfl, _⟩ := h.host.form
 have b0 := below_alloc (w := w) (.cells #[.int .i64 3, .int .i64 t.msg.id, .bool t.msg.reply, .int .i64 t.msg.op, .bool t.msg.auth, .int .i64 t.msg.code, .slice xq t.msg.qs.length yq, .slice xa t.msg.ans.length ya, .slice xb t.msg.aus.length yb, .slice xm t.msg.more.length ym, .slice xp t.msg.pres.length yp, .slice xu t.msg.ups.length yu, .int .i64 t.ip, .slice xc t.client.length yc, .slice xh t.host.length yh, .int .i64 t.when] 39)
 have KK := hide (heap_alloc_new w (.cells #[.int .i64 3, .int .i64 t.msg.id, .bool t.msg.reply, .int .i64 t.msg.op, .bool t.msg.auth, .int .i64 t.msg.code, .slice xq t.msg.qs.length yq, .slice xa t.msg.ans.length ya, .slice xb t.msg.aus.length yb, .slice xm t.msg.more.length ym, .slice xp t.msg.pres.length yp, .slice xu t.msg.ups.length yu, .int .i64 t.ip, .slice xc t.client.length yc, .slice xh t.host.length yh, .int .i64 t.when] 39))
 have CM := l9emptyMsg_has (h.below b0).msg hct
 have HC := hide (h.below b0).client
 have HH := hide (h.below b0).host
 generalize hR0 : (emptyM t.msg && (decide (t.ip = 0) && (decide (t.client.length = 0) && (decide (t.host.length = 0) && decide (0 ≤ t.when ∧ t.when ≤ 1000000))))) = R at *
 have HR := hide hR0.symm
 clear hR0 h hct
 generalize emptyM t.msg = GM at *
 replace CM := hide CM
 clear HC HH
 generalize t.ip = IPV at *
 generalize t.when = WHV at *
 generalize t.client.length = NC at *
 generalize t.host.length = NH at *
 go_enter Tryz.func15, Tryz.ntmps15
 obtain ⟨d0, d1, d2, d3, d4, d5, d6, d7, d8, d9, d10, d11, d12, d13, d14, d15⟩ := cells16 (unhide KK)
 go_wp2_with fail
 clear d0 d1 d2 d3 d4 d5 d6 d7 d8 d9 d10 d11 d12 d13 d14 d15
 refine (unhide CM).mono ?_
 rintro e w1 ⟨rfl, b1⟩
 replace b0 := below_next b0 b1
 replace KK := hide (block_kept b1 (unhide KK))
 clear b1 CM
 cases GM with
 | false =>
  have hR : R = false := by have := unhide HR; rw [this] <;> simp
  subst hR
  clear HR
  obtain ⟨d0, d1, d2, d3, d4, d5, d6, d7, d8, d9, d10, d11, d12, d13, d14, d15⟩ := cells16 (unhide KK)
  go_wp2_with fail
  go_ret
  exact ⟨rfl, b0⟩
 | true =>
  by_cases e1 : IPV = 0
  ·subst e1
   by_cases e2 : NC = 0
   ·subst e2
    by_cases e3 : NH = 0
    ·subst e3
     by_cases e4 : 0 ≤ WHV
     ·by_cases e5 : WHV ≤ 1000000
      ·have hR : R = true := by have := unhide HR; rw [this] <;> simp [e4, e5]
       subst hR
       obtain ⟨d0, d1, d2, d3, d4, d5, d6, d7, d8, d9, d10, d11, d12, d13, d14, d15⟩ := cells16 (unhide KK)
       go_wp2_with fail
       go_ret
       exact ⟨rfl, b0⟩
      ·have hR : R = false := by have := unhide HR; rw [this] <;> simp [e5]
       have n5 : decide (WHV ≤ 1000000) = false := by first | omega | exact decide_eq_false (by omega)
       subst hR
       clear HR e5
       obtain ⟨d0, d1, d2, d3, d4, d5, d6, d7, d8, d9, d10, d11, d12, d13, d14, d15⟩ := cells16 (unhide KK)
       go_wp2_with fail
       go_ret
       exact ⟨rfl, b0⟩
     ·have hR : R = false := by have := unhide HR; rw [this] <;> simp [e4]
      have n4 : WHV < 0 := by first | omega | exact decide_eq_false (by omega)
      subst hR
      clear HR e4
      obtain ⟨d0, d1, d2, d3, d4, d5, d6, d7, d8, d9, d10, d11, d12, d13, d14, d15⟩ := cells16 (unhide KK)
      go_wp2_with fail
      go_ret
      exact ⟨rfl, b0⟩
    ·have q3 : (((NH : Nat) : Int) == 0) = false := by rw [beq_eq_false_iff_ne]; omega
     have hR : R = false := by have := unhide HR; rw [this] <;> simp [e3]
     subst hR
     clear HR e3
     obtain ⟨d0, d1, d2, d3, d4, d5, d6, d7, d8, d9, d10, d11, d12, d13, d14, d15⟩ := cells16 (unhide KK)
     go_wp2_with fail
     go_ret
     exact ⟨rfl, b0⟩
   ·have q2 : (((NC : Nat) : Int) == 0) = false := by rw [beq_eq_false_iff_ne]; omega
    have hR : R = false := by have := unhide HR; rw [this] <;> simp [e2]
    subst hR
    clear HR e2
    obtain ⟨d0, d1, d2, d3, d4, d5, d6, d7, d8, d9, d10, d11, d12, d13, d14, d15⟩ := cells16 (unhide KK)
    go_wp2_with fail
    go_ret
    exact ⟨rfl, b0⟩
  ·have q1 : (IPV == 0) = false := by rw [beq_eq_false_iff_ne]; omega
   have hR : R = false := by have := unhide HR; rw [this] <;> simp [e1]
   subst hR
   clear HR e1
   obtain ⟨d0, d1, d2, d3, d4, d5, d6, d7, d8, d9, d10, d11, d12, d13, d14, d15⟩ := cells16 (unhide KK)
   go_wp2_with fail
   go_ret
   exact ⟨rfl, b0⟩
end Go.Proofs.YtfbfakdkemlbmaaGreat
