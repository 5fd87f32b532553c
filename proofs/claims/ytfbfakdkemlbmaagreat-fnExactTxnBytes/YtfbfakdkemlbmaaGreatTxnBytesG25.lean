/-
  Contracts of the program's asks and of its deeds.
-/
import Derived.Test.YtfbfakdkemlbmaaGreatTxnBytesG16
import Derived.Test.YtfbfakdkemlbmaaGreatTxnBytesG24
namespace Go.Proofs.YtfbfakdkemlbmaaGreat
open Go.RowKit
set_option linter.unusedVariables false

theorem cells1 {w : World} {b : Nat} {c0 : Value} {t : TypeId} (h : w.heap[b]? = some (.cells #[c0] t)) : w.cell? ⟨b, 0, none⟩ = some c0 := block_cell h 0
theorem cells4 {w : World} {b : Nat} {c0 c1 c2 c3 : Value} {t : TypeId} (h : w.heap[b]? = some (.cells #[c0, c1, c2, c3] t)) :
  w.cell? ⟨b, 0, none⟩ = some c0 ∧ w.cell? ⟨b, 1, none⟩ = some c1 ∧ w.cell? ⟨b, 2, none⟩ = some c2 ∧ w.cell? ⟨b, 3, none⟩ = some c3 :=
 ⟨block_cell h 0, block_cell h 1, block_cell h 2, block_cell h 3⟩
theorem cells2T {w : World} {b : Nat} {c0 c1 : Value} {t : TypeId} (h : w.heap[b]? = some (.cells #[c0, c1] t)) :
  w.cell? ⟨b, 0, none⟩ = some c0 ∧ w.cell? ⟨b, 1, none⟩ = some c1 :=
 ⟨block_cell h 0, block_cell h 1⟩
set_option maxHeartbeats 1000000 in
set_option maxRecDepth 100000 in
theorem asks_has {vq va vb vm vp vu : Value} {m : Mg} {w : World} (h : HasM w vq va vb vm vp vu m) :
  Calls Tryz.prog 101 #[.agg #[.int .i64 m.id, .bool m.reply, .int .i64 m.op, .bool m.auth, .int .i64 m.code, vq, va, vb, vm, vp, vu], .int .i64 5] w fun e w' => e = .returned (.bool (okM m && (decide (m.op = 5) && !m.reply))) ∧ Below w.heap.size w w' := by
 obtain ⟨xq, yq, rfl, _, zq⟩ := h.qs.form
 obtain ⟨xa, ya, rfl, _, za⟩ := h.ans.form
 obtain ⟨xb, yb, rfl, _, zb⟩ := h.aus.form
 obtain ⟨xm, ym, rfl, _, zm⟩ := h.more.form
 obtain ⟨xp, yp, rfl, _, zp⟩ := h.pres.form
 obtain ⟨xu, yu, rfl, _, zu⟩ := h.ups.form
 have b0 := below_alloc (w := w) (.cells #[.int .i64 m.id, .bool m.reply, .int .i64 m.op, .bool m.auth, .int .i64 m.code, .slice xq m.qs.length yq, .slice xa m.ans.length ya, .slice xb m.aus.length yb, .slice xm m.more.length ym, .slice xp m.pres.length yp, .slice xu m.ups.length yu] 37)
 have KK := hide (heap_alloc_new w (.cells #[.int .i64 m.id, .bool m.reply, .int .i64 m.op, .bool m.auth, .int .i64 m.code, .slice xq m.qs.length yq, .slice xa m.ans.length ya, .slice xb m.aus.length yb, .slice xm m.more.length ym, .slice xp m.pres.length yp, .slice xu m.ups.length yu] 37))
 have CM := hide (implMsgOk_has (h.below b0))
 have HR := hide (show (okM m && (decide (m.op = 5) && !m.reply)) = (okM m && (decide (m.op = 5) && !m.reply)) from rfl)
 generalize hR0 : (okM m && (decide (m.op = 5) && !m.reply)) = R at *
 replace HR := hide hR0.symm
 generalize okM m = G at *
 generalize m.op = O at *
 generalize m.reply = RE at *
 clear h hR0
 go_enter Tryz.func101, Tryz.ntmps101
 obtain ⟨d0, d1, d2, d3, d4, d5, d6, d7, d8, d9, d10⟩ := cells11 (unhide KK)
 go_wp2_with fail
 clear d0 d1 d2 d3 d4 d5 d6 d7 d8 d9 d10
 refine (unhide CM).mono ?_
 rintro e w1 ⟨rfl, b1⟩
 replace b0 := below_next b0 b1
 replace KK := hide (block_kept b1 (unhide KK))
 clear b1 CM
 cases G with
 | false =>
  have hR : R = false := by have := unhide HR; rw [this] <;> simp
  subst hR
  clear HR
  obtain ⟨d0, d1, d2, d3, d4, d5, d6, d7, d8, d9, d10⟩ := cells11 (unhide KK)
  go_wp2_with fail
  go_ret
  exact ⟨rfl, b0⟩
 | true =>
  by_cases e1 : O = 5
  ·subst e1
   cases RE with
   | true =>
    have hR : R = false := by have := unhide HR; rw [this] <;> simp
    subst hR
    clear HR
    obtain ⟨d0, d1, d2, d3, d4, d5, d6, d7, d8, d9, d10⟩ := cells11 (unhide KK)
    go_wp2_with fail
    go_ret
    exact ⟨rfl, b0⟩
   | false =>
    have hR : R = true := by have := unhide HR; rw [this] <;> simp
    subst hR
    obtain ⟨d0, d1, d2, d3, d4, d5, d6, d7, d8, d9, d10⟩ := cells11 (unhide KK)
    go_wp2_with fail
    go_ret
    exact ⟨rfl, b0⟩
  ·have q1 : (O == 5) = false := by rw [beq_eq_false_iff_ne]; omega
   have hR : R = false := by have := unhide HR; rw [this] <;> simp [e1]
   subst hR
   clear HR e1
   obtain ⟨d0, d1, d2, d3, d4, d5, d6, d7, d8, d9, d10⟩ := cells11 (unhide KK)
   go_wp2_with fail
   go_ret
   exact ⟨rfl, b0⟩

set_option maxHeartbeats 1000000 in
set_option maxRecDepth 100000 in
theorem may0_has {vq va vb vm vp vu vc vh : Value} {t : Tx} {w : World} (h : HasTx w vq va vb vm vp vu vc vh t) :
  Calls Tryz.prog 97 #[.agg #[.int .i64 t.msg.id, .bool t.msg.reply, .int .i64 t.msg.op, .bool t.msg.auth, .int .i64 t.msg.code, vq, va, vb, vm, vp, vu]] w fun e w' => e = .returned (.bool (okM t.msg && (decide (t.msg.op = 5) && !t.msg.reply))) ∧ Below w.heap.size w w' := by
 obtain ⟨xq, yq, rfl, _, zq⟩ := h.msg.qs.form
 obtain ⟨xa, ya, rfl, _, za⟩ := h.msg.ans.form
 obtain ⟨xb, yb, rfl, _, zb⟩ := h.msg.aus.form
 obtain ⟨xm, ym, rfl, _, zm⟩ := h.msg.more.form
 obtain ⟨xp, yp, rfl, _, zp⟩ := h.msg.pres.form
 obtain ⟨xu, yu, rfl, _, zu⟩ := h.msg.ups.form
 have hcb := h.client.bound
 have hhb := h.host.bound
 obtain ⟨xc, yc, rfl, _⟩ := h.client.form
 obtain ⟨xh, yh, rfl, _⟩ := h.host.form
 have b0 := below_alloc (w := w) (.cells #[.int .i64 t.msg.id, .bool t.msg.reply, .int .i64 t.msg.op, .bool t.msg.auth, .int .i64 t.msg.code, .slice xq t.msg.qs.length yq, .slice xa t.msg.ans.length ya, .slice xb t.msg.aus.length yb, .slice xm t.msg.more.length ym, .slice xp t.msg.pres.length yp, .slice xu t.msg.ups.length yu] 72)
 have KK := hide (heap_alloc_new w (.cells #[.int .i64 t.msg.id, .bool t.msg.reply, .int .i64 t.msg.op, .bool t.msg.auth, .int .i64 t.msg.code, .slice xq t.msg.qs.length yq, .slice xa t.msg.ans.length ya, .slice xb t.msg.aus.length yb, .slice xm t.msg.more.length ym, .slice xp t.msg.pres.length yp, .slice xu t.msg.ups.length yu] 72))
 have CM := hide (asks_has (h.below b0).msg)
 generalize (okM t.msg && (decide (t.msg.op = 5) && !t.msg.reply)) = R at *
 clear h
 obtain ⟨d0, d1, d2, d3, d4, d5, d6, d7, d8, d9, d10⟩ := cells11 (unhide KK)
 go_enter Tryz.func97, Tryz.ntmps97
 go_wp2_with fail
 refine (unhide CM).mono ?_
 rintro e w1 ⟨rfl, b1⟩
 replace b0 := below_next b0 b1
 go_wp2_with fail
 go_ret
 exact ⟨rfl, b0⟩

set_option maxHeartbeats 1000000 in
set_option maxRecDepth 100000 in
theorem may1_has {vq va vb vm vp vu vc vh : Value} {t : Tx} {w : World} (h : HasTx w vq va vb vm vp vu vc vh t) :
  Calls Tryz.prog 138 #[.agg #[.int .i64 t.ip, vc, vh, .int .i64 t.when]] w fun e w' => e = .returned (.bool (ipB t.ip && (clientB t.client && (labelOk t.host && decide (0 ≤ t.when ∧ t.when ≤ 2000000))))) ∧ Below w.heap.size w w' := by
 obtain ⟨xq, yq, rfl, _, zq⟩ := h.msg.qs.form
 obtain ⟨xa, ya, rfl, _, za⟩ := h.msg.ans.form
 obtain ⟨xb, yb, rfl, _, zb⟩ := h.msg.aus.form
 obtain ⟨xm, ym, rfl, _, zm⟩ := h.msg.more.form
 obtain ⟨xp, yp, rfl, _, zp⟩ := h.msg.pres.form
 obtain ⟨xu, yu, rfl, _, zu⟩ := h.msg.ups.form
 have hcb := h.client.bound
 have hhb := h.host.bound
 obtain ⟨xc, yc, rfl, _⟩ := h.client.form
 obtain ⟨xh, yh, rfl, _⟩ := h.host.form
 have b0 := below_alloc (w := w) (.cells #[.int .i64 t.ip, .slice xc t.client.length yc, .slice xh t.host.length yh, .int .i64 t.when] 74)
 have KK := hide (heap_alloc_new w (.cells #[.int .i64 t.ip, .slice xc t.client.length yc, .slice xh t.host.length yh, .int .i64 t.when] 74))
 have C0 := fun (w : World) => ipOk_any t.ip w
 have C1 := fun (w : World) (h : Has w (.slice xc t.client.length yc) t.client) => clientOk_has h
 have C2 := fun (w : World) (h : Has w (.slice xh t.host.length yh) t.host) => implLabelOk_has h
 have C3 := fun (w : World) => upTo_any t.when 2000000 w
 have HC := hide (h.below b0).client
 have HH := hide (h.below b0).host
 generalize hR0 : (ipB t.ip && (clientB t.client && (labelOk t.host && decide (0 ≤ t.when ∧ t.when ≤ 2000000)))) = R at *
 have HR := hide hR0.symm
 clear hR0 h
 generalize ipB t.ip = G0 at *
 generalize clientB t.client = G1 at *
 generalize labelOk t.host = G2 at *
 generalize decide (0 ≤ t.when ∧ t.when ≤ 2000000) = G3 at *
 replace C0 := hide C0
 replace C1 := hide C1
 replace C2 := hide C2
 replace C3 := hide C3
 go_enter Tryz.func138, Tryz.ntmps138
 obtain ⟨d0, d1, d2, d3⟩ := cells4 (unhide KK)
 go_wp2_with fail
 clear d0 d1 d2 d3
 refine (unhide C0 _).mono ?_
 rintro e w0 ⟨rfl, rfl⟩
 cases G0 with
 | false =>
  have hR : R = false := by have := unhide HR; rw [this] <;> simp
  subst hR
  clear HR
  obtain ⟨d0, d1, d2, d3⟩ := cells4 (unhide KK)
  go_wp2_with fail
  go_ret
  exact ⟨rfl, b0⟩
 | true =>
  obtain ⟨d0, d1, d2, d3⟩ := cells4 (unhide KK)
  go_wp2_with fail
  clear d0 d1 d2 d3
  refine (unhide C1 _ (unhide HC)).mono ?_
  rintro e w1 ⟨rfl, rfl⟩
  cases G1 with
  | false =>
   have hR : R = false := by have := unhide HR; rw [this] <;> simp
   subst hR
   clear HR
   obtain ⟨d0, d1, d2, d3⟩ := cells4 (unhide KK)
   go_wp2_with fail
   go_ret
   exact ⟨rfl, b0⟩
  | true =>
   obtain ⟨d0, d1, d2, d3⟩ := cells4 (unhide KK)
   go_wp2_with fail
   clear d0 d1 d2 d3
   refine (unhide C2 _ (unhide HH)).mono ?_
   rintro e w2 ⟨rfl, rfl⟩
   cases G2 with
   | false =>
    have hR : R = false := by have := unhide HR; rw [this] <;> simp
    subst hR
    clear HR
    obtain ⟨d0, d1, d2, d3⟩ := cells4 (unhide KK)
    go_wp2_with fail
    go_ret
    exact ⟨rfl, b0⟩
   | true =>
    obtain ⟨d0, d1, d2, d3⟩ := cells4 (unhide KK)
    go_wp2_with fail
    clear d0 d1 d2 d3
    refine (unhide C3 _).mono ?_
    rintro e w3 ⟨rfl, rfl⟩
    cases G3 with
    | false =>
     have hR : R = false := by have := unhide HR; rw [this] <;> simp
     subst hR
     clear HR
     obtain ⟨d0, d1, d2, d3⟩ := cells4 (unhide KK)
     go_wp2_with fail
     go_ret
     exact ⟨rfl, b0⟩
    | true =>
     have hR : R = true := by have := unhide HR; rw [this] <;> simp
     subst hR
     obtain ⟨d0, d1, d2, d3⟩ := cells4 (unhide KK)
     go_wp2_with fail
     go_ret
     exact ⟨rfl, b0⟩

set_option maxHeartbeats 1000000 in
set_option maxRecDepth 100000 in
theorem may2_has {vq va vb vm vp vu vc vh : Value} {t : Tx} {w : World} (h : HasTx w vq va vb vm vp vu vc vh t) :
  Calls Tryz.prog 145 #[.agg #[.int .i64 t.ip, vc]] w fun e w' => e = .returned (.bool (ipB t.ip && clientB t.client)) ∧ Below w.heap.size w w' := by
 obtain ⟨xq, yq, rfl, _, zq⟩ := h.msg.qs.form
 obtain ⟨xa, ya, rfl, _, za⟩ := h.msg.ans.form
 obtain ⟨xb, yb, rfl, _, zb⟩ := h.msg.aus.form
 obtain ⟨xm, ym, rfl, _, zm⟩ := h.msg.more.form
 obtain ⟨xp, yp, rfl, _, zp⟩ := h.msg.pres.form
 obtain ⟨xu, yu, rfl, _, zu⟩ := h.msg.ups.form
 have hcb := h.client.bound
 have hhb := h.host.bound
 obtain ⟨xc, yc, rfl, _⟩ := h.client.form
 obtain ⟨xh, yh, rfl, _⟩ := h.host.form
 have b0 := below_alloc (w := w) (.cells #[.int .i64 t.ip, .slice xc t.client.length yc] 76)
 have KK := hide (heap_alloc_new w (.cells #[.int .i64 t.ip, .slice xc t.client.length yc] 76))
 have C0 := fun (w : World) => ipOk_any t.ip w
 have C1 := fun (w : World) (h : Has w (.slice xc t.client.length yc) t.client) => clientOk_has h
 have HC := hide (h.below b0).client
 have HH := hide (h.below b0).host
 generalize hR0 : (ipB t.ip && clientB t.client) = R at *
 have HR := hide hR0.symm
 clear hR0 h
 generalize ipB t.ip = G0 at *
 generalize clientB t.client = G1 at *
 replace C0 := hide C0
 replace C1 := hide C1
 go_enter Tryz.func145, Tryz.ntmps145
 obtain ⟨d0, d1⟩ := cells2T (unhide KK)
 go_wp2_with fail
 clear d0 d1
 refine (unhide C0 _).mono ?_
 rintro e w0 ⟨rfl, rfl⟩
 cases G0 with
 | false =>
  have hR : R = false := by have := unhide HR; rw [this] <;> simp
  subst hR
  clear HR
  obtain ⟨d0, d1⟩ := cells2T (unhide KK)
  go_wp2_with fail
  go_ret
  exact ⟨rfl, b0⟩
 | true =>
  obtain ⟨d0, d1⟩ := cells2T (unhide KK)
  go_wp2_with fail
  clear d0 d1
  refine (unhide C1 _ (unhide HC)).mono ?_
  rintro e w1 ⟨rfl, rfl⟩
  cases G1 with
  | false =>
   have hR : R = false := by have := unhide HR; rw [this] <;> simp
   subst hR
   clear HR
   obtain ⟨d0, d1⟩ := cells2T (unhide KK)
   go_wp2_with fail
   go_ret
   exact ⟨rfl, b0⟩
  | true =>
   have hR : R = true := by have := unhide HR; rw [this] <;> simp
   subst hR
   obtain ⟨d0, d1⟩ := cells2T (unhide KK)
   go_wp2_with fail
   go_ret
   exact ⟨rfl, b0⟩

set_option maxHeartbeats 1000000 in
set_option maxRecDepth 100000 in
theorem may3_has {vq va vb vm vp vu vc vh : Value} {t : Tx} {w : World} (h : HasTx w vq va vb vm vp vu vc vh t) :
  Calls Tryz.prog 150 #[.agg #[.int .i64 t.when]] w fun e w' => e = .returned (.bool (decide (0 ≤ t.when ∧ t.when ≤ 1000000))) ∧ Below w.heap.size w w' := by
 obtain ⟨xq, yq, rfl, _, zq⟩ := h.msg.qs.form
 obtain ⟨xa, ya, rfl, _, za⟩ := h.msg.ans.form
 obtain ⟨xb, yb, rfl, _, zb⟩ := h.msg.aus.form
 obtain ⟨xm, ym, rfl, _, zm⟩ := h.msg.more.form
 obtain ⟨xp, yp, rfl, _, zp⟩ := h.msg.pres.form
 obtain ⟨xu, yu, rfl, _, zu⟩ := h.msg.ups.form
 have hcb := h.client.bound
 have hhb := h.host.bound
 obtain ⟨xc, yc, rfl, _⟩ := h.client.form
 obtain ⟨xh, yh, rfl, _⟩ := h.host.form
 have b0 := below_alloc (w := w) (.cells #[.int .i64 t.when] 78)
 have KK := hide (heap_alloc_new w (.cells #[.int .i64 t.when] 78))
 have C0 := fun (w : World) => upTo_any t.when 1000000 w
 have HC := hide (h.below b0).client
 have HH := hide (h.below b0).host
 generalize hR0 : (decide (0 ≤ t.when ∧ t.when ≤ 1000000)) = R at *
 have HR := hide hR0.symm
 clear hR0 h
 generalize decide (0 ≤ t.when ∧ t.when ≤ 1000000) = G0 at *
 replace C0 := hide C0
 go_enter Tryz.func150, Tryz.ntmps150
 obtain d0 := cells1 (unhide KK)
 go_wp2_with fail
 clear d0
 refine (unhide C0 _).mono ?_
 rintro e w0 ⟨rfl, rfl⟩
 cases G0 with
 | false =>
  have hR : R = false := by have := unhide HR; rw [this] <;> simp
  subst hR
  clear HR
  obtain d0 := cells1 (unhide KK)
  go_wp2_with fail
  go_ret
  exact ⟨rfl, b0⟩
 | true =>
  have hR : R = true := by have := unhide HR; rw [this] <;> simp
  subst hR
  obtain d0 := cells1 (unhide KK)
  go_wp2_with fail
  go_ret
  exact ⟨rfl, b0⟩

set_option maxHeartbeats 400000 in
set_option maxRecDepth 100000 in
theorem txn0_any {xq : Option Addr} {yq : Nat} {xa : Option Addr} {ya : Nat} {xb : Option Addr} {yb : Nat} {xm : Option Addr} {ym : Nat} {xp : Option Addr} {yp : Nat} {xu : Option Addr} {yu : Nat} {xc : Option Addr} {yc : Nat} {xh : Option Addr} {yh : Nat} {t : Tx} {w : World} :
  Calls Tryz.prog 99 #[.agg #[.int .i64 t.msg.id, .bool t.msg.reply, .int .i64 t.msg.op, .bool t.msg.auth, .int .i64 t.msg.code, .slice xq t.msg.qs.length yq, .slice xa t.msg.ans.length ya, .slice xb t.msg.aus.length yb, .slice xm t.msg.more.length ym, .slice xp t.msg.pres.length yp, .slice xu t.msg.ups.length yu]] w fun e w' => e = .returned (.agg #[.int .i64 0, .int .i64 t.msg.id, .bool t.msg.reply, .int .i64 t.msg.op, .bool t.msg.auth, .int .i64 t.msg.code, .slice xq t.msg.qs.length yq, .slice xa t.msg.ans.length ya, .slice xb t.msg.aus.length yb, .slice xm t.msg.more.length ym, .slice xp t.msg.pres.length yp, .slice xu t.msg.ups.length yu, .int .i64 0, .slice none 0 0, .slice none 0 0, .int .i64 0]) ∧ Below w.heap.size w w' := by
 obtain ⟨hsz, k0, r0⟩ := box2 w (.cells #[.int .i64 t.msg.id, .bool t.msg.reply, .int .i64 t.msg.op, .bool t.msg.auth, .int .i64 t.msg.code, .slice xq t.msg.qs.length yq, .slice xa t.msg.ans.length ya, .slice xb t.msg.aus.length yb, .slice xm t.msg.more.length ym, .slice xp t.msg.pres.length yp, .slice xu t.msg.ups.length yu] 72) #[.int .i64 0, .int .i64 t.msg.id, .bool t.msg.reply, .int .i64 t.msg.op, .bool t.msg.auth, .int .i64 t.msg.code, .slice xq t.msg.qs.length yq, .slice xa t.msg.ans.length ya, .slice xb t.msg.aus.length yb, .slice xm t.msg.more.length ym, .slice xp t.msg.pres.length yp, .slice xu t.msg.ups.length yu, .int .i64 0, .slice none 0 0, .slice none 0 0, .int .i64 0] 39
 have b0 := below2 w (.cells #[.int .i64 t.msg.id, .bool t.msg.reply, .int .i64 t.msg.op, .bool t.msg.auth, .int .i64 t.msg.code, .slice xq t.msg.qs.length yq, .slice xa t.msg.ans.length ya, .slice xb t.msg.aus.length yb, .slice xm t.msg.more.length ym, .slice xp t.msg.pres.length yp, .slice xu t.msg.ups.length yu] 72) (.cells #[.int .i64 0, .int .i64 t.msg.id, .bool t.msg.reply, .int .i64 t.msg.op, .bool t.msg.auth, .int .i64 t.msg.code, .slice xq t.msg.qs.length yq, .slice xa t.msg.ans.length ya, .slice xb t.msg.aus.length yb, .slice xm t.msg.more.length ym, .slice xp t.msg.pres.length yp, .slice xu t.msg.ups.length yu, .int .i64 0, .slice none 0 0, .slice none 0 0, .int .i64 0] 39)
 have kb := heap_alloc_new w (.cells #[.int .i64 t.msg.id, .bool t.msg.reply, .int .i64 t.msg.op, .bool t.msg.auth, .int .i64 t.msg.code, .slice xq t.msg.qs.length yq, .slice xa t.msg.ans.length ya, .slice xb t.msg.aus.length yb, .slice xm t.msg.more.length ym, .slice xp t.msg.pres.length yp, .slice xu t.msg.ups.length yu] 72)
 obtain ⟨d0, d1, d2, d3, d4, d5, d6, d7, d8, d9, d10⟩ := cells11 kb
 have R0 := hide r0
 clear k0 hsz kb r0
 go_enter Tryz.func99, Tryz.ntmps99
 go_wp2_with fail
 clear d0 d1 d2 d3 d4 d5 d6 d7 d8 d9 d10
 refine bodyPost_ret (results_cell_row rfl _ _ (w.heap.size + 1) 39 #[.int .i64 0, .int .i64 t.msg.id, .bool t.msg.reply, .int .i64 t.msg.op, .bool t.msg.auth, .int .i64 t.msg.code, .slice xq t.msg.qs.length yq, .slice xa t.msg.ans.length ya, .slice xb t.msg.aus.length yb, .slice xm t.msg.more.length ym, .slice xp t.msg.pres.length yp, .slice xu t.msg.ups.length yu, .int .i64 0, .slice none 0 0, .slice none 0 0, .int .i64 0] (0, 0) _ rfl (unhide R0) Tryz.underlying39 rfl (by kernel_rfl)) rfl ?_
 exact ⟨rfl, b0⟩

set_option maxHeartbeats 400000 in
set_option maxRecDepth 100000 in
theorem txn1_any {xq : Option Addr} {yq : Nat} {xa : Option Addr} {ya : Nat} {xb : Option Addr} {yb : Nat} {xm : Option Addr} {ym : Nat} {xp : Option Addr} {yp : Nat} {xu : Option Addr} {yu : Nat} {xc : Option Addr} {yc : Nat} {xh : Option Addr} {yh : Nat} {t : Tx} {w : World} :
  Calls Tryz.prog 140 #[.agg #[.int .i64 t.ip, .slice xc t.client.length yc, .slice xh t.host.length yh, .int .i64 t.when]] w fun e w' => e = .returned (.agg #[.int .i64 1, .int .i64 0, .bool false, .int .i64 0, .bool false, .int .i64 0, .slice none 0 0, .slice none 0 0, .slice none 0 0, .slice none 0 0, .slice none 0 0, .slice none 0 0, .int .i64 t.ip, .slice xc t.client.length yc, .slice xh t.host.length yh, .int .i64 t.when]) ∧ Below w.heap.size w w' := by
 obtain ⟨hsz, k0, r0⟩ := box2 w (.cells #[.int .i64 t.ip, .slice xc t.client.length yc, .slice xh t.host.length yh, .int .i64 t.when] 74) #[.int .i64 1, .int .i64 0, .bool false, .int .i64 0, .bool false, .int .i64 0, .slice none 0 0, .slice none 0 0, .slice none 0 0, .slice none 0 0, .slice none 0 0, .slice none 0 0, .int .i64 t.ip, .slice xc t.client.length yc, .slice xh t.host.length yh, .int .i64 t.when] 39
 have b0 := below2 w (.cells #[.int .i64 t.ip, .slice xc t.client.length yc, .slice xh t.host.length yh, .int .i64 t.when] 74) (.cells #[.int .i64 1, .int .i64 0, .bool false, .int .i64 0, .bool false, .int .i64 0, .slice none 0 0, .slice none 0 0, .slice none 0 0, .slice none 0 0, .slice none 0 0, .slice none 0 0, .int .i64 t.ip, .slice xc t.client.length yc, .slice xh t.host.length yh, .int .i64 t.when] 39)
 have kb := heap_alloc_new w (.cells #[.int .i64 t.ip, .slice xc t.client.length yc, .slice xh t.host.length yh, .int .i64 t.when] 74)
 obtain ⟨d0, d1, d2, d3⟩ := cells4 kb
 have R0 := hide r0
 clear k0 hsz kb r0
 go_enter Tryz.func140, Tryz.ntmps140
 go_wp2_with fail
 clear d0 d1 d2 d3
 refine bodyPost_ret (results_cell_row rfl _ _ (w.heap.size + 1) 39 #[.int .i64 1, .int .i64 0, .bool false, .int .i64 0, .bool false, .int .i64 0, .slice none 0 0, .slice none 0 0, .slice none 0 0, .slice none 0 0, .slice none 0 0, .slice none 0 0, .int .i64 t.ip, .slice xc t.client.length yc, .slice xh t.host.length yh, .int .i64 t.when] (0, 0) _ rfl (unhide R0) Tryz.underlying39 rfl (by kernel_rfl)) rfl ?_
 exact ⟨rfl, b0⟩

set_option maxHeartbeats 400000 in
set_option maxRecDepth 100000 in
theorem txn2_any {xq : Option Addr} {yq : Nat} {xa : Option Addr} {ya : Nat} {xb : Option Addr} {yb : Nat} {xm : Option Addr} {ym : Nat} {xp : Option Addr} {yp : Nat} {xu : Option Addr} {yu : Nat} {xc : Option Addr} {yc : Nat} {xh : Option Addr} {yh : Nat} {t : Tx} {w : World} :
  Calls Tryz.prog 147 #[.agg #[.int .i64 t.ip, .slice xc t.client.length yc]] w fun e w' => e = .returned (.agg #[.int .i64 2, .int .i64 0, .bool false, .int .i64 0, .bool false, .int .i64 0, .slice none 0 0, .slice none 0 0, .slice none 0 0, .slice none 0 0, .slice none 0 0, .slice none 0 0, .int .i64 t.ip, .slice xc t.client.length yc, .slice none 0 0, .int .i64 0]) ∧ Below w.heap.size w w' := by
 obtain ⟨hsz, k0, r0⟩ := box2 w (.cells #[.int .i64 t.ip, .slice xc t.client.length yc] 76) #[.int .i64 2, .int .i64 0, .bool false, .int .i64 0, .bool false, .int .i64 0, .slice none 0 0, .slice none 0 0, .slice none 0 0, .slice none 0 0, .slice none 0 0, .slice none 0 0, .int .i64 t.ip, .slice xc t.client.length yc, .slice none 0 0, .int .i64 0] 39
 have b0 := below2 w (.cells #[.int .i64 t.ip, .slice xc t.client.length yc] 76) (.cells #[.int .i64 2, .int .i64 0, .bool false, .int .i64 0, .bool false, .int .i64 0, .slice none 0 0, .slice none 0 0, .slice none 0 0, .slice none 0 0, .slice none 0 0, .slice none 0 0, .int .i64 t.ip, .slice xc t.client.length yc, .slice none 0 0, .int .i64 0] 39)
 have kb := heap_alloc_new w (.cells #[.int .i64 t.ip, .slice xc t.client.length yc] 76)
 obtain ⟨d0, d1⟩ := cells2T kb
 have R0 := hide r0
 clear k0 hsz kb r0
 go_enter Tryz.func147, Tryz.ntmps147
 go_wp2_with fail
 clear d0 d1
 refine bodyPost_ret (results_cell_row rfl _ _ (w.heap.size + 1) 39 #[.int .i64 2, .int .i64 0, .bool false, .int .i64 0, .bool false, .int .i64 0, .slice none 0 0, .slice none 0 0, .slice none 0 0, .slice none 0 0, .slice none 0 0, .slice none 0 0, .int .i64 t.ip, .slice xc t.client.length yc, .slice none 0 0, .int .i64 0] (0, 0) _ rfl (unhide R0) Tryz.underlying39 rfl (by kernel_rfl)) rfl ?_
 exact ⟨rfl, b0⟩

set_option maxHeartbeats 400000 in
set_option maxRecDepth 100000 in
theorem txn3_any {xq : Option Addr} {yq : Nat} {xa : Option Addr} {ya : Nat} {xb : Option Addr} {yb : Nat} {xm : Option Addr} {ym : Nat} {xp : Option Addr} {yp : Nat} {xu : Option Addr} {yu : Nat} {xc : Option Addr} {yc : Nat} {xh : Option Addr} {yh : Nat} {t : Tx} {w : World} :
  Calls Tryz.prog 152 #[.agg #[.int .i64 t.when]] w fun e w' => e = .returned (.agg #[.int .i64 3, .int .i64 0, .bool false, .int .i64 0, .bool false, .int .i64 0, .slice none 0 0, .slice none 0 0, .slice none 0 0, .slice none 0 0, .slice none 0 0, .slice none 0 0, .int .i64 0, .slice none 0 0, .slice none 0 0, .int .i64 t.when]) ∧ Below w.heap.size w w' := by
 obtain ⟨hsz, k0, r0⟩ := box2 w (.cells #[.int .i64 t.when] 78) #[.int .i64 3, .int .i64 0, .bool false, .int .i64 0, .bool false, .int .i64 0, .slice none 0 0, .slice none 0 0, .slice none 0 0, .slice none 0 0, .slice none 0 0, .slice none 0 0, .int .i64 0, .slice none 0 0, .slice none 0 0, .int .i64 t.when] 39
 have b0 := below2 w (.cells #[.int .i64 t.when] 78) (.cells #[.int .i64 3, .int .i64 0, .bool false, .int .i64 0, .bool false, .int .i64 0, .slice none 0 0, .slice none 0 0, .slice none 0 0, .slice none 0 0, .slice none 0 0, .slice none 0 0, .int .i64 0, .slice none 0 0, .slice none 0 0, .int .i64 t.when] 39)
 have kb := heap_alloc_new w (.cells #[.int .i64 t.when] 78)
 obtain d0 := cells1 kb
 have R0 := hide r0
 clear k0 hsz kb r0
 go_enter Tryz.func152, Tryz.ntmps152
 go_wp2_with fail
 clear d0
 refine bodyPost_ret (results_cell_row rfl _ _ (w.heap.size + 1) 39 #[.int .i64 3, .int .i64 0, .bool false, .int .i64 0, .bool false, .int .i64 0, .slice none 0 0, .slice none 0 0, .slice none 0 0, .slice none 0 0, .slice none 0 0, .slice none 0 0, .int .i64 0, .slice none 0 0, .slice none 0 0, .int .i64 t.when] (0, 0) _ rfl (unhide R0) Tryz.underlying39 rfl (by kernel_rfl)) rfl ?_
 exact ⟨rfl, b0⟩

set_option maxHeartbeats 400000 in
set_option maxRecDepth 100000 in
theorem deedOf0_any {xq : Option Addr} {yq : Nat} {xa : Option Addr} {ya : Nat} {xb : Option Addr} {yb : Nat} {xm : Option Addr} {ym : Nat} {xp : Option Addr} {yp : Nat} {xu : Option Addr} {yu : Nat} {xc : Option Addr} {yc : Nat} {xh : Option Addr} {yh : Nat} {t : Tx} {w : World} :
  Calls Tryz.prog 20 #[.agg #[.int .i64 0, .int .i64 t.msg.id, .bool t.msg.reply, .int .i64 t.msg.op, .bool t.msg.auth, .int .i64 t.msg.code, .slice xq t.msg.qs.length yq, .slice xa t.msg.ans.length ya, .slice xb t.msg.aus.length yb, .slice xm t.msg.more.length ym, .slice xp t.msg.pres.length yp, .slice xu t.msg.ups.length yu, .int .i64 t.ip, .slice xc t.client.length yc, .slice xh t.host.length yh, .int .i64 t.when]] w fun e w' => e = .returned (.iface 72 (.agg #[.int .i64 t.msg.id, .bool t.msg.reply, .int .i64 t.msg.op, .bool t.msg.auth, .int .i64 t.msg.code, .slice xq t.msg.qs.length yq, .slice xa t.msg.ans.length ya, .slice xb t.msg.aus.length yb, .slice xm t.msg.more.length ym, .slice xp t.msg.pres.length yp, .slice xu t.msg.ups.length yu])) ∧ Below w.heap.size w w' := by
 have b0 := below_alloc (w := w) (.cells #[.int .i64 0, .int .i64 t.msg.id, .bool t.msg.reply, .int .i64 t.msg.op, .bool t.msg.auth, .int .i64 t.msg.code, .slice xq t.msg.qs.length yq, .slice xa t.msg.ans.length ya, .slice xb t.msg.aus.length yb, .slice xm t.msg.more.length ym, .slice xp t.msg.pres.length yp, .slice xu t.msg.ups.length yu, .int .i64 t.ip, .slice xc t.client.length yc, .slice xh t.host.length yh, .int .i64 t.when] 39)
 obtain ⟨d0, d1, d2, d3, d4, d5, d6, d7, d8, d9, d10, d11, d12, d13, d14, d15⟩ := cells16 (heap_alloc_new w (.cells #[.int .i64 0, .int .i64 t.msg.id, .bool t.msg.reply, .int .i64 t.msg.op, .bool t.msg.auth, .int .i64 t.msg.code, .slice xq t.msg.qs.length yq, .slice xa t.msg.ans.length ya, .slice xb t.msg.aus.length yb, .slice xm t.msg.more.length ym, .slice xp t.msg.pres.length yp, .slice xu t.msg.ups.length yu, .int .i64 t.ip, .slice xc t.client.length yc, .slice xh t.host.length yh, .int .i64 t.when] 39))
 go_enter Tryz.func20, Tryz.ntmps20
 go_wp2_with fail
 go_ret
 exact ⟨rfl, b0⟩

set_option maxHeartbeats 400000 in
set_option maxRecDepth 100000 in
theorem deedOf1_any {xq : Option Addr} {yq : Nat} {xa : Option Addr} {ya : Nat} {xb : Option Addr} {yb : Nat} {xm : Option Addr} {ym : Nat} {xp : Option Addr} {yp : Nat} {xu : Option Addr} {yu : Nat} {xc : Option Addr} {yc : Nat} {xh : Option Addr} {yh : Nat} {t : Tx} {w : World} :
  Calls Tryz.prog 20 #[.agg #[.int .i64 1, .int .i64 t.msg.id, .bool t.msg.reply, .int .i64 t.msg.op, .bool t.msg.auth, .int .i64 t.msg.code, .slice xq t.msg.qs.length yq, .slice xa t.msg.ans.length ya, .slice xb t.msg.aus.length yb, .slice xm t.msg.more.length ym, .slice xp t.msg.pres.length yp, .slice xu t.msg.ups.length yu, .int .i64 t.ip, .slice xc t.client.length yc, .slice xh t.host.length yh, .int .i64 t.when]] w fun e w' => e = .returned (.iface 74 (.agg #[.int .i64 t.ip, .slice xc t.client.length yc, .slice xh t.host.length yh, .int .i64 t.when])) ∧ Below w.heap.size w w' := by
 have b0 := below_alloc (w := w) (.cells #[.int .i64 1, .int .i64 t.msg.id, .bool t.msg.reply, .int .i64 t.msg.op, .bool t.msg.auth, .int .i64 t.msg.code, .slice xq t.msg.qs.length yq, .slice xa t.msg.ans.length ya, .slice xb t.msg.aus.length yb, .slice xm t.msg.more.length ym, .slice xp t.msg.pres.length yp, .slice xu t.msg.ups.length yu, .int .i64 t.ip, .slice xc t.client.length yc, .slice xh t.host.length yh, .int .i64 t.when] 39)
 obtain ⟨d0, d1, d2, d3, d4, d5, d6, d7, d8, d9, d10, d11, d12, d13, d14, d15⟩ := cells16 (heap_alloc_new w (.cells #[.int .i64 1, .int .i64 t.msg.id, .bool t.msg.reply, .int .i64 t.msg.op, .bool t.msg.auth, .int .i64 t.msg.code, .slice xq t.msg.qs.length yq, .slice xa t.msg.ans.length ya, .slice xb t.msg.aus.length yb, .slice xm t.msg.more.length ym, .slice xp t.msg.pres.length yp, .slice xu t.msg.ups.length yu, .int .i64 t.ip, .slice xc t.client.length yc, .slice xh t.host.length yh, .int .i64 t.when] 39))
 go_enter Tryz.func20, Tryz.ntmps20
 go_wp2_with fail
 go_ret
 exact ⟨rfl, b0⟩

set_option maxHeartbeats 400000 in
set_option maxRecDepth 100000 in
theorem deedOf2_any {xq : Option Addr} {yq : Nat} {xa : Option Addr} {ya : Nat} {xb : Option Addr} {yb : Nat} {xm : Option Addr} {ym : Nat} {xp : Option Addr} {yp : Nat} {xu : Option Addr} {yu : Nat} {xc : Option Addr} {yc : Nat} {xh : Option Addr} {yh : Nat} {t : Tx} {w : World} :
  Calls Tryz.prog 20 #[.agg #[.int .i64 2, .int .i64 t.msg.id, .bool t.msg.reply, .int .i64 t.msg.op, .bool t.msg.auth, .int .i64 t.msg.code, .slice xq t.msg.qs.length yq, .slice xa t.msg.ans.length ya, .slice xb t.msg.aus.length yb, .slice xm t.msg.more.length ym, .slice xp t.msg.pres.length yp, .slice xu t.msg.ups.length yu, .int .i64 t.ip, .slice xc t.client.length yc, .slice xh t.host.length yh, .int .i64 t.when]] w fun e w' => e = .returned (.iface 76 (.agg #[.int .i64 t.ip, .slice xc t.client.length yc])) ∧ Below w.heap.size w w' := by
 have b0 := below_alloc (w := w) (.cells #[.int .i64 2, .int .i64 t.msg.id, .bool t.msg.reply, .int .i64 t.msg.op, .bool t.msg.auth, .int .i64 t.msg.code, .slice xq t.msg.qs.length yq, .slice xa t.msg.ans.length ya, .slice xb t.msg.aus.length yb, .slice xm t.msg.more.length ym, .slice xp t.msg.pres.length yp, .slice xu t.msg.ups.length yu, .int .i64 t.ip, .slice xc t.client.length yc, .slice xh t.host.length yh, .int .i64 t.when] 39)
 obtain ⟨d0, d1, d2, d3, d4, d5, d6, d7, d8, d9, d10, d11, d12, d13, d14, d15⟩ := cells16 (heap_alloc_new w (.cells #[.int .i64 2, .int .i64 t.msg.id, .bool t.msg.reply, .int .i64 t.msg.op, .bool t.msg.auth, .int .i64 t.msg.code, .slice xq t.msg.qs.length yq, .slice xa t.msg.ans.length ya, .slice xb t.msg.aus.length yb, .slice xm t.msg.more.length ym, .slice xp t.msg.pres.length yp, .slice xu t.msg.ups.length yu, .int .i64 t.ip, .slice xc t.client.length yc, .slice xh t.host.length yh, .int .i64 t.when] 39))
 go_enter Tryz.func20, Tryz.ntmps20
 go_wp2_with fail
 go_ret
 exact ⟨rfl, b0⟩

set_option maxHeartbeats 400000 in
set_option maxRecDepth 100000 in
theorem deedOf3_any {xq : Option Addr} {yq : Nat} {xa : Option Addr} {ya : Nat} {xb : Option Addr} {yb : Nat} {xm : Option Addr} {ym : Nat} {xp : Option Addr} {yp : Nat} {xu : Option Addr} {yu : Nat} {xc : Option Addr} {yc : Nat} {xh : Option Addr} {yh : Nat} {t : Tx} {w : World} :
  Calls Tryz.prog 20 #[.agg #[.int .i64 3, .int .i64 t.msg.id, .bool t.msg.reply, .int .i64 t.msg.op, .bool t.msg.auth, .int .i64 t.msg.code, .slice xq t.msg.qs.length yq, .slice xa t.msg.ans.length ya, .slice xb t.msg.aus.length yb, .slice xm t.msg.more.length ym, .slice xp t.msg.pres.length yp, .slice xu t.msg.ups.length yu, .int .i64 t.ip, .slice xc t.client.length yc, .slice xh t.host.length yh, .int .i64 t.when]] w fun e w' => e = .returned (.iface 78 (.agg #[.int .i64 t.when])) ∧ Below w.heap.size w w' := by
 have b0 := below_alloc (w := w) (.cells #[.int .i64 3, .int .i64 t.msg.id, .bool t.msg.reply, .int .i64 t.msg.op, .bool t.msg.auth, .int .i64 t.msg.code, .slice xq t.msg.qs.length yq, .slice xa t.msg.ans.length ya, .slice xb t.msg.aus.length yb, .slice xm t.msg.more.length ym, .slice xp t.msg.pres.length yp, .slice xu t.msg.ups.length yu, .int .i64 t.ip, .slice xc t.client.length yc, .slice xh t.host.length yh, .int .i64 t.when] 39)
 obtain ⟨d0, d1, d2, d3, d4, d5, d6, d7, d8, d9, d10, d11, d12, d13, d14, d15⟩ := cells16 (heap_alloc_new w (.cells #[.int .i64 3, .int .i64 t.msg.id, .bool t.msg.reply, .int .i64 t.msg.op, .bool t.msg.auth, .int .i64 t.msg.code, .slice xq t.msg.qs.length yq, .slice xa t.msg.ans.length ya, .slice xb t.msg.aus.length yb, .slice xm t.msg.more.length ym, .slice xp t.msg.pres.length yp, .slice xu t.msg.ups.length yu, .int .i64 t.ip, .slice xc t.client.length yc, .slice xh t.host.length yh, .int .i64 t.when] 39))
 go_enter Tryz.func20, Tryz.ntmps20
 go_wp2_with fail
 go_ret
 exact ⟨rfl, b0⟩
end Go.Proofs.YtfbfakdkemlbmaaGreat
