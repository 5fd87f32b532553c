/-
  Contract of the specification's TxnOk at kind 3. Contract of the specification's TxnOk.
-/
import Derived.Test.YtnplmeifhebhhaaGreatTxnOkG17
import Derived.Test.YtnplmeifhebhhaaGreatTxnOkG16
import Derived.Test.YtnplmeifhebhhaaGreatTxnOkG45
import Derived.Test.YtnplmeifhebhhaaGreatTxnOkG33
import Derived.Test.YtnplmeifhebhhaaGreatTxnOkG02
namespace Go.Proofs.YtnplmeifhebhhaaGreat
open Go.RowKit
set_option linter.unusedVariables false

set_option maxHeartbeats 4000000 in
set_option maxRecDepth 100000 in
theorem specTxnOk3 {vq va vb vm vp vu vc vh : Value} {t : Tx} {w : World} (h : HasTx w vq va vb vm vp vu vc vh t) (hct : t.msg.count ≤ 1048576) :
  Calls Tryz.prog 23 #[.agg #[.int .i64 3, .int .i64 t.msg.id, .bool t.msg.reply, .int .i64 t.msg.op, .bool t.msg.auth, .int .i64 t.msg.code, vq, va, vb, vm, vp, vu, .int .i64 t.ip, vc, vh, .int .i64 t.when]] w fun e w' => e = .returned (.bool (emptyM t.msg && (decide (t.ip = 0) && (decide (t.client.length = 0) && (decide (t.host.length = 0) && decide (0 ≤ t.when ∧ t.when ≤ 1000000)))))) ∧ Below w.heap.size w w' := by
 obtain ⟨xq, yq, rfl, _, zq⟩ := h.msg.qs.form
 obtain ⟨xa, ya, rfl, _, za⟩ := h.msg.ans.form
 obtain ⟨xb, yb, rfl, _, zb⟩ := h.msg.aus.form
 obtain ⟨xm, ym, rfl, _, zm⟩ := h.msg.more.form
 obtain ⟨xp, yp, rfl, _, zp⟩ := h.msg.pres.form
 obtain ⟨xu, yu, rfl, _, zu⟩ := h.msg.ups.form
 have hcb := h.client.bound
 have hhb := h.host.bound
 obtain ⟨xc, yc, rfl, _⟩ := h.client.form
 obtain ⟨xh, yh, rfl, _⟩ := h.host.form
 have b0 := below_alloc (w := w) (.cells #[.int .i64 3, .int .i64 t.msg.id, .bool t.msg.reply, .int .i64 t.msg.op, .bool t.msg.auth, .int .i64 t.msg.code, .slice xq t.msg.qs.length yq, .slice xa t.msg.ans.length ya, .slice xb t.msg.aus.length yb, .slice xm t.msg.more.length ym, .slice xp t.msg.pres.length yp, .slice xu t.msg.ups.length yu, .int .i64 t.ip, .slice xc t.client.length yc, .slice xh t.host.length yh, .int .i64 t.when] 50)
 have KK := hide (heap_alloc_new w (.cells #[.int .i64 3, .int .i64 t.msg.id, .bool t.msg.reply, .int .i64 t.msg.op, .bool t.msg.auth, .int .i64 t.msg.code, .slice xq t.msg.qs.length yq, .slice xa t.msg.ans.length ya, .slice xb t.msg.aus.length yb, .slice xm t.msg.more.length ym, .slice xp t.msg.pres.length yp, .slice xu t.msg.ups.length yu, .int .i64 t.ip, .slice xc t.client.length yc, .slice xh t.host.length yh, .int .i64 t.when] 50))
 have CM := l9emptyMsg_has (h.below b0).msg hct
 have HC := hide (h.below b0).client
 have HH := hide (h.below b0).host
 generalize hR0 : (emptyM t.msg && (decide (t.ip = 0) && (decide (t.client.length = 0) && (decide (t.host.length = 0) && decide (0 ≤ t.when ∧ t.when ≤ 1000000))))) = R at *
 have HR := hide hR0.symm
 clear hR0 h hct
 generalize emptyM t.msg = GM at *
 replace CM := hide CM
 clear HC HH
 generalize t.ip = IPV at *
 generalize t.when = WHV at *
 generalize t.client.length = NC at *
 generalize t.host.length = NH at *
 go_enter Tryz.func23, Tryz.ntmps23
 obtain ⟨d0, d1, d2, d3, d4, d5, d6, d7, d8, d9, d10, d11, d12, d13, d14, d15⟩ := cells16 (unhide KK)
 go_wp2_with fail
 clear d0 d1 d2 d3 d4 d5 d6 d7 d8 d9 d10 d11 d12 d13 d14 d15
 refine (unhide CM).mono ?_
 rintro e w1 ⟨rfl, b1⟩
 replace b0 := below_next b0 b1
 replace KK := hide (block_kept b1 (unhide KK))
 clear b1 CM
 cases GM with
 | false =>
  have hR : R = false := by have := unhide HR; rw [this] <;> simp
  subst hR
  clear HR
  obtain ⟨d0, d1, d2, d3, d4, d5, d6, d7, d8, d9, d10, d11, d12, d13, d14, d15⟩ := cells16 (unhide KK)
  go_wp2_with fail
  go_ret
  exact ⟨rfl, b0⟩
 | true =>
  by_cases e1 : IPV = 0
  ·subst e1
   by_cases e2 : NC = 0
   ·subst e2
    by_cases e3 : NH = 0
    ·subst e3
     by_cases e4 : 0 ≤ WHV
     ·by_cases e5 : WHV ≤ 1000000
      ·have hR : R = true := by have := unhide HR; rw [this] <;> simp [e4, e5]
       subst hR
       obtain ⟨d0, d1, d2, d3, d4, d5, d6, d7, d8, d9, d10, d11, d12, d13, d14, d15⟩ := cells16 (unhide KK)
       go_wp2_with fail
       go_ret
       exact ⟨rfl, b0⟩
      ·have hR : R = false := by have := unhide HR; rw [this] <;> simp [e5]
       have n5 : decide (WHV ≤ 1000000) = false := by first | omega | exact decide_eq_false (by omega)
       subst hR
       clear HR e5
       obtain ⟨d0, d1, d2, d3, d4, d5, d6, d7, d8, d9, d10, d11, d12, d13, d14, d15⟩ := cells16 (unhide KK)
       go_wp2_with fail
       go_ret
       exact ⟨rfl, b0⟩
     ·have hR : R = false := by have := unhide HR; rw [this] <;> simp [e4]
      have n4 : WHV < 0 := by first | omega | exact decide_eq_false (by omega)
      subst hR
      clear HR e4
      obtain ⟨d0, d1, d2, d3, d4, d5, d6, d7, d8, d9, d10, d11, d12, d13, d14, d15⟩ := cells16 (unhide KK)
      go_wp2_with fail
      go_ret
      exact ⟨rfl, b0⟩
    ·have q3 : (((NH : Nat) : Int) == 0) = false := by rw [beq_eq_false_iff_ne]; omega
     have hR : R = false := by have := unhide HR; rw [this] <;> simp [e3]
     subst hR
     clear HR e3
     obtain ⟨d0, d1, d2, d3, d4, d5, d6, d7, d8, d9, d10, d11, d12, d13, d14, d15⟩ := cells16 (unhide KK)
     go_wp2_with fail
     go_ret
     exact ⟨rfl, b0⟩
   ·have q2 : (((NC : Nat) : Int) == 0) = false := by rw [beq_eq_false_iff_ne]; omega
    have hR : R = false := by have := unhide HR; rw [this] <;> simp [e2]
    subst hR
    clear HR e2
    obtain ⟨d0, d1, d2, d3, d4, d5, d6, d7, d8, d9, d10, d11, d12, d13, d14, d15⟩ := cells16 (unhide KK)
    go_wp2_with fail
    go_ret
    exact ⟨rfl, b0⟩
  ·have q1 : (IPV == 0) = false := by rw [beq_eq_false_iff_ne]; omega
   have hR : R = false := by have := unhide HR; rw [this] <;> simp [e1]
   subst hR
   clear HR e1
   obtain ⟨d0, d1, d2, d3, d4, d5, d6, d7, d8, d9, d10, d11, d12, d13, d14, d15⟩ := cells16 (unhide KK)
   go_wp2_with fail
   go_ret
   exact ⟨rfl, b0⟩
end Go.Proofs.YtnplmeifhebhhaaGreat

namespace Go.Proofs.YtnplmeifhebhhaaGreat
open Go.RowKit
set_option linter.unusedVariables false

set_option maxHeartbeats 1000000 in
set_option maxRecDepth 100000 in
theorem specTxnOkE {vq va vb vm vp vu vc vh : Value} {t : Tx} {w : World} (h : HasTx w vq va vb vm vp vu vc vh t) (n0 : t.kind ≠ 0) (n1 : t.kind ≠ 1) (n2 : t.kind ≠ 2) (n3 : t.kind ≠ 3) :
  Calls Tryz.prog 23 #[.agg #[.int .i64 t.kind, .int .i64 t.msg.id, .bool t.msg.reply, .int .i64 t.msg.op, .bool t.msg.auth, .int .i64 t.msg.code, vq, va, vb, vm, vp, vu, .int .i64 t.ip, vc, vh, .int .i64 t.when]] w fun e w' => e = .returned (.bool false) ∧ Below w.heap.size w w' := by
 obtain ⟨xq, yq, rfl, _, zq⟩ := h.msg.qs.form
 obtain ⟨xa, ya, rfl, _, za⟩ := h.msg.ans.form
 obtain ⟨xb, yb, rfl, _, zb⟩ := h.msg.aus.form
 obtain ⟨xm, ym, rfl, _, zm⟩ := h.msg.more.form
 obtain ⟨xp, yp, rfl, _, zp⟩ := h.msg.pres.form
 obtain ⟨xu, yu, rfl, _, zu⟩ := h.msg.ups.form
 have hcb := h.client.bound
 have hhb := h.host.bound
 obtain ⟨xc, yc, rfl, _⟩ := h.client.form
 obtain ⟨xh, yh, rfl, _⟩ := h.host.form
 clear h
 generalize t.kind = KI at *
 have q0 : (KI == 0) = false := by rw [beq_eq_false_iff_ne]; exact n0
 have q1 : (KI == 1) = false := by rw [beq_eq_false_iff_ne]; exact n1
 have q2 : (KI == 2) = false := by rw [beq_eq_false_iff_ne]; exact n2
 have q3 : (KI == 3) = false := by rw [beq_eq_false_iff_ne]; exact n3
 clear n0 n1 n2 n3
 have b0 := below_alloc (w := w) (.cells #[.int .i64 KI, .int .i64 t.msg.id, .bool t.msg.reply, .int .i64 t.msg.op, .bool t.msg.auth, .int .i64 t.msg.code, .slice xq t.msg.qs.length yq, .slice xa t.msg.ans.length ya, .slice xb t.msg.aus.length yb, .slice xm t.msg.more.length ym, .slice xp t.msg.pres.length yp, .slice xu t.msg.ups.length yu, .int .i64 t.ip, .slice xc t.client.length yc, .slice xh t.host.length yh, .int .i64 t.when] 50)
 obtain ⟨d0, d1, d2, d3, d4, d5, d6, d7, d8, d9, d10, d11, d12, d13, d14, d15⟩ := cells16 (heap_alloc_new w (.cells #[.int .i64 KI, .int .i64 t.msg.id, .bool t.msg.reply, .int .i64 t.msg.op, .bool t.msg.auth, .int .i64 t.msg.code, .slice xq t.msg.qs.length yq, .slice xa t.msg.ans.length ya, .slice xb t.msg.aus.length yb, .slice xm t.msg.more.length ym, .slice xp t.msg.pres.length yp, .slice xu t.msg.ups.length yu, .int .i64 t.ip, .slice xc t.client.length yc, .slice xh t.host.length yh, .int .i64 t.when] 50))
 go_enter Tryz.func23, Tryz.ntmps23
 go_wp2_with fail
 go_ret
 exact ⟨rfl, b0⟩

theorem specTxnOk_has {vq va vb vm vp vu vc vh : Value} {t : Tx} {w : World} (h : HasTx w vq va vb vm vp vu vc vh t) (hct : t.msg.count ≤ 1048576) :
  Calls Tryz.prog 23 #[.agg #[.int .i64 t.kind, .int .i64 t.msg.id, .bool t.msg.reply, .int .i64 t.msg.op, .bool t.msg.auth, .int .i64 t.msg.code, vq, va, vb, vm, vp, vu, .int .i64 t.ip, vc, vh, .int .i64 t.when]] w fun e w' => e = .returned (.bool (txOk t)) ∧ Below w.heap.size w w' := by
 by_cases n0 : t.kind = 0
 ·have hR : txOk t = (okM t.msg && (decide (t.msg.op = 5) && (!t.msg.reply && (decide (t.ip = 0) && (decide (t.client.length = 0) && (decide (t.host.length = 0) && decide (t.when = 0))))))) := by
   unfold txOk
   rw [if_pos n0]
  rw [hR, n0]
  exact specTxnOk0 h hct
 by_cases n1 : t.kind = 1
 ·have hR : txOk t = (emptyM t.msg && (ipB t.ip && (clientB t.client && (labelOk t.host && (decide (0 ≤ t.when ∧ t.when ≤ 2000000)))))) := by
   unfold txOk
   rw [if_neg n0, if_pos n1]
  rw [hR, n1]
  exact specTxnOk1 h hct
 by_cases n2 : t.kind = 2
 ·have hR : txOk t = (emptyM t.msg && (ipB t.ip && (clientB t.client && (decide (t.host.length = 0) && decide (t.when = 0))))) := by
   unfold txOk
   rw [if_neg n0, if_neg n1, if_pos n2]
  rw [hR, n2]
  exact specTxnOk2 h hct
 by_cases n3 : t.kind = 3
 ·have hR : txOk t = (emptyM t.msg && (decide (t.ip = 0) && (decide (t.client.length = 0) && (decide (t.host.length = 0) && decide (0 ≤ t.when ∧ t.when ≤ 1000000))))) := by
   unfold txOk
   rw [if_neg n0, if_neg n1, if_neg n2, if_pos n3]
  rw [hR, n3]
  exact specTxnOk3 h hct
 have hR : txOk t = false := by
  unfold txOk
  rw [if_neg n0, if_neg n1, if_neg n2, if_neg n3]
 rw [hR]
 exact specTxnOkE h n0 n1 n2 n3
end Go.Proofs.YtnplmeifhebhhaaGreat
