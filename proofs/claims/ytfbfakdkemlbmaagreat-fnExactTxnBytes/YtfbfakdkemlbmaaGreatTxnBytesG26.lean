/-
  Contracts of the program's noFieldBeside. Contract of the program's TxnOk at kind 0.
-/
import Derived.Test.YtfbfakdkemlbmaaGreatTxnBytesG25
import Derived.Test.YtfbfakdkemlbmaaGreatTxnBytesG13
namespace Go.Proofs.YtfbfakdkemlbmaaGreat
open Go.RowKit
set_option linter.unusedVariables false

set_option maxHeartbeats 2000000 in
set_option maxRecDepth 100000 in
theorem beside0_has {vq va vb vm vp vu vc vh : Value} {t : Tx} {w : World} (h : HasTx w vq va vb vm vp vu vc vh t) (hct : t.msg.count ≤ 1048576) {xq xa xb xm xp xu xc xh : Option Addr} {yq ya yb ym yp yu yc yh : Nat} (eq : vq = .slice xq t.msg.qs.length yq) (ea : va = .slice xa t.msg.ans.length ya) (eb : vb = .slice xb t.msg.aus.length yb) (em : vm = .slice xm t.msg.more.length ym) (ep : vp = .slice xp t.msg.pres.length yp) (eu : vu = .slice xu t.msg.ups.length yu) (ec : vc = .slice xc t.client.length yc) (eh : vh = .slice xh t.host.length yh) :
  Calls Tryz.prog 37 #[.agg #[.int .i64 0, .int .i64 t.msg.id, .bool t.msg.reply, .int .i64 t.msg.op, .bool t.msg.auth, .int .i64 t.msg.code, vq, va, vb, vm, vp, vu, .int .i64 t.ip, vc, vh, .int .i64 t.when], .agg #[.int .i64 0, .int .i64 t.msg.id, .bool t.msg.reply, .int .i64 t.msg.op, .bool t.msg.auth, .int .i64 t.msg.code, .slice xq t.msg.qs.length yq, .slice xa t.msg.ans.length ya, .slice xb t.msg.aus.length yb, .slice xm t.msg.more.length ym, .slice xp t.msg.pres.length yp, .slice xu t.msg.ups.length yu, .int .i64 0, .slice none 0 0, .slice none 0 0, .int .i64 0]] w fun e w' => e = .returned (.bool (decide (t.client.length = 0) && (decide (t.host.length = 0) && (decide (t.ip = 0) && decide (t.when = 0))))) ∧ Below w.heap.size w w' := by
 subst eq ea eb em ep eu ec eh
 have hcb := h.client.bound
 have hhb := h.host.bound
 have b0 := below2 w (.cells #[.int .i64 0, .int .i64 t.msg.id, .bool t.msg.reply, .int .i64 t.msg.op, .bool t.msg.auth, .int .i64 t.msg.code, .slice xq t.msg.qs.length yq, .slice xa t.msg.ans.length ya, .slice xb t.msg.aus.length yb, .slice xm t.msg.more.length ym, .slice xp t.msg.pres.length yp, .slice xu t.msg.ups.length yu, .int .i64 t.ip, .slice xc t.client.length yc, .slice xh t.host.length yh, .int .i64 t.when] 39) (.cells #[.int .i64 0, .int .i64 t.msg.id, .bool t.msg.reply, .int .i64 t.msg.op, .bool t.msg.auth, .int .i64 t.msg.code, .slice xq t.msg.qs.length yq, .slice xa t.msg.ans.length ya, .slice xb t.msg.aus.length yb, .slice xm t.msg.more.length ym, .slice xp t.msg.pres.length yp, .slice xu t.msg.ups.length yu, .int .i64 0, .slice none 0 0, .slice none 0 0, .int .i64 0] 39)
 obtain ⟨hsz, k0, r0⟩ := box2 w (.cells #[.int .i64 0, .int .i64 t.msg.id, .bool t.msg.reply, .int .i64 t.msg.op, .bool t.msg.auth, .int .i64 t.msg.code, .slice xq t.msg.qs.length yq, .slice xa t.msg.ans.length ya, .slice xb t.msg.aus.length yb, .slice xm t.msg.more.length ym, .slice xp t.msg.pres.length yp, .slice xu t.msg.ups.length yu, .int .i64 t.ip, .slice xc t.client.length yc, .slice xh t.host.length yh, .int .i64 t.when] 39) #[.int .i64 0, .int .i64 t.msg.id, .bool t.msg.reply, .int .i64 t.msg.op, .bool t.msg.auth, .int .i64 t.msg.code, .slice xq t.msg.qs.length yq, .slice xa t.msg.ans.length ya, .slice xb t.msg.aus.length yb, .slice xm t.msg.more.length ym, .slice xp t.msg.pres.length yp, .slice xu t.msg.ups.length yu, .int .i64 0, .slice none 0 0, .slice none 0 0, .int .i64 0] 39
 have KK := hide k0
 have RR := hide r0
 obtain ⟨R, hR0⟩ : ∃ R, R = (decide (t.client.length = 0) && (decide (t.host.length = 0) && (decide (t.ip = 0) && decide (t.when = 0)))) := ⟨_, rfl⟩
 rw [← hR0]
 have HR := hide hR0
 clear hR0 h k0 r0 hsz hct
 generalize t.ip = IPV at *
 generalize t.when = WHV at *
 generalize t.client.length = NC at *
 generalize t.host.length = NH at *
 by_cases e0 : NC = 0
 ·subst e0
  by_cases e1 : NH = 0
  ·subst e1
   by_cases e2 : IPV = 0
   ·subst e2
    by_cases e3 : WHV = 0
    ·subst e3
     have hR : R = true := by have := unhide HR; rw [this] <;> simp
     subst hR
     go_enter Tryz.func37, Tryz.ntmps37
     obtain ⟨d0, d1, d2, d3, d4, d5, d6, d7, d8, d9, d10, d11, d12, d13, d14, d15⟩ := cells16 (unhide KK)
     obtain ⟨f0, f1, f2, f3, f4, f5, f6, f7, f8, f9, f10, f11, f12, f13, f14, f15⟩ := cells16 (unhide RR)
     go_wp2_with fail
     go_ret
     exact ⟨rfl, b0⟩
    ·have q3 : (WHV == 0) = false := by rw [beq_eq_false_iff_ne]; omega
     have hR : R = false := by have := unhide HR; rw [this] <;> simp [e3]
     subst hR
     clear HR e3
     go_enter Tryz.func37, Tryz.ntmps37
     obtain ⟨d0, d1, d2, d3, d4, d5, d6, d7, d8, d9, d10, d11, d12, d13, d14, d15⟩ := cells16 (unhide KK)
     obtain ⟨f0, f1, f2, f3, f4, f5, f6, f7, f8, f9, f10, f11, f12, f13, f14, f15⟩ := cells16 (unhide RR)
     go_wp2_with fail
     go_ret
     exact ⟨rfl, b0⟩
   ·have q2 : (IPV == 0) = false := by rw [beq_eq_false_iff_ne]; omega
    have hR : R = false := by have := unhide HR; rw [this] <;> simp [e2]
    subst hR
    clear HR e2
    go_enter Tryz.func37, Tryz.ntmps37
    obtain ⟨d0, d1, d2, d3, d4, d5, d6, d7, d8, d9, d10, d11, d12, d13, d14, d15⟩ := cells16 (unhide KK)
    obtain ⟨f0, f1, f2, f3, f4, f5, f6, f7, f8, f9, f10, f11, f12, f13, f14, f15⟩ := cells16 (unhide RR)
    go_wp2_with fail
    go_ret
    exact ⟨rfl, b0⟩
  ·have q1 : (((NH : Nat) : Int) == 0) = false := by rw [beq_eq_false_iff_ne]; omega
   have hR : R = false := by have := unhide HR; rw [this] <;> simp [e1]
   subst hR
   clear HR e1
   go_enter Tryz.func37, Tryz.ntmps37
   obtain ⟨d0, d1, d2, d3, d4, d5, d6, d7, d8, d9, d10, d11, d12, d13, d14, d15⟩ := cells16 (unhide KK)
   obtain ⟨f0, f1, f2, f3, f4, f5, f6, f7, f8, f9, f10, f11, f12, f13, f14, f15⟩ := cells16 (unhide RR)
   go_wp2_with fail
   go_ret
   exact ⟨rfl, b0⟩
 ·have q0 : (((NC : Nat) : Int) == 0) = false := by rw [beq_eq_false_iff_ne]; omega
  have hR : R = false := by have := unhide HR; rw [this] <;> simp [e0]
  subst hR
  clear HR e0
  go_enter Tryz.func37, Tryz.ntmps37
  obtain ⟨d0, d1, d2, d3, d4, d5, d6, d7, d8, d9, d10, d11, d12, d13, d14, d15⟩ := cells16 (unhide KK)
  obtain ⟨f0, f1, f2, f3, f4, f5, f6, f7, f8, f9, f10, f11, f12, f13, f14, f15⟩ := cells16 (unhide RR)
  go_wp2_with fail
  go_ret
  exact ⟨rfl, b0⟩

set_option maxHeartbeats 2000000 in
set_option maxRecDepth 100000 in
theorem beside1_has {vq va vb vm vp vu vc vh : Value} {t : Tx} {w : World} (h : HasTx w vq va vb vm vp vu vc vh t) (hct : t.msg.count ≤ 1048576) {xq xa xb xm xp xu xc xh : Option Addr} {yq ya yb ym yp yu yc yh : Nat} (eq : vq = .slice xq t.msg.qs.length yq) (ea : va = .slice xa t.msg.ans.length ya) (eb : vb = .slice xb t.msg.aus.length yb) (em : vm = .slice xm t.msg.more.length ym) (ep : vp = .slice xp t.msg.pres.length yp) (eu : vu = .slice xu t.msg.ups.length yu) (ec : vc = .slice xc t.client.length yc) (eh : vh = .slice xh t.host.length yh) :
  Calls Tryz.prog 37 #[.agg #[.int .i64 1, .int .i64 t.msg.id, .bool t.msg.reply, .int .i64 t.msg.op, .bool t.msg.auth, .int .i64 t.msg.code, vq, va, vb, vm, vp, vu, .int .i64 t.ip, vc, vh, .int .i64 t.when], .agg #[.int .i64 1, .int .i64 0, .bool false, .int .i64 0, .bool false, .int .i64 0, .slice none 0 0, .slice none 0 0, .slice none 0 0, .slice none 0 0, .slice none 0 0, .slice none 0 0, .int .i64 t.ip, .slice xc t.client.length yc, .slice xh t.host.length yh, .int .i64 t.when]] w fun e w' => e = .returned (.bool (emptyM t.msg)) ∧ Below w.heap.size w w' := by
 subst eq ea eb em ep eu ec eh
 have hcb := h.client.bound
 have hhb := h.host.bound
 have b0 := below2 w (.cells #[.int .i64 1, .int .i64 t.msg.id, .bool t.msg.reply, .int .i64 t.msg.op, .bool t.msg.auth, .int .i64 t.msg.code, .slice xq t.msg.qs.length yq, .slice xa t.msg.ans.length ya, .slice xb t.msg.aus.length yb, .slice xm t.msg.more.length ym, .slice xp t.msg.pres.length yp, .slice xu t.msg.ups.length yu, .int .i64 t.ip, .slice xc t.client.length yc, .slice xh t.host.length yh, .int .i64 t.when] 39) (.cells #[.int .i64 1, .int .i64 0, .bool false, .int .i64 0, .bool false, .int .i64 0, .slice none 0 0, .slice none 0 0, .slice none 0 0, .slice none 0 0, .slice none 0 0, .slice none 0 0, .int .i64 t.ip, .slice xc t.client.length yc, .slice xh t.host.length yh, .int .i64 t.when] 39)
 obtain ⟨hsz, k0, r0⟩ := box2 w (.cells #[.int .i64 1, .int .i64 t.msg.id, .bool t.msg.reply, .int .i64 t.msg.op, .bool t.msg.auth, .int .i64 t.msg.code, .slice xq t.msg.qs.length yq, .slice xa t.msg.ans.length ya, .slice xb t.msg.aus.length yb, .slice xm t.msg.more.length ym, .slice xp t.msg.pres.length yp, .slice xu t.msg.ups.length yu, .int .i64 t.ip, .slice xc t.client.length yc, .slice xh t.host.length yh, .int .i64 t.when] 39) #[.int .i64 1, .int .i64 0, .bool false, .int .i64 0, .bool false, .int .i64 0, .slice none 0 0, .slice none 0 0, .slice none 0 0, .slice none 0 0, .slice none 0 0, .slice none 0 0, .int .i64 t.ip, .slice xc t.client.length yc, .slice xh t.host.length yh, .int .i64 t.when] 39
 have KK := hide k0
 have RR := hide r0
 have CE := isZeroMsg_has (h.below b0).msg hct
 generalize emptyM t.msg = G at *
 replace CE := hide CE
 obtain ⟨R, hR0⟩ : ∃ R, R = (G) := ⟨_, rfl⟩
 rw [← hR0]
 have HR := hide hR0
 clear hR0 h k0 r0 hsz hct
 generalize t.ip = IPV at *
 generalize t.when = WHV at *
 generalize t.client.length = NC at *
 generalize t.host.length = NH at *
 go_enter Tryz.func37, Tryz.ntmps37
 obtain ⟨d0, d1, d2, d3, d4, d5, d6, d7, d8, d9, d10, d11, d12, d13, d14, d15⟩ := cells16 (unhide KK)
 obtain ⟨f0, f1, f2, f3, f4, f5, f6, f7, f8, f9, f10, f11, f12, f13, f14, f15⟩ := cells16 (unhide RR)
 go_wp2_with fail
 clear d0 d1 d2 d3 d4 d5 d6 d7 d8 d9 d10 d11 d12 d13 d14 d15
 clear f0 f1 f2 f3 f4 f5 f6 f7 f8 f9 f10 f11 f12 f13 f14 f15
 refine (unhide CE).mono ?_
 rintro e w1 ⟨rfl, b1⟩
 replace b0 := below_next b0 b1
 replace KK := hide (block_kept b1 (unhide KK))
 replace RR := hide (block_kept b1 (unhide RR))
 clear b1 CE
 cases G with
 | false =>
  have hR : R = false := by have := unhide HR; rw [this] <;> simp
  subst hR
  clear HR
  obtain ⟨d0, d1, d2, d3, d4, d5, d6, d7, d8, d9, d10, d11, d12, d13, d14, d15⟩ := cells16 (unhide KK)
  obtain ⟨f0, f1, f2, f3, f4, f5, f6, f7, f8, f9, f10, f11, f12, f13, f14, f15⟩ := cells16 (unhide RR)
  go_wp2_with fail
  go_ret
  exact ⟨rfl, b0⟩
 | true =>
  have hR : R = true := by have := unhide HR; rw [this] <;> simp
  subst hR
  obtain ⟨d0, d1, d2, d3, d4, d5, d6, d7, d8, d9, d10, d11, d12, d13, d14, d15⟩ := cells16 (unhide KK)
  obtain ⟨f0, f1, f2, f3, f4, f5, f6, f7, f8, f9, f10, f11, f12, f13, f14, f15⟩ := cells16 (unhide RR)
  go_wp2_with fail
  go_ret
  exact ⟨rfl, b0⟩

set_option maxHeartbeats 2000000 in
set_option maxRecDepth 100000 in
theorem beside2_has {vq va vb vm vp vu vc vh : Value} {t : Tx} {w : World} (h : HasTx w vq va vb vm vp vu vc vh t) (hct : t.msg.count ≤ 1048576) {xq xa xb xm xp xu xc xh : Option Addr} {yq ya yb ym yp yu yc yh : Nat} (eq : vq = .slice xq t.msg.qs.length yq) (ea : va = .slice xa t.msg.ans.length ya) (eb : vb = .slice xb t.msg.aus.length yb) (em : vm = .slice xm t.msg.more.length ym) (ep : vp = .slice xp t.msg.pres.length yp) (eu : vu = .slice xu t.msg.ups.length yu) (ec : vc = .slice xc t.client.length yc) (eh : vh = .slice xh t.host.length yh) :
  Calls Tryz.prog 37 #[.agg #[.int .i64 2, .int .i64 t.msg.id, .bool t.msg.reply, .int .i64 t.msg.op, .bool t.msg.auth, .int .i64 t.msg.code, vq, va, vb, vm, vp, vu, .int .i64 t.ip, vc, vh, .int .i64 t.when], .agg #[.int .i64 2, .int .i64 0, .bool false, .int .i64 0, .bool false, .int .i64 0, .slice none 0 0, .slice none 0 0, .slice none 0 0, .slice none 0 0, .slice none 0 0, .slice none 0 0, .int .i64 t.ip, .slice xc t.client.length yc, .slice none 0 0, .int .i64 0]] w fun e w' => e = .returned (.bool (decide (t.host.length = 0) && (decide (t.when = 0) && emptyM t.msg))) ∧ Below w.heap.size w w' := by
 subst eq ea eb em ep eu ec eh
 have hcb := h.client.bound
 have hhb := h.host.bound
 have b0 := below2 w (.cells #[.int .i64 2, .int .i64 t.msg.id, .bool t.msg.reply, .int .i64 t.msg.op, .bool t.msg.auth, .int .i64 t.msg.code, .slice xq t.msg.qs.length yq, .slice xa t.msg.ans.length ya, .slice xb t.msg.aus.length yb, .slice xm t.msg.more.length ym, .slice xp t.msg.pres.length yp, .slice xu t.msg.ups.length yu, .int .i64 t.ip, .slice xc t.client.length yc, .slice xh t.host.length yh, .int .i64 t.when] 39) (.cells #[.int .i64 2, .int .i64 0, .bool false, .int .i64 0, .bool false, .int .i64 0, .slice none 0 0, .slice none 0 0, .slice none 0 0, .slice none 0 0, .slice none 0 0, .slice none 0 0, .int .i64 t.ip, .slice xc t.client.length yc, .slice none 0 0, .int .i64 0] 39)
 obtain ⟨hsz, k0, r0⟩ := box2 w (.cells #[.int .i64 2, .int .i64 t.msg.id, .bool t.msg.reply, .int .i64 t.msg.op, .bool t.msg.auth, .int .i64 t.msg.code, .slice xq t.msg.qs.length yq, .slice xa t.msg.ans.length ya, .slice xb t.msg.aus.length yb, .slice xm t.msg.more.length ym, .slice xp t.msg.pres.length yp, .slice xu t.msg.ups.length yu, .int .i64 t.ip, .slice xc t.client.length yc, .slice xh t.host.length yh, .int .i64 t.when] 39) #[.int .i64 2, .int .i64 0, .bool false, .int .i64 0, .bool false, .int .i64 0, .slice none 0 0, .slice none 0 0, .slice none 0 0, .slice none 0 0, .slice none 0 0, .slice none 0 0, .int .i64 t.ip, .slice xc t.client.length yc, .slice none 0 0, .int .i64 0] 39
 have KK := hide k0
 have RR := hide r0
 have CE := isZeroMsg_has (h.below b0).msg hct
 generalize emptyM t.msg = G at *
 replace CE := hide CE
 obtain ⟨R, hR0⟩ : ∃ R, R = (decide (t.host.length = 0) && (decide (t.when = 0) && G)) := ⟨_, rfl⟩
 rw [← hR0]
 have HR := hide hR0
 clear hR0 h k0 r0 hsz hct
 generalize t.ip = IPV at *
 generalize t.when = WHV at *
 generalize t.client.length = NC at *
 generalize t.host.length = NH at *
 by_cases e0 : NH = 0
 ·subst e0
  by_cases e1 : WHV = 0
  ·subst e1
   go_enter Tryz.func37, Tryz.ntmps37
   obtain ⟨d0, d1, d2, d3, d4, d5, d6, d7, d8, d9, d10, d11, d12, d13, d14, d15⟩ := cells16 (unhide KK)
   obtain ⟨f0, f1, f2, f3, f4, f5, f6, f7, f8, f9, f10, f11, f12, f13, f14, f15⟩ := cells16 (unhide RR)
   go_wp2_with fail
   clear d0 d1 d2 d3 d4 d5 d6 d7 d8 d9 d10 d11 d12 d13 d14 d15
   clear f0 f1 f2 f3 f4 f5 f6 f7 f8 f9 f10 f11 f12 f13 f14 f15
   refine (unhide CE).mono ?_
   rintro e w1 ⟨rfl, b1⟩
   replace b0 := below_next b0 b1
   replace KK := hide (block_kept b1 (unhide KK))
   replace RR := hide (block_kept b1 (unhide RR))
   clear b1 CE
   cases G with
   | false =>
    have hR : R = false := by have := unhide HR; rw [this] <;> simp
    subst hR
    clear HR
    obtain ⟨d0, d1, d2, d3, d4, d5, d6, d7, d8, d9, d10, d11, d12, d13, d14, d15⟩ := cells16 (unhide KK)
    obtain ⟨f0, f1, f2, f3, f4, f5, f6, f7, f8, f9, f10, f11, f12, f13, f14, f15⟩ := cells16 (unhide RR)
    go_wp2_with fail
    go_ret
    exact ⟨rfl, b0⟩
   | true =>
    have hR : R = true := by have := unhide HR; rw [this] <;> simp
    subst hR
    obtain ⟨d0, d1, d2, d3, d4, d5, d6, d7, d8, d9, d10, d11, d12, d13, d14, d15⟩ := cells16 (unhide KK)
    obtain ⟨f0, f1, f2, f3, f4, f5, f6, f7, f8, f9, f10, f11, f12, f13, f14, f15⟩ := cells16 (unhide RR)
    go_wp2_with fail
    go_ret
    exact ⟨rfl, b0⟩
  ·have q1 : (WHV == 0) = false := by rw [beq_eq_false_iff_ne]; omega
   have hR : R = false := by have := unhide HR; rw [this] <;> simp [e1]
   subst hR
   clear HR e1
   go_enter Tryz.func37, Tryz.ntmps37
   obtain ⟨d0, d1, d2, d3, d4, d5, d6, d7, d8, d9, d10, d11, d12, d13, d14, d15⟩ := cells16 (unhide KK)
   obtain ⟨f0, f1, f2, f3, f4, f5, f6, f7, f8, f9, f10, f11, f12, f13, f14, f15⟩ := cells16 (unhide RR)
   go_wp2_with fail
   go_ret
   exact ⟨rfl, b0⟩
 ·have q0 : (((NH : Nat) : Int) == 0) = false := by rw [beq_eq_false_iff_ne]; omega
  have hR : R = false := by have := unhide HR; rw [this] <;> simp [e0]
  subst hR
  clear HR e0
  go_enter Tryz.func37, Tryz.ntmps37
  obtain ⟨d0, d1, d2, d3, d4, d5, d6, d7, d8, d9, d10, d11, d12, d13, d14, d15⟩ := cells16 (unhide KK)
  obtain ⟨f0, f1, f2, f3, f4, f5, f6, f7, f8, f9, f10, f11, f12, f13, f14, f15⟩ := cells16 (unhide RR)
  go_wp2_with fail
  go_ret
  exact ⟨rfl, b0⟩

set_option maxHeartbeats 2000000 in
set_option maxRecDepth 100000 in
theorem beside3_has {vq va vb vm vp vu vc vh : Value} {t : Tx} {w : World} (h : HasTx w vq va vb vm vp vu vc vh t) (hct : t.msg.count ≤ 1048576) {xq xa xb xm xp xu xc xh : Option Addr} {yq ya yb ym yp yu yc yh : Nat} (eq : vq = .slice xq t.msg.qs.length yq) (ea : va = .slice xa t.msg.ans.length ya) (eb : vb = .slice xb t.msg.aus.length yb) (em : vm = .slice xm t.msg.more.length ym) (ep : vp = .slice xp t.msg.pres.length yp) (eu : vu = .slice xu t.msg.ups.length yu) (ec : vc = .slice xc t.client.length yc) (eh : vh = .slice xh t.host.length yh) :
  Calls Tryz.prog 37 #[.agg #[.int .i64 3, .int .i64 t.msg.id, .bool t.msg.reply, .int .i64 t.msg.op, .bool t.msg.auth, .int .i64 t.msg.code, vq, va, vb, vm, vp, vu, .int .i64 t.ip, vc, vh, .int .i64 t.when], .agg #[.int .i64 3, .int .i64 0, .bool false, .int .i64 0, .bool false, .int .i64 0, .slice none 0 0, .slice none 0 0, .slice none 0 0, .slice none 0 0, .slice none 0 0, .slice none 0 0, .int .i64 0, .slice none 0 0, .slice none 0 0, .int .i64 t.when]] w fun e w' => e = .returned (.bool (decide (t.client.length = 0) && (decide (t.host.length = 0) && (decide (t.ip = 0) && emptyM t.msg)))) ∧ Below w.heap.size w w' := by
 subst eq ea eb em ep eu ec eh
 have hcb := h.client.bound
 have hhb := h.host.bound
 have b0 := below2 w (.cells #[.int .i64 3, .int .i64 t.msg.id, .bool t.msg.reply, .int .i64 t.msg.op, .bool t.msg.auth, .int .i64 t.msg.code, .slice xq t.msg.qs.length yq, .slice xa t.msg.ans.length ya, .slice xb t.msg.aus.length yb, .slice xm t.msg.more.length ym, .slice xp t.msg.pres.length yp, .slice xu t.msg.ups.length yu, .int .i64 t.ip, .slice xc t.client.length yc, .slice xh t.host.length yh, .int .i64 t.when] 39) (.cells #[.int .i64 3, .int .i64 0, .bool false, .int .i64 0, .bool false, .int .i64 0, .slice none 0 0, .slice none 0 0, .slice none 0 0, .slice none 0 0, .slice none 0 0, .slice none 0 0, .int .i64 0, .slice none 0 0, .slice none 0 0, .int .i64 t.when] 39)
 obtain ⟨hsz, k0, r0⟩ := box2 w (.cells #[.int .i64 3, .int .i64 t.msg.id, .bool t.msg.reply, .int .i64 t.msg.op, .bool t.msg.auth, .int .i64 t.msg.code, .slice xq t.msg.qs.length yq, .slice xa t.msg.ans.length ya, .slice xb t.msg.aus.length yb, .slice xm t.msg.more.length ym, .slice xp t.msg.pres.length yp, .slice xu t.msg.ups.length yu, .int .i64 t.ip, .slice xc t.client.length yc, .slice xh t.host.length yh, .int .i64 t.when] 39) #[.int .i64 3, .int .i64 0, .bool false, .int .i64 0, .bool false, .int .i64 0, .slice none 0 0, .slice none 0 0, .slice none 0 0, .slice none 0 0, .slice none 0 0, .slice none 0 0, .int .i64 0, .slice none 0 0, .slice none 0 0, .int .i64 t.when] 39
 have KK := hide k0
 have RR := hide r0
 have CE := isZeroMsg_has (h.below b0).msg hct
 generalize emptyM t.msg = G at *
 replace CE := hide CE
 obtain ⟨R, hR0⟩ : ∃ R, R = (decide (t.client.length = 0) && (decide (t.host.length = 0) && (decide (t.ip = 0) && G))) := ⟨_, rfl⟩
 rw [← hR0]
 have HR := hide hR0
 clear hR0 h k0 r0 hsz hct
 generalize t.ip = IPV at *
 generalize t.when = WHV at *
 generalize t.client.length = NC at *
 generalize t.host.length = NH at *
 by_cases e0 : NC = 0
 ·subst e0
  by_cases e1 : NH = 0
  ·subst e1
   by_cases e2 : IPV = 0
   ·subst e2
    go_enter Tryz.func37, Tryz.ntmps37
    obtain ⟨d0, d1, d2, d3, d4, d5, d6, d7, d8, d9, d10, d11, d12, d13, d14, d15⟩ := cells16 (unhide KK)
    obtain ⟨f0, f1, f2, f3, f4, f5, f6, f7, f8, f9, f10, f11, f12, f13, f14, f15⟩ := cells16 (unhide RR)
    go_wp2_with fail
    clear d0 d1 d2 d3 d4 d5 d6 d7 d8 d9 d10 d11 d12 d13 d14 d15
    clear f0 f1 f2 f3 f4 f5 f6 f7 f8 f9 f10 f11 f12 f13 f14 f15
    refine (unhide CE).mono ?_
    rintro e w1 ⟨rfl, b1⟩
    replace b0 := below_next b0 b1
    replace KK := hide (block_kept b1 (unhide KK))
    replace RR := hide (block_kept b1 (unhide RR))
    clear b1 CE
    cases G with
    | false =>
     have hR : R = false := by have := unhide HR; rw [this] <;> simp
     subst hR
     clear HR
     obtain ⟨d0, d1, d2, d3, d4, d5, d6, d7, d8, d9, d10, d11, d12, d13, d14, d15⟩ := cells16 (unhide KK)
     obtain ⟨f0, f1, f2, f3, f4, f5, f6, f7, f8, f9, f10, f11, f12, f13, f14, f15⟩ := cells16 (unhide RR)
     go_wp2_with fail
     go_ret
     exact ⟨rfl, b0⟩
    | true =>
     have hR : R = true := by have := unhide HR; rw [this] <;> simp
     subst hR
     obtain ⟨d0, d1, d2, d3, d4, d5, d6, d7, d8, d9, d10, d11, d12, d13, d14, d15⟩ := cells16 (unhide KK)
     obtain ⟨f0, f1, f2, f3, f4, f5, f6, f7, f8, f9, f10, f11, f12, f13, f14, f15⟩ := cells16 (unhide RR)
     go_wp2_with fail
     go_ret
     exact ⟨rfl, b0⟩
   ·have q2 : (IPV == 0) = false := by rw [beq_eq_false_iff_ne]; omega
    have hR : R = false := by have := unhide HR; rw [this] <;> simp [e2]
    subst hR
    clear HR e2
    go_enter Tryz.func37, Tryz.ntmps37
    obtain ⟨d0, d1, d2, d3, d4, d5, d6, d7, d8, d9, d10, d11, d12, d13, d14, d15⟩ := cells16 (unhide KK)
    obtain ⟨f0, f1, f2, f3, f4, f5, f6, f7, f8, f9, f10, f11, f12, f13, f14, f15⟩ := cells16 (unhide RR)
    go_wp2_with fail
    go_ret
    exact ⟨rfl, b0⟩
  ·have q1 : (((NH : Nat) : Int) == 0) = false := by rw [beq_eq_false_iff_ne]; omega
   have hR : R = false := by have := unhide HR; rw [this] <;> simp [e1]
   subst hR
   clear HR e1
   go_enter Tryz.func37, Tryz.ntmps37
   obtain ⟨d0, d1, d2, d3, d4, d5, d6, d7, d8, d9, d10, d11, d12, d13, d14, d15⟩ := cells16 (unhide KK)
   obtain ⟨f0, f1, f2, f3, f4, f5, f6, f7, f8, f9, f10, f11, f12, f13, f14, f15⟩ := cells16 (unhide RR)
   go_wp2_with fail
   go_ret
   exact ⟨rfl, b0⟩
 ·have q0 : (((NC : Nat) : Int) == 0) = false := by rw [beq_eq_false_iff_ne]; omega
  have hR : R = false := by have := unhide HR; rw [this] <;> simp [e0]
  subst hR
  clear HR e0
  go_enter Tryz.func37, Tryz.ntmps37
  obtain ⟨d0, d1, d2, d3, d4, d5, d6, d7, d8, d9, d10, d11, d12, d13, d14, d15⟩ := cells16 (unhide KK)
  obtain ⟨f0, f1, f2, f3, f4, f5, f6, f7, f8, f9, f10, f11, f12, f13, f14, f15⟩ := cells16 (unhide RR)
  go_wp2_with fail
  go_ret
  exact ⟨rfl, b0⟩
end Go.Proofs.YtfbfakdkemlbmaaGreat

namespace Go.Proofs.YtfbfakdkemlbmaaGreat
open Go.RowKit
set_option linter.unusedVariables false

set_option maxHeartbeats 2000000 in
set_option maxRecDepth 100000 in
theorem implTxnOk0 {vq va vb vm vp vu vc vh : Value} {t : Tx} {w : World} (h : HasTx w vq va vb vm vp vu vc vh t) (hct : t.msg.count ≤ 1048576) :
  Calls Tryz.prog 19 #[.agg #[.int .i64 0, .int .i64 t.msg.id, .bool t.msg.reply, .int .i64 t.msg.op, .bool t.msg.auth, .int .i64 t.msg.code, vq, va, vb, vm, vp, vu, .int .i64 t.ip, vc, vh, .int .i64 t.when]] w fun e w' => e = .returned (.bool ((okM t.msg && (decide (t.msg.op = 5) && !t.msg.reply)) && (decide (t.client.length = 0) && (decide (t.host.length = 0) && (decide (t.ip = 0) && decide (t.when = 0)))))) ∧ Below w.heap.size w w' := by
 obtain ⟨xq, yq, rfl, _, zq⟩ := h.msg.qs.form
 obtain ⟨xa, ya, rfl, _, za⟩ := h.msg.ans.form
 obtain ⟨xb, yb, rfl, _, zb⟩ := h.msg.aus.form
 obtain ⟨xm, ym, rfl, _, zm⟩ := h.msg.more.form
 obtain ⟨xp, yp, rfl, _, zp⟩ := h.msg.pres.form
 obtain ⟨xu, yu, rfl, _, zu⟩ := h.msg.ups.form
 have hcb := h.client.bound
 have hhb := h.host.bound
 obtain ⟨xc, yc, rfl, _⟩ := h.client.form
 obtain ⟨xh, yh, rfl, _⟩ := h.host.form
 have b0 := below_alloc (w := w) (.cells #[.int .i64 0, .int .i64 t.msg.id, .bool t.msg.reply, .int .i64 t.msg.op, .bool t.msg.auth, .int .i64 t.msg.code, .slice xq t.msg.qs.length yq, .slice xa t.msg.ans.length ya, .slice xb t.msg.aus.length yb, .slice xm t.msg.more.length ym, .slice xp t.msg.pres.length yp, .slice xu t.msg.ups.length yu, .int .i64 t.ip, .slice xc t.client.length yc, .slice xh t.host.length yh, .int .i64 t.when] 39)
 have KK := hide (heap_alloc_new w (.cells #[.int .i64 0, .int .i64 t.msg.id, .bool t.msg.reply, .int .i64 t.msg.op, .bool t.msg.auth, .int .i64 t.msg.code, .slice xq t.msg.qs.length yq, .slice xa t.msg.ans.length ya, .slice xb t.msg.aus.length yb, .slice xm t.msg.more.length ym, .slice xp t.msg.pres.length yp, .slice xu t.msg.ups.length yu, .int .i64 t.ip, .slice xc t.client.length yc, .slice xh t.host.length yh, .int .i64 t.when] 39))
 have H := hide (h.below b0)
 have CM := fun (w : World) (h : HasTx w (.slice xq t.msg.qs.length yq) (.slice xa t.msg.ans.length ya) (.slice xb t.msg.aus.length yb) (.slice xm t.msg.more.length ym) (.slice xp t.msg.pres.length yp) (.slice xu t.msg.ups.length yu) (.slice xc t.client.length yc) (.slice xh t.host.length yh) t) => may0_has h
 have CN := fun (w : World) (h : HasTx w (.slice xq t.msg.qs.length yq) (.slice xa t.msg.ans.length ya) (.slice xb t.msg.aus.length yb) (.slice xm t.msg.more.length ym) (.slice xp t.msg.pres.length yp) (.slice xu t.msg.ups.length yu) (.slice xc t.client.length yc) (.slice xh t.host.length yh) t) => beside0_has h hct rfl rfl rfl rfl rfl rfl rfl rfl
 generalize (okM t.msg && (decide (t.msg.op = 5) && !t.msg.reply)) = GM at *
 generalize (decide (t.client.length = 0) && (decide (t.host.length = 0) && (decide (t.ip = 0) && decide (t.when = 0)))) = GN at *
 replace CM := hide CM
 replace CN := hide CN
 clear h hct
 obtain ⟨d0, d1, d2, d3, d4, d5, d6, d7, d8, d9, d10, d11, d12, d13, d14, d15⟩ := cells16 (unhide KK)
 go_enter Tryz.func19, Tryz.ntmps19
 go_wp2_with fail
 clear d0 d1 d2 d3 d4 d5 d6 d7 d8 d9 d10 d11 d12 d13 d14 d15
 refine (deedOf0_any (xq := xq) (yq := yq) (xa := xa) (ya := ya) (xb := xb) (yb := yb) (xm := xm) (ym := ym) (xp := xp) (yp := yp) (xu := xu) (yu := yu) (xc := xc) (yc := yc) (xh := xh) (yh := yh) (t := t)).mono ?_
 rintro e w1 ⟨rfl, b1⟩
 have bd := below_next b1 (below_drew (w := w1))
 replace b0 := below_next b0 bd
 replace H := hide ((unhide H).below bd)
 replace KK := hide (block_kept bd (unhide KK))
 clear b1 bd
 go_wp2_with fail
 refine startF 13 (S := (fun w' => w'.cell? ⟨w.heap.size, 0, none⟩ = some (.int .i64 0) ∧ w'.cell? ⟨w.heap.size, 1, none⟩ = some (.int .i64 t.msg.id) ∧ w'.cell? ⟨w.heap.size, 2, none⟩ = some (.bool t.msg.reply) ∧ w'.cell? ⟨w.heap.size, 3, none⟩ = some (.int .i64 t.msg.op) ∧ w'.cell? ⟨w.heap.size, 4, none⟩ = some (.bool t.msg.auth) ∧ w'.cell? ⟨w.heap.size, 5, none⟩ = some (.int .i64 t.msg.code) ∧ w'.cell? ⟨w.heap.size, 6, none⟩ = some (.slice xq t.msg.qs.length yq) ∧ w'.cell? ⟨w.heap.size, 7, none⟩ = some (.slice xa t.msg.ans.length ya) ∧ w'.cell? ⟨w.heap.size, 8, none⟩ = some (.slice xb t.msg.aus.length yb) ∧ w'.cell? ⟨w.heap.size, 9, none⟩ = some (.slice xm t.msg.more.length ym) ∧ w'.cell? ⟨w.heap.size, 10, none⟩ = some (.slice xp t.msg.pres.length yp) ∧ w'.cell? ⟨w.heap.size, 11, none⟩ = some (.slice xu t.msg.ups.length yu) ∧ w'.cell? ⟨w.heap.size, 12, none⟩ = some (.int .i64 t.ip) ∧ w'.cell? ⟨w.heap.size, 13, none⟩ = some (.slice xc t.client.length yc) ∧ w'.cell? ⟨w.heap.size, 14, none⟩ = some (.slice xh t.host.length yh) ∧ w'.cell? ⟨w.heap.size, 15, none⟩ = some (.int .i64 t.when))) (by kernel_rfl) rfl (cells16 (unhide KK)) (fun hHeld => ?_)
 simp only [List.replicate]
 repeat ((first | (refine tkF ?_ rfl (by kernel_rfl) (by rfl) (fun _ _ _ h => h) ?_ hHeld ?_; rotate_left; · (intro w hSw; (try dsimp only at hSw); go_simp <;> with_reducible rfl)) | refine skF rfl (by kernel_rfl) (by rfl) (fun _ _ _ h => h) hHeld ?_); simp only [Act.put, setF, List.setIfInBounds_toArray, List.set_cons_zero, List.set_cons_succ])
 refine runI 4 rfl (by kernel_rfl) (by kernel_rfl) (fun K hK => ?_)
 have HK := hide hK
 clear hK hHeld
 go_simp
 refine (unhide CM _ (unhide H)).mono ?_
 rintro e w2 ⟨rfl, b2⟩
 cases GM with
 | false =>
  refine (unhide HK).out _ _ (cells16 (block_kept b2 (unhide KK))) (fun hHeld => ?_)
  clear HK K
  simp only [List.setIfInBounds_toArray, List.set_cons_zero, List.set_cons_succ]
  repeat ((first | (refine tkF ?_ rfl (by kernel_rfl) (by rfl) (fun _ _ _ h => h) ?_ hHeld ?_; rotate_left; · (intro w hSw; (try dsimp only at hSw); go_simp <;> with_reducible rfl)) | refine skF rfl (by kernel_rfl) (by rfl) (fun _ _ _ h => h) hHeld ?_); simp only [Act.put, setF, List.setIfInBounds_toArray, List.set_cons_zero, List.set_cons_succ])
  refine wpAnyH_done (by kernel_rfl) ?_ _
  clear hHeld
  go_wp2_with fail
  go_ret
  exact ⟨rfl, below_next b0 b2⟩
 | true =>
  refine (unhide HK).out _ _ (cells16 (block_kept b2 (unhide KK))) (fun hHeld => ?_)
  clear HK K
  simp only [List.setIfInBounds_toArray, List.set_cons_zero, List.set_cons_succ]
  repeat ((first | (refine tkF ?_ rfl (by kernel_rfl) (by rfl) (fun _ _ _ h => h) ?_ hHeld ?_; rotate_left; · (intro w hSw; (try dsimp only at hSw); go_simp <;> with_reducible rfl)) | refine skF rfl (by kernel_rfl) (by rfl) (fun _ _ _ h => h) hHeld ?_); simp only [Act.put, setF, List.setIfInBounds_toArray, List.set_cons_zero, List.set_cons_succ])
  refine runI 9 rfl (by kernel_rfl) (by kernel_rfl) (fun K hK => ?_)
  have HK := hide hK
  clear hK hHeld
  go_simp
  refine (txn0_any (xq := xq) (yq := yq) (xa := xa) (ya := ya) (xb := xb) (yb := yb) (xm := xm) (ym := ym) (xp := xp) (yp := yp) (xu := xu) (yu := yu) (xc := xc) (yc := yc) (xh := xh) (yh := yh) (t := t)).mono ?_
  rintro e w3 ⟨rfl, b3⟩
  have b23 := below_next b2 b3
  refine (unhide HK).out _ _ (cells16 (block_kept b23 (unhide KK))) (fun hHeld => ?_)
  clear HK K
  simp only [List.setIfInBounds_toArray, List.set_cons_zero, List.set_cons_succ]
  refine runI 10 rfl (by kernel_rfl) (by kernel_rfl) (fun K hK => ?_)
  have HK := hide hK
  clear hK hHeld
  go_simp
  refine (unhide CN _ ((unhide H).below b23)).mono ?_
  rintro e w4 ⟨rfl, b4⟩
  have b24 := below_next b23 b4
  refine (unhide HK).out _ _ (cells16 (block_kept b24 (unhide KK))) (fun hHeld => ?_)
  clear HK K
  simp only [List.setIfInBounds_toArray, List.set_cons_zero, List.set_cons_succ]
  repeat ((first | (refine tkF ?_ rfl (by kernel_rfl) (by rfl) (fun _ _ _ h => h) ?_ hHeld ?_; rotate_left; · (intro w hSw; (try dsimp only at hSw); go_simp <;> with_reducible rfl)) | refine skF rfl (by kernel_rfl) (by rfl) (fun _ _ _ h => h) hHeld ?_); simp only [Act.put, setF, List.setIfInBounds_toArray, List.set_cons_zero, List.set_cons_succ])
  refine wpAnyH_done (by kernel_rfl) ?_ _
  clear hHeld
  go_wp2_with fail
  go_ret
  exact ⟨rfl, below_next b0 b24⟩
end Go.Proofs.YtfbfakdkemlbmaaGreat
