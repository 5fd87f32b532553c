/-
  Contracts of the program's noFieldBeside.
-/
import Derived.Test.YtnplmeifhebhhaaGreatTxnOkG29
namespace Go.Proofs.YtnplmeifhebhhaaGreat
open Go.RowKit
set_option linter.unusedVariables false

set_option maxHeartbeats 2000000 in
set_option maxRecDepth 100000 in
theorem beside0_has {vq va vb vm vp vu vc vh : Value} {t : Tx} {w : World} (h : HasTx w vq va vb vm vp vu vc vh t) (hct : t.msg.count ≤ 1048576) {xq xa xb xm xp xu xc xh : Option Addr} {yq ya yb ym yp yu yc yh : Nat} (eq : vq = .slice xq t.msg.qs.length yq) (ea : va = .slice xa t.msg.ans.length ya) (eb : vb = .slice xb t.msg.aus.length yb) (em : vm = .slice xm t.msg.more.length ym) (ep : vp = .slice xp t.msg.pres.length yp) (eu : vu = .slice xu t.msg.ups.length yu) (ec : vc = .slice xc t.client.length yc) (eh : vh = .slice xh t.host.length yh) :
  Calls Tryz.prog 63 #[.agg #[.int .i64 0, .int .i64 t.msg.id, .bool t.msg.reply, .int .i64 t.msg.op, .bool t.msg.auth, .int .i64 t.msg.code, vq, va, vb, vm, vp, vu, .int .i64 t.ip, vc, vh, .int .i64 t.when], .agg #[.int .i64 0, .int .i64 t.msg.id, .bool t.msg.reply, .int .i64 t.msg.op, .bool t.msg.auth, .int .i64 t.msg.code, .slice xq t.msg.qs.length yq, .slice xa t.msg.ans.length ya, .slice xb t.msg.aus.length yb, .slice xm t.msg.more.length ym, .slice xp t.msg.pres.length yp, .slice xu t.msg.ups.length yu, .int .i64 0, .slice none 0 0, .slice none 0 0, .int .i64 0]] w fun e w' => e = .returned (.bool (decide (t.client.length = 0) && (decide (t.host.length = 0) && (decide (t.ip = 0) && decide (t.when = 0))))) ∧ Below w.heap.size w w' := by
 subst eq ea eb em ep eu ec eh
 have hcb := h.client.bound
 have hhb := h.host.bound
 have b0 := below2 w (.cells #[.int .i64 0, .int .i64 t.msg.id, .bool t.msg.reply, .int .i64 t.msg.op, .bool t.msg.auth, .int .i64 t.msg.code, .slice xq t.msg.qs.length yq, .slice xa t.msg.ans.length ya, .slice xb t.msg.aus.length yb, .slice xm t.msg.more.length ym, .slice xp t.msg.pres.length yp, .slice xu t.msg.ups.length yu, .int .i64 t.ip, .slice xc t.client.length yc, .slice xh t.host.length yh, .int .i64 t.when] 50) (.cells #[.int .i64 0, .int .i64 t.msg.id, .bool t.msg.reply, .int .i64 t.msg.op, .bool t.msg.auth, .int .i64 t.msg.code, .slice xq t.msg.qs.length yq, .slice xa t.msg.ans.length ya, .slice xb t.msg.aus.length yb, .slice xm t.msg.more.length ym, .slice xp t.msg.pres.length yp, .slice xu t.msg.ups.length yu, .int .i64 0, .slice none 0 0, .slice none 0 0, .int .i64 0] 50)
 obtain ⟨hsz, k0, r0⟩ := box2 w (.cells #[.int .i64 0, .int .i64 t.msg.id, .bool t.msg.reply, .int .i64 t.msg.op, .bool t.msg.auth, .int .i64 t.msg.code, .slice xq t.msg.qs.length yq, .slice xa t.msg.ans.length ya, .slice xb t.msg.aus.length yb, .slice xm t.msg.more.length ym, .slice xp t.msg.pres.length yp, .slice xu t.msg.ups.length yu, .int .i64 t.ip, .slice xc t.client.length yc, .slice xh t.host.length yh, .int .i64 t.when] 50) #[.int .i64 0, .int .i64 t.msg.id, .bool t.msg.reply, .int .i64 t.msg.op, .bool t.msg.auth, .int .i64 t.msg.code, .slice xq t.msg.qs.length yq, .slice xa t.msg.ans.length ya, .slice xb t.msg.aus.length yb, .slice xm t.msg.more.length ym, .slice xp t.msg.pres.length yp, .slice xu t.msg.ups.length yu, .int .i64 0, .slice none 0 0, .slice none 0 0, .int .i64 0] 50
 have KK := hide k0
 have RR := hide r0
 obtain ⟨R, hR0⟩ : ∃ R, R = (decide (t.client.length = 0) && (decide (t.host.length = 0) && (decide (t.ip = 0) && decide (t.when = 0)))) := ⟨_, rfl⟩
 rw [← hR0]
 have HR := hide hR0
 clear hR0 h k0 r0 hsz hct
 generalize t.ip = IPV at *
 generalize t.when = WHV at *
 generalize t.client.length = NC at *
 generalize t.host.length = NH at *
 by_cases e0 : NC = 0
 ·subst e0
  by_cases e1 : NH = 0
  ·subst e1
   by_cases e2 : IPV = 0
   ·subst e2
    by_cases e3 : WHV = 0
    ·subst e3
     have hR : R = true := by have := unhide HR; rw [this] <;> simp
     subst hR
     go_enter Tryz.func63, Tryz.ntmps63
     obtain ⟨d0, d1, d2, d3, d4, d5, d6, d7, d8, d9, d10, d11, d12, d13, d14, d15⟩ := cells16 (unhide KK)
     obtain ⟨f0, f1, f2, f3, f4, f5, f6, f7, f8, f9, f10, f11, f12, f13, f14, f15⟩ := cells16 (unhide RR)
     go_wp2_with fail
     go_ret
     exact ⟨rfl, b0⟩
    ·have q3 : (WHV == 0) = false := by rw [beq_eq_false_iff_ne]; omega
     have hR : R = false := by have := unhide HR; rw [this] <;> simp [e3]
     subst hR
     clear HR e3
     go_enter Tryz.func63, Tryz.ntmps63
     obtain ⟨d0, d1, d2, d3, d4, d5, d6, d7, d8, d9, d10, d11, d12, d13, d14, d15⟩ := cells16 (unhide KK)
     obtain ⟨f0, f1, f2, f3, f4, f5, f6, f7, f8, f9, f10, f11, f12, f13, f14, f15⟩ := cells16 (unhide RR)
     go_wp2_with fail
     go_ret
     exact ⟨rfl, b0⟩
   ·have q2 : (IPV == 0) = false := by rw [beq_eq_false_iff_ne]; omega
    have hR : R = false := by have := unhide HR; rw [this] <;> simp [e2]
    subst hR
    clear HR e2
    go_enter Tryz.func63, Tryz.ntmps63
    obtain ⟨d0, d1, d2, d3, d4, d5, d6, d7, d8, d9, d10, d11, d12, d13, d14, d15⟩ := cells16 (unhide KK)
    obtain ⟨f0, f1, f2, f3, f4, f5, f6, f7, f8, f9, f10, f11, f12, f13, f14, f15⟩ := cells16 (unhide RR)
    go_wp2_with fail
    go_ret
    exact ⟨rfl, b0⟩
  ·have q1 : (((NH : Nat) : Int) == 0) = false := by rw [beq_eq_false_iff_ne]; omega
   have hR : R = false := by have := unhide HR; rw [this] <;> simp [e1]
   subst hR
   clear HR e1
   go_enter Tryz.func63, Tryz.ntmps63
   obtain ⟨d0, d1, d2, d3, d4, d5, d6, d7, d8, d9, d10, d11, d12, d13, d14, d15⟩ := cells16 (unhide KK)
   obtain ⟨f0, f1, f2, f3, f4, f5, f6, f7, f8, f9, f10, f11, f12, f13, f14, f15⟩ := cells16 (unhide RR)
   go_wp2_with fail
   go_ret
   exact ⟨rfl, b0⟩
 ·have q0 : (((NC : Nat) : Int) == 0) = false := by rw [beq_eq_false_iff_ne]; omega
  have hR : R = false := by have := unhide HR; rw [this] <;> simp [e0]
  subst hR
  clear HR e0
  go_enter Tryz.func63, Tryz.ntmps63
  obtain ⟨d0, d1, d2, d3, d4, d5, d6, d7, d8, d9, d10, d11, d12, d13, d14, d15⟩ := cells16 (unhide KK)
  obtain ⟨f0, f1, f2, f3, f4, f5, f6, f7, f8, f9, f10, f11, f12, f13, f14, f15⟩ := cells16 (unhide RR)
  go_wp2_with fail
  go_ret
  exact ⟨rfl, b0⟩

set_option maxHeartbeats 2000000 in
set_option maxRecDepth 100000 in
theorem beside1_has {vq va vb vm vp vu vc vh : Value} {t : Tx} {w : World} (h : HasTx w vq va vb vm vp vu vc vh t) (hct : t.msg.count ≤ 1048576) {xq xa xb xm xp xu xc xh : Option Addr} {yq ya yb ym yp yu yc yh : Nat} (eq : vq = .slice xq t.msg.qs.length yq) (ea : va = .slice xa t.msg.ans.length ya) (eb : vb = .slice xb t.msg.aus.length yb) (em : vm = .slice xm t.msg.more.length ym) (ep : vp = .slice xp t.msg.pres.length yp) (eu : vu = .slice xu t.msg.ups.length yu) (ec : vc = .slice xc t.client.length yc) (eh : vh = .slice xh t.host.length yh) :
  Calls Tryz.prog 63 #[.agg #[.int .i64 1, .int .i64 t.msg.id, .bool t.msg.reply, .int .i64 t.msg.op, .bool t.msg.auth, .int .i64 t.msg.code, vq, va, vb, vm, vp, vu, .int .i64 t.ip, vc, vh, .int .i64 t.when], .agg #[.int .i64 1, .int .i64 0, .bool false, .int .i64 0, .bool false, .int .i64 0, .slice none 0 0, .slice none 0 0, .slice none 0 0, .slice none 0 0, .slice none 0 0, .slice none 0 0, .int .i64 t.ip, .slice xc t.client.length yc, .slice xh t.host.length yh, .int .i64 t.when]] w fun e w' => e = .returned (.bool (emptyM t.msg)) ∧ Below w.heap.size w w' := by
 subst eq ea eb em ep eu ec eh
 have hcb := h.client.bound
 have hhb := h.host.bound
 have b0 := below2 w (.cells #[.int .i64 1, .int .i64 t.msg.id, .bool t.msg.reply, .int .i64 t.msg.op, .bool t.msg.auth, .int .i64 t.msg.code, .slice xq t.msg.qs.length yq, .slice xa t.msg.ans.length ya, .slice xb t.msg.aus.length yb, .slice xm t.msg.more.length ym, .slice xp t.msg.pres.length yp, .slice xu t.msg.ups.length yu, .int .i64 t.ip, .slice xc t.client.length yc, .slice xh t.host.length yh, .int .i64 t.when] 50) (.cells #[.int .i64 1, .int .i64 0, .bool false, .int .i64 0, .bool false, .int .i64 0, .slice none 0 0, .slice none 0 0, .slice none 0 0, .slice none 0 0, .slice none 0 0, .slice none 0 0, .int .i64 t.ip, .slice xc t.client.length yc, .slice xh t.host.length yh, .int .i64 t.when] 50)
 obtain ⟨hsz, k0, r0⟩ := box2 w (.cells #[.int .i64 1, .int .i64 t.msg.id, .bool t.msg.reply, .int .i64 t.msg.op, .bool t.msg.auth, .int .i64 t.msg.code, .slice xq t.msg.qs.length yq, .slice xa t.msg.ans.length ya, .slice xb t.msg.aus.length yb, .slice xm t.msg.more.length ym, .slice xp t.msg.pres.length yp, .slice xu t.msg.ups.length yu, .int .i64 t.ip, .slice xc t.client.length yc, .slice xh t.host.length yh, .int .i64 t.when] 50) #[.int .i64 1, .int .i64 0, .bool false, .int .i64 0, .bool false, .int .i64 0, .slice none 0 0, .slice none 0 0, .slice none 0 0, .slice none 0 0, .slice none 0 0, .slice none 0 0, .int .i64 t.ip, .slice xc t.client.length yc, .slice xh t.host.length yh, .int .i64 t.when] 50
 have KK := hide k0
 have RR := hide r0
 have CE := isZeroMsg_has (h.below b0).msg hct
 generalize emptyM t.msg = G at *
 replace CE := hide CE
 obtain ⟨R, hR0⟩ : ∃ R, R = (G) := ⟨_, rfl⟩
 rw [← hR0]
 have HR := hide hR0
 clear hR0 h k0 r0 hsz hct
 generalize t.ip = IPV at *
 generalize t.when = WHV at *
 generalize t.client.length = NC at *
 generalize t.host.length = NH at *
 go_enter Tryz.func63, Tryz.ntmps63
 obtain ⟨d0, d1, d2, d3, d4, d5, d6, d7, d8, d9, d10, d11, d12, d13, d14, d15⟩ := cells16 (unhide KK)
 obtain ⟨f0, f1, f2, f3, f4, f5, f6, f7, f8, f9, f10, f11, f12, f13, f14, f15⟩ := cells16 (unhide RR)
 go_wp2_with fail
 clear d0 d1 d2 d3 d4 d5 d6 d7 d8 d9 d10 d11 d12 d13 d14 d15
 clear f0 f1 f2 f3 f4 f5 f6 f7 f8 f9 f10 f11 f12 f13 f14 f15
 refine (unhide CE).mono ?_
 rintro e w1 ⟨rfl, b1⟩
 replace b0 := below_next b0 b1
 replace KK := hide (block_kept b1 (unhide KK))
 replace RR := hide (block_kept b1 (unhide RR))
 clear b1 CE
 cases G with
 | false =>
  have hR : R = false := by have := unhide HR; rw [this] <;> simp
  subst hR
  clear HR
  obtain ⟨d0, d1, d2, d3, d4, d5, d6, d7, d8, d9, d10, d11, d12, d13, d14, d15⟩ := cells16 (unhide KK)
  obtain ⟨f0, f1, f2, f3, f4, f5, f6, f7, f8, f9, f10, f11, f12, f13, f14, f15⟩ := cells16 (unhide RR)
  go_wp2_with fail
  go_ret
  exact ⟨rfl, b0⟩
 | true =>
  have hR : R = true := by have := unhide HR; rw [this] <;> simp
  subst hR
  obtain ⟨d0, d1, d2, d3, d4, d5, d6, d7, d8, d9, d10, d11, d12, d13, d14, d15⟩ := cells16 (unhide KK)
  obtain ⟨f0, f1, f2, f3, f4, f5, f6, f7, f8, f9, f10, f11, f12, f13, f14, f15⟩ := cells16 (unhide RR)
  go_wp2_with fail
  go_ret
  exact ⟨rfl, b0⟩

set_option maxHeartbeats 2000000 in
set_option maxRecDepth 100000 in
theorem beside2_has {vq va vb vm vp vu vc vh : Value} {t : Tx} {w : World} (h : HasTx w vq va vb vm vp vu vc vh t) (hct : t.msg.count ≤ 1048576) {xq xa xb xm xp xu xc xh : Option Addr} {yq ya yb ym yp yu yc yh : Nat} (eq : vq = .slice xq t.msg.qs.length yq) (ea : va = .slice xa t.msg.ans.length ya) (eb : vb = .slice xb t.msg.aus.length yb) (em : vm = .slice xm t.msg.more.length ym) (ep : vp = .slice xp t.msg.pres.length yp) (eu : vu = .slice xu t.msg.ups.length yu) (ec : vc = .slice xc t.client.length yc) (eh : vh = .slice xh t.host.length yh) :
  Calls Tryz.prog 63 #[.agg #[.int .i64 2, .int .i64 t.msg.id, .bool t.msg.reply, .int .i64 t.msg.op, .bool t.msg.auth, .int .i64 t.msg.code, vq, va, vb, vm, vp, vu, .int .i64 t.ip, vc, vh, .int .i64 t.when], .agg #[.int .i64 2, .int .i64 0, .bool false, .int .i64 0, .bool false, .int .i64 0, .slice none 0 0, .slice none 0 0, .slice none 0 0, .slice none 0 0, .slice none 0 0, .slice none 0 0, .int .i64 t.ip, .slice xc t.client.length yc, .slice none 0 0, .int .i64 0]] w fun e w' => e = .returned (.bool (decide (t.host.length = 0) && (decide (t.when = 0) && emptyM t.msg))) ∧ Below w.heap.size w w' := by
 subst eq ea eb em ep eu ec eh
 have hcb := h.client.bound
 have hhb := h.host.bound
 have b0 := below2 w (.cells #[.int .i64 2, .int .i64 t.msg.id, .bool t.msg.reply, .int .i64 t.msg.op, .bool t.msg.auth, .int .i64 t.msg.code, .slice xq t.msg.qs.length yq, .slice xa t.msg.ans.length ya, .slice xb t.msg.aus.length yb, .slice xm t.msg.more.length ym, .slice xp t.msg.pres.length yp, .slice xu t.msg.ups.length yu, .int .i64 t.ip, .slice xc t.client.length yc, .slice xh t.host.length yh, .int .i64 t.when] 50) (.cells #[.int .i64 2, .int .i64 0, .bool false, .int .i64 0, .bool false, .int .i64 0, .slice none 0 0, .slice none 0 0, .slice none 0 0, .slice none 0 0, .slice none 0 0, .slice none 0 0, .int .i64 t.ip, .slice xc t.client.length yc, .slice none 0 0, .int .i64 0] 50)
 obtain ⟨hsz, k0, r0⟩ := box2 w (.cells #[.int .i64 2, .int .i64 t.msg.id, .bool t.msg.reply, .int .i64 t.msg.op, .bool t.msg.auth, .int .i64 t.msg.code, .slice xq t.msg.qs.length yq, .slice xa t.msg.ans.length ya, .slice xb t.msg.aus.length yb, .slice xm t.msg.more.length ym, .slice xp t.msg.pres.length yp, .slice xu t.msg.ups.length yu, .int .i64 t.ip, .slice xc t.client.length yc, .slice xh t.host.length yh, .int .i64 t.when] 50) #[.int .i64 2, .int .i64 0, .bool false, .int .i64 0, .bool false, .int .i64 0, .slice none 0 0, .slice none 0 0, .slice none 0 0, .slice none 0 0, .slice none 0 0, .slice none 0 0, .int .i64 t.ip, .slice xc t.client.length yc, .slice none 0 0, .int .i64 0] 50
 have KK := hide k0
 have RR := hide r0
 have CE := isZeroMsg_has (h.below b0).msg hct
 generalize emptyM t.msg = G at *
 replace CE := hide CE
 obtain ⟨R, hR0⟩ : ∃ R, R = (decide (t.host.length = 0) && (decide (t.when = 0) && G)) := ⟨_, rfl⟩
 rw [← hR0]
 have HR := hide hR0
 clear hR0 h k0 r0 hsz hct
 generalize t.ip = IPV at *
 generalize t.when = WHV at *
 generalize t.client.length = NC at *
 generalize t.host.length = NH at *
 by_cases e0 : NH = 0
 ·subst e0
  by_cases e1 : WHV = 0
  ·subst e1
   go_enter Tryz.func63, Tryz.ntmps63
   obtain ⟨d0, d1, d2, d3, d4, d5, d6, d7, d8, d9, d10, d11, d12, d13, d14, d15⟩ := cells16 (unhide KK)
   obtain ⟨f0, f1, f2, f3, f4, f5, f6, f7, f8, f9, f10, f11, f12, f13, f14, f15⟩ := cells16 (unhide RR)
   go_wp2_with fail
   clear d0 d1 d2 d3 d4 d5 d6 d7 d8 d9 d10 d11 d12 d13 d14 d15
   clear f0 f1 f2 f3 f4 f5 f6 f7 f8 f9 f10 f11 f12 f13 f14 f15
   refine (unhide CE).mono ?_
   rintro e w1 ⟨rfl, b1⟩
   replace b0 := below_next b0 b1
   replace KK := hide (block_kept b1 (unhide KK))
   replace RR := hide (block_kept b1 (unhide RR))
   clear b1 CE
   cases G with
   | false =>
    have hR : R = false := by have := unhide HR; rw [this] <;> simp
    subst hR
    clear HR
    obtain ⟨d0, d1, d2, d3, d4, d5, d6, d7, d8, d9, d10, d11, d12, d13, d14, d15⟩ := cells16 (unhide KK)
    obtain ⟨f0, f1, f2, f3, f4, f5, f6, f7, f8, f9, f10, f11, f12, f13, f14, f15⟩ := cells16 (unhide RR)
    go_wp2_with fail
    go_ret
    exact ⟨rfl, b0⟩
   | true =>
    have hR : R = true := by have := unhide HR; rw [this] <;> simp
    subst hR
    obtain ⟨d0, d1, d2, d3, d4, d5, d6, d7, d8, d9, d10, d11, d12, d13, d14, d15⟩ := cells16 (unhide KK)
    obtain ⟨f0, f1, f2, f3, f4, f5, f6, f7, f8, f9, f10, f11, f12, f13, f14, f15⟩ := cells16 (unhide RR)
    go_wp2_with fail
    go_ret
    exact ⟨rfl, b0⟩
  ·have q1 : (WHV == 0) = false := by rw [beq_eq_false_iff_ne]; omega
   have hR : R = false := by have := unhide HR; rw [this] <;> simp [e1]
   subst hR
   clear HR e1
   go_enter Tryz.func63, Tryz.ntmps63
   obtain ⟨d0, d1, d2, d3, d4, d5, d6, d7, d8, d9, d10, d11, d12, d13, d14, d15⟩ := cells16 (unhide KK)
   obtain ⟨f0, f1, f2, f3, f4, f5, f6, f7, f8, f9, f10, f11, f12, f13, f14, f15⟩ := cells16 (unhide RR)
   go_wp2_with fail
   go_ret
   exact ⟨rfl, b0⟩
 ·have q0 : (((NH : Nat) : Int) == 0) = false := by rw [beq_eq_false_iff_ne]; omega
  have hR : R = false := by have := unhide HR; rw [this] <;> simp [e0]
  subst hR
  clear HR e0
  go_enter Tryz.func63, Tryz.ntmps63
  obtain ⟨d0, d1, d2, d3, d4, d5, d6, d7, d8, d9, d10, d11, d12, d13, d14, d15⟩ := cells16 (unhide KK)
  obtain ⟨f0, f1, f2, f3, f4, f5, f6, f7, f8, f9, f10, f11, f12, f13, f14, f15⟩ := cells16 (unhide RR)
  go_wp2_with fail
  go_ret
  exact ⟨rfl, b0⟩

set_option maxHeartbeats 2000000 in
set_option maxRecDepth 100000 in
theorem beside3_has {vq va vb vm vp vu vc vh : Value} {t : Tx} {w : World} (h : HasTx w vq va vb vm vp vu vc vh t) (hct : t.msg.count ≤ 1048576) {xq xa xb xm xp xu xc xh : Option Addr} {yq ya yb ym yp yu yc yh : Nat} (eq : vq = .slice xq t.msg.qs.length yq) (ea : va = .slice xa t.msg.ans.length ya) (eb : vb = .slice xb t.msg.aus.length yb) (em : vm = .slice xm t.msg.more.length ym) (ep : vp = .slice xp t.msg.pres.length yp) (eu : vu = .slice xu t.msg.ups.length yu) (ec : vc = .slice xc t.client.length yc) (eh : vh = .slice xh t.host.length yh) :
  Calls Tryz.prog 63 #[.agg #[.int .i64 3, .int .i64 t.msg.id, .bool t.msg.reply, .int .i64 t.msg.op, .bool t.msg.auth, .int .i64 t.msg.code, vq, va, vb, vm, vp, vu, .int .i64 t.ip, vc, vh, .int .i64 t.when], .agg #[.int .i64 3, .int .i64 0, .bool false, .int .i64 0, .bool false, .int .i64 0, .slice none 0 0, .slice none 0 0, .slice none 0 0, .slice none 0 0, .slice none 0 0, .slice none 0 0, .int .i64 0, .slice none 0 0, .slice none 0 0, .int .i64 t.when]] w fun e w' => e = .returned (.bool (decide (t.client.length = 0) && (decide (t.host.length = 0) && (decide (t.ip = 0) && emptyM t.msg)))) ∧ Below w.heap.size w w' := by
 subst eq ea eb em ep eu ec eh
 have hcb := h.client.bound
 have hhb := h.host.bound
 have b0 := below2 w (.cells #[.int .i64 3, .int .i64 t.msg.id, .bool t.msg.reply, .int .i64 t.msg.op, .bool t.msg.auth, .int .i64 t.msg.code, .slice xq t.msg.qs.length yq, .slice xa t.msg.ans.length ya, .slice xb t.msg.aus.length yb, .slice xm t.msg.more.length ym, .slice xp t.msg.pres.length yp, .slice xu t.msg.ups.length yu, .int .i64 t.ip, .slice xc t.client.length yc, .slice xh t.host.length yh, .int .i64 t.when] 50) (.cells #[.int .i64 3, .int .i64 0, .bool false, .int .i64 0, .bool false, .int .i64 0, .slice none 0 0, .slice none 0 0, .slice none 0 0, .slice none 0 0, .slice none 0 0, .slice none 0 0, .int .i64 0, .slice none 0 0, .slice none 0 0, .int .i64 t.when] 50)
 obtain ⟨hsz, k0, r0⟩ := box2 w (.cells #[.int .i64 3, .int .i64 t.msg.id, .bool t.msg.reply, .int .i64 t.msg.op, .bool t.msg.auth, .int .i64 t.msg.code, .slice xq t.msg.qs.length yq, .slice xa t.msg.ans.length ya, .slice xb t.msg.aus.length yb, .slice xm t.msg.more.length ym, .slice xp t.msg.pres.length yp, .slice xu t.msg.ups.length yu, .int .i64 t.ip, .slice xc t.client.length yc, .slice xh t.host.length yh, .int .i64 t.when] 50) #[.int .i64 3, .int .i64 0, .bool false, .int .i64 0, .bool false, .int .i64 0, .slice none 0 0, .slice none 0 0, .slice none 0 0, .slice none 0 0, .slice none 0 0, .slice none 0 0, .int .i64 0, .slice none 0 0, .slice none 0 0, .int .i64 t.when] 50
 have KK := hide k0
 have RR := hide r0
 have CE := isZeroMsg_has (h.below b0).msg hct
 generalize emptyM t.msg = G at *
 replace CE := hide CE
 obtain ⟨R, hR0⟩ : ∃ R, R = (decide (t.client.length = 0) && (decide (t.host.length = 0) && (decide (t.ip = 0) && G))) := ⟨_, rfl⟩
 rw [← hR0]
 have HR := hide hR0
 clear hR0 h k0 r0 hsz hct
 generalize t.ip = IPV at *
 generalize t.when = WHV at *
 generalize t.client.length = NC at *
 generalize t.host.length = NH at *
 by_cases e0 : NC = 0
 ·subst e0
  by_cases e1 : NH = 0
  ·subst e1
   by_cases e2 : IPV = 0
   ·subst e2
    go_enter Tryz.func63, Tryz.ntmps63
    obtain ⟨d0, d1, d2, d3, d4, d5, d6, d7, d8, d9, d10, d11, d12, d13, d14, d15⟩ := cells16 (unhide KK)
    obtain ⟨f0, f1, f2, f3, f4, f5, f6, f7, f8, f9, f10, f11, f12, f13, f14, f15⟩ := cells16 (unhide RR)
    go_wp2_with fail
    clear d0 d1 d2 d3 d4 d5 d6 d7 d8 d9 d10 d11 d12 d13 d14 d15
    clear f0 f1 f2 f3 f4 f5 f6 f7 f8 f9 f10 f11 f12 f13 f14 f15
    refine (unhide CE).mono ?_
    rintro e w1 ⟨rfl, b1⟩
    replace b0 := below_next b0 b1
    replace KK := hide (block_kept b1 (unhide KK))
    replace RR := hide (block_kept b1 (unhide RR))
    clear b1 CE
    cases G with
    | false =>
     have hR : R = false := by have := unhide HR; rw [this] <;> simp
     subst hR
     clear HR
     obtain ⟨d0, d1, d2, d3, d4, d5, d6, d7, d8, d9, d10, d11, d12, d13, d14, d15⟩ := cells16 (unhide KK)
     obtain ⟨f0, f1, f2, f3, f4, f5, f6, f7, f8, f9, f10, f11, f12, f13, f14, f15⟩ := cells16 (unhide RR)
     go_wp2_with fail
     go_ret
     exact ⟨rfl, b0⟩
    | true =>
     have hR : R = true := by have := unhide HR; rw [this] <;> simp
     subst hR
     obtain ⟨d0, d1, d2, d3, d4, d5, d6, d7, d8, d9, d10, d11, d12, d13, d14, d15⟩ := cells16 (unhide KK)
     obtain ⟨f0, f1, f2, f3, f4, f5, f6, f7, f8, f9, f10, f11, f12, f13, f14, f15⟩ := cells16 (unhide RR)
     go_wp2_with fail
     go_ret
     exact ⟨rfl, b0⟩
   ·have q2 : (IPV == 0) = false := by rw [beq_eq_false_iff_ne]; omega
    have hR : R = false := by have := unhide HR; rw [this] <;> simp [e2]
    subst hR
    clear HR e2
    go_enter Tryz.func63, Tryz.ntmps63
    obtain ⟨d0, d1, d2, d3, d4, d5, d6, d7, d8, d9, d10, d11, d12, d13, d14, d15⟩ := cells16 (unhide KK)
    obtain ⟨f0, f1, f2, f3, f4, f5, f6, f7, f8, f9, f10, f11, f12, f13, f14, f15⟩ := cells16 (unhide RR)
    go_wp2_with fail
    go_ret
    exact ⟨rfl, b0⟩
  ·have q1 : (((NH : Nat) : Int) == 0) = false := by rw [beq_eq_false_iff_ne]; omega
   have hR : R = false := by have := unhide HR; rw [this] <;> simp [e1]
   subst hR
   clear HR e1
   go_enter Tryz.func63, Tryz.ntmps63
   obtain ⟨d0, d1, d2, d3, d4, d5, d6, d7, d8, d9, d10, d11, d12, d13, d14, d15⟩ := cells16 (unhide KK)
   obtain ⟨f0, f1, f2, f3, f4, f5, f6, f7, f8, f9, f10, f11, f12, f13, f14, f15⟩ := cells16 (unhide RR)
   go_wp2_with fail
   go_ret
   exact ⟨rfl, b0⟩
 ·have q0 : (((NC : Nat) : Int) == 0) = false := by rw [beq_eq_false_iff_ne]; omega
  have hR : R = false := by have := unhide HR; rw [this] <;> simp [e0]
  subst hR
  clear HR e0
  go_enter Tryz.func63, Tryz.ntmps63
  obtain ⟨d0, d1, d2, d3, d4, d5, d6, d7, d8, d9, d10, d11, d12, d13, d14, d15⟩ := cells16 (unhide KK)
  obtain ⟨f0, f1, f2, f3, f4, f5, f6, f7, f8, f9, f10, f11, f12, f13, f14, f15⟩ := cells16 (unhide RR)
  go_wp2_with fail
  go_ret
  exact ⟨rfl, b0⟩
end Go.Proofs.YtnplmeifhebhhaaGreat
