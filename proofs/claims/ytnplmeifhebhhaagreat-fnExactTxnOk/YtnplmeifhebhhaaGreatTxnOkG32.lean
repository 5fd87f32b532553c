/-
  Contract of the program's TxnOk at kind 3. Contract of the program's TxnOk. Plain facts: where an append to an own row of bytes leaves it: in its block, or in a new one. No program is named here.
-/
import Derived.Test.YtnplmeifhebhhaaGreatTxnOkG30
import Derived.Test.YtnplmeifhebhhaaGreatTxnOkG25
import Derived.Test.YtnplmeifhebhhaaGreatTxnOkG31
import Derived.Test.YtnplmeifhebhhaaGreatTxnOkG04
import Derived.Test.YtnplmeifhebhhaaGreatTxnOkG02
namespace Go.Proofs.YtnplmeifhebhhaaGreat
open Go.RowKit
set_option linter.unusedVariables false

set_option maxHeartbeats 2000000 in
set_option maxRecDepth 100000 in
theorem implTxnOk3 {vq va vb vm vp vu vc vh : Value} {t : Tx} {w : World} (h : HasTx w vq va vb vm vp vu vc vh t) (hct : t.msg.count ≤ 1048576) :
  Calls Tryz.prog 25 #[.agg #[.int .i64 3, .int .i64 t.msg.id, .bool t.msg.reply, .int .i64 t.msg.op, .bool t.msg.auth, .int .i64 t.msg.code, vq, va, vb, vm, vp, vu, .int .i64 t.ip, vc, vh, .int .i64 t.when]] w fun e w' => e = .returned (.bool ((decide (0 ≤ t.when ∧ t.when ≤ 1000000)) && (decide (t.client.length = 0) && (decide (t.host.length = 0) && (decide (t.ip = 0) && emptyM t.msg))))) ∧ Below w.heap.size w w' := by
 obtain ⟨xq, yq, rfl, _, zq⟩ := h.msg.qs.form
 obtain ⟨xa, ya, rfl, _, za⟩ := h.msg.ans.form
 obtain ⟨xb, yb, rfl, _, zb⟩ := h.msg.aus.form
 obtain ⟨xm, ym, rfl, _, zm⟩ := h.msg.more.form
 obtain ⟨xp, yp, rfl, _, zp⟩ := h.msg.pres.form
 obtain ⟨xu, yu, rfl, _, zu⟩ := h.msg.ups.form
 have hcb := h.client.bound
 have hhb := h.host.bound
 obtain ⟨xc, yc, rfl, _⟩ := h.client.form
 obtain ⟨xh, yh, rfl, _⟩ := h.host.form
 have b0 := below_alloc (w := w) (.cells #[.int .i64 3, .int .i64 t.msg.id, .bool t.msg.reply, .int .i64 t.msg.op, .bool t.msg.auth, .int .i64 t.msg.code, .slice xq t.msg.qs.length yq, .slice xa t.msg.ans.length ya, .slice xb t.msg.aus.length yb, .slice xm t.msg.more.length ym, .slice xp t.msg.pres.length yp, .slice xu t.msg.ups.length yu, .int .i64 t.ip, .slice xc t.client.length yc, .slice xh t.host.length yh, .int .i64 t.when] 50)
 have KK := hide (heap_alloc_new w (.cells #[.int .i64 3, .int .i64 t.msg.id, .bool t.msg.reply, .int .i64 t.msg.op, .bool t.msg.auth, .int .i64 t.msg.code, .slice xq t.msg.qs.length yq, .slice xa t.msg.ans.length ya, .slice xb t.msg.aus.length yb, .slice xm t.msg.more.length ym, .slice xp t.msg.pres.length yp, .slice xu t.msg.ups.length yu, .int .i64 t.ip, .slice xc t.client.length yc, .slice xh t.host.length yh, .int .i64 t.when] 50))
 have H := hide (h.below b0)
 have CM := fun (w : World) (h : HasTx w (.slice xq t.msg.qs.length yq) (.slice xa t.msg.ans.length ya) (.slice xb t.msg.aus.length yb) (.slice xm t.msg.more.length ym) (.slice xp t.msg.pres.length yp) (.slice xu t.msg.ups.length yu) (.slice xc t.client.length yc) (.slice xh t.host.length yh) t) => may3_has h
 have CN := fun (w : World) (h : HasTx w (.slice xq t.msg.qs.length yq) (.slice xa t.msg.ans.length ya) (.slice xb t.msg.aus.length yb) (.slice xm t.msg.more.length ym) (.slice xp t.msg.pres.length yp) (.slice xu t.msg.ups.length yu) (.slice xc t.client.length yc) (.slice xh t.host.length yh) t) => beside3_has h hct rfl rfl rfl rfl rfl rfl rfl rfl
 generalize (decide (0 ≤ t.when ∧ t.when ≤ 1000000)) = GM at *
 generalize (decide (t.client.length = 0) && (decide (t.host.length = 0) && (decide (t.ip = 0) && emptyM t.msg))) = GN at *
 replace CM := hide CM
 replace CN := hide CN
 clear h hct
 obtain ⟨d0, d1, d2, d3, d4, d5, d6, d7, d8, d9, d10, d11, d12, d13, d14, d15⟩ := cells16 (unhide KK)
 go_enter Tryz.func25, Tryz.ntmps25
 go_wp2_with fail
 clear d0 d1 d2 d3 d4 d5 d6 d7 d8 d9 d10 d11 d12 d13 d14 d15
 refine (deedOf3_any (xq := xq) (yq := yq) (xa := xa) (ya := ya) (xb := xb) (yb := yb) (xm := xm) (ym := ym) (xp := xp) (yp := yp) (xu := xu) (yu := yu) (xc := xc) (yc := yc) (xh := xh) (yh := yh) (t := t)).mono ?_
 rintro e w1 ⟨rfl, b1⟩
 have bd := below_next b1 (below_drew (w := w1))
 replace b0 := below_next b0 bd
 replace H := hide ((unhide H).below bd)
 replace KK := hide (block_kept bd (unhide KK))
 clear b1 bd
 go_wp2_with fail
 refine startF 13 (S := (fun w' => w'.cell? ⟨w.heap.size, 0, none⟩ = some (.int .i64 3) ∧ w'.cell? ⟨w.heap.size, 1, none⟩ = some (.int .i64 t.msg.id) ∧ w'.cell? ⟨w.heap.size, 2, none⟩ = some (.bool t.msg.reply) ∧ w'.cell? ⟨w.heap.size, 3, none⟩ = some (.int .i64 t.msg.op) ∧ w'.cell? ⟨w.heap.size, 4, none⟩ = some (.bool t.msg.auth) ∧ w'.cell? ⟨w.heap.size, 5, none⟩ = some (.int .i64 t.msg.code) ∧ w'.cell? ⟨w.heap.size, 6, none⟩ = some (.slice xq t.msg.qs.length yq) ∧ w'.cell? ⟨w.heap.size, 7, none⟩ = some (.slice xa t.msg.ans.length ya) ∧ w'.cell? ⟨w.heap.size, 8, none⟩ = some (.slice xb t.msg.aus.length yb) ∧ w'.cell? ⟨w.heap.size, 9, none⟩ = some (.slice xm t.msg.more.length ym) ∧ w'.cell? ⟨w.heap.size, 10, none⟩ = some (.slice xp t.msg.pres.length yp) ∧ w'.cell? ⟨w.heap.size, 11, none⟩ = some (.slice xu t.msg.ups.length yu) ∧ w'.cell? ⟨w.heap.size, 12, none⟩ = some (.int .i64 t.ip) ∧ w'.cell? ⟨w.heap.size, 13, none⟩ = some (.slice xc t.client.length yc) ∧ w'.cell? ⟨w.heap.size, 14, none⟩ = some (.slice xh t.host.length yh) ∧ w'.cell? ⟨w.heap.size, 15, none⟩ = some (.int .i64 t.when))) (by kernel_rfl) rfl (cells16 (unhide KK)) (fun hHeld => ?_)
 simp only [List.replicate]
 repeat ((first | (refine tkF ?_ rfl (by kernel_rfl) (by rfl) (fun _ _ _ h => h) ?_ hHeld ?_; rotate_left; · (intro w hSw; (try dsimp only at hSw); go_simp <;> with_reducible rfl)) | refine skF rfl (by kernel_rfl) (by rfl) (fun _ _ _ h => h) hHeld ?_); simp only [Act.put, setF, List.setIfInBounds_toArray, List.set_cons_zero, List.set_cons_succ])
 refine runI 4 rfl (by kernel_rfl) (by kernel_rfl) (fun K hK => ?_)
 have HK := hide hK
 clear hK hHeld
 go_simp
 refine (unhide CM _ (unhide H)).mono ?_
 rintro e w2 ⟨rfl, b2⟩
 cases GM with
 | false =>
  refine (unhide HK).out _ _ (cells16 (block_kept b2 (unhide KK))) (fun hHeld => ?_)
  clear HK K
  simp only [List.setIfInBounds_toArray, List.set_cons_zero, List.set_cons_succ]
  repeat ((first | (refine tkF ?_ rfl (by kernel_rfl) (by rfl) (fun _ _ _ h => h) ?_ hHeld ?_; rotate_left; · (intro w hSw; (try dsimp only at hSw); go_simp <;> with_reducible rfl)) | refine skF rfl (by kernel_rfl) (by rfl) (fun _ _ _ h => h) hHeld ?_); simp only [Act.put, setF, List.setIfInBounds_toArray, List.set_cons_zero, List.set_cons_succ])
  refine wpAnyH_done (by kernel_rfl) ?_ _
  clear hHeld
  go_wp2_with fail
  go_ret
  exact ⟨rfl, below_next b0 b2⟩
 | true =>
  refine (unhide HK).out _ _ (cells16 (block_kept b2 (unhide KK))) (fun hHeld => ?_)
  clear HK K
  simp only [List.setIfInBounds_toArray, List.set_cons_zero, List.set_cons_succ]
  repeat ((first | (refine tkF ?_ rfl (by kernel_rfl) (by rfl) (fun _ _ _ h => h) ?_ hHeld ?_; rotate_left; · (intro w hSw; (try dsimp only at hSw); go_simp <;> with_reducible rfl)) | refine skF rfl (by kernel_rfl) (by rfl) (fun _ _ _ h => h) hHeld ?_); simp only [Act.put, setF, List.setIfInBounds_toArray, List.set_cons_zero, List.set_cons_succ])
  refine runI 9 rfl (by kernel_rfl) (by kernel_rfl) (fun K hK => ?_)
  have HK := hide hK
  clear hK hHeld
  go_simp
  refine (txn3_any (xq := xq) (yq := yq) (xa := xa) (ya := ya) (xb := xb) (yb := yb) (xm := xm) (ym := ym) (xp := xp) (yp := yp) (xu := xu) (yu := yu) (xc := xc) (yc := yc) (xh := xh) (yh := yh) (t := t)).mono ?_
  rintro e w3 ⟨rfl, b3⟩
  have b23 := below_next b2 b3
  refine (unhide HK).out _ _ (cells16 (block_kept b23 (unhide KK))) (fun hHeld => ?_)
  clear HK K
  simp only [List.setIfInBounds_toArray, List.set_cons_zero, List.set_cons_succ]
  refine runI 10 rfl (by kernel_rfl) (by kernel_rfl) (fun K hK => ?_)
  have HK := hide hK
  clear hK hHeld
  go_simp
  refine (unhide CN _ ((unhide H).below b23)).mono ?_
  rintro e w4 ⟨rfl, b4⟩
  have b24 := below_next b23 b4
  refine (unhide HK).out _ _ (cells16 (block_kept b24 (unhide KK))) (fun hHeld => ?_)
  clear HK K
  simp only [List.setIfInBounds_toArray, List.set_cons_zero, List.set_cons_succ]
  repeat ((first | (refine tkF ?_ rfl (by kernel_rfl) (by rfl) (fun _ _ _ h => h) ?_ hHeld ?_; rotate_left; · (intro w hSw; (try dsimp only at hSw); go_simp <;> with_reducible rfl)) | refine skF rfl (by kernel_rfl) (by rfl) (fun _ _ _ h => h) hHeld ?_); simp only [Act.put, setF, List.setIfInBounds_toArray, List.set_cons_zero, List.set_cons_succ])
  refine wpAnyH_done (by kernel_rfl) ?_ _
  clear hHeld
  go_wp2_with fail
  go_ret
  exact ⟨rfl, below_next b0 b24⟩
end Go.Proofs.YtnplmeifhebhhaaGreat

namespace Go.Proofs.YtnplmeifhebhhaaGreat
open Go.RowKit
set_option linter.unusedVariables false

set_option maxHeartbeats 1000000 in
set_option maxRecDepth 100000 in
theorem deedOfE_any {xq : Option Addr} {yq : Nat} {xa : Option Addr} {ya : Nat} {xb : Option Addr} {yb : Nat} {xm : Option Addr} {ym : Nat} {xp : Option Addr} {yp : Nat} {xu : Option Addr} {yu : Nat} {xc : Option Addr} {yc : Nat} {xh : Option Addr} {yh : Nat} {t : Tx} {w : World} (n0 : t.kind ≠ 0) (n1 : t.kind ≠ 1) (n2 : t.kind ≠ 2) (n3 : t.kind ≠ 3) :
  Calls Tryz.prog 62 #[.agg #[.int .i64 t.kind, .int .i64 t.msg.id, .bool t.msg.reply, .int .i64 t.msg.op, .bool t.msg.auth, .int .i64 t.msg.code, .slice xq t.msg.qs.length yq, .slice xa t.msg.ans.length ya, .slice xb t.msg.aus.length yb, .slice xm t.msg.more.length ym, .slice xp t.msg.pres.length yp, .slice xu t.msg.ups.length yu, .int .i64 t.ip, .slice xc t.client.length yc, .slice xh t.host.length yh, .int .i64 t.when]] w fun e w' => e = .returned .nilIface ∧ Below w.heap.size w w' := by
 generalize t.kind = KI at *
 have q0 : (KI == 0) = false := by rw [beq_eq_false_iff_ne]; exact n0
 have q1 : (KI == 1) = false := by rw [beq_eq_false_iff_ne]; exact n1
 have q2 : (KI == 2) = false := by rw [beq_eq_false_iff_ne]; exact n2
 have q3 : (KI == 3) = false := by rw [beq_eq_false_iff_ne]; exact n3
 clear n0 n1 n2 n3
 have b0 := below_alloc (w := w) (.cells #[.int .i64 KI, .int .i64 t.msg.id, .bool t.msg.reply, .int .i64 t.msg.op, .bool t.msg.auth, .int .i64 t.msg.code, .slice xq t.msg.qs.length yq, .slice xa t.msg.ans.length ya, .slice xb t.msg.aus.length yb, .slice xm t.msg.more.length ym, .slice xp t.msg.pres.length yp, .slice xu t.msg.ups.length yu, .int .i64 t.ip, .slice xc t.client.length yc, .slice xh t.host.length yh, .int .i64 t.when] 50)
 obtain ⟨d0, d1, d2, d3, d4, d5, d6, d7, d8, d9, d10, d11, d12, d13, d14, d15⟩ := cells16 (heap_alloc_new w (.cells #[.int .i64 KI, .int .i64 t.msg.id, .bool t.msg.reply, .int .i64 t.msg.op, .bool t.msg.auth, .int .i64 t.msg.code, .slice xq t.msg.qs.length yq, .slice xa t.msg.ans.length ya, .slice xb t.msg.aus.length yb, .slice xm t.msg.more.length ym, .slice xp t.msg.pres.length yp, .slice xu t.msg.ups.length yu, .int .i64 t.ip, .slice xc t.client.length yc, .slice xh t.host.length yh, .int .i64 t.when] 50))
 go_enter Tryz.func62, Tryz.ntmps62
 go_wp2_with fail
 go_ret
 exact ⟨rfl, b0⟩

set_option maxHeartbeats 1000000 in
set_option maxRecDepth 100000 in
theorem implTxnOkE {vq va vb vm vp vu vc vh : Value} {t : Tx} {w : World} (h : HasTx w vq va vb vm vp vu vc vh t) (n0 : t.kind ≠ 0) (n1 : t.kind ≠ 1) (n2 : t.kind ≠ 2) (n3 : t.kind ≠ 3) :
  Calls Tryz.prog 25 #[.agg #[.int .i64 t.kind, .int .i64 t.msg.id, .bool t.msg.reply, .int .i64 t.msg.op, .bool t.msg.auth, .int .i64 t.msg.code, vq, va, vb, vm, vp, vu, .int .i64 t.ip, vc, vh, .int .i64 t.when]] w fun e w' => e = .returned (.bool false) ∧ Below w.heap.size w w' := by
 obtain ⟨xq, yq, rfl, _, zq⟩ := h.msg.qs.form
 obtain ⟨xa, ya, rfl, _, za⟩ := h.msg.ans.form
 obtain ⟨xb, yb, rfl, _, zb⟩ := h.msg.aus.form
 obtain ⟨xm, ym, rfl, _, zm⟩ := h.msg.more.form
 obtain ⟨xp, yp, rfl, _, zp⟩ := h.msg.pres.form
 obtain ⟨xu, yu, rfl, _, zu⟩ := h.msg.ups.form
 have hcb := h.client.bound
 have hhb := h.host.bound
 obtain ⟨xc, yc, rfl, _⟩ := h.client.form
 obtain ⟨xh, yh, rfl, _⟩ := h.host.form
 have b0 := below_alloc (w := w) (.cells #[.int .i64 t.kind, .int .i64 t.msg.id, .bool t.msg.reply, .int .i64 t.msg.op, .bool t.msg.auth, .int .i64 t.msg.code, .slice xq t.msg.qs.length yq, .slice xa t.msg.ans.length ya, .slice xb t.msg.aus.length yb, .slice xm t.msg.more.length ym, .slice xp t.msg.pres.length yp, .slice xu t.msg.ups.length yu, .int .i64 t.ip, .slice xc t.client.length yc, .slice xh t.host.length yh, .int .i64 t.when] 50)
 have KK := hide (heap_alloc_new w (.cells #[.int .i64 t.kind, .int .i64 t.msg.id, .bool t.msg.reply, .int .i64 t.msg.op, .bool t.msg.auth, .int .i64 t.msg.code, .slice xq t.msg.qs.length yq, .slice xa t.msg.ans.length ya, .slice xb t.msg.aus.length yb, .slice xm t.msg.more.length ym, .slice xp t.msg.pres.length yp, .slice xu t.msg.ups.length yu, .int .i64 t.ip, .slice xc t.client.length yc, .slice xh t.host.length yh, .int .i64 t.when] 50))
 have CD := hide (fun (w : World) => deedOfE_any (xq := xq) (yq := yq) (xa := xa) (ya := ya) (xb := xb) (yb := yb) (xm := xm) (ym := ym) (xp := xp) (yp := yp) (xu := xu) (yu := yu) (xc := xc) (yc := yc) (xh := xh) (yh := yh) (w := w) n0 n1 n2 n3)
 clear h n0 n1 n2 n3
 obtain ⟨d0, d1, d2, d3, d4, d5, d6, d7, d8, d9, d10, d11, d12, d13, d14, d15⟩ := cells16 (unhide KK)
 go_enter Tryz.func25, Tryz.ntmps25
 go_wp2_with fail
 clear d0 d1 d2 d3 d4 d5 d6 d7 d8 d9 d10 d11 d12 d13 d14 d15
 refine (unhide CD _).mono ?_
 rintro e w1 ⟨rfl, b1⟩
 have bd := below_next b1 (below_drew (w := w1))
 replace b0 := below_next b0 bd
 replace KK := hide (block_kept bd (unhide KK))
 clear b1 bd
 go_wp2_with fail
 refine startF 13 (S := (fun w' => w'.cell? ⟨w.heap.size, 0, none⟩ = some (.int .i64 t.kind) ∧ w'.cell? ⟨w.heap.size, 1, none⟩ = some (.int .i64 t.msg.id) ∧ w'.cell? ⟨w.heap.size, 2, none⟩ = some (.bool t.msg.reply) ∧ w'.cell? ⟨w.heap.size, 3, none⟩ = some (.int .i64 t.msg.op) ∧ w'.cell? ⟨w.heap.size, 4, none⟩ = some (.bool t.msg.auth) ∧ w'.cell? ⟨w.heap.size, 5, none⟩ = some (.int .i64 t.msg.code) ∧ w'.cell? ⟨w.heap.size, 6, none⟩ = some (.slice xq t.msg.qs.length yq) ∧ w'.cell? ⟨w.heap.size, 7, none⟩ = some (.slice xa t.msg.ans.length ya) ∧ w'.cell? ⟨w.heap.size, 8, none⟩ = some (.slice xb t.msg.aus.length yb) ∧ w'.cell? ⟨w.heap.size, 9, none⟩ = some (.slice xm t.msg.more.length ym) ∧ w'.cell? ⟨w.heap.size, 10, none⟩ = some (.slice xp t.msg.pres.length yp) ∧ w'.cell? ⟨w.heap.size, 11, none⟩ = some (.slice xu t.msg.ups.length yu) ∧ w'.cell? ⟨w.heap.size, 12, none⟩ = some (.int .i64 t.ip) ∧ w'.cell? ⟨w.heap.size, 13, none⟩ = some (.slice xc t.client.length yc) ∧ w'.cell? ⟨w.heap.size, 14, none⟩ = some (.slice xh t.host.length yh) ∧ w'.cell? ⟨w.heap.size, 15, none⟩ = some (.int .i64 t.when))) (by kernel_rfl) rfl (cells16 (unhide KK)) (fun hHeld => ?_)
 simp only [List.replicate]
 repeat ((first | (refine tkF ?_ rfl (by kernel_rfl) (by rfl) (fun _ _ _ h => h) ?_ hHeld ?_; rotate_left; · (intro w hSw; (try dsimp only at hSw); go_simp <;> with_reducible rfl)) | refine skF rfl (by kernel_rfl) (by rfl) (fun _ _ _ h => h) hHeld ?_); simp only [Act.put, setF, List.setIfInBounds_toArray, List.set_cons_zero, List.set_cons_succ])
 refine wpAnyH_done (by kernel_rfl) ?_ _
 clear hHeld
 go_wp2_with fail
 go_ret
 exact ⟨rfl, b0⟩

theorem implTxnOk_has {vq va vb vm vp vu vc vh : Value} {t : Tx} {w : World} (h : HasTx w vq va vb vm vp vu vc vh t) (hct : t.msg.count ≤ 1048576) :
  Calls Tryz.prog 25 #[.agg #[.int .i64 t.kind, .int .i64 t.msg.id, .bool t.msg.reply, .int .i64 t.msg.op, .bool t.msg.auth, .int .i64 t.msg.code, vq, va, vb, vm, vp, vu, .int .i64 t.ip, vc, vh, .int .i64 t.when]] w fun e w' => e = .returned (.bool (txOk t)) ∧ Below w.heap.size w w' := by
 by_cases n0 : t.kind = 0
 ·have hR : txOk t = ((okM t.msg && (decide (t.msg.op = 5) && !t.msg.reply)) && (decide (t.client.length = 0) && (decide (t.host.length = 0) && (decide (t.ip = 0) && decide (t.when = 0))))) := by
   unfold txOk
   rw [if_pos n0]
   ac_rfl
  rw [hR, n0]
  exact implTxnOk0 h hct
 by_cases n1 : t.kind = 1
 ·have hR : txOk t = ((ipB t.ip && (clientB t.client && (labelOk t.host && decide (0 ≤ t.when ∧ t.when ≤ 2000000)))) && (emptyM t.msg)) := by
   unfold txOk
   rw [if_neg n0, if_pos n1]
   ac_rfl
  rw [hR, n1]
  exact implTxnOk1 h hct
 by_cases n2 : t.kind = 2
 ·have hR : txOk t = ((ipB t.ip && clientB t.client) && (decide (t.host.length = 0) && (decide (t.when = 0) && emptyM t.msg))) := by
   unfold txOk
   rw [if_neg n0, if_neg n1, if_pos n2]
   ac_rfl
  rw [hR, n2]
  exact implTxnOk2 h hct
 by_cases n3 : t.kind = 3
 ·have hR : txOk t = ((decide (0 ≤ t.when ∧ t.when ≤ 1000000)) && (decide (t.client.length = 0) && (decide (t.host.length = 0) && (decide (t.ip = 0) && emptyM t.msg)))) := by
   unfold txOk
   rw [if_neg n0, if_neg n1, if_neg n2, if_pos n3]
   ac_rfl
  rw [hR, n3]
  exact implTxnOk3 h hct
 have hR : txOk t = false := by
  unfold txOk
  rw [if_neg n0, if_neg n1, if_neg n2, if_neg n3]
 rw [hR]
 exact implTxnOkE h n0 n1 n2 n3
end Go.Proofs.YtnplmeifhebhhaaGreat

namespace Go.Proofs.YtnplmeifhebhhaaGreat
open Go.RowKit

section
variable {P : Program} {w : World}

theorem where_bytes {t ty e : TypeId} (ht : P.underlying t = some (.slice e)) (hinfo : (P.info? e).map (fun i => (i.zero, i.size, i.bytes)) = some (some (.int .u8 0), 1, 1))
  {base : Nat} {v vx : Value} {l m : List Int} (hown : Own base e w v l) (hr : Reads w vx m) (hlen : l.length + m.length ≤ 1099511627776) (hbase : base ≤ w.heap.size) {v' : Value} {w' : World}
  (hrun : (Builtin.append_ #[t, t] ty #[v, vx]).run P w = .ok v' w') : v'.ownBlock = v.ownBlock ∨ v'.ownBlock = some w.heap.size := by
 obtain ⟨i0, hi, hz0, hz1, hz2⟩ := info_parts hinfo
 rcases hr with ⟨rfl, rfl⟩ | ⟨ad, cap, rfl, hc⟩
 ·rw [run_append_owned_none w base t ty e i0 1 ht hi v l.length (l.map (Value.int .u8)) hown] at hrun
  simp only [Result.ok.injEq] at hrun
  left; rw [hrun.1]
 ·obtain ⟨v2, w2, h1, _, _, h4⟩ := run_append_own (P := P) w base t ty e i0 (.int .u8 0) 1 1 ht hi hz0 hz1 hz2 rfl (by decide) v l.length (l.map (Value.int .u8)) hown ad m.length cap (m.map (Value.int .u8)) (by simp) (news_of hc) (one_of m) (by unfold maxLen; omega) (by omega) hbase
  rcases hown.2 with ⟨rfl, h0⟩ | ⟨g, cp, cur, rfl, hbg, hg, hnc, hcm, hcs, htake⟩
  ·by_cases hm : m.length = 0
   ·rw [h1] at hrun
    simp only [Result.ok.injEq] at hrun
    have := h4.2 ⟨rfl, hm⟩
    rw [← hrun.1, this]
    exact .inl rfl
   ·rw [run_append_nil (P := P) w t ty e i0 (.int .u8 0) ht hi hz0 ad m.length cap (m.map (Value.int .u8)) (by simp [hz1]) (news_of hc) (by omega) (by omega) (by rw [hz2]; omega)] at hrun
    simp only [Result.ok.injEq] at hrun
    right; rw [← hrun.1]; rfl
  ·by_cases hroom : l.length + m.length ≤ cp
   ·rw [run_append_room (P := P) w t ty e i0 ht hi g l.length cp cur hg ad m.length cap (m.map (Value.int .u8)) (by simp [hz1]) (news_of hc) (one_of m) hroom (by rw [hz1]; simp; omega)] at hrun
    simp only [Result.ok.injEq] at hrun
    left; rw [← hrun.1]; rfl
   ·have holds : ∀ j u, (l.map (Value.int .u8))[j]? = some u → w.cell? ((⟨g, 0, none⟩ : Addr).add j) = some u := World.ownsRow.cells hown (g := g) rfl
    rw [run_append_grow (P := P) w t ty e i0 (.int .u8 0) ht hi hz0 ⟨g, 0, none⟩ l.length cp (l.map (Value.int .u8)) (by simp [hz1]) holds ad m.length cap (m.map (Value.int .u8)) (by simp [hz1]) (news_of hc) (by omega) (by omega) (growslice_fits (by omega) (by rw [hz2]; omega))] at hrun
    simp only [Result.ok.injEq] at hrun
    right; rw [← hrun.1]; rfl

/-- 'append(s, x...)' of bytes, as a step of a region, and where it leaves the row. -/
theorem step_append_where {ops : Array Oper} {o : Oper} {a : Act} {K : Act → World → Prop} {Q : Exit → Act → World → Prop} {E : Prop} (hgd : o.guard = none) (s x : Operand) (t e : TypeId)
  (ho : o.op = .call { callee := .builtin .append, args := #[s, x], argTypes := #[t, t] }) (ht : P.underlying t = some (.slice e))
  (hinfo : (P.info? e).map (fun i => (i.zero, i.size, i.bytes)) = some (some (.int .u8 0), 1, 1))
  (base : Nat) (v vx : Value) (l m : List Int) (hs : a.eval s = v) (hx : a.eval x = vx) (hown : Own base e w v l) (hr : Reads w vx m) (hlen : l.length + m.length ≤ 1099511627776) (hbase : base ≤ w.heap.size)
  (h : ∀ v' w', Own base e w' v' (l ++ m) → w.grownBy w' v.ownBlock → (v'.ownBlock = v.ownBlock ∨ v'.ownBlock = some w.heap.size) → K (a.put o.dst v') w') : if Region.wanted o (yielded ops a.tmps) = true then Oper.wp P o a w K Q else E := by
 have hw : Region.wanted o (yielded ops a.tmps) = true := by simp [Region.wanted, hgd]
 rw [if_pos hw]
 obtain ⟨v', w', hr', h2, h3⟩ := run_append_bytes (P := P) t o.type e ht hinfo base v vx l m hown hr hlen hbase
 have h4 := where_bytes ht hinfo hown hr hlen hbase hr'
 unfold Oper.wp execOp
 simp only [ho, resolve, invoke, builtin, Sem.run_bind, Sem.run_pure, Result.andThen_ok, List.map_toArray, List.map_cons, List.map_nil, hs, hx, hr']
 exact h v' w' h2 h3 h4
/-- The same where no order is drawn. -/
theorem append_where {ops : Array Oper} {rest : List Oper} {o : Oper} {a : Act} {Q : Exit → Act → World → Prop} (hgd : o.guard = none) (s x : Operand) (t e : TypeId)
  (ho : o.op = .call { callee := .builtin .append, args := #[s, x], argTypes := #[t, t] }) (ht : P.underlying t = some (.slice e))
  (hinfo : (P.info? e).map (fun i => (i.zero, i.size, i.bytes)) = some (some (.int .u8 0), 1, 1))
  (base : Nat) (v vx : Value) (l m : List Int) (hs : a.eval s = v) (hx : a.eval x = vx) (hown : Own base e w v l) (hr : Reads w vx m) (hlen : l.length + m.length ≤ 1099511627776) (hbase : base ≤ w.heap.size)
  (h : ∀ v' w', Own base e w' v' (l ++ m) → w.grownBy w' v.ownBlock → (v'.ownBlock = v.ownBlock ∨ v'.ownBlock = some w.heap.size) → wpList P ops Q rest (a.put o.dst v') w') : wpList P ops Q (o :: rest) a w := by
 refine wpList_plain hgd fun _ hK => ?_
 obtain ⟨v', w', hr', h2, h3⟩ := run_append_bytes (P := P) t o.type e ht hinfo base v vx l m hown hr hlen hbase
 have h4 := where_bytes ht hinfo hown hr hlen hbase hr'
 unfold Oper.wp execOp
 simp only [ho, resolve, invoke, builtin, Sem.run_bind, Sem.run_pure, Result.andThen_ok, List.map_toArray, List.map_cons, List.map_nil, hs, hx, hr']
 exact hK _ _ (h v' w' h2 h3 h4)
end

/-- Of the blocks that lay in w none has turned but the row of v; what v' owns is that row, or new. -/
structure Moved (w w' : World) (v v' : Value) : Prop where
 kept : w.grownBy w' v.ownBlock
 own : v'.ownBlock = v.ownBlock ∨ ∀ q, v'.ownBlock = some q → w.heap.size ≤ q
theorem Moved.refl (w : World) (v : Value) : Moved w w v v := ⟨⟨rfl, rfl, rfl, Nat.le_refl _, fun _ _ _ => rfl⟩, .inl rfl⟩
theorem Moved.step {w a b : World} {v u u' : Value} (h : Moved w a v u) (g : a.grownBy b u.ownBlock) (hw : u'.ownBlock = u.ownBlock ∨ u'.ownBlock = some a.heap.size) : Moved w b v u' := by
 refine ⟨⟨g.os.trans h.kept.os, g.tape.trans h.kept.tape, g.output.trans h.kept.output, Nat.le_trans h.kept.size g.size, fun k hk hne => ?_⟩, ?_⟩
 ·refine (g.block k (Nat.lt_of_lt_of_le hk h.kept.size) (fun e => ?_)).trans (h.kept.block k hk hne)
  rcases h.own with h1 | h1
  ·rw [h1] at e; exact hne e
  ·have := h1 k e.symm; omega
 ·rcases hw with hw | hw
  ·rw [hw]; exact h.own
  ·right
   intro q hq
   rw [hw] at hq
   have := h.kept.size
   simp at hq
   omega
theorem Moved.below {w a b : World} {v u : Value} (h : Moved w a v u) (hb : Below a.heap.size a b) : Moved w b v u :=
 ⟨⟨hb.os.trans h.kept.os, hb.tape.trans h.kept.tape, hb.output.trans h.kept.output, Nat.le_trans h.kept.size hb.size, fun k hk hne => (hb.block k (Nat.lt_of_lt_of_le hk h.kept.size)).trans (h.kept.block k hk hne)⟩, h.own⟩
end Go.Proofs.YtnplmeifhebhhaaGreat
