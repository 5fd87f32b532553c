/-
  Contract of the program's TxnOk at kind 1. Contract of the program's TxnOk at kind 2. Contract of the program's TxnOk at kind 3.
-/
import Derived.Test.YtfbfakdkemlbmaaGreatTxnBytesG26
import Derived.Test.YtfbfakdkemlbmaaGreatTxnBytesG13
namespace Go.Proofs.YtfbfakdkemlbmaaGreat
open Go.RowKit
set_option linter.unusedVariables false

set_option maxHeartbeats 2000000 in
set_option maxRecDepth 100000 in
theorem implTxnOk1 {vq va vb vm vp vu vc vh : Value} {t : Tx} {w : World} (h : HasTx w vq va vb vm vp vu vc vh t) (hct : t.msg.count ≤ 1048576) :
  Calls Tryz.prog 19 #[.agg #[.int .i64 1, .int .i64 t.msg.id, .bool t.msg.reply, .int .i64 t.msg.op, .bool t.msg.auth, .int .i64 t.msg.code, vq, va, vb, vm, vp, vu, .int .i64 t.ip, vc, vh, .int .i64 t.when]] w fun e w' => e = .returned (.bool ((ipB t.ip && (clientB t.client && (labelOk t.host && decide (0 ≤ t.when ∧ t.when ≤ 2000000)))) && (emptyM t.msg))) ∧ Below w.heap.size w w' := by
 obtain ⟨xq, yq, rfl, _, zq⟩ := h.msg.qs.form
 obtain ⟨xa, ya, rfl, _, za⟩ := h.msg.ans.form
 obtain ⟨xb, yb, rfl, _, zb⟩ := h.msg.aus.form
 obtain ⟨xm, ym, rfl, _, zm⟩ := h.msg.more.form
 obtain ⟨xp, yp, rfl, _, zp⟩ := h.msg.pres.form
 obtain ⟨xu, yu, rfl, _, zu⟩ := h.msg.ups.form
 have hcb := h.client.bound
 have hhb := h.host.bound
 obtain ⟨xc, yc, rfl, _⟩ := h.client.form
 obtain ⟨xh, yh, rfl, _⟩ := h.host.form
 have b0 := below_alloc (w := w) (.cells #[.int .i64 1, .int .i64 t.msg.id, .bool t.msg.reply, .int .i64 t.msg.op, .bool t.msg.auth, .int .i64 t.msg.code, .slice xq t.msg.qs.length yq, .slice xa t.msg.ans.length ya, .slice xb t.msg.aus.length yb, .slice xm t.msg.more.length ym, .slice xp t.msg.pres.length yp, .slice xu t.msg.ups.length yu, .int .i64 t.ip, .slice xc t.client.length yc, .slice xh t.host.length yh, .int .i64 t.when] 39)
 have KK := hide (heap_alloc_new w (.cells #[.int .i64 1, .int .i64 t.msg.id, .bool t.msg.reply, .int .i64 t.msg.op, .bool t.msg.auth, .int .i64 t.msg.code, .slice xq t.msg.qs.length yq, .slice xa t.msg.ans.length ya, .slice xb t.msg.aus.length yb, .slice xm t.msg.more.length ym, .slice xp t.msg.pres.length yp, .slice xu t.msg.ups.length yu, .int .i64 t.ip, .slice xc t.client.length yc, .slice xh t.host.length yh, .int .i64 t.when] 39))
 have H := hide (h.below b0)
 have CM := fun (w : World) (h : HasTx w (.slice xq t.msg.qs.length yq) (.slice xa t.msg.ans.length ya) (.slice xb t.msg.aus.length yb) (.slice xm t.msg.more.length ym) (.slice xp t.msg.pres.length yp) (.slice xu t.msg.ups.length yu) (.slice xc t.client.length yc) (.slice xh t.host.length yh) t) => may1_has h
 have CN := fun (w : World) (h : HasTx w (.slice xq t.msg.qs.length yq) (.slice xa t.msg.ans.length ya) (.slice xb t.msg.aus.length yb) (.slice xm t.msg.more.length ym) (.slice xp t.msg.pres.length yp) (.slice xu t.msg.ups.length yu) (.slice xc t.client.length yc) (.slice xh t.host.length yh) t) => beside1_has h hct rfl rfl rfl rfl rfl rfl rfl rfl
 generalize (ipB t.ip && (clientB t.client && (labelOk t.host && decide (0 ≤ t.when ∧ t.when ≤ 2000000)))) = GM at *
 generalize (emptyM t.msg) = GN at *
 replace CM := hide CM
 replace CN := hide CN
 clear h hct
 obtain ⟨d0, d1, d2, d3, d4, d5, d6, d7, d8, d9, d10, d11, d12, d13, d14, d15⟩ := cells16 (unhide KK)
 go_enter Tryz.func19, Tryz.ntmps19
 go_wp2_with fail
 clear d0 d1 d2 d3 d4 d5 d6 d7 d8 d9 d10 d11 d12 d13 d14 d15
 refine (deedOf1_any (xq := xq) (yq := yq) (xa := xa) (ya := ya) (xb := xb) (yb := yb) (xm := xm) (ym := ym) (xp := xp) (yp := yp) (xu := xu) (yu := yu) (xc := xc) (yc := yc) (xh := xh) (yh := yh) (t := t)).mono ?_
 rintro e w1 ⟨rfl, b1⟩
 have bd := below_next b1 (below_drew (w := w1))
 replace b0 := below_next b0 bd
 replace H := hide ((unhide H).below bd)
 replace KK := hide (block_kept bd (unhide KK))
 clear b1 bd
 go_wp2_with fail
 refine startF 13 (S := (fun w' => w'.cell? ⟨w.heap.size, 0, none⟩ = some (.int .i64 1) ∧ w'.cell? ⟨w.heap.size, 1, none⟩ = some (.int .i64 t.msg.id) ∧ w'.cell? ⟨w.heap.size, 2, none⟩ = some (.bool t.msg.reply) ∧ w'.cell? ⟨w.heap.size, 3, none⟩ = some (.int .i64 t.msg.op) ∧ w'.cell? ⟨w.heap.size, 4, none⟩ = some (.bool t.msg.auth) ∧ w'.cell? ⟨w.heap.size, 5, none⟩ = some (.int .i64 t.msg.code) ∧ w'.cell? ⟨w.heap.size, 6, none⟩ = some (.slice xq t.msg.qs.length yq) ∧ w'.cell? ⟨w.heap.size, 7, none⟩ = some (.slice xa t.msg.ans.length ya) ∧ w'.cell? ⟨w.heap.size, 8, none⟩ = some (.slice xb t.msg.aus.length yb) ∧ w'.cell? ⟨w.heap.size, 9, none⟩ = some (.slice xm t.msg.more.length ym) ∧ w'.cell? ⟨w.heap.size, 10, none⟩ = some (.slice xp t.msg.pres.length yp) ∧ w'.cell? ⟨w.heap.size, 11, none⟩ = some (.slice xu t.msg.ups.length yu) ∧ w'.cell? ⟨w.heap.size, 12, none⟩ = some (.int .i64 t.ip) ∧ w'.cell? ⟨w.heap.size, 13, none⟩ = some (.slice xc t.client.length yc) ∧ w'.cell? ⟨w.heap.size, 14, none⟩ = some (.slice xh t.host.length yh) ∧ w'.cell? ⟨w.heap.size, 15, none⟩ = some (.int .i64 t.when))) (by kernel_rfl) rfl (cells16 (unhide KK)) (fun hHeld => ?_)
 simp only [List.replicate]
 repeat ((first | (refine tkF ?_ rfl (by kernel_rfl) (by rfl) (fun _ _ _ h => h) ?_ hHeld ?_; rotate_left; · (intro w hSw; (try dsimp only at hSw); go_simp <;> with_reducible rfl)) | refine skF rfl (by kernel_rfl) (by rfl) (fun _ _ _ h => h) hHeld ?_); simp only [Act.put, setF, List.setIfInBounds_toArray, List.set_cons_zero, List.set_cons_succ])
 refine runI 4 rfl (by kernel_rfl) (by kernel_rfl) (fun K hK => ?_)
 have HK := hide hK
 clear hK hHeld
 go_simp
 refine (unhide CM _ (unhide H)).mono ?_
 rintro e w2 ⟨rfl, b2⟩
 cases GM with
 | false =>
  refine (unhide HK).out _ _ (cells16 (block_kept b2 (unhide KK))) (fun hHeld => ?_)
  clear HK K
  simp only [List.setIfInBounds_toArray, List.set_cons_zero, List.set_cons_succ]
  repeat ((first | (refine tkF ?_ rfl (by kernel_rfl) (by rfl) (fun _ _ _ h => h) ?_ hHeld ?_; rotate_left; · (intro w hSw; (try dsimp only at hSw); go_simp <;> with_reducible rfl)) | refine skF rfl (by kernel_rfl) (by rfl) (fun _ _ _ h => h) hHeld ?_); simp only [Act.put, setF, List.setIfInBounds_toArray, List.set_cons_zero, List.set_cons_succ])
  refine wpAnyH_done (by kernel_rfl) ?_ _
  clear hHeld
  go_wp2_with fail
  go_ret
  exact ⟨rfl, below_next b0 b2⟩
 | true =>
  refine (unhide HK).out _ _ (cells16 (block_kept b2 (unhide KK))) (fun hHeld => ?_)
  clear HK K
  simp only [List.setIfInBounds_toArray, List.set_cons_zero, List.set_cons_succ]
  repeat ((first | (refine tkF ?_ rfl (by kernel_rfl) (by rfl) (fun _ _ _ h => h) ?_ hHeld ?_; rotate_left; · (intro w hSw; (try dsimp only at hSw); go_simp <;> with_reducible rfl)) | refine skF rfl (by kernel_rfl) (by rfl) (fun _ _ _ h => h) hHeld ?_); simp only [Act.put, setF, List.setIfInBounds_toArray, List.set_cons_zero, List.set_cons_succ])
  refine runI 9 rfl (by kernel_rfl) (by kernel_rfl) (fun K hK => ?_)
  have HK := hide hK
  clear hK hHeld
  go_simp
  refine (txn1_any (xq := xq) (yq := yq) (xa := xa) (ya := ya) (xb := xb) (yb := yb) (xm := xm) (ym := ym) (xp := xp) (yp := yp) (xu := xu) (yu := yu) (xc := xc) (yc := yc) (xh := xh) (yh := yh) (t := t)).mono ?_
  rintro e w3 ⟨rfl, b3⟩
  have b23 := below_next b2 b3
  refine (unhide HK).out _ _ (cells16 (block_kept b23 (unhide KK))) (fun hHeld => ?_)
  clear HK K
  simp only [List.setIfInBounds_toArray, List.set_cons_zero, List.set_cons_succ]
  refine runI 10 rfl (by kernel_rfl) (by kernel_rfl) (fun K hK => ?_)
  have HK := hide hK
  clear hK hHeld
  go_simp
  refine (unhide CN _ ((unhide H).below b23)).mono ?_
  rintro e w4 ⟨rfl, b4⟩
  have b24 := below_next b23 b4
  refine (unhide HK).out _ _ (cells16 (block_kept b24 (unhide KK))) (fun hHeld => ?_)
  clear HK K
  simp only [List.setIfInBounds_toArray, List.set_cons_zero, List.set_cons_succ]
  repeat ((first | (refine tkF ?_ rfl (by kernel_rfl) (by rfl) (fun _ _ _ h => h) ?_ hHeld ?_; rotate_left; · (intro w hSw; (try dsimp only at hSw); go_simp <;> with_reducible rfl)) | refine skF rfl (by kernel_rfl) (by rfl) (fun _ _ _ h => h) hHeld ?_); simp only [Act.put, setF, List.setIfInBounds_toArray, List.set_cons_zero, List.set_cons_succ])
  refine wpAnyH_done (by kernel_rfl) ?_ _
  clear hHeld
  go_wp2_with fail
  go_ret
  exact ⟨rfl, below_next b0 b24⟩
end Go.Proofs.YtfbfakdkemlbmaaGreat

namespace Go.Proofs.YtfbfakdkemlbmaaGreat
open Go.RowKit
set_option linter.unusedVariables false

set_option maxHeartbeats 2000000 in
set_option maxRecDepth 100000 in
theorem implTxnOk2 {vq va vb vm vp vu vc vh : Value} {t : Tx} {w : World} (h : HasTx w vq va vb vm vp vu vc vh t) (hct : t.msg.count ≤ 1048576) :
  Calls Tryz.prog 19 #[.agg #[.int .i64 2, .int .i64 t.msg.id, .bool t.msg.reply, .int .i64 t.msg.op, .bool t.msg.auth, .int .i64 t.msg.code, vq, va, vb, vm, vp, vu, .int .i64 t.ip, vc, vh, .int .i64 t.when]] w fun e w' => e = .returned (.bool ((ipB t.ip && clientB t.client) && (decide (t.host.length = 0) && (decide (t.when = 0) && emptyM t.msg)))) ∧ Below w.heap.size w w' := by
 obtain ⟨xq, yq, rfl, _, zq⟩ := h.msg.qs.form
 obtain ⟨xa, ya, rfl, _, za⟩ := h.msg.ans.form
 obtain ⟨xb, yb, rfl, _, zb⟩ := h.msg.aus.form
 obtain ⟨xm, ym, rfl, _, zm⟩ := h.msg.more.form
 obtain ⟨xp, yp, rfl, _, zp⟩ := h.msg.pres.form
 obtain ⟨xu, yu, rfl, _, zu⟩ := h.msg.ups.form
 have hcb := h.client.bound
 have hhb := h.host.bound
 obtain ⟨xc, yc, rfl, _⟩ := h.client.form
 obtain ⟨xh, yh, rfl, _⟩ := h.host.form
 have b0 := below_alloc (w := w) (.cells #[.int .i64 2, .int .i64 t.msg.id, .bool t.msg.reply, .int .i64 t.msg.op, .bool t.msg.auth, .int .i64 t.msg.code, .slice xq t.msg.qs.length yq, .slice xa t.msg.ans.length ya, .slice xb t.msg.aus.length yb, .slice xm t.msg.more.length ym, .slice xp t.msg.pres.length yp, .slice xu t.msg.ups.length yu, .int .i64 t.ip, .slice xc t.client.length yc, .slice xh t.host.length yh, .int .i64 t.when] 39)
 have KK := hide (heap_alloc_new w (.cells #[.int .i64 2, .int .i64 t.msg.id, .bool t.msg.reply, .int .i64 t.msg.op, .bool t.msg.auth, .int .i64 t.msg.code, .slice xq t.msg.qs.length yq, .slice xa t.msg.ans.length ya, .slice xb t.msg.aus.length yb, .slice xm t.msg.more.length ym, .slice xp t.msg.pres.length yp, .slice xu t.msg.ups.length yu, .int .i64 t.ip, .slice xc t.client.length yc, .slice xh t.host.length yh, .int .i64 t.when] 39))
 have H := hide (h.below b0)
 have CM := fun (w : World) (h : HasTx w (.slice xq t.msg.qs.length yq) (.slice xa t.msg.ans.length ya) (.slice xb t.msg.aus.length yb) (.slice xm t.msg.more.length ym) (.slice xp t.msg.pres.length yp) (.slice xu t.msg.ups.length yu) (.slice xc t.client.length yc) (.slice xh t.host.length yh) t) => may2_has h
 have CN := fun (w : World) (h : HasTx w (.slice xq t.msg.qs.length yq) (.slice xa t.msg.ans.length ya) (.slice xb t.msg.aus.length yb) (.slice xm t.msg.more.length ym) (.slice xp t.msg.pres.length yp) (.slice xu t.msg.ups.length yu) (.slice xc t.client.length yc) (.slice xh t.host.length yh) t) => beside2_has h hct rfl rfl rfl rfl rfl rfl rfl rfl
 generalize (ipB t.ip && clientB t.client) = GM at *
 generalize (decide (t.host.length = 0) && (decide (t.when = 0) && emptyM t.msg)) = GN at *
 replace CM := hide CM
 replace CN := hide CN
 clear h hct
 obtain ⟨d0, d1, d2, d3, d4, d5, d6, d7, d8, d9, d10, d11, d12, d13, d14, d15⟩ := cells16 (unhide KK)
 go_enter Tryz.func19, Tryz.ntmps19
 go_wp2_with fail
 clear d0 d1 d2 d3 d4 d5 d6 d7 d8 d9 d10 d11 d12 d13 d14 d15
 refine (deedOf2_any (xq := xq) (yq := yq) (xa := xa) (ya := ya) (xb := xb) (yb := yb) (xm := xm) (ym := ym) (xp := xp) (yp := yp) (xu := xu) (yu := yu) (xc := xc) (yc := yc) (xh := xh) (yh := yh) (t := t)).mono ?_
 rintro e w1 ⟨rfl, b1⟩
 have bd := below_next b1 (below_drew (w := w1))
 replace b0 := below_next b0 bd
 replace H := hide ((unhide H).below bd)
 replace KK := hide (block_kept bd (unhide KK))
 clear b1 bd
 go_wp2_with fail
 refine startF 13 (S := (fun w' => w'.cell? ⟨w.heap.size, 0, none⟩ = some (.int .i64 2) ∧ w'.cell? ⟨w.heap.size, 1, none⟩ = some (.int .i64 t.msg.id) ∧ w'.cell? ⟨w.heap.size, 2, none⟩ = some (.bool t.msg.reply) ∧ w'.cell? ⟨w.heap.size, 3, none⟩ = some (.int .i64 t.msg.op) ∧ w'.cell? ⟨w.heap.size, 4, none⟩ = some (.bool t.msg.auth) ∧ w'.cell? ⟨w.heap.size, 5, none⟩ = some (.int .i64 t.msg.code) ∧ w'.cell? ⟨w.heap.size, 6, none⟩ = some (.slice xq t.msg.qs.length yq) ∧ w'.cell? ⟨w.heap.size, 7, none⟩ = some (.slice xa t.msg.ans.length ya) ∧ w'.cell? ⟨w.heap.size, 8, none⟩ = some (.slice xb t.msg.aus.length yb) ∧ w'.cell? ⟨w.heap.size, 9, none⟩ = some (.slice xm t.msg.more.length ym) ∧ w'.cell? ⟨w.heap.size, 10, none⟩ = some (.slice xp t.msg.pres.length yp) ∧ w'.cell? ⟨w.heap.size, 11, none⟩ = some (.slice xu t.msg.ups.length yu) ∧ w'.cell? ⟨w.heap.size, 12, none⟩ = some (.int .i64 t.ip) ∧ w'.cell? ⟨w.heap.size, 13, none⟩ = some (.slice xc t.client.length yc) ∧ w'.cell? ⟨w.heap.size, 14, none⟩ = some (.slice xh t.host.length yh) ∧ w'.cell? ⟨w.heap.size, 15, none⟩ = some (.int .i64 t.when))) (by kernel_rfl) rfl (cells16 (unhide KK)) (fun hHeld => ?_)
 simp only [List.replicate]
 repeat ((first | (refine tkF ?_ rfl (by kernel_rfl) (by rfl) (fun _ _ _ h => h) ?_ hHeld ?_; rotate_left; · (intro w hSw; (try dsimp only at hSw); go_simp <;> with_reducible rfl)) | refine skF rfl (by kernel_rfl) (by rfl) (fun _ _ _ h => h) hHeld ?_); simp only [Act.put, setF, List.setIfInBounds_toArray, List.set_cons_zero, List.set_cons_succ])
 refine runI 4 rfl (by kernel_rfl) (by kernel_rfl) (fun K hK => ?_)
 have HK := hide hK
 clear hK hHeld
 go_simp
 refine (unhide CM _ (unhide H)).mono ?_
 rintro e w2 ⟨rfl, b2⟩
 cases GM with
 | false =>
  refine (unhide HK).out _ _ (cells16 (block_kept b2 (unhide KK))) (fun hHeld => ?_)
  clear HK K
  simp only [List.setIfInBounds_toArray, List.set_cons_zero, List.set_cons_succ]
  repeat ((first | (refine tkF ?_ rfl (by kernel_rfl) (by rfl) (fun _ _ _ h => h) ?_ hHeld ?_; rotate_left; · (intro w hSw; (try dsimp only at hSw); go_simp <;> with_reducible rfl)) | refine skF rfl (by kernel_rfl) (by rfl) (fun _ _ _ h => h) hHeld ?_); simp only [Act.put, setF, List.setIfInBounds_toArray, List.set_cons_zero, List.set_cons_succ])
  refine wpAnyH_done (by kernel_rfl) ?_ _
  clear hHeld
  go_wp2_with fail
  go_ret
  exact ⟨rfl, below_next b0 b2⟩
 | true =>
  refine (unhide HK).out _ _ (cells16 (block_kept b2 (unhide KK))) (fun hHeld => ?_)
  clear HK K
  simp only [List.setIfInBounds_toArray, List.set_cons_zero, List.set_cons_succ]
  repeat ((first | (refine tkF ?_ rfl (by kernel_rfl) (by rfl) (fun _ _ _ h => h) ?_ hHeld ?_; rotate_left; · (intro w hSw; (try dsimp only at hSw); go_simp <;> with_reducible rfl)) | refine skF rfl (by kernel_rfl) (by rfl) (fun _ _ _ h => h) hHeld ?_); simp only [Act.put, setF, List.setIfInBounds_toArray, List.set_cons_zero, List.set_cons_succ])
  refine runI 9 rfl (by kernel_rfl) (by kernel_rfl) (fun K hK => ?_)
  have HK := hide hK
  clear hK hHeld
  go_simp
  refine (txn2_any (xq := xq) (yq := yq) (xa := xa) (ya := ya) (xb := xb) (yb := yb) (xm := xm) (ym := ym) (xp := xp) (yp := yp) (xu := xu) (yu := yu) (xc := xc) (yc := yc) (xh := xh) (yh := yh) (t := t)).mono ?_
  rintro e w3 ⟨rfl, b3⟩
  have b23 := below_next b2 b3
  refine (unhide HK).out _ _ (cells16 (block_kept b23 (unhide KK))) (fun hHeld => ?_)
  clear HK K
  simp only [List.setIfInBounds_toArray, List.set_cons_zero, List.set_cons_succ]
  refine runI 10 rfl (by kernel_rfl) (by kernel_rfl) (fun K hK => ?_)
  have HK := hide hK
  clear hK hHeld
  go_simp
  refine (unhide CN _ ((unhide H).below b23)).mono ?_
  rintro e w4 ⟨rfl, b4⟩
  have b24 := below_next b23 b4
  refine (unhide HK).out _ _ (cells16 (block_kept b24 (unhide KK))) (fun hHeld => ?_)
  clear HK K
  simp only [List.setIfInBounds_toArray, List.set_cons_zero, List.set_cons_succ]
  repeat ((first | (refine tkF ?_ rfl (by kernel_rfl) (by rfl) (fun _ _ _ h => h) ?_ hHeld ?_; rotate_left; · (intro w hSw; (try dsimp only at hSw); go_simp <;> with_reducible rfl)) | refine skF rfl (by kernel_rfl) (by rfl) (fun _ _ _ h => h) hHeld ?_); simp only [Act.put, setF, List.setIfInBounds_toArray, List.set_cons_zero, List.set_cons_succ])
  refine wpAnyH_done (by kernel_rfl) ?_ _
  clear hHeld
  go_wp2_with fail
  go_ret
  exact ⟨rfl, below_next b0 b24⟩
end Go.Proofs.YtfbfakdkemlbmaaGreat

namespace Go.Proofs.YtfbfakdkemlbmaaGreat
open Go.RowKit
set_option linter.unusedVariables false

set_option maxHeartbeats 2000000 in
set_option maxRecDepth 100000 in
theorem implTxnOk3 {vq va vb vm vp vu vc vh : Value} {t : Tx} {w : World} (h : HasTx w vq va vb vm vp vu vc vh t) (hct : t.msg.count ≤ 1048576) :
  Calls Tryz.prog 19 #[.agg #[.int .i64 3, .int .i64 t.msg.id, .bool t.msg.reply, .int .i64 t.msg.op, .bool t.msg.auth, .int .i64 t.msg.code, vq, va, vb, vm, vp, vu, .int .i64 t.ip, vc, vh, .int .i64 t.when]] w fun e w' => e = .returned (.bool ((decide (0 ≤ t.when ∧ t.when ≤ 1000000)) && (decide (t.client.length = 0) && (decide (t.host.length = 0) && (decide (t.ip = 0) && emptyM t.msg))))) ∧ Below w.heap.size w w' := by
 obtain ⟨xq, yq, rfl, _, zq⟩ := h.msg.qs.form
 obtain ⟨xa, ya, rfl, _, za⟩ := h.msg.ans.form
 obtain ⟨xb, yb, rfl, _, zb⟩ := h.msg.aus.form
 obtain ⟨xm, ym, rfl, _, zm⟩ := h.msg.more.form
 obtain ⟨xp, yp, rfl, _, zp⟩ := h.msg.pres.form
 obtain ⟨xu, yu, rfl, _, zu⟩ := h.msg.ups.form
 have hcb := h.client.bound
 have hhb := h.host.bound
 obtain ⟨xc, yc, rfl, _⟩ := h.client.form
 obtain ⟨xh, yh, rfl, _⟩ := h.host.form
 have b0 := below_alloc (w := w) (.cells #[.int .i64 3, .int .i64 t.msg.id, .bool t.msg.reply, .int .i64 t.msg.op, .bool t.msg.auth, .int .i64 t.msg.code, .slice xq t.msg.qs.length yq, .slice xa t.msg.ans.length ya, .slice xb t.msg.aus.length yb, .slice xm t.msg.more.length ym, .slice xp t.msg.pres.length yp, .slice xu t.msg.ups.length yu, .int .i64 t.ip, .slice xc t.client.length yc, .slice xh t.host.length yh, .int .i64 t.when] 39)
 have KK := hide (heap_alloc_new w (.cells #[.int .i64 3, .int .i64 t.msg.id, .bool t.msg.reply, .int .i64 t.msg.op, .bool t.msg.auth, .int .i64 t.msg.code, .slice xq t.msg.qs.length yq, .slice xa t.msg.ans.length ya, .slice xb t.msg.aus.length yb, .slice xm t.msg.more.length ym, .slice xp t.msg.pres.length yp, .slice xu t.msg.ups.length yu, .int .i64 t.ip, .slice xc t.client.length yc, .slice xh t.host.length yh, .int .i64 t.when] 39))
 have H := hide (h.below b0)
 have CM := fun (w : World) (h : HasTx w (.slice xq t.msg.qs.length yq) (.slice xa t.msg.ans.length ya) (.slice xb t.msg.aus.length yb) (.slice xm t.msg.more.length ym) (.slice xp t.msg.pres.length yp) (.slice xu t.msg.ups.length yu) (.slice xc t.client.length yc) (.slice xh t.host.length yh) t) => may3_has h
 have CN := fun (w : World) (h : HasTx w (.slice xq t.msg.qs.length yq) (.slice xa t.msg.ans.length ya) (.slice xb t.msg.aus.length yb) (.slice xm t.msg.more.length ym) (.slice xp t.msg.pres.length yp) (.slice xu t.msg.ups.length yu) (.slice xc t.client.length yc) (.slice xh t.host.length yh) t) => beside3_has h hct rfl rfl rfl rfl rfl rfl rfl rfl
 generalize (decide (0 ≤ t.when ∧ t.when ≤ 1000000)) = GM at *
 generalize (decide (t.client.length = 0) && (decide (t.host.length = 0) && (decide (t.ip = 0) && emptyM t.msg))) = GN at *
 replace CM := hide CM
 replace CN := hide CN
 clear h hct
 obtain ⟨d0, d1, d2, d3, d4, d5, d6, d7, d8, d9, d10, d11, d12, d13, d14, d15⟩ := cells16 (unhide KK)
 go_enter Tryz.func19, Tryz.ntmps19
 go_wp2_with fail
 clear d0 d1 d2 d3 d4 d5 d6 d7 d8 d9 d10 d11 d12 d13 d14 d15
 refine (deedOf3_any (xq := xq) (yq := yq) (xa := xa) (ya := ya) (xb := xb) (yb := yb) (xm := xm) (ym := ym) (xp := xp) (yp := yp) (xu := xu) (yu := yu) (xc := xc) (yc := yc) (xh := xh) (yh := yh) (t := t)).mono ?_
 rintro e w1 ⟨rfl, b1⟩
 have bd := below_next b1 (below_drew (w := w1))
 replace b0 := below_next b0 bd
 replace H := hide ((unhide H).below bd)
 replace KK := hide (block_kept bd (unhide KK))
 clear b1 bd
 go_wp2_with fail
 refine startF 13 (S := (fun w' => w'.cell? ⟨w.heap.size, 0, none⟩ = some (.int .i64 3) ∧ w'.cell? ⟨w.heap.size, 1, none⟩ = some (.int .i64 t.msg.id) ∧ w'.cell? ⟨w.heap.size, 2, none⟩ = some (.bool t.msg.reply) ∧ w'.cell? ⟨w.heap.size, 3, none⟩ = some (.int .i64 t.msg.op) ∧ w'.cell? ⟨w.heap.size, 4, none⟩ = some (.bool t.msg.auth) ∧ w'.cell? ⟨w.heap.size, 5, none⟩ = some (.int .i64 t.msg.code) ∧ w'.cell? ⟨w.heap.size, 6, none⟩ = some (.slice xq t.msg.qs.length yq) ∧ w'.cell? ⟨w.heap.size, 7, none⟩ = some (.slice xa t.msg.ans.length ya) ∧ w'.cell? ⟨w.heap.size, 8, none⟩ = some (.slice xb t.msg.aus.length yb) ∧ w'.cell? ⟨w.heap.size, 9, none⟩ = some (.slice xm t.msg.more.length ym) ∧ w'.cell? ⟨w.heap.size, 10, none⟩ = some (.slice xp t.msg.pres.length yp) ∧ w'.cell? ⟨w.heap.size, 11, none⟩ = some (.slice xu t.msg.ups.length yu) ∧ w'.cell? ⟨w.heap.size, 12, none⟩ = some (.int .i64 t.ip) ∧ w'.cell? ⟨w.heap.size, 13, none⟩ = some (.slice xc t.client.length yc) ∧ w'.cell? ⟨w.heap.size, 14, none⟩ = some (.slice xh t.host.length yh) ∧ w'.cell? ⟨w.heap.size, 15, none⟩ = some (.int .i64 t.when))) (by kernel_rfl) rfl (cells16 (unhide KK)) (fun hHeld => ?_)
 simp only [List.replicate]
 repeat ((first | (refine tkF ?_ rfl (by kernel_rfl) (by rfl) (fun _ _ _ h => h) ?_ hHeld ?_; rotate_left; · (intro w hSw; (try dsimp only at hSw); go_simp <;> with_reducible rfl)) | refine skF rfl (by kernel_rfl) (by rfl) (fun _ _ _ h => h) hHeld ?_); simp only [Act.put, setF, List.setIfInBounds_toArray, List.set_cons_zero, List.set_cons_succ])
 refine runI 4 rfl (by kernel_rfl) (by kernel_rfl) (fun K hK => ?_)
 have HK := hide hK
 clear hK hHeld
 go_simp
 refine (unhide CM _ (unhide H)).mono ?_
 rintro e w2 ⟨rfl, b2⟩
 cases GM with
 | false =>
  refine (unhide HK).out _ _ (cells16 (block_kept b2 (unhide KK))) (fun hHeld => ?_)
  clear HK K
  simp only [List.setIfInBounds_toArray, List.set_cons_zero, List.set_cons_succ]
  repeat ((first | (refine tkF ?_ rfl (by kernel_rfl) (by rfl) (fun _ _ _ h => h) ?_ hHeld ?_; rotate_left; · (intro w hSw; (try dsimp only at hSw); go_simp <;> with_reducible rfl)) | refine skF rfl (by kernel_rfl) (by rfl) (fun _ _ _ h => h) hHeld ?_); simp only [Act.put, setF, List.setIfInBounds_toArray, List.set_cons_zero, List.set_cons_succ])
  refine wpAnyH_done (by kernel_rfl) ?_ _
  clear hHeld
  go_wp2_with fail
  go_ret
  exact ⟨rfl, below_next b0 b2⟩
 | true =>
  refine (unhide HK).out _ _ (cells16 (block_kept b2 (unhide KK))) (fun hHeld => ?_)
  clear HK K
  simp only [List.setIfInBounds_toArray, List.set_cons_zero, List.set_cons_succ]
  repeat ((first | (refine tkF ?_ rfl (by kernel_rfl) (by rfl) (fun _ _ _ h => h) ?_ hHeld ?_; rotate_left; · (intro w hSw; (try dsimp only at hSw); go_simp <;> with_reducible rfl)) | refine skF rfl (by kernel_rfl) (by rfl) (fun _ _ _ h => h) hHeld ?_); simp only [Act.put, setF, List.setIfInBounds_toArray, List.set_cons_zero, List.set_cons_succ])
  refine runI 9 rfl (by kernel_rfl) (by kernel_rfl) (fun K hK => ?_)
  have HK := hide hK
  clear hK hHeld
  go_simp
  refine (txn3_any (xq := xq) (yq := yq) (xa := xa) (ya := ya) (xb := xb) (yb := yb) (xm := xm) (ym := ym) (xp := xp) (yp := yp) (xu := xu) (yu := yu) (xc := xc) (yc := yc) (xh := xh) (yh := yh) (t := t)).mono ?_
  rintro e w3 ⟨rfl, b3⟩
  have b23 := below_next b2 b3
  refine (unhide HK).out _ _ (cells16 (block_kept b23 (unhide KK))) (fun hHeld => ?_)
  clear HK K
  simp only [List.setIfInBounds_toArray, List.set_cons_zero, List.set_cons_succ]
  refine runI 10 rfl (by kernel_rfl) (by kernel_rfl) (fun K hK => ?_)
  have HK := hide hK
  clear hK hHeld
  go_simp
  refine (unhide CN _ ((unhide H).below b23)).mono ?_
  rintro e w4 ⟨rfl, b4⟩
  have b24 := below_next b23 b4
  refine (unhide HK).out _ _ (cells16 (block_kept b24 (unhide KK))) (fun hHeld => ?_)
  clear HK K
  simp only [List.setIfInBounds_toArray, List.set_cons_zero, List.set_cons_succ]
  repeat ((first | (refine tkF ?_ rfl (by kernel_rfl) (by rfl) (fun _ _ _ h => h) ?_ hHeld ?_; rotate_left; · (intro w hSw; (try dsimp only at hSw); go_simp <;> with_reducible rfl)) | refine skF rfl (by kernel_rfl) (by rfl) (fun _ _ _ h => h) hHeld ?_); simp only [Act.put, setF, List.setIfInBounds_toArray, List.set_cons_zero, List.set_cons_succ])
  refine wpAnyH_done (by kernel_rfl) ?_ _
  clear hHeld
  go_wp2_with fail
  go_ret
  exact ⟨rfl, below_next b0 b24⟩
end Go.Proofs.YtfbfakdkemlbmaaGreat
