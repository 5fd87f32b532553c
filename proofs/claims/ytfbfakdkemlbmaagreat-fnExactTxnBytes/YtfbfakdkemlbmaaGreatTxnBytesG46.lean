/-
  Contract of the specification's l9bytes at kind 3. Contract of the specification's TxnBytes.
-/
import Derived.Test.YtfbfakdkemlbmaaGreatTxnBytesG45
import Derived.Test.YtfbfakdkemlbmaaGreatTxnBytesG28
import Derived.Test.YtfbfakdkemlbmaaGreatTxnBytesG16
import Derived.Test.YtfbfakdkemlbmaaGreatTxnBytesG35
import Derived.Test.YtfbfakdkemlbmaaGreatTxnBytesG29
import Derived.Test.YtfbfakdkemlbmaaGreatTxnBytesG01
namespace Go.Proofs.YtfbfakdkemlbmaaGreat
open Go.RowKit
set_option linter.unusedVariables false

set_option maxHeartbeats 2000000 in
set_option maxRecDepth 100000 in
theorem l9bytes3_has {vq va vb vm vp vu vc vh : Value} {t : Tx} {w : World} (h : HasTx w vq va vb vm vp vu vc vh t)  :
  Calls Tryz.prog 16 #[.agg #[.int .i64 3, .int .i64 t.msg.id, .bool t.msg.reply, .int .i64 t.msg.op, .bool t.msg.auth, .int .i64 t.msg.code, vq, va, vb, vm, vp, vu, .int .i64 t.ip, vc, vh, .int .i64 t.when]] w fun e w' => ∃ v', e = .returned v' ∧ Own w.heap.size 5 w' v' (3 :: (put32 [] t.when)) ∧ Below w.heap.size w w' := by
 obtain ⟨xq, yq, rfl, _, zq⟩ := h.msg.qs.form
 obtain ⟨xa, ya, rfl, _, za⟩ := h.msg.ans.form
 obtain ⟨xb, yb, rfl, _, zb⟩ := h.msg.aus.form
 obtain ⟨xm, ym, rfl, _, zm⟩ := h.msg.more.form
 obtain ⟨xp, yp, rfl, _, zp⟩ := h.msg.pres.form
 obtain ⟨xu, yu, rfl, _, zu⟩ := h.msg.ups.form
 have hcb := h.client.bound
 have hhb := h.host.bound
 obtain ⟨xc, yc, rfl, _⟩ := h.client.form
 obtain ⟨xh, yh, rfl, _⟩ := h.host.form
 have b0 := below_alloc (w := w) (.cells #[.int .i64 3, .int .i64 t.msg.id, .bool t.msg.reply, .int .i64 t.msg.op, .bool t.msg.auth, .int .i64 t.msg.code, .slice xq t.msg.qs.length yq, .slice xa t.msg.ans.length ya, .slice xb t.msg.aus.length yb, .slice xm t.msg.more.length ym, .slice xp t.msg.pres.length yp, .slice xu t.msg.ups.length yu, .int .i64 t.ip, .slice xc t.client.length yc, .slice xh t.host.length yh, .int .i64 t.when] 39)
 have KB := hide (heap_alloc_new w (.cells #[.int .i64 3, .int .i64 t.msg.id, .bool t.msg.reply, .int .i64 t.msg.op, .bool t.msg.auth, .int .i64 t.msg.code, .slice xq t.msg.qs.length yq, .slice xa t.msg.ans.length ya, .slice xb t.msg.aus.length yb, .slice xm t.msg.more.length ym, .slice xp t.msg.pres.length yp, .slice xu t.msg.ups.length yu, .int .i64 t.ip, .slice xc t.client.length yc, .slice xh t.host.length yh, .int .i64 t.when] 39))
 have H := hide (h.below b0)
 have zb := b0.size
 have P1 := fun (w : World) (B : Nat) (v : Value) (ho : Own B 5 w v [3]) => specPut32_any t.when ho (by simp)
 have e1 := put32_length [] t.when
 simp only [List.length_nil] at e1
 rw [put32_cons] at P1
 generalize put32 [] t.when = L1 at *
 replace P1 := hide P1
 clear h e1
 obtain ⟨d0, d1, d2, d3, d4, d5, d6, d7, d8, d9, d10, d11, d12, d13, d14, d15⟩ := cells16 (unhide KB)
 go_enter Tryz.func16, Tryz.ntmps16
 go_wp2_with fail
 clear d0 d1 d2 d3 d4 d5 d6 d7 d8 d9 d10 d11 d12 d13 d14 d15
 have bl := below_alloc (w := w.alloc (.cells #[.int .i64 3, .int .i64 t.msg.id, .bool t.msg.reply, .int .i64 t.msg.op, .bool t.msg.auth, .int .i64 t.msg.code, .slice xq t.msg.qs.length yq, .slice xa t.msg.ans.length ya, .slice xb t.msg.aus.length yb, .slice xm t.msg.more.length ym, .slice xp t.msg.pres.length yp, .slice xu t.msg.ups.length yu, .int .i64 t.ip, .slice xc t.client.length yc, .slice xh t.host.length yh, .int .i64 t.when] 39)) (.cells #[.int .u8 3] 5)
 have OL := hide (own_lit (w.alloc (.cells #[.int .i64 3, .int .i64 t.msg.id, .bool t.msg.reply, .int .i64 t.msg.op, .bool t.msg.auth, .int .i64 t.msg.code, .slice xq t.msg.qs.length yq, .slice xa t.msg.ans.length ya, .slice xb t.msg.aus.length yb, .slice xm t.msg.more.length ym, .slice xp t.msg.pres.length yp, .slice xu t.msg.ups.length yu, .int .i64 t.ip, .slice xc t.client.length yc, .slice xh t.host.length yh, .int .i64 t.when] 39)) w.heap.size 5 [3] zb (by simp [maxLen]))
 have KB1 := hide (block_kept bl (unhide KB))
 have H1 := hide ((unhide H).below bl)
 have bb := below_next b0 bl
 have z1 := bl.size
 simp only [List.map_cons, List.map_nil, World.size_alloc] at OL
 generalize hW1 : (w.alloc (.cells #[.int .i64 3, .int .i64 t.msg.id, .bool t.msg.reply, .int .i64 t.msg.op, .bool t.msg.auth, .int .i64 t.msg.code, .slice xq t.msg.qs.length yq, .slice xa t.msg.ans.length ya, .slice xb t.msg.aus.length yb, .slice xm t.msg.more.length ym, .slice xp t.msg.pres.length yp, .slice xu t.msg.ups.length yu, .int .i64 t.ip, .slice xc t.client.length yc, .slice xh t.host.length yh, .int .i64 t.when] 39)).alloc (.cells #[.int .u8 3] 5) = W1 at *
 clear hW1 bl
 refine (unhide P1 _ _ _ (unhide OL)).mono ?_
 rintro e w2 ⟨v2, rfl, o2, b2⟩
 have bb2 := below_next bb b2
 have z2 := b2.size
 go_wp2_with fail
 go_ret
 exact ⟨_, rfl, o2.mono (by omega), bb2⟩
end Go.Proofs.YtfbfakdkemlbmaaGreat

namespace Go.Proofs.YtfbfakdkemlbmaaGreat
open Go.RowKit
set_option linter.unusedVariables false

set_option maxHeartbeats 1000000 in
set_option maxRecDepth 100000 in
theorem specTxnBytes_no {vq va vb vm vp vu vc vh : Value} {t : Tx} {w : World} (h : HasTx w vq va vb vm vp vu vc vh t) (hct : t.msg.count ≤ 1048576) (hok : txOk t = false) :
  Calls Tryz.prog 5 #[.agg #[.int .i64 t.kind, .int .i64 t.msg.id, .bool t.msg.reply, .int .i64 t.msg.op, .bool t.msg.auth, .int .i64 t.msg.code, vq, va, vb, vm, vp, vu, .int .i64 t.ip, vc, vh, .int .i64 t.when]] w fun e w' => ∃ v', e = .returned (.tuple #[v', .bool (txPut t).2]) ∧ Own w.heap.size 5 w' v' (txPut t).1 ∧ Below w.heap.size w w' := by
 obtain ⟨xq, yq, rfl, _, zq⟩ := h.msg.qs.form
 obtain ⟨xa, ya, rfl, _, za⟩ := h.msg.ans.form
 obtain ⟨xb, yb, rfl, _, zb⟩ := h.msg.aus.form
 obtain ⟨xm, ym, rfl, _, zm⟩ := h.msg.more.form
 obtain ⟨xp, yp, rfl, _, zp⟩ := h.msg.pres.form
 obtain ⟨xu, yu, rfl, _, zu⟩ := h.msg.ups.form
 have hcb := h.client.bound
 have hhb := h.host.bound
 obtain ⟨xc, yc, rfl, _⟩ := h.client.form
 obtain ⟨xh, yh, rfl, _⟩ := h.host.form
 have b0 := below_alloc (w := w) (.cells #[.int .i64 t.kind, .int .i64 t.msg.id, .bool t.msg.reply, .int .i64 t.msg.op, .bool t.msg.auth, .int .i64 t.msg.code, .slice xq t.msg.qs.length yq, .slice xa t.msg.ans.length ya, .slice xb t.msg.aus.length yb, .slice xm t.msg.more.length ym, .slice xp t.msg.pres.length yp, .slice xu t.msg.ups.length yu, .int .i64 t.ip, .slice xc t.client.length yc, .slice xh t.host.length yh, .int .i64 t.when] 39)
 have KK := hide (heap_alloc_new w (.cells #[.int .i64 t.kind, .int .i64 t.msg.id, .bool t.msg.reply, .int .i64 t.msg.op, .bool t.msg.auth, .int .i64 t.msg.code, .slice xq t.msg.qs.length yq, .slice xa t.msg.ans.length ya, .slice xb t.msg.aus.length yb, .slice xm t.msg.more.length ym, .slice xp t.msg.pres.length yp, .slice xu t.msg.ups.length yu, .int .i64 t.ip, .slice xc t.client.length yc, .slice xh t.host.length yh, .int .i64 t.when] 39))
 have CM := specTxnOk_has (h.below b0) hct
 rw [hok] at CM
 rw [txPut_no hok]
 replace CM := hide CM
 clear h hct hok
 obtain ⟨d0, d1, d2, d3, d4, d5, d6, d7, d8, d9, d10, d11, d12, d13, d14, d15⟩ := cells16 (unhide KK)
 go_enter Tryz.func5, Tryz.ntmps5
 go_wp2_with fail
 clear d0 d1 d2 d3 d4 d5 d6 d7 d8 d9 d10 d11 d12 d13 d14 d15
 refine (unhide CM).mono ?_
 rintro e w1 ⟨rfl, b1⟩
 have bb := below_next b0 b1
 go_wp2_with fail
 go_ret2
 exact ⟨_, rfl, World.ownsRow_nil _ _ _ _, bb⟩

set_option maxHeartbeats 1000000 in
set_option maxRecDepth 100000 in
theorem specTxnBytes0 {vq va vb vm vp vu vc vh : Value} {t : Tx} {w : World} (h : HasTx w vq va vb vm vp vu vc vh t) (hct : t.msg.count ≤ 1048576) (hok : txOk t = true) (hk : t.kind = 0) :
  Calls Tryz.prog 5 #[.agg #[.int .i64 0, .int .i64 t.msg.id, .bool t.msg.reply, .int .i64 t.msg.op, .bool t.msg.auth, .int .i64 t.msg.code, vq, va, vb, vm, vp, vu, .int .i64 t.ip, vc, vh, .int .i64 t.when]] w fun e w' => ∃ v', e = .returned (.tuple #[v', .bool true]) ∧ Own w.heap.size 5 w' v' (0 :: txBody t) ∧ Below w.heap.size w w' := by
 rw [txBody0 hk]
 obtain ⟨xq, yq, rfl, _, zq⟩ := h.msg.qs.form
 obtain ⟨xa, ya, rfl, _, za⟩ := h.msg.ans.form
 obtain ⟨xb, yb, rfl, _, zb⟩ := h.msg.aus.form
 obtain ⟨xm, ym, rfl, _, zm⟩ := h.msg.more.form
 obtain ⟨xp, yp, rfl, _, zp⟩ := h.msg.pres.form
 obtain ⟨xu, yu, rfl, _, zu⟩ := h.msg.ups.form
 have hcb := h.client.bound
 have hhb := h.host.bound
 obtain ⟨xc, yc, rfl, _⟩ := h.client.form
 obtain ⟨xh, yh, rfl, _⟩ := h.host.form
 have b0 := below_alloc (w := w) (.cells #[.int .i64 0, .int .i64 t.msg.id, .bool t.msg.reply, .int .i64 t.msg.op, .bool t.msg.auth, .int .i64 t.msg.code, .slice xq t.msg.qs.length yq, .slice xa t.msg.ans.length ya, .slice xb t.msg.aus.length yb, .slice xm t.msg.more.length ym, .slice xp t.msg.pres.length yp, .slice xu t.msg.ups.length yu, .int .i64 t.ip, .slice xc t.client.length yc, .slice xh t.host.length yh, .int .i64 t.when] 39)
 have KB := hide (heap_alloc_new w (.cells #[.int .i64 0, .int .i64 t.msg.id, .bool t.msg.reply, .int .i64 t.msg.op, .bool t.msg.auth, .int .i64 t.msg.code, .slice xq t.msg.qs.length yq, .slice xa t.msg.ans.length ya, .slice xb t.msg.aus.length yb, .slice xm t.msg.more.length ym, .slice xp t.msg.pres.length yp, .slice xu t.msg.ups.length yu, .int .i64 t.ip, .slice xc t.client.length yc, .slice xh t.host.length yh, .int .i64 t.when] 39))
 have CM := specTxnOk_has (h.below b0) hct
 rw [hok, hk] at CM
 have CB := fun (w : World) (h : HasTx w (.slice xq t.msg.qs.length yq) (.slice xa t.msg.ans.length ya) (.slice xb t.msg.aus.length yb) (.slice xm t.msg.more.length ym) (.slice xp t.msg.pres.length yp) (.slice xu t.msg.ups.length yu) (.slice xc t.client.length yc) (.slice xh t.host.length yh) t) => l9bytes0_has h (txOk0 hok hk)
 have H := hide (h.below b0)
 generalize 0 :: (bytesM t.msg) = BM at *
 replace CM := hide CM
 replace CB := hide CB
 have zb := b0.size
 clear h hct hok hk
 obtain ⟨d0, d1, d2, d3, d4, d5, d6, d7, d8, d9, d10, d11, d12, d13, d14, d15⟩ := cells16 (unhide KB)
 go_enter Tryz.func5, Tryz.ntmps5
 go_wp2_with fail
 clear d0 d1 d2 d3 d4 d5 d6 d7 d8 d9 d10 d11 d12 d13 d14 d15
 refine (unhide CM).mono ?_
 rintro e w1 ⟨rfl, b1⟩
 have bb := below_next b0 b1
 have z1 := b1.size
 replace H := hide ((unhide H).below b1)
 obtain ⟨d0, d1, d2, d3, d4, d5, d6, d7, d8, d9, d10, d11, d12, d13, d14, d15⟩ := cells16 (block_kept b1 (unhide KB))
 clear b1
 go_wp2_with fail
 clear d0 d1 d2 d3 d4 d5 d6 d7 d8 d9 d10 d11 d12 d13 d14 d15
 refine (unhide CB _ (unhide H)).mono ?_
 rintro e w2 ⟨v2, rfl, o2, b2⟩
 have bb2 := below_next bb b2
 go_wp2_with fail
 go_ret2
 exact ⟨_, rfl, o2.mono (by omega), bb2⟩

set_option maxHeartbeats 1000000 in
set_option maxRecDepth 100000 in
theorem specTxnBytes1 {vq va vb vm vp vu vc vh : Value} {t : Tx} {w : World} (h : HasTx w vq va vb vm vp vu vc vh t) (hct : t.msg.count ≤ 1048576) (hok : txOk t = true) (hk : t.kind = 1) :
  Calls Tryz.prog 5 #[.agg #[.int .i64 1, .int .i64 t.msg.id, .bool t.msg.reply, .int .i64 t.msg.op, .bool t.msg.auth, .int .i64 t.msg.code, vq, va, vb, vm, vp, vu, .int .i64 t.ip, vc, vh, .int .i64 t.when]] w fun e w' => ∃ v', e = .returned (.tuple #[v', .bool true]) ∧ Own w.heap.size 5 w' v' (1 :: txBody t) ∧ Below w.heap.size w w' := by
 rw [txBody1 hk]
 obtain ⟨xq, yq, rfl, _, zq⟩ := h.msg.qs.form
 obtain ⟨xa, ya, rfl, _, za⟩ := h.msg.ans.form
 obtain ⟨xb, yb, rfl, _, zb⟩ := h.msg.aus.form
 obtain ⟨xm, ym, rfl, _, zm⟩ := h.msg.more.form
 obtain ⟨xp, yp, rfl, _, zp⟩ := h.msg.pres.form
 obtain ⟨xu, yu, rfl, _, zu⟩ := h.msg.ups.form
 have hcb := h.client.bound
 have hhb := h.host.bound
 obtain ⟨xc, yc, rfl, _⟩ := h.client.form
 obtain ⟨xh, yh, rfl, _⟩ := h.host.form
 have b0 := below_alloc (w := w) (.cells #[.int .i64 1, .int .i64 t.msg.id, .bool t.msg.reply, .int .i64 t.msg.op, .bool t.msg.auth, .int .i64 t.msg.code, .slice xq t.msg.qs.length yq, .slice xa t.msg.ans.length ya, .slice xb t.msg.aus.length yb, .slice xm t.msg.more.length ym, .slice xp t.msg.pres.length yp, .slice xu t.msg.ups.length yu, .int .i64 t.ip, .slice xc t.client.length yc, .slice xh t.host.length yh, .int .i64 t.when] 39)
 have KB := hide (heap_alloc_new w (.cells #[.int .i64 1, .int .i64 t.msg.id, .bool t.msg.reply, .int .i64 t.msg.op, .bool t.msg.auth, .int .i64 t.msg.code, .slice xq t.msg.qs.length yq, .slice xa t.msg.ans.length ya, .slice xb t.msg.aus.length yb, .slice xm t.msg.more.length ym, .slice xp t.msg.pres.length yp, .slice xu t.msg.ups.length yu, .int .i64 t.ip, .slice xc t.client.length yc, .slice xh t.host.length yh, .int .i64 t.when] 39))
 have CM := specTxnOk_has (h.below b0) hct
 rw [hok, hk] at CM
 have CB := fun (w : World) (h : HasTx w (.slice xq t.msg.qs.length yq) (.slice xa t.msg.ans.length ya) (.slice xb t.msg.aus.length yb) (.slice xm t.msg.more.length ym) (.slice xp t.msg.pres.length yp) (.slice xu t.msg.ups.length yu) (.slice xc t.client.length yc) (.slice xh t.host.length yh) t) => l9bytes1_has h (by have := (txOk1 hok hk).1; omega) (by have := (txOk1 hok hk).2; omega)
 have H := hide (h.below b0)
 generalize 1 :: (put32 ((put32 [] t.ip ++ ((t.client.length : Int) :: t.client)) ++ ((t.host.length : Int) :: t.host)) t.when) = BM at *
 replace CM := hide CM
 replace CB := hide CB
 have zb := b0.size
 clear h hct hok hk
 obtain ⟨d0, d1, d2, d3, d4, d5, d6, d7, d8, d9, d10, d11, d12, d13, d14, d15⟩ := cells16 (unhide KB)
 go_enter Tryz.func5, Tryz.ntmps5
 go_wp2_with fail
 clear d0 d1 d2 d3 d4 d5 d6 d7 d8 d9 d10 d11 d12 d13 d14 d15
 refine (unhide CM).mono ?_
 rintro e w1 ⟨rfl, b1⟩
 have bb := below_next b0 b1
 have z1 := b1.size
 replace H := hide ((unhide H).below b1)
 obtain ⟨d0, d1, d2, d3, d4, d5, d6, d7, d8, d9, d10, d11, d12, d13, d14, d15⟩ := cells16 (block_kept b1 (unhide KB))
 clear b1
 go_wp2_with fail
 clear d0 d1 d2 d3 d4 d5 d6 d7 d8 d9 d10 d11 d12 d13 d14 d15
 refine (unhide CB _ (unhide H)).mono ?_
 rintro e w2 ⟨v2, rfl, o2, b2⟩
 have bb2 := below_next bb b2
 go_wp2_with fail
 go_ret2
 exact ⟨_, rfl, o2.mono (by omega), bb2⟩

set_option maxHeartbeats 1000000 in
set_option maxRecDepth 100000 in
theorem specTxnBytes2 {vq va vb vm vp vu vc vh : Value} {t : Tx} {w : World} (h : HasTx w vq va vb vm vp vu vc vh t) (hct : t.msg.count ≤ 1048576) (hok : txOk t = true) (hk : t.kind = 2) :
  Calls Tryz.prog 5 #[.agg #[.int .i64 2, .int .i64 t.msg.id, .bool t.msg.reply, .int .i64 t.msg.op, .bool t.msg.auth, .int .i64 t.msg.code, vq, va, vb, vm, vp, vu, .int .i64 t.ip, vc, vh, .int .i64 t.when]] w fun e w' => ∃ v', e = .returned (.tuple #[v', .bool true]) ∧ Own w.heap.size 5 w' v' (2 :: txBody t) ∧ Below w.heap.size w w' := by
 rw [txBody2 hk]
 obtain ⟨xq, yq, rfl, _, zq⟩ := h.msg.qs.form
 obtain ⟨xa, ya, rfl, _, za⟩ := h.msg.ans.form
 obtain ⟨xb, yb, rfl, _, zb⟩ := h.msg.aus.form
 obtain ⟨xm, ym, rfl, _, zm⟩ := h.msg.more.form
 obtain ⟨xp, yp, rfl, _, zp⟩ := h.msg.pres.form
 obtain ⟨xu, yu, rfl, _, zu⟩ := h.msg.ups.form
 have hcb := h.client.bound
 have hhb := h.host.bound
 obtain ⟨xc, yc, rfl, _⟩ := h.client.form
 obtain ⟨xh, yh, rfl, _⟩ := h.host.form
 have b0 := below_alloc (w := w) (.cells #[.int .i64 2, .int .i64 t.msg.id, .bool t.msg.reply, .int .i64 t.msg.op, .bool t.msg.auth, .int .i64 t.msg.code, .slice xq t.msg.qs.length yq, .slice xa t.msg.ans.length ya, .slice xb t.msg.aus.length yb, .slice xm t.msg.more.length ym, .slice xp t.msg.pres.length yp, .slice xu t.msg.ups.length yu, .int .i64 t.ip, .slice xc t.client.length yc, .slice xh t.host.length yh, .int .i64 t.when] 39)
 have KB := hide (heap_alloc_new w (.cells #[.int .i64 2, .int .i64 t.msg.id, .bool t.msg.reply, .int .i64 t.msg.op, .bool t.msg.auth, .int .i64 t.msg.code, .slice xq t.msg.qs.length yq, .slice xa t.msg.ans.length ya, .slice xb t.msg.aus.length yb, .slice xm t.msg.more.length ym, .slice xp t.msg.pres.length yp, .slice xu t.msg.ups.length yu, .int .i64 t.ip, .slice xc t.client.length yc, .slice xh t.host.length yh, .int .i64 t.when] 39))
 have CM := specTxnOk_has (h.below b0) hct
 rw [hok, hk] at CM
 have CB := fun (w : World) (h : HasTx w (.slice xq t.msg.qs.length yq) (.slice xa t.msg.ans.length ya) (.slice xb t.msg.aus.length yb) (.slice xm t.msg.more.length ym) (.slice xp t.msg.pres.length yp) (.slice xu t.msg.ups.length yu) (.slice xc t.client.length yc) (.slice xh t.host.length yh) t) => l9bytes2_has h (by have := txOk2 hok hk; omega)
 have H := hide (h.below b0)
 generalize 2 :: (put32 [] t.ip ++ ((t.client.length : Int) :: t.client)) = BM at *
 replace CM := hide CM
 replace CB := hide CB
 have zb := b0.size
 clear h hct hok hk
 obtain ⟨d0, d1, d2, d3, d4, d5, d6, d7, d8, d9, d10, d11, d12, d13, d14, d15⟩ := cells16 (unhide KB)
 go_enter Tryz.func5, Tryz.ntmps5
 go_wp2_with fail
 clear d0 d1 d2 d3 d4 d5 d6 d7 d8 d9 d10 d11 d12 d13 d14 d15
 refine (unhide CM).mono ?_
 rintro e w1 ⟨rfl, b1⟩
 have bb := below_next b0 b1
 have z1 := b1.size
 replace H := hide ((unhide H).below b1)
 obtain ⟨d0, d1, d2, d3, d4, d5, d6, d7, d8, d9, d10, d11, d12, d13, d14, d15⟩ := cells16 (block_kept b1 (unhide KB))
 clear b1
 go_wp2_with fail
 clear d0 d1 d2 d3 d4 d5 d6 d7 d8 d9 d10 d11 d12 d13 d14 d15
 refine (unhide CB _ (unhide H)).mono ?_
 rintro e w2 ⟨v2, rfl, o2, b2⟩
 have bb2 := below_next bb b2
 go_wp2_with fail
 go_ret2
 exact ⟨_, rfl, o2.mono (by omega), bb2⟩

set_option maxHeartbeats 1000000 in
set_option maxRecDepth 100000 in
theorem specTxnBytes3 {vq va vb vm vp vu vc vh : Value} {t : Tx} {w : World} (h : HasTx w vq va vb vm vp vu vc vh t) (hct : t.msg.count ≤ 1048576) (hok : txOk t = true) (hk : t.kind = 3) :
  Calls Tryz.prog 5 #[.agg #[.int .i64 3, .int .i64 t.msg.id, .bool t.msg.reply, .int .i64 t.msg.op, .bool t.msg.auth, .int .i64 t.msg.code, vq, va, vb, vm, vp, vu, .int .i64 t.ip, vc, vh, .int .i64 t.when]] w fun e w' => ∃ v', e = .returned (.tuple #[v', .bool true]) ∧ Own w.heap.size 5 w' v' (3 :: txBody t) ∧ Below w.heap.size w w' := by
 rw [txBody3 hk]
 obtain ⟨xq, yq, rfl, _, zq⟩ := h.msg.qs.form
 obtain ⟨xa, ya, rfl, _, za⟩ := h.msg.ans.form
 obtain ⟨xb, yb, rfl, _, zb⟩ := h.msg.aus.form
 obtain ⟨xm, ym, rfl, _, zm⟩ := h.msg.more.form
 obtain ⟨xp, yp, rfl, _, zp⟩ := h.msg.pres.form
 obtain ⟨xu, yu, rfl, _, zu⟩ := h.msg.ups.form
 have hcb := h.client.bound
 have hhb := h.host.bound
 obtain ⟨xc, yc, rfl, _⟩ := h.client.form
 obtain ⟨xh, yh, rfl, _⟩ := h.host.form
 have b0 := below_alloc (w := w) (.cells #[.int .i64 3, .int .i64 t.msg.id, .bool t.msg.reply, .int .i64 t.msg.op, .bool t.msg.auth, .int .i64 t.msg.code, .slice xq t.msg.qs.length yq, .slice xa t.msg.ans.length ya, .slice xb t.msg.aus.length yb, .slice xm t.msg.more.length ym, .slice xp t.msg.pres.length yp, .slice xu t.msg.ups.length yu, .int .i64 t.ip, .slice xc t.client.length yc, .slice xh t.host.length yh, .int .i64 t.when] 39)
 have KB := hide (heap_alloc_new w (.cells #[.int .i64 3, .int .i64 t.msg.id, .bool t.msg.reply, .int .i64 t.msg.op, .bool t.msg.auth, .int .i64 t.msg.code, .slice xq t.msg.qs.length yq, .slice xa t.msg.ans.length ya, .slice xb t.msg.aus.length yb, .slice xm t.msg.more.length ym, .slice xp t.msg.pres.length yp, .slice xu t.msg.ups.length yu, .int .i64 t.ip, .slice xc t.client.length yc, .slice xh t.host.length yh, .int .i64 t.when] 39))
 have CM := specTxnOk_has (h.below b0) hct
 rw [hok, hk] at CM
 have CB := fun (w : World) (h : HasTx w (.slice xq t.msg.qs.length yq) (.slice xa t.msg.ans.length ya) (.slice xb t.msg.aus.length yb) (.slice xm t.msg.more.length ym) (.slice xp t.msg.pres.length yp) (.slice xu t.msg.ups.length yu) (.slice xc t.client.length yc) (.slice xh t.host.length yh) t) => l9bytes3_has h 
 have H := hide (h.below b0)
 generalize 3 :: (put32 [] t.when) = BM at *
 replace CM := hide CM
 replace CB := hide CB
 have zb := b0.size
 clear h hct hok hk
 obtain ⟨d0, d1, d2, d3, d4, d5, d6, d7, d8, d9, d10, d11, d12, d13, d14, d15⟩ := cells16 (unhide KB)
 go_enter Tryz.func5, Tryz.ntmps5
 go_wp2_with fail
 clear d0 d1 d2 d3 d4 d5 d6 d7 d8 d9 d10 d11 d12 d13 d14 d15
 refine (unhide CM).mono ?_
 rintro e w1 ⟨rfl, b1⟩
 have bb := below_next b0 b1
 have z1 := b1.size
 replace H := hide ((unhide H).below b1)
 obtain ⟨d0, d1, d2, d3, d4, d5, d6, d7, d8, d9, d10, d11, d12, d13, d14, d15⟩ := cells16 (block_kept b1 (unhide KB))
 clear b1
 go_wp2_with fail
 clear d0 d1 d2 d3 d4 d5 d6 d7 d8 d9 d10 d11 d12 d13 d14 d15
 refine (unhide CB _ (unhide H)).mono ?_
 rintro e w2 ⟨v2, rfl, o2, b2⟩
 have bb2 := below_next bb b2
 go_wp2_with fail
 go_ret2
 exact ⟨_, rfl, o2.mono (by omega), bb2⟩

theorem specTxnBytes_has {vq va vb vm vp vu vc vh : Value} {t : Tx} {w : World} (h : HasTx w vq va vb vm vp vu vc vh t) (hct : t.msg.count ≤ 1048576) :
  Calls Tryz.prog 5 #[.agg #[.int .i64 t.kind, .int .i64 t.msg.id, .bool t.msg.reply, .int .i64 t.msg.op, .bool t.msg.auth, .int .i64 t.msg.code, vq, va, vb, vm, vp, vu, .int .i64 t.ip, vc, vh, .int .i64 t.when]] w fun e w' => ∃ v', e = .returned (.tuple #[v', .bool (txPut t).2]) ∧ Own w.heap.size 5 w' v' (txPut t).1 ∧ Below w.heap.size w w' := by
 cases hok : txOk t with
 | false => exact specTxnBytes_no h hct hok
 | true =>
  rw [txPut_yes hok]
  rcases txOk_kind hok with hk | hk | hk | hk
  ·have := specTxnBytes0 h hct hok hk
   rw [hk]
   exact this
  ·have := specTxnBytes1 h hct hok hk
   rw [hk]
   exact this
  ·have := specTxnBytes2 h hct hok hk
   rw [hk]
   exact this
  ·have := specTxnBytes3 h hct hok hk
   rw [hk]
   exact this
end Go.Proofs.YtfbfakdkemlbmaaGreat
