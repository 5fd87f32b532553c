/-
  Contract of the specification's TxnOk. Contract of the specification's l9part. Contract of the specification's l9bytes at kind 0. Contract of the specification's l9bytes at kind 1. Contract of the specification's l9bytes at kind 2.
-/
import Derived.Test.YtfbfakdkemlbmaaGreatTxnBytesG44
import Derived.Test.YtfbfakdkemlbmaaGreatTxnBytesG04
import Derived.Test.YtfbfakdkemlbmaaGreatTxnBytesG01
import Derived.Test.YtfbfakdkemlbmaaGreatTxnBytesG28
import Derived.Test.YtfbfakdkemlbmaaGreatTxnBytesG16
import Derived.Test.YtfbfakdkemlbmaaGreatTxnBytesG35
import Derived.Test.YtfbfakdkemlbmaaGreatTxnBytesG29
namespace Go.Proofs.YtfbfakdkemlbmaaGreat
open Go.RowKit
set_option linter.unusedVariables false

set_option maxHeartbeats 1000000 in
set_option maxRecDepth 100000 in
theorem specTxnOkE {vq va vb vm vp vu vc vh : Value} {t : Tx} {w : World} (h : HasTx w vq va vb vm vp vu vc vh t) (n0 : t.kind ≠ 0) (n1 : t.kind ≠ 1) (n2 : t.kind ≠ 2) (n3 : t.kind ≠ 3) :
  Calls Tryz.prog 15 #[.agg #[.int .i64 t.kind, .int .i64 t.msg.id, .bool t.msg.reply, .int .i64 t.msg.op, .bool t.msg.auth, .int .i64 t.msg.code, vq, va, vb, vm, vp, vu, .int .i64 t.ip, vc, vh, .int .i64 t.when]] w fun e w' => e = .returned (.bool false) ∧ Below w.heap.size w w' := by
 obtain ⟨xq, yq, rfl, _, zq⟩ := h.msg.qs.form
 obtain ⟨xa, ya, rfl, _, za⟩ := h.msg.ans.form
 obtain ⟨xb, yb, rfl, _, zb⟩ := h.msg.aus.form
 obtain ⟨xm, ym, rfl, _, zm⟩ := h.msg.more.form
 obtain ⟨xp, yp, rfl, _, zp⟩ := h.msg.pres.form
 obtain ⟨xu, yu, rfl, _, zu⟩ := h.msg.ups.form
 have hcb := h.client.bound
 have hhb := h.host.bound
 obtain ⟨xc, yc, rfl, _⟩ := h.client.form
 obtain ⟨xh, yh, rfl, _⟩ := h.host.form
 clear h
 generalize t.kind = KI at *
 have q0 : (KI == 0) = false := by rw [beq_eq_false_iff_ne]; exact n0
 have q1 : (KI == 1) = false := by rw [beq_eq_false_iff_ne]; exact n1
 have q2 : (KI == 2) = false := by rw [beq_eq_false_iff_ne]; exact n2
 have q3 : (KI == 3) = false := by rw [beq_eq_false_iff_ne]; exact n3
 clear n0 n1 n2 n3
 have b0 := below_alloc (w := w) (.cells #[.int .i64 KI, .int .i64 t.msg.id, .bool t.msg.reply, .int .i64 t.msg.op, .bool t.msg.auth, .int .i64 t.msg.code, .slice xq t.msg.qs.length yq, .slice xa t.msg.ans.length ya, .slice xb t.msg.aus.length yb, .slice xm t.msg.more.length ym, .slice xp t.msg.pres.length yp, .slice xu t.msg.ups.length yu, .int .i64 t.ip, .slice xc t.client.length yc, .slice xh t.host.length yh, .int .i64 t.when] 39)
 obtain ⟨d0, d1, d2, d3, d4, d5, d6, d7, d8, d9, d10, d11, d12, d13, d14, d15⟩ := cells16 (heap_alloc_new w (.cells #[.int .i64 KI, .int .i64 t.msg.id, .bool t.msg.reply, .int .i64 t.msg.op, .bool t.msg.auth, .int .i64 t.msg.code, .slice xq t.msg.qs.length yq, .slice xa t.msg.ans.length ya, .slice xb t.msg.aus.length yb, .slice xm t.msg.more.length ym, .slice xp t.msg.pres.length yp, .slice xu t.msg.ups.length yu, .int .i64 t.ip, .slice xc t.client.length yc, .slice xh t.host.length yh, .int .i64 t.when] 39))
 go_enter Tryz.func15, Tryz.ntmps15
 go_wp2_with fail
 go_ret
 exact ⟨rfl, b0⟩

theorem specTxnOk_has {vq va vb vm vp vu vc vh : Value} {t : Tx} {w : World} (h : HasTx w vq va vb vm vp vu vc vh t) (hct : t.msg.count ≤ 1048576) :
  Calls Tryz.prog 15 #[.agg #[.int .i64 t.kind, .int .i64 t.msg.id, .bool t.msg.reply, .int .i64 t.msg.op, .bool t.msg.auth, .int .i64 t.msg.code, vq, va, vb, vm, vp, vu, .int .i64 t.ip, vc, vh, .int .i64 t.when]] w fun e w' => e = .returned (.bool (txOk t)) ∧ Below w.heap.size w w' := by
 by_cases n0 : t.kind = 0
 ·have hR : txOk t = (okM t.msg && (decide (t.msg.op = 5) && (!t.msg.reply && (decide (t.ip = 0) && (decide (t.client.length = 0) && (decide (t.host.length = 0) && decide (t.when = 0))))))) := by
   unfold txOk
   rw [if_pos n0]
  rw [hR, n0]
  exact specTxnOk0 h hct
 by_cases n1 : t.kind = 1
 ·have hR : txOk t = (emptyM t.msg && (ipB t.ip && (clientB t.client && (labelOk t.host && (decide (0 ≤ t.when ∧ t.when ≤ 2000000)))))) := by
   unfold txOk
   rw [if_neg n0, if_pos n1]
  rw [hR, n1]
  exact specTxnOk1 h hct
 by_cases n2 : t.kind = 2
 ·have hR : txOk t = (emptyM t.msg && (ipB t.ip && (clientB t.client && (decide (t.host.length = 0) && decide (t.when = 0))))) := by
   unfold txOk
   rw [if_neg n0, if_neg n1, if_pos n2]
  rw [hR, n2]
  exact specTxnOk2 h hct
 by_cases n3 : t.kind = 3
 ·have hR : txOk t = (emptyM t.msg && (decide (t.ip = 0) && (decide (t.client.length = 0) && (decide (t.host.length = 0) && decide (0 ≤ t.when ∧ t.when ≤ 1000000))))) := by
   unfold txOk
   rw [if_neg n0, if_neg n1, if_neg n2, if_pos n3]
  rw [hR, n3]
  exact specTxnOk3 h hct
 have hR : txOk t = false := by
  unfold txOk
  rw [if_neg n0, if_neg n1, if_neg n2, if_neg n3]
 rw [hR]
 exact specTxnOkE h n0 n1 n2 n3
end Go.Proofs.YtfbfakdkemlbmaaGreat

namespace Go.Proofs.YtfbfakdkemlbmaaGreat
open Go.RowKit
set_option linter.unusedVariables false

set_option maxHeartbeats 800000 in
set_option maxRecDepth 100000 in
theorem l9part_own {B : Nat} {v u : Value} {l t : List Int} {w : World} (h : Own B 5 w v l) (hu : HasAt B w u t) (hl : l.length ≤ 1099511627000) (ht : t.length ≤ 255) (hB : B ≤ w.heap.size) :
  Calls Tryz.prog 33 #[v, u] w fun e w' => ∃ v', e = .returned v' ∧ Own B 5 w' v' (l ++ ((t.length : Int) :: t)) ∧ Below B w w' := by
 obtain ⟨ua, uc, rfl, _⟩ := hu.form
 have HU := hide hu
 clear hu
 have hlt : ((t.length : Int) % 256) = t.length := by omega
 generalize hn : t.length = m at *
 have HN := hide hn
 clear hn
 go_enter Tryz.func33, Tryz.ntmps33
 go_wp2_with (at_builtin; refine append_bytes rfl _ _ 27 5 rfl Tryz.underlying27 info_u8 B v _ l [(m : Int)] rfl rfl (h.alloc _) (own_lit w 0 5 [(m : Int)] (Nat.zero_le _) (by simp [maxLen])).reads (by simp; omega) (by simp; omega) ?_)
 intro v2 w2 o2 g2
 have b2 : Below B w w2 := ((Below.refl _ _).alloc hB _).grown g2 (by simp; omega) (fun q hq => (h.lt q hq).1)
 clear g2
 have hs2 := b2.size
 have U2 := hide ((unhide HU).low b2 (Nat.le_refl _))
 go_wp2_with (at_builtin; refine append_bytes rfl _ _ 27 5 rfl Tryz.underlying27 info_u8 B v2 (.slice ua m uc) (l ++ [(m : Int)]) t rfl rfl o2 (unhide U2).has.reads (by simp; rw [unhide HN]; omega) (by omega) ?_)
 intro v3 w3 o3 g3
 have b3 : Below B w w3 := b2.grown g3 (by omega) (fun q hq => (o2.lt q hq).1)
 go_wp2
 go_ret
 exact ⟨v3, rfl, by simpa using o3, b3⟩
end Go.Proofs.YtfbfakdkemlbmaaGreat

namespace Go.Proofs.YtfbfakdkemlbmaaGreat
open Go.RowKit
set_option linter.unusedVariables false

set_option maxHeartbeats 2000000 in
set_option maxRecDepth 100000 in
theorem l9bytes0_has {vq va vb vm vp vu vc vh : Value} {t : Tx} {w : World} (h : HasTx w vq va vb vm vp vu vc vh t) (hok : okM t.msg = true) :
  Calls Tryz.prog 16 #[.agg #[.int .i64 0, .int .i64 t.msg.id, .bool t.msg.reply, .int .i64 t.msg.op, .bool t.msg.auth, .int .i64 t.msg.code, vq, va, vb, vm, vp, vu, .int .i64 t.ip, vc, vh, .int .i64 t.when]] w fun e w' => ∃ v', e = .returned v' ∧ Own w.heap.size 5 w' v' (0 :: (bytesM t.msg)) ∧ Below w.heap.size w w' := by
 obtain ⟨xq, yq, rfl, _, zq⟩ := h.msg.qs.form
 obtain ⟨xa, ya, rfl, _, za⟩ := h.msg.ans.form
 obtain ⟨xb, yb, rfl, _, zb⟩ := h.msg.aus.form
 obtain ⟨xm, ym, rfl, _, zm⟩ := h.msg.more.form
 obtain ⟨xp, yp, rfl, _, zp⟩ := h.msg.pres.form
 obtain ⟨xu, yu, rfl, _, zu⟩ := h.msg.ups.form
 have hcb := h.client.bound
 have hhb := h.host.bound
 obtain ⟨xc, yc, rfl, _⟩ := h.client.form
 obtain ⟨xh, yh, rfl, _⟩ := h.host.form
 have b0 := below_alloc (w := w) (.cells #[.int .i64 0, .int .i64 t.msg.id, .bool t.msg.reply, .int .i64 t.msg.op, .bool t.msg.auth, .int .i64 t.msg.code, .slice xq t.msg.qs.length yq, .slice xa t.msg.ans.length ya, .slice xb t.msg.aus.length yb, .slice xm t.msg.more.length ym, .slice xp t.msg.pres.length yp, .slice xu t.msg.ups.length yu, .int .i64 t.ip, .slice xc t.client.length yc, .slice xh t.host.length yh, .int .i64 t.when] 39)
 have KB := hide (heap_alloc_new w (.cells #[.int .i64 0, .int .i64 t.msg.id, .bool t.msg.reply, .int .i64 t.msg.op, .bool t.msg.auth, .int .i64 t.msg.code, .slice xq t.msg.qs.length yq, .slice xa t.msg.ans.length ya, .slice xb t.msg.aus.length yb, .slice xm t.msg.more.length ym, .slice xp t.msg.pres.length yp, .slice xu t.msg.ups.length yu, .int .i64 t.ip, .slice xc t.client.length yc, .slice xh t.host.length yh, .int .i64 t.when] 39))
 have H := hide (h.below b0)
 have zb := b0.size
 have hmay : mayM t.msg = true := by unfold okM at hok; simp only [Bool.and_eq_true] at hok; exact hok.1
 have hbl := okM_len hok
 have CB := fun (w : World) (h : HasTx w (.slice xq t.msg.qs.length yq) (.slice xa t.msg.ans.length ya) (.slice xb t.msg.aus.length yb) (.slice xm t.msg.more.length ym) (.slice xp t.msg.pres.length yp) (.slice xu t.msg.ups.length yu) (.slice xc t.client.length yc) (.slice xh t.host.length yh) t) => l4bytes_has h.msg hmay
 have hpre : [(0 : Int)] ++ bytesM t.msg = 0 :: bytesM t.msg := rfl
 rw [← hpre]
 clear hpre
 generalize bytesM t.msg = BM at *
 replace CB := hide CB
 clear h hok hmay
 obtain ⟨d0, d1, d2, d3, d4, d5, d6, d7, d8, d9, d10, d11, d12, d13, d14, d15⟩ := cells16 (unhide KB)
 go_enter Tryz.func16, Tryz.ntmps16
 go_wp2_with fail
 clear d0 d1 d2 d3 d4 d5 d6 d7 d8 d9 d10 d11 d12 d13 d14 d15
 have bl := below_alloc (w := w.alloc (.cells #[.int .i64 0, .int .i64 t.msg.id, .bool t.msg.reply, .int .i64 t.msg.op, .bool t.msg.auth, .int .i64 t.msg.code, .slice xq t.msg.qs.length yq, .slice xa t.msg.ans.length ya, .slice xb t.msg.aus.length yb, .slice xm t.msg.more.length ym, .slice xp t.msg.pres.length yp, .slice xu t.msg.ups.length yu, .int .i64 t.ip, .slice xc t.client.length yc, .slice xh t.host.length yh, .int .i64 t.when] 39)) (.cells #[.int .u8 0] 5)
 have OL := hide (own_lit (w.alloc (.cells #[.int .i64 0, .int .i64 t.msg.id, .bool t.msg.reply, .int .i64 t.msg.op, .bool t.msg.auth, .int .i64 t.msg.code, .slice xq t.msg.qs.length yq, .slice xa t.msg.ans.length ya, .slice xb t.msg.aus.length yb, .slice xm t.msg.more.length ym, .slice xp t.msg.pres.length yp, .slice xu t.msg.ups.length yu, .int .i64 t.ip, .slice xc t.client.length yc, .slice xh t.host.length yh, .int .i64 t.when] 39)) w.heap.size 5 [0] zb (by simp [maxLen]))
 have KB1 := hide (block_kept bl (unhide KB))
 have H1 := hide ((unhide H).below bl)
 have bb := below_next b0 bl
 have z1 := bl.size
 simp only [List.map_cons, List.map_nil, World.size_alloc] at OL
 generalize hW1 : (w.alloc (.cells #[.int .i64 0, .int .i64 t.msg.id, .bool t.msg.reply, .int .i64 t.msg.op, .bool t.msg.auth, .int .i64 t.msg.code, .slice xq t.msg.qs.length yq, .slice xa t.msg.ans.length ya, .slice xb t.msg.aus.length yb, .slice xm t.msg.more.length ym, .slice xp t.msg.pres.length yp, .slice xu t.msg.ups.length yu, .int .i64 t.ip, .slice xc t.client.length yc, .slice xh t.host.length yh, .int .i64 t.when] 39)).alloc (.cells #[.int .u8 0] 5) = W1 at *
 clear hW1 bl
 refine (unhide CB _ (unhide H1)).mono ?_
 rintro e w2 ⟨v2, rfl, o2, b2⟩
 have OL2 := (unhide OL).below b2
 have bb2 := below_next bb b2
 have z2 := b2.size
 go_wp2_with (at_builtin; refine append_bytes rfl _ _ 27 5 rfl Tryz.underlying27 info_u8 w.heap.size _ v2 [0] BM rfl rfl OL2 o2.reads (by simp; omega) (by omega) ?_)
 intro v3 w3 o3 g3
 have bb3 : Below w.heap.size w w3 := bb2.grown g3 (by omega) (fun q hq => (OL2.lt q hq).1)
 go_wp2_with fail
 go_ret
 exact ⟨_, rfl, o3, bb3⟩
end Go.Proofs.YtfbfakdkemlbmaaGreat

namespace Go.Proofs.YtfbfakdkemlbmaaGreat
open Go.RowKit
set_option linter.unusedVariables false

set_option maxHeartbeats 2000000 in
set_option maxRecDepth 100000 in
theorem l9bytes1_has {vq va vb vm vp vu vc vh : Value} {t : Tx} {w : World} (h : HasTx w vq va vb vm vp vu vc vh t) (hcl : t.client.length ≤ 255) (hhl : t.host.length ≤ 255) :
  Calls Tryz.prog 16 #[.agg #[.int .i64 1, .int .i64 t.msg.id, .bool t.msg.reply, .int .i64 t.msg.op, .bool t.msg.auth, .int .i64 t.msg.code, vq, va, vb, vm, vp, vu, .int .i64 t.ip, vc, vh, .int .i64 t.when]] w fun e w' => ∃ v', e = .returned v' ∧ Own w.heap.size 5 w' v' (1 :: (put32 ((put32 [] t.ip ++ ((t.client.length : Int) :: t.client)) ++ ((t.host.length : Int) :: t.host)) t.when)) ∧ Below w.heap.size w w' := by
 obtain ⟨xq, yq, rfl, _, zq⟩ := h.msg.qs.form
 obtain ⟨xa, ya, rfl, _, za⟩ := h.msg.ans.form
 obtain ⟨xb, yb, rfl, _, zb⟩ := h.msg.aus.form
 obtain ⟨xm, ym, rfl, _, zm⟩ := h.msg.more.form
 obtain ⟨xp, yp, rfl, _, zp⟩ := h.msg.pres.form
 obtain ⟨xu, yu, rfl, _, zu⟩ := h.msg.ups.form
 have hcb := h.client.bound
 have hhb := h.host.bound
 obtain ⟨xc, yc, rfl, _⟩ := h.client.form
 obtain ⟨xh, yh, rfl, _⟩ := h.host.form
 have b0 := below_alloc (w := w) (.cells #[.int .i64 1, .int .i64 t.msg.id, .bool t.msg.reply, .int .i64 t.msg.op, .bool t.msg.auth, .int .i64 t.msg.code, .slice xq t.msg.qs.length yq, .slice xa t.msg.ans.length ya, .slice xb t.msg.aus.length yb, .slice xm t.msg.more.length ym, .slice xp t.msg.pres.length yp, .slice xu t.msg.ups.length yu, .int .i64 t.ip, .slice xc t.client.length yc, .slice xh t.host.length yh, .int .i64 t.when] 39)
 have KB := hide (heap_alloc_new w (.cells #[.int .i64 1, .int .i64 t.msg.id, .bool t.msg.reply, .int .i64 t.msg.op, .bool t.msg.auth, .int .i64 t.msg.code, .slice xq t.msg.qs.length yq, .slice xa t.msg.ans.length ya, .slice xb t.msg.aus.length yb, .slice xm t.msg.more.length ym, .slice xp t.msg.pres.length yp, .slice xu t.msg.ups.length yu, .int .i64 t.ip, .slice xc t.client.length yc, .slice xh t.host.length yh, .int .i64 t.when] 39))
 have H := hide (h.below b0)
 have zb := b0.size
 have P1 := fun (w : World) (B : Nat) (v : Value) (ho : Own B 5 w v [1]) => specPut32_any t.ip ho (by simp)
 have e1 := put32_length [] t.ip
 simp only [List.length_nil] at e1
 rw [put32_cons] at P1
 have P2 := fun (w : World) (B : Nat) (v : Value) (ho : Own B 5 w v (1 :: put32 [] t.ip)) (hu : HasAt B w (.slice xc t.client.length yc) t.client) (hB : B ≤ w.heap.size) => l9part_own ho hu (by simp only [List.length_cons]; omega) hcl hB
 rw [List.cons_append] at P2
 have e2 : (put32 [] t.ip ++ ((t.client.length : Int) :: t.client)).length ≤ 300 := by simp only [List.length_append, List.length_cons]; omega
 have P3 := fun (w : World) (B : Nat) (v : Value) (ho : Own B 5 w v (1 :: (put32 [] t.ip ++ ((t.client.length : Int) :: t.client)))) (hu : HasAt B w (.slice xh t.host.length yh) t.host) (hB : B ≤ w.heap.size) => l9part_own ho hu (by simp only [List.length_cons]; omega) hhl hB
 rw [List.cons_append] at P3
 have e3 : ((put32 [] t.ip ++ ((t.client.length : Int) :: t.client)) ++ ((t.host.length : Int) :: t.host)).length ≤ 1000 := by simp only [List.length_append, List.length_cons] at e2 ⊢; omega
 have P4 := fun (w : World) (B : Nat) (v : Value) (ho : Own B 5 w v (1 :: ((put32 [] t.ip ++ ((t.client.length : Int) :: t.client)) ++ ((t.host.length : Int) :: t.host)))) => specPut32_any t.when ho (by simp only [List.length_cons]; omega)
 rw [put32_cons] at P4
 generalize put32 ((put32 [] t.ip ++ ((t.client.length : Int) :: t.client)) ++ ((t.host.length : Int) :: t.host)) t.when = L4 at *
 generalize (put32 [] t.ip ++ ((t.client.length : Int) :: t.client)) ++ ((t.host.length : Int) :: t.host) = L3 at *
 generalize put32 [] t.ip ++ ((t.client.length : Int) :: t.client) = L2 at *
 generalize put32 [] t.ip = L1 at *
 replace P1 := hide P1
 replace P2 := hide P2
 replace P3 := hide P3
 replace P4 := hide P4
 clear h e1 hcl hhl e2 e3
 obtain ⟨d0, d1, d2, d3, d4, d5, d6, d7, d8, d9, d10, d11, d12, d13, d14, d15⟩ := cells16 (unhide KB)
 go_enter Tryz.func16, Tryz.ntmps16
 go_wp2_with fail
 clear d0 d1 d2 d3 d4 d5 d6 d7 d8 d9 d10 d11 d12 d13 d14 d15
 have bl := below_alloc (w := w.alloc (.cells #[.int .i64 1, .int .i64 t.msg.id, .bool t.msg.reply, .int .i64 t.msg.op, .bool t.msg.auth, .int .i64 t.msg.code, .slice xq t.msg.qs.length yq, .slice xa t.msg.ans.length ya, .slice xb t.msg.aus.length yb, .slice xm t.msg.more.length ym, .slice xp t.msg.pres.length yp, .slice xu t.msg.ups.length yu, .int .i64 t.ip, .slice xc t.client.length yc, .slice xh t.host.length yh, .int .i64 t.when] 39)) (.cells #[.int .u8 1] 5)
 have OL := hide (own_lit (w.alloc (.cells #[.int .i64 1, .int .i64 t.msg.id, .bool t.msg.reply, .int .i64 t.msg.op, .bool t.msg.auth, .int .i64 t.msg.code, .slice xq t.msg.qs.length yq, .slice xa t.msg.ans.length ya, .slice xb t.msg.aus.length yb, .slice xm t.msg.more.length ym, .slice xp t.msg.pres.length yp, .slice xu t.msg.ups.length yu, .int .i64 t.ip, .slice xc t.client.length yc, .slice xh t.host.length yh, .int .i64 t.when] 39)) w.heap.size 5 [1] zb (by simp [maxLen]))
 have KB1 := hide (block_kept bl (unhide KB))
 have H1 := hide ((unhide H).below bl)
 have bb := below_next b0 bl
 have z1 := bl.size
 simp only [List.map_cons, List.map_nil, World.size_alloc] at OL
 generalize hW1 : (w.alloc (.cells #[.int .i64 1, .int .i64 t.msg.id, .bool t.msg.reply, .int .i64 t.msg.op, .bool t.msg.auth, .int .i64 t.msg.code, .slice xq t.msg.qs.length yq, .slice xa t.msg.ans.length ya, .slice xb t.msg.aus.length yb, .slice xm t.msg.more.length ym, .slice xp t.msg.pres.length yp, .slice xu t.msg.ups.length yu, .int .i64 t.ip, .slice xc t.client.length yc, .slice xh t.host.length yh, .int .i64 t.when] 39)).alloc (.cells #[.int .u8 1] 5) = W1 at *
 clear hW1 bl KB H
 have bd := below_drew (w := W1)
 replace KB1 := hide (block_kept bd (unhide KB1))
 replace H1 := hide ((unhide H1).below bd)
 replace OL := hide ((unhide OL).below bd)
 have HA := hide (unhide H1).client.at
 have HB := hide (unhide H1).host.at
 have zk := block_lt (unhide KB1)
 replace bb := below_next bb bd
 have zd := bd.size
 clear bd H1
 refine startC [0, 1, 2, 4, 5, 7, 8, 10, 11, 3, 6, 9, 12, 13] (by kernel_rfl) ⟨by kernel_rfl, by kernel_rfl, by kernel_rfl, by kernel_rfl⟩ 6 [(2, fun w' => (fun w' => w'.cell? ⟨w.heap.size, 12, none⟩ = some (.int .i64 t.ip)) w'), (5, fun w' => (fun w' => w'.cell? ⟨w.heap.size, 13, none⟩ = some (.slice xc t.client.length yc)) w'), (8, fun w' => (fun w' => w'.cell? ⟨w.heap.size, 14, none⟩ = some (.slice xh t.host.length yh)) w'), (11, fun w' => (fun w' => w'.cell? ⟨w.heap.size, 15, none⟩ = some (.int .i64 t.when)) w')] (fun hA => ?_)
 replace hA := hide hA
 generalize hWD : W1.drew = WD at *
 clear hWD
 repeat ((first | (refine lookC ?_ (unhide hA) rfl rfl rfl (by rfl) (fun _ _ _ h => h) ?_ ?_; rotate_left; · (intro w; go_simp <;> with_reducible rfl)) | refine skipC (unhide hA) rfl rfl (by rfl) (fun _ _ _ h => h) ?_); go_simp)
 refine takeC ?_ (unhide hA) rfl rfl rfl (by rfl) (fun _ _ _ h => h) (.head _) (cells16 (unhide KB1)).2.2.2.2.2.2.2.2.2.2.2.2.1 ?_ ?_; rotate_left; (· (intro w hSw; (try dsimp only at hSw); go_simp <;> with_reducible rfl)); go_simp
 repeat ((first | (refine lookC ?_ (unhide hA) rfl rfl rfl (by rfl) (fun _ _ _ h => h) ?_ ?_; rotate_left; · (intro w; go_simp <;> with_reducible rfl)) | refine skipC (unhide hA) rfl rfl (by rfl) (fun _ _ _ h => h) ?_); go_simp)
 refine takeC ?_ (unhide hA) rfl rfl rfl (by rfl) (fun _ _ _ h => h) (.tail _ (.head _)) (cells16 (unhide KB1)).2.2.2.2.2.2.2.2.2.2.2.2.2.1 ?_ ?_; rotate_left; (· (intro w hSw; (try dsimp only at hSw); go_simp <;> with_reducible rfl)); go_simp
 repeat ((first | (refine lookC ?_ (unhide hA) rfl rfl rfl (by rfl) (fun _ _ _ h => h) ?_ ?_; rotate_left; · (intro w; go_simp <;> with_reducible rfl)) | refine skipC (unhide hA) rfl rfl (by rfl) (fun _ _ _ h => h) ?_); go_simp)
 refine takeC ?_ (unhide hA) rfl rfl rfl (by rfl) (fun _ _ _ h => h) (.tail _ (.tail _ (.head _))) (cells16 (unhide KB1)).2.2.2.2.2.2.2.2.2.2.2.2.2.2.1 ?_ ?_; rotate_left; (· (intro w hSw; (try dsimp only at hSw); go_simp <;> with_reducible rfl)); go_simp
 repeat ((first | (refine lookC ?_ (unhide hA) rfl rfl rfl (by rfl) (fun _ _ _ h => h) ?_ ?_; rotate_left; · (intro w; go_simp <;> with_reducible rfl)) | refine skipC (unhide hA) rfl rfl (by rfl) (fun _ _ _ h => h) ?_); go_simp)
 refine takeC ?_ (unhide hA) rfl rfl rfl (by rfl) (fun _ _ _ h => h) (.tail _ (.tail _ (.tail _ (.head _)))) (cells16 (unhide KB1)).2.2.2.2.2.2.2.2.2.2.2.2.2.2.2 ?_ ?_; rotate_left; (· (intro w hSw; (try dsimp only at hSw); go_simp <;> with_reducible rfl)); go_simp
 refine runC (unhide hA) rfl rfl (by kernel_rfl) (by kernel_rfl) (fun K hK => ?_)
 have HK := hide hK
 clear hK
 go_simp
 refine (unhide P1 _ _ _ (unhide OL)).mono ?_
 rintro e w3 ⟨v3, rfl, o3, b3⟩
 have KB3 := hide (block_kept b3 (unhide KB1))
 have HA3 := hide ((unhide HA).below b3)
 have HB3 := hide ((unhide HB).below b3)
 have bb3 := below_next bb b3
 have z3 := b3.size
 clear b3
 refine (unhide HK).out _ _ (keepC_late (by kernel_rfl) (keepC_yes (cells16 (unhide KB3)).2.2.2.2.2.2.2.2.2.2.2.2.2.1 (keepC_yes (cells16 (unhide KB3)).2.2.2.2.2.2.2.2.2.2.2.2.2.2.1 (keepC_yes (cells16 (unhide KB3)).2.2.2.2.2.2.2.2.2.2.2.2.2.2.2 keepC_nil)))) ?_
 clear HK K
 go_simp
 repeat ((first | (refine lookC ?_ (unhide hA) rfl rfl rfl (by rfl) (fun _ _ _ h => h) ?_ ?_; rotate_left; · (intro w; go_simp <;> with_reducible rfl)) | refine skipC (unhide hA) rfl rfl (by rfl) (fun _ _ _ h => h) ?_); go_simp)
 refine runC (unhide hA) rfl rfl (by kernel_rfl) (by kernel_rfl) (fun K hK => ?_)
 have HK := hide hK
 clear hK
 go_simp
 refine (unhide P2 _ WD.heap.size _ o3 (unhide HA3) z3).mono ?_
 rintro e w4 ⟨v4, rfl, o4, b4⟩
 have KB4 := hide ((b4.block w.heap.size (by omega)).trans (unhide KB3))
 have HB4 := hide ((unhide HB3).low b4 (Nat.le_refl _))
 have bb4 : Below w.heap.size w w4 := bb3.trans (b4.mono (by omega))
 have z4 := b4.size
 clear b4
 refine (unhide HK).out _ _ (keepC_late (by kernel_rfl) (keepC_late (by kernel_rfl) (keepC_yes (cells16 (unhide KB4)).2.2.2.2.2.2.2.2.2.2.2.2.2.2.1 (keepC_yes (cells16 (unhide KB4)).2.2.2.2.2.2.2.2.2.2.2.2.2.2.2 keepC_nil)))) ?_
 clear HK K
 go_simp
 repeat ((first | (refine lookC ?_ (unhide hA) rfl rfl rfl (by rfl) (fun _ _ _ h => h) ?_ ?_; rotate_left; · (intro w; go_simp <;> with_reducible rfl)) | refine skipC (unhide hA) rfl rfl (by rfl) (fun _ _ _ h => h) ?_); go_simp)
 refine runC (unhide hA) rfl rfl (by kernel_rfl) (by kernel_rfl) (fun K hK => ?_)
 have HK := hide hK
 clear hK
 go_simp
 refine (unhide P3 _ WD.heap.size _ o4 (unhide HB4) (by omega)).mono ?_
 rintro e w5 ⟨v5, rfl, o5, b5⟩
 have KB5 := hide ((b5.block w.heap.size (by omega)).trans (unhide KB4))
 have bb5 : Below w.heap.size w w5 := bb4.trans (b5.mono (by omega))
 have z5 := b5.size
 clear b5
 refine (unhide HK).out _ _ (keepC_late (by kernel_rfl) (keepC_late (by kernel_rfl) (keepC_late (by kernel_rfl) (keepC_yes (cells16 (unhide KB5)).2.2.2.2.2.2.2.2.2.2.2.2.2.2.2 keepC_nil)))) ?_
 clear HK K
 go_simp
 repeat ((first | (refine lookC ?_ (unhide hA) rfl rfl rfl (by rfl) (fun _ _ _ h => h) ?_ ?_; rotate_left; · (intro w; go_simp <;> with_reducible rfl)) | refine skipC (unhide hA) rfl rfl (by rfl) (fun _ _ _ h => h) ?_); go_simp)
 refine runC (unhide hA) rfl rfl (by kernel_rfl) (by kernel_rfl) (fun K hK => ?_)
 have HK := hide hK
 clear hK
 go_simp
 refine (unhide P4 _ _ _ o5).mono ?_
 rintro e w6 ⟨v6, rfl, o6, b6⟩
 have bb6 := below_next bb5 b6
 have z6 := b6.size
 clear b6
 refine (unhide HK).out _ _ (keepC_late (by kernel_rfl) (keepC_late (by kernel_rfl) (keepC_late (by kernel_rfl) (keepC_late (by kernel_rfl) keepC_nil)))) ?_
 clear HK K
 go_simp
 repeat ((first | (refine lookC ?_ (unhide hA) rfl rfl rfl (by rfl) (fun _ _ _ h => h) ?_ ?_; rotate_left; · (intro w; go_simp <;> with_reducible rfl)) | refine skipC (unhide hA) rfl rfl (by rfl) (fun _ _ _ h => h) ?_); go_simp)
 refine doneC (unhide hA) rfl ?_
 clear hA
 go_wp2_with fail
 go_ret
 exact ⟨_, rfl, o6.mono (by omega), bb6⟩
end Go.Proofs.YtfbfakdkemlbmaaGreat

namespace Go.Proofs.YtfbfakdkemlbmaaGreat
open Go.RowKit
set_option linter.unusedVariables false

set_option maxHeartbeats 2000000 in
set_option maxRecDepth 100000 in
theorem l9bytes2_has {vq va vb vm vp vu vc vh : Value} {t : Tx} {w : World} (h : HasTx w vq va vb vm vp vu vc vh t) (hcl : t.client.length ≤ 255) :
  Calls Tryz.prog 16 #[.agg #[.int .i64 2, .int .i64 t.msg.id, .bool t.msg.reply, .int .i64 t.msg.op, .bool t.msg.auth, .int .i64 t.msg.code, vq, va, vb, vm, vp, vu, .int .i64 t.ip, vc, vh, .int .i64 t.when]] w fun e w' => ∃ v', e = .returned v' ∧ Own w.heap.size 5 w' v' (2 :: (put32 [] t.ip ++ ((t.client.length : Int) :: t.client))) ∧ Below w.heap.size w w' := by
 obtain ⟨xq, yq, rfl, _, zq⟩ := h.msg.qs.form
 obtain ⟨xa, ya, rfl, _, za⟩ := h.msg.ans.form
 obtain ⟨xb, yb, rfl, _, zb⟩ := h.msg.aus.form
 obtain ⟨xm, ym, rfl, _, zm⟩ := h.msg.more.form
 obtain ⟨xp, yp, rfl, _, zp⟩ := h.msg.pres.form
 obtain ⟨xu, yu, rfl, _, zu⟩ := h.msg.ups.form
 have hcb := h.client.bound
 have hhb := h.host.bound
 obtain ⟨xc, yc, rfl, _⟩ := h.client.form
 obtain ⟨xh, yh, rfl, _⟩ := h.host.form
 have b0 := below_alloc (w := w) (.cells #[.int .i64 2, .int .i64 t.msg.id, .bool t.msg.reply, .int .i64 t.msg.op, .bool t.msg.auth, .int .i64 t.msg.code, .slice xq t.msg.qs.length yq, .slice xa t.msg.ans.length ya, .slice xb t.msg.aus.length yb, .slice xm t.msg.more.length ym, .slice xp t.msg.pres.length yp, .slice xu t.msg.ups.length yu, .int .i64 t.ip, .slice xc t.client.length yc, .slice xh t.host.length yh, .int .i64 t.when] 39)
 have KB := hide (heap_alloc_new w (.cells #[.int .i64 2, .int .i64 t.msg.id, .bool t.msg.reply, .int .i64 t.msg.op, .bool t.msg.auth, .int .i64 t.msg.code, .slice xq t.msg.qs.length yq, .slice xa t.msg.ans.length ya, .slice xb t.msg.aus.length yb, .slice xm t.msg.more.length ym, .slice xp t.msg.pres.length yp, .slice xu t.msg.ups.length yu, .int .i64 t.ip, .slice xc t.client.length yc, .slice xh t.host.length yh, .int .i64 t.when] 39))
 have H := hide (h.below b0)
 have zb := b0.size
 have P1 := fun (w : World) (B : Nat) (v : Value) (ho : Own B 5 w v [2]) => specPut32_any t.ip ho (by simp)
 have e1 := put32_length [] t.ip
 simp only [List.length_nil] at e1
 rw [put32_cons] at P1
 have P2 := fun (w : World) (B : Nat) (v : Value) (ho : Own B 5 w v (2 :: put32 [] t.ip)) (hu : HasAt B w (.slice xc t.client.length yc) t.client) (hB : B ≤ w.heap.size) => l9part_own ho hu (by simp only [List.length_cons]; omega) hcl hB
 rw [List.cons_append] at P2
 generalize put32 [] t.ip ++ ((t.client.length : Int) :: t.client) = L2 at *
 generalize put32 [] t.ip = L1 at *
 replace P1 := hide P1
 replace P2 := hide P2
 clear h e1 hcl
 obtain ⟨d0, d1, d2, d3, d4, d5, d6, d7, d8, d9, d10, d11, d12, d13, d14, d15⟩ := cells16 (unhide KB)
 go_enter Tryz.func16, Tryz.ntmps16
 go_wp2_with fail
 clear d0 d1 d2 d3 d4 d5 d6 d7 d8 d9 d10 d11 d12 d13 d14 d15
 have bl := below_alloc (w := w.alloc (.cells #[.int .i64 2, .int .i64 t.msg.id, .bool t.msg.reply, .int .i64 t.msg.op, .bool t.msg.auth, .int .i64 t.msg.code, .slice xq t.msg.qs.length yq, .slice xa t.msg.ans.length ya, .slice xb t.msg.aus.length yb, .slice xm t.msg.more.length ym, .slice xp t.msg.pres.length yp, .slice xu t.msg.ups.length yu, .int .i64 t.ip, .slice xc t.client.length yc, .slice xh t.host.length yh, .int .i64 t.when] 39)) (.cells #[.int .u8 2] 5)
 have OL := hide (own_lit (w.alloc (.cells #[.int .i64 2, .int .i64 t.msg.id, .bool t.msg.reply, .int .i64 t.msg.op, .bool t.msg.auth, .int .i64 t.msg.code, .slice xq t.msg.qs.length yq, .slice xa t.msg.ans.length ya, .slice xb t.msg.aus.length yb, .slice xm t.msg.more.length ym, .slice xp t.msg.pres.length yp, .slice xu t.msg.ups.length yu, .int .i64 t.ip, .slice xc t.client.length yc, .slice xh t.host.length yh, .int .i64 t.when] 39)) w.heap.size 5 [2] zb (by simp [maxLen]))
 have KB1 := hide (block_kept bl (unhide KB))
 have H1 := hide ((unhide H).below bl)
 have bb := below_next b0 bl
 have z1 := bl.size
 simp only [List.map_cons, List.map_nil, World.size_alloc] at OL
 generalize hW1 : (w.alloc (.cells #[.int .i64 2, .int .i64 t.msg.id, .bool t.msg.reply, .int .i64 t.msg.op, .bool t.msg.auth, .int .i64 t.msg.code, .slice xq t.msg.qs.length yq, .slice xa t.msg.ans.length ya, .slice xb t.msg.aus.length yb, .slice xm t.msg.more.length ym, .slice xp t.msg.pres.length yp, .slice xu t.msg.ups.length yu, .int .i64 t.ip, .slice xc t.client.length yc, .slice xh t.host.length yh, .int .i64 t.when] 39)).alloc (.cells #[.int .u8 2] 5) = W1 at *
 clear hW1 bl KB H
 have bd := below_drew (w := W1)
 replace KB1 := hide (block_kept bd (unhide KB1))
 replace H1 := hide ((unhide H1).below bd)
 replace OL := hide ((unhide OL).below bd)
 have HA := hide (unhide H1).client.at
 have HB := hide (unhide H1).host.at
 have zk := block_lt (unhide KB1)
 replace bb := below_next bb bd
 have zd := bd.size
 clear bd H1
 refine startC [0, 1, 2, 4, 5, 3, 6, 7] (by kernel_rfl) ⟨by kernel_rfl, by kernel_rfl, by kernel_rfl, by kernel_rfl⟩ 6 [(2, fun w' => (fun w' => w'.cell? ⟨w.heap.size, 12, none⟩ = some (.int .i64 t.ip)) w'), (5, fun w' => (fun w' => w'.cell? ⟨w.heap.size, 13, none⟩ = some (.slice xc t.client.length yc)) w')] (fun hA => ?_)
 replace hA := hide hA
 generalize hWD : W1.drew = WD at *
 clear hWD
 repeat ((first | (refine lookC ?_ (unhide hA) rfl rfl rfl (by rfl) (fun _ _ _ h => h) ?_ ?_; rotate_left; · (intro w; go_simp <;> with_reducible rfl)) | refine skipC (unhide hA) rfl rfl (by rfl) (fun _ _ _ h => h) ?_); go_simp)
 refine takeC ?_ (unhide hA) rfl rfl rfl (by rfl) (fun _ _ _ h => h) (.head _) (cells16 (unhide KB1)).2.2.2.2.2.2.2.2.2.2.2.2.1 ?_ ?_; rotate_left; (· (intro w hSw; (try dsimp only at hSw); go_simp <;> with_reducible rfl)); go_simp
 repeat ((first | (refine lookC ?_ (unhide hA) rfl rfl rfl (by rfl) (fun _ _ _ h => h) ?_ ?_; rotate_left; · (intro w; go_simp <;> with_reducible rfl)) | refine skipC (unhide hA) rfl rfl (by rfl) (fun _ _ _ h => h) ?_); go_simp)
 refine takeC ?_ (unhide hA) rfl rfl rfl (by rfl) (fun _ _ _ h => h) (.tail _ (.head _)) (cells16 (unhide KB1)).2.2.2.2.2.2.2.2.2.2.2.2.2.1 ?_ ?_; rotate_left; (· (intro w hSw; (try dsimp only at hSw); go_simp <;> with_reducible rfl)); go_simp
 refine runC (unhide hA) rfl rfl (by kernel_rfl) (by kernel_rfl) (fun K hK => ?_)
 have HK := hide hK
 clear hK
 go_simp
 refine (unhide P1 _ _ _ (unhide OL)).mono ?_
 rintro e w3 ⟨v3, rfl, o3, b3⟩
 have KB3 := hide (block_kept b3 (unhide KB1))
 have HA3 := hide ((unhide HA).below b3)
 have HB3 := hide ((unhide HB).below b3)
 have bb3 := below_next bb b3
 have z3 := b3.size
 clear b3
 refine (unhide HK).out _ _ (keepC_late (by kernel_rfl) (keepC_yes (cells16 (unhide KB3)).2.2.2.2.2.2.2.2.2.2.2.2.2.1 keepC_nil)) ?_
 clear HK K
 go_simp
 repeat ((first | (refine lookC ?_ (unhide hA) rfl rfl rfl (by rfl) (fun _ _ _ h => h) ?_ ?_; rotate_left; · (intro w; go_simp <;> with_reducible rfl)) | refine skipC (unhide hA) rfl rfl (by rfl) (fun _ _ _ h => h) ?_); go_simp)
 refine runC (unhide hA) rfl rfl (by kernel_rfl) (by kernel_rfl) (fun K hK => ?_)
 have HK := hide hK
 clear hK
 go_simp
 refine (unhide P2 _ WD.heap.size _ o3 (unhide HA3) z3).mono ?_
 rintro e w4 ⟨v4, rfl, o4, b4⟩
 have KB4 := hide ((b4.block w.heap.size (by omega)).trans (unhide KB3))
 have HB4 := hide ((unhide HB3).low b4 (Nat.le_refl _))
 have bb4 : Below w.heap.size w w4 := bb3.trans (b4.mono (by omega))
 have z4 := b4.size
 clear b4
 refine (unhide HK).out _ _ (keepC_late (by kernel_rfl) (keepC_late (by kernel_rfl) keepC_nil)) ?_
 clear HK K
 go_simp
 repeat ((first | (refine lookC ?_ (unhide hA) rfl rfl rfl (by rfl) (fun _ _ _ h => h) ?_ ?_; rotate_left; · (intro w; go_simp <;> with_reducible rfl)) | refine skipC (unhide hA) rfl rfl (by rfl) (fun _ _ _ h => h) ?_); go_simp)
 refine doneC (unhide hA) rfl ?_
 clear hA
 go_wp2_with fail
 go_ret
 exact ⟨_, rfl, o4.mono (by omega), bb4⟩
end Go.Proofs.YtfbfakdkemlbmaaGreat
