/-
  Contract of the program's TxnBytes at kind 2. Contract of the program's TxnBytes at kind 3.
-/
import Derived.Test.YtfbfakdkemlbmaaGreatTxnBytesG28
import Derived.Test.YtfbfakdkemlbmaaGreatTxnBytesG29
import Derived.Test.YtfbfakdkemlbmaaGreatTxnBytesG13
import Derived.Test.YtfbfakdkemlbmaaGreatTxnBytesG30
namespace Go.Proofs.YtfbfakdkemlbmaaGreat
open Go.RowKit
set_option linter.unusedVariables false

set_option linter.unusedSimpArgs false

set_option maxHeartbeats 2000000 in
set_option maxRecDepth 100000 in
theorem implTxnBytes2 {vq va vb vm vp vu vc vh : Value} {t : Tx} {w : World} (h : HasTx w vq va vb vm vp vu vc vh t) (hct : t.msg.count ≤ 1048576) (hok : txOk t = true) (hk : t.kind = 2) :
  Calls Tryz.prog 7 #[.agg #[.int .i64 2, .int .i64 t.msg.id, .bool t.msg.reply, .int .i64 t.msg.op, .bool t.msg.auth, .int .i64 t.msg.code, vq, va, vb, vm, vp, vu, .int .i64 t.ip, vc, vh, .int .i64 t.when]] w fun e w' => ∃ v', e = .returned (.tuple #[v', .bool true]) ∧ Own w.heap.size 5 w' v' (2 :: txBody t) ∧ Below w.heap.size w w' := by
 have hbl := txBody_len hok
 rw [txBody2 hk] at hbl ⊢
 obtain ⟨xq, yq, rfl, _, zq⟩ := h.msg.qs.form
 obtain ⟨xa, ya, rfl, _, za⟩ := h.msg.ans.form
 obtain ⟨xb, yb, rfl, _, zb⟩ := h.msg.aus.form
 obtain ⟨xm, ym, rfl, _, zm⟩ := h.msg.more.form
 obtain ⟨xp, yp, rfl, _, zp⟩ := h.msg.pres.form
 obtain ⟨xu, yu, rfl, _, zu⟩ := h.msg.ups.form
 have hcb := h.client.bound
 have hhb := h.host.bound
 obtain ⟨xc, yc, rfl, _⟩ := h.client.form
 obtain ⟨xh, yh, rfl, _⟩ := h.host.form
 have b0 := below_alloc (w := w) (.cells #[.int .i64 2, .int .i64 t.msg.id, .bool t.msg.reply, .int .i64 t.msg.op, .bool t.msg.auth, .int .i64 t.msg.code, .slice xq t.msg.qs.length yq, .slice xa t.msg.ans.length ya, .slice xb t.msg.aus.length yb, .slice xm t.msg.more.length ym, .slice xp t.msg.pres.length yp, .slice xu t.msg.ups.length yu, .int .i64 t.ip, .slice xc t.client.length yc, .slice xh t.host.length yh, .int .i64 t.when] 39)
 have KB := hide (heap_alloc_new w (.cells #[.int .i64 2, .int .i64 t.msg.id, .bool t.msg.reply, .int .i64 t.msg.op, .bool t.msg.auth, .int .i64 t.msg.code, .slice xq t.msg.qs.length yq, .slice xa t.msg.ans.length ya, .slice xb t.msg.aus.length yb, .slice xm t.msg.more.length ym, .slice xp t.msg.pres.length yp, .slice xu t.msg.ups.length yu, .int .i64 t.ip, .slice xc t.client.length yc, .slice xh t.host.length yh, .int .i64 t.when] 39))
 have CM := implTxnOk_has (h.below b0) hct
 rw [hok, hk] at CM
 have CW := fun (w : World) (h : HasTx w (.slice xq t.msg.qs.length yq) (.slice xa t.msg.ans.length ya) (.slice xb t.msg.aus.length yb) (.slice xm t.msg.more.length ym) (.slice xp t.msg.pres.length yp) (.slice xu t.msg.ups.length yu) (.slice xc t.client.length yc) (.slice xh t.host.length yh) t) => write2_has (xh := xh) (yh := yh) h.client (by have := txOk2 hok hk; omega)
 have CD := fun (w : World) => deedOf2_any (xq := xq) (yq := yq) (xa := xa) (ya := ya) (xb := xb) (yb := yb) (xm := xm) (ym := ym) (xp := xp) (yp := yp) (xu := xu) (yu := yu) (xc := xc) (yc := yc) (xh := xh) (yh := yh) (t := t) (w := w)
 have H := hide (h.below b0)
 have hpre : [IntKind.u8.wrap 2] ++ (put32 [] t.ip ++ ((t.client.length : Int) :: t.client)) = 2 :: (put32 [] t.ip ++ ((t.client.length : Int) :: t.client)) := rfl
 rw [← hpre]
 clear hpre
 generalize put32 [] t.ip ++ ((t.client.length : Int) :: t.client) = BM at *
 replace CM := hide CM
 replace CW := hide CW
 replace CD := hide CD
 have zb := b0.size
 clear h hct hok hk
 obtain ⟨d0, d1, d2, d3, d4, d5, d6, d7, d8, d9, d10, d11, d12, d13, d14, d15⟩ := cells16 (unhide KB)
 go_enter Tryz.func7, Tryz.ntmps7
 go_wp2_with fail
 clear d0 d1 d2 d3 d4 d5 d6 d7 d8 d9 d10 d11 d12 d13 d14 d15
 refine (unhide CM).mono ?_
 rintro e w1 ⟨rfl, b1⟩
 have bd := below_next b1 (below_drew (w := w1))
 have bb := below_next b0 bd
 have zd := bd.size
 replace KB := hide (block_kept bd (unhide KB))
 replace H := hide ((unhide H).below bd)
 clear b1 bd b0
 go_wp2_with fail
 have BB := hide bb
 have ZB := bb.size
 clear bb zb zd CM
 refine startF 10 (S := (fun w' => w'.cell? ⟨w.heap.size, 0, none⟩ = some (.int .i64 2) ∧ w'.cell? ⟨w.heap.size, 1, none⟩ = some (.int .i64 t.msg.id) ∧ w'.cell? ⟨w.heap.size, 2, none⟩ = some (.bool t.msg.reply) ∧ w'.cell? ⟨w.heap.size, 3, none⟩ = some (.int .i64 t.msg.op) ∧ w'.cell? ⟨w.heap.size, 4, none⟩ = some (.bool t.msg.auth) ∧ w'.cell? ⟨w.heap.size, 5, none⟩ = some (.int .i64 t.msg.code) ∧ w'.cell? ⟨w.heap.size, 6, none⟩ = some (.slice xq t.msg.qs.length yq) ∧ w'.cell? ⟨w.heap.size, 7, none⟩ = some (.slice xa t.msg.ans.length ya) ∧ w'.cell? ⟨w.heap.size, 8, none⟩ = some (.slice xb t.msg.aus.length yb) ∧ w'.cell? ⟨w.heap.size, 9, none⟩ = some (.slice xm t.msg.more.length ym) ∧ w'.cell? ⟨w.heap.size, 10, none⟩ = some (.slice xp t.msg.pres.length yp) ∧ w'.cell? ⟨w.heap.size, 11, none⟩ = some (.slice xu t.msg.ups.length yu) ∧ w'.cell? ⟨w.heap.size, 12, none⟩ = some (.int .i64 t.ip) ∧ w'.cell? ⟨w.heap.size, 13, none⟩ = some (.slice xc t.client.length yc) ∧ w'.cell? ⟨w.heap.size, 14, none⟩ = some (.slice xh t.host.length yh) ∧ w'.cell? ⟨w.heap.size, 15, none⟩ = some (.int .i64 t.when))) (by kernel_rfl) rfl (cells16 (unhide KB)) (fun hHeld => ?_)
 simp only [List.replicate]
 generalize hWD : w1.drew = WD at *
 clear hWD
 refine tkI 0 ?_ rfl (by kernel_rfl) (by kernel_rfl) (fun _ _ _ h => h) ?_ hHeld ?_; rotate_left; (· (intro w hSw; (try dsimp only at hSw); go_simp <;> with_reducible rfl)); simp only [Act.put, List.setIfInBounds_toArray, List.set_cons_zero, List.set_cons_succ]
 refine tkI 1 ?_ rfl (by kernel_rfl) (by kernel_rfl) (fun _ _ _ h => h) ?_ hHeld ?_; rotate_left; (· (intro w hSw; (try dsimp only at hSw); go_simp <;> with_reducible rfl)); simp only [Act.put, List.setIfInBounds_toArray, List.set_cons_zero, List.set_cons_succ]
 refine tkI 2 ?_ rfl (by kernel_rfl) (by kernel_rfl) (fun _ _ _ h => h) ?_ hHeld ?_; rotate_left; (· (intro w hSw; (try dsimp only at hSw); go_simp <;> with_reducible rfl)); simp only [Act.put, List.setIfInBounds_toArray, List.set_cons_zero, List.set_cons_succ]
 refine tkI 4 ?_ rfl (by kernel_rfl) (by kernel_rfl) (fun _ _ _ h => h) ?_ hHeld ?_; rotate_left; (· (intro w hSw; (try dsimp only at hSw); go_simp <;> with_reducible rfl)); simp only [Act.put, List.setIfInBounds_toArray, List.set_cons_zero, List.set_cons_succ]
 refine wpAnyH_ready (rs := [3, 5]) (by kernel_rfl) (by simp) (AllReadyH.cons (ops_drop rfl) (fun K hK => ?_) (AllReadyH.cons (ops_drop rfl) (fun K hK => ?_) AllReadyH.nil))
 ·have HK := hide hK
  clear hK hHeld
  go_simp
  have ba := below_alloc (w := WD) (.cells #[.int .u8 (IntKind.u8.wrap 2)] 5)
  replace KB := hide (block_kept ba (unhide KB))
  replace H := hide ((unhide H).below ba)
  replace BB := hide (below_next (unhide BB) ba)
  have OL := hide (own_lit WD w.heap.size 5 [IntKind.u8.wrap 2] ZB (by simp [maxLen]))
  simp only [List.map_cons, List.map_nil, List.length_cons, List.length_nil, Nat.zero_add] at OL
  clear ba
  refine (unhide HK).out _ _ (cells16 (unhide KB)) (fun hHeld => ?_)
  clear HK K
  simp only [Act.put, List.setIfInBounds_toArray, List.set_cons_zero, List.set_cons_succ]
  generalize WD.alloc (.cells #[.int .u8 (IntKind.u8.wrap 2)] 5) = X1 at *
  clear ZB
  have ZB := (unhide BB).size
  refine wpAnyH_ready (rs := [5]) (by kernel_rfl) (by simp) (AllReadyH.cons (ops_drop rfl) (fun K hK => ?_) AllReadyH.nil)
  have HK := hide hK
  clear hK hHeld
  go_simp
  refine (unhide CD _).mono ?_
  rintro e X2 ⟨rfl, b2⟩
  replace KB := hide (block_kept b2 (unhide KB))
  replace H := hide ((unhide H).below b2)
  replace BB := hide (below_next (unhide BB) b2)
  replace OL := hide ((unhide OL).below b2)
  clear b2
  go_simp
  refine (unhide HK).out _ _ (cells16 (unhide KB)) (fun hHeld => ?_)
  clear HK K
  simp only [Act.put, List.setIfInBounds_toArray, List.set_cons_zero, List.set_cons_succ]
  clear ZB
  have ZB := (unhide BB).size
  refine wpAnyH_ready (rs := [6]) (by kernel_rfl) (by simp) (AllReadyH.cons (ops_drop rfl) (fun K hK => ?_) AllReadyH.nil)
  have HK := hide hK
  clear hK hHeld
  go_simp
  refine (unhide CW _ (unhide H)).mono ?_
  rintro e X5 ⟨v6, rfl, o2, b2⟩
  replace KB := hide (block_kept b2 (unhide KB))
  replace H := hide ((unhide H).below b2)
  replace BB := hide (below_next (unhide BB) b2)
  replace OL := hide ((unhide OL).below b2)
  have SO := hide (o2.mono ZB)
  clear o2 b2
  go_simp
  refine (unhide HK).out _ _ (cells16 (unhide KB)) (fun hHeld => ?_)
  clear HK K
  simp only [Act.put, List.setIfInBounds_toArray, List.set_cons_zero, List.set_cons_succ]
  clear ZB
  have ZB := (unhide BB).size
  refine runI 7 rfl (by kernel_rfl) (by kernel_rfl) (fun K hK => ?_)
  have HK := hide hK
  clear hK hHeld
  refine append_wp (.tmp 10) (.tmp 13) 27 5 rfl Tryz.underlying27 info_u8 w.heap.size (.slice (some ⟨WD.heap.size, 0, none⟩) 1 1) v6 [IntKind.u8.wrap 2] BM rfl rfl (unhide OL) (unhide SO).reads (by simp; omega) ZB ?_
  intro v9 w9 o9 g9
  have BB9 := (unhide BB).grown g9 ZB (fun q hq => ((unhide OL).lt q hq).1)
  have KB9 := hide (block_grown g9 (unhide KB) (Own.apart (unhide OL) (unhide KB) (by decide)))
  clear g9 KB H BB OL SO
  refine (unhide HK).out _ _ (cells16 (unhide KB9)) (fun hHeld => ?_)
  clear HK K
  simp only [Act.put, List.setIfInBounds_toArray, List.set_cons_zero, List.set_cons_succ]
  refine tkI 8 ?_ rfl (by kernel_rfl) (by kernel_rfl) (fun _ _ _ h => h) ?_ hHeld ?_; rotate_left; (· (intro w hSw; (try dsimp only at hSw); go_simp <;> with_reducible rfl)); simp only [Act.put, List.setIfInBounds_toArray, List.set_cons_zero, List.set_cons_succ]
  refine tkI 9 ?_ rfl (by kernel_rfl) (by kernel_rfl) (fun _ _ _ h => h) ?_ hHeld ?_; rotate_left; (· (intro w hSw; (try dsimp only at hSw); go_simp <;> with_reducible rfl)); simp only [Act.put, List.setIfInBounds_toArray, List.set_cons_zero, List.set_cons_succ]
  refine wpAnyH_done (by kernel_rfl) ?_ _
  clear hHeld
  go_wp2_with fail
  go_ret2
  exact ⟨_, rfl, o9, BB9⟩
 ·have HK := hide hK
  clear hK hHeld
  go_simp
  refine (unhide CD _).mono ?_
  rintro e X7 ⟨rfl, b2⟩
  replace KB := hide (block_kept b2 (unhide KB))
  replace H := hide ((unhide H).below b2)
  replace BB := hide (below_next (unhide BB) b2)
  clear b2
  go_simp
  refine (unhide HK).out _ _ (cells16 (unhide KB)) (fun hHeld => ?_)
  clear HK K
  simp only [Act.put, List.setIfInBounds_toArray, List.set_cons_zero, List.set_cons_succ]
  clear ZB
  have ZB := (unhide BB).size
  refine wpAnyH_ready (rs := [3, 6]) (by kernel_rfl) (by simp) (AllReadyH.cons (ops_drop rfl) (fun K hK => ?_) (AllReadyH.cons (ops_drop rfl) (fun K hK => ?_) AllReadyH.nil))
  ·have HK := hide hK
   clear hK hHeld
   go_simp
   have ba := below_alloc (w := X7) (.cells #[.int .u8 (IntKind.u8.wrap 2)] 5)
   replace KB := hide (block_kept ba (unhide KB))
   replace H := hide ((unhide H).below ba)
   replace BB := hide (below_next (unhide BB) ba)
   have OL := hide (own_lit X7 w.heap.size 5 [IntKind.u8.wrap 2] ZB (by simp [maxLen]))
   simp only [List.map_cons, List.map_nil, List.length_cons, List.length_nil, Nat.zero_add] at OL
   clear ba
   refine (unhide HK).out _ _ (cells16 (unhide KB)) (fun hHeld => ?_)
   clear HK K
   simp only [Act.put, List.setIfInBounds_toArray, List.set_cons_zero, List.set_cons_succ]
   generalize X7.alloc (.cells #[.int .u8 (IntKind.u8.wrap 2)] 5) = X8 at *
   clear ZB
   have ZB := (unhide BB).size
   refine wpAnyH_ready (rs := [6]) (by kernel_rfl) (by simp) (AllReadyH.cons (ops_drop rfl) (fun K hK => ?_) AllReadyH.nil)
   have HK := hide hK
   clear hK hHeld
   go_simp
   refine (unhide CW _ (unhide H)).mono ?_
   rintro e X9 ⟨v10, rfl, o2, b2⟩
   replace KB := hide (block_kept b2 (unhide KB))
   replace H := hide ((unhide H).below b2)
   replace BB := hide (below_next (unhide BB) b2)
   replace OL := hide ((unhide OL).below b2)
   have SO := hide (o2.mono ZB)
   clear o2 b2
   go_simp
   refine (unhide HK).out _ _ (cells16 (unhide KB)) (fun hHeld => ?_)
   clear HK K
   simp only [Act.put, List.setIfInBounds_toArray, List.set_cons_zero, List.set_cons_succ]
   clear ZB
   have ZB := (unhide BB).size
   refine runI 7 rfl (by kernel_rfl) (by kernel_rfl) (fun K hK => ?_)
   have HK := hide hK
   clear hK hHeld
   refine append_wp (.tmp 10) (.tmp 13) 27 5 rfl Tryz.underlying27 info_u8 w.heap.size (.slice (some ⟨X7.heap.size, 0, none⟩) 1 1) v10 [IntKind.u8.wrap 2] BM rfl rfl (unhide OL) (unhide SO).reads (by simp; omega) ZB ?_
   intro v9 w9 o9 g9
   have BB9 := (unhide BB).grown g9 ZB (fun q hq => ((unhide OL).lt q hq).1)
   have KB9 := hide (block_grown g9 (unhide KB) (Own.apart (unhide OL) (unhide KB) (by decide)))
   clear g9 KB H BB OL SO
   refine (unhide HK).out _ _ (cells16 (unhide KB9)) (fun hHeld => ?_)
   clear HK K
   simp only [Act.put, List.setIfInBounds_toArray, List.set_cons_zero, List.set_cons_succ]
   refine tkI 8 ?_ rfl (by kernel_rfl) (by kernel_rfl) (fun _ _ _ h => h) ?_ hHeld ?_; rotate_left; (· (intro w hSw; (try dsimp only at hSw); go_simp <;> with_reducible rfl)); simp only [Act.put, List.setIfInBounds_toArray, List.set_cons_zero, List.set_cons_succ]
   refine tkI 9 ?_ rfl (by kernel_rfl) (by kernel_rfl) (fun _ _ _ h => h) ?_ hHeld ?_; rotate_left; (· (intro w hSw; (try dsimp only at hSw); go_simp <;> with_reducible rfl)); simp only [Act.put, List.setIfInBounds_toArray, List.set_cons_zero, List.set_cons_succ]
   refine wpAnyH_done (by kernel_rfl) ?_ _
   clear hHeld
   go_wp2_with fail
   go_ret2
   exact ⟨_, rfl, o9, BB9⟩
  ·have HK := hide hK
   clear hK hHeld
   go_simp
   refine (unhide CW _ (unhide H)).mono ?_
   rintro e X11 ⟨v12, rfl, o2, b2⟩
   replace KB := hide (block_kept b2 (unhide KB))
   replace H := hide ((unhide H).below b2)
   replace BB := hide (below_next (unhide BB) b2)
   have SO := hide (o2.mono ZB)
   clear o2 b2
   go_simp
   refine (unhide HK).out _ _ (cells16 (unhide KB)) (fun hHeld => ?_)
   clear HK K
   simp only [Act.put, List.setIfInBounds_toArray, List.set_cons_zero, List.set_cons_succ]
   clear ZB
   have ZB := (unhide BB).size
   refine wpAnyH_ready (rs := [3]) (by kernel_rfl) (by simp) (AllReadyH.cons (ops_drop rfl) (fun K hK => ?_) AllReadyH.nil)
   have HK := hide hK
   clear hK hHeld
   go_simp
   have ba := below_alloc (w := X11) (.cells #[.int .u8 (IntKind.u8.wrap 2)] 5)
   replace KB := hide (block_kept ba (unhide KB))
   replace H := hide ((unhide H).below ba)
   replace BB := hide (below_next (unhide BB) ba)
   replace SO := hide ((unhide SO).below ba)
   have OL := hide (own_lit X11 w.heap.size 5 [IntKind.u8.wrap 2] ZB (by simp [maxLen]))
   simp only [List.map_cons, List.map_nil, List.length_cons, List.length_nil, Nat.zero_add] at OL
   clear ba
   refine (unhide HK).out _ _ (cells16 (unhide KB)) (fun hHeld => ?_)
   clear HK K
   simp only [Act.put, List.setIfInBounds_toArray, List.set_cons_zero, List.set_cons_succ]
   generalize X11.alloc (.cells #[.int .u8 (IntKind.u8.wrap 2)] 5) = X13 at *
   clear ZB
   have ZB := (unhide BB).size
   refine runI 7 rfl (by kernel_rfl) (by kernel_rfl) (fun K hK => ?_)
   have HK := hide hK
   clear hK hHeld
   refine append_wp (.tmp 10) (.tmp 13) 27 5 rfl Tryz.underlying27 info_u8 w.heap.size (.slice (some ⟨X11.heap.size, 0, none⟩) 1 1) v12 [IntKind.u8.wrap 2] BM rfl rfl (unhide OL) (unhide SO).reads (by simp; omega) ZB ?_
   intro v9 w9 o9 g9
   have BB9 := (unhide BB).grown g9 ZB (fun q hq => ((unhide OL).lt q hq).1)
   have KB9 := hide (block_grown g9 (unhide KB) (Own.apart (unhide OL) (unhide KB) (by decide)))
   clear g9 KB H BB OL SO
   refine (unhide HK).out _ _ (cells16 (unhide KB9)) (fun hHeld => ?_)
   clear HK K
   simp only [Act.put, List.setIfInBounds_toArray, List.set_cons_zero, List.set_cons_succ]
   refine tkI 8 ?_ rfl (by kernel_rfl) (by kernel_rfl) (fun _ _ _ h => h) ?_ hHeld ?_; rotate_left; (· (intro w hSw; (try dsimp only at hSw); go_simp <;> with_reducible rfl)); simp only [Act.put, List.setIfInBounds_toArray, List.set_cons_zero, List.set_cons_succ]
   refine tkI 9 ?_ rfl (by kernel_rfl) (by kernel_rfl) (fun _ _ _ h => h) ?_ hHeld ?_; rotate_left; (· (intro w hSw; (try dsimp only at hSw); go_simp <;> with_reducible rfl)); simp only [Act.put, List.setIfInBounds_toArray, List.set_cons_zero, List.set_cons_succ]
   refine wpAnyH_done (by kernel_rfl) ?_ _
   clear hHeld
   go_wp2_with fail
   go_ret2
   exact ⟨_, rfl, o9, BB9⟩
end Go.Proofs.YtfbfakdkemlbmaaGreat

namespace Go.Proofs.YtfbfakdkemlbmaaGreat
open Go.RowKit
set_option linter.unusedVariables false

set_option linter.unusedSimpArgs false

set_option maxHeartbeats 2000000 in
set_option maxRecDepth 100000 in
theorem implTxnBytes3 {vq va vb vm vp vu vc vh : Value} {t : Tx} {w : World} (h : HasTx w vq va vb vm vp vu vc vh t) (hct : t.msg.count ≤ 1048576) (hok : txOk t = true) (hk : t.kind = 3) :
  Calls Tryz.prog 7 #[.agg #[.int .i64 3, .int .i64 t.msg.id, .bool t.msg.reply, .int .i64 t.msg.op, .bool t.msg.auth, .int .i64 t.msg.code, vq, va, vb, vm, vp, vu, .int .i64 t.ip, vc, vh, .int .i64 t.when]] w fun e w' => ∃ v', e = .returned (.tuple #[v', .bool true]) ∧ Own w.heap.size 5 w' v' (3 :: txBody t) ∧ Below w.heap.size w w' := by
 have hbl := txBody_len hok
 rw [txBody3 hk] at hbl ⊢
 obtain ⟨xq, yq, rfl, _, zq⟩ := h.msg.qs.form
 obtain ⟨xa, ya, rfl, _, za⟩ := h.msg.ans.form
 obtain ⟨xb, yb, rfl, _, zb⟩ := h.msg.aus.form
 obtain ⟨xm, ym, rfl, _, zm⟩ := h.msg.more.form
 obtain ⟨xp, yp, rfl, _, zp⟩ := h.msg.pres.form
 obtain ⟨xu, yu, rfl, _, zu⟩ := h.msg.ups.form
 have hcb := h.client.bound
 have hhb := h.host.bound
 obtain ⟨xc, yc, rfl, _⟩ := h.client.form
 obtain ⟨xh, yh, rfl, _⟩ := h.host.form
 have b0 := below_alloc (w := w) (.cells #[.int .i64 3, .int .i64 t.msg.id, .bool t.msg.reply, .int .i64 t.msg.op, .bool t.msg.auth, .int .i64 t.msg.code, .slice xq t.msg.qs.length yq, .slice xa t.msg.ans.length ya, .slice xb t.msg.aus.length yb, .slice xm t.msg.more.length ym, .slice xp t.msg.pres.length yp, .slice xu t.msg.ups.length yu, .int .i64 t.ip, .slice xc t.client.length yc, .slice xh t.host.length yh, .int .i64 t.when] 39)
 have KB := hide (heap_alloc_new w (.cells #[.int .i64 3, .int .i64 t.msg.id, .bool t.msg.reply, .int .i64 t.msg.op, .bool t.msg.auth, .int .i64 t.msg.code, .slice xq t.msg.qs.length yq, .slice xa t.msg.ans.length ya, .slice xb t.msg.aus.length yb, .slice xm t.msg.more.length ym, .slice xp t.msg.pres.length yp, .slice xu t.msg.ups.length yu, .int .i64 t.ip, .slice xc t.client.length yc, .slice xh t.host.length yh, .int .i64 t.when] 39))
 have CM := implTxnOk_has (h.below b0) hct
 rw [hok, hk] at CM
 have CW := fun (w : World) (h : HasTx w (.slice xq t.msg.qs.length yq) (.slice xa t.msg.ans.length ya) (.slice xb t.msg.aus.length yb) (.slice xm t.msg.more.length ym) (.slice xp t.msg.pres.length yp) (.slice xu t.msg.ups.length yu) (.slice xc t.client.length yc) (.slice xh t.host.length yh) t) => write3_any (t := t) (w := w)
 have CD := fun (w : World) => deedOf3_any (xq := xq) (yq := yq) (xa := xa) (ya := ya) (xb := xb) (yb := yb) (xm := xm) (ym := ym) (xp := xp) (yp := yp) (xu := xu) (yu := yu) (xc := xc) (yc := yc) (xh := xh) (yh := yh) (t := t) (w := w)
 have H := hide (h.below b0)
 have hpre : [IntKind.u8.wrap 3] ++ (put32 [] t.when) = 3 :: (put32 [] t.when) := rfl
 rw [← hpre]
 clear hpre
 generalize put32 [] t.when = BM at *
 replace CM := hide CM
 replace CW := hide CW
 replace CD := hide CD
 have zb := b0.size
 clear h hct hok hk
 obtain ⟨d0, d1, d2, d3, d4, d5, d6, d7, d8, d9, d10, d11, d12, d13, d14, d15⟩ := cells16 (unhide KB)
 go_enter Tryz.func7, Tryz.ntmps7
 go_wp2_with fail
 clear d0 d1 d2 d3 d4 d5 d6 d7 d8 d9 d10 d11 d12 d13 d14 d15
 refine (unhide CM).mono ?_
 rintro e w1 ⟨rfl, b1⟩
 have bd := below_next b1 (below_drew (w := w1))
 have bb := below_next b0 bd
 have zd := bd.size
 replace KB := hide (block_kept bd (unhide KB))
 replace H := hide ((unhide H).below bd)
 clear b1 bd b0
 go_wp2_with fail
 have BB := hide bb
 have ZB := bb.size
 clear bb zb zd CM
 refine startF 10 (S := (fun w' => w'.cell? ⟨w.heap.size, 0, none⟩ = some (.int .i64 3) ∧ w'.cell? ⟨w.heap.size, 1, none⟩ = some (.int .i64 t.msg.id) ∧ w'.cell? ⟨w.heap.size, 2, none⟩ = some (.bool t.msg.reply) ∧ w'.cell? ⟨w.heap.size, 3, none⟩ = some (.int .i64 t.msg.op) ∧ w'.cell? ⟨w.heap.size, 4, none⟩ = some (.bool t.msg.auth) ∧ w'.cell? ⟨w.heap.size, 5, none⟩ = some (.int .i64 t.msg.code) ∧ w'.cell? ⟨w.heap.size, 6, none⟩ = some (.slice xq t.msg.qs.length yq) ∧ w'.cell? ⟨w.heap.size, 7, none⟩ = some (.slice xa t.msg.ans.length ya) ∧ w'.cell? ⟨w.heap.size, 8, none⟩ = some (.slice xb t.msg.aus.length yb) ∧ w'.cell? ⟨w.heap.size, 9, none⟩ = some (.slice xm t.msg.more.length ym) ∧ w'.cell? ⟨w.heap.size, 10, none⟩ = some (.slice xp t.msg.pres.length yp) ∧ w'.cell? ⟨w.heap.size, 11, none⟩ = some (.slice xu t.msg.ups.length yu) ∧ w'.cell? ⟨w.heap.size, 12, none⟩ = some (.int .i64 t.ip) ∧ w'.cell? ⟨w.heap.size, 13, none⟩ = some (.slice xc t.client.length yc) ∧ w'.cell? ⟨w.heap.size, 14, none⟩ = some (.slice xh t.host.length yh) ∧ w'.cell? ⟨w.heap.size, 15, none⟩ = some (.int .i64 t.when))) (by kernel_rfl) rfl (cells16 (unhide KB)) (fun hHeld => ?_)
 simp only [List.replicate]
 generalize hWD : w1.drew = WD at *
 clear hWD
 refine tkI 0 ?_ rfl (by kernel_rfl) (by kernel_rfl) (fun _ _ _ h => h) ?_ hHeld ?_; rotate_left; (· (intro w hSw; (try dsimp only at hSw); go_simp <;> with_reducible rfl)); simp only [Act.put, List.setIfInBounds_toArray, List.set_cons_zero, List.set_cons_succ]
 refine tkI 1 ?_ rfl (by kernel_rfl) (by kernel_rfl) (fun _ _ _ h => h) ?_ hHeld ?_; rotate_left; (· (intro w hSw; (try dsimp only at hSw); go_simp <;> with_reducible rfl)); simp only [Act.put, List.setIfInBounds_toArray, List.set_cons_zero, List.set_cons_succ]
 refine tkI 2 ?_ rfl (by kernel_rfl) (by kernel_rfl) (fun _ _ _ h => h) ?_ hHeld ?_; rotate_left; (· (intro w hSw; (try dsimp only at hSw); go_simp <;> with_reducible rfl)); simp only [Act.put, List.setIfInBounds_toArray, List.set_cons_zero, List.set_cons_succ]
 refine tkI 4 ?_ rfl (by kernel_rfl) (by kernel_rfl) (fun _ _ _ h => h) ?_ hHeld ?_; rotate_left; (· (intro w hSw; (try dsimp only at hSw); go_simp <;> with_reducible rfl)); simp only [Act.put, List.setIfInBounds_toArray, List.set_cons_zero, List.set_cons_succ]
 refine wpAnyH_ready (rs := [3, 5]) (by kernel_rfl) (by simp) (AllReadyH.cons (ops_drop rfl) (fun K hK => ?_) (AllReadyH.cons (ops_drop rfl) (fun K hK => ?_) AllReadyH.nil))
 ·have HK := hide hK
  clear hK hHeld
  go_simp
  have ba := below_alloc (w := WD) (.cells #[.int .u8 (IntKind.u8.wrap 3)] 5)
  replace KB := hide (block_kept ba (unhide KB))
  replace H := hide ((unhide H).below ba)
  replace BB := hide (below_next (unhide BB) ba)
  have OL := hide (own_lit WD w.heap.size 5 [IntKind.u8.wrap 3] ZB (by simp [maxLen]))
  simp only [List.map_cons, List.map_nil, List.length_cons, List.length_nil, Nat.zero_add] at OL
  clear ba
  refine (unhide HK).out _ _ (cells16 (unhide KB)) (fun hHeld => ?_)
  clear HK K
  simp only [Act.put, List.setIfInBounds_toArray, List.set_cons_zero, List.set_cons_succ]
  generalize WD.alloc (.cells #[.int .u8 (IntKind.u8.wrap 3)] 5) = X1 at *
  clear ZB
  have ZB := (unhide BB).size
  refine wpAnyH_ready (rs := [5]) (by kernel_rfl) (by simp) (AllReadyH.cons (ops_drop rfl) (fun K hK => ?_) AllReadyH.nil)
  have HK := hide hK
  clear hK hHeld
  go_simp
  refine (unhide CD _).mono ?_
  rintro e X2 ⟨rfl, b2⟩
  replace KB := hide (block_kept b2 (unhide KB))
  replace H := hide ((unhide H).below b2)
  replace BB := hide (below_next (unhide BB) b2)
  replace OL := hide ((unhide OL).below b2)
  clear b2
  go_simp
  refine (unhide HK).out _ _ (cells16 (unhide KB)) (fun hHeld => ?_)
  clear HK K
  simp only [Act.put, List.setIfInBounds_toArray, List.set_cons_zero, List.set_cons_succ]
  clear ZB
  have ZB := (unhide BB).size
  refine wpAnyH_ready (rs := [6]) (by kernel_rfl) (by simp) (AllReadyH.cons (ops_drop rfl) (fun K hK => ?_) AllReadyH.nil)
  have HK := hide hK
  clear hK hHeld
  go_simp
  refine (unhide CW _ (unhide H)).mono ?_
  rintro e X5 ⟨v6, rfl, o2, b2⟩
  replace KB := hide (block_kept b2 (unhide KB))
  replace H := hide ((unhide H).below b2)
  replace BB := hide (below_next (unhide BB) b2)
  replace OL := hide ((unhide OL).below b2)
  have SO := hide (o2.mono ZB)
  clear o2 b2
  go_simp
  refine (unhide HK).out _ _ (cells16 (unhide KB)) (fun hHeld => ?_)
  clear HK K
  simp only [Act.put, List.setIfInBounds_toArray, List.set_cons_zero, List.set_cons_succ]
  clear ZB
  have ZB := (unhide BB).size
  refine runI 7 rfl (by kernel_rfl) (by kernel_rfl) (fun K hK => ?_)
  have HK := hide hK
  clear hK hHeld
  refine append_wp (.tmp 10) (.tmp 13) 27 5 rfl Tryz.underlying27 info_u8 w.heap.size (.slice (some ⟨WD.heap.size, 0, none⟩) 1 1) v6 [IntKind.u8.wrap 3] BM rfl rfl (unhide OL) (unhide SO).reads (by simp; omega) ZB ?_
  intro v9 w9 o9 g9
  have BB9 := (unhide BB).grown g9 ZB (fun q hq => ((unhide OL).lt q hq).1)
  have KB9 := hide (block_grown g9 (unhide KB) (Own.apart (unhide OL) (unhide KB) (by decide)))
  clear g9 KB H BB OL SO
  refine (unhide HK).out _ _ (cells16 (unhide KB9)) (fun hHeld => ?_)
  clear HK K
  simp only [Act.put, List.setIfInBounds_toArray, List.set_cons_zero, List.set_cons_succ]
  refine tkI 8 ?_ rfl (by kernel_rfl) (by kernel_rfl) (fun _ _ _ h => h) ?_ hHeld ?_; rotate_left; (· (intro w hSw; (try dsimp only at hSw); go_simp <;> with_reducible rfl)); simp only [Act.put, List.setIfInBounds_toArray, List.set_cons_zero, List.set_cons_succ]
  refine tkI 9 ?_ rfl (by kernel_rfl) (by kernel_rfl) (fun _ _ _ h => h) ?_ hHeld ?_; rotate_left; (· (intro w hSw; (try dsimp only at hSw); go_simp <;> with_reducible rfl)); simp only [Act.put, List.setIfInBounds_toArray, List.set_cons_zero, List.set_cons_succ]
  refine wpAnyH_done (by kernel_rfl) ?_ _
  clear hHeld
  go_wp2_with fail
  go_ret2
  exact ⟨_, rfl, o9, BB9⟩
 ·have HK := hide hK
  clear hK hHeld
  go_simp
  refine (unhide CD _).mono ?_
  rintro e X7 ⟨rfl, b2⟩
  replace KB := hide (block_kept b2 (unhide KB))
  replace H := hide ((unhide H).below b2)
  replace BB := hide (below_next (unhide BB) b2)
  clear b2
  go_simp
  refine (unhide HK).out _ _ (cells16 (unhide KB)) (fun hHeld => ?_)
  clear HK K
  simp only [Act.put, List.setIfInBounds_toArray, List.set_cons_zero, List.set_cons_succ]
  clear ZB
  have ZB := (unhide BB).size
  refine wpAnyH_ready (rs := [3, 6]) (by kernel_rfl) (by simp) (AllReadyH.cons (ops_drop rfl) (fun K hK => ?_) (AllReadyH.cons (ops_drop rfl) (fun K hK => ?_) AllReadyH.nil))
  ·have HK := hide hK
   clear hK hHeld
   go_simp
   have ba := below_alloc (w := X7) (.cells #[.int .u8 (IntKind.u8.wrap 3)] 5)
   replace KB := hide (block_kept ba (unhide KB))
   replace H := hide ((unhide H).below ba)
   replace BB := hide (below_next (unhide BB) ba)
   have OL := hide (own_lit X7 w.heap.size 5 [IntKind.u8.wrap 3] ZB (by simp [maxLen]))
   simp only [List.map_cons, List.map_nil, List.length_cons, List.length_nil, Nat.zero_add] at OL
   clear ba
   refine (unhide HK).out _ _ (cells16 (unhide KB)) (fun hHeld => ?_)
   clear HK K
   simp only [Act.put, List.setIfInBounds_toArray, List.set_cons_zero, List.set_cons_succ]
   generalize X7.alloc (.cells #[.int .u8 (IntKind.u8.wrap 3)] 5) = X8 at *
   clear ZB
   have ZB := (unhide BB).size
   refine wpAnyH_ready (rs := [6]) (by kernel_rfl) (by simp) (AllReadyH.cons (ops_drop rfl) (fun K hK => ?_) AllReadyH.nil)
   have HK := hide hK
   clear hK hHeld
   go_simp
   refine (unhide CW _ (unhide H)).mono ?_
   rintro e X9 ⟨v10, rfl, o2, b2⟩
   replace KB := hide (block_kept b2 (unhide KB))
   replace H := hide ((unhide H).below b2)
   replace BB := hide (below_next (unhide BB) b2)
   replace OL := hide ((unhide OL).below b2)
   have SO := hide (o2.mono ZB)
   clear o2 b2
   go_simp
   refine (unhide HK).out _ _ (cells16 (unhide KB)) (fun hHeld => ?_)
   clear HK K
   simp only [Act.put, List.setIfInBounds_toArray, List.set_cons_zero, List.set_cons_succ]
   clear ZB
   have ZB := (unhide BB).size
   refine runI 7 rfl (by kernel_rfl) (by kernel_rfl) (fun K hK => ?_)
   have HK := hide hK
   clear hK hHeld
   refine append_wp (.tmp 10) (.tmp 13) 27 5 rfl Tryz.underlying27 info_u8 w.heap.size (.slice (some ⟨X7.heap.size, 0, none⟩) 1 1) v10 [IntKind.u8.wrap 3] BM rfl rfl (unhide OL) (unhide SO).reads (by simp; omega) ZB ?_
   intro v9 w9 o9 g9
   have BB9 := (unhide BB).grown g9 ZB (fun q hq => ((unhide OL).lt q hq).1)
   have KB9 := hide (block_grown g9 (unhide KB) (Own.apart (unhide OL) (unhide KB) (by decide)))
   clear g9 KB H BB OL SO
   refine (unhide HK).out _ _ (cells16 (unhide KB9)) (fun hHeld => ?_)
   clear HK K
   simp only [Act.put, List.setIfInBounds_toArray, List.set_cons_zero, List.set_cons_succ]
   refine tkI 8 ?_ rfl (by kernel_rfl) (by kernel_rfl) (fun _ _ _ h => h) ?_ hHeld ?_; rotate_left; (· (intro w hSw; (try dsimp only at hSw); go_simp <;> with_reducible rfl)); simp only [Act.put, List.setIfInBounds_toArray, List.set_cons_zero, List.set_cons_succ]
   refine tkI 9 ?_ rfl (by kernel_rfl) (by kernel_rfl) (fun _ _ _ h => h) ?_ hHeld ?_; rotate_left; (· (intro w hSw; (try dsimp only at hSw); go_simp <;> with_reducible rfl)); simp only [Act.put, List.setIfInBounds_toArray, List.set_cons_zero, List.set_cons_succ]
   refine wpAnyH_done (by kernel_rfl) ?_ _
   clear hHeld
   go_wp2_with fail
   go_ret2
   exact ⟨_, rfl, o9, BB9⟩
  ·have HK := hide hK
   clear hK hHeld
   go_simp
   refine (unhide CW _ (unhide H)).mono ?_
   rintro e X11 ⟨v12, rfl, o2, b2⟩
   replace KB := hide (block_kept b2 (unhide KB))
   replace H := hide ((unhide H).below b2)
   replace BB := hide (below_next (unhide BB) b2)
   have SO := hide (o2.mono ZB)
   clear o2 b2
   go_simp
   refine (unhide HK).out _ _ (cells16 (unhide KB)) (fun hHeld => ?_)
   clear HK K
   simp only [Act.put, List.setIfInBounds_toArray, List.set_cons_zero, List.set_cons_succ]
   clear ZB
   have ZB := (unhide BB).size
   refine wpAnyH_ready (rs := [3]) (by kernel_rfl) (by simp) (AllReadyH.cons (ops_drop rfl) (fun K hK => ?_) AllReadyH.nil)
   have HK := hide hK
   clear hK hHeld
   go_simp
   have ba := below_alloc (w := X11) (.cells #[.int .u8 (IntKind.u8.wrap 3)] 5)
   replace KB := hide (block_kept ba (unhide KB))
   replace H := hide ((unhide H).below ba)
   replace BB := hide (below_next (unhide BB) ba)
   replace SO := hide ((unhide SO).below ba)
   have OL := hide (own_lit X11 w.heap.size 5 [IntKind.u8.wrap 3] ZB (by simp [maxLen]))
   simp only [List.map_cons, List.map_nil, List.length_cons, List.length_nil, Nat.zero_add] at OL
   clear ba
   refine (unhide HK).out _ _ (cells16 (unhide KB)) (fun hHeld => ?_)
   clear HK K
   simp only [Act.put, List.setIfInBounds_toArray, List.set_cons_zero, List.set_cons_succ]
   generalize X11.alloc (.cells #[.int .u8 (IntKind.u8.wrap 3)] 5) = X13 at *
   clear ZB
   have ZB := (unhide BB).size
   refine runI 7 rfl (by kernel_rfl) (by kernel_rfl) (fun K hK => ?_)
   have HK := hide hK
   clear hK hHeld
   refine append_wp (.tmp 10) (.tmp 13) 27 5 rfl Tryz.underlying27 info_u8 w.heap.size (.slice (some ⟨X11.heap.size, 0, none⟩) 1 1) v12 [IntKind.u8.wrap 3] BM rfl rfl (unhide OL) (unhide SO).reads (by simp; omega) ZB ?_
   intro v9 w9 o9 g9
   have BB9 := (unhide BB).grown g9 ZB (fun q hq => ((unhide OL).lt q hq).1)
   have KB9 := hide (block_grown g9 (unhide KB) (Own.apart (unhide OL) (unhide KB) (by decide)))
   clear g9 KB H BB OL SO
   refine (unhide HK).out _ _ (cells16 (unhide KB9)) (fun hHeld => ?_)
   clear HK K
   simp only [Act.put, List.setIfInBounds_toArray, List.set_cons_zero, List.set_cons_succ]
   refine tkI 8 ?_ rfl (by kernel_rfl) (by kernel_rfl) (fun _ _ _ h => h) ?_ hHeld ?_; rotate_left; (· (intro w hSw; (try dsimp only at hSw); go_simp <;> with_reducible rfl)); simp only [Act.put, List.setIfInBounds_toArray, List.set_cons_zero, List.set_cons_succ]
   refine tkI 9 ?_ rfl (by kernel_rfl) (by kernel_rfl) (fun _ _ _ h => h) ?_ hHeld ?_; rotate_left; (· (intro w hSw; (try dsimp only at hSw); go_simp <;> with_reducible rfl)); simp only [Act.put, List.setIfInBounds_toArray, List.set_cons_zero, List.set_cons_succ]
   refine wpAnyH_done (by kernel_rfl) ?_ _
   clear hHeld
   go_wp2_with fail
   go_ret2
   exact ⟨_, rfl, o9, BB9⟩
end Go.Proofs.YtfbfakdkemlbmaaGreat
