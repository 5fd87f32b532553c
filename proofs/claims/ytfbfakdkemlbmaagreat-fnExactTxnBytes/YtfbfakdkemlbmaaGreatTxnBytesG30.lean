/-
  Plain facts: where an append to an own row of bytes leaves it: in its block, or in a new one. No program is named here. Contract of the program's TxnBytes at kind 0.
-/
import Derived.Test.YtfbfakdkemlbmaaGreatTxnBytesG03
import Derived.Test.YtfbfakdkemlbmaaGreatTxnBytesG01
import Derived.Test.YtfbfakdkemlbmaaGreatTxnBytesG28
import Derived.Test.YtfbfakdkemlbmaaGreatTxnBytesG29
import Derived.Test.YtfbfakdkemlbmaaGreatTxnBytesG13
namespace Go.Proofs.YtfbfakdkemlbmaaGreat
open Go.RowKit

section
variable {P : Program} {w : World}

theorem where_bytes {t ty e : TypeId} (ht : P.underlying t = some (.slice e)) (hinfo : (P.info? e).map (fun i => (i.zero, i.size, i.bytes)) = some (some (.int .u8 0), 1, 1))
  {base : Nat} {v vx : Value} {l m : List Int} (hown : Own base e w v l) (hr : Reads w vx m) (hlen : l.length + m.length ≤ 1099511627776) (hbase : base ≤ w.heap.size) {v' : Value} {w' : World}
  (hrun : (Builtin.append_ #[t, t] ty #[v, vx]).run P w = .ok v' w') : v'.ownBlock = v.ownBlock ∨ v'.ownBlock = some w.heap.size := by
 obtain ⟨i0, hi, hz0, hz1, hz2⟩ := info_parts hinfo
 rcases hr with ⟨rfl, rfl⟩ | ⟨ad, cap, rfl, hc⟩
 ·rw [run_append_owned_none w base t ty e i0 1 ht hi v l.length (l.map (Value.int .u8)) hown] at hrun
  simp only [Result.ok.injEq] at hrun
  left; rw [hrun.1]
 ·obtain ⟨v2, w2, h1, _, _, h4⟩ := run_append_own (P := P) w base t ty e i0 (.int .u8 0) 1 1 ht hi hz0 hz1 hz2 rfl (by decide) v l.length (l.map (Value.int .u8)) hown ad m.length cap (m.map (Value.int .u8)) (by simp) (news_of hc) (one_of m) (by unfold maxLen; omega) (by omega) hbase
  rcases hown.2 with ⟨rfl, h0⟩ | ⟨g, cp, cur, rfl, hbg, hg, hnc, hcm, hcs, htake⟩
  ·by_cases hm : m.length = 0
   ·rw [h1] at hrun
    simp only [Result.ok.injEq] at hrun
    have := h4.2 ⟨rfl, hm⟩
    rw [← hrun.1, this]
    exact .inl rfl
   ·rw [run_append_nil (P := P) w t ty e i0 (.int .u8 0) ht hi hz0 ad m.length cap (m.map (Value.int .u8)) (by simp [hz1]) (news_of hc) (by omega) (by omega) (by rw [hz2]; omega)] at hrun
    simp only [Result.ok.injEq] at hrun
    right; rw [← hrun.1]; rfl
  ·by_cases hroom : l.length + m.length ≤ cp
   ·rw [run_append_room (P := P) w t ty e i0 ht hi g l.length cp cur hg ad m.length cap (m.map (Value.int .u8)) (by simp [hz1]) (news_of hc) (one_of m) hroom (by rw [hz1]; simp; omega)] at hrun
    simp only [Result.ok.injEq] at hrun
    left; rw [← hrun.1]; rfl
   ·have holds : ∀ j u, (l.map (Value.int .u8))[j]? = some u → w.cell? ((⟨g, 0, none⟩ : Addr).add j) = some u := World.ownsRow.cells hown (g := g) rfl
    rw [run_append_grow (P := P) w t ty e i0 (.int .u8 0) ht hi hz0 ⟨g, 0, none⟩ l.length cp (l.map (Value.int .u8)) (by simp [hz1]) holds ad m.length cap (m.map (Value.int .u8)) (by simp [hz1]) (news_of hc) (by omega) (by omega) (growslice_fits (by omega) (by rw [hz2]; omega))] at hrun
    simp only [Result.ok.injEq] at hrun
    right; rw [← hrun.1]; rfl

/-- 'append(s, x...)' of bytes, as a step of a region, and where it leaves the row. -/
theorem step_append_where {ops : Array Oper} {o : Oper} {a : Act} {K : Act → World → Prop} {Q : Exit → Act → World → Prop} {E : Prop} (hgd : o.guard = none) (s x : Operand) (t e : TypeId)
  (ho : o.op = .call { callee := .builtin .append, args := #[s, x], argTypes := #[t, t] }) (ht : P.underlying t = some (.slice e))
  (hinfo : (P.info? e).map (fun i => (i.zero, i.size, i.bytes)) = some (some (.int .u8 0), 1, 1))
  (base : Nat) (v vx : Value) (l m : List Int) (hs : a.eval s = v) (hx : a.eval x = vx) (hown : Own base e w v l) (hr : Reads w vx m) (hlen : l.length + m.length ≤ 1099511627776) (hbase : base ≤ w.heap.size)
  (h : ∀ v' w', Own base e w' v' (l ++ m) → w.grownBy w' v.ownBlock → (v'.ownBlock = v.ownBlock ∨ v'.ownBlock = some w.heap.size) → K (a.put o.dst v') w') : if Region.wanted o (yielded ops a.tmps) = true then Oper.wp P o a w K Q else E := by
 have hw : Region.wanted o (yielded ops a.tmps) = true := by simp [Region.wanted, hgd]
 rw [if_pos hw]
 obtain ⟨v', w', hr', h2, h3⟩ := run_append_bytes (P := P) t o.type e ht hinfo base v vx l m hown hr hlen hbase
 have h4 := where_bytes ht hinfo hown hr hlen hbase hr'
 unfold Oper.wp execOp
 simp only [ho, resolve, invoke, builtin, Sem.run_bind, Sem.run_pure, Result.andThen_ok, List.map_toArray, List.map_cons, List.map_nil, hs, hx, hr']
 exact h v' w' h2 h3 h4
/-- The same where no order is drawn. -/
theorem append_where {ops : Array Oper} {rest : List Oper} {o : Oper} {a : Act} {Q : Exit → Act → World → Prop} (hgd : o.guard = none) (s x : Operand) (t e : TypeId)
  (ho : o.op = .call { callee := .builtin .append, args := #[s, x], argTypes := #[t, t] }) (ht : P.underlying t = some (.slice e))
  (hinfo : (P.info? e).map (fun i => (i.zero, i.size, i.bytes)) = some (some (.int .u8 0), 1, 1))
  (base : Nat) (v vx : Value) (l m : List Int) (hs : a.eval s = v) (hx : a.eval x = vx) (hown : Own base e w v l) (hr : Reads w vx m) (hlen : l.length + m.length ≤ 1099511627776) (hbase : base ≤ w.heap.size)
  (h : ∀ v' w', Own base e w' v' (l ++ m) → w.grownBy w' v.ownBlock → (v'.ownBlock = v.ownBlock ∨ v'.ownBlock = some w.heap.size) → wpList P ops Q rest (a.put o.dst v') w') : wpList P ops Q (o :: rest) a w := by
 refine wpList_plain hgd fun _ hK => ?_
 obtain ⟨v', w', hr', h2, h3⟩ := run_append_bytes (P := P) t o.type e ht hinfo base v vx l m hown hr hlen hbase
 have h4 := where_bytes ht hinfo hown hr hlen hbase hr'
 unfold Oper.wp execOp
 simp only [ho, resolve, invoke, builtin, Sem.run_bind, Sem.run_pure, Result.andThen_ok, List.map_toArray, List.map_cons, List.map_nil, hs, hx, hr']
 exact hK _ _ (h v' w' h2 h3 h4)
end

/-- Of the blocks that lay in w none has turned but the row of v; what v' owns is that row, or new. -/
structure Moved (w w' : World) (v v' : Value) : Prop where
 kept : w.grownBy w' v.ownBlock
 own : v'.ownBlock = v.ownBlock ∨ ∀ q, v'.ownBlock = some q → w.heap.size ≤ q
theorem Moved.refl (w : World) (v : Value) : Moved w w v v := ⟨⟨rfl, rfl, rfl, Nat.le_refl _, fun _ _ _ => rfl⟩, .inl rfl⟩
theorem Moved.step {w a b : World} {v u u' : Value} (h : Moved w a v u) (g : a.grownBy b u.ownBlock) (hw : u'.ownBlock = u.ownBlock ∨ u'.ownBlock = some a.heap.size) : Moved w b v u' := by
 refine ⟨⟨g.os.trans h.kept.os, g.tape.trans h.kept.tape, g.output.trans h.kept.output, Nat.le_trans h.kept.size g.size, fun k hk hne => ?_⟩, ?_⟩
 ·refine (g.block k (Nat.lt_of_lt_of_le hk h.kept.size) (fun e => ?_)).trans (h.kept.block k hk hne)
  rcases h.own with h1 | h1
  ·rw [h1] at e; exact hne e
  ·have := h1 k e.symm; omega
 ·rcases hw with hw | hw
  ·rw [hw]; exact h.own
  ·right
   intro q hq
   rw [hw] at hq
   have := h.kept.size
   simp at hq
   omega
theorem Moved.below {w a b : World} {v u : Value} (h : Moved w a v u) (hb : Below a.heap.size a b) : Moved w b v u :=
 ⟨⟨hb.os.trans h.kept.os, hb.tape.trans h.kept.tape, hb.output.trans h.kept.output, Nat.le_trans h.kept.size hb.size, fun k hk hne => (hb.block k (Nat.lt_of_lt_of_le hk h.kept.size)).trans (h.kept.block k hk hne)⟩, h.own⟩
end Go.Proofs.YtfbfakdkemlbmaaGreat

namespace Go.Proofs.YtfbfakdkemlbmaaGreat
open Go.RowKit
set_option linter.unusedVariables false

set_option linter.unusedSimpArgs false

set_option maxHeartbeats 2000000 in
set_option maxRecDepth 100000 in
theorem implTxnBytes0 {vq va vb vm vp vu vc vh : Value} {t : Tx} {w : World} (h : HasTx w vq va vb vm vp vu vc vh t) (hct : t.msg.count ≤ 1048576) (hok : txOk t = true) (hk : t.kind = 0) :
  Calls Tryz.prog 7 #[.agg #[.int .i64 0, .int .i64 t.msg.id, .bool t.msg.reply, .int .i64 t.msg.op, .bool t.msg.auth, .int .i64 t.msg.code, vq, va, vb, vm, vp, vu, .int .i64 t.ip, vc, vh, .int .i64 t.when]] w fun e w' => ∃ v', e = .returned (.tuple #[v', .bool true]) ∧ Own w.heap.size 5 w' v' (0 :: txBody t) ∧ Below w.heap.size w w' := by
 have hbl := txBody_len hok
 rw [txBody0 hk] at hbl ⊢
 obtain ⟨xq, yq, rfl, _, zq⟩ := h.msg.qs.form
 obtain ⟨xa, ya, rfl, _, za⟩ := h.msg.ans.form
 obtain ⟨xb, yb, rfl, _, zb⟩ := h.msg.aus.form
 obtain ⟨xm, ym, rfl, _, zm⟩ := h.msg.more.form
 obtain ⟨xp, yp, rfl, _, zp⟩ := h.msg.pres.form
 obtain ⟨xu, yu, rfl, _, zu⟩ := h.msg.ups.form
 have hcb := h.client.bound
 have hhb := h.host.bound
 obtain ⟨xc, yc, rfl, _⟩ := h.client.form
 obtain ⟨xh, yh, rfl, _⟩ := h.host.form
 have b0 := below_alloc (w := w) (.cells #[.int .i64 0, .int .i64 t.msg.id, .bool t.msg.reply, .int .i64 t.msg.op, .bool t.msg.auth, .int .i64 t.msg.code, .slice xq t.msg.qs.length yq, .slice xa t.msg.ans.length ya, .slice xb t.msg.aus.length yb, .slice xm t.msg.more.length ym, .slice xp t.msg.pres.length yp, .slice xu t.msg.ups.length yu, .int .i64 t.ip, .slice xc t.client.length yc, .slice xh t.host.length yh, .int .i64 t.when] 39)
 have KB := hide (heap_alloc_new w (.cells #[.int .i64 0, .int .i64 t.msg.id, .bool t.msg.reply, .int .i64 t.msg.op, .bool t.msg.auth, .int .i64 t.msg.code, .slice xq t.msg.qs.length yq, .slice xa t.msg.ans.length ya, .slice xb t.msg.aus.length yb, .slice xm t.msg.more.length ym, .slice xp t.msg.pres.length yp, .slice xu t.msg.ups.length yu, .int .i64 t.ip, .slice xc t.client.length yc, .slice xh t.host.length yh, .int .i64 t.when] 39))
 have CM := implTxnOk_has (h.below b0) hct
 rw [hok, hk] at CM
 have CW := fun (w : World) (h : HasTx w (.slice xq t.msg.qs.length yq) (.slice xa t.msg.ans.length ya) (.slice xb t.msg.aus.length yb) (.slice xm t.msg.more.length ym) (.slice xp t.msg.pres.length yp) (.slice xu t.msg.ups.length yu) (.slice xc t.client.length yc) (.slice xh t.host.length yh) t) => write0_has h (txOk0 hok hk)
 have CD := fun (w : World) => deedOf0_any (xq := xq) (yq := yq) (xa := xa) (ya := ya) (xb := xb) (yb := yb) (xm := xm) (ym := ym) (xp := xp) (yp := yp) (xu := xu) (yu := yu) (xc := xc) (yc := yc) (xh := xh) (yh := yh) (t := t) (w := w)
 have H := hide (h.below b0)
 have hpre : [IntKind.u8.wrap 0] ++ (bytesM t.msg) = 0 :: (bytesM t.msg) := rfl
 rw [← hpre]
 clear hpre
 generalize bytesM t.msg = BM at *
 replace CM := hide CM
 replace CW := hide CW
 replace CD := hide CD
 have zb := b0.size
 clear h hct hok hk
 obtain ⟨d0, d1, d2, d3, d4, d5, d6, d7, d8, d9, d10, d11, d12, d13, d14, d15⟩ := cells16 (unhide KB)
 go_enter Tryz.func7, Tryz.ntmps7
 go_wp2_with fail
 clear d0 d1 d2 d3 d4 d5 d6 d7 d8 d9 d10 d11 d12 d13 d14 d15
 refine (unhide CM).mono ?_
 rintro e w1 ⟨rfl, b1⟩
 have bd := below_next b1 (below_drew (w := w1))
 have bb := below_next b0 bd
 have zd := bd.size
 replace KB := hide (block_kept bd (unhide KB))
 replace H := hide ((unhide H).below bd)
 clear b1 bd b0
 go_wp2_with fail
 have BB := hide bb
 have ZB := bb.size
 clear bb zb zd CM
 refine startF 10 (S := (fun w' => w'.cell? ⟨w.heap.size, 0, none⟩ = some (.int .i64 0) ∧ w'.cell? ⟨w.heap.size, 1, none⟩ = some (.int .i64 t.msg.id) ∧ w'.cell? ⟨w.heap.size, 2, none⟩ = some (.bool t.msg.reply) ∧ w'.cell? ⟨w.heap.size, 3, none⟩ = some (.int .i64 t.msg.op) ∧ w'.cell? ⟨w.heap.size, 4, none⟩ = some (.bool t.msg.auth) ∧ w'.cell? ⟨w.heap.size, 5, none⟩ = some (.int .i64 t.msg.code) ∧ w'.cell? ⟨w.heap.size, 6, none⟩ = some (.slice xq t.msg.qs.length yq) ∧ w'.cell? ⟨w.heap.size, 7, none⟩ = some (.slice xa t.msg.ans.length ya) ∧ w'.cell? ⟨w.heap.size, 8, none⟩ = some (.slice xb t.msg.aus.length yb) ∧ w'.cell? ⟨w.heap.size, 9, none⟩ = some (.slice xm t.msg.more.length ym) ∧ w'.cell? ⟨w.heap.size, 10, none⟩ = some (.slice xp t.msg.pres.length yp) ∧ w'.cell? ⟨w.heap.size, 11, none⟩ = some (.slice xu t.msg.ups.length yu) ∧ w'.cell? ⟨w.heap.size, 12, none⟩ = some (.int .i64 t.ip) ∧ w'.cell? ⟨w.heap.size, 13, none⟩ = some (.slice xc t.client.length yc) ∧ w'.cell? ⟨w.heap.size, 14, none⟩ = some (.slice xh t.host.length yh) ∧ w'.cell? ⟨w.heap.size, 15, none⟩ = some (.int .i64 t.when))) (by kernel_rfl) rfl (cells16 (unhide KB)) (fun hHeld => ?_)
 simp only [List.replicate]
 generalize hWD : w1.drew = WD at *
 clear hWD
 refine tkI 0 ?_ rfl (by kernel_rfl) (by kernel_rfl) (fun _ _ _ h => h) ?_ hHeld ?_; rotate_left; (· (intro w hSw; (try dsimp only at hSw); go_simp <;> with_reducible rfl)); simp only [Act.put, List.setIfInBounds_toArray, List.set_cons_zero, List.set_cons_succ]
 refine tkI 1 ?_ rfl (by kernel_rfl) (by kernel_rfl) (fun _ _ _ h => h) ?_ hHeld ?_; rotate_left; (· (intro w hSw; (try dsimp only at hSw); go_simp <;> with_reducible rfl)); simp only [Act.put, List.setIfInBounds_toArray, List.set_cons_zero, List.set_cons_succ]
 refine tkI 2 ?_ rfl (by kernel_rfl) (by kernel_rfl) (fun _ _ _ h => h) ?_ hHeld ?_; rotate_left; (· (intro w hSw; (try dsimp only at hSw); go_simp <;> with_reducible rfl)); simp only [Act.put, List.setIfInBounds_toArray, List.set_cons_zero, List.set_cons_succ]
 refine tkI 4 ?_ rfl (by kernel_rfl) (by kernel_rfl) (fun _ _ _ h => h) ?_ hHeld ?_; rotate_left; (· (intro w hSw; (try dsimp only at hSw); go_simp <;> with_reducible rfl)); simp only [Act.put, List.setIfInBounds_toArray, List.set_cons_zero, List.set_cons_succ]
 refine wpAnyH_ready (rs := [3, 5]) (by kernel_rfl) (by simp) (AllReadyH.cons (ops_drop rfl) (fun K hK => ?_) (AllReadyH.cons (ops_drop rfl) (fun K hK => ?_) AllReadyH.nil))
 ·have HK := hide hK
  clear hK hHeld
  go_simp
  have ba := below_alloc (w := WD) (.cells #[.int .u8 (IntKind.u8.wrap 0)] 5)
  replace KB := hide (block_kept ba (unhide KB))
  replace H := hide ((unhide H).below ba)
  replace BB := hide (below_next (unhide BB) ba)
  have OL := hide (own_lit WD w.heap.size 5 [IntKind.u8.wrap 0] ZB (by simp [maxLen]))
  simp only [List.map_cons, List.map_nil, List.length_cons, List.length_nil, Nat.zero_add] at OL
  clear ba
  refine (unhide HK).out _ _ (cells16 (unhide KB)) (fun hHeld => ?_)
  clear HK K
  simp only [Act.put, List.setIfInBounds_toArray, List.set_cons_zero, List.set_cons_succ]
  generalize WD.alloc (.cells #[.int .u8 (IntKind.u8.wrap 0)] 5) = X1 at *
  clear ZB
  have ZB := (unhide BB).size
  refine wpAnyH_ready (rs := [5]) (by kernel_rfl) (by simp) (AllReadyH.cons (ops_drop rfl) (fun K hK => ?_) AllReadyH.nil)
  have HK := hide hK
  clear hK hHeld
  go_simp
  refine (unhide CD _).mono ?_
  rintro e X2 ⟨rfl, b2⟩
  replace KB := hide (block_kept b2 (unhide KB))
  replace H := hide ((unhide H).below b2)
  replace BB := hide (below_next (unhide BB) b2)
  replace OL := hide ((unhide OL).below b2)
  clear b2
  go_simp
  refine (unhide HK).out _ _ (cells16 (unhide KB)) (fun hHeld => ?_)
  clear HK K
  simp only [Act.put, List.setIfInBounds_toArray, List.set_cons_zero, List.set_cons_succ]
  clear ZB
  have ZB := (unhide BB).size
  refine wpAnyH_ready (rs := [6]) (by kernel_rfl) (by simp) (AllReadyH.cons (ops_drop rfl) (fun K hK => ?_) AllReadyH.nil)
  have HK := hide hK
  clear hK hHeld
  go_simp
  refine (unhide CW _ (unhide H)).mono ?_
  rintro e X5 ⟨v6, rfl, o2, b2⟩
  replace KB := hide (block_kept b2 (unhide KB))
  replace H := hide ((unhide H).below b2)
  replace BB := hide (below_next (unhide BB) b2)
  replace OL := hide ((unhide OL).below b2)
  have SO := hide (o2.mono ZB)
  clear o2 b2
  go_simp
  refine (unhide HK).out _ _ (cells16 (unhide KB)) (fun hHeld => ?_)
  clear HK K
  simp only [Act.put, List.setIfInBounds_toArray, List.set_cons_zero, List.set_cons_succ]
  clear ZB
  have ZB := (unhide BB).size
  refine runI 7 rfl (by kernel_rfl) (by kernel_rfl) (fun K hK => ?_)
  have HK := hide hK
  clear hK hHeld
  refine append_wp (.tmp 10) (.tmp 13) 27 5 rfl Tryz.underlying27 info_u8 w.heap.size (.slice (some ⟨WD.heap.size, 0, none⟩) 1 1) v6 [IntKind.u8.wrap 0] BM rfl rfl (unhide OL) (unhide SO).reads (by simp; omega) ZB ?_
  intro v9 w9 o9 g9
  have BB9 := (unhide BB).grown g9 ZB (fun q hq => ((unhide OL).lt q hq).1)
  have KB9 := hide (block_grown g9 (unhide KB) (Own.apart (unhide OL) (unhide KB) (by decide)))
  clear g9 KB H BB OL SO
  refine (unhide HK).out _ _ (cells16 (unhide KB9)) (fun hHeld => ?_)
  clear HK K
  simp only [Act.put, List.setIfInBounds_toArray, List.set_cons_zero, List.set_cons_succ]
  refine tkI 8 ?_ rfl (by kernel_rfl) (by kernel_rfl) (fun _ _ _ h => h) ?_ hHeld ?_; rotate_left; (· (intro w hSw; (try dsimp only at hSw); go_simp <;> with_reducible rfl)); simp only [Act.put, List.setIfInBounds_toArray, List.set_cons_zero, List.set_cons_succ]
  refine tkI 9 ?_ rfl (by kernel_rfl) (by kernel_rfl) (fun _ _ _ h => h) ?_ hHeld ?_; rotate_left; (· (intro w hSw; (try dsimp only at hSw); go_simp <;> with_reducible rfl)); simp only [Act.put, List.setIfInBounds_toArray, List.set_cons_zero, List.set_cons_succ]
  refine wpAnyH_done (by kernel_rfl) ?_ _
  clear hHeld
  go_wp2_with fail
  go_ret2
  exact ⟨_, rfl, o9, BB9⟩
 ·have HK := hide hK
  clear hK hHeld
  go_simp
  refine (unhide CD _).mono ?_
  rintro e X7 ⟨rfl, b2⟩
  replace KB := hide (block_kept b2 (unhide KB))
  replace H := hide ((unhide H).below b2)
  replace BB := hide (below_next (unhide BB) b2)
  clear b2
  go_simp
  refine (unhide HK).out _ _ (cells16 (unhide KB)) (fun hHeld => ?_)
  clear HK K
  simp only [Act.put, List.setIfInBounds_toArray, List.set_cons_zero, List.set_cons_succ]
  clear ZB
  have ZB := (unhide BB).size
  refine wpAnyH_ready (rs := [3, 6]) (by kernel_rfl) (by simp) (AllReadyH.cons (ops_drop rfl) (fun K hK => ?_) (AllReadyH.cons (ops_drop rfl) (fun K hK => ?_) AllReadyH.nil))
  ·have HK := hide hK
   clear hK hHeld
   go_simp
   have ba := below_alloc (w := X7) (.cells #[.int .u8 (IntKind.u8.wrap 0)] 5)
   replace KB := hide (block_kept ba (unhide KB))
   replace H := hide ((unhide H).below ba)
   replace BB := hide (below_next (unhide BB) ba)
   have OL := hide (own_lit X7 w.heap.size 5 [IntKind.u8.wrap 0] ZB (by simp [maxLen]))
   simp only [List.map_cons, List.map_nil, List.length_cons, List.length_nil, Nat.zero_add] at OL
   clear ba
   refine (unhide HK).out _ _ (cells16 (unhide KB)) (fun hHeld => ?_)
   clear HK K
   simp only [Act.put, List.setIfInBounds_toArray, List.set_cons_zero, List.set_cons_succ]
   generalize X7.alloc (.cells #[.int .u8 (IntKind.u8.wrap 0)] 5) = X8 at *
   clear ZB
   have ZB := (unhide BB).size
   refine wpAnyH_ready (rs := [6]) (by kernel_rfl) (by simp) (AllReadyH.cons (ops_drop rfl) (fun K hK => ?_) AllReadyH.nil)
   have HK := hide hK
   clear hK hHeld
   go_simp
   refine (unhide CW _ (unhide H)).mono ?_
   rintro e X9 ⟨v10, rfl, o2, b2⟩
   replace KB := hide (block_kept b2 (unhide KB))
   replace H := hide ((unhide H).below b2)
   replace BB := hide (below_next (unhide BB) b2)
   replace OL := hide ((unhide OL).below b2)
   have SO := hide (o2.mono ZB)
   clear o2 b2
   go_simp
   refine (unhide HK).out _ _ (cells16 (unhide KB)) (fun hHeld => ?_)
   clear HK K
   simp only [Act.put, List.setIfInBounds_toArray, List.set_cons_zero, List.set_cons_succ]
   clear ZB
   have ZB := (unhide BB).size
   refine runI 7 rfl (by kernel_rfl) (by kernel_rfl) (fun K hK => ?_)
   have HK := hide hK
   clear hK hHeld
   refine append_wp (.tmp 10) (.tmp 13) 27 5 rfl Tryz.underlying27 info_u8 w.heap.size (.slice (some ⟨X7.heap.size, 0, none⟩) 1 1) v10 [IntKind.u8.wrap 0] BM rfl rfl (unhide OL) (unhide SO).reads (by simp; omega) ZB ?_
   intro v9 w9 o9 g9
   have BB9 := (unhide BB).grown g9 ZB (fun q hq => ((unhide OL).lt q hq).1)
   have KB9 := hide (block_grown g9 (unhide KB) (Own.apart (unhide OL) (unhide KB) (by decide)))
   clear g9 KB H BB OL SO
   refine (unhide HK).out _ _ (cells16 (unhide KB9)) (fun hHeld => ?_)
   clear HK K
   simp only [Act.put, List.setIfInBounds_toArray, List.set_cons_zero, List.set_cons_succ]
   refine tkI 8 ?_ rfl (by kernel_rfl) (by kernel_rfl) (fun _ _ _ h => h) ?_ hHeld ?_; rotate_left; (· (intro w hSw; (try dsimp only at hSw); go_simp <;> with_reducible rfl)); simp only [Act.put, List.setIfInBounds_toArray, List.set_cons_zero, List.set_cons_succ]
   refine tkI 9 ?_ rfl (by kernel_rfl) (by kernel_rfl) (fun _ _ _ h => h) ?_ hHeld ?_; rotate_left; (· (intro w hSw; (try dsimp only at hSw); go_simp <;> with_reducible rfl)); simp only [Act.put, List.setIfInBounds_toArray, List.set_cons_zero, List.set_cons_succ]
   refine wpAnyH_done (by kernel_rfl) ?_ _
   clear hHeld
   go_wp2_with fail
   go_ret2
   exact ⟨_, rfl, o9, BB9⟩
  ·have HK := hide hK
   clear hK hHeld
   go_simp
   refine (unhide CW _ (unhide H)).mono ?_
   rintro e X11 ⟨v12, rfl, o2, b2⟩
   replace KB := hide (block_kept b2 (unhide KB))
   replace H := hide ((unhide H).below b2)
   replace BB := hide (below_next (unhide BB) b2)
   have SO := hide (o2.mono ZB)
   clear o2 b2
   go_simp
   refine (unhide HK).out _ _ (cells16 (unhide KB)) (fun hHeld => ?_)
   clear HK K
   simp only [Act.put, List.setIfInBounds_toArray, List.set_cons_zero, List.set_cons_succ]
   clear ZB
   have ZB := (unhide BB).size
   refine wpAnyH_ready (rs := [3]) (by kernel_rfl) (by simp) (AllReadyH.cons (ops_drop rfl) (fun K hK => ?_) AllReadyH.nil)
   have HK := hide hK
   clear hK hHeld
   go_simp
   have ba := below_alloc (w := X11) (.cells #[.int .u8 (IntKind.u8.wrap 0)] 5)
   replace KB := hide (block_kept ba (unhide KB))
   replace H := hide ((unhide H).below ba)
   replace BB := hide (below_next (unhide BB) ba)
   replace SO := hide ((unhide SO).below ba)
   have OL := hide (own_lit X11 w.heap.size 5 [IntKind.u8.wrap 0] ZB (by simp [maxLen]))
   simp only [List.map_cons, List.map_nil, List.length_cons, List.length_nil, Nat.zero_add] at OL
   clear ba
   refine (unhide HK).out _ _ (cells16 (unhide KB)) (fun hHeld => ?_)
   clear HK K
   simp only [Act.put, List.setIfInBounds_toArray, List.set_cons_zero, List.set_cons_succ]
   generalize X11.alloc (.cells #[.int .u8 (IntKind.u8.wrap 0)] 5) = X13 at *
   clear ZB
   have ZB := (unhide BB).size
   refine runI 7 rfl (by kernel_rfl) (by kernel_rfl) (fun K hK => ?_)
   have HK := hide hK
   clear hK hHeld
   refine append_wp (.tmp 10) (.tmp 13) 27 5 rfl Tryz.underlying27 info_u8 w.heap.size (.slice (some ⟨X11.heap.size, 0, none⟩) 1 1) v12 [IntKind.u8.wrap 0] BM rfl rfl (unhide OL) (unhide SO).reads (by simp; omega) ZB ?_
   intro v9 w9 o9 g9
   have BB9 := (unhide BB).grown g9 ZB (fun q hq => ((unhide OL).lt q hq).1)
   have KB9 := hide (block_grown g9 (unhide KB) (Own.apart (unhide OL) (unhide KB) (by decide)))
   clear g9 KB H BB OL SO
   refine (unhide HK).out _ _ (cells16 (unhide KB9)) (fun hHeld => ?_)
   clear HK K
   simp only [Act.put, List.setIfInBounds_toArray, List.set_cons_zero, List.set_cons_succ]
   refine tkI 8 ?_ rfl (by kernel_rfl) (by kernel_rfl) (fun _ _ _ h => h) ?_ hHeld ?_; rotate_left; (· (intro w hSw; (try dsimp only at hSw); go_simp <;> with_reducible rfl)); simp only [Act.put, List.setIfInBounds_toArray, List.set_cons_zero, List.set_cons_succ]
   refine tkI 9 ?_ rfl (by kernel_rfl) (by kernel_rfl) (fun _ _ _ h => h) ?_ hHeld ?_; rotate_left; (· (intro w hSw; (try dsimp only at hSw); go_simp <;> with_reducible rfl)); simp only [Act.put, List.setIfInBounds_toArray, List.set_cons_zero, List.set_cons_succ]
   refine wpAnyH_done (by kernel_rfl) ?_ _
   clear hHeld
   go_wp2_with fail
   go_ret2
   exact ⟨_, rfl, o9, BB9⟩
end Go.Proofs.YtfbfakdkemlbmaaGreat
