/-
  Contracts of the program's MsgBytes and MsgOk. Plain facts: where an append to an own row of bytes leaves it: in its block, or in a new one. No program is named here. Contracts of the specification's LabelOk. Contracts of the specification's NameOk.
-/
import Derived.Test.YtnplmeifhebhhaaGreatMsgOkG32
import Derived.Test.YtnplmeifhebhhaaGreatMsgOkG06
import Derived.Test.YtnplmeifhebhhaaGreatMsgOkG03
import Derived.Test.YtnplmeifhebhhaaGreatMsgOkG08
import Derived.Test.YtnplmeifhebhhaaGreatMsgOkG01
namespace Go.Proofs.YtnplmeifhebhhaaGreat
open Go.RowKit
set_option linter.unusedVariables false

set_option maxHeartbeats 1000000 in
set_option maxRecDepth 100000 in
theorem implMsgBytes_not {vq va vb vm vp vu : Value} {m : Mg} {w : World} (h : HasM w vq va vb vm vp vu m) (hmay : mayM m = false) :
  Calls Tryz.prog 14 #[.agg #[.int .i64 m.id, .bool m.reply, .int .i64 m.op, .bool m.auth, .int .i64 m.code, vq, va, vb, vm, vp, vu]] w fun e w' => ∃ v', e = .returned (.tuple #[v', .bool false]) ∧ Own w.heap.size 5 w' v' [] ∧ Below w.heap.size w w' := by
 have hpo := partsOk_has (h.below (below_alloc (w := w) (.cells #[.int .i64 m.id, .bool m.reply, .int .i64 m.op, .bool m.auth, .int .i64 m.code, vq, va, vb, vm, vp, vu] 33)))
 rw [hmay] at hpo
 have HPO := hide hpo
 obtain ⟨xq, yq, rfl, _, zq⟩ := h.qs.form
 obtain ⟨xa, ya, rfl, _, za⟩ := h.ans.form
 obtain ⟨xb, yb, rfl, _, zb⟩ := h.aus.form
 obtain ⟨xm, ym, rfl, _, zm⟩ := h.more.form
 obtain ⟨xp, yp, rfl, _, zp⟩ := h.pres.form
 obtain ⟨xu, yu, rfl, _, zu⟩ := h.ups.form
 have b0 := below_alloc (w := w) (.cells #[.int .i64 m.id, .bool m.reply, .int .i64 m.op, .bool m.auth, .int .i64 m.code, .slice xq m.qs.length yq, .slice xa m.ans.length ya, .slice xb m.aus.length yb, .slice xm m.more.length ym, .slice xp m.pres.length yp, .slice xu m.ups.length yu] 33)
 have KK := hide (heap_alloc_new w (.cells #[.int .i64 m.id, .bool m.reply, .int .i64 m.op, .bool m.auth, .int .i64 m.code, .slice xq m.qs.length yq, .slice xa m.ans.length ya, .slice xb m.aus.length yb, .slice xm m.more.length ym, .slice xp m.pres.length yp, .slice xu m.ups.length yu] 33))
 clear h hpo hmay
 obtain ⟨d0, d1, d2, d3, d4, d5, d6, d7, d8, d9, d10⟩ := cells11 (unhide KK)
 go_enter Tryz.func14, Tryz.ntmps14
 go_wp2_with fail
 clear d0 d1 d2 d3 d4 d5 d6 d7 d8 d9 d10
 generalize w.alloc (.cells #[.int .i64 m.id, .bool m.reply, .int .i64 m.op, .bool m.auth, .int .i64 m.code, .slice xq m.qs.length yq, .slice xa m.ans.length ya, .slice xb m.aus.length yb, .slice xm m.more.length ym, .slice xp m.pres.length yp, .slice xu m.ups.length yu] 33) = W at *
 refine (unhide HPO).mono ?_
 rintro e w1 ⟨rfl, b1⟩
 replace b0 := below_next b0 b1
 clear b1
 go_wp2_with fail
 go_ret2
 exact ⟨_, rfl, World.ownsRow_nil _ _ _ _, b0⟩

theorem msgPut_may {m : Mg} (h : mayM m = true) : msgPut m = ((if (bytesM m).length ≤ 512 then bytesM m else []), decide ((bytesM m).length ≤ 512)) := by
 unfold msgPut okM
 rw [h, Bool.true_and]
 by_cases h512 : (bytesM m).length ≤ 512
 ·rw [decide_eq_true h512, if_pos rfl, if_pos h512]
 ·rw [decide_eq_false h512, if_neg (by simp), if_neg h512]
theorem msgPut_not {m : Mg} (h : mayM m = false) : msgPut m = ([], false) := by
 unfold msgPut okM
 rw [h, Bool.false_and, if_neg (by simp)]
theorem msgPut_ok (m : Mg) : (msgPut m).2 = okM m := by
 unfold msgPut
 cases h : okM m with
 | true => rw [if_pos rfl]
 | false => rw [if_neg (by simp)]
theorem implMsgBytes_has {vq va vb vm vp vu : Value} {m : Mg} {w : World} (h : HasM w vq va vb vm vp vu m) :
  Calls Tryz.prog 14 #[.agg #[.int .i64 m.id, .bool m.reply, .int .i64 m.op, .bool m.auth, .int .i64 m.code, vq, va, vb, vm, vp, vu]] w fun e w' => ∃ v', e = .returned (.tuple #[v', .bool (msgPut m).2]) ∧ Own w.heap.size 5 w' v' (msgPut m).1 ∧ Below w.heap.size w w' := by
 cases hm : mayM m with
 | true => rw [msgPut_may hm]; exact implMsgBytes_may h hm
 | false => rw [msgPut_not hm]; exact implMsgBytes_not h hm

set_option maxHeartbeats 1000000 in
set_option maxRecDepth 100000 in
theorem implMsgOk_has {vq va vb vm vp vu : Value} {m : Mg} {w : World} (h : HasM w vq va vb vm vp vu m) :
  Calls Tryz.prog 11 #[.agg #[.int .i64 m.id, .bool m.reply, .int .i64 m.op, .bool m.auth, .int .i64 m.code, vq, va, vb, vm, vp, vu]] w fun e w' => e = .returned (.bool (okM m)) ∧ Below w.heap.size w w' := by
 have hpo := implMsgBytes_has (h.below (below_alloc (w := w) (.cells #[.int .i64 m.id, .bool m.reply, .int .i64 m.op, .bool m.auth, .int .i64 m.code, vq, va, vb, vm, vp, vu] 33)))
 rw [msgPut_ok] at hpo
 generalize okM m = R at *
 generalize (msgPut m).1 = B1 at *
 have HPO := hide hpo
 obtain ⟨xq, yq, rfl, _, zq⟩ := h.qs.form
 obtain ⟨xa, ya, rfl, _, za⟩ := h.ans.form
 obtain ⟨xb, yb, rfl, _, zb⟩ := h.aus.form
 obtain ⟨xm, ym, rfl, _, zm⟩ := h.more.form
 obtain ⟨xp, yp, rfl, _, zp⟩ := h.pres.form
 obtain ⟨xu, yu, rfl, _, zu⟩ := h.ups.form
 have b0 := below_alloc (w := w) (.cells #[.int .i64 m.id, .bool m.reply, .int .i64 m.op, .bool m.auth, .int .i64 m.code, .slice xq m.qs.length yq, .slice xa m.ans.length ya, .slice xb m.aus.length yb, .slice xm m.more.length ym, .slice xp m.pres.length yp, .slice xu m.ups.length yu] 33)
 have KK := hide (heap_alloc_new w (.cells #[.int .i64 m.id, .bool m.reply, .int .i64 m.op, .bool m.auth, .int .i64 m.code, .slice xq m.qs.length yq, .slice xa m.ans.length ya, .slice xb m.aus.length yb, .slice xm m.more.length ym, .slice xp m.pres.length yp, .slice xu m.ups.length yu] 33))
 clear h hpo
 obtain ⟨d0, d1, d2, d3, d4, d5, d6, d7, d8, d9, d10⟩ := cells11 (unhide KK)
 go_enter Tryz.func11, Tryz.ntmps11
 go_wp2_with fail
 clear d0 d1 d2 d3 d4 d5 d6 d7 d8 d9 d10
 generalize w.alloc (.cells #[.int .i64 m.id, .bool m.reply, .int .i64 m.op, .bool m.auth, .int .i64 m.code, .slice xq m.qs.length yq, .slice xa m.ans.length ya, .slice xb m.aus.length yb, .slice xm m.more.length ym, .slice xp m.pres.length yp, .slice xu m.ups.length yu] 33) = W at *
 refine (unhide HPO).mono ?_
 rintro e w1 ⟨v1, rfl, o1, b1⟩
 replace b0 := below_next b0 b1
 clear b1 o1
 go_wp2_with fail
 go_ret
 exact ⟨rfl, b0⟩
end Go.Proofs.YtnplmeifhebhhaaGreat

namespace Go.Proofs.YtnplmeifhebhhaaGreat
open Go.RowKit

section
variable {P : Program} {w : World}

theorem where_bytes {t ty e : TypeId} (ht : P.underlying t = some (.slice e)) (hinfo : (P.info? e).map (fun i => (i.zero, i.size, i.bytes)) = some (some (.int .u8 0), 1, 1))
  {base : Nat} {v vx : Value} {l m : List Int} (hown : Own base e w v l) (hr : Reads w vx m) (hlen : l.length + m.length ≤ 1099511627776) (hbase : base ≤ w.heap.size) {v' : Value} {w' : World}
  (hrun : (Builtin.append_ #[t, t] ty #[v, vx]).run P w = .ok v' w') : v'.ownBlock = v.ownBlock ∨ v'.ownBlock = some w.heap.size := by
 obtain ⟨i0, hi, hz0, hz1, hz2⟩ := info_parts hinfo
 rcases hr with ⟨rfl, rfl⟩ | ⟨ad, cap, rfl, hc⟩
 ·rw [run_append_owned_none w base t ty e i0 1 ht hi v l.length (l.map (Value.int .u8)) hown] at hrun
  simp only [Result.ok.injEq] at hrun
  left; rw [hrun.1]
 ·obtain ⟨v2, w2, h1, _, _, h4⟩ := run_append_own (P := P) w base t ty e i0 (.int .u8 0) 1 1 ht hi hz0 hz1 hz2 rfl (by decide) v l.length (l.map (Value.int .u8)) hown ad m.length cap (m.map (Value.int .u8)) (by simp) (news_of hc) (one_of m) (by unfold maxLen; omega) (by omega) hbase
  rcases hown.2 with ⟨rfl, h0⟩ | ⟨g, cp, cur, rfl, hbg, hg, hnc, hcm, hcs, htake⟩
  ·by_cases hm : m.length = 0
   ·rw [h1] at hrun
    simp only [Result.ok.injEq] at hrun
    have := h4.2 ⟨rfl, hm⟩
    rw [← hrun.1, this]
    exact .inl rfl
   ·rw [run_append_nil (P := P) w t ty e i0 (.int .u8 0) ht hi hz0 ad m.length cap (m.map (Value.int .u8)) (by simp [hz1]) (news_of hc) (by omega) (by omega) (by rw [hz2]; omega)] at hrun
    simp only [Result.ok.injEq] at hrun
    right; rw [← hrun.1]; rfl
  ·by_cases hroom : l.length + m.length ≤ cp
   ·rw [run_append_room (P := P) w t ty e i0 ht hi g l.length cp cur hg ad m.length cap (m.map (Value.int .u8)) (by simp [hz1]) (news_of hc) (one_of m) hroom (by rw [hz1]; simp; omega)] at hrun
    simp only [Result.ok.injEq] at hrun
    left; rw [← hrun.1]; rfl
   ·have holds : ∀ j u, (l.map (Value.int .u8))[j]? = some u → w.cell? ((⟨g, 0, none⟩ : Addr).add j) = some u := World.ownsRow.cells hown (g := g) rfl
    rw [run_append_grow (P := P) w t ty e i0 (.int .u8 0) ht hi hz0 ⟨g, 0, none⟩ l.length cp (l.map (Value.int .u8)) (by simp [hz1]) holds ad m.length cap (m.map (Value.int .u8)) (by simp [hz1]) (news_of hc) (by omega) (by omega) (growslice_fits (by omega) (by rw [hz2]; omega))] at hrun
    simp only [Result.ok.injEq] at hrun
    right; rw [← hrun.1]; rfl

/-- 'append(s, x...)' of bytes, as a step of a region, and where it leaves the row. -/
theorem step_append_where {ops : Array Oper} {o : Oper} {a : Act} {K : Act → World → Prop} {Q : Exit → Act → World → Prop} {E : Prop} (hgd : o.guard = none) (s x : Operand) (t e : TypeId)
  (ho : o.op = .call { callee := .builtin .append, args := #[s, x], argTypes := #[t, t] }) (ht : P.underlying t = some (.slice e))
  (hinfo : (P.info? e).map (fun i => (i.zero, i.size, i.bytes)) = some (some (.int .u8 0), 1, 1))
  (base : Nat) (v vx : Value) (l m : List Int) (hs : a.eval s = v) (hx : a.eval x = vx) (hown : Own base e w v l) (hr : Reads w vx m) (hlen : l.length + m.length ≤ 1099511627776) (hbase : base ≤ w.heap.size)
  (h : ∀ v' w', Own base e w' v' (l ++ m) → w.grownBy w' v.ownBlock → (v'.ownBlock = v.ownBlock ∨ v'.ownBlock = some w.heap.size) → K (a.put o.dst v') w') : if Region.wanted o (yielded ops a.tmps) = true then Oper.wp P o a w K Q else E := by
 have hw : Region.wanted o (yielded ops a.tmps) = true := by simp [Region.wanted, hgd]
 rw [if_pos hw]
 obtain ⟨v', w', hr', h2, h3⟩ := run_append_bytes (P := P) t o.type e ht hinfo base v vx l m hown hr hlen hbase
 have h4 := where_bytes ht hinfo hown hr hlen hbase hr'
 unfold Oper.wp execOp
 simp only [ho, resolve, invoke, builtin, Sem.run_bind, Sem.run_pure, Result.andThen_ok, List.map_toArray, List.map_cons, List.map_nil, hs, hx, hr']
 exact h v' w' h2 h3 h4
/-- The same where no order is drawn. -/
theorem append_where {ops : Array Oper} {rest : List Oper} {o : Oper} {a : Act} {Q : Exit → Act → World → Prop} (hgd : o.guard = none) (s x : Operand) (t e : TypeId)
  (ho : o.op = .call { callee := .builtin .append, args := #[s, x], argTypes := #[t, t] }) (ht : P.underlying t = some (.slice e))
  (hinfo : (P.info? e).map (fun i => (i.zero, i.size, i.bytes)) = some (some (.int .u8 0), 1, 1))
  (base : Nat) (v vx : Value) (l m : List Int) (hs : a.eval s = v) (hx : a.eval x = vx) (hown : Own base e w v l) (hr : Reads w vx m) (hlen : l.length + m.length ≤ 1099511627776) (hbase : base ≤ w.heap.size)
  (h : ∀ v' w', Own base e w' v' (l ++ m) → w.grownBy w' v.ownBlock → (v'.ownBlock = v.ownBlock ∨ v'.ownBlock = some w.heap.size) → wpList P ops Q rest (a.put o.dst v') w') : wpList P ops Q (o :: rest) a w := by
 refine wpList_plain hgd fun _ hK => ?_
 obtain ⟨v', w', hr', h2, h3⟩ := run_append_bytes (P := P) t o.type e ht hinfo base v vx l m hown hr hlen hbase
 have h4 := where_bytes ht hinfo hown hr hlen hbase hr'
 unfold Oper.wp execOp
 simp only [ho, resolve, invoke, builtin, Sem.run_bind, Sem.run_pure, Result.andThen_ok, List.map_toArray, List.map_cons, List.map_nil, hs, hx, hr']
 exact hK _ _ (h v' w' h2 h3 h4)
end

/-- Of the blocks that lay in w none has turned but the row of v; what v' owns is that row, or new. -/
structure Moved (w w' : World) (v v' : Value) : Prop where
 kept : w.grownBy w' v.ownBlock
 own : v'.ownBlock = v.ownBlock ∨ ∀ q, v'.ownBlock = some q → w.heap.size ≤ q
theorem Moved.refl (w : World) (v : Value) : Moved w w v v := ⟨⟨rfl, rfl, rfl, Nat.le_refl _, fun _ _ _ => rfl⟩, .inl rfl⟩
theorem Moved.step {w a b : World} {v u u' : Value} (h : Moved w a v u) (g : a.grownBy b u.ownBlock) (hw : u'.ownBlock = u.ownBlock ∨ u'.ownBlock = some a.heap.size) : Moved w b v u' := by
 refine ⟨⟨g.os.trans h.kept.os, g.tape.trans h.kept.tape, g.output.trans h.kept.output, Nat.le_trans h.kept.size g.size, fun k hk hne => ?_⟩, ?_⟩
 ·refine (g.block k (Nat.lt_of_lt_of_le hk h.kept.size) (fun e => ?_)).trans (h.kept.block k hk hne)
  rcases h.own with h1 | h1
  ·rw [h1] at e; exact hne e
  ·have := h1 k e.symm; omega
 ·rcases hw with hw | hw
  ·rw [hw]; exact h.own
  ·right
   intro q hq
   rw [hw] at hq
   have := h.kept.size
   simp at hq
   omega
theorem Moved.below {w a b : World} {v u : Value} (h : Moved w a v u) (hb : Below a.heap.size a b) : Moved w b v u :=
 ⟨⟨hb.os.trans h.kept.os, hb.tape.trans h.kept.tape, hb.output.trans h.kept.output, Nat.le_trans h.kept.size hb.size, fun k hk hne => (hb.block k (Nat.lt_of_lt_of_le hk h.kept.size)).trans (h.kept.block k hk hne)⟩, h.own⟩
end Go.Proofs.YtnplmeifhebhhaaGreat

namespace Go.Proofs.YtnplmeifhebhhaaGreat
open Go.RowKit
set_option linter.unusedVariables false

theorem ssign_cases (c : Int) : (97 ≤ c ∧ c ≤ 122) ∨ (97 ≤ c ∧ 122 < c) ∨ (c < 97 ∧ 48 ≤ c ∧ c ≤ 57) ∨ (c < 97 ∧ 48 ≤ c ∧ 57 < c ∧ c ≠ 45) ∨ (c < 97 ∧ c < 48 ∧ c = 45) ∨ (c < 97 ∧ c < 48 ∧ c ≠ 45) := by omega

set_option maxHeartbeats 1600000 in
set_option maxRecDepth 100000 in
theorem specLabelOk_has {v : Value} {l : List Int} {w : World} (h : Has w v l) :
  Calls Tryz.prog 60 #[v] w fun e w' => e = .returned (.bool (labelOk l)) ∧ w = w' := by
 have hbd := h.bound
 unfold maxLen at hbd
 obtain ⟨a, cap, rfl, hL⟩ := h.form
 by_cases h0 : l.length = 0
 ·rw [labelOk_short (by omega), h0]
  go_enter Tryz.func60, Tryz.ntmps60
  go_wp2
  go_ret
  exact ⟨rfl, rfl⟩
 ·by_cases h1 : 15 < l.length
  ·rw [labelOk_short (by omega)]
   generalize hn : l.length = n at *
   go_enter Tryz.func60, Tryz.ntmps60
   go_wp2
   go_ret
   exact ⟨rfl, rfl⟩
  ·have h2 : l.length ≤ 15 := by omega
   have hyes := hide (fun (hs : ∀ j, j < l.length → signOk (l.getD j 0) = true) => labelOk_yes (l := l) (by omega) h2 hs)
   have hno := hide (fun (j : Nat) (hj : j < l.length) (hs : signOk (l.getD j 0) = false) => labelOk_sign hj hs)
   generalize hok : labelOk l = ok at *
   clear hok
   generalize hn : l.length = n at *
   have HN := hide hn
   clear hn
   have hn1 : (1 : Int) ≤ n := by omega
   go_enter Tryz.func60, Tryz.ntmps60
   go_wp2
   go_loop [3] (fun i => ∃ k : Nat, k ≤ n ∧ i = .int .i64 k ∧ Hid (∀ j, j < k → signOk (l.getD j 0) = true)) (fun i => n - (intOf i).toNat)
   case atStart => exact ⟨0, Nat.zero_le _, rfl, hide (fun j hj => absurd hj (Nat.not_lt_zero _))⟩
   case round =>
    obtain ⟨k, hk, rfl, hall⟩ := hrel
    by_cases hlt : k < n
    ·obtain ⟨b, off, rfl, hbl, hc⟩ := hL.here (k := k) (by rw [unhide HN]; exact hlt)
     have hone := hide (fun (hs : signOk (l.getD k 0) = true) => (show ∀ j, j < k + 1 → signOk (l.getD j 0) = true from fun j hj => by
      by_cases e : j = k
      ·subst e; exact hs
      ·exact unhide hall j (by omega)))
     have hnok := hide (fun (hs : signOk (l.getD k 0) = false) => unhide hno k hlt hs)
     generalize hx : l.getD k 0 = x at *
     rcases ssign_cases x with ⟨h1, h2⟩ | ⟨h1, h2⟩ | ⟨h1, h2, h3⟩ | ⟨h1, h2, h3, h4⟩ | ⟨h1, h2, rfl⟩ | ⟨h1, h2, h3⟩
     ·have hs : signOk x = true := decide_eq_true (by omega)
      go_wp2
      exact ⟨⟨k + 1, by omega, by go_num, hide (unhide hone hs)⟩, by simp [intOf]; omega⟩
     ·have hs : signOk x = false := decide_eq_false (by omega)
      have hq := unhide hnok hs
      subst hq
      have h8 : (x == 45) = false := by simp; omega
      have h5 : 48 ≤ x := by omega
      have h6 : ¬ x ≤ 57 := by omega
      have h7 : ¬ x ≤ 122 := by omega
      go_wp2
      go_ret
      exact ⟨rfl, rfl⟩
     ·have hs : signOk x = true := decide_eq_true (by omega)
      have h5 : ¬ 97 ≤ x := by omega
      go_wp2
      exact ⟨⟨k + 1, by omega, by go_num, hide (unhide hone hs)⟩, by simp [intOf]; omega⟩
     ·have hs : signOk x = false := decide_eq_false (by omega)
      have hq := unhide hnok hs
      subst hq
      have h8 : (x == 45) = false := by simp; omega
      have h5 : ¬ 97 ≤ x := by omega
      have h6 : ¬ x ≤ 57 := by omega
      go_wp2
      go_ret
      exact ⟨rfl, rfl⟩
     ·have hs : signOk 45 = true := rfl
      go_wp2
      exact ⟨⟨k + 1, by omega, by go_num, hide (unhide hone hs)⟩, by simp [intOf]; omega⟩
     ·have hs : signOk x = false := decide_eq_false (by omega)
      have hq := unhide hnok hs
      subst hq
      have h8 : (x == 45) = false := by simp; omega
      have h5 : ¬ 97 ≤ x := by omega
      have h6 : ¬ 48 ≤ x := by omega
      go_wp2
      go_ret
      exact ⟨rfl, rfl⟩
    ·obtain rfl : k = n := by omega
     have hq := unhide hyes (unhide hall)
     subst hq
     go_wp2
     go_ret
     exact ⟨rfl, rfl⟩
end Go.Proofs.YtnplmeifhebhhaaGreat

namespace Go.Proofs.YtnplmeifhebhhaaGreat
open Go.RowKit
set_option linter.unusedVariables false

set_option maxHeartbeats 400000 in
set_option maxRecDepth 100000 in
theorem specNameOk_has {v : Value} {n : List (List Int)} {w : World} (h : HasL w v n) :
  Calls Tryz.prog 68 #[.agg #[v]] w fun e w' => e = .returned (.bool (nameOk n)) ∧ Below w.heap.size w w' := by
 obtain ⟨a, cap, rfl, hl, hm⟩ := h.form
 unfold maxLen at hm
 by_cases h1 : 6 < n.length
 ·rw [nameOk_long h1]
  have H := hide h
  clear h
  generalize hn : n.length = m at *
  have HN := hide hn
  clear hn
  go_enter Tryz.func68, Tryz.ntmps68
  go_wp2
  go_ret
  exact ⟨rfl, below_alloc _⟩
 ·have h2 : n.length ≤ 6 := by omega
  have hA := h.below (below_alloc (.cells #[.slice a n.length cap] 69))
  have H := hide h
  clear h
  have hyes := hide (fun (hs : ∀ j, j < n.length → labelOk (n.getD j []) = true) => nameOk_yes (n := n) h2 hs)
  have hno := hide (fun (j : Nat) (hj : j < n.length) (hs : labelOk (n.getD j []) = false) => nameOk_label hj hs)
  generalize hok : nameOk n = ok at *
  clear hok
  generalize hn : n.length = m at *
  have HN := hide hn
  clear hn
  go_enter Tryz.func68, Tryz.ntmps68
  go_wp2
  go_loop [3] (fun i => ∃ k : Nat, k ≤ m ∧ i = .int .i64 k ∧ Hid (∀ j, j < k → labelOk (n.getD j []) = true)) (fun i => m - (intOf i).toNat)
  case atStart => exact ⟨0, Nat.zero_le _, rfl, hide (fun j hj => absurd hj (Nat.not_lt_zero _))⟩
  case round =>
   obtain ⟨k, hk, rfl, hall⟩ := hrel
   by_cases hlt : k < m
   ·obtain ⟨b, off, u, rfl, hbl, hc, hu⟩ := hA.here (k := k) (by rw [unhide HN]; exact hlt)
    have hone := hide (fun (hs : labelOk (n.getD k []) = true) => (show ∀ j, j < k + 1 → labelOk (n.getD j []) = true from fun j hj => by
      by_cases e : j = k
      ·subst e; exact hs
      ·exact unhide hall j (by omega)))
    have hnok := hide (fun (hs : labelOk (n.getD k []) = false) => unhide hno k hlt hs)
    generalize hx : n.getD k [] = x at *
    have HU := hide hu
    obtain ⟨ua, uc, rfl, _⟩ := hu.form
    clear hu
    go_wp2_with fail
    refine (specLabelOk_has (unhide HU)).mono ?_
    rintro e w1 ⟨rfl, rfl⟩
    cases hs : labelOk x with
    | true =>
     go_wp2
     exact ⟨⟨k + 1, by omega, by go_num, hide (unhide hone hs)⟩, by simp [intOf]; omega⟩
    | false =>
     have hq := unhide hnok hs
     subst hq
     go_wp2
     go_ret
     exact ⟨rfl, below_alloc _⟩
   ·obtain rfl : k = m := by omega
    have hq := unhide hyes (unhide hall)
    subst hq
    go_wp2
    go_ret
    exact ⟨rfl, below_alloc _⟩
end Go.Proofs.YtnplmeifhebhhaaGreat
