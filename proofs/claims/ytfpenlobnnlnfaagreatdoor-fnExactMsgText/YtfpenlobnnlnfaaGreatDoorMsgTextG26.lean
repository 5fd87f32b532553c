/-
  Contracts of the program's MsgBytes and MsgOk. Plain facts: appends to a slice of bytes whose block may be marked behind its end (what a text's conversion leaves). No program is named here. Plain facts: the words of a message's text as texts. No program is named here.
-/
import Derived.Test.YtfpenlobnnlnfaaGreatDoorMsgTextG25
import Derived.Test.YtfpenlobnnlnfaaGreatDoorMsgTextG12
import Derived.Lib.FrozenHead
import Derived.Test.YtfpenlobnnlnfaaGreatDoorMsgTextG11
import Derived.Laws.IdiomStrings
namespace Go.Proofs.YtfpenlobnnlnfaaGreatDoor
open Go.RowKit
set_option linter.unusedVariables false
set_option maxHeartbeats 1000000
set_option maxRecDepth 100000

theorem implMsgBytes_not {vq va vb vm vp vu : Value} {m : Mg} {w : World} (h : HasM w vq va vb vm vp vu m) (hmay : mayM m = false) :
  Calls Tryz.prog 43 #[.agg #[.int .i64 m.id, .bool m.reply, .int .i64 m.op, .bool m.auth, .int .i64 m.code, vq, va, vb, vm, vp, vu]] w fun e w' => ∃ v', e = .returned (.tuple #[v', .bool false]) ∧ Own w.heap.size 5 w' v' [] ∧ Below w.heap.size w w' := by
 have hpo := partsOk_has (h.below (UI (w := w) (.cells #[.int .i64 m.id, .bool m.reply, .int .i64 m.op, .bool m.auth, .int .i64 m.code, vq, va, vb, vm, vp, vu] 34)))
 rw [hmay] at hpo
 have HPO := UC hpo
 obtain ⟨xq, yq, rfl, _, zq⟩ := h.qs.form
 obtain ⟨xa, ya, rfl, _, za⟩ := h.ans.form
 obtain ⟨xb, yb, rfl, _, zb⟩ := h.aus.form
 obtain ⟨xm, ym, rfl, _, zm⟩ := h.more.form
 obtain ⟨xp, yp, rfl, _, zp⟩ := h.pres.form
 obtain ⟨xu, yu, rfl, _, zu⟩ := h.ups.form
 have b0 := UI (w := w) (.cells #[.int .i64 m.id, .bool m.reply, .int .i64 m.op, .bool m.auth, .int .i64 m.code, .slice xq m.qs.length yq, .slice xa m.ans.length ya, .slice xb m.aus.length yb, .slice xm m.more.length ym, .slice xp m.pres.length yp, .slice xu m.ups.length yu] 34)
 have KK := UC (heap_alloc_new w (.cells #[.int .i64 m.id, .bool m.reply, .int .i64 m.op, .bool m.auth, .int .i64 m.code, .slice xq m.qs.length yq, .slice xa m.ans.length ya, .slice xb m.aus.length yb, .slice xm m.more.length ym, .slice xp m.pres.length yp, .slice xu m.ups.length yu] 34))
 clear h hpo hmay
 obtain ⟨d0, d1, d2, d3, d4, d5, d6, d7, d8, d9, d10⟩ := cells11 (UB KK)
 go_enter Tryz.func43, Tryz.ntmps43
 go_wp2_with fail
 clear d0 d1 d2 d3 d4 d5 d6 d7 d8 d9 d10
 generalize w.alloc (.cells #[.int .i64 m.id, .bool m.reply, .int .i64 m.op, .bool m.auth, .int .i64 m.code, .slice xq m.qs.length yq, .slice xa m.ans.length ya, .slice xb m.aus.length yb, .slice xm m.more.length ym, .slice xp m.pres.length yp, .slice xu m.ups.length yu] 34) = W at *
 refine (UB HPO).mono ?_
 rintro e w1 ⟨rfl, b1⟩
 replace b0 := UG b0 b1
 clear b1
 go_wp2_with fail
 go_ret2
 exact ⟨_, rfl, World.ownsRow_nil _ _ _ _, b0⟩

theorem msgPut_may {m : Mg} (h : mayM m = true) : msgPut m = ((if (bytesM m).length ≤ 512 then bytesM m else []), decide ((bytesM m).length ≤ 512)) := by
 unfold msgPut okM
 rw [h, Bool.true_and]
 by_cases h512 : (bytesM m).length ≤ 512
 ·rw [decide_eq_true h512, if_pos rfl, if_pos h512]
 ·rw [decide_eq_false h512, if_neg (by simp), if_neg h512]
theorem msgPut_not {m : Mg} (h : mayM m = false) : msgPut m = ([], false) := by
 unfold msgPut okM
 rw [h, Bool.false_and, if_neg (by simp)]
theorem msgPut_ok (m : Mg) : (msgPut m).2 = okM m := by
 unfold msgPut
 cases h : okM m with
 | true => rw [if_pos rfl]
 | false => rw [if_neg (by simp)]
theorem implMsgBytes_has {vq va vb vm vp vu : Value} {m : Mg} {w : World} (h : HasM w vq va vb vm vp vu m) :
  Calls Tryz.prog 43 #[.agg #[.int .i64 m.id, .bool m.reply, .int .i64 m.op, .bool m.auth, .int .i64 m.code, vq, va, vb, vm, vp, vu]] w fun e w' => ∃ v', e = .returned (.tuple #[v', .bool (msgPut m).2]) ∧ Own w.heap.size 5 w' v' (msgPut m).1 ∧ Below w.heap.size w w' := by
 cases hm : mayM m with
 | true => rw [msgPut_may hm]; exact implMsgBytes_may h hm
 | false => rw [msgPut_not hm]; exact implMsgBytes_not h hm

theorem implMsgOk_has {vq va vb vm vp vu : Value} {m : Mg} {w : World} (h : HasM w vq va vb vm vp vu m) :
  Calls Tryz.prog 23 #[.agg #[.int .i64 m.id, .bool m.reply, .int .i64 m.op, .bool m.auth, .int .i64 m.code, vq, va, vb, vm, vp, vu]] w fun e w' => e = .returned (.bool (okM m)) ∧ Below w.heap.size w w' := by
 have hpo := implMsgBytes_has (h.below (UI (w := w) (.cells #[.int .i64 m.id, .bool m.reply, .int .i64 m.op, .bool m.auth, .int .i64 m.code, vq, va, vb, vm, vp, vu] 34)))
 rw [msgPut_ok] at hpo
 generalize okM m = R at *
 generalize (msgPut m).1 = B1 at *
 have HPO := UC hpo
 obtain ⟨xq, yq, rfl, _, zq⟩ := h.qs.form
 obtain ⟨xa, ya, rfl, _, za⟩ := h.ans.form
 obtain ⟨xb, yb, rfl, _, zb⟩ := h.aus.form
 obtain ⟨xm, ym, rfl, _, zm⟩ := h.more.form
 obtain ⟨xp, yp, rfl, _, zp⟩ := h.pres.form
 obtain ⟨xu, yu, rfl, _, zu⟩ := h.ups.form
 have b0 := UI (w := w) (.cells #[.int .i64 m.id, .bool m.reply, .int .i64 m.op, .bool m.auth, .int .i64 m.code, .slice xq m.qs.length yq, .slice xa m.ans.length ya, .slice xb m.aus.length yb, .slice xm m.more.length ym, .slice xp m.pres.length yp, .slice xu m.ups.length yu] 34)
 have KK := UC (heap_alloc_new w (.cells #[.int .i64 m.id, .bool m.reply, .int .i64 m.op, .bool m.auth, .int .i64 m.code, .slice xq m.qs.length yq, .slice xa m.ans.length ya, .slice xb m.aus.length yb, .slice xm m.more.length ym, .slice xp m.pres.length yp, .slice xu m.ups.length yu] 34))
 clear h hpo
 obtain ⟨d0, d1, d2, d3, d4, d5, d6, d7, d8, d9, d10⟩ := cells11 (UB KK)
 go_enter Tryz.func23, Tryz.ntmps23
 go_wp2_with fail
 clear d0 d1 d2 d3 d4 d5 d6 d7 d8 d9 d10
 generalize w.alloc (.cells #[.int .i64 m.id, .bool m.reply, .int .i64 m.op, .bool m.auth, .int .i64 m.code, .slice xq m.qs.length yq, .slice xa m.ans.length ya, .slice xb m.aus.length yb, .slice xm m.more.length ym, .slice xp m.pres.length yp, .slice xu m.ups.length yu] 34) = W at *
 refine (UB HPO).mono ?_
 rintro e w1 ⟨v1, rfl, o1, b1⟩
 replace b0 := UG b0 b1
 clear b1 o1
 go_wp2_with fail
 go_ret
 exact ⟨rfl, b0⟩
theorem run_storeCells_atM (P : Program) (g o : Nat) (t : TypeId) (fz : Nat × Nat) : ∀ (vs : List Value) (i : Nat) (cur : Array Value) (w : World), w.heap[g]? = some (.cells cur t fz) → (fz = (0, 0) ∨ cur.size ≤ fz.1) → o + i + vs.length ≤ cur.size → (∀ v ∈ vs, v.oneCell' = true) →
  (storeCells ⟨g, o, none⟩ vs i).run P w = .ok () (w.setRow g (cur.toList.take (o + i) ++ vs ++ cur.toList.drop (o + i + vs.length)).toArray)
 | [], i, cur, w, hg, _, _, _ => by
  simp only [storeCells, List.append_nil, List.length_nil, Nat.add_zero, List.take_append_drop, Array.toArray_toList]
  rw [setRow_self w g cur t fz hg]
  rfl
 | v :: rest, i, cur, w, hg, hfz, hl, h1 => by
  have hi : o + i < cur.size := by simp at hl; omega
  have hadd : (⟨g, o, none⟩ : Addr).add i = ⟨g, o + i, none⟩ := by unfold Addr.add; split <;> simp_all
  have hcell : w.cell? ⟨g, o + i, none⟩ = some cur[o + i] := by simp [World.cell?, hg, hi]
  have hfro : w.frozen? ⟨g, o + i, none⟩ = false := by
   obtain ⟨lo, hi'⟩ := fz
   simp only [World.frozen?, hg, Bool.and_eq_false_iff, decide_eq_false_iff_not]
   rcases hfz with q | q
   ·right
    cases q
    omega
   ·left
    simp only at q
    omega
  have hst : (store ((⟨g, o, none⟩ : Addr).add i) v).run P w = .ok () (w.setRow g (cur.setIfInBounds (o + i) v)) := by
   rw [hadd, run_store P w _ v _ (h1 v (by simp)), hcell]
   simp [hfro, setCell_eq_setRow w g (o + i) cur t fz v hg]
  have ih := run_storeCells_atM P g o t fz rest (i + 1) (cur.setIfInBounds (o + i) v) (w.setRow g (cur.setIfInBounds (o + i) v)) (setRow_heap w g cur _ t _ hg) (by simpa using hfz) (by simp at hl ⊢; omega) (fun x hx => h1 x (by simp [hx]))
  simp only [storeCells, Sem.run_bind, hst, Result.andThen_ok, ih, setRow_setRow]
  congr 3
  have e := list_seg_step cur.toList (o + i) v rest (by simp at hl ⊢; omega)
  simpa [Array.toList_setIfInBounds, Nat.add_assoc] using e

def OwnK (B : Nat) (e : TypeId) (w : World) (v : Value) (l : List Int) : Prop :=
 ∃ g cap cur fz, v = .slice (some ⟨g, 0, none⟩) l.length cap ∧ B ≤ g ∧ w.heap[g]? = some (.cells cur e fz) ∧ (fz = (0, 0) ∨ cur.size ≤ fz.1) ∧ l.length ≤ cap ∧ cap ≤ maxLen ∧ cur.size = cap ∧ cur.toList.take l.length = l.map (Value.int .u8)
theorem OwnK.has {B : Nat} {e : TypeId} {w : World} {v : Value} {l : List Int} (h : OwnK B e w v l) : Has w v l := by
 obtain ⟨g, cap, cur, fz, rfl, hB, hg, hf, hl, hm, hs, ht⟩ := h
 refine .inr ⟨g, 0, cap, rfl, VC hg, hl, hm, fun i hi => ?_⟩
 unfold World.cell?
 simp only [hg]
 rw [Nat.zero_add]
 have h1 : (cur.toList.take l.length)[i]? = some (.int .u8 (l.getD i 0)) := by
  rw [ht, List.getElem?_map, List.getD_eq_getElem?_getD, List.getElem?_eq_getElem hi]
  rfl
 rw [List.getElem?_take, if_pos hi] at h1
 simpa using h1
theorem OwnK.lt {B : Nat} {e : TypeId} {w : World} {v : Value} {l : List Int} (h : OwnK B e w v l) : ∀ k, v.ownBlock = some k → B ≤ k ∧ k < w.heap.size := by
 obtain ⟨g, cap, cur, fz, rfl, hB, hg, _⟩ := h
 intro k hk
 simp only [Value.ownBlock, Option.some.injEq] at hk
 subst hk
 exact ⟨hB, VC hg⟩
theorem OwnK.below {B : Nat} {e : TypeId} {w w' : World} {v : Value} {l : List Int} (h : OwnK B e w v l) (hb : Below w.heap.size w w') : OwnK B e w' v l := by
 obtain ⟨g, cap, cur, fz, rfl, hB, hg, h1⟩ := h
 exact ⟨g, cap, cur, fz, rfl, hB, (hb.block g (VC hg)).trans hg, h1⟩
theorem OwnK.mono {B B' : Nat} {e : TypeId} {w : World} {v : Value} {l : List Int} (h : OwnK B e w v l) (hB : B' ≤ B) : OwnK B' e w v l := by
 obtain ⟨g, cap, cur, fz, rfl, h0, h1⟩ := h
 exact ⟨g, cap, cur, fz, rfl, by omega, h1⟩
theorem setRow_grown (w : World) (g : Nat) (cells : Array Value) : w.grownBy (w.setRow g cells) (some g) :=
 ⟨rfl, rfl, rfl, by simp [World.setRow], fun k hk hne => setRow_other w g k cells (fun e => hne (by rw [e]))⟩
theorem run_append_M {P : Program} {w : World} (t u ty e : TypeId) (ht : P.underlying t = some (.slice e)) (hinfo : (P.info? e).map (fun i => (i.zero, i.size, i.bytes)) = some (some (.int .u8 0), 1, 1))
  (base : Nat) (v vx : Value) (l m : List Int) (hown : OwnK base e w v l) (hx : (u = t ∧ ∃ ad cap, vx = .slice (some ad) m.length cap ∧ ∀ j, j < m.length → w.cell? (ad.add j) = some (.int .u8 (m.getD j 0))) ∨ (P.underlying u = some .string ∧ vx = .string (strOfNums m) ∧ ∀ c ∈ m, 0 ≤ c ∧ c ≤ 255)) (hlen : l.length + m.length ≤ 1099511627776) (hbase : base ≤ w.heap.size) :
  ∃ v' w', (Builtin.append_ #[t, u] ty #[v, vx]).run P w = .ok v' w' ∧ OwnK base e w' v' (l ++ m) ∧ w.grownBy w' v.ownBlock ∧ (v'.ownBlock = v.ownBlock ∨ v'.ownBlock = some w.heap.size) := by
 obtain ⟨i0, hi, hz0, hz1, hz2⟩ := info_parts hinfo
 obtain ⟨g, cap, cur, fz, rfl, hB, hg, hf, hl, hm, hs, htk⟩ := hown
 have holds : ∀ j w1, (l.map (Value.int .u8))[j]? = some w1 → w.cell? ((⟨g, 0, none⟩ : Addr).add j) = some w1 := fun j w1 hj => by
  rw [Addr.add_lit]
  unfold World.cell?
  simp only [hg]
  rw [Nat.zero_add]
  rw [← htk, List.getElem?_take] at hj
  split at hj
  ·simpa using hj
  ·cases hj
 have fin : ∀ (s : Nat), s = m.length → ∀ (M : List Value), M = m.map (Value.int .u8) → l.length + s ≤ cap → OwnK base e (w.setRow g (cur.toList.take l.length ++ M ++ cur.toList.drop (l.length + s)).toArray) (.slice (some ⟨g, 0, none⟩) (l.length + s) cap) (l ++ m) := fun s hs1 M hM hroom => by
  subst hs1 hM
  have hsz : (cur.toList.take l.length ++ m.map (Value.int .u8) ++ cur.toList.drop (l.length + m.length)).length = cap := by simp; omega
  refine ⟨g, cap, _, fz, by rw [List.length_append], hB, setRow_heap w g cur _ e fz hg, ?_, by rw [List.length_append]; exact hroom, hm, by rw [List.size_toArray]; exact hsz, ?_⟩
  ·rcases hf with q | q
   ·exact .inl q
   ·right
    rw [List.size_toArray, hsz]
    omega
  ·rw [List.toList_toArray, List.length_append, htk, List.map_append]
   rw [List.take_append_of_le_length (by simp), List.take_of_length_le (by simp)]
 have grow : ∀ (s : Nat), s = m.length → ∀ (M : List Value), M = m.map (Value.int .u8) → cap < l.length + s → OwnK base e (w.drew.alloc (.cells ((l.map (Value.int .u8)).toArray ++ M.toArray ++ Builtin.zeroCells (Value.int .u8 0).cells (grownCap w (l.length + s) cap e - (l.length + s))) e)) (.slice (some ⟨w.heap.size, 0, none⟩) (l.length + s) (grownCap w (l.length + s) cap e)) (l ++ m) := fun s hs1 M hM hroom => by
  subst hs1 hM
  have hgc := grownCap_ge w (l.length + m.length) cap e
  have hgm := grownCap_le_maxLen w (l.length + m.length) cap e (by unfold maxLen; omega)
  refine ⟨w.heap.size, _, _, (0, 0), by rw [List.length_append], hbase, heap_alloc_new w.drew _, .inl rfl, by rw [List.length_append]; exact hgc, hgm, ?_, ?_⟩
  ·simp only [Array.size_append, List.size_toArray, List.length_map, size_zeroCells, Value.cells]
   first | omega | (simp; omega)
  ·simp only [Array.toList_append, List.map_append, List.length_append]
   rw [List.append_assoc, ← List.append_assoc, List.take_append_of_le_length (by simp), List.take_of_length_le (by simp)]
 have gg : ∀ o : Obj, w.grownBy (w.drew.alloc o) (Value.slice (some ⟨g, 0, none⟩) l.length cap).ownBlock := fun o => ⟨rfl, rfl, rfl, by show w.heap.size ≤ (w.drew.heap.push _).size; rw [Array.size_push]; exact Nat.le_succ _, fun k hk _ => heap_alloc_old w.drew _ hk⟩
 rcases hx with ⟨rfl, ad, cp, rfl, hc⟩ | ⟨hu, rfl, hb⟩
 ·by_cases hroom : l.length + m.length ≤ cap
  ·have hff := run_firstCells_some (P := P) w i0.size m.length ad m.length cp (m.map (Value.int .u8)) (by simp [hz1]) (news_of hc)
   have hst := run_storeCells_atM P g (l.length * i0.size) e fz (m.map (Value.int .u8)) 0 cur w hg hf (by rw [hz1]; simp; omega) (one_of m)
   simp only [Nat.add_zero, hz1, Nat.mul_one, List.length_map] at hst hff
   exact ⟨.slice (some ⟨g, 0, none⟩) (l.length + m.length) cap, _, by simp [Builtin.append_, run_underlying ht, sizeOf, typeInfo, hi, hz1, Builtin.lenOf, hroom, hff, Addr.add_lit, hst], fin m.length rfl _ rfl hroom, setRow_grown _ _ _, .inl rfl⟩
  ·have hrun := run_append_grow (P := P) w u ty e i0 (.int .u8 0) ht hi hz0 ⟨g, 0, none⟩ l.length cap (l.map (Value.int .u8)) (by simp [hz1]) holds ad m.length cp (m.map (Value.int .u8)) (by simp [hz1]) (news_of hc) (by omega) (by omega) (growslice_fits (by omega) (by rw [hz2]; omega))
   exact ⟨_, _, hrun, grow m.length rfl _ rfl (by omega), gg _, .inr rfl⟩
 ·have hsz := strOfNums_size m
  have hcs := strCells_int m hb
  by_cases hroom : l.length + (strOfNums m).size ≤ cap
  ·have hff := Lib.run_firstCells_string (P := P) w 1 (strOfNums m)
   have hst := run_storeCells_atM P g l.length e fz (Lib.strCells (strOfNums m)) 0 cur w hg hf (by rw [Lib.strCells_length]; omega) (Lib.strCells_oneCell (strOfNums m))
   simp only [Nat.add_zero, Lib.strCells_length] at hst
   exact ⟨.slice (some ⟨g, 0, none⟩) (l.length + (strOfNums m).size) cap, _, by simp [Builtin.append_, run_underlying ht, run_underlying hu, sizeOf, typeInfo, hi, hz1, Builtin.lenOf, hroom, hff, Addr.add_lit, hst], fin _ hsz _ hcs hroom, setRow_grown _ _ _, .inl rfl⟩
  ·have hrun := Lib.run_append_grow_string (P := P) w t u ty e i0 (.int .u8 0) ht hu hi hz0 ⟨g, 0, none⟩ l.length cap (l.map (Value.int .u8)) (by simp [hz1]) holds (strOfNums m) (by omega) (by omega) (by rw [hz2]; exact growslice_fits (by omega) (by omega))
   exact ⟨_, _, hrun, grow _ hsz _ hcs (by omega), gg _, .inr rfl⟩
theorem appM_wp {P : Program} {w : World} {o : Oper} {a : Act} {K : Act → World → Prop} {Q : Exit → Act → World → Prop} (s x : Operand) (t u e : TypeId)
  (ho : o.op = .call { callee := .builtin .append, args := #[s, x], argTypes := #[t, u] }) (ht : P.underlying t = some (.slice e))
  (hinfo : (P.info? e).map (fun i => (i.zero, i.size, i.bytes)) = some (some (.int .u8 0), 1, 1))
  (base : Nat) (v vx : Value) (l m : List Int) (hs : a.eval s = v) (hx : a.eval x = vx) (hown : OwnK base e w v l) (hr : (u = t ∧ ∃ ad cap, vx = .slice (some ad) m.length cap ∧ ∀ j, j < m.length → w.cell? (ad.add j) = some (.int .u8 (m.getD j 0))) ∨ (P.underlying u = some .string ∧ vx = .string (strOfNums m) ∧ ∀ c ∈ m, 0 ≤ c ∧ c ≤ 255)) (hlen : l.length + m.length ≤ 1099511627776) (hbase : base ≤ w.heap.size)
  (h : ∀ v' w', OwnK base e w' v' (l ++ m) → w.grownBy w' v.ownBlock → (v'.ownBlock = v.ownBlock ∨ v'.ownBlock = some w.heap.size) → K (a.put o.dst v') w') : Oper.wp P o a w K Q := by
 obtain ⟨v', w', hr', h2, h3, h4⟩ := run_append_M t u o.type e ht hinfo base v vx l m hown hr hlen hbase
 unfold Oper.wp execOp
 simp only [ho, resolve, invoke, builtin, Sem.run_bind, Sem.run_pure, Result.andThen_ok, List.map_toArray, List.map_cons, List.map_nil, hs, hx, hr']
 exact h v' w' h2 h3 h4
theorem appM_list {P : Program} {w : World} {ops : Array Oper} {rest : List Oper} {o : Oper} {a : Act} {Q : Exit → Act → World → Prop} (hgd : o.guard = none) (s x : Operand) (t u e : TypeId)
  (ho : o.op = .call { callee := .builtin .append, args := #[s, x], argTypes := #[t, u] }) (ht : P.underlying t = some (.slice e))
  (hinfo : (P.info? e).map (fun i => (i.zero, i.size, i.bytes)) = some (some (.int .u8 0), 1, 1))
  (base : Nat) (v vx : Value) (l m : List Int) (hs : a.eval s = v) (hx : a.eval x = vx) (hown : OwnK base e w v l) (hr : (u = t ∧ ∃ ad cap, vx = .slice (some ad) m.length cap ∧ ∀ j, j < m.length → w.cell? (ad.add j) = some (.int .u8 (m.getD j 0))) ∨ (P.underlying u = some .string ∧ vx = .string (strOfNums m) ∧ ∀ c ∈ m, 0 ≤ c ∧ c ≤ 255)) (hlen : l.length + m.length ≤ 1099511627776) (hbase : base ≤ w.heap.size)
  (h : ∀ v' w', OwnK base e w' v' (l ++ m) → w.grownBy w' v.ownBlock → (v'.ownBlock = v.ownBlock ∨ v'.ownBlock = some w.heap.size) → wpList P ops Q rest (a.put o.dst v') w') : wpList P ops Q (o :: rest) a w := by
 obtain ⟨v', w', hr', h2, h3, h4⟩ := run_append_M t u o.type e ht hinfo base v vx l m hown hr hlen hbase
 refine wpList_plain hgd fun K hK => ?_
 unfold Oper.wp execOp
 simp only [ho, resolve, invoke, builtin, Sem.run_bind, Sem.run_pure, Result.andThen_ok, List.map_toArray, List.map_cons, List.map_nil, hs, hx, hr']
 exact hK _ _ (h v' w' h2 h3 h4)
def SepC (x : Int) (q : Nat) (e : TypeId) (w : World) : Prop := w.heap[q]? = some (.cells #[.int .u8 x] e)
theorem SepC.reads {x : Int} {q : Nat} {e : TypeId} {w : World} (h : SepC x q e w) : Reads w (.slice (some ⟨q, 0, none⟩) 1 1) [x] := .inr ⟨_, 1, rfl, fun j hj => by
 obtain rfl : j = 0 := by simpa using hj
 rw [Addr.add_lit]
 exact VE h 0⟩
theorem SepC.below {x : Int} {q : Nat} {e : TypeId} {w w' : World} (h : SepC x q e w) (hb : Below w.heap.size w w') : SepC x q e w' := UE hb h
theorem SepC.grown {x : Int} {q : Nat} {e : TypeId} {w w' : World} {r : Option Nat} (h : SepC x q e w) (g : w.grownBy w' r) (hne : r ≠ some q) : SepC x q e w' := (g.block q (VC h) (Ne.symm hne)).trans h
theorem apart_nextC {x : Int} {q : Nat} {e : TypeId} {w : World} {v v' : Value} (h : SepC x q e w) (hne : v.ownBlock ≠ some q) (hw : v'.ownBlock = v.ownBlock ∨ v'.ownBlock = some w.heap.size) : v'.ownBlock ≠ some q := by
 have hq := VC h
 rcases hw with e1 | e1
 ·rw [e1]; exact hne
 ·rw [e1]
  intro c
  cases c
  omega
theorem rd_bytes {P : Program} {w : World} {t : TypeId} {vx : Value} {m : List Int} (hr : Reads w vx m) (h0 : 0 < m.length) : (t = t ∧ ∃ ad cap, vx = .slice (some ad) m.length cap ∧ ∀ j, j < m.length → w.cell? (ad.add j) = some (.int .u8 (m.getD j 0))) ∨ (P.underlying t = some .string ∧ vx = .string (strOfNums m) ∧ ∀ c ∈ m, 0 ≤ c ∧ c ≤ 255) := by
 rcases hr with ⟨rfl, rfl⟩ | ⟨ad, cap, rfl, hc⟩
 ·simp at h0
 ·exact .inl ⟨rfl, ad, cap, rfl, hc⟩
theorem byt_lit {l : List Int} (h : (l.all (fun c => decide (0 ≤ c ∧ c ≤ 255))) = true) : Byt l := fun c hc => of_decide_eq_true (List.all_eq_true.1 h c hc)
theorem kt_true {K : List Int} (h : K = kindB true) : strOfNums K = { data := #[114, 101, 112, 108, 121] } := by rw [h]; rfl
theorem kt_false {K : List Int} (h : K = kindB false) : strOfNums K = { data := #[97, 115, 107] } := by rw [h]; rfl
theorem kt2_true {K : List Int} (h : K = kindB true) : strOfNums (K ++ [32]) = { data := #[114, 101, 112, 108, 121, 32] } := by rw [h]; rfl
theorem kt2_false {K : List Int} (h : K = kindB false) : strOfNums (K ++ [32]) = { data := #[97, 115, 107, 32] } := by rw [h]; rfl
theorem ownK_str {B : Nat} {w : World} (e : TypeId) (l : List Int) (C : Nat) (h8 : ∀ c ∈ l, 0 ≤ c ∧ c ≤ 255) (hB : B ≤ w.heap.size) (hcap : l.length ≤ C) (hm : C ≤ maxLen) :
  OwnK B e (w.alloc (.cells (bytesRow (strOfNums l) C) e ((bytesRow (strOfNums l) C).size, (bytesRow (strOfNums l) C).size + 1))) (.slice (some ⟨w.heap.size, 0, none⟩) l.length C) l := by
 have hsz := strOfNums_size l
 have hl1 : (bytesRow (strOfNums l) C).size = C := by
  unfold bytesRow
  rw [Array.size_append, Array.size_map, Array.size_replicate, show (strOfNums l).data.size = l.length from hsz, hsz]
  omega
 refine ⟨w.heap.size, C, _, _, rfl, hB, heap_alloc_new w _, .inr (Nat.le_refl _), hcap, hm, hl1, ?_⟩
 unfold bytesRow
 rw [Array.toList_append, Array.toList_map, List.take_append_of_le_length (by rw [List.length_map, Array.length_toList]; exact Nat.le_of_eq hsz.symm), List.take_of_length_le (by rw [List.length_map, Array.length_toList]; exact Nat.le_of_eq hsz)]
 have := strCells_int l h8
 rw [Lib.strCells_eq] at this
 unfold Lib.byteCells at this
 exact this
end Go.Proofs.YtfpenlobnnlnfaaGreatDoor
