/-
  Contracts of the specification's l4bytes and MsgOk. Contracts of the specification's l2own: a name of its own with the same labels.
-/
import Derived.Test.YtnplmeifhebhhaaGreatReplyToG33
import Derived.Test.YtnplmeifhebhhaaGreatReplyToG34
import Derived.Test.YtnplmeifhebhhaaGreatReplyToG38
import Derived.Test.YtnplmeifhebhhaaGreatReplyToG05
import Derived.Test.YtnplmeifhebhhaaGreatReplyToG08
import Derived.Test.YtnplmeifhebhhaaGreatReplyToG04
namespace Go.Proofs.YtnplmeifhebhhaaGreat
open Go.RowKit
set_option linter.unusedVariables false

theorem l4bytes_has {vq va vb vm vp vu : Value} {m : Mg} {w : World} (h : HasM w vq va vb vm vp vu m) (hmay : mayM m = true) :
  Calls Tryz.prog 34 #[.agg #[.int .i64 m.id, .bool m.reply, .int .i64 m.op, .bool m.auth, .int .i64 m.code, vq, va, vb, vm, vp, vu]] w fun e w' => ∃ v', e = .returned v' ∧ Own w.heap.size 5 w' v' (bytesM m) ∧ Below w.heap.size w w' := by
 have hop := (mayM_parts hmay).2.2.2.2.2.1
 rcases hop with hop | hop
 ·cases hr : m.reply with
  | true =>
   cases ha : m.auth with
   | true =>
    have := l4bytes_qra h hmay hop hr ha
    rw [hr, ha] at this
    exact this
   | false =>
    have := l4bytes_qrn h hmay hop hr ha
    rw [hr, ha] at this
    exact this
  | false =>
   cases ha : m.auth with
   | true =>
    have := l4bytes_qna h hmay hop hr ha
    rw [hr, ha] at this
    exact this
   | false =>
    have := l4bytes_qnn h hmay hop hr ha
    rw [hr, ha] at this
    exact this
 ·cases hr : m.reply with
  | true =>
   cases ha : m.auth with
   | true =>
    have := l4bytes_ura h hmay hop hr ha
    rw [hr, ha] at this
    exact this
   | false =>
    have := l4bytes_urn h hmay hop hr ha
    rw [hr, ha] at this
    exact this
  | false =>
   cases ha : m.auth with
   | true =>
    have := l4bytes_una h hmay hop hr ha
    rw [hr, ha] at this
    exact this
   | false =>
    have := l4bytes_unn h hmay hop hr ha
    rw [hr, ha] at this
    exact this

set_option maxHeartbeats 1000000 in
set_option maxRecDepth 100000 in
theorem specMsgOk_has {vq va vb vm vp vu : Value} {m : Mg} {w : World} (h : HasM w vq va vb vm vp vu m) :
  Calls Tryz.prog 9 #[.agg #[.int .i64 m.id, .bool m.reply, .int .i64 m.op, .bool m.auth, .int .i64 m.code, vq, va, vb, vm, vp, vu]] w fun e w' => e = .returned (.bool (okM m)) ∧ Below w.heap.size w w' := by
 obtain ⟨xq, yq, rfl, _, zq⟩ := h.qs.form
 obtain ⟨xa, ya, rfl, _, za⟩ := h.ans.form
 obtain ⟨xb, yb, rfl, _, zb⟩ := h.aus.form
 obtain ⟨xm, ym, rfl, _, zm⟩ := h.more.form
 obtain ⟨xp, yp, rfl, _, zp⟩ := h.pres.form
 obtain ⟨xu, yu, rfl, _, zu⟩ := h.ups.form
 have b0 := below_alloc (w := w) (.cells #[.int .i64 m.id, .bool m.reply, .int .i64 m.op, .bool m.auth, .int .i64 m.code, .slice xq m.qs.length yq, .slice xa m.ans.length ya, .slice xb m.aus.length yb, .slice xm m.more.length ym, .slice xp m.pres.length yp, .slice xu m.ups.length yu] 33)
 have KK := hide (heap_alloc_new w (.cells #[.int .i64 m.id, .bool m.reply, .int .i64 m.op, .bool m.auth, .int .i64 m.code, .slice xq m.qs.length yq, .slice xa m.ans.length ya, .slice xb m.aus.length yb, .slice xm m.more.length ym, .slice xp m.pres.length yp, .slice xu m.ups.length yu] 33))
 have H := hide (h.below b0)
 have CM := fun (w : World) (h : HasM w (.slice xq m.qs.length yq) (.slice xa m.ans.length ya) (.slice xb m.aus.length yb) (.slice xm m.more.length ym) (.slice xp m.pres.length yp) (.slice xu m.ups.length yu) m) => l4may_has h
 have CB := fun (e : mayM m = true) (w : World) (h : HasM w (.slice xq m.qs.length yq) (.slice xa m.ans.length ya) (.slice xb m.aus.length yb) (.slice xm m.more.length ym) (.slice xp m.pres.length yp) (.slice xu m.ups.length yu) m) => l4bytes_has h e
 unfold okM
 have hbl := fun (e : mayM m = true) => (show (bytesM m).length ≤ 12833 by obtain ⟨_, _, _, _, _, _, _, _, _, _, _, _, _, _, _, _, q⟩ := bytesM_parts e; exact q)
 cases hm : mayM m with
 | false =>
  rw [hm] at CM
  replace CM := hide CM
  rw [Bool.false_and]
  clear h CB hbl hm
  obtain ⟨d0, d1, d2, d3, d4, d5, d6, d7, d8, d9, d10⟩ := cells11 (unhide KK)
  go_enter Tryz.func9, Tryz.ntmps9
  go_wp2_with fail
  clear d0 d1 d2 d3 d4 d5 d6 d7 d8 d9 d10
  generalize w.alloc (.cells #[.int .i64 m.id, .bool m.reply, .int .i64 m.op, .bool m.auth, .int .i64 m.code, .slice xq m.qs.length yq, .slice xa m.ans.length ya, .slice xb m.aus.length yb, .slice xm m.more.length ym, .slice xp m.pres.length yp, .slice xu m.ups.length yu] 33) = W at *
  refine (unhide CM _ (unhide H)).mono ?_
  rintro e w1 ⟨rfl, b1⟩
  replace b0 := below_next b0 b1
  go_wp2_with fail
  go_ret
  exact ⟨rfl, b0⟩
 | true =>
  rw [hm] at CM
  replace CM := hide CM
  have CB' := hide (CB hm)
  have hl := hbl hm
  rw [Bool.true_and]
  have HR := hide (show decide ((bytesM m).length ≤ 512) = decide ((bytesM m).length ≤ 512) from rfl)
  generalize hR : decide ((bytesM m).length ≤ 512) = R at *
  replace HR := hide hR
  clear h CB hbl hm hR
  generalize bytesM m = BM at *
  obtain ⟨d0, d1, d2, d3, d4, d5, d6, d7, d8, d9, d10⟩ := cells11 (unhide KK)
  go_enter Tryz.func9, Tryz.ntmps9
  go_wp2_with fail
  clear d0 d1 d2 d3 d4 d5 d6 d7 d8 d9 d10
  generalize w.alloc (.cells #[.int .i64 m.id, .bool m.reply, .int .i64 m.op, .bool m.auth, .int .i64 m.code, .slice xq m.qs.length yq, .slice xa m.ans.length ya, .slice xb m.aus.length yb, .slice xm m.more.length ym, .slice xp m.pres.length yp, .slice xu m.ups.length yu] 33) = W at *
  refine (unhide CM _ (unhide H)).mono ?_
  rintro e w1 ⟨rfl, b1⟩
  replace b0 := below_next b0 b1
  replace H := hide ((unhide H).below b1)
  obtain ⟨d0, d1, d2, d3, d4, d5, d6, d7, d8, d9, d10⟩ := cells11 (block_kept b1 (unhide KK))
  clear b1 KK
  go_wp2_with fail
  clear d0 d1 d2 d3 d4 d5 d6 d7 d8 d9 d10
  refine (unhide CB' _ (unhide H)).mono ?_
  rintro e w2 ⟨v2, rfl, o2, b2⟩
  obtain ⟨va, vc, rfl, _⟩ := o2.lies
  replace b0 := below_next b0 b2
  clear o2 b2 H CM CB'
  by_cases h512 : BM.length ≤ 512
  ·have hR := unhide HR
   rw [decide_eq_true h512] at hR
   subst hR
   clear HR
   generalize BM.length = n at *
   go_wp2_with fail
   go_ret
   exact ⟨show Ending.returned (.bool (decide ((n : Int) ≤ 512))) = .returned (.bool true) by rw [decide_eq_true (by omega)], b0⟩
  ·have hR := unhide HR
   rw [decide_eq_false h512] at hR
   subst hR
   clear HR
   generalize BM.length = n at *
   go_wp2_with fail
   go_ret
   exact ⟨show Ending.returned (.bool (decide ((n : Int) ≤ 512))) = .returned (.bool false) by rw [decide_eq_false (by omega)], b0⟩
end Go.Proofs.YtnplmeifhebhhaaGreat

namespace Go.Proofs.YtnplmeifhebhhaaGreat
open Go.RowKit
set_option linter.unusedVariables false

theorem info_sl2 : (Tryz.prog.info? 37).map (fun i => (i.zero, i.size, i.bytes)) = some (some (.slice none 0 0), 1, 24) := by kernel_rfl

set_option maxHeartbeats 2000000 in
set_option maxRecDepth 100000 in
theorem l2own_short {v : Value} {n : List (List Int)} {w : World} (h : HasL w v n) (hs : n.length ≤ 7) (hs2 : ∀ k, k < n.length → (n.getD k []).length ≤ 16) :
  Calls Tryz.prog 92 #[.agg #[v]] w fun e w' => ∃ v', e = .returned (.agg #[v']) ∧ OwnL w.heap.size 37 5 w' v' n ∧ Below w.heap.size w w' := by
 obtain ⟨a, cap, rfl, hcl, hcm⟩ := h.form
 unfold maxLen at hcm
 obtain ⟨hsz, h1, h2⟩ := box3 w (.cells #[.slice a n.length cap] 69) #[.slice none 0 0] #[.slice none 0 0] 69 69
 have bb : Below w.heap.size w (((w.alloc (.cells #[.slice a n.length cap] 69)).alloc (.cells #[.slice none 0 0] 69)).alloc (.cells #[.slice none 0 0] 69)) :=
  ((below_alloc _).alloc (below_alloc _).size _).alloc ((below_alloc _).alloc (below_alloc _).size _).size _
 have hbx : (((w.alloc (.cells #[.slice a n.length cap] 69)).alloc (.cells #[.slice none 0 0] 69)).alloc (.cells #[.slice none 0 0] 69)).heap[w.heap.size]? = some (.cells #[.slice a n.length cap] 69) :=
  block_kept (below_alloc _) (block_kept (below_alloc _) (heap_alloc_new w _))
 have H := hide h
 clear h
 have HS2 := hide hs2
 clear hs2
 generalize hn : n.length = m at *
 have HN := hide hn
 clear hn
 go_enter Tryz.func92, Tryz.ntmps92
 go_wp2
 generalize ((w.alloc (.cells #[.slice a m cap] 69)).alloc (.cells #[.slice none 0 0] 69)).alloc (.cells #[.slice none 0 0] 69) = W at *
 go_loopw [4] (fun i wr => ∃ (k : Nat) (o : Value), k ≤ m ∧ i = .int .i64 k ∧ wr.heap[w.heap.size]? = some (.cells #[.slice a m cap] 69) ∧ wr.heap[w.heap.size + 1]? = some (.cells #[.slice none 0 0] 69) ∧ wr.heap[w.heap.size + 1 + 1]? = some (.cells #[o] 69) ∧ OwnL (w.heap.size + 3) 37 5 wr o (n.take k) ∧ Below w.heap.size w wr) (fun i _ => m - (intOf i).toNat)
 case atStart => exact ⟨0, .slice none 0 0, Nat.zero_le _, rfl, hbx, h1, h2, ⟨[], by simpa using World.ownsRow_nil _ _ _ _, by simp, by simp⟩, bb⟩
 case round =>
  obtain ⟨k, o, hk, rfl, hr0, hr1, hr2, ho, hb⟩ := hrel
  have c0 := block_one hr0
  by_cases hlt : k < m
  ·obtain ⟨b, off, u, rfl, hbl, hc, hu⟩ := ((unhide H).below hb).here (k := k) (by rw [unhide HN]; exact hlt)
   have hlk := unhide HS2 k hlt
   have htk := hide (show n.take (k + 1) = n.take k ++ [n.getD k []] by rw [List.take_succ_eq_append_getElem (by rw [unhide HN]; exact hlt)]; simp [show k < n.length by rw [unhide HN]; exact hlt])
   have htl : (n.take k).length = k := by rw [List.length_take, unhide HN]; omega
   generalize n.getD k [] = lab at *
   generalize n.take k = nk at *
   subst htl
   have HU := hide hu
   obtain ⟨ua, uc, rfl, _⟩ := hu.form
   clear hu
   obtain ⟨oa, oc, rfl, _⟩ := ho.hasL.form
   have hod := ho.below (below_drew (w := wr))
   clear ho
   have HO := hide hod
   obtain ⟨vs, hvs, hva, hvd⟩ := hod
   have hvl : vs.length = nk.length := by have := hvs.1; simpa using this
   have kd2 := block_kept (below_drew (w := wr)) hr2
   have kd1 := block_kept (below_drew (w := wr)) hr1
   have bd := below_next hb (below_drew (w := wr))
   have cod := block_one kd2
   have HUd := hide ((unhide HU).below below_drew)
   have HVS := hide hvs
   have HVA := hide hva
   have HVD := hide hvd
   have z3 := block_lt hr2
   have zb : w.heap.size + 3 ≤ wr.drew.heap.size := by show w.heap.size + 3 ≤ wr.heap.size; omega
   clear hva hvd hvs
   have kd0 := block_kept (below_drew (w := wr)) hr0
   have KD0 := hide kd0
   have KD2 := hide kd2
   have KD1 := hide kd1
   have cd0 := block_one kd0
   have cul : wr.drew.cell? ⟨b, off + nk.length, none⟩ = some (.slice ua lab.length uc) := hc
   have ca0 : ∀ o, (wr.alloc o).cell? ⟨w.heap.size, 0, none⟩ = some (.slice (some ⟨b, off, none⟩) m cap) := fun o => block_one (block_kept (below_alloc o) hr0)
   have ca2 : ∀ o, (wr.alloc o).cell? ⟨w.heap.size + 1 + 1, 0, none⟩ = some (.slice oa nk.length oc) := fun o => block_one (block_kept (below_alloc o) hr2)
   have cau : ∀ o, (wr.alloc o).cell? ⟨b, off + nk.length, none⟩ = some (.slice ua lab.length uc) := fun o => ((below_alloc o).cell (p := ⟨b, off + nk.length, none⟩) hbl).trans hc
   have HUA := hide (show ∀ o, Has (wr.drew.alloc o) (.slice ua lab.length uc) lab from fun o => (unhide HUd).below (below_alloc o))
   clear kd2 kd1 kd0
   go_wp2_with fail
   go_region_law (first
    | (refine step_append_bytes rfl (.tmp 14) (.tmp 19) 37 5 rfl Tryz.underlying37 info_u8 wr.drew.heap.size _ _ [] lab (by simp [Act.eval]) (by simp [Act.eval]) (own_lit wr.drew wr.drew.heap.size 5 [] (Nat.le_refl _) (by simp)) (unhide HUA _).reads (by simp only [List.length_nil]; omega) (below_alloc _).size ?_; intro u1 w1 ou g1; have b1 := lit_grown (w := wr.drew) g1; obtain ⟨u1a, u1c, rfl, _⟩ := ou.lies; have OU := hide ou; have B1 := hide b1; have co1 := block_one (block_kept b1 (unhide KD2)); have ca1 : ∀ o, (w1.alloc o).cell? ⟨w.heap.size + 1 + 1, 0, none⟩ = some (.slice oa nk.length oc) := (fun o => block_one (block_kept (below_alloc o) (block_kept b1 (unhide KD2)))); clear ou b1 g1)
    | (refine step_append_row rfl (.tmp 13) (.tmp 21) 67 37 rfl Tryz.underlying67 info_sl2 (w.heap.size + 3) (.slice oa nk.length oc) _ vs [.slice u1a lab.length u1c] (by simp [Act.eval]) (by simp [Act.eval]) (by rw [hvl]; exact World.ownsRow.alloc (ownsRow_kept' (unhide HVS) (unhide B1)) _) (one_more w1 37 _) (by intro y hy; simp at hy; subst hy; rfl) (by rw [hvl]; simp; omega) (by have := (unhide B1).size; simp; omega) ?_; intro v2 w2 o2 g2; obtain ⟨p2, k2, y2⟩ := snoc_step g2 o2 rfl (unhide HVS) (unhide HVA) (unhide HVD) ((unhide B1).alloc (unhide B1).size _) ((unhide OU).alloc _) zb (by decide) (block_kept (below_alloc _) (block_kept (unhide B1) (unhide KD2))) (by decide); obtain ⟨v2a, v2c, rfl, _⟩ := p2.hasL.form; have co2 := block_one k2; have fo2 := block_frozen k2 0))
   all_goals
    go_wp2_with fail
    have k1 := (y2.block (w.heap.size + 1) (by omega)).trans (unhide KD1)
    have k0 := (y2.block w.heap.size (by omega)).trans (unhide KD0)
    refine ⟨⟨nk.length + 1, _, by omega, by go_num, block_other k0 (by omega) 0 _, block_other k1 (by omega) 0 _, block_set k2 _, ?_, (bd.trans (y2.mono (by omega))).setCell (by show w.heap.size ≤ w.heap.size + 1 + 1; omega) _⟩, by simp [intOf]; omega⟩
    rw [unhide htk]
    simp only [List.length_append, List.length_cons, List.length_nil] at p2
    exact p2.kept (grown_setCell _ _ _) (by show w.heap.size + 1 + 1 < _; omega)
  ·obtain rfl : k = m := by omega
   obtain ⟨oa, oc, rfl, _⟩ := ho.hasL.form
   have htk : n.take k = n := List.take_of_length_le (by rw [unhide HN]; omega)
   rw [htk] at ho
   have HLK := hide (show (n.take k).length = n.length by rw [htk])
   rw [unhide HLK] at hr2
   have HO := hide ho
   have c2 := block_one hr2
   have c1 := block_one hr1
   have f1 := block_frozen hr1 0
   have M1 := hide (block_set hr1 (.slice oa n.length oc))
   clear ho htk hr1 hr2 HLK
   go_wp2
   refine bodyPost_ret (results_cell_row rfl _ _ (w.heap.size + 1) 69 #[.slice oa n.length oc] (0, 0) _ rfl (unhide M1) Tryz.underlying69 rfl (by kernel_rfl)) rfl ?_
   exact ⟨_, rfl, ((unhide HO).kept (grown_setCell _ _ _) (by show w.heap.size + 1 < _; omega)).mono (by omega), hb.setCell (by show w.heap.size ≤ w.heap.size + 1; omega) _⟩
theorem l2own_has {v : Value} {n : List (List Int)} {w : World} (h : HasL w v n) (hs : n.length ≤ 6) (hs2 : ∀ k, k < n.length → (n.getD k []).length ≤ 15) :
  Calls Tryz.prog 92 #[.agg #[v]] w fun e w' => ∃ v', e = .returned (.agg #[v']) ∧ OwnL w.heap.size 37 5 w' v' n ∧ Below w.heap.size w w' :=
 l2own_short h (Nat.le_trans hs (by decide)) (fun k hk => Nat.le_trans (hs2 k hk) (by decide))
end Go.Proofs.YtnplmeifhebhhaaGreat
