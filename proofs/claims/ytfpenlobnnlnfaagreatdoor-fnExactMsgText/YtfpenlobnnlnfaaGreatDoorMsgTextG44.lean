/-
  Contracts of the specification's l4bytes and MsgOk. Contract of the specification's MsgText. Contract of the specification's MsgText, whole.
-/
import Derived.Test.YtfpenlobnnlnfaaGreatDoorMsgTextG39
import Derived.Test.YtfpenlobnnlnfaaGreatDoorMsgTextG40
import Derived.Test.YtfpenlobnnlnfaaGreatDoorMsgTextG43
import Derived.Test.YtfpenlobnnlnfaaGreatDoorMsgTextG35
import Derived.Test.YtfpenlobnnlnfaaGreatDoorMsgTextG26
import Derived.Deep.Cut
namespace Go.Proofs.YtfpenlobnnlnfaaGreatDoor
open Go.RowKit
set_option linter.unusedVariables false

theorem l4bytes_has {vq va vb vm vp vu : Value} {m : Mg} {w : World} (h : HasM w vq va vb vm vp vu m) (hmay : mayM m = true) :
  Calls Tryz.prog 38 #[.agg #[.int .i64 m.id, .bool m.reply, .int .i64 m.op, .bool m.auth, .int .i64 m.code, vq, va, vb, vm, vp, vu]] w fun e w' => ∃ v', e = .returned v' ∧ Own w.heap.size 5 w' v' (bytesM m) ∧ Below w.heap.size w w' := by
 rcases (mayM_parts hmay).2.2.2.2.2.1 with hop | hop
 ·exact l4bytes_q h hmay hop
 ·exact l4bytes_u h hmay hop

set_option maxHeartbeats 1000000 in
set_option maxRecDepth 100000 in
theorem specMsgOk_has {vq va vb vm vp vu : Value} {m : Mg} {w : World} (h : HasM w vq va vb vm vp vu m) :
  Calls Tryz.prog 16 #[.agg #[.int .i64 m.id, .bool m.reply, .int .i64 m.op, .bool m.auth, .int .i64 m.code, vq, va, vb, vm, vp, vu]] w fun e w' => e = .returned (.bool (okM m)) ∧ Below w.heap.size w w' := by
 obtain ⟨xq, yq, rfl, _, zq⟩ := h.qs.form
 obtain ⟨xa, ya, rfl, _, za⟩ := h.ans.form
 obtain ⟨xb, yb, rfl, _, zb⟩ := h.aus.form
 obtain ⟨xm, ym, rfl, _, zm⟩ := h.more.form
 obtain ⟨xp, yp, rfl, _, zp⟩ := h.pres.form
 obtain ⟨xu, yu, rfl, _, zu⟩ := h.ups.form
 have b0 := UI (w := w) (.cells #[.int .i64 m.id, .bool m.reply, .int .i64 m.op, .bool m.auth, .int .i64 m.code, .slice xq m.qs.length yq, .slice xa m.ans.length ya, .slice xb m.aus.length yb, .slice xm m.more.length ym, .slice xp m.pres.length yp, .slice xu m.ups.length yu] 34)
 have KK := UC (heap_alloc_new w (.cells #[.int .i64 m.id, .bool m.reply, .int .i64 m.op, .bool m.auth, .int .i64 m.code, .slice xq m.qs.length yq, .slice xa m.ans.length ya, .slice xb m.aus.length yb, .slice xm m.more.length ym, .slice xp m.pres.length yp, .slice xu m.ups.length yu] 34))
 have H := UC (h.below b0)
 have CM := fun (w : World) (h : HasM w (.slice xq m.qs.length yq) (.slice xa m.ans.length ya) (.slice xb m.aus.length yb) (.slice xm m.more.length ym) (.slice xp m.pres.length yp) (.slice xu m.ups.length yu) m) => l4may_has h
 have CB := fun (e : mayM m = true) (w : World) (h : HasM w (.slice xq m.qs.length yq) (.slice xa m.ans.length ya) (.slice xb m.aus.length yb) (.slice xm m.more.length ym) (.slice xp m.pres.length yp) (.slice xu m.ups.length yu) m) => l4bytes_has h e
 unfold okM
 have hbl := fun (e : mayM m = true) => (show (bytesM m).length ≤ 12833 by obtain ⟨_, _, _, _, _, _, _, _, _, _, _, _, _, _, _, _, q⟩ := bytesM_parts e; exact q)
 cases hm : mayM m with
 | false =>
  rw [hm] at CM
  replace CM := UC CM
  rw [Bool.false_and]
  clear h CB hbl hm
  obtain ⟨d0, d1, d2, d3, d4, d5, d6, d7, d8, d9, d10⟩ := cells11 (UB KK)
  go_enter Tryz.func16, Tryz.ntmps16
  go_wp2_with fail
  clear d0 d1 d2 d3 d4 d5 d6 d7 d8 d9 d10
  generalize w.alloc (.cells #[.int .i64 m.id, .bool m.reply, .int .i64 m.op, .bool m.auth, .int .i64 m.code, .slice xq m.qs.length yq, .slice xa m.ans.length ya, .slice xb m.aus.length yb, .slice xm m.more.length ym, .slice xp m.pres.length yp, .slice xu m.ups.length yu] 34) = W at *
  refine (UB CM _ (UB H)).mono ?_
  rintro e w1 ⟨rfl, b1⟩
  replace b0 := UG b0 b1
  go_wp2_with fail
  go_ret
  exact ⟨rfl, b0⟩
 | true =>
  rw [hm] at CM
  replace CM := UC CM
  have CB' := UC (CB hm)
  have hl := hbl hm
  rw [Bool.true_and]
  have HR := UC (show decide ((bytesM m).length ≤ 512) = decide ((bytesM m).length ≤ 512) from rfl)
  generalize hR : decide ((bytesM m).length ≤ 512) = R at *
  replace HR := UC hR
  clear h CB hbl hm hR
  generalize bytesM m = BM at *
  obtain ⟨d0, d1, d2, d3, d4, d5, d6, d7, d8, d9, d10⟩ := cells11 (UB KK)
  go_enter Tryz.func16, Tryz.ntmps16
  go_wp2_with fail
  clear d0 d1 d2 d3 d4 d5 d6 d7 d8 d9 d10
  generalize w.alloc (.cells #[.int .i64 m.id, .bool m.reply, .int .i64 m.op, .bool m.auth, .int .i64 m.code, .slice xq m.qs.length yq, .slice xa m.ans.length ya, .slice xb m.aus.length yb, .slice xm m.more.length ym, .slice xp m.pres.length yp, .slice xu m.ups.length yu] 34) = W at *
  refine (UB CM _ (UB H)).mono ?_
  rintro e w1 ⟨rfl, b1⟩
  replace b0 := UG b0 b1
  replace H := UC ((UB H).below b1)
  obtain ⟨d0, d1, d2, d3, d4, d5, d6, d7, d8, d9, d10⟩ := cells11 (UE b1 (UB KK))
  clear b1 KK
  go_wp2_with fail
  clear d0 d1 d2 d3 d4 d5 d6 d7 d8 d9 d10
  refine (UB CB' _ (UB H)).mono ?_
  rintro e w2 ⟨v2, rfl, o2, b2⟩
  obtain ⟨va, vc, rfl, _⟩ := o2.lies
  replace b0 := UG b0 b2
  clear o2 b2 H CM CB'
  by_cases h512 : BM.length ≤ 512
  ·have hR := UB HR
   rw [decide_eq_true h512] at hR
   subst hR
   clear HR
   generalize BM.length = n at *
   go_wp2_with fail
   go_ret
   exact ⟨show Ending.returned (.bool (decide ((n : Int) ≤ 512))) = .returned (.bool true) by rw [decide_eq_true (by omega)], b0⟩
  ·have hR := UB HR
   rw [decide_eq_false h512] at hR
   subst hR
   clear HR
   generalize BM.length = n at *
   go_wp2_with fail
   go_ret
   exact ⟨show Ending.returned (.bool (decide ((n : Int) ≤ 512))) = .returned (.bool false) by rw [decide_eq_false (by omega)], b0⟩
set_option maxHeartbeats 8000000 in
set_option maxRecDepth 100000 in
theorem specMsgText_yes {vq va vb vm vp vu : Value} {m : Mg} {w : World} (h : HasM w vq va vb vm vp vu m) (hok : okM m = true) (h8 : BytM m) :
  Calls Tryz.prog 5 #[.agg #[.int .i64 m.id, .bool m.reply, .int .i64 m.op, .bool m.auth, .int .i64 m.code, vq, va, vb, vm, vp, vu]] w fun e w' => ∃ v', e = .returned v' ∧ Has w' v' (msgT m) ∧ Below w.heap.size w w' := by
 have hmay : mayM m = true := by unfold okM at hok; simp only [Bool.and_eq_true] at hok; exact hok.1
 obtain ⟨_, hc, hq1, hqn, _, _, ⟨ha12, hb12, hm12, _⟩, hoa, hob, hom, _⟩ := mayM_parts hmay
 obtain ⟨xq, yq, rfl, _, zq⟩ := h.qs.form
 obtain ⟨xa, ya, rfl, _, za⟩ := h.ans.form
 obtain ⟨xb, yb, rfl, _, zb⟩ := h.aus.form
 obtain ⟨xm, ym, rfl, _, zm⟩ := h.more.form
 obtain ⟨xp, yp, rfl, _, zp⟩ := h.pres.form
 obtain ⟨xu, yu, rfl, _, zu⟩ := h.ups.form
 obtain ⟨rp, hrp⟩ : ∃ b, m.reply = b := ⟨_, rfl⟩
 have CM0 := fun (w : World) (hh : HasM w (.slice xq m.qs.length yq) (.slice xa m.ans.length ya) (.slice xb m.aus.length yb) (.slice xm m.more.length ym) (.slice xp m.pres.length yp) (.slice xu m.ups.length yu) m) => specMsgOk_has hh
 rw [hok, hrp] at CM0
 rw [hrp]
 have HKT : Hid (kindT m = kindB rp) := UC (by unfold kindT kindB; rw [hrp])
 have b0 := UI (w := w) (.cells #[.int .i64 m.id, .bool rp, .int .i64 m.op, .bool m.auth, .int .i64 m.code, .slice xq m.qs.length yq, .slice xa m.ans.length ya, .slice xb m.aus.length yb, .slice xm m.more.length ym, .slice xp m.pres.length yp, .slice xu m.ups.length yu] 34)
 have KB := UC (heap_alloc_new w (.cells #[.int .i64 m.id, .bool rp, .int .i64 m.op, .bool m.auth, .int .i64 m.code, .slice xq m.qs.length yq, .slice xa m.ans.length ya, .slice xb m.aus.length yb, .slice xm m.more.length ym, .slice xp m.pres.length yp, .slice xu m.ups.length yu] 34))
 have hq0 : 0 < m.qs.length := by omega
 obtain ⟨qb, qo, qvs, rfl, hqb, hqr, qv, rfl, hqL⟩ := (h.below b0).qs.here (k := 0) hq0
 obtain ⟨qna, qnc, rfl, _⟩ := hqL.form
 have hqn' : nameOk (m.qs.getD 0 queZ).name = true := hqn
 rw [Nat.zero_mul, Nat.add_zero] at hqr
 have HQC := UC (range2 hqr).1
 have HQL := UC hqL
 unfold msgT headT
 generalize m.qs.getD 0 queZ = q at *
 have CM := UC (CM0 _ (h.below b0))
 clear CM0 hrp
 have PI := UC (fun w1 : World => l1digits_any2 m.code w1 hc.1 (by omega))
 have PN := UC (fun (w1 : World) (hh : HasL w1 (.slice qna q.name.length qnc) q.name) => l2text_app hh hqn')
 have lN := nameText_length q.name
 have lN1 := nameText_one hqn'
 have lC := digs_ten hc.1 (show m.code ≤ 4294967295 by omega)
 have lK := kindT_length m
 have YK2 := UC ((kindT_byt m).app (byt_one (c := 32) (by omega)))
 have HA := UC (show HasRs (w.alloc (.cells #[.int .i64 m.id, .bool rp, .int .i64 m.op, .bool m.auth, .int .i64 m.code, .slice (some ⟨qb, qo, none⟩) m.qs.length yq, .slice xa m.ans.length ya, .slice xb m.aus.length yb, .slice xm m.more.length ym, .slice xp m.pres.length yp, .slice xu m.ups.length yu] 34)) (.slice xa m.ans.length ya) m.ans from h.ans.below b0)
 have HBB := UC (show HasRs (w.alloc (.cells #[.int .i64 m.id, .bool rp, .int .i64 m.op, .bool m.auth, .int .i64 m.code, .slice (some ⟨qb, qo, none⟩) m.qs.length yq, .slice xa m.ans.length ya, .slice xb m.aus.length yb, .slice xm m.more.length ym, .slice xp m.pres.length yp, .slice xu m.ups.length yu] 34)) (.slice xb m.aus.length yb) m.aus from h.aus.below b0)
 have HMM := UC (show HasRs (w.alloc (.cells #[.int .i64 m.id, .bool rp, .int .i64 m.op, .bool m.auth, .int .i64 m.code, .slice (some ⟨qb, qo, none⟩) m.qs.length yq, .slice xa m.ans.length ya, .slice xb m.aus.length yb, .slice xm m.more.length ym, .slice xp m.pres.length yp, .slice xu m.ups.length yu] 34)) (.slice xm m.more.length ym) m.more from h.more.below b0)
 have H8 := UC h8
 have HOA := UC hoa
 have HOB := UC hob
 have HOM := UC hom
 generalize nameText q.name = NT at *
 generalize digs m.code = CT at *
 generalize kindT m = KT at *
 have lA : (secT (KT ++ [32] ++ CT ++ [32] ++ NT ++ [10]) ansW m.ans m.ans.length).length ≤ 10000 := by
  have := secT_length (KT ++ [32] ++ CT ++ [32] ++ NT ++ [10]) (w := ansW) m.ans (by decide) m.ans.length
  simp only [List.length_append, List.length_cons, List.length_nil] at this
  omega
 have lH : (KT ++ [32] ++ CT ++ [32] ++ NT ++ [10]).length ≤ 300 := by
  simp only [List.length_append, List.length_cons, List.length_nil]
  omega
 have lB : (secT (secT (KT ++ [32] ++ CT ++ [32] ++ NT ++ [10]) ansW m.ans m.ans.length) autW m.aus m.aus.length).length ≤ 20000 := by
  have := secT_length (secT (KT ++ [32] ++ CT ++ [32] ++ NT ++ [10]) ansW m.ans m.ans.length) (w := autW) m.aus (by decide) m.aus.length
  omega
 clear h hok hmay hc hqn hqn' hqr hqL hoa hob hom h8 hq1
 go_enter Tryz.func5, Tryz.ntmps5
 go_wp2_with fail
 generalize w.alloc (.cells #[.int .i64 m.id, .bool rp, .int .i64 m.op, .bool m.auth, .int .i64 m.code, .slice (some ⟨qb, qo, none⟩) m.qs.length yq, .slice xa m.ans.length ya, .slice xb m.aus.length yb, .slice xm m.more.length ym, .slice xp m.pres.length yp, .slice xu m.ups.length yu] 34) = W at *
 refine (UB CM).mono ?_
 rintro e w1 ⟨rfl, b1⟩
 have KBK := UC (fun (w' : World) (hbw : Below W.heap.size W w') => UE hbw (UB KB))
 have bb := b1
 clear CM b1
 cases rp
 all_goals
  obtain ⟨d0, d1, d2, d3, d4, d5, d6, d7, d8, d9, d10⟩ := cells11 (UB KBK _ bb)
  go_upto_region 6 with fail
  clear d0 d1 d2 d3 d4 d5 d6 d7 d8 d9 d10
  first | rw [← kt2_true (UB HKT)] | rw [← kt2_false (UB HKT)]
  have hcv := run_bytes_of_string (P := Tryz.prog) w1 9 28 5 (strOfNums (KT ++ [32])) Tryz.underlying9 Tryz.underlying28 Tryz.underlying5
  have hsz := strOfNums_size (KT ++ [32])
  have hcap := grownCap_ge w1 (strOfNums (KT ++ [32])).size 0 5
  have hcap2 := grownCap_le_maxLen w1 (strOfNums (KT ++ [32])).size 0 5 (by rw [hsz]; simp only [List.length_append, List.length_cons, List.length_nil]; unfold maxLen; omega)
  generalize grownCap w1 (strOfNums (KT ++ [32])).size 0 5 = C at *
  have bb2 := UG bb (UG (UI (w := w1) (.cells (bytesRow (strOfNums (KT ++ [32])) C) 5 ((bytesRow (strOfNums (KT ++ [32])) C).size, (bytesRow (strOfNums (KT ++ [32])) C).size + 1))) (UX (w := w1.alloc (.cells (bytesRow (strOfNums (KT ++ [32])) C) 5 ((bytesRow (strOfNums (KT ++ [32])) C).size, (bytesRow (strOfNums (KT ++ [32])) C).size + 1)))))
  have OS := (ownK_str (B := W.heap.size) (w := w1) 5 (KT ++ [32]) C (UB YK2) bb.size (by rw [← hsz]; exact hcap) hcap2).below (UX (w := w1.alloc (.cells (bytesRow (strOfNums (KT ++ [32])) C) 5 ((bytesRow (strOfNums (KT ++ [32])) C).size, (bytesRow (strOfNums (KT ++ [32])) C).size + 1))))
  have hln : (KT ++ [32]).length = KT.length + 1 := by simp
  rw [hln] at OS
  clear hln
  replace OS := UC OS
  rw [hsz] at hcv
  clear hsz hcap hcap2
  have hk2 := UB KBK _ bb2
  obtain ⟨d0, d1, d2, d3, d4, d5, d6, d7, d8, d9, d10⟩ := cells11 hk2
  go_wp2_with fail
  clear d0 d1 d2 d3 d4 d5 d6 d7 d8 d9 d10 hk2 hcv
  generalize (w1.alloc (.cells (bytesRow (strOfNums (KT ++ [32])) C) 5 ((bytesRow (strOfNums (KT ++ [32])) C).size, (bytesRow (strOfNums (KT ++ [32])) C).size + 1))).drew = w2 at *
  refine (UB PI _).mono ?_
  rintro e w3 ⟨v3, rfl, o3, b3⟩
  have bb3 := UG bb2 b3
  have O3 := UC ((UB OS).below b3)
  clear b3 OS
  go_wp2_with (at_builtin; refine appM_list rfl _ _ 28 28 5 rfl Tryz.underlying28 VJ W.heap.size _ _ (KT ++ [32]) CT rfl rfl (UB O3) (rd_bytes o3.reads (by first | omega | (simp only [List.length_cons, List.length_nil]; omega) | (simp only [List.length_append]; omega) | (simp only [List.length_append, List.length_cons, List.length_nil]; omega))) (by first | omega | (simp only [List.length_cons, List.length_nil]; omega) | (simp only [List.length_append]; omega) | (simp only [List.length_append, List.length_cons, List.length_nil]; omega)) bb3.size ?_)
  intro v4 w4 o4 g4 h4
  have bb4 := bb3.grown g4 bb3.size (fun q hq => ((UB O3).lt q hq).1)
  have O4 : Hid (OwnK W.heap.size 5 w4 v4 (KT ++ [32] ++ CT)) := UC (by first | exact o4 | simpa only [List.append_assoc, List.cons_append, List.nil_append] using o4)
  clear o4 g4 h4 o3
  have O4a := UC ((UB O4).below (UI (w := w4) (.cells #[.int .u8 32] 5)))
  have bb4a := UG bb4 (UI (w := w4) (.cells #[.int .u8 32] 5))
  have S4 := UC (own_lit w4 0 5 [32] (Nat.zero_le _) (by simp [maxLen])).reads
  go_wp2_with (at_builtin; refine appM_list rfl _ _ 28 28 5 rfl Tryz.underlying28 VJ W.heap.size _ _ (KT ++ [32] ++ CT) [32] rfl rfl (UB O4a) (rd_bytes (UB S4) (by first | omega | (simp only [List.length_cons, List.length_nil]; omega) | (simp only [List.length_append]; omega) | (simp only [List.length_append, List.length_cons, List.length_nil]; omega))) (by first | omega | (simp only [List.length_cons, List.length_nil]; omega) | (simp only [List.length_append]; omega) | (simp only [List.length_append, List.length_cons, List.length_nil]; omega)) bb4a.size ?_)
  intro v5 w5 o5 g5 h5
  have bb5 := bb4a.grown g5 bb4a.size (fun q hq => ((UB O4a).lt q hq).1)
  have O5 : Hid (OwnK W.heap.size 5 w5 v5 (KT ++ [32] ++ CT ++ [32])) := UC (by first | exact o5 | simpa only [List.append_assoc, List.cons_append, List.nil_append] using o5)
  clear o5 g5 h5 O4a bb4a S4
  obtain ⟨d0, d1, d2, d3, d4, d5, d6, d7, d8, d9, d10⟩ := cells11 (UB KBK _ bb5)
  have hqc := (bb5.cell (p := ⟨qb, qo, none⟩) hqb).trans (UB HQC)
  go_wp2_with fail
  clear d0 d1 d2 d3 d4 d5 d6 d7 d8 d9 d10 hqc
  refine (UB PN _ ((UB HQL).below bb5)).mono ?_
  rintro e w6 ⟨v6, rfl, o6, b6⟩
  have bb6 := UG bb5 b6
  have O6 := UC ((UB O5).below b6)
  clear b6
  go_wp2_with (at_builtin; refine appM_list rfl _ _ 28 28 5 rfl Tryz.underlying28 VJ W.heap.size _ _ (KT ++ [32] ++ CT ++ [32]) NT rfl rfl (UB O6) (rd_bytes o6.reads (by first | omega | (simp only [List.length_cons, List.length_nil]; omega) | (simp only [List.length_append]; omega) | (simp only [List.length_append, List.length_cons, List.length_nil]; omega))) (by first | omega | (simp only [List.length_cons, List.length_nil]; omega) | (simp only [List.length_append]; omega) | (simp only [List.length_append, List.length_cons, List.length_nil]; omega)) bb6.size ?_)
  intro v7 w7 o7 g7 h7
  have bb7 := bb6.grown g7 bb6.size (fun q hq => ((UB O6).lt q hq).1)
  have O7 : Hid (OwnK W.heap.size 5 w7 v7 (KT ++ [32] ++ CT ++ [32] ++ NT)) := UC (by first | exact o7 | simpa only [List.append_assoc, List.cons_append, List.nil_append] using o7)
  clear o7 g7 h7 o6
  have O7a := UC ((UB O7).below (UI (w := w7) (.cells #[.int .u8 10] 5)))
  have bb7a := UG bb7 (UI (w := w7) (.cells #[.int .u8 10] 5))
  have S7 := UC (own_lit w7 0 5 [10] (Nat.zero_le _) (by simp [maxLen])).reads
  go_wp2_with (at_builtin; refine appM_list rfl _ _ 28 28 5 rfl Tryz.underlying28 VJ W.heap.size _ _ (KT ++ [32] ++ CT ++ [32] ++ NT) [10] rfl rfl (UB O7a) (rd_bytes (UB S7) (by first | omega | (simp only [List.length_cons, List.length_nil]; omega) | (simp only [List.length_append]; omega) | (simp only [List.length_append, List.length_cons, List.length_nil]; omega))) (by first | omega | (simp only [List.length_cons, List.length_nil]; omega) | (simp only [List.length_append]; omega) | (simp only [List.length_append, List.length_cons, List.length_nil]; omega)) bb7a.size ?_)
  intro v8 w8 o8 g8 h8
  have bb8 := bb7a.grown g8 bb7a.size (fun q hq => ((UB O7a).lt q hq).1)
  have O8 : Hid (OwnK W.heap.size 5 w8 v8 (KT ++ [32] ++ CT ++ [32] ++ NT ++ [10])) := UC (by first | exact o8 | simpa only [List.append_assoc, List.cons_append, List.nil_append] using o8)
  clear o8 g8 h8 O7a bb7a S7
  have bbD := UG bb8 (UX (w := w8))
  have OD : Hid (OwnK W.heap.size 5 w8.drew v8 (KT ++ [32] ++ CT ++ [32] ++ NT ++ [10])) := UC (by simpa only [List.append_assoc, List.cons_append, List.nil_append] using (UB O8).below (UX (w := w8)))
  go_wp2_with fail
  refine startC [0, 1, 2, 4, 5, 7, 8, 3, 6, 9, 10] (by kernel_rfl) ⟨by kernel_rfl, by kernel_rfl, by kernel_rfl, by kernel_rfl⟩ 8 [(2, fun w' => w'.cell? ⟨w.heap.size, 6, none⟩ = some (.slice xa m.ans.length ya)), (5, fun w' => w'.cell? ⟨w.heap.size, 7, none⟩ = some (.slice xb m.aus.length yb)), (8, fun w' => w'.cell? ⟨w.heap.size, 8, none⟩ = some (.slice xm m.more.length ym))] (fun hA => ?_)
  replace hA := UC hA
  repeat ((first | (refine VN ?_ (UB hA) rfl rfl rfl (by rfl) (fun _ _ _ h => h) ?_ ?_; rotate_left; · (intro w; go_simp <;> with_reducible rfl)) | refine VM (UB hA) rfl rfl (by rfl) (fun _ _ _ h => h) ?_); go_simp)
  refine takeC ?_ (UB hA) rfl rfl rfl (by rfl) (fun _ _ _ h => h) (.head _) (cells11 (UB KBK _ bbD)).2.2.2.2.2.2.1 ?_ ?_; rotate_left; (· (intro w hSw; (try dsimp only at hSw); go_simp <;> with_reducible rfl)); go_simp
  repeat ((first | (refine VN ?_ (UB hA) rfl rfl rfl (by rfl) (fun _ _ _ h => h) ?_ ?_; rotate_left; · (intro w; go_simp <;> with_reducible rfl)) | refine VM (UB hA) rfl rfl (by rfl) (fun _ _ _ h => h) ?_); go_simp)
  refine takeC ?_ (UB hA) rfl rfl rfl (by rfl) (fun _ _ _ h => h) (.tail _ (.head _)) (cells11 (UB KBK _ bbD)).2.2.2.2.2.2.2.1 ?_ ?_; rotate_left; (· (intro w hSw; (try dsimp only at hSw); go_simp <;> with_reducible rfl)); go_simp
  repeat ((first | (refine VN ?_ (UB hA) rfl rfl rfl (by rfl) (fun _ _ _ h => h) ?_ ?_; rotate_left; · (intro w; go_simp <;> with_reducible rfl)) | refine VM (UB hA) rfl rfl (by rfl) (fun _ _ _ h => h) ?_); go_simp)
  refine takeC ?_ (UB hA) rfl rfl rfl (by rfl) (fun _ _ _ h => h) (.tail _ (.tail _ (.head _))) (cells11 (UB KBK _ bbD)).2.2.2.2.2.2.2.2.1 ?_ ?_; rotate_left; (· (intro w hSw; (try dsimp only at hSw); go_simp <;> with_reducible rfl)); go_simp
  repeat ((first | (refine VN ?_ (UB hA) rfl rfl rfl (by rfl) (fun _ _ _ h => h) ?_ ?_; rotate_left; · (intro w; go_simp <;> with_reducible rfl)) | refine VM (UB hA) rfl rfl (by rfl) (fun _ _ _ h => h) ?_); go_simp)
  refine runC (UB hA) rfl rfl (by kernel_rfl) (by kernel_rfl) (fun K hK => ?_)
  have HK := UC hK
  clear hK
  go_simp
  refine (l4sec_own (ws := ansW) (UB HA) bbD (UB OD) (by omega) (by omega) (UB HOA) ((UB H8).1) (by decide) (byt_lit (by decide))).mono ?_
  rintro e w11 ⟨v11, rfl, o11, bb11⟩
  have O11 := UC o11
  clear o11
  refine (UB HK).out _ _ (VB (by kernel_rfl) (keepC_yes (cells11 (UB KBK _ bb11)).2.2.2.2.2.2.2.1 (keepC_yes (cells11 (UB KBK _ bb11)).2.2.2.2.2.2.2.2.1 VL))) ?_
  clear HK K
  go_simp
  repeat ((first | (refine VN ?_ (UB hA) rfl rfl rfl (by rfl) (fun _ _ _ h => h) ?_ ?_; rotate_left; · (intro w; go_simp <;> with_reducible rfl)) | refine VM (UB hA) rfl rfl (by rfl) (fun _ _ _ h => h) ?_); go_simp)
  refine runC (UB hA) rfl rfl (by kernel_rfl) (by kernel_rfl) (fun K hK => ?_)
  have HK := UC hK
  clear hK
  go_simp
  refine (l4sec_own (ws := autW) (UB HBB) bb11 (UB O11) (by omega) (by omega) (UB HOB) ((UB H8).2.1) (by decide) (byt_lit (by decide))).mono ?_
  rintro e w12 ⟨v12, rfl, o12, bb12⟩
  have O12 := UC o12
  clear o12
  refine (UB HK).out _ _ (VB (by kernel_rfl) (VB (by kernel_rfl) (keepC_yes (cells11 (UB KBK _ bb12)).2.2.2.2.2.2.2.2.1 VL))) ?_
  clear HK K
  go_simp
  repeat ((first | (refine VN ?_ (UB hA) rfl rfl rfl (by rfl) (fun _ _ _ h => h) ?_ ?_; rotate_left; · (intro w; go_simp <;> with_reducible rfl)) | refine VM (UB hA) rfl rfl (by rfl) (fun _ _ _ h => h) ?_); go_simp)
  refine runC (UB hA) rfl rfl (by kernel_rfl) (by kernel_rfl) (fun K hK => ?_)
  have HK := UC hK
  clear hK
  go_simp
  refine (l4sec_own (ws := morW) (UB HMM) bb12 (UB O12) (by omega) (by omega) (UB HOM) ((UB H8).2.2) (by decide) (byt_lit (by decide))).mono ?_
  rintro e w13 ⟨v13, rfl, o13, bb13⟩
  have O13 := UC o13
  clear o13
  refine (UB HK).out _ _ (VB (by kernel_rfl) (VB (by kernel_rfl) (VB (by kernel_rfl) VL))) ?_
  clear HK K
  go_simp
  repeat ((first | (refine VN ?_ (UB hA) rfl rfl rfl (by rfl) (fun _ _ _ h => h) ?_ ?_; rotate_left; · (intro w; go_simp <;> with_reducible rfl)) | refine VM (UB hA) rfl rfl (by rfl) (fun _ _ _ h => h) ?_); go_simp)
  refine doneC (UB hA) rfl ?_
  clear hA
  go_wp2_with fail
  go_ret
  exact ⟨_, rfl, (UB O13).has, UG b0 bb13⟩
set_option maxHeartbeats 1000000 in
set_option maxRecDepth 100000 in
theorem specMsgText_no {vq va vb vm vp vu : Value} {m : Mg} {w : World} (h : HasM w vq va vb vm vp vu m) (hok : okM m = false) :
  Calls Tryz.prog 5 #[.agg #[.int .i64 m.id, .bool m.reply, .int .i64 m.op, .bool m.auth, .int .i64 m.code, vq, va, vb, vm, vp, vu]] w fun e w' => ∃ v', e = .returned v' ∧ Has w' v' [] ∧ Below w.heap.size w w' := by
 obtain ⟨xq, yq, rfl, _, zq⟩ := h.qs.form
 obtain ⟨xa, ya, rfl, _, za⟩ := h.ans.form
 obtain ⟨xb, yb, rfl, _, zb⟩ := h.aus.form
 obtain ⟨xm, ym, rfl, _, zm⟩ := h.more.form
 obtain ⟨xp, yp, rfl, _, zp⟩ := h.pres.form
 obtain ⟨xu, yu, rfl, _, zu⟩ := h.ups.form
 have CM := specMsgOk_has (h.below (UI (w := w) (.cells #[.int .i64 m.id, .bool m.reply, .int .i64 m.op, .bool m.auth, .int .i64 m.code, .slice xq m.qs.length yq, .slice xa m.ans.length ya, .slice xb m.aus.length yb, .slice xm m.more.length ym, .slice xp m.pres.length yp, .slice xu m.ups.length yu] 34)))
 rw [hok] at CM
 have b0 := UI (w := w) (.cells #[.int .i64 m.id, .bool m.reply, .int .i64 m.op, .bool m.auth, .int .i64 m.code, .slice xq m.qs.length yq, .slice xa m.ans.length ya, .slice xb m.aus.length yb, .slice xm m.more.length ym, .slice xp m.pres.length yp, .slice xu m.ups.length yu] 34)
 replace CM := UC CM
 clear h hok
 go_enter Tryz.func5, Tryz.ntmps5
 go_wp2_with fail
 generalize w.alloc (.cells #[.int .i64 m.id, .bool m.reply, .int .i64 m.op, .bool m.auth, .int .i64 m.code, .slice xq m.qs.length yq, .slice xa m.ans.length ya, .slice xb m.aus.length yb, .slice xm m.more.length ym, .slice xp m.pres.length yp, .slice xu m.ups.length yu] 34) = W at *
 refine (UB CM).mono ?_
 rintro e w1 ⟨rfl, b1⟩
 go_wp2_with fail
 go_ret
 exact ⟨_, rfl, .inl ⟨rfl, rfl⟩, UG b0 b1⟩
theorem specMsgText_has {vq va vb vm vp vu : Value} {m : Mg} {w : World} (h : HasM w vq va vb vm vp vu m) (h8 : BytM m) :
  Calls Tryz.prog 5 #[.agg #[.int .i64 m.id, .bool m.reply, .int .i64 m.op, .bool m.auth, .int .i64 m.code, vq, va, vb, vm, vp, vu]] w fun e w' => ∃ v', e = .returned v' ∧ Has w' v' (msgText m) ∧ Below w.heap.size w w' := by
 cases hok : okM m with
 | false => rw [msgText_no hok]; exact specMsgText_no h hok
 | true => rw [msgText_yes hok]; exact specMsgText_yes h hok h8
end Go.Proofs.YtfpenlobnnlnfaaGreatDoor
