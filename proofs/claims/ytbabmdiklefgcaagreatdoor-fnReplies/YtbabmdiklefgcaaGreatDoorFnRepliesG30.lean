/-
  Contracts of the program's MsgBytes and MsgOk. Contract of the program's ReplyTo where it is refused. Contracts of the program's ReplyTo. Plain facts: where an append to an own row of bytes leaves it: in its block, or in a new one. No program is named here. Plain facts: an append to a slice of bytes that is owned, or that is full. No program is named here.
-/
import Derived.Test.YtbabmdiklefgcaaGreatDoorFnRepliesG29
import Derived.Test.YtbabmdiklefgcaaGreatDoorFnRepliesG22
import Derived.Test.YtbabmdiklefgcaaGreatDoorFnRepliesG00
import Derived.Test.YtbabmdiklefgcaaGreatDoorFnRepliesG02
import Derived.Lib.AppendStr
import Derived.Lib.UnsafeStr
namespace Go.Proofs.YtbabmdiklefgcaaGreatDoor
open Go.RowKit
set_option linter.unusedVariables false
set_option maxHeartbeats 1000000
set_option maxRecDepth 100000

theorem implMsgBytes_not {vq va vb vm vp vu : Value} {m : Mg} {w : World} (h : HasM w vq va vb vm vp vu m) (hmay : mayM m = false) :
  Calls Tryz.prog 25 #[.agg #[.int .i64 m.id, .bool m.reply, .int .i64 m.op, .bool m.auth, .int .i64 m.code, vq, va, vb, vm, vp, vu]] w fun e w' => ∃ v', e = .returned (.tuple #[v', .bool false]) ∧ Own w.heap.size 5 w' v' [] ∧ Below w.heap.size w w' := by
 have hpo := partsOk_has (h.below (UI (w := w) (.cells #[.int .i64 m.id, .bool m.reply, .int .i64 m.op, .bool m.auth, .int .i64 m.code, vq, va, vb, vm, vp, vu] 27)))
 rw [hmay] at hpo
 have HPO := UC hpo
 obtain ⟨xq, yq, rfl, _, zq⟩ := h.qs.form
 obtain ⟨xa, ya, rfl, _, za⟩ := h.ans.form
 obtain ⟨xb, yb, rfl, _, zb⟩ := h.aus.form
 obtain ⟨xm, ym, rfl, _, zm⟩ := h.more.form
 obtain ⟨xp, yp, rfl, _, zp⟩ := h.pres.form
 obtain ⟨xu, yu, rfl, _, zu⟩ := h.ups.form
 have b0 := UI (w := w) (.cells #[.int .i64 m.id, .bool m.reply, .int .i64 m.op, .bool m.auth, .int .i64 m.code, .slice xq m.qs.length yq, .slice xa m.ans.length ya, .slice xb m.aus.length yb, .slice xm m.more.length ym, .slice xp m.pres.length yp, .slice xu m.ups.length yu] 27)
 have KK := UC (heap_alloc_new w (.cells #[.int .i64 m.id, .bool m.reply, .int .i64 m.op, .bool m.auth, .int .i64 m.code, .slice xq m.qs.length yq, .slice xa m.ans.length ya, .slice xb m.aus.length yb, .slice xm m.more.length ym, .slice xp m.pres.length yp, .slice xu m.ups.length yu] 27))
 clear h hpo hmay
 obtain ⟨d0, d1, d2, d3, d4, d5, d6, d7, d8, d9, d10⟩ := cells11 (UB KK)
 go_enter Tryz.func25, Tryz.ntmps25
 go_wp2_with fail
 clear d0 d1 d2 d3 d4 d5 d6 d7 d8 d9 d10
 generalize w.alloc (.cells #[.int .i64 m.id, .bool m.reply, .int .i64 m.op, .bool m.auth, .int .i64 m.code, .slice xq m.qs.length yq, .slice xa m.ans.length ya, .slice xb m.aus.length yb, .slice xm m.more.length ym, .slice xp m.pres.length yp, .slice xu m.ups.length yu] 27) = W at *
 refine (UB HPO).mono ?_
 rintro e w1 ⟨rfl, b1⟩
 replace b0 := UG b0 b1
 clear b1
 go_wp2_with fail
 go_ret2
 exact ⟨_, rfl, World.ownsRow_nil _ _ _ _, b0⟩

theorem msgPut_may {m : Mg} (h : mayM m = true) : msgPut m = ((if (bytesM m).length ≤ 512 then bytesM m else []), decide ((bytesM m).length ≤ 512)) := by
 unfold msgPut okM
 rw [h, Bool.true_and]
 by_cases h512 : (bytesM m).length ≤ 512
 ·rw [decide_eq_true h512, if_pos rfl, if_pos h512]
 ·rw [decide_eq_false h512, if_neg (by simp), if_neg h512]
theorem msgPut_not {m : Mg} (h : mayM m = false) : msgPut m = ([], false) := by
 unfold msgPut okM
 rw [h, Bool.false_and, if_neg (by simp)]
theorem msgPut_ok (m : Mg) : (msgPut m).2 = okM m := by
 unfold msgPut
 cases h : okM m with
 | true => rw [if_pos rfl]
 | false => rw [if_neg (by simp)]
theorem implMsgBytes_has {vq va vb vm vp vu : Value} {m : Mg} {w : World} (h : HasM w vq va vb vm vp vu m) :
  Calls Tryz.prog 25 #[.agg #[.int .i64 m.id, .bool m.reply, .int .i64 m.op, .bool m.auth, .int .i64 m.code, vq, va, vb, vm, vp, vu]] w fun e w' => ∃ v', e = .returned (.tuple #[v', .bool (msgPut m).2]) ∧ Own w.heap.size 5 w' v' (msgPut m).1 ∧ Below w.heap.size w w' := by
 cases hm : mayM m with
 | true => rw [msgPut_may hm]; exact implMsgBytes_may h hm
 | false => rw [msgPut_not hm]; exact implMsgBytes_not h hm

theorem implMsgOk_has {vq va vb vm vp vu : Value} {m : Mg} {w : World} (h : HasM w vq va vb vm vp vu m) :
  Calls Tryz.prog 9 #[.agg #[.int .i64 m.id, .bool m.reply, .int .i64 m.op, .bool m.auth, .int .i64 m.code, vq, va, vb, vm, vp, vu]] w fun e w' => e = .returned (.bool (okM m)) ∧ Below w.heap.size w w' := by
 have hpo := implMsgBytes_has (h.below (UI (w := w) (.cells #[.int .i64 m.id, .bool m.reply, .int .i64 m.op, .bool m.auth, .int .i64 m.code, vq, va, vb, vm, vp, vu] 27)))
 rw [msgPut_ok] at hpo
 generalize okM m = R at *
 generalize (msgPut m).1 = B1 at *
 have HPO := UC hpo
 obtain ⟨xq, yq, rfl, _, zq⟩ := h.qs.form
 obtain ⟨xa, ya, rfl, _, za⟩ := h.ans.form
 obtain ⟨xb, yb, rfl, _, zb⟩ := h.aus.form
 obtain ⟨xm, ym, rfl, _, zm⟩ := h.more.form
 obtain ⟨xp, yp, rfl, _, zp⟩ := h.pres.form
 obtain ⟨xu, yu, rfl, _, zu⟩ := h.ups.form
 have b0 := UI (w := w) (.cells #[.int .i64 m.id, .bool m.reply, .int .i64 m.op, .bool m.auth, .int .i64 m.code, .slice xq m.qs.length yq, .slice xa m.ans.length ya, .slice xb m.aus.length yb, .slice xm m.more.length ym, .slice xp m.pres.length yp, .slice xu m.ups.length yu] 27)
 have KK := UC (heap_alloc_new w (.cells #[.int .i64 m.id, .bool m.reply, .int .i64 m.op, .bool m.auth, .int .i64 m.code, .slice xq m.qs.length yq, .slice xa m.ans.length ya, .slice xb m.aus.length yb, .slice xm m.more.length ym, .slice xp m.pres.length yp, .slice xu m.ups.length yu] 27))
 clear h hpo
 obtain ⟨d0, d1, d2, d3, d4, d5, d6, d7, d8, d9, d10⟩ := cells11 (UB KK)
 go_enter Tryz.func9, Tryz.ntmps9
 go_wp2_with fail
 clear d0 d1 d2 d3 d4 d5 d6 d7 d8 d9 d10
 generalize w.alloc (.cells #[.int .i64 m.id, .bool m.reply, .int .i64 m.op, .bool m.auth, .int .i64 m.code, .slice xq m.qs.length yq, .slice xa m.ans.length ya, .slice xb m.aus.length yb, .slice xm m.more.length ym, .slice xp m.pres.length yp, .slice xu m.ups.length yu] 27) = W at *
 refine (UB HPO).mono ?_
 rintro e w1 ⟨v1, rfl, o1, b1⟩
 replace b0 := UG b0 b1
 clear b1 o1
 go_wp2_with fail
 go_ret
 exact ⟨rfl, b0⟩
set_option maxHeartbeats 2000000 in
set_option maxRecDepth 100000 in
theorem implReplyTo_no {vq va vb vm vp vu : Value} {m : Mg} {w : World} (h : HasM w vq va vb vm vp vu m) (code : Int) (hno : ¬ (okM m = true ∧ 0 ≤ code ∧ code ≤ 10)) :
  Calls Tryz.prog 5 #[.agg #[.int .i64 m.id, .bool m.reply, .int .i64 m.op, .bool m.auth, .int .i64 m.code, vq, va, vb, vm, vp, vu], .int .i64 code] w fun e w' => ∃ uq ua ub um up uu, e = .returned (.agg #[.int .i64 (replyM m code).id, .bool (replyM m code).reply, .int .i64 (replyM m code).op, .bool (replyM m code).auth, .int .i64 (replyM m code).code, uq, ua, ub, um, up, uu]) ∧ OwnM w.heap.size w'.heap.size w' uq ua ub um up uu (replyM m code) ∧ Below w.heap.size w w' := by
 rw [replyM_no hno]
 obtain ⟨xq, yq, rfl, _, zq⟩ := h.qs.form
 obtain ⟨xa, ya, rfl, _, za⟩ := h.ans.form
 obtain ⟨xb, yb, rfl, _, zb⟩ := h.aus.form
 obtain ⟨xm, ym, rfl, _, zm⟩ := h.more.form
 obtain ⟨xp, yp, rfl, _, zp⟩ := h.pres.form
 obtain ⟨xu, yu, rfl, _, zu⟩ := h.ups.form
 obtain ⟨hsz, k0, r0⟩ := box2 w (.cells #[.int .i64 m.id, .bool m.reply, .int .i64 m.op, .bool m.auth, .int .i64 m.code, .slice xq m.qs.length yq, .slice xa m.ans.length ya, .slice xb m.aus.length yb, .slice xm m.more.length ym, .slice xp m.pres.length yp, .slice xu m.ups.length yu] 27) #[.int .i64 0, .bool false, .int .i64 0, .bool false, .int .i64 0, .slice none 0 0, .slice none 0 0, .slice none 0 0, .slice none 0 0, .slice none 0 0, .slice none 0 0] 27
 have b0 := below2 w (.cells #[.int .i64 m.id, .bool m.reply, .int .i64 m.op, .bool m.auth, .int .i64 m.code, .slice xq m.qs.length yq, .slice xa m.ans.length ya, .slice xb m.aus.length yb, .slice xm m.more.length ym, .slice xp m.pres.length yp, .slice xu m.ups.length yu] 27) (.cells #[.int .i64 0, .bool false, .int .i64 0, .bool false, .int .i64 0, .slice none 0 0, .slice none 0 0, .slice none 0 0, .slice none 0 0, .slice none 0 0, .slice none 0 0] 27)
 have KK := UC k0
 have RR := UC r0
 have zr := VC r0
 have H := UC (h.below b0)
 have CM := implMsgOk_has (h.below b0)
 obtain ⟨d0, d1, d2, d3, d4, d5, d6, d7, d8, d9, d10⟩ := cells11 k0
 obtain ⟨p0, p1, p2, p3, p4, p5, p6, p7, p8, p9, p10⟩ := cells11 r0
 obtain ⟨q0, q1, q2, q3, q4, q5, q6, q7, q8, q9, q10⟩ := frozen11 r0
 cases hok : okM m with
 | false =>
  rw [hok] at CM
  replace CM := UC CM
  clear h k0 r0 hsz hno hok
  go_enter Tryz.func5, Tryz.ntmps5
  go_wp2_with fail
  clear d0 d1 d2 d3 d4 d5 d6 d7 d8 d9 d10 p0 p1 p2 p3 p4 p5 p6 p7 p8 p9 p10 q0 q1 q2 q3 q4 q5 q6 q7 q8 q9 q10
  generalize (w.alloc (.cells #[.int .i64 m.id, .bool m.reply, .int .i64 m.op, .bool m.auth, .int .i64 m.code, .slice xq m.qs.length yq, .slice xa m.ans.length ya, .slice xb m.aus.length yb, .slice xm m.more.length ym, .slice xp m.pres.length yp, .slice xu m.ups.length yu] 27)).alloc (.cells #[.int .i64 0, .bool false, .int .i64 0, .bool false, .int .i64 0, .slice none 0 0, .slice none 0 0, .slice none 0 0, .slice none 0 0, .slice none 0 0, .slice none 0 0] 27) = W at *
  refine (UB CM).mono ?_
  rintro e w1 ⟨rfl, b1⟩
  replace b0 := UG b0 b1
  have R1 := UE b1 (UB RR)
  have z1 := b1.size
  obtain ⟨p0, p1, p2, p3, p4, p5, p6, p7, p8, p9, p10⟩ := cells11 R1
  obtain ⟨q0, q1, q2, q3, q4, q5, q6, q7, q8, q9, q10⟩ := frozen11 R1
  clear b1 CM
  go_wp2_with fail
  clear p0 p1 p2 p3 p4 p5 p6 p7 p8 p9 p10 q0 q1 q2 q3 q4 q5 q6 q7 q8 q9 q10
  obtain ⟨R5, u5⟩ := set11_is (c0 := .int .i64 0) (c1 := .bool false) (c2 := .int .i64 0) (c3 := .bool false) (c4 := .int .i64 0) (c5 := .slice none 0 0) (c6 := .slice none 0 0) (c7 := .slice none 0 0) (c8 := .slice none 0 0) (c9 := .slice none 0 0) (c10 := .slice none 0 0) R1
  have z5 := u5.size
  unfold set11 at R5 u5 z5
  refine bodyPost_ret (results_cell_row rfl _ _ (w.heap.size + 1) 27 #[.int .i64 0, .bool false, .int .i64 0, .bool false, .int .i64 0, .slice none 0 0, .slice none 0 0, .slice none 0 0, .slice none 0 0, .slice none 0 0, .slice none 0 0] (0, 0) _ rfl R5 Tryz.underlying27 rfl (by kernel_rfl)) rfl ?_
  have bb := u5.below b0 (by omega)
  exact ⟨_, _, _, _, _, _, rfl, ownM_nil _ _ bb.size _, bb⟩
 | true =>
  rw [hok] at CM
  replace CM := UC CM
  have hcode : decide (0 ≤ code ∧ code ≤ 10) = false := decide_eq_false (fun hc => hno ⟨hok, hc⟩)
  have CC := fun (w : World) => codeOk_any code w
  rw [hcode] at CC
  replace CC := UC CC
  clear h k0 r0 hsz hno hok hcode
  go_enter Tryz.func5, Tryz.ntmps5
  go_wp2_with fail
  clear d0 d1 d2 d3 d4 d5 d6 d7 d8 d9 d10 p0 p1 p2 p3 p4 p5 p6 p7 p8 p9 p10 q0 q1 q2 q3 q4 q5 q6 q7 q8 q9 q10
  generalize (w.alloc (.cells #[.int .i64 m.id, .bool m.reply, .int .i64 m.op, .bool m.auth, .int .i64 m.code, .slice xq m.qs.length yq, .slice xa m.ans.length ya, .slice xb m.aus.length yb, .slice xm m.more.length ym, .slice xp m.pres.length yp, .slice xu m.ups.length yu] 27)).alloc (.cells #[.int .i64 0, .bool false, .int .i64 0, .bool false, .int .i64 0, .slice none 0 0, .slice none 0 0, .slice none 0 0, .slice none 0 0, .slice none 0 0, .slice none 0 0] 27) = W at *
  refine (UB CM).mono ?_
  rintro e w1 ⟨rfl, b1⟩
  replace b0 := UG b0 b1
  have R1 := UE b1 (UB RR)
  have z1 := b1.size
  clear b1 CM
  go_wp2_with fail
  refine (UB CC _).mono ?_
  rintro e w2 ⟨rfl, rfl⟩
  obtain ⟨p0, p1, p2, p3, p4, p5, p6, p7, p8, p9, p10⟩ := cells11 R1
  obtain ⟨q0, q1, q2, q3, q4, q5, q6, q7, q8, q9, q10⟩ := frozen11 R1
  go_wp2_with fail
  clear p0 p1 p2 p3 p4 p5 p6 p7 p8 p9 p10 q0 q1 q2 q3 q4 q5 q6 q7 q8 q9 q10
  obtain ⟨R5, u5⟩ := set11_is (c0 := .int .i64 0) (c1 := .bool false) (c2 := .int .i64 0) (c3 := .bool false) (c4 := .int .i64 0) (c5 := .slice none 0 0) (c6 := .slice none 0 0) (c7 := .slice none 0 0) (c8 := .slice none 0 0) (c9 := .slice none 0 0) (c10 := .slice none 0 0) R1
  have z5 := u5.size
  unfold set11 at R5 u5 z5
  refine bodyPost_ret (results_cell_row rfl _ _ (w.heap.size + 1) 27 #[.int .i64 0, .bool false, .int .i64 0, .bool false, .int .i64 0, .slice none 0 0, .slice none 0 0, .slice none 0 0, .slice none 0 0, .slice none 0 0, .slice none 0 0] (0, 0) _ rfl R5 Tryz.underlying27 rfl (by kernel_rfl)) rfl ?_
  have bb := u5.below b0 (by omega)
  exact ⟨_, _, _, _, _, _, rfl, ownM_nil _ _ bb.size _, bb⟩
set_option maxHeartbeats 4000000 in
set_option maxRecDepth 100000 in
theorem implReplyTo_yes {vq va vb vm vp vu : Value} {m : Mg} {w : World} (h : HasM w vq va vb vm vp vu m) (code : Int) (hyes : okM m = true ∧ 0 ≤ code ∧ code ≤ 10) :
  Calls Tryz.prog 5 #[.agg #[.int .i64 m.id, .bool m.reply, .int .i64 m.op, .bool m.auth, .int .i64 m.code, vq, va, vb, vm, vp, vu], .int .i64 code] w fun e w' => ∃ uq ua ub um up uu, e = .returned (.agg #[.int .i64 (replyM m code).id, .bool (replyM m code).reply, .int .i64 (replyM m code).op, .bool (replyM m code).auth, .int .i64 (replyM m code).code, uq, ua, ub, um, up, uu]) ∧ OwnM w.heap.size w'.heap.size w' uq ua ub um up uu (replyM m code) ∧ Below w.heap.size w w' := by
 rw [replyM_yes hyes]
 obtain ⟨hok, hc0, hc1⟩ := hyes
 have hmay : mayM m = true := by unfold okM at hok; simp only [Bool.and_eq_true] at hok; exact hok.1
 have hq1 := (mayM_parts hmay).2.2.1
 have hqn := (mayM_parts hmay).2.2.2.1
 obtain ⟨xq, yq, rfl, _, zq⟩ := h.qs.form
 obtain ⟨xa, ya, rfl, _, za⟩ := h.ans.form
 obtain ⟨xb, yb, rfl, _, zb⟩ := h.aus.form
 obtain ⟨xm, ym, rfl, _, zm⟩ := h.more.form
 obtain ⟨xp, yp, rfl, _, zp⟩ := h.pres.form
 obtain ⟨xu, yu, rfl, _, zu⟩ := h.ups.form
 obtain ⟨hsz, k0, r0⟩ := box2 w (.cells #[.int .i64 m.id, .bool m.reply, .int .i64 m.op, .bool m.auth, .int .i64 m.code, .slice xq m.qs.length yq, .slice xa m.ans.length ya, .slice xb m.aus.length yb, .slice xm m.more.length ym, .slice xp m.pres.length yp, .slice xu m.ups.length yu] 27) #[.int .i64 0, .bool false, .int .i64 0, .bool false, .int .i64 0, .slice none 0 0, .slice none 0 0, .slice none 0 0, .slice none 0 0, .slice none 0 0, .slice none 0 0] 27
 have b0 := below2 w (.cells #[.int .i64 m.id, .bool m.reply, .int .i64 m.op, .bool m.auth, .int .i64 m.code, .slice xq m.qs.length yq, .slice xa m.ans.length ya, .slice xb m.aus.length yb, .slice xm m.more.length ym, .slice xp m.pres.length yp, .slice xu m.ups.length yu] 27) (.cells #[.int .i64 0, .bool false, .int .i64 0, .bool false, .int .i64 0, .slice none 0 0, .slice none 0 0, .slice none 0 0, .slice none 0 0, .slice none 0 0, .slice none 0 0] 27)
 have KK := UC k0
 have RR := UC r0
 have zr := VC r0
 have H := UC (h.below b0)
 have CM := implMsgOk_has (h.below b0)
 rw [hok] at CM
 replace CM := UC CM
 have CC := fun (w : World) => codeOk_any code w
 rw [decide_eq_true ⟨hc0, hc1⟩] at CC
 replace CC := UC CC
 have CA := UC (fun (w : World) (h : HasM w (.slice xq m.qs.length yq) (.slice xa m.ans.length ya) (.slice xb m.aus.length yb) (.slice xm m.more.length ym) (.slice xp m.pres.length yp) (.slice xu m.ups.length yu) m) => copyAllQ_has h.qs (by omega) (fun j hj => by obtain rfl : j = 0 := (by omega); exact hqn))
 obtain ⟨d0, d1, d2, d3, d4, d5, d6, d7, d8, d9, d10⟩ := cells11 k0
 clear h k0 r0 hsz hok hc0 hc1 hmay hqn hq1
 go_enter Tryz.func5, Tryz.ntmps5
 go_wp2_with fail
 clear d0 d1 d2 d3 d4 d5 d6 d7 d8 d9 d10
 generalize (w.alloc (.cells #[.int .i64 m.id, .bool m.reply, .int .i64 m.op, .bool m.auth, .int .i64 m.code, .slice xq m.qs.length yq, .slice xa m.ans.length ya, .slice xb m.aus.length yb, .slice xm m.more.length ym, .slice xp m.pres.length yp, .slice xu m.ups.length yu] 27)).alloc (.cells #[.int .i64 0, .bool false, .int .i64 0, .bool false, .int .i64 0, .slice none 0 0, .slice none 0 0, .slice none 0 0, .slice none 0 0, .slice none 0 0, .slice none 0 0] 27) = W at *
 refine (UB CM).mono ?_
 rintro e w1 ⟨rfl, b1⟩
 replace b0 := UG b0 b1
 replace H := UC ((UB H).below b1)
 replace KK := UC (UE b1 (UB KK))
 replace RR := UC (UE b1 (UB RR))
 have z1 := b1.size
 clear b1 CM
 go_wp2_with fail
 refine (UB CC _).mono ?_
 rintro e w2 ⟨rfl, rfl⟩
 have bd := UX (w := w1)
 have KD := UC (UE bd (UB KK))
 have RD := UC (UE bd (UB RR))
 have HD := UC ((UB H).below bd)
 replace b0 := UG b0 bd
 have zd : w1.drew.heap.size = w1.heap.size := rfl
 clear bd KK RR H
 go_wp2_with fail
 refine startF 10 (S := (fun w' => w'.cell? ⟨w.heap.size, 0, none⟩ = some (.int .i64 m.id) ∧ w'.cell? ⟨w.heap.size, 1, none⟩ = some (.bool m.reply) ∧ w'.cell? ⟨w.heap.size, 2, none⟩ = some (.int .i64 m.op) ∧ w'.cell? ⟨w.heap.size, 3, none⟩ = some (.bool m.auth) ∧ w'.cell? ⟨w.heap.size, 4, none⟩ = some (.int .i64 m.code) ∧ w'.cell? ⟨w.heap.size, 5, none⟩ = some (.slice xq m.qs.length yq) ∧ w'.cell? ⟨w.heap.size, 6, none⟩ = some (.slice xa m.ans.length ya) ∧ w'.cell? ⟨w.heap.size, 7, none⟩ = some (.slice xb m.aus.length yb) ∧ w'.cell? ⟨w.heap.size, 8, none⟩ = some (.slice xm m.more.length ym) ∧ w'.cell? ⟨w.heap.size, 9, none⟩ = some (.slice xp m.pres.length yp) ∧ w'.cell? ⟨w.heap.size, 10, none⟩ = some (.slice xu m.ups.length yu))) (by kernel_rfl) rfl (cells11 (UB KD)) (fun hHeld => ?_)
 simp only [List.replicate]
 repeat ((first | (refine tkF ?_ rfl (by kernel_rfl) (by rfl) (fun _ _ _ h => h) ?_ hHeld ?_; rotate_left; · (intro w hSw; (try dsimp only at hSw); go_simp <;> with_reducible rfl)) | refine skF rfl (by kernel_rfl) (by rfl) (fun _ _ _ h => h) hHeld ?_); simp only [Act.put, setF, List.setIfInBounds_toArray, List.set_cons_zero, List.set_cons_succ])
 refine runI 7 rfl (by kernel_rfl) (by kernel_rfl) (fun K hK => ?_)
 have HK := UC hK
 clear hK hHeld
 go_simp
 refine (UB CA _ (UB HD)).mono ?_
 rintro e w5 ⟨v5, rfl, o5, b5⟩
 obtain ⟨n5, m5, rfl, _⟩ := o5.form
 refine (UB HK).out _ _ (cells11 (UE b5 (UB KD))) (fun hHeld => ?_)
 clear HK K
 simp only [List.setIfInBounds_toArray, List.set_cons_zero, List.set_cons_succ]
 repeat ((first | (refine tkF ?_ rfl (by kernel_rfl) (by rfl) (fun _ _ _ h => h) ?_ hHeld ?_; rotate_left; · (intro w hSw; (try dsimp only at hSw); go_simp <;> with_reducible rfl)) | refine skF rfl (by kernel_rfl) (by rfl) (fun _ _ _ h => h) hHeld ?_); simp only [Act.put, setF, List.setIfInBounds_toArray, List.set_cons_zero, List.set_cons_succ])
 have R5 := UE b5 (UB RD)
 have z5 := b5.size
 replace b0 := UG b0 b5
 have O5 := UC o5
 have K5 := UC (UE b5 (UB KD))
 clear o5 b5 KD RD HD
 obtain ⟨p0, p1, p2, p3, p4, p5, p6, p7, p8, p9, p10⟩ := cells11 R5
 obtain ⟨q0, q1, q2, q3, q4, q5, q6, q7, q8, q9, q10⟩ := frozen11 R5
 obtain ⟨R6, u6⟩ := set11_is (c0 := .int .i64 m.id) (c1 := .bool true) (c2 := .int .i64 m.op) (c3 := .bool false) (c4 := .int .i64 code) (c5 := .slice n5 m.qs.length m5) (c6 := .slice none 0 0) (c7 := .slice none 0 0) (c8 := .slice none 0 0) (c9 := .slice none 0 0) (c10 := .slice none 0 0) R5
 unfold set11 at R6 u6
 have K6 := UC (u6.kept (UB K5) (by omega))
 refine runI 9 rfl (by kernel_rfl) (by kernel_rfl) (fun K hK => ?_)
 have HK := UC hK
 clear hK hHeld
 go_simp
 refine (UB HK).out _ _ (cells11 (UB K6)) (fun hHeld => ?_)
 clear HK K
 simp only [List.setIfInBounds_toArray, List.set_cons_zero, List.set_cons_succ]
 refine wpAnyH_done (by kernel_rfl) ?_ _
 clear hHeld
 clear p0 p1 p2 p3 p4 p5 p6 p7 p8 p9 p10 q0 q1 q2 q3 q4 q5 q6 q7 q8 q9 q10
 have z6 := u6.size
 have O6 := UC (RowX.outside (ownsQu 22 5) (UB O5) u6 (by omega))
 have bb := u6.below b0 (by omega)
 go_wp2_with fail
 refine bodyPost_ret (results_cell_row rfl _ _ (w.heap.size + 1) 27 #[.int .i64 m.id, .bool true, .int .i64 m.op, .bool false, .int .i64 code, .slice n5 m.qs.length m5, .slice none 0 0, .slice none 0 0, .slice none 0 0, .slice none 0 0, .slice none 0 0] (0, 0) _ rfl R6 Tryz.underlying27 rfl (by kernel_rfl)) rfl ?_
 exact ⟨_, _, _, _, _, _, rfl, ownM_q (m := m) (RowX.wide (UB O6) (by omega) z6) bb.size _ rfl rfl rfl rfl rfl rfl, bb⟩

theorem implReplyTo_has {vq va vb vm vp vu : Value} {m : Mg} {w : World} (h : HasM w vq va vb vm vp vu m) (code : Int) :
  Calls Tryz.prog 5 #[.agg #[.int .i64 m.id, .bool m.reply, .int .i64 m.op, .bool m.auth, .int .i64 m.code, vq, va, vb, vm, vp, vu], .int .i64 code] w fun e w' => ∃ uq ua ub um up uu, e = .returned (.agg #[.int .i64 (replyM m code).id, .bool (replyM m code).reply, .int .i64 (replyM m code).op, .bool (replyM m code).auth, .int .i64 (replyM m code).code, uq, ua, ub, um, up, uu]) ∧ OwnM w.heap.size w'.heap.size w' uq ua ub um up uu (replyM m code) ∧ Below w.heap.size w w' := by
 by_cases hc : okM m = true ∧ 0 ≤ code ∧ code ≤ 10
 ·exact implReplyTo_yes h code hc
 ·exact implReplyTo_no h code hc
end Go.Proofs.YtbabmdiklefgcaaGreatDoor

namespace Go.Proofs.YtbabmdiklefgcaaGreatDoor
open Go.RowKit

section
variable {P : Program} {w : World}

theorem where_bytes {t ty e : TypeId} (ht : P.underlying t = some (.slice e)) (hinfo : (P.info? e).map (fun i => (i.zero, i.size, i.bytes)) = some (some (.int .u8 0), 1, 1))
  {base : Nat} {v vx : Value} {l m : List Int} (hown : Own base e w v l) (hr : Reads w vx m) (hlen : l.length + m.length ≤ 1099511627776) (hbase : base ≤ w.heap.size) {v' : Value} {w' : World}
  (hrun : (Builtin.append_ #[t, t] ty #[v, vx]).run P w = .ok v' w') : v'.ownBlock = v.ownBlock ∨ v'.ownBlock = some w.heap.size := by
 obtain ⟨i0, hi, hz0, hz1, hz2⟩ := info_parts hinfo
 rcases hr with ⟨rfl, rfl⟩ | ⟨ad, cap, rfl, hc⟩
 ·rw [run_append_owned_none w base t ty e i0 1 ht hi v l.length (l.map (Value.int .u8)) hown] at hrun
  simp only [Result.ok.injEq] at hrun
  left; rw [hrun.1]
 ·obtain ⟨v2, w2, h1, _, _, h4⟩ := run_append_own (P := P) w base t ty e i0 (.int .u8 0) 1 1 ht hi hz0 hz1 hz2 rfl (by decide) v l.length (l.map (Value.int .u8)) hown ad m.length cap (m.map (Value.int .u8)) (by simp) (news_of hc) (one_of m) (by unfold maxLen; omega) (by omega) hbase
  rcases hown.2 with ⟨rfl, h0⟩ | ⟨g, cp, cur, rfl, hbg, hg, hnc, hcm, hcs, htake⟩
  ·by_cases hm : m.length = 0
   ·rw [h1] at hrun
    simp only [Result.ok.injEq] at hrun
    have := h4.2 ⟨rfl, hm⟩
    rw [← hrun.1, this]
    exact .inl rfl
   ·rw [run_append_nil (P := P) w t ty e i0 (.int .u8 0) ht hi hz0 ad m.length cap (m.map (Value.int .u8)) (by simp [hz1]) (news_of hc) (by omega) (by omega) (by rw [hz2]; omega)] at hrun
    simp only [Result.ok.injEq] at hrun
    right; rw [← hrun.1]; rfl
  ·by_cases hroom : l.length + m.length ≤ cp
   ·rw [run_append_room (P := P) w t ty e i0 ht hi g l.length cp cur hg ad m.length cap (m.map (Value.int .u8)) (by simp [hz1]) (news_of hc) (one_of m) hroom (by rw [hz1]; simp; omega)] at hrun
    simp only [Result.ok.injEq] at hrun
    left; rw [← hrun.1]; rfl
   ·have holds : ∀ j u, (l.map (Value.int .u8))[j]? = some u → w.cell? ((⟨g, 0, none⟩ : Addr).add j) = some u := World.ownsRow.cells hown (g := g) rfl
    rw [run_append_grow (P := P) w t ty e i0 (.int .u8 0) ht hi hz0 ⟨g, 0, none⟩ l.length cp (l.map (Value.int .u8)) (by simp [hz1]) holds ad m.length cap (m.map (Value.int .u8)) (by simp [hz1]) (news_of hc) (by omega) (by omega) (growslice_fits (by omega) (by rw [hz2]; omega))] at hrun
    simp only [Result.ok.injEq] at hrun
    right; rw [← hrun.1]; rfl

theorem step_append_where {ops : Array Oper} {o : Oper} {a : Act} {K : Act → World → Prop} {Q : Exit → Act → World → Prop} {E : Prop} (hgd : o.guard = none) (s x : Operand) (t e : TypeId)
  (ho : o.op = .call { callee := .builtin .append, args := #[s, x], argTypes := #[t, t] }) (ht : P.underlying t = some (.slice e))
  (hinfo : (P.info? e).map (fun i => (i.zero, i.size, i.bytes)) = some (some (.int .u8 0), 1, 1))
  (base : Nat) (v vx : Value) (l m : List Int) (hs : a.eval s = v) (hx : a.eval x = vx) (hown : Own base e w v l) (hr : Reads w vx m) (hlen : l.length + m.length ≤ 1099511627776) (hbase : base ≤ w.heap.size)
  (h : ∀ v' w', Own base e w' v' (l ++ m) → w.grownBy w' v.ownBlock → (v'.ownBlock = v.ownBlock ∨ v'.ownBlock = some w.heap.size) → K (a.put o.dst v') w') : if Region.wanted o (yielded ops a.tmps) = true then Oper.wp P o a w K Q else E := by
 have hw : Region.wanted o (yielded ops a.tmps) = true := by simp [Region.wanted, hgd]
 rw [if_pos hw]
 obtain ⟨v', w', hr', h2, h3⟩ := run_append_bytes (P := P) t o.type e ht hinfo base v vx l m hown hr hlen hbase
 have h4 := where_bytes ht hinfo hown hr hlen hbase hr'
 unfold Oper.wp execOp
 simp only [ho, resolve, invoke, builtin, Sem.run_bind, Sem.run_pure, Result.andThen_ok, List.map_toArray, List.map_cons, List.map_nil, hs, hx, hr']
 exact h v' w' h2 h3 h4
theorem append_where {ops : Array Oper} {rest : List Oper} {o : Oper} {a : Act} {Q : Exit → Act → World → Prop} (hgd : o.guard = none) (s x : Operand) (t e : TypeId)
  (ho : o.op = .call { callee := .builtin .append, args := #[s, x], argTypes := #[t, t] }) (ht : P.underlying t = some (.slice e))
  (hinfo : (P.info? e).map (fun i => (i.zero, i.size, i.bytes)) = some (some (.int .u8 0), 1, 1))
  (base : Nat) (v vx : Value) (l m : List Int) (hs : a.eval s = v) (hx : a.eval x = vx) (hown : Own base e w v l) (hr : Reads w vx m) (hlen : l.length + m.length ≤ 1099511627776) (hbase : base ≤ w.heap.size)
  (h : ∀ v' w', Own base e w' v' (l ++ m) → w.grownBy w' v.ownBlock → (v'.ownBlock = v.ownBlock ∨ v'.ownBlock = some w.heap.size) → wpList P ops Q rest (a.put o.dst v') w') : wpList P ops Q (o :: rest) a w := by
 refine wpList_plain hgd fun _ hK => ?_
 obtain ⟨v', w', hr', h2, h3⟩ := run_append_bytes (P := P) t o.type e ht hinfo base v vx l m hown hr hlen hbase
 have h4 := where_bytes ht hinfo hown hr hlen hbase hr'
 unfold Oper.wp execOp
 simp only [ho, resolve, invoke, builtin, Sem.run_bind, Sem.run_pure, Result.andThen_ok, List.map_toArray, List.map_cons, List.map_nil, hs, hx, hr']
 exact hK _ _ (h v' w' h2 h3 h4)
end

structure Moved (w w' : World) (v v' : Value) : Prop where
 kept : w.grownBy w' v.ownBlock
 own : v'.ownBlock = v.ownBlock ∨ ∀ q, v'.ownBlock = some q → w.heap.size ≤ q
theorem Moved.refl (w : World) (v : Value) : Moved w w v v := ⟨⟨rfl, rfl, rfl, Nat.le_refl _, fun _ _ _ => rfl⟩, .inl rfl⟩
theorem Moved.step {w a b : World} {v u u' : Value} (h : Moved w a v u) (g : a.grownBy b u.ownBlock) (hw : u'.ownBlock = u.ownBlock ∨ u'.ownBlock = some a.heap.size) : Moved w b v u' := by
 refine ⟨⟨g.os.trans h.kept.os, g.tape.trans h.kept.tape, g.output.trans h.kept.output, Nat.le_trans h.kept.size g.size, fun k hk hne => ?_⟩, ?_⟩
 ·refine (g.block k (Nat.lt_of_lt_of_le hk h.kept.size) (fun e => ?_)).trans (h.kept.block k hk hne)
  rcases h.own with h1 | h1
  ·rw [h1] at e; exact hne e
  ·have := h1 k e.symm; omega
 ·rcases hw with hw | hw
  ·rw [hw]; exact h.own
  ·right
   intro q hq
   rw [hw] at hq
   have := h.kept.size
   simp at hq
   omega
theorem Moved.below {w a b : World} {v u : Value} (h : Moved w a v u) (hb : Below a.heap.size a b) : Moved w b v u :=
 ⟨⟨hb.os.trans h.kept.os, hb.tape.trans h.kept.tape, hb.output.trans h.kept.output, Nat.le_trans h.kept.size hb.size, fun k hk hne => (hb.block k (Nat.lt_of_lt_of_le hk h.kept.size)).trans (h.kept.block k hk hne)⟩, h.own⟩
end Go.Proofs.YtbabmdiklefgcaaGreatDoor

namespace Go.Proofs.YtbabmdiklefgcaaGreatDoor
open Go.RowKit
set_option linter.unusedVariables false

def App (B : Nat) (e : TypeId) (w : World) (v : Value) (l : List Int) : Prop :=
 Own B e w v l ∨ ∃ a, v = .slice (some a) l.length l.length ∧ B ≤ a.block ∧ a.block < w.heap.size ∧ ∀ j, j < l.length → w.cell? (a.add j) = some (.int .u8 (l.getD j 0))
theorem App.reads {B : Nat} {e : TypeId} {w : World} {v : Value} {l : List Int} (h : App B e w v l) : Reads w v l := by
 rcases h with h | ⟨a, rfl, _, _, hc⟩
 ·exact h.reads
 ·exact .inr ⟨a, _, rfl, hc⟩
theorem App.mono {B B' : Nat} {e : TypeId} {w : World} {v : Value} {l : List Int} (h : App B e w v l) (hB : B' ≤ B) : App B' e w v l := by
 rcases h with h | ⟨a, rfl, hb, hc⟩
 ·exact .inl (h.mono hB)
 ·exact .inr ⟨a, rfl, by omega, hc⟩
theorem App.below {B : Nat} {e : TypeId} {w w' : World} {v : Value} {l : List Int} (h : App B e w v l) (hb : Below w.heap.size w w') : App B e w' v l := by
 rcases h with h | ⟨a, rfl, h1, h2, hc⟩
 ·exact .inl (h.below hb)
 ·exact .inr ⟨a, rfl, h1, Nat.lt_of_lt_of_le h2 hb.size, fun j hj => by
   have := hc j hj
   have hl := cell_lt this
   rw [hb.cell hl]; exact this⟩
theorem App.lt {B : Nat} {e : TypeId} {w : World} {v : Value} {l : List Int} (h : App B e w v l) : ∀ k, v.ownBlock = some k → B ≤ k ∧ k < w.heap.size := by
 rcases h with h | ⟨a, rfl, h1, h2, hc⟩
 ·exact h.lt
 ·intro k hk
  simp only [Value.ownBlock, Option.some.injEq] at hk
  omega
theorem App.alloc {B : Nat} {e : TypeId} {w : World} {v : Value} {l : List Int} (h : App B e w v l) (o : Obj) : App B e (w.alloc o) v l := h.below (UI o)

theorem strCells_int (t : List Int) (hb : ∀ x ∈ t, 0 ≤ x ∧ x ≤ 255) : Lib.strCells (strOfNums t) = t.map (Value.int .u8) := by
 rw [Lib.strCells_eq]
 unfold Lib.byteCells
 rw [strOfNums_data, List.map_map]
 apply List.map_congr_left
 intro x hx
 have := hb x hx
 simp only [Function.comp, UInt8.toNat_ofNat']
 congr 1
 omega
def Sep (q : Nat) (e : TypeId) (w : World) : Prop := w.heap[q]? = some (.cells #[.int .u8 32] e)
theorem Sep.reads {q : Nat} {e : TypeId} {w : World} (h : Sep q e w) : Reads w (.slice (some ⟨q, 0, none⟩) 1 1) [32] := .inr ⟨_, 1, rfl, fun j hj => by
 obtain rfl : j = 0 := by simpa using hj
 rw [Addr.add_lit]
 exact VE h 0⟩
theorem Sep.below {q : Nat} {e : TypeId} {w w' : World} (h : Sep q e w) (hb : Below w.heap.size w w') : Sep q e w' := UE hb h
theorem Sep.grown {q : Nat} {e : TypeId} {w w' : World} {r : Option Nat} (h : Sep q e w) (g : w.grownBy w' r) (hne : r ≠ some q) : Sep q e w' := (g.block q (VC h) (Ne.symm hne)).trans h
end Go.Proofs.YtbabmdiklefgcaaGreatDoor
