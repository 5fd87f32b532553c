/-
  Contract of the program's ReplyTo where it is refused. Contracts of the program's ReplyTo. Plain facts: where an append to an own row of bytes leaves it: in its block, or in a new one. No program is named here. Contracts of the specification's LabelOk.
-/
import Derived.Test.YtnplmeifhebhhaaGreatReplyToG14
import Derived.Test.YtnplmeifhebhhaaGreatReplyToG25
import Derived.Test.YtnplmeifhebhhaaGreatReplyToG04
import Derived.Test.YtnplmeifhebhhaaGreatReplyToG02
import Derived.Test.YtnplmeifhebhhaaGreatReplyToG05
import Derived.Test.YtnplmeifhebhhaaGreatReplyToG00
namespace Go.Proofs.YtnplmeifhebhhaaGreat
open Go.RowKit
set_option linter.unusedVariables false

set_option maxHeartbeats 2000000 in
set_option maxRecDepth 100000 in
theorem implReplyTo_no {vq va vb vm vp vu : Value} {m : Mg} {w : World} (h : HasM w vq va vb vm vp vu m) (code : Int) (hno : ¬ (okM m = true ∧ 0 ≤ code ∧ code ≤ 10)) :
  Calls Tryz.prog 20 #[.agg #[.int .i64 m.id, .bool m.reply, .int .i64 m.op, .bool m.auth, .int .i64 m.code, vq, va, vb, vm, vp, vu], .int .i64 code] w fun e w' => ∃ uq ua ub um up uu, e = .returned (.agg #[.int .i64 (replyM m code).id, .bool (replyM m code).reply, .int .i64 (replyM m code).op, .bool (replyM m code).auth, .int .i64 (replyM m code).code, uq, ua, ub, um, up, uu]) ∧ OwnM w.heap.size w'.heap.size w' uq ua ub um up uu (replyM m code) ∧ Below w.heap.size w w' := by
 rw [replyM_no hno]
 obtain ⟨xq, yq, rfl, _, zq⟩ := h.qs.form
 obtain ⟨xa, ya, rfl, _, za⟩ := h.ans.form
 obtain ⟨xb, yb, rfl, _, zb⟩ := h.aus.form
 obtain ⟨xm, ym, rfl, _, zm⟩ := h.more.form
 obtain ⟨xp, yp, rfl, _, zp⟩ := h.pres.form
 obtain ⟨xu, yu, rfl, _, zu⟩ := h.ups.form
 obtain ⟨hsz, k0, r0⟩ := box2 w (.cells #[.int .i64 m.id, .bool m.reply, .int .i64 m.op, .bool m.auth, .int .i64 m.code, .slice xq m.qs.length yq, .slice xa m.ans.length ya, .slice xb m.aus.length yb, .slice xm m.more.length ym, .slice xp m.pres.length yp, .slice xu m.ups.length yu] 33) #[.int .i64 0, .bool false, .int .i64 0, .bool false, .int .i64 0, .slice none 0 0, .slice none 0 0, .slice none 0 0, .slice none 0 0, .slice none 0 0, .slice none 0 0] 33
 have b0 := below2 w (.cells #[.int .i64 m.id, .bool m.reply, .int .i64 m.op, .bool m.auth, .int .i64 m.code, .slice xq m.qs.length yq, .slice xa m.ans.length ya, .slice xb m.aus.length yb, .slice xm m.more.length ym, .slice xp m.pres.length yp, .slice xu m.ups.length yu] 33) (.cells #[.int .i64 0, .bool false, .int .i64 0, .bool false, .int .i64 0, .slice none 0 0, .slice none 0 0, .slice none 0 0, .slice none 0 0, .slice none 0 0, .slice none 0 0] 33)
 have KK := hide k0
 have RR := hide r0
 have zr := block_lt r0
 have H := hide (h.below b0)
 have CM := implMsgOk_has (h.below b0)
 obtain ⟨d0, d1, d2, d3, d4, d5, d6, d7, d8, d9, d10⟩ := cells11 k0
 obtain ⟨p0, p1, p2, p3, p4, p5, p6, p7, p8, p9, p10⟩ := cells11 r0
 obtain ⟨q0, q1, q2, q3, q4, q5, q6, q7, q8, q9, q10⟩ := frozen11 r0
 cases hok : okM m with
 | false =>
  rw [hok] at CM
  replace CM := hide CM
  clear h k0 r0 hsz hno hok
  go_enter Tryz.func20, Tryz.ntmps20
  go_wp2_with fail
  clear d0 d1 d2 d3 d4 d5 d6 d7 d8 d9 d10 p0 p1 p2 p3 p4 p5 p6 p7 p8 p9 p10 q0 q1 q2 q3 q4 q5 q6 q7 q8 q9 q10
  generalize (w.alloc (.cells #[.int .i64 m.id, .bool m.reply, .int .i64 m.op, .bool m.auth, .int .i64 m.code, .slice xq m.qs.length yq, .slice xa m.ans.length ya, .slice xb m.aus.length yb, .slice xm m.more.length ym, .slice xp m.pres.length yp, .slice xu m.ups.length yu] 33)).alloc (.cells #[.int .i64 0, .bool false, .int .i64 0, .bool false, .int .i64 0, .slice none 0 0, .slice none 0 0, .slice none 0 0, .slice none 0 0, .slice none 0 0, .slice none 0 0] 33) = W at *
  refine (unhide CM).mono ?_
  rintro e w1 ⟨rfl, b1⟩
  replace b0 := below_next b0 b1
  have R1 := block_kept b1 (unhide RR)
  have z1 := b1.size
  obtain ⟨p0, p1, p2, p3, p4, p5, p6, p7, p8, p9, p10⟩ := cells11 R1
  obtain ⟨q0, q1, q2, q3, q4, q5, q6, q7, q8, q9, q10⟩ := frozen11 R1
  clear b1 CM
  go_wp2_with fail
  clear p0 p1 p2 p3 p4 p5 p6 p7 p8 p9 p10 q0 q1 q2 q3 q4 q5 q6 q7 q8 q9 q10
  obtain ⟨R5, u5⟩ := set11_is (c0 := .int .i64 0) (c1 := .bool false) (c2 := .int .i64 0) (c3 := .bool false) (c4 := .int .i64 0) (c5 := .slice none 0 0) (c6 := .slice none 0 0) (c7 := .slice none 0 0) (c8 := .slice none 0 0) (c9 := .slice none 0 0) (c10 := .slice none 0 0) R1
  have z5 := u5.size
  unfold set11 at R5 u5 z5
  refine bodyPost_ret (results_cell_row rfl _ _ (w.heap.size + 1) 33 #[.int .i64 0, .bool false, .int .i64 0, .bool false, .int .i64 0, .slice none 0 0, .slice none 0 0, .slice none 0 0, .slice none 0 0, .slice none 0 0, .slice none 0 0] (0, 0) _ rfl R5 Tryz.underlying33 rfl (by kernel_rfl)) rfl ?_
  have bb := u5.below b0 (by omega)
  exact ⟨_, _, _, _, _, _, rfl, ownM_nil _ _ bb.size _, bb⟩
 | true =>
  rw [hok] at CM
  replace CM := hide CM
  have hcode : decide (0 ≤ code ∧ code ≤ 10) = false := decide_eq_false (fun hc => hno ⟨hok, hc⟩)
  have CC := fun (w : World) => codeOk_any code w
  rw [hcode] at CC
  replace CC := hide CC
  clear h k0 r0 hsz hno hok hcode
  go_enter Tryz.func20, Tryz.ntmps20
  go_wp2_with fail
  clear d0 d1 d2 d3 d4 d5 d6 d7 d8 d9 d10 p0 p1 p2 p3 p4 p5 p6 p7 p8 p9 p10 q0 q1 q2 q3 q4 q5 q6 q7 q8 q9 q10
  generalize (w.alloc (.cells #[.int .i64 m.id, .bool m.reply, .int .i64 m.op, .bool m.auth, .int .i64 m.code, .slice xq m.qs.length yq, .slice xa m.ans.length ya, .slice xb m.aus.length yb, .slice xm m.more.length ym, .slice xp m.pres.length yp, .slice xu m.ups.length yu] 33)).alloc (.cells #[.int .i64 0, .bool false, .int .i64 0, .bool false, .int .i64 0, .slice none 0 0, .slice none 0 0, .slice none 0 0, .slice none 0 0, .slice none 0 0, .slice none 0 0] 33) = W at *
  refine (unhide CM).mono ?_
  rintro e w1 ⟨rfl, b1⟩
  replace b0 := below_next b0 b1
  have R1 := block_kept b1 (unhide RR)
  have z1 := b1.size
  clear b1 CM
  go_wp2_with fail
  refine (unhide CC _).mono ?_
  rintro e w2 ⟨rfl, rfl⟩
  obtain ⟨p0, p1, p2, p3, p4, p5, p6, p7, p8, p9, p10⟩ := cells11 R1
  obtain ⟨q0, q1, q2, q3, q4, q5, q6, q7, q8, q9, q10⟩ := frozen11 R1
  go_wp2_with fail
  clear p0 p1 p2 p3 p4 p5 p6 p7 p8 p9 p10 q0 q1 q2 q3 q4 q5 q6 q7 q8 q9 q10
  obtain ⟨R5, u5⟩ := set11_is (c0 := .int .i64 0) (c1 := .bool false) (c2 := .int .i64 0) (c3 := .bool false) (c4 := .int .i64 0) (c5 := .slice none 0 0) (c6 := .slice none 0 0) (c7 := .slice none 0 0) (c8 := .slice none 0 0) (c9 := .slice none 0 0) (c10 := .slice none 0 0) R1
  have z5 := u5.size
  unfold set11 at R5 u5 z5
  refine bodyPost_ret (results_cell_row rfl _ _ (w.heap.size + 1) 33 #[.int .i64 0, .bool false, .int .i64 0, .bool false, .int .i64 0, .slice none 0 0, .slice none 0 0, .slice none 0 0, .slice none 0 0, .slice none 0 0, .slice none 0 0] (0, 0) _ rfl R5 Tryz.underlying33 rfl (by kernel_rfl)) rfl ?_
  have bb := u5.below b0 (by omega)
  exact ⟨_, _, _, _, _, _, rfl, ownM_nil _ _ bb.size _, bb⟩
end Go.Proofs.YtnplmeifhebhhaaGreat

namespace Go.Proofs.YtnplmeifhebhhaaGreat
open Go.RowKit
set_option linter.unusedVariables false

set_option maxHeartbeats 4000000 in
set_option maxRecDepth 100000 in
theorem implReplyTo_yes {vq va vb vm vp vu : Value} {m : Mg} {w : World} (h : HasM w vq va vb vm vp vu m) (code : Int) (hyes : okM m = true ∧ 0 ≤ code ∧ code ≤ 10) :
  Calls Tryz.prog 20 #[.agg #[.int .i64 m.id, .bool m.reply, .int .i64 m.op, .bool m.auth, .int .i64 m.code, vq, va, vb, vm, vp, vu], .int .i64 code] w fun e w' => ∃ uq ua ub um up uu, e = .returned (.agg #[.int .i64 (replyM m code).id, .bool (replyM m code).reply, .int .i64 (replyM m code).op, .bool (replyM m code).auth, .int .i64 (replyM m code).code, uq, ua, ub, um, up, uu]) ∧ OwnM w.heap.size w'.heap.size w' uq ua ub um up uu (replyM m code) ∧ Below w.heap.size w w' := by
 rw [replyM_yes hyes]
 obtain ⟨hok, hc0, hc1⟩ := hyes
 have hmay : mayM m = true := by unfold okM at hok; simp only [Bool.and_eq_true] at hok; exact hok.1
 have hq1 := (mayM_parts hmay).2.2.1
 have hqn := (mayM_parts hmay).2.2.2.1
 obtain ⟨xq, yq, rfl, _, zq⟩ := h.qs.form
 obtain ⟨xa, ya, rfl, _, za⟩ := h.ans.form
 obtain ⟨xb, yb, rfl, _, zb⟩ := h.aus.form
 obtain ⟨xm, ym, rfl, _, zm⟩ := h.more.form
 obtain ⟨xp, yp, rfl, _, zp⟩ := h.pres.form
 obtain ⟨xu, yu, rfl, _, zu⟩ := h.ups.form
 obtain ⟨hsz, k0, r0⟩ := box2 w (.cells #[.int .i64 m.id, .bool m.reply, .int .i64 m.op, .bool m.auth, .int .i64 m.code, .slice xq m.qs.length yq, .slice xa m.ans.length ya, .slice xb m.aus.length yb, .slice xm m.more.length ym, .slice xp m.pres.length yp, .slice xu m.ups.length yu] 33) #[.int .i64 0, .bool false, .int .i64 0, .bool false, .int .i64 0, .slice none 0 0, .slice none 0 0, .slice none 0 0, .slice none 0 0, .slice none 0 0, .slice none 0 0] 33
 have b0 := below2 w (.cells #[.int .i64 m.id, .bool m.reply, .int .i64 m.op, .bool m.auth, .int .i64 m.code, .slice xq m.qs.length yq, .slice xa m.ans.length ya, .slice xb m.aus.length yb, .slice xm m.more.length ym, .slice xp m.pres.length yp, .slice xu m.ups.length yu] 33) (.cells #[.int .i64 0, .bool false, .int .i64 0, .bool false, .int .i64 0, .slice none 0 0, .slice none 0 0, .slice none 0 0, .slice none 0 0, .slice none 0 0, .slice none 0 0] 33)
 have KK := hide k0
 have RR := hide r0
 have zr := block_lt r0
 have H := hide (h.below b0)
 have CM := implMsgOk_has (h.below b0)
 rw [hok] at CM
 replace CM := hide CM
 have CC := fun (w : World) => codeOk_any code w
 rw [decide_eq_true ⟨hc0, hc1⟩] at CC
 replace CC := hide CC
 have CA := hide (fun (w : World) (h : HasM w (.slice xq m.qs.length yq) (.slice xa m.ans.length ya) (.slice xb m.aus.length yb) (.slice xm m.more.length ym) (.slice xp m.pres.length yp) (.slice xu m.ups.length yu) m) => copyAllQ_has h.qs (by omega) (fun j hj => by obtain rfl : j = 0 := (by omega); exact hqn))
 obtain ⟨d0, d1, d2, d3, d4, d5, d6, d7, d8, d9, d10⟩ := cells11 k0
 clear h k0 r0 hsz hok hc0 hc1 hmay hqn hq1
 go_enter Tryz.func20, Tryz.ntmps20
 go_wp2_with fail
 clear d0 d1 d2 d3 d4 d5 d6 d7 d8 d9 d10
 generalize (w.alloc (.cells #[.int .i64 m.id, .bool m.reply, .int .i64 m.op, .bool m.auth, .int .i64 m.code, .slice xq m.qs.length yq, .slice xa m.ans.length ya, .slice xb m.aus.length yb, .slice xm m.more.length ym, .slice xp m.pres.length yp, .slice xu m.ups.length yu] 33)).alloc (.cells #[.int .i64 0, .bool false, .int .i64 0, .bool false, .int .i64 0, .slice none 0 0, .slice none 0 0, .slice none 0 0, .slice none 0 0, .slice none 0 0, .slice none 0 0] 33) = W at *
 refine (unhide CM).mono ?_
 rintro e w1 ⟨rfl, b1⟩
 replace b0 := below_next b0 b1
 replace H := hide ((unhide H).below b1)
 replace KK := hide (block_kept b1 (unhide KK))
 replace RR := hide (block_kept b1 (unhide RR))
 have z1 := b1.size
 clear b1 CM
 go_wp2_with fail
 refine (unhide CC _).mono ?_
 rintro e w2 ⟨rfl, rfl⟩
 have bd := below_drew (w := w1)
 have KD := hide (block_kept bd (unhide KK))
 have RD := hide (block_kept bd (unhide RR))
 have HD := hide ((unhide H).below bd)
 replace b0 := below_next b0 bd
 have zd : w1.drew.heap.size = w1.heap.size := rfl
 clear bd KK RR H
 go_wp2_with fail
 refine startF 10 (S := (fun w' => w'.cell? ⟨w.heap.size, 0, none⟩ = some (.int .i64 m.id) ∧ w'.cell? ⟨w.heap.size, 1, none⟩ = some (.bool m.reply) ∧ w'.cell? ⟨w.heap.size, 2, none⟩ = some (.int .i64 m.op) ∧ w'.cell? ⟨w.heap.size, 3, none⟩ = some (.bool m.auth) ∧ w'.cell? ⟨w.heap.size, 4, none⟩ = some (.int .i64 m.code) ∧ w'.cell? ⟨w.heap.size, 5, none⟩ = some (.slice xq m.qs.length yq) ∧ w'.cell? ⟨w.heap.size, 6, none⟩ = some (.slice xa m.ans.length ya) ∧ w'.cell? ⟨w.heap.size, 7, none⟩ = some (.slice xb m.aus.length yb) ∧ w'.cell? ⟨w.heap.size, 8, none⟩ = some (.slice xm m.more.length ym) ∧ w'.cell? ⟨w.heap.size, 9, none⟩ = some (.slice xp m.pres.length yp) ∧ w'.cell? ⟨w.heap.size, 10, none⟩ = some (.slice xu m.ups.length yu))) (by kernel_rfl) rfl (cells11 (unhide KD)) (fun hHeld => ?_)
 simp only [List.replicate]
 repeat ((first | (refine tkF ?_ rfl (by kernel_rfl) (by rfl) (fun _ _ _ h => h) ?_ hHeld ?_; rotate_left; · (intro w hSw; (try dsimp only at hSw); go_simp <;> with_reducible rfl)) | refine skF rfl (by kernel_rfl) (by rfl) (fun _ _ _ h => h) hHeld ?_); simp only [Act.put, setF, List.setIfInBounds_toArray, List.set_cons_zero, List.set_cons_succ])
 refine runI 7 rfl (by kernel_rfl) (by kernel_rfl) (fun K hK => ?_)
 have HK := hide hK
 clear hK hHeld
 go_simp
 refine (unhide CA _ (unhide HD)).mono ?_
 rintro e w5 ⟨v5, rfl, o5, b5⟩
 obtain ⟨n5, m5, rfl, _⟩ := o5.form
 refine (unhide HK).out _ _ (cells11 (block_kept b5 (unhide KD))) (fun hHeld => ?_)
 clear HK K
 simp only [List.setIfInBounds_toArray, List.set_cons_zero, List.set_cons_succ]
 repeat ((first | (refine tkF ?_ rfl (by kernel_rfl) (by rfl) (fun _ _ _ h => h) ?_ hHeld ?_; rotate_left; · (intro w hSw; (try dsimp only at hSw); go_simp <;> with_reducible rfl)) | refine skF rfl (by kernel_rfl) (by rfl) (fun _ _ _ h => h) hHeld ?_); simp only [Act.put, setF, List.setIfInBounds_toArray, List.set_cons_zero, List.set_cons_succ])
 have R5 := block_kept b5 (unhide RD)
 have z5 := b5.size
 replace b0 := below_next b0 b5
 have O5 := hide o5
 have K5 := hide (block_kept b5 (unhide KD))
 clear o5 b5 KD RD HD
 obtain ⟨p0, p1, p2, p3, p4, p5, p6, p7, p8, p9, p10⟩ := cells11 R5
 obtain ⟨q0, q1, q2, q3, q4, q5, q6, q7, q8, q9, q10⟩ := frozen11 R5
 obtain ⟨R6, u6⟩ := set11_is (c0 := .int .i64 m.id) (c1 := .bool true) (c2 := .int .i64 m.op) (c3 := .bool false) (c4 := .int .i64 code) (c5 := .slice n5 m.qs.length m5) (c6 := .slice none 0 0) (c7 := .slice none 0 0) (c8 := .slice none 0 0) (c9 := .slice none 0 0) (c10 := .slice none 0 0) R5
 unfold set11 at R6 u6
 have K6 := hide (u6.kept (unhide K5) (by omega))
 refine runI 9 rfl (by kernel_rfl) (by kernel_rfl) (fun K hK => ?_)
 have HK := hide hK
 clear hK hHeld
 go_simp
 refine (unhide HK).out _ _ (cells11 (unhide K6)) (fun hHeld => ?_)
 clear HK K
 simp only [List.setIfInBounds_toArray, List.set_cons_zero, List.set_cons_succ]
 refine wpAnyH_done (by kernel_rfl) ?_ _
 clear hHeld
 clear p0 p1 p2 p3 p4 p5 p6 p7 p8 p9 p10 q0 q1 q2 q3 q4 q5 q6 q7 q8 q9 q10
 have z6 := u6.size
 have O6 := hide (RowX.outside (ownsQu 37 5) (unhide O5) u6 (by omega))
 have bb := u6.below b0 (by omega)
 go_wp2_with fail
 refine bodyPost_ret (results_cell_row rfl _ _ (w.heap.size + 1) 33 #[.int .i64 m.id, .bool true, .int .i64 m.op, .bool false, .int .i64 code, .slice n5 m.qs.length m5, .slice none 0 0, .slice none 0 0, .slice none 0 0, .slice none 0 0, .slice none 0 0] (0, 0) _ rfl R6 Tryz.underlying33 rfl (by kernel_rfl)) rfl ?_
 exact ⟨_, _, _, _, _, _, rfl, ownM_q (m := m) (RowX.wide (unhide O6) (by omega) z6) bb.size _ rfl rfl rfl rfl rfl rfl, bb⟩

theorem implReplyTo_has {vq va vb vm vp vu : Value} {m : Mg} {w : World} (h : HasM w vq va vb vm vp vu m) (code : Int) :
  Calls Tryz.prog 20 #[.agg #[.int .i64 m.id, .bool m.reply, .int .i64 m.op, .bool m.auth, .int .i64 m.code, vq, va, vb, vm, vp, vu], .int .i64 code] w fun e w' => ∃ uq ua ub um up uu, e = .returned (.agg #[.int .i64 (replyM m code).id, .bool (replyM m code).reply, .int .i64 (replyM m code).op, .bool (replyM m code).auth, .int .i64 (replyM m code).code, uq, ua, ub, um, up, uu]) ∧ OwnM w.heap.size w'.heap.size w' uq ua ub um up uu (replyM m code) ∧ Below w.heap.size w w' := by
 by_cases hc : okM m = true ∧ 0 ≤ code ∧ code ≤ 10
 ·exact implReplyTo_yes h code hc
 ·exact implReplyTo_no h code hc
end Go.Proofs.YtnplmeifhebhhaaGreat

namespace Go.Proofs.YtnplmeifhebhhaaGreat
open Go.RowKit

section
variable {P : Program} {w : World}

theorem where_bytes {t ty e : TypeId} (ht : P.underlying t = some (.slice e)) (hinfo : (P.info? e).map (fun i => (i.zero, i.size, i.bytes)) = some (some (.int .u8 0), 1, 1))
  {base : Nat} {v vx : Value} {l m : List Int} (hown : Own base e w v l) (hr : Reads w vx m) (hlen : l.length + m.length ≤ 1099511627776) (hbase : base ≤ w.heap.size) {v' : Value} {w' : World}
  (hrun : (Builtin.append_ #[t, t] ty #[v, vx]).run P w = .ok v' w') : v'.ownBlock = v.ownBlock ∨ v'.ownBlock = some w.heap.size := by
 obtain ⟨i0, hi, hz0, hz1, hz2⟩ := info_parts hinfo
 rcases hr with ⟨rfl, rfl⟩ | ⟨ad, cap, rfl, hc⟩
 ·rw [run_append_owned_none w base t ty e i0 1 ht hi v l.length (l.map (Value.int .u8)) hown] at hrun
  simp only [Result.ok.injEq] at hrun
  left; rw [hrun.1]
 ·obtain ⟨v2, w2, h1, _, _, h4⟩ := run_append_own (P := P) w base t ty e i0 (.int .u8 0) 1 1 ht hi hz0 hz1 hz2 rfl (by decide) v l.length (l.map (Value.int .u8)) hown ad m.length cap (m.map (Value.int .u8)) (by simp) (news_of hc) (one_of m) (by unfold maxLen; omega) (by omega) hbase
  rcases hown.2 with ⟨rfl, h0⟩ | ⟨g, cp, cur, rfl, hbg, hg, hnc, hcm, hcs, htake⟩
  ·by_cases hm : m.length = 0
   ·rw [h1] at hrun
    simp only [Result.ok.injEq] at hrun
    have := h4.2 ⟨rfl, hm⟩
    rw [← hrun.1, this]
    exact .inl rfl
   ·rw [run_append_nil (P := P) w t ty e i0 (.int .u8 0) ht hi hz0 ad m.length cap (m.map (Value.int .u8)) (by simp [hz1]) (news_of hc) (by omega) (by omega) (by rw [hz2]; omega)] at hrun
    simp only [Result.ok.injEq] at hrun
    right; rw [← hrun.1]; rfl
  ·by_cases hroom : l.length + m.length ≤ cp
   ·rw [run_append_room (P := P) w t ty e i0 ht hi g l.length cp cur hg ad m.length cap (m.map (Value.int .u8)) (by simp [hz1]) (news_of hc) (one_of m) hroom (by rw [hz1]; simp; omega)] at hrun
    simp only [Result.ok.injEq] at hrun
    left; rw [← hrun.1]; rfl
   ·have holds : ∀ j u, (l.map (Value.int .u8))[j]? = some u → w.cell? ((⟨g, 0, none⟩ : Addr).add j) = some u := World.ownsRow.cells hown (g := g) rfl
    rw [run_append_grow (P := P) w t ty e i0 (.int .u8 0) ht hi hz0 ⟨g, 0, none⟩ l.length cp (l.map (Value.int .u8)) (by simp [hz1]) holds ad m.length cap (m.map (Value.int .u8)) (by simp [hz1]) (news_of hc) (by omega) (by omega) (growslice_fits (by omega) (by rw [hz2]; omega))] at hrun
    simp only [Result.ok.injEq] at hrun
    right; rw [← hrun.1]; rfl

/-- 'append(s, x...)' of bytes, as a step of a region, and where it leaves the row. -/
theorem step_append_where {ops : Array Oper} {o : Oper} {a : Act} {K : Act → World → Prop} {Q : Exit → Act → World → Prop} {E : Prop} (hgd : o.guard = none) (s x : Operand) (t e : TypeId)
  (ho : o.op = .call { callee := .builtin .append, args := #[s, x], argTypes := #[t, t] }) (ht : P.underlying t = some (.slice e))
  (hinfo : (P.info? e).map (fun i => (i.zero, i.size, i.bytes)) = some (some (.int .u8 0), 1, 1))
  (base : Nat) (v vx : Value) (l m : List Int) (hs : a.eval s = v) (hx : a.eval x = vx) (hown : Own base e w v l) (hr : Reads w vx m) (hlen : l.length + m.length ≤ 1099511627776) (hbase : base ≤ w.heap.size)
  (h : ∀ v' w', Own base e w' v' (l ++ m) → w.grownBy w' v.ownBlock → (v'.ownBlock = v.ownBlock ∨ v'.ownBlock = some w.heap.size) → K (a.put o.dst v') w') : if Region.wanted o (yielded ops a.tmps) = true then Oper.wp P o a w K Q else E := by
 have hw : Region.wanted o (yielded ops a.tmps) = true := by simp [Region.wanted, hgd]
 rw [if_pos hw]
 obtain ⟨v', w', hr', h2, h3⟩ := run_append_bytes (P := P) t o.type e ht hinfo base v vx l m hown hr hlen hbase
 have h4 := where_bytes ht hinfo hown hr hlen hbase hr'
 unfold Oper.wp execOp
 simp only [ho, resolve, invoke, builtin, Sem.run_bind, Sem.run_pure, Result.andThen_ok, List.map_toArray, List.map_cons, List.map_nil, hs, hx, hr']
 exact h v' w' h2 h3 h4
/-- The same where no order is drawn. -/
theorem append_where {ops : Array Oper} {rest : List Oper} {o : Oper} {a : Act} {Q : Exit → Act → World → Prop} (hgd : o.guard = none) (s x : Operand) (t e : TypeId)
  (ho : o.op = .call { callee := .builtin .append, args := #[s, x], argTypes := #[t, t] }) (ht : P.underlying t = some (.slice e))
  (hinfo : (P.info? e).map (fun i => (i.zero, i.size, i.bytes)) = some (some (.int .u8 0), 1, 1))
  (base : Nat) (v vx : Value) (l m : List Int) (hs : a.eval s = v) (hx : a.eval x = vx) (hown : Own base e w v l) (hr : Reads w vx m) (hlen : l.length + m.length ≤ 1099511627776) (hbase : base ≤ w.heap.size)
  (h : ∀ v' w', Own base e w' v' (l ++ m) → w.grownBy w' v.ownBlock → (v'.ownBlock = v.ownBlock ∨ v'.ownBlock = some w.heap.size) → wpList P ops Q rest (a.put o.dst v') w') : wpList P ops Q (o :: rest) a w := by
 refine wpList_plain hgd fun _ hK => ?_
 obtain ⟨v', w', hr', h2, h3⟩ := run_append_bytes (P := P) t o.type e ht hinfo base v vx l m hown hr hlen hbase
 have h4 := where_bytes ht hinfo hown hr hlen hbase hr'
 unfold Oper.wp execOp
 simp only [ho, resolve, invoke, builtin, Sem.run_bind, Sem.run_pure, Result.andThen_ok, List.map_toArray, List.map_cons, List.map_nil, hs, hx, hr']
 exact hK _ _ (h v' w' h2 h3 h4)
end

/-- Of the blocks that lay in w none has turned but the row of v; what v' owns is that row, or new. -/
structure Moved (w w' : World) (v v' : Value) : Prop where
 kept : w.grownBy w' v.ownBlock
 own : v'.ownBlock = v.ownBlock ∨ ∀ q, v'.ownBlock = some q → w.heap.size ≤ q
theorem Moved.refl (w : World) (v : Value) : Moved w w v v := ⟨⟨rfl, rfl, rfl, Nat.le_refl _, fun _ _ _ => rfl⟩, .inl rfl⟩
theorem Moved.step {w a b : World} {v u u' : Value} (h : Moved w a v u) (g : a.grownBy b u.ownBlock) (hw : u'.ownBlock = u.ownBlock ∨ u'.ownBlock = some a.heap.size) : Moved w b v u' := by
 refine ⟨⟨g.os.trans h.kept.os, g.tape.trans h.kept.tape, g.output.trans h.kept.output, Nat.le_trans h.kept.size g.size, fun k hk hne => ?_⟩, ?_⟩
 ·refine (g.block k (Nat.lt_of_lt_of_le hk h.kept.size) (fun e => ?_)).trans (h.kept.block k hk hne)
  rcases h.own with h1 | h1
  ·rw [h1] at e; exact hne e
  ·have := h1 k e.symm; omega
 ·rcases hw with hw | hw
  ·rw [hw]; exact h.own
  ·right
   intro q hq
   rw [hw] at hq
   have := h.kept.size
   simp at hq
   omega
theorem Moved.below {w a b : World} {v u : Value} (h : Moved w a v u) (hb : Below a.heap.size a b) : Moved w b v u :=
 ⟨⟨hb.os.trans h.kept.os, hb.tape.trans h.kept.tape, hb.output.trans h.kept.output, Nat.le_trans h.kept.size hb.size, fun k hk hne => (hb.block k (Nat.lt_of_lt_of_le hk h.kept.size)).trans (h.kept.block k hk hne)⟩, h.own⟩
end Go.Proofs.YtnplmeifhebhhaaGreat

namespace Go.Proofs.YtnplmeifhebhhaaGreat
open Go.RowKit
set_option linter.unusedVariables false

theorem ssign_cases (c : Int) : (97 ≤ c ∧ c ≤ 122) ∨ (97 ≤ c ∧ 122 < c) ∨ (c < 97 ∧ 48 ≤ c ∧ c ≤ 57) ∨ (c < 97 ∧ 48 ≤ c ∧ 57 < c ∧ c ≠ 45) ∨ (c < 97 ∧ c < 48 ∧ c = 45) ∨ (c < 97 ∧ c < 48 ∧ c ≠ 45) := by omega

set_option maxHeartbeats 1600000 in
set_option maxRecDepth 100000 in
theorem specLabelOk_has {v : Value} {l : List Int} {w : World} (h : Has w v l) :
  Calls Tryz.prog 60 #[v] w fun e w' => e = .returned (.bool (labelOk l)) ∧ w = w' := by
 have hbd := h.bound
 unfold maxLen at hbd
 obtain ⟨a, cap, rfl, hL⟩ := h.form
 by_cases h0 : l.length = 0
 ·rw [labelOk_short (by omega), h0]
  go_enter Tryz.func60, Tryz.ntmps60
  go_wp2
  go_ret
  exact ⟨rfl, rfl⟩
 ·by_cases h1 : 15 < l.length
  ·rw [labelOk_short (by omega)]
   generalize hn : l.length = n at *
   go_enter Tryz.func60, Tryz.ntmps60
   go_wp2
   go_ret
   exact ⟨rfl, rfl⟩
  ·have h2 : l.length ≤ 15 := by omega
   have hyes := hide (fun (hs : ∀ j, j < l.length → signOk (l.getD j 0) = true) => labelOk_yes (l := l) (by omega) h2 hs)
   have hno := hide (fun (j : Nat) (hj : j < l.length) (hs : signOk (l.getD j 0) = false) => labelOk_sign hj hs)
   generalize hok : labelOk l = ok at *
   clear hok
   generalize hn : l.length = n at *
   have HN := hide hn
   clear hn
   have hn1 : (1 : Int) ≤ n := by omega
   go_enter Tryz.func60, Tryz.ntmps60
   go_wp2
   go_loop [3] (fun i => ∃ k : Nat, k ≤ n ∧ i = .int .i64 k ∧ Hid (∀ j, j < k → signOk (l.getD j 0) = true)) (fun i => n - (intOf i).toNat)
   case atStart => exact ⟨0, Nat.zero_le _, rfl, hide (fun j hj => absurd hj (Nat.not_lt_zero _))⟩
   case round =>
    obtain ⟨k, hk, rfl, hall⟩ := hrel
    by_cases hlt : k < n
    ·obtain ⟨b, off, rfl, hbl, hc⟩ := hL.here (k := k) (by rw [unhide HN]; exact hlt)
     have hone := hide (fun (hs : signOk (l.getD k 0) = true) => (show ∀ j, j < k + 1 → signOk (l.getD j 0) = true from fun j hj => by
      by_cases e : j = k
      ·subst e; exact hs
      ·exact unhide hall j (by omega)))
     have hnok := hide (fun (hs : signOk (l.getD k 0) = false) => unhide hno k hlt hs)
     generalize hx : l.getD k 0 = x at *
     rcases ssign_cases x with ⟨h1, h2⟩ | ⟨h1, h2⟩ | ⟨h1, h2, h3⟩ | ⟨h1, h2, h3, h4⟩ | ⟨h1, h2, rfl⟩ | ⟨h1, h2, h3⟩
     ·have hs : signOk x = true := decide_eq_true (by omega)
      go_wp2
      exact ⟨⟨k + 1, by omega, by go_num, hide (unhide hone hs)⟩, by simp [intOf]; omega⟩
     ·have hs : signOk x = false := decide_eq_false (by omega)
      have hq := unhide hnok hs
      subst hq
      have h8 : (x == 45) = false := by simp; omega
      have h5 : 48 ≤ x := by omega
      have h6 : ¬ x ≤ 57 := by omega
      have h7 : ¬ x ≤ 122 := by omega
      go_wp2
      go_ret
      exact ⟨rfl, rfl⟩
     ·have hs : signOk x = true := decide_eq_true (by omega)
      have h5 : ¬ 97 ≤ x := by omega
      go_wp2
      exact ⟨⟨k + 1, by omega, by go_num, hide (unhide hone hs)⟩, by simp [intOf]; omega⟩
     ·have hs : signOk x = false := decide_eq_false (by omega)
      have hq := unhide hnok hs
      subst hq
      have h8 : (x == 45) = false := by simp; omega
      have h5 : ¬ 97 ≤ x := by omega
      have h6 : ¬ x ≤ 57 := by omega
      go_wp2
      go_ret
      exact ⟨rfl, rfl⟩
     ·have hs : signOk 45 = true := rfl
      go_wp2
      exact ⟨⟨k + 1, by omega, by go_num, hide (unhide hone hs)⟩, by simp [intOf]; omega⟩
     ·have hs : signOk x = false := decide_eq_false (by omega)
      have hq := unhide hnok hs
      subst hq
      have h8 : (x == 45) = false := by simp; omega
      have h5 : ¬ 97 ≤ x := by omega
      have h6 : ¬ 48 ≤ x := by omega
      go_wp2
      go_ret
      exact ⟨rfl, rfl⟩
    ·obtain rfl : k = n := by omega
     have hq := unhide hyes (unhide hall)
     subst hq
     go_wp2
     go_ret
     exact ⟨rfl, rfl⟩
end Go.Proofs.YtnplmeifhebhhaaGreat
