/-
  Contracts of the specification's ReplyTo. Plain facts: marks in rows of questions. No program is named here. Contracts of the byte helpers of the laws (markByteS, heldByteS): what each answers and what it leaves in memory. Contracts of the name helpers of the laws (markName, heldName): what each answers and what it leaves in memory.
-/
import Derived.Test.YtnplmeifhebhhaaGreatReplyToG40
import Derived.Test.YtnplmeifhebhhaaGreatReplyToG06
import Derived.Test.YtnplmeifhebhhaaGreatReplyToG04
import Derived.Test.YtnplmeifhebhhaaGreatReplyToG07
import Derived.Test.YtnplmeifhebhhaaGreatReplyToG01
namespace Go.Proofs.YtnplmeifhebhhaaGreat
open Go.RowKit
set_option linter.unusedVariables false

set_option maxHeartbeats 2000000 in
set_option maxRecDepth 100000 in
theorem specReplyTo_no {vq va vb vm vp vu : Value} {m : Mg} {w : World} (h : HasM w vq va vb vm vp vu m) (code : Int) (hno : ¬ (okM m = true ∧ 0 ≤ code ∧ code ≤ 10)) :
  Calls Tryz.prog 19 #[.agg #[.int .i64 m.id, .bool m.reply, .int .i64 m.op, .bool m.auth, .int .i64 m.code, vq, va, vb, vm, vp, vu], .int .i64 code] w fun e w' => ∃ uq ua ub um up uu, e = .returned (.agg #[.int .i64 (replyM m code).id, .bool (replyM m code).reply, .int .i64 (replyM m code).op, .bool (replyM m code).auth, .int .i64 (replyM m code).code, uq, ua, ub, um, up, uu]) ∧ OwnM w.heap.size w'.heap.size w' uq ua ub um up uu (replyM m code) ∧ Below w.heap.size w w' := by
 rw [replyM_no hno]
 obtain ⟨xq, yq, rfl, _, zq⟩ := h.qs.form
 obtain ⟨xa, ya, rfl, _, za⟩ := h.ans.form
 obtain ⟨xb, yb, rfl, _, zb⟩ := h.aus.form
 obtain ⟨xm, ym, rfl, _, zm⟩ := h.more.form
 obtain ⟨xp, yp, rfl, _, zp⟩ := h.pres.form
 obtain ⟨xu, yu, rfl, _, zu⟩ := h.ups.form
 obtain ⟨hsz, k0, r0⟩ := box2 w (.cells #[.int .i64 m.id, .bool m.reply, .int .i64 m.op, .bool m.auth, .int .i64 m.code, .slice xq m.qs.length yq, .slice xa m.ans.length ya, .slice xb m.aus.length yb, .slice xm m.more.length ym, .slice xp m.pres.length yp, .slice xu m.ups.length yu] 33) #[.int .i64 0, .bool false, .int .i64 0, .bool false, .int .i64 0, .slice none 0 0, .slice none 0 0, .slice none 0 0, .slice none 0 0, .slice none 0 0, .slice none 0 0] 33
 have b0 := below2 w (.cells #[.int .i64 m.id, .bool m.reply, .int .i64 m.op, .bool m.auth, .int .i64 m.code, .slice xq m.qs.length yq, .slice xa m.ans.length ya, .slice xb m.aus.length yb, .slice xm m.more.length ym, .slice xp m.pres.length yp, .slice xu m.ups.length yu] 33) (.cells #[.int .i64 0, .bool false, .int .i64 0, .bool false, .int .i64 0, .slice none 0 0, .slice none 0 0, .slice none 0 0, .slice none 0 0, .slice none 0 0, .slice none 0 0] 33)
 have KK := hide k0
 have RR := hide r0
 have zr := block_lt r0
 have H := hide (h.below b0)
 have CM := specMsgOk_has (h.below b0)
 obtain ⟨d0, d1, d2, d3, d4, d5, d6, d7, d8, d9, d10⟩ := cells11 k0
 cases hok : okM m with
 | false =>
  rw [hok] at CM
  replace CM := hide CM
  clear h k0 r0 hsz hno hok
  go_enter Tryz.func19, Tryz.ntmps19
  go_wp2_with fail
  clear d0 d1 d2 d3 d4 d5 d6 d7 d8 d9 d10
  generalize (w.alloc (.cells #[.int .i64 m.id, .bool m.reply, .int .i64 m.op, .bool m.auth, .int .i64 m.code, .slice xq m.qs.length yq, .slice xa m.ans.length ya, .slice xb m.aus.length yb, .slice xm m.more.length ym, .slice xp m.pres.length yp, .slice xu m.ups.length yu] 33)).alloc (.cells #[.int .i64 0, .bool false, .int .i64 0, .bool false, .int .i64 0, .slice none 0 0, .slice none 0 0, .slice none 0 0, .slice none 0 0, .slice none 0 0, .slice none 0 0] 33) = W at *
  refine (unhide CM).mono ?_
  rintro e w1 ⟨rfl, b1⟩
  replace b0 := below_next b0 b1
  have R1 := block_kept b1 (unhide RR)
  have z1 := b1.size
  clear b1 CM
  obtain ⟨p0, p1, p2, p3, p4, p5, p6, p7, p8, p9, p10⟩ := cells11 R1
  obtain ⟨q0, q1, q2, q3, q4, q5, q6, q7, q8, q9, q10⟩ := frozen11 R1
  go_wp2_with fail
  clear p0 p1 p2 p3 p4 p5 p6 p7 p8 p9 p10 q0 q1 q2 q3 q4 q5 q6 q7 q8 q9 q10
  obtain ⟨R5, u5⟩ := set11_is (c0 := .int .i64 0) (c1 := .bool false) (c2 := .int .i64 0) (c3 := .bool false) (c4 := .int .i64 0) (c5 := .slice none 0 0) (c6 := .slice none 0 0) (c7 := .slice none 0 0) (c8 := .slice none 0 0) (c9 := .slice none 0 0) (c10 := .slice none 0 0) R1
  have z5 := u5.size
  unfold set11 at R5 u5 z5
  refine bodyPost_ret (results_cell_row rfl _ _ (w.heap.size + 1) 33 #[.int .i64 0, .bool false, .int .i64 0, .bool false, .int .i64 0, .slice none 0 0, .slice none 0 0, .slice none 0 0, .slice none 0 0, .slice none 0 0, .slice none 0 0] (0, 0) _ rfl R5 Tryz.underlying33 rfl (by kernel_rfl)) rfl ?_
  have bb := u5.below b0 (by omega)
  exact ⟨_, _, _, _, _, _, rfl, ownM_nil _ _ bb.size _, bb⟩
 | true =>
  rw [hok] at CM
  replace CM := hide CM
  by_cases hc0 : code < 0
  ·clear h k0 r0 hsz hno hok
   go_enter Tryz.func19, Tryz.ntmps19
   go_wp2_with fail
   clear d0 d1 d2 d3 d4 d5 d6 d7 d8 d9 d10
   generalize (w.alloc (.cells #[.int .i64 m.id, .bool m.reply, .int .i64 m.op, .bool m.auth, .int .i64 m.code, .slice xq m.qs.length yq, .slice xa m.ans.length ya, .slice xb m.aus.length yb, .slice xm m.more.length ym, .slice xp m.pres.length yp, .slice xu m.ups.length yu] 33)).alloc (.cells #[.int .i64 0, .bool false, .int .i64 0, .bool false, .int .i64 0, .slice none 0 0, .slice none 0 0, .slice none 0 0, .slice none 0 0, .slice none 0 0, .slice none 0 0] 33) = W at *
   refine (unhide CM).mono ?_
   rintro e w1 ⟨rfl, b1⟩
   replace b0 := below_next b0 b1
   have R1 := block_kept b1 (unhide RR)
   have z1 := b1.size
   clear b1 CM
   obtain ⟨p0, p1, p2, p3, p4, p5, p6, p7, p8, p9, p10⟩ := cells11 R1
   obtain ⟨q0, q1, q2, q3, q4, q5, q6, q7, q8, q9, q10⟩ := frozen11 R1
   go_wp2_with fail
   clear p0 p1 p2 p3 p4 p5 p6 p7 p8 p9 p10 q0 q1 q2 q3 q4 q5 q6 q7 q8 q9 q10
   obtain ⟨R5, u5⟩ := set11_is (c0 := .int .i64 0) (c1 := .bool false) (c2 := .int .i64 0) (c3 := .bool false) (c4 := .int .i64 0) (c5 := .slice none 0 0) (c6 := .slice none 0 0) (c7 := .slice none 0 0) (c8 := .slice none 0 0) (c9 := .slice none 0 0) (c10 := .slice none 0 0) R1
   have z5 := u5.size
   unfold set11 at R5 u5 z5
   refine bodyPost_ret (results_cell_row rfl _ _ (w.heap.size + 1) 33 #[.int .i64 0, .bool false, .int .i64 0, .bool false, .int .i64 0, .slice none 0 0, .slice none 0 0, .slice none 0 0, .slice none 0 0, .slice none 0 0, .slice none 0 0] (0, 0) _ rfl R5 Tryz.underlying33 rfl (by kernel_rfl)) rfl ?_
   have bb := u5.below b0 (by omega)
   exact ⟨_, _, _, _, _, _, rfl, ownM_nil _ _ bb.size _, bb⟩
  ·have hc1 : 10 < code := by
    by_cases hq : code ≤ 10
    ·exact absurd ⟨hok, by omega, hq⟩ hno
    ·omega
   clear h k0 r0 hsz hno hok
   go_enter Tryz.func19, Tryz.ntmps19
   go_wp2_with fail
   clear d0 d1 d2 d3 d4 d5 d6 d7 d8 d9 d10
   generalize (w.alloc (.cells #[.int .i64 m.id, .bool m.reply, .int .i64 m.op, .bool m.auth, .int .i64 m.code, .slice xq m.qs.length yq, .slice xa m.ans.length ya, .slice xb m.aus.length yb, .slice xm m.more.length ym, .slice xp m.pres.length yp, .slice xu m.ups.length yu] 33)).alloc (.cells #[.int .i64 0, .bool false, .int .i64 0, .bool false, .int .i64 0, .slice none 0 0, .slice none 0 0, .slice none 0 0, .slice none 0 0, .slice none 0 0, .slice none 0 0] 33) = W at *
   refine (unhide CM).mono ?_
   rintro e w1 ⟨rfl, b1⟩
   replace b0 := below_next b0 b1
   have R1 := block_kept b1 (unhide RR)
   have z1 := b1.size
   clear b1 CM
   obtain ⟨p0, p1, p2, p3, p4, p5, p6, p7, p8, p9, p10⟩ := cells11 R1
   obtain ⟨q0, q1, q2, q3, q4, q5, q6, q7, q8, q9, q10⟩ := frozen11 R1
   go_wp2_with fail
   clear p0 p1 p2 p3 p4 p5 p6 p7 p8 p9 p10 q0 q1 q2 q3 q4 q5 q6 q7 q8 q9 q10
   obtain ⟨R5, u5⟩ := set11_is (c0 := .int .i64 0) (c1 := .bool false) (c2 := .int .i64 0) (c3 := .bool false) (c4 := .int .i64 0) (c5 := .slice none 0 0) (c6 := .slice none 0 0) (c7 := .slice none 0 0) (c8 := .slice none 0 0) (c9 := .slice none 0 0) (c10 := .slice none 0 0) R1
   have z5 := u5.size
   unfold set11 at R5 u5 z5
   refine bodyPost_ret (results_cell_row rfl _ _ (w.heap.size + 1) 33 #[.int .i64 0, .bool false, .int .i64 0, .bool false, .int .i64 0, .slice none 0 0, .slice none 0 0, .slice none 0 0, .slice none 0 0, .slice none 0 0, .slice none 0 0] (0, 0) _ rfl R5 Tryz.underlying33 rfl (by kernel_rfl)) rfl ?_
   have bb := u5.below b0 (by omega)
   exact ⟨_, _, _, _, _, _, rfl, ownM_nil _ _ bb.size _, bb⟩

set_option maxHeartbeats 2000000 in
set_option maxRecDepth 100000 in
theorem specReplyTo_yes {vq va vb vm vp vu : Value} {m : Mg} {w : World} (h : HasM w vq va vb vm vp vu m) (code : Int) (hyes : okM m = true ∧ 0 ≤ code ∧ code ≤ 10) :
  Calls Tryz.prog 19 #[.agg #[.int .i64 m.id, .bool m.reply, .int .i64 m.op, .bool m.auth, .int .i64 m.code, vq, va, vb, vm, vp, vu], .int .i64 code] w fun e w' => ∃ uq ua ub um up uu, e = .returned (.agg #[.int .i64 (replyM m code).id, .bool (replyM m code).reply, .int .i64 (replyM m code).op, .bool (replyM m code).auth, .int .i64 (replyM m code).code, uq, ua, ub, um, up, uu]) ∧ OwnM w.heap.size w'.heap.size w' uq ua ub um up uu (replyM m code) ∧ Below w.heap.size w w' := by
 rw [replyM_yes hyes]
 obtain ⟨hok, hc0, hc1⟩ := hyes
 have hmay : mayM m = true := by unfold okM at hok; simp only [Bool.and_eq_true] at hok; exact hok.1
 have hq1 := (mayM_parts hmay).2.2.1
 have hqn := (mayM_parts hmay).2.2.2.1
 obtain ⟨xq, yq, rfl, _, zq⟩ := h.qs.form
 obtain ⟨xa, ya, rfl, _, za⟩ := h.ans.form
 obtain ⟨xb, yb, rfl, _, zb⟩ := h.aus.form
 obtain ⟨xm, ym, rfl, _, zm⟩ := h.more.form
 obtain ⟨xp, yp, rfl, _, zp⟩ := h.pres.form
 obtain ⟨xu, yu, rfl, _, zu⟩ := h.ups.form
 obtain ⟨hsz, k0, r0⟩ := box2 w (.cells #[.int .i64 m.id, .bool m.reply, .int .i64 m.op, .bool m.auth, .int .i64 m.code, .slice xq m.qs.length yq, .slice xa m.ans.length ya, .slice xb m.aus.length yb, .slice xm m.more.length ym, .slice xp m.pres.length yp, .slice xu m.ups.length yu] 33) #[.int .i64 0, .bool false, .int .i64 0, .bool false, .int .i64 0, .slice none 0 0, .slice none 0 0, .slice none 0 0, .slice none 0 0, .slice none 0 0, .slice none 0 0] 33
 have b0 := below2 w (.cells #[.int .i64 m.id, .bool m.reply, .int .i64 m.op, .bool m.auth, .int .i64 m.code, .slice xq m.qs.length yq, .slice xa m.ans.length ya, .slice xb m.aus.length yb, .slice xm m.more.length ym, .slice xp m.pres.length yp, .slice xu m.ups.length yu] 33) (.cells #[.int .i64 0, .bool false, .int .i64 0, .bool false, .int .i64 0, .slice none 0 0, .slice none 0 0, .slice none 0 0, .slice none 0 0, .slice none 0 0, .slice none 0 0] 33)
 have KK := hide k0
 have RR := hide r0
 have zr := block_lt r0
 have H := hide (h.below b0)
 have CM := specMsgOk_has (h.below b0)
 rw [hok] at CM
 replace CM := hide CM
 have CR := hide (fun (w : World) (h : HasM w (.slice xq m.qs.length yq) (.slice xa m.ans.length ya) (.slice xb m.aus.length yb) (.slice xm m.more.length ym) (.slice xp m.pres.length yp) (.slice xu m.ups.length yu) m) => l4reply_has h code hq1 hqn)
 have hd0 : ¬ code < 0 := by omega
 have hd1 : ¬ 10 < code := by omega
 obtain ⟨d0, d1, d2, d3, d4, d5, d6, d7, d8, d9, d10⟩ := cells11 k0
 clear h k0 r0 hsz hok hmay hqn hq1 hc0 hc1
 go_enter Tryz.func19, Tryz.ntmps19
 go_wp2_with fail
 clear d0 d1 d2 d3 d4 d5 d6 d7 d8 d9 d10
 generalize (w.alloc (.cells #[.int .i64 m.id, .bool m.reply, .int .i64 m.op, .bool m.auth, .int .i64 m.code, .slice xq m.qs.length yq, .slice xa m.ans.length ya, .slice xb m.aus.length yb, .slice xm m.more.length ym, .slice xp m.pres.length yp, .slice xu m.ups.length yu] 33)).alloc (.cells #[.int .i64 0, .bool false, .int .i64 0, .bool false, .int .i64 0, .slice none 0 0, .slice none 0 0, .slice none 0 0, .slice none 0 0, .slice none 0 0, .slice none 0 0] 33) = W at *
 refine (unhide CM).mono ?_
 rintro e w1 ⟨rfl, b1⟩
 replace b0 := below_next b0 b1
 replace H := hide ((unhide H).below b1)
 replace KK := hide (block_kept b1 (unhide KK))
 replace RR := hide (block_kept b1 (unhide RR))
 have z1 := b1.size
 clear b1 CM
 obtain ⟨d0, d1, d2, d3, d4, d5, d6, d7, d8, d9, d10⟩ := cells11 (unhide KK)
 go_wp2_with fail
 clear d0 d1 d2 d3 d4 d5 d6 d7 d8 d9 d10
 refine (unhide CR _ (unhide H)).mono ?_
 rintro e w5 ⟨v5, rfl, o5, b5⟩
 obtain ⟨n5, m5, rfl, _⟩ := o5.form
 have R5 := block_kept b5 (unhide RR)
 have z5 := b5.size
 replace b0 := below_next b0 b5
 have O5 := hide o5
 clear o5 b5 H KK RR CR
 obtain ⟨p0, p1, p2, p3, p4, p5, p6, p7, p8, p9, p10⟩ := cells11 R5
 obtain ⟨q0, q1, q2, q3, q4, q5, q6, q7, q8, q9, q10⟩ := frozen11 R5
 go_wp2_with fail
 clear p0 p1 p2 p3 p4 p5 p6 p7 p8 p9 p10 q0 q1 q2 q3 q4 q5 q6 q7 q8 q9 q10
 obtain ⟨R6, u6⟩ := set11_is (c0 := .int .i64 m.id) (c1 := .bool true) (c2 := .int .i64 m.op) (c3 := .bool false) (c4 := .int .i64 code) (c5 := .slice n5 m.qs.length m5) (c6 := .slice none 0 0) (c7 := .slice none 0 0) (c8 := .slice none 0 0) (c9 := .slice none 0 0) (c10 := .slice none 0 0) R5
 have z6 := u6.size
 unfold set11 at R6 u6 z6
 have O6 := hide (RowX.outside (ownsQu 37 5) (unhide O5) u6 (by omega))
 have bb := u6.below b0 (by omega)
 refine bodyPost_ret (results_cell_row rfl _ _ (w.heap.size + 1) 33 #[.int .i64 m.id, .bool true, .int .i64 m.op, .bool false, .int .i64 code, .slice n5 m.qs.length m5, .slice none 0 0, .slice none 0 0, .slice none 0 0, .slice none 0 0, .slice none 0 0] (0, 0) _ rfl R6 Tryz.underlying33 rfl (by kernel_rfl)) rfl ?_
 exact ⟨_, _, _, _, _, _, rfl, ownM_q (m := m) (RowX.wide (unhide O6) (by omega) z6) bb.size _ rfl rfl rfl rfl rfl rfl, bb⟩

theorem specReplyTo_has {vq va vb vm vp vu : Value} {m : Mg} {w : World} (h : HasM w vq va vb vm vp vu m) (code : Int) :
  Calls Tryz.prog 19 #[.agg #[.int .i64 m.id, .bool m.reply, .int .i64 m.op, .bool m.auth, .int .i64 m.code, vq, va, vb, vm, vp, vu], .int .i64 code] w fun e w' => ∃ uq ua ub um up uu, e = .returned (.agg #[.int .i64 (replyM m code).id, .bool (replyM m code).reply, .int .i64 (replyM m code).op, .bool (replyM m code).auth, .int .i64 (replyM m code).code, uq, ua, ub, um, up, uu]) ∧ OwnM w.heap.size w'.heap.size w' uq ua ub um up uu (replyM m code) ∧ Below w.heap.size w w' := by
 by_cases hc : okM m = true ∧ 0 ≤ code ∧ code ≤ 10
 ·exact specReplyTo_yes h code hc
 ·exact specReplyTo_no h code hc
end Go.Proofs.YtnplmeifhebhhaaGreat

namespace Go.Proofs.YtnplmeifhebhhaaGreat
open Go.RowKit
set_option linter.unusedVariables false

def posQu (q : Que) (k : Int) : Int := pos q.name k q.name.length + 1
def markQu (q : Que) (k : Int) : Que := ⟨markL q.name k, pos q.name k q.name.length⟩
def posQs (l : List Que) (k : Int) : Nat → Int
 | 0 => k
 | i + 1 => posQu (l.getD i queZ) (posQs l k i)
def markQs (l : List Que) (k : Int) (m : Nat) : List Que := (List.range l.length).map (fun j => if j < m then markQu (l.getD j queZ) (posQs l k j) else l.getD j queZ)
theorem markQs_length (l : List Que) (k : Int) (m : Nat) : (markQs l k m).length = l.length := by simp [markQs]
theorem markQs_getD (l : List Que) (k : Int) (m j : Nat) (h : j < l.length) : (markQs l k m).getD j queZ = if j < m then markQu (l.getD j queZ) (posQs l k j) else l.getD j queZ := by simp [markQs, h]
theorem markQs_zero (l : List Que) (k : Int) : markQs l k 0 = l := by
 apply List.ext_getElem?
 intro j
 by_cases hj : j < l.length <;> simp [markQs, hj]
theorem markQs_succ (l : List Que) (k : Int) (m : Nat) (hm : m < l.length) : (markQs l k m).set m (markQu (l.getD m queZ) (posQs l k m)) = markQs l k (m + 1) := by
 apply List.ext_getElem?
 intro j
 by_cases e : j = m
 ·subst e
  simp [markQs, hm]
 ·rw [List.getElem?_set_ne (Ne.symm e)]
  by_cases hj : j < l.length
  ·by_cases hjm : j < m
   ·simp [markQs, hj, hjm, show j < m + 1 by omega]
   ·simp [markQs, hj, hjm, show ¬ j < m + 1 by omega]
  ·simp [markQs, hj]
theorem posQs_bound {l : List Que} (hs : ∀ i, i < l.length → SizeQu 1048576 (l.getD i queZ)) (k : Int) : ∀ i, i ≤ l.length → k ≤ posQs l k i ∧ posQs l k i ≤ k + i * 2199025352707
 | 0, _ => by simp [posQs]
 | i + 1, hi => by
  have h1 := posQs_bound hs k i (by omega)
  have h2 := pos_bound' (l.getD i queZ).name (posQs l k i) (hs i (by omega)).name (hs i (by omega)).names
  unfold posQs posQu
  push_cast
  omega
theorem one_set {w : World} {q n : Nat} {cur : Array Value} {t : TypeId} (h : w.heap[q]? = some (.cells cur t)) (x : Value) (hn : n < cur.size) :
  ∃ cur2, (w.setCell ⟨q, n, none⟩ x).heap[q]? = some (.cells cur2 t) ∧ cur2.size = cur.size ∧ cur2[n]? = some x ∧ (∀ j, j ≠ n → cur2[j]? = cur[j]?) ∧ Outside q (q + 1) w (w.setCell ⟨q, n, none⟩ x) := by
 refine ⟨_, block_setAt h n x, by simp, ?_, fun j h1 => ?_, outside_set _ _ _ _⟩
 ·simp [hn]
 ·simp [Ne.symm h1]
theorem wrap_intM (x : Int) (h0 : 0 ≤ x) (h1 : x < 9223372036854775808) : IntKind.i64.wrap x = x := by
 have := wrap_small x.toNat (by omega)
 rwa [Int.toNat_of_nonneg h0] at this
theorem take_atX {cur : Array Value} {n j : Nat} (hj : j < n) : (cur.toList.take n)[j]? = cur[j]? := by
 rw [List.getElem?_take, if_pos hj, Array.getElem?_toList]
end Go.Proofs.YtnplmeifhebhhaaGreat

namespace Go.Proofs.YtnplmeifhebhhaaGreat
open Go.RowKit
set_option linter.unusedVariables false

set_option maxHeartbeats 400000 in
set_option maxRecDepth 100000 in
theorem markByteS_some (B g cap : Nat) (k0 : Int) (l : List Int) (w : World) (h : Own B 5 w (.slice (some ⟨g, 0, none⟩) l.length cap) l) (hl : l.length ≤ 2097152) (hk0 : 0 ≤ k0) (hk1 : k0 ≤ 9000000000000000000) :
  Calls Tryz.prog 17 #[.slice (some ⟨g, 0, none⟩) l.length cap, .int .i64 k0] w fun e w' => e = .returned (.int .i64 (k0 + l.length)) ∧
   Own B 5 w' (.slice (some ⟨g, 0, none⟩) l.length cap) (marks k0 l.length) ∧ w.grownBy w' (some g) := by
 generalize hn : l.length = n at *
 have HN := hide hn
 clear hn
 go_enter Tryz.func17, Tryz.ntmps17
 go_wp2
 go_loopw [1, 5] (fun kk i wr => ∃ k : Nat, k ≤ n ∧ i = .int .i64 k ∧ kk = .int .i64 (k0 + k) ∧ wr.ownsRow B 5 1 (.slice (some ⟨g, 0, none⟩) n cap) n ((marked l k0 k).map (Value.int .u8)) ∧ w.grownBy wr (some g)) (fun _ i _ => n - (intOf i).toNat)
 case atStart => exact ⟨0, Nat.zero_le _, rfl, by simp, by rw [marked_zero]; have h1 := h; unfold Own at h1; rw [unhide HN] at h1; exact h1, ⟨rfl, rfl, rfl, Nat.le_refl _, fun _ _ _ => rfl⟩⟩
 case round =>
  obtain ⟨k, hk, rfl, rfl, ho, hg⟩ := hrel
  by_cases hlt : k < n
  ·have hc := ho.cellAt k (by omega)
   rw [map_at _ _ (by rw [marked_length, unhide HN]; exact hlt)] at hc
   have hf := ho.frozenAt k
   have HO := hide ho
   clear ho
   go_wp2
   have hst := (unhide HO).stored k (.int .u8 ((k0 + k) % 256))
   refine ⟨⟨k + 1, by omega, by go_num, by go_num, ?_, ?_⟩, by simp [intOf]; omega⟩
   ·rw [← marked_succ, List.map_set]
    exact hst.1
   ·exact grown_trans hg hst.2
  ·go_wp2
   go_ret
   obtain rfl : k = n := by omega
   refine ⟨rfl, ?_, hg⟩
   unfold Own
   rw [marks_length]
   have e : marked l k0 k = marks k0 k := by have := marked_all l k0; rw [unhide HN] at this; exact this
   rw [← e]
   exact ho

set_option maxHeartbeats 400000 in
set_option maxRecDepth 100000 in
theorem markByteS_nil (k0 : Int) (w : World) (hk0 : 0 ≤ k0) (hk1 : k0 ≤ 9000000000000000000) :
  Calls Tryz.prog 17 #[.slice none 0 0, .int .i64 k0] w fun e w' => e = .returned (.int .i64 k0) ∧ w = w' := by
 go_enter Tryz.func17, Tryz.ntmps17
 go_wp2
 go_loop [1, 5] (fun kk i => i = .int .i64 0 ∧ kk = .int .i64 k0) (fun _ i => 0)
 case atStart => exact ⟨rfl, rfl⟩
 case round =>
  obtain ⟨rfl, rfl⟩ := hrel
  go_wp2
  go_ret
  exact ⟨rfl, rfl⟩

theorem markByteS_any {B : Nat} {v : Value} {l : List Int} (k0 : Int) {w : World} (h : Own B 5 w v l) (hl : l.length ≤ 2097152) (hk0 : 0 ≤ k0) (hk1 : k0 ≤ 9000000000000000000) :
  Calls Tryz.prog 17 #[v, .int .i64 k0] w fun e w' => e = .returned (.int .i64 (k0 + l.length)) ∧ Own B 5 w' v (marks k0 l.length) ∧ w.grownBy w' v.ownBlock := by
 rcases h.form with ⟨rfl, rfl⟩ | ⟨g, cap, rfl, _⟩
 ·refine (markByteS_nil k0 w hk0 hk1).mono fun e w' ⟨he, hw⟩ => ?_
  subst hw
  exact ⟨by simpa using he, h, ⟨rfl, rfl, rfl, Nat.le_refl _, fun _ _ _ => rfl⟩⟩
 ·exact markByteS_some B g cap k0 l w h hl hk0 hk1

set_option maxHeartbeats 400000 in
set_option maxRecDepth 100000 in
theorem heldByteS_marks (a : Option Addr) (cap n : Nat) (k0 : Int) (w : World) (h : Lies w a (marks k0 n)) (hl : n ≤ 2097152) (hk0 : 0 ≤ k0) (hk1 : k0 ≤ 9000000000000000000) :
  Calls Tryz.prog 18 #[.slice a n cap, .int .i64 k0] w fun e w' => e = .returned (.int .i64 (k0 + n)) ∧ w = w' := by
 go_enter Tryz.func18, Tryz.ntmps18
 go_wp2
 go_loop [1, 5] (fun kk i => ∃ k : Nat, k ≤ n ∧ i = .int .i64 k ∧ kk = .int .i64 (k0 + k)) (fun _ i => n - (intOf i).toNat)
 case atStart => exact ⟨0, Nat.zero_le _, rfl, by simp⟩
 case round =>
  obtain ⟨k, hk, rfl, rfl⟩ := hrel
  by_cases hlt : k < n
  ·obtain ⟨b, off, rfl, hbl, hc⟩ := h.here (k := k) (by rw [marks_length]; exact hlt)
   rw [marks_getD _ _ _ hlt] at hc
   go_wp2
   exact ⟨⟨k + 1, by omega, by go_num, by go_num⟩, by simp [intOf]; omega⟩
  ·go_wp2
   go_ret
   obtain rfl : k = n := by omega
   exact ⟨rfl, rfl⟩

end Go.Proofs.YtnplmeifhebhhaaGreat

namespace Go.Proofs.YtnplmeifhebhhaaGreat
open Go.RowKit
set_option linter.unusedVariables false

set_option maxHeartbeats 800000 in
set_option maxRecDepth 100000 in
theorem markByteSS_any {B E : Nat} {v : Value} {n : List (List Int)} (k0 : Int) {w : World} (h : OwnN B E 37 5 w v n) (hl : n.length ≤ 1048576) (hl2 : ∀ i, i < n.length → (n.getD i []).length ≤ 1048576) (hk0 : 0 ≤ k0) (hk1 : k0 ≤ 8000000000000000000) :
  Calls Tryz.prog 90 #[v, .int .i64 k0] w fun e w' => e = .returned (.int .i64 (pos n k0 n.length)) ∧ OwnN B E 37 5 w' v (markL n k0) ∧ Outside B E w w' := by
 obtain ⟨a, cap, rfl, hcl, hcm⟩ := h.ownL.hasL.form
 unfold maxLen at hcm
 obtain ⟨vs, ho, hu, hd, hv, he⟩ := h
 have hP := hide (fun j (hj : j ≤ n.length) => (show k0 ≤ pos n k0 j ∧ pos n k0 j ≤ 8000002000000000000 from by
  have := pos_le n k0 1048576 hl2 j hj
  have : j * 1048576 ≤ 1048576 * 1048576 := Nat.mul_le_mul_right _ (by omega)
  omega))
 have hPS := hide (pos_succ n k0)
 have hP0 := hide (pos_zero n k0)
 have hMG := hide (markL_getD n k0)
 have hML := hide (markL_length n k0)
 have HU := hide hu
 have HD := hide hd
 have HE := hide he
 have HV := hide hv
 have HO := hide ho
 have HL2 := hide hl2
 have hvl : vs.length = n.length := by have := ho.1; simpa using this
 clear hu hd he hv ho hl2
 generalize pos n k0 = P at *
 generalize markL n k0 = M at *
 generalize hn : n.length = m at *
 have HN := hide hn
 clear hn
 go_enter Tryz.func90, Tryz.ntmps90
 go_wp2
 go_loopw [1, 5] (fun kk i wr => ∃ k : Nat, k ≤ m ∧ i = .int .i64 k ∧ kk = .int .i64 (P k) ∧ Outside B E w wr ∧ wr.ownsRow B 37 1 (.slice a m cap) m vs ∧ Hid (∀ j, j < m → ∃ u, vs[j]? = some u ∧ Own B 5 wr u (if j < k then M.getD j [] else n.getD j []))) (fun _ i _ => m - (intOf i).toNat)
 case atStart => exact ⟨0, Nat.zero_le _, rfl, by rw [unhide hP0], Outside.refl _ _ _, unhide HO, hide (fun j hj => by obtain ⟨u, h1, h2⟩ := unhide HU j hj; exact ⟨u, h1, by simpa using h2⟩)⟩
 case round =>
  obtain ⟨k, hk, rfl, rfl, hout, hrow, hall⟩ := hrel
  by_cases hlt : k < m
  ·obtain ⟨u, hu1, hu2⟩ := unhide hall k hlt
   simp only [Nat.lt_irrefl, if_false] at hu2
   have hlk := unhide HL2 k hlt
   have hpk := unhide hP k (by omega)
   have hps := unhide hPS k hlt
   have hmg := unhide hMG k hlt
   have hcell : ∃ g, a = some ⟨g, 0, none⟩ := by
    rcases hrow.2 with ⟨hv, h0⟩ | ⟨g, cap', cur, hv, _⟩
    ·omega
    ·simp only [Value.slice.injEq] at hv; exact ⟨g, hv.1⟩
   obtain ⟨g, rfl⟩ := hcell
   have hc := World.ownsRow.cellAt hrow k (by omega)
   rw [hu1] at hc
   have hgl := (World.ownsRow.lt hrow g rfl)
   have hue := unhide HE k u
   have hude := hide hue
   clear hue
   generalize n.getD k [] = lab at *
   have HU2 := hide hu2
   have hur : ∃ ua uc, u = .slice ua lab.length uc := by obtain ⟨ua, uc, e, _⟩ := hu2.lies; exact ⟨ua, uc, e⟩
   clear hu2
   obtain ⟨ua, uc, rfl⟩ := hur
   have HR := hide hrow
   clear hrow
   go_wp2_with fail
   refine (markByteS_any (P k) (unhide HU2) (by omega) (by omega) (by omega)).mono ?_
   rintro e w1 ⟨rfl, o1, g1⟩
   go_wp2_with fail
   have hrange : ∀ q, (Value.slice ua lab.length uc).ownBlock = some q → B ≤ q ∧ q < E := fun q hq => ⟨((unhide HU2).lt q hq).1, unhide hude q hu1 hq⟩
   have hner : ∀ q, (Value.slice ua lab.length uc).ownBlock = some q → q ≠ g := by
    intro q hq e
    subst e
    rcases (unhide HU2).2 with ⟨h1, _⟩ | ⟨g', c', cur, h1, _, h2, _⟩
    ·rw [h1] at hq; simp [Value.ownBlock] at hq
    ·rw [h1] at hq
     simp [Value.ownBlock] at hq
     subst hq
     rcases (unhide HR).2 with ⟨h3, _⟩ | ⟨g3, c3, cur3, h3, _, h4, _⟩
     ·simp at h3
     ·simp only [Value.slice.injEq, Option.some.injEq, Addr.mk.injEq] at h3
      obtain ⟨⟨h5, _⟩, _⟩ := h3
      subst h5
      rw [h2] at h4
      simp at h4
   refine ⟨⟨k + 1, by omega, by go_num, by rw [hps], hout.trans (outside_grown g1 hrange), World.ownsRow.kept (unhide HR) g1 (.inr (fun e => hner g e.symm rfl)), hide ?_⟩, by simp [intOf]; omega⟩
   intro j hj
   by_cases e : j = k
   ·subst e
    refine ⟨_, hu1, ?_⟩
    rw [if_pos (by omega), hmg]
    exact o1
   ·obtain ⟨u', h1, h2⟩ := unhide hall j hj
    have : j < k + 1 ↔ j < k := by omega
    rw [show (if j < k + 1 then M.getD j [] else n.getD j []) = (if j < k then M.getD j [] else n.getD j []) by simp [this]]
    refine ⟨u', h1, h2.kept g1 ?_⟩
    rcases Nat.lt_or_gt_of_ne e with e1 | e1
    ·exact unhide HD j k u' _ e1 h1 hu1
    ·rcases unhide HD k j _ u' e1 hu1 h1 with e2 | e2
     ·cases hq : u'.ownBlock with
      | none => exact .inl rfl
      | some q => right; rw [e2]; simp
     ·exact .inr (fun e3 => e2 e3.symm)
  ·obtain rfl : k = m := by omega
   go_wp2_with fail
   go_ret
   have hMk := unhide hML
   refine ⟨rfl, ⟨vs, by rw [hMk]; exact hrow, fun i hi => ?_, unhide HD, unhide HV, unhide HE⟩, hout⟩
   rw [hMk] at hi
   obtain ⟨u, h1, h2⟩ := unhide hall i hi
   rw [if_pos hi] at h2
   exact ⟨u, h1, h2⟩
end Go.Proofs.YtnplmeifhebhhaaGreat
