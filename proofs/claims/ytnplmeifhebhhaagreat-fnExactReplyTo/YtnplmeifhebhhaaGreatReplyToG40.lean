/-
  Contracts of the specification's l4reply.
-/
import Derived.Test.YtnplmeifhebhhaaGreatReplyToG39
import Derived.Test.YtnplmeifhebhhaaGreatReplyToG14
import Derived.Test.YtnplmeifhebhhaaGreatReplyToG13
namespace Go.Proofs.YtnplmeifhebhhaaGreat
open Go.RowKit
set_option linter.unusedVariables false

theorem one_of_len {l : List Que} (h : l.length = 1) : l = [l.getD 0 queZ] := by
 match l, h with
 | [x], _ => rfl

set_option maxHeartbeats 2000000 in
set_option maxRecDepth 100000 in
theorem l4reply_has {vq va vb vm vp vu : Value} {m : Mg} {w : World} (h : HasM w vq va vb vm vp vu m) (code : Int) (hq1 : m.qs.length = 1) (hqn : nameOk (que1 m).name = true) :
  Calls Tryz.prog 49 #[.agg #[.int .i64 m.id, .bool m.reply, .int .i64 m.op, .bool m.auth, .int .i64 m.code, vq, va, vb, vm, vp, vu], .int .i64 code] w fun e w' => ∃ v, e = .returned (.agg #[.int .i64 m.id, .bool true, .int .i64 m.op, .bool false, .int .i64 code, v, .slice none 0 0, .slice none 0 0, .slice none 0 0, .slice none 0 0, .slice none 0 0]) ∧ RowX 2 (OwnQu 37 5) queZ w.heap.size w'.heap.size 71 w' v m.qs ∧ Below w.heap.size w w' := by
 have hone := one_of_len hq1
 obtain ⟨qb, qoff, vs, eqv, hqbl, hqc, vn, evs, hqu⟩ : ∃ b off vs, vq = .slice (some ⟨b, off, none⟩) m.qs.length (match vq with | .slice _ _ c => c | _ => 0) ∧ b < w.heap.size ∧ w.rangeAt b off vs ∧ ∃ v, vs = [v, .int .i64 (que1 m).type] ∧ HasL w v (que1 m).name := by
  obtain ⟨xq, yq, rfl, _⟩ := h.qs.form
  obtain ⟨b, off, vs, rfl, h1, h2, v, rfl, h3⟩ := h.qs.here (k := 0) (by omega)
  simp only [Nat.zero_mul, Nat.add_zero] at h2
  exact ⟨b, off, _, rfl, h1, h2, v, rfl, h3⟩
 subst evs
 generalize (match vq with | .slice _ _ c => c | _ => 0) = yq at eqv
 subst eqv
 obtain ⟨xa, ya, rfl, _, za⟩ := h.ans.form
 obtain ⟨xb, yb, rfl, _, zb⟩ := h.aus.form
 obtain ⟨xm, ym, rfl, _, zm⟩ := h.more.form
 obtain ⟨xp, yp, rfl, _, zp⟩ := h.pres.form
 obtain ⟨xu, yu, rfl, _, zu⟩ := h.ups.form
 obtain ⟨hsz, k0, r0⟩ := box2 w (.cells #[.int .i64 m.id, .bool m.reply, .int .i64 m.op, .bool m.auth, .int .i64 m.code, .slice (some ⟨qb, qoff, none⟩) m.qs.length yq, .slice xa m.ans.length ya, .slice xb m.aus.length yb, .slice xm m.more.length ym, .slice xp m.pres.length yp, .slice xu m.ups.length yu] 33) #[.int .i64 0, .bool false, .int .i64 0, .bool false, .int .i64 0, .slice none 0 0, .slice none 0 0, .slice none 0 0, .slice none 0 0, .slice none 0 0, .slice none 0 0] 33
 have b0 := below2 w (.cells #[.int .i64 m.id, .bool m.reply, .int .i64 m.op, .bool m.auth, .int .i64 m.code, .slice (some ⟨qb, qoff, none⟩) m.qs.length yq, .slice xa m.ans.length ya, .slice xb m.aus.length yb, .slice xm m.more.length ym, .slice xp m.pres.length yp, .slice xu m.ups.length yu] 33) (.cells #[.int .i64 0, .bool false, .int .i64 0, .bool false, .int .i64 0, .slice none 0 0, .slice none 0 0, .slice none 0 0, .slice none 0 0, .slice none 0 0, .slice none 0 0] 33)
 have hqp : 0 < m.qs.length := by omega
 have hQ : m.qs.getD 0 queZ = que1 m := rfl
 rw [hQ] at hone
 have HONE := hide hone
 generalize que1 m = q at *
 obtain ⟨qna, qnc, rfl, _⟩ := hqu.form
 have bd := below_next b0 (below_drew (w := (w.alloc (.cells #[.int .i64 m.id, .bool m.reply, .int .i64 m.op, .bool m.auth, .int .i64 m.code, .slice (some ⟨qb, qoff, none⟩) m.qs.length yq, .slice xa m.ans.length ya, .slice xb m.aus.length yb, .slice xm m.more.length ym, .slice xp m.pres.length yp, .slice xu m.ups.length yu] 33)).alloc (.cells #[.int .i64 0, .bool false, .int .i64 0, .bool false, .int .i64 0, .slice none 0 0, .slice none 0 0, .slice none 0 0, .slice none 0 0, .slice none 0 0, .slice none 0 0] 33)))
 have KD := hide (block_kept (below_drew (w := (w.alloc (.cells #[.int .i64 m.id, .bool m.reply, .int .i64 m.op, .bool m.auth, .int .i64 m.code, .slice (some ⟨qb, qoff, none⟩) m.qs.length yq, .slice xa m.ans.length ya, .slice xb m.aus.length yb, .slice xm m.more.length ym, .slice xp m.pres.length yp, .slice xu m.ups.length yu] 33)).alloc (.cells #[.int .i64 0, .bool false, .int .i64 0, .bool false, .int .i64 0, .slice none 0 0, .slice none 0 0, .slice none 0 0, .slice none 0 0, .slice none 0 0, .slice none 0 0] 33))) k0)
 have RD := hide (block_kept (below_drew (w := (w.alloc (.cells #[.int .i64 m.id, .bool m.reply, .int .i64 m.op, .bool m.auth, .int .i64 m.code, .slice (some ⟨qb, qoff, none⟩) m.qs.length yq, .slice xa m.ans.length ya, .slice xb m.aus.length yb, .slice xm m.more.length ym, .slice xp m.pres.length yp, .slice xu m.ups.length yu] 33)).alloc (.cells #[.int .i64 0, .bool false, .int .i64 0, .bool false, .int .i64 0, .slice none 0 0, .slice none 0 0, .slice none 0 0, .slice none 0 0, .slice none 0 0, .slice none 0 0] 33))) r0)
 have HQC := hide (range_below hqc hqbl bd)
 have CL := hide (l2own_has (hqu.below bd) (nameOk_parts hqn).1 (fun k hk => (labelOk_length ((nameOk_parts hqn).2 k hk)).2))
 have zq0 : qb < ((w.alloc (.cells #[.int .i64 m.id, .bool m.reply, .int .i64 m.op, .bool m.auth, .int .i64 m.code, .slice (some ⟨qb, qoff, none⟩) m.qs.length yq, .slice xa m.ans.length ya, .slice xb m.aus.length yb, .slice xm m.more.length ym, .slice xp m.pres.length yp, .slice xu m.ups.length yu] 33)).alloc (.cells #[.int .i64 0, .bool false, .int .i64 0, .bool false, .int .i64 0, .slice none 0 0, .slice none 0 0, .slice none 0 0, .slice none 0 0, .slice none 0 0, .slice none 0 0] 33)).drew.heap.size := Nat.lt_of_lt_of_le hqbl bd.size
 have zr := block_lt r0
 have zd : ((w.alloc (.cells #[.int .i64 m.id, .bool m.reply, .int .i64 m.op, .bool m.auth, .int .i64 m.code, .slice (some ⟨qb, qoff, none⟩) m.qs.length yq, .slice xa m.ans.length ya, .slice xb m.aus.length yb, .slice xm m.more.length ym, .slice xp m.pres.length yp, .slice xu m.ups.length yu] 33)).alloc (.cells #[.int .i64 0, .bool false, .int .i64 0, .bool false, .int .i64 0, .slice none 0 0, .slice none 0 0, .slice none 0 0, .slice none 0 0, .slice none 0 0, .slice none 0 0] 33)).drew.heap.size = ((w.alloc (.cells #[.int .i64 m.id, .bool m.reply, .int .i64 m.op, .bool m.auth, .int .i64 m.code, .slice (some ⟨qb, qoff, none⟩) m.qs.length yq, .slice xa m.ans.length ya, .slice xb m.aus.length yb, .slice xm m.more.length ym, .slice xp m.pres.length yp, .slice xu m.ups.length yu] 33)).alloc (.cells #[.int .i64 0, .bool false, .int .i64 0, .bool false, .int .i64 0, .slice none 0 0, .slice none 0 0, .slice none 0 0, .slice none 0 0, .slice none 0 0, .slice none 0 0] 33)).heap.size := rfl
 clear h k0 r0 hsz hq1 hqn hqc hqu hQ hone b0
 go_enter Tryz.func49, Tryz.ntmps49
 go_wp2_with fail
 have zdd : ((w.alloc (.cells #[.int .i64 m.id, .bool m.reply, .int .i64 m.op, .bool m.auth, .int .i64 m.code, .slice (some ⟨qb, qoff, none⟩) m.qs.length yq, .slice xa m.ans.length ya, .slice xb m.aus.length yb, .slice xm m.more.length ym, .slice xp m.pres.length yp, .slice xu m.ups.length yu] 33)).alloc (.cells #[.int .i64 0, .bool false, .int .i64 0, .bool false, .int .i64 0, .slice none 0 0, .slice none 0 0, .slice none 0 0, .slice none 0 0, .slice none 0 0, .slice none 0 0] 33)).heap.size ≤ ((w.alloc (.cells #[.int .i64 m.id, .bool m.reply, .int .i64 m.op, .bool m.auth, .int .i64 m.code, .slice (some ⟨qb, qoff, none⟩) m.qs.length yq, .slice xa m.ans.length ya, .slice xb m.aus.length yb, .slice xm m.more.length ym, .slice xp m.pres.length yp, .slice xu m.ups.length yu] 33)).alloc (.cells #[.int .i64 0, .bool false, .int .i64 0, .bool false, .int .i64 0, .slice none 0 0, .slice none 0 0, .slice none 0 0, .slice none 0 0, .slice none 0 0, .slice none 0 0] 33)).drew.heap.size := Nat.le_of_eq zd.symm
 clear zd
 refine startF 20 (S := (fun w' => (w'.cell? ⟨w.heap.size, 0, none⟩ = some (.int .i64 m.id) ∧ w'.cell? ⟨w.heap.size, 1, none⟩ = some (.bool m.reply) ∧ w'.cell? ⟨w.heap.size, 2, none⟩ = some (.int .i64 m.op) ∧ w'.cell? ⟨w.heap.size, 3, none⟩ = some (.bool m.auth) ∧ w'.cell? ⟨w.heap.size, 4, none⟩ = some (.int .i64 m.code) ∧ w'.cell? ⟨w.heap.size, 5, none⟩ = some (.slice (some ⟨qb, qoff, none⟩) m.qs.length yq) ∧ w'.cell? ⟨w.heap.size, 6, none⟩ = some (.slice xa m.ans.length ya) ∧ w'.cell? ⟨w.heap.size, 7, none⟩ = some (.slice xb m.aus.length yb) ∧ w'.cell? ⟨w.heap.size, 8, none⟩ = some (.slice xm m.more.length ym) ∧ w'.cell? ⟨w.heap.size, 9, none⟩ = some (.slice xp m.pres.length yp) ∧ w'.cell? ⟨w.heap.size, 10, none⟩ = some (.slice xu m.ups.length yu)) ∧ (w'.cell? ⟨qb, qoff, none⟩ = some (.slice qna q.name.length qnc) ∧ w'.cell? ⟨qb, qoff + 1, none⟩ = some (.int .i64 q.type)))) (by kernel_rfl) rfl ⟨cells11 (unhide KD), range2 (unhide HQC)⟩ (fun hHeld => ?_)
 simp only [List.replicate]
 generalize hV : ((w.alloc (.cells #[.int .i64 m.id, .bool m.reply, .int .i64 m.op, .bool m.auth, .int .i64 m.code, .slice (some ⟨qb, qoff, none⟩) m.qs.length yq, .slice xa m.ans.length ya, .slice xb m.aus.length yb, .slice xm m.more.length ym, .slice xp m.pres.length yp, .slice xu m.ups.length yu] 33)).alloc (.cells #[.int .i64 0, .bool false, .int .i64 0, .bool false, .int .i64 0, .slice none 0 0, .slice none 0 0, .slice none 0 0, .slice none 0 0, .slice none 0 0, .slice none 0 0] 33)).drew = V at *
 clear hV
 repeat ((first | (refine tkF ?_ rfl (by kernel_rfl) (by rfl) (fun _ _ _ h => h) ?_ hHeld ?_; rotate_left; · (intro w hSw; (try dsimp only at hSw); go_simp <;> with_reducible rfl)) | refine skF rfl (by kernel_rfl) (by rfl) (fun _ _ _ h => h) hHeld ?_); simp only [Act.put, setF, List.setIfInBounds_toArray, List.set_cons_zero, List.set_cons_succ])
 refine tkI 11 ?_ rfl (by kernel_rfl) (by kernel_rfl) (fun _ _ _ h => h) ?_ hHeld ?_; rotate_left; (· (intro w hSw; (try dsimp only at hSw); go_simp <;> with_reducible rfl)); simp only [Act.put, List.setIfInBounds_toArray, List.set_cons_zero, List.set_cons_succ]
 refine tkI 12 ?_ rfl (by kernel_rfl) (by kernel_rfl) (fun _ _ _ h => h) ?_ hHeld ?_; rotate_left; (· (intro w hSw; (try dsimp only at hSw); go_simp <;> with_reducible rfl)); simp only [Act.put, List.setIfInBounds_toArray, List.set_cons_zero, List.set_cons_succ]
 refine tkI 13 ?_ rfl (by kernel_rfl) (by kernel_rfl) (fun _ _ _ h => h) ?_ hHeld ?_; rotate_left; (· (intro w hSw; (try dsimp only at hSw); go_simp <;> with_reducible rfl)); simp only [Act.put, List.setIfInBounds_toArray, List.set_cons_zero, List.set_cons_succ]
 refine tkI 14 ?_ rfl (by kernel_rfl) (by kernel_rfl) (fun _ _ _ h => h) ?_ hHeld ?_; rotate_left; (· (intro w hSw; (try dsimp only at hSw); go_simp <;> with_reducible rfl)); simp only [Act.put, List.setIfInBounds_toArray, List.set_cons_zero, List.set_cons_succ]
 refine tkI 15 ?_ rfl (by kernel_rfl) (by kernel_rfl) (fun _ _ _ h => h) ?_ hHeld ?_; rotate_left; (· (intro w hSw; (try dsimp only at hSw); go_simp <;> with_reducible rfl)); simp only [Act.put, List.setIfInBounds_toArray, List.set_cons_zero, List.set_cons_succ]
 refine runI 10 rfl (by kernel_rfl) (by kernel_rfl) (fun K hK => ?_)
 have HK := hide hK
 clear hK hHeld
 go_simp
 refine (unhide CL).mono ?_
 rintro e w5 ⟨v5, rfl, o5, b5⟩
 obtain ⟨n5, m5, rfl, _⟩ := o5.hasL.form
 refine (unhide HK).out _ _ ⟨cells11 (block_kept b5 (unhide KD)), range2 (range_below (unhide HQC) zq0 b5)⟩ (fun hHeld => ?_)
 clear HK K
 simp only [List.setIfInBounds_toArray, List.set_cons_zero, List.set_cons_succ]
 repeat ((first | (refine tkF ?_ rfl (by kernel_rfl) (by rfl) (fun _ _ _ h => h) ?_ hHeld ?_; rotate_left; · (intro w hSw; (try dsimp only at hSw); go_simp <;> with_reducible rfl)) | refine skF rfl (by kernel_rfl) (by rfl) (fun _ _ _ h => h) hHeld ?_); simp only [Act.put, setF, List.setIfInBounds_toArray, List.set_cons_zero, List.set_cons_succ])
 have bA := below_alloc (w := w5) (.cells #[.slice n5 q.name.length m5, .int .i64 q.type] 71)
 have gA := heap_alloc_new w5 (.cells #[.slice n5 q.name.length m5, .int .i64 q.type] 71)
 have b6 := below_next b5 bA
 have O6 := hide ((o5.here).below bA)
 have z5 := b5.size
 have zA := bA.size
 have zg := block_lt gA
 refine runI 17 rfl (by kernel_rfl) (by kernel_rfl) (fun K hK => ?_)
 have HK := hide hK
 clear hK hHeld
 go_simp
 refine (unhide HK).out _ _ ⟨cells11 (block_kept b6 (unhide KD)), range2 (range_below (unhide HQC) zq0 b6)⟩ (fun hHeld => ?_)
 clear HK K
 simp only [List.setIfInBounds_toArray, List.set_cons_zero, List.set_cons_succ]
 have GA := hide gA
 have R6 := hide (block_kept b6 (unhide RD))
 replace bd := below_next bd b6
 have K6 := hide (block_kept b6 (unhide KD))
 have Q6 := hide (range_below (unhide HQC) zq0 b6)
 replace zq0 := Nat.lt_of_lt_of_le zq0 b6.size
 clear gA b5 o5 b6 KD RD HQC CL
 generalize w5.alloc (.cells #[.slice n5 q.name.length m5, .int .i64 q.type] 71) = w6 at *
 repeat ((first | (refine tkF ?_ rfl (by kernel_rfl) (by rfl) (fun _ _ _ h => h) ?_ hHeld ?_; rotate_left; · (intro w hSw; (try dsimp only at hSw); go_simp <;> with_reducible rfl)) | refine skF rfl (by kernel_rfl) (by rfl) (fun _ _ _ h => h) hHeld ?_); simp only [Act.put, setF, List.setIfInBounds_toArray, List.set_cons_zero, List.set_cons_succ])
 obtain ⟨p0, p1, p2, p3, p4, p5, p6, p7, p8, p9, p10⟩ := cells11 (unhide R6)
 obtain ⟨q0, q1, q2, q3, q4, q5, q6, q7, q8, q9, q10⟩ := frozen11 (unhide R6)
 obtain ⟨R7, u7⟩ := set11_is (c0 := .int .i64 m.id) (c1 := .bool true) (c2 := .int .i64 m.op) (c3 := .bool false) (c4 := .int .i64 code) (c5 := .slice (some ⟨w5.heap.size, 0, none⟩) 1 1) (c6 := .slice none 0 0) (c7 := .slice none 0 0) (c8 := .slice none 0 0) (c9 := .slice none 0 0) (c10 := .slice none 0 0) (unhide R6)
 unfold set11 at R7 u7
 have K7 := hide (u7.kept (unhide K6) (by omega))
 refine runI 19 rfl (by kernel_rfl) (by kernel_rfl) (fun K hK => ?_)
 have HK := hide hK
 clear hK hHeld
 go_simp
 refine (unhide HK).out _ _ ⟨cells11 (unhide K7), range2 (fun j v hv => ?_)⟩ (fun hHeld => ?_)
 ·rw [show ∀ (p : Addr), p.block = qb → World.cell? _ p = w6.cell? p from fun p hp => by unfold World.cell?; rw [u7.block p.block (by omega) (by omega)]] <;> first | exact unhide Q6 j v hv | rfl
 clear HK K
 simp only [List.setIfInBounds_toArray, List.set_cons_zero, List.set_cons_succ]
 refine wpAnyH_done (by kernel_rfl) ?_ _
 clear hHeld
 clear p0 p1 p2 p3 p4 p5 p6 p7 p8 p9 p10 q0 q1 q2 q3 q4 q5 q6 q7 q8 q9 q10
 have z7 := u7.size
 have G7 := u7.kept (unhide GA) (by omega)
 have O7 := (unhide O6).outside u7 (by omega)
 have bb := u7.below bd (by omega)
 go_wp2_with fail
 refine bodyPost_ret (results_cell_row rfl _ _ (w.heap.size + 1) 33 #[.int .i64 m.id, .bool true, .int .i64 m.op, .bool false, .int .i64 code, .slice (some ⟨w5.heap.size, 0, none⟩) 1 1, .slice none 0 0, .slice none 0 0, .slice none 0 0, .slice none 0 0, .slice none 0 0] (0, 0) _ rfl R7 Tryz.underlying33 rfl (by kernel_rfl)) rfl ?_
 refine ⟨_, rfl, ?_, bb⟩
 rw [unhide HONE]
 exact RowX.one (ownsQu 37 5) (C := V.heap.size) (D := w5.heap.size) (us := [.slice n5 q.name.length m5, .int .i64 q.type]) G7 rfl rfl ⟨_, rfl, O7⟩ (by omega) (by omega) z5 (by omega) (by omega) (.inr (Nat.le_refl _))
end Go.Proofs.YtnplmeifhebhhaaGreat
