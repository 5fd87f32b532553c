/-
  Contract of the program's AskOf.
-/
import Derived.Test.YtjgfljndeolmoaaFnInsidesG37
import Derived.Test.YtjgfljndeolmoaaFnInsidesG32
import Derived.Test.YtjgfljndeolmoaaFnInsidesG38
import Derived.Deep.RegionHeld3
import Derived.Deep.RegionWith
namespace Go.Proofs.Ytjgfljndeolmoaa
open Go.RowKit
set_option linter.unusedVariables false

set_option maxHeartbeats 8000000 in
set_option maxRecDepth 100000 in
theorem implAskOf_yes {vf vn vz vh vr va : Value} {t : Tk} {w : World} (h : HasTk w vf vn vz vh vr va t) (hs1 : t.hints.length ≤ 1048576) (hs2 : t.servers.length ≤ 1048576) (hn : askT t = true) :
  Calls Try.prog 49 #[.agg #[.int .i64 t.state, .int .i64 t.id, vf, .int .i64 t.fst.type, vn, vz, vh, vr, .int .i64 t.turn, .int .i64 t.sends, .int .i64 t.steps, .int .i64 t.code, va]] w fun e w' => ∃ uq ua ub um up uu, e = .returned (.tuple #[.int .i64 (askI t), .agg #[.int .i64 (askR t).id, .bool (askR t).reply, .int .i64 (askR t).op, .bool (askR t).auth, .int .i64 (askR t).code, uq, ua, ub, um, up, uu], .bool (askT t)]) ∧ OwnM w.heap.size w'.heap.size w' uq ua ub um up uu (askR t) ∧ Below w.heap.size w w' := by
 obtain ⟨j, hj0, hj⟩ := askT_turn hn
 have hnm := (taskOk_iff.1 (askT_parts hn).1).2.2.2.1
 obtain ⟨sb, so, yr, rfl, hsb, hsc⟩ : ∃ g off cap, vr = .slice (some ⟨g, off, none⟩) t.servers.length cap ∧ g < w.heap.size ∧ ∀ i, i < t.servers.length → w.cell? ⟨g, off + i, none⟩ = some (.int .i64 (t.servers.getD i 0)) := by
  rcases h.servers with ⟨_, e⟩ | ⟨g, off, cap, hv, hg, _, _, hc⟩
  ·rw [e] at hj
   simp at hj
  ·exact ⟨g, off, cap, hv, hg, hc⟩
 obtain ⟨xf, yf, rfl, _⟩ := h.fst.form
 obtain ⟨xn, yn, rfl, _⟩ := h.name.form
 obtain ⟨xz, yz, rfl, _⟩ := h.zone.form
 obtain ⟨xh, yh, rfl, _⟩ := h.hints.form
 obtain ⟨xa, ya, rfl, _⟩ := h.ans.form
 obtain ⟨hsz, k0, r0⟩ := box2 w (.cells #[.int .i64 t.state, .int .i64 t.id, .slice xf t.fst.name.length yf, .int .i64 t.fst.type, .slice xn t.name.length yn, .slice xz t.zone.length yz, .slice xh t.hints.length yh, .slice (some ⟨sb, so, none⟩) t.servers.length yr, .int .i64 t.turn, .int .i64 t.sends, .int .i64 t.steps, .int .i64 t.code, .slice xa t.ans.length ya] 48) #[.int .i64 0, .bool false, .int .i64 0, .bool false, .int .i64 0, .slice none 0 0, .slice none 0 0, .slice none 0 0, .slice none 0 0, .slice none 0 0, .slice none 0 0] 85
 have b0 := below2 w (.cells #[.int .i64 t.state, .int .i64 t.id, .slice xf t.fst.name.length yf, .int .i64 t.fst.type, .slice xn t.name.length yn, .slice xz t.zone.length yz, .slice xh t.hints.length yh, .slice (some ⟨sb, so, none⟩) t.servers.length yr, .int .i64 t.turn, .int .i64 t.sends, .int .i64 t.steps, .int .i64 t.code, .slice xa t.ans.length ya] 48) (.cells #[.int .i64 0, .bool false, .int .i64 0, .bool false, .int .i64 0, .slice none 0 0, .slice none 0 0, .slice none 0 0, .slice none 0 0, .slice none 0 0, .slice none 0 0] 85)
 have zr := block_lt r0
 have H0 := hide h
 have KK := hide k0
 have RR := hide r0
 have hcj := hsc j hj
 have eI : askI t = t.servers.getD j 0 := by
  unfold askI
  rw [hn, if_pos rfl, hj0]
  rfl
 have eR : askR t = askM t := by unfold askR; rw [hn]; rfl
 rw [eI, eR, hn]
 generalize t.servers.getD j 0 = ip at *
 obtain ⟨d0, d1, d2, d3, d4, d5, d6, d7, d8, d9, d10, d11, d12⟩ := cells13 k0
 have HJ := hide hj0
 clear k0 r0 hsz h eI eR hsc hj0
 go_enter Try.func49, Try.ntmps49
 go_wp2_with fail
 clear d0 d1 d2 d3 d4 d5 d6 d7 d8 d9 d10 d11 d12
 generalize (w.alloc (.cells #[.int .i64 t.state, .int .i64 t.id, .slice xf t.fst.name.length yf, .int .i64 t.fst.type, .slice xn t.name.length yn, .slice xz t.zone.length yz, .slice xh t.hints.length yh, .slice (some ⟨sb, so, none⟩) t.servers.length yr, .int .i64 t.turn, .int .i64 t.sends, .int .i64 t.steps, .int .i64 t.code, .slice xa t.ans.length ya] 48)).alloc (.cells #[.int .i64 0, .bool false, .int .i64 0, .bool false, .int .i64 0, .slice none 0 0, .slice none 0 0, .slice none 0 0, .slice none 0 0, .slice none 0 0, .slice none 0 0] 85) = W at *
 have CL := isAsking_has ((unhide H0).below b0) hs1 hs2
 rw [hn] at CL
 refine CL.mono ?_
 rintro e w1 ⟨rfl, b1⟩
 replace b0 := below_next b0 b1
 replace RR := hide (block_kept b1 (unhide RR))
 replace KK := hide (block_kept b1 (unhide KK))
 have z1 := b1.size
 clear b1 CL hn
 go_wp2_with fail
 refine (inTurns_has (unhide KK)).mono ?_
 rintro e w2 ⟨rfl, P2, Q2, b2⟩
 rw [unhide HJ] at Q2
 replace b0 := below_next b0 b2
 replace RR := hide (block_kept b2 (unhide RR))
 replace KK := hide (block_kept b2 (unhide KK))
 have z2 := b2.size
 have zq := block_lt Q2
 clear b2
 go_wp2_with fail
 refine (take_has (ip := ip) (unhide KK) P2 Q2 (by omega) (by omega) hj hs2 ((b0.cell (p := ⟨sb, so + j, none⟩) hsb).trans hcj)).mono ?_
 rintro e w3 ⟨x, rfl, u3⟩
 replace RR := hide (u3.kept (unhide RR) (by omega))
 replace KK := hide (u3.kept (unhide KK) (by omega))
 replace b0 := u3.below b0 (by omega)
 have z3 := u3.size
 clear u3 P2 Q2 hcj
 have bd := below_drew (w := w3)
 have KD := hide (block_kept bd (unhide KK))
 have RD := hide (block_kept bd (unhide RR))
 replace b0 := below_next b0 bd
 have HN := hide ((unhide H0).below b0).name
 have CN := hide (fun (w : World) (h : HasL w (.slice xn t.name.length yn) t.name) => copyName_has h (nameOk_parts hnm).1 (fun k hk => (labelOk_length ((nameOk_parts hnm).2 k hk)).2))
 have zV : w3.drew.heap.size = w3.heap.size := rfl
 have zw := b0.size
 clear bd KK RR H0
 go_wp2_with fail
 go_region_held3 (fun w' => w'.cell? ⟨w.heap.size, 0, none⟩ = some (.int .i64 t.state) ∧ w'.cell? ⟨w.heap.size, 1, none⟩ = some (.int .i64 t.id) ∧ w'.cell? ⟨w.heap.size, 2, none⟩ = some (.slice xf t.fst.name.length yf) ∧ w'.cell? ⟨w.heap.size, 3, none⟩ = some (.int .i64 t.fst.type) ∧ w'.cell? ⟨w.heap.size, 4, none⟩ = some (.slice xn t.name.length yn) ∧ w'.cell? ⟨w.heap.size, 5, none⟩ = some (.slice xz t.zone.length yz) ∧ w'.cell? ⟨w.heap.size, 6, none⟩ = some (.slice xh t.hints.length yh) ∧ w'.cell? ⟨w.heap.size, 7, none⟩ = some (.slice (some ⟨sb, so, none⟩) t.servers.length yr) ∧ w'.cell? ⟨w.heap.size, 8, none⟩ = some (.int .i64 t.turn) ∧ w'.cell? ⟨w.heap.size, 9, none⟩ = some (.int .i64 t.sends) ∧ w'.cell? ⟨w.heap.size, 10, none⟩ = some (.int .i64 t.steps) ∧ w'.cell? ⟨w.heap.size, 11, none⟩ = some (.int .i64 t.code) ∧ w'.cell? ⟨w.heap.size, 12, none⟩ = some (.slice xa t.ans.length ya))
  (first | exact cells13 (unhide KD) | exact cells13 (block_kept (below_alloc _) (unhide KD)) | exact cells13 (block_kept c6 (unhide KD)) | exact cells13 (block_kept (below_next c6 (below_alloc _)) (unhide KD)) | exact cells13 (keepTwo (block_kept c6 (unhide KD)) (by omega)) | exact cells13 (keepTwo (block_kept (below_next c6 (below_alloc _)) (unhide KD)) (by omega)))
  (first | (go_at_call 90; refine (unhide CN _ (by first | exact unhide HN | exact (unhide HN).below (below_alloc _))).mono ?_; rintro e w6 ⟨v6, rfl, o6, b6⟩; obtain ⟨n6, m6, rfl, _⟩ := o6.hasL.form; have c6 : Below w3.drew.heap.size w3.drew w6 := (by first | exact b6 | exact below_next (below_alloc _) b6); have z6 := c6.size; (first | (have ka : w6.heap[w3.heap.size]? = some (.cells #[.slice none 0 0, .int .i64 0] 46) := block_kept b6 (heap_alloc_new w3.drew (.cells #[.slice none 0 0, .int .i64 0] 46))) | skip); (first | (have ea := (cells2 ka).1; have eb := (cells2 ka).2; have ec := (frozen2 ka).1; have ed := (frozen2 ka).2) | skip); have na := (cells2 (heap_alloc_new w6 (.cells #[.slice none 0 0, .int .i64 0] 46))).1; have nb := (cells2 (heap_alloc_new w6 (.cells #[.slice none 0 0, .int .i64 0] 46))).2; have nc := (frozen2 (heap_alloc_new w6 (.cells #[.slice none 0 0, .int .i64 0] 46))).1; have nd := (frozen2 (heap_alloc_new w6 (.cells #[.slice none 0 0, .int .i64 0] 46))).2))
 ·have zL := (below_alloc (w := w6) (.cells #[.slice n6 t.name.length m6, .int .i64 t.fst.type] 46)).size
  have KX := hide (block_kept (below_next c6 (below_alloc (.cells #[.slice n6 t.name.length m6, .int .i64 t.fst.type] 46))) (unhide KD))
  have RX := hide (block_kept (below_next c6 (below_alloc (.cells #[.slice n6 t.name.length m6, .int .i64 t.fst.type] 46))) (unhide RD))
  have GX := hide (heap_alloc_new w6 (.cells #[.slice n6 t.name.length m6, .int .i64 t.fst.type] 46))
  have NX := hide (o6.here.below (below_alloc (.cells #[.slice n6 t.name.length m6, .int .i64 t.fst.type] 46)))
  have bX : Below w3.drew.heap.size w3.drew (w6.alloc (.cells #[.slice n6 t.name.length m6, .int .i64 t.fst.type] 46)) := below_next c6 (below_alloc (.cells #[.slice n6 t.name.length m6, .int .i64 t.fst.type] 46))
  clear KD RD HN CN o6
  generalize w6.alloc (.cells #[.slice n6 t.name.length m6, .int .i64 t.fst.type] 46) = wX at *
  have bd2 := below_drew (w := wX)
  have KE := hide (block_kept bd2 (unhide KX))
  have RE := hide (block_kept bd2 (unhide RX))
  have GE := hide (block_kept bd2 (unhide GX))
  have NE := hide ((unhide NX).below bd2)
  have bE := below_next bX bd2
  have zE : wX.drew.heap.size = wX.heap.size := rfl
  have zgx := block_lt (unhide GX)
  clear bd2 KX RX GX NX
  go_wp2_with fail
  refine startF 9 (S := (fun w' => (w'.cell? ⟨w.heap.size, 0, none⟩ = some (.int .i64 t.state) ∧ w'.cell? ⟨w.heap.size, 1, none⟩ = some (.int .i64 t.id) ∧ w'.cell? ⟨w.heap.size, 2, none⟩ = some (.slice xf t.fst.name.length yf) ∧ w'.cell? ⟨w.heap.size, 3, none⟩ = some (.int .i64 t.fst.type) ∧ w'.cell? ⟨w.heap.size, 4, none⟩ = some (.slice xn t.name.length yn) ∧ w'.cell? ⟨w.heap.size, 5, none⟩ = some (.slice xz t.zone.length yz) ∧ w'.cell? ⟨w.heap.size, 6, none⟩ = some (.slice xh t.hints.length yh) ∧ w'.cell? ⟨w.heap.size, 7, none⟩ = some (.slice (some ⟨sb, so, none⟩) t.servers.length yr) ∧ w'.cell? ⟨w.heap.size, 8, none⟩ = some (.int .i64 t.turn) ∧ w'.cell? ⟨w.heap.size, 9, none⟩ = some (.int .i64 t.sends) ∧ w'.cell? ⟨w.heap.size, 10, none⟩ = some (.int .i64 t.steps) ∧ w'.cell? ⟨w.heap.size, 11, none⟩ = some (.int .i64 t.code) ∧ w'.cell? ⟨w.heap.size, 12, none⟩ = some (.slice xa t.ans.length ya)) ∧ (w'.cell? ⟨w6.heap.size, 0, none⟩ = some (.slice n6 t.name.length m6) ∧ w'.cell? ⟨w6.heap.size, 1, none⟩ = some (.int .i64 t.fst.type)))) (by kernel_rfl) rfl ⟨cells13 (unhide KE), cells2 (unhide GE)⟩ (fun hHeld => ?_)
  simp only [List.replicate]
  rw [← zE] at zgx
  have zX2 := bX.size
  rw [← zE] at zX2
  rw [← zE] at zL
  clear zE bX
  generalize wX.drew = Y at *
  repeat ((first | (refine tkF ?_ rfl (by kernel_rfl) (by rfl) (fun _ _ _ h => h) ?_ hHeld ?_; rotate_left; · (intro w hSw; (try dsimp only at hSw); go_simp <;> with_reducible rfl)) | refine skF rfl (by kernel_rfl) (by rfl) (fun _ _ _ h => h) hHeld ?_); simp only [Act.put, setF, List.setIfInBounds_toArray, List.set_cons_zero, List.set_cons_succ])
  refine tkI 6 ?_ rfl (by kernel_rfl) (by kernel_rfl) (fun _ _ _ h => h) ?_ hHeld ?_; rotate_left; (· (intro w hSw; (try dsimp only at hSw); go_simp <;> with_reducible rfl)); simp only [Act.put, List.setIfInBounds_toArray, List.set_cons_zero, List.set_cons_succ]
  have bA := below_alloc (w := Y) (.cells #[.slice n6 t.name.length m6, .int .i64 t.fst.type] 46)
  have gA := heap_alloc_new Y (.cells #[.slice n6 t.name.length m6, .int .i64 t.fst.type] 46)
  have zA := bA.size
  have zg := block_lt gA
  refine runI 4 rfl (by kernel_rfl) (by kernel_rfl) (fun K hK => ?_)
  have HK := hide hK
  clear hK hHeld
  go_simp
  refine (unhide HK).out _ _ ⟨cells13 (block_kept bA (unhide KE)), cells2 (block_kept bA (unhide GE))⟩ (fun hHeld => ?_)
  clear HK K
  simp only [List.setIfInBounds_toArray, List.set_cons_zero, List.set_cons_succ]
  have GA := hide gA
  have R6 := hide (block_kept bA (unhide RE))
  have K6 := hide (block_kept bA (unhide KE))
  have Q6 := hide (block_kept bA (unhide GE))
  have N6 := hide ((unhide NE).below bA)
  have b7 := below_next bE bA
  clear gA bA KE RE GE NE bE
  generalize Y.alloc (.cells #[.slice n6 t.name.length m6, .int .i64 t.fst.type] 46) = Y2 at *
  repeat ((first | (refine tkF ?_ rfl (by kernel_rfl) (by rfl) (fun _ _ _ h => h) ?_ hHeld ?_; rotate_left; · (intro w hSw; (try dsimp only at hSw); go_simp <;> with_reducible rfl)) | refine skF rfl (by kernel_rfl) (by rfl) (fun _ _ _ h => h) hHeld ?_); simp only [Act.put, setF, List.setIfInBounds_toArray, List.set_cons_zero, List.set_cons_succ])
  obtain ⟨p0, p1, p2, p3, p4, p5, p6, p7, p8, p9, p10⟩ := cells11 (unhide R6)
  obtain ⟨q0, q1, q2, q3, q4, q5, q6, q7, q8, q9, q10⟩ := frozen11 (unhide R6)
  obtain ⟨R7, u7⟩ := set11_is (c0 := .int .i64 t.id) (c1 := .bool false) (c2 := .int .i64 0) (c3 := .bool false) (c4 := .int .i64 0) (c5 := .slice (some ⟨Y.heap.size, 0, none⟩) 1 1) (c6 := .slice none 0 0) (c7 := .slice none 0 0) (c8 := .slice none 0 0) (c9 := .slice none 0 0) (c10 := .slice none 0 0) (unhide R6)
  unfold set11 at R7 u7
  have K7 := hide (u7.kept (unhide K6) (by omega))
  have Q7 := hide (u7.kept (unhide Q6) (by omega))
  refine runI 7 rfl (by kernel_rfl) (by kernel_rfl) (fun K hK => ?_)
  have HK := hide hK
  clear hK hHeld
  go_simp
  refine (unhide HK).out _ _ ⟨cells13 (unhide K7), cells2 (unhide Q7)⟩ (fun hHeld => ?_)
  clear HK K
  simp only [List.setIfInBounds_toArray, List.set_cons_zero, List.set_cons_succ]
  repeat ((first | (refine tkF ?_ rfl (by kernel_rfl) (by rfl) (fun _ _ _ h => h) ?_ hHeld ?_; rotate_left; · (intro w hSw; (try dsimp only at hSw); go_simp <;> with_reducible rfl)) | refine skF rfl (by kernel_rfl) (by rfl) (fun _ _ _ h => h) hHeld ?_); simp only [Act.put, setF, List.setIfInBounds_toArray, List.set_cons_zero, List.set_cons_succ])
  refine wpAnyH_done (by kernel_rfl) ?_ _
  clear hHeld
  clear p0 p1 p2 p3 p4 p5 p6 p7 p8 p9 p10 q0 q1 q2 q3 q4 q5 q6 q7 q8 q9 q10
  have z7 := u7.size
  have G7 := u7.kept (unhide GA) (by omega)
  have O7 := (unhide N6).outside u7 (by omega)
  have bb := u7.below (below_next b0 b7) (by omega)
  go_wp2_with fail
  refine bodyPost_ret (results_tct rfl _ _ (w.heap.size + 1) 85 #[.int .i64 t.id, .bool false, .int .i64 0, .bool false, .int .i64 0, .slice (some ⟨Y.heap.size, 0, none⟩) 1 1, .slice none 0 0, .slice none 0 0, .slice none 0 0, .slice none 0 0, .slice none 0 0] (0, 0) _ rfl R7 Try.underlying85 rfl (by kernel_rfl)) rfl ?_
  refine ⟨_, _, _, _, _, _, rfl, ownM_q (m := askM t) ?_ bb.size _ rfl rfl rfl rfl rfl rfl, bb⟩
  exact RowX.one (ownsQu 22 5) (C := w3.drew.heap.size) (D := w6.heap.size) (us := [.slice n6 t.name.length m6, .int .i64 t.fst.type]) G7 rfl rfl ⟨_, rfl, O7⟩ (by omega) (by omega) z6 (by omega) (by omega) (.inr (by omega))
 ·have uS := (outside_set w6 w3.heap.size 0 (.slice n6 t.name.length m6)).trans (outside_set _ w3.heap.size 1 (.int .i64 t.fst.type))
  have zS := block_lt ka
  have zL := uS.size
  have KX := hide (keepTwo (Z := w3.heap.size) (u := .slice n6 t.name.length m6) (v := .int .i64 t.fst.type) (block_kept c6 (unhide KD)) (by omega))
  have RX := hide (keepTwo (Z := w3.heap.size) (u := .slice n6 t.name.length m6) (v := .int .i64 t.fst.type) (block_kept c6 (unhide RD)) (by omega))
  have GX := hide (block_setAt (block_setAt ka 0 (.slice n6 t.name.length m6)) 1 (.int .i64 t.fst.type))
  have NX := hide (((o6.here).outside uS (.inr (by show w3.heap.size + 1 ≤ (w3.alloc _).heap.size; rw [World.size_alloc]; exact Nat.le_refl _))).wide (C' := w3.drew.heap.size) (by show w3.heap.size ≤ (w3.alloc _).heap.size; rw [World.size_alloc]; omega) (Nat.le_refl _))
  have bX : Below w3.drew.heap.size w3.drew ((w6.setCell ⟨w3.heap.size, 0, none⟩ (.slice n6 t.name.length m6)).setCell ⟨w3.heap.size, 1, none⟩ (.int .i64 t.fst.type)) := uS.below c6 (Nat.le_refl _)
  clear KD RD HN CN o6
  generalize (w6.setCell ⟨w3.heap.size, 0, none⟩ (.slice n6 t.name.length m6)).setCell ⟨w3.heap.size, 1, none⟩ (.int .i64 t.fst.type) = wX at *
  have bd2 := below_drew (w := wX)
  have KE := hide (block_kept bd2 (unhide KX))
  have RE := hide (block_kept bd2 (unhide RX))
  have GE := hide (block_kept bd2 (unhide GX))
  have NE := hide ((unhide NX).below bd2)
  have bE := below_next bX bd2
  have zE : wX.drew.heap.size = wX.heap.size := rfl
  have zgx := block_lt (unhide GX)
  clear bd2 KX RX GX NX
  go_wp2_with fail
  refine startF 9 (S := (fun w' => (w'.cell? ⟨w.heap.size, 0, none⟩ = some (.int .i64 t.state) ∧ w'.cell? ⟨w.heap.size, 1, none⟩ = some (.int .i64 t.id) ∧ w'.cell? ⟨w.heap.size, 2, none⟩ = some (.slice xf t.fst.name.length yf) ∧ w'.cell? ⟨w.heap.size, 3, none⟩ = some (.int .i64 t.fst.type) ∧ w'.cell? ⟨w.heap.size, 4, none⟩ = some (.slice xn t.name.length yn) ∧ w'.cell? ⟨w.heap.size, 5, none⟩ = some (.slice xz t.zone.length yz) ∧ w'.cell? ⟨w.heap.size, 6, none⟩ = some (.slice xh t.hints.length yh) ∧ w'.cell? ⟨w.heap.size, 7, none⟩ = some (.slice (some ⟨sb, so, none⟩) t.servers.length yr) ∧ w'.cell? ⟨w.heap.size, 8, none⟩ = some (.int .i64 t.turn) ∧ w'.cell? ⟨w.heap.size, 9, none⟩ = some (.int .i64 t.sends) ∧ w'.cell? ⟨w.heap.size, 10, none⟩ = some (.int .i64 t.steps) ∧ w'.cell? ⟨w.heap.size, 11, none⟩ = some (.int .i64 t.code) ∧ w'.cell? ⟨w.heap.size, 12, none⟩ = some (.slice xa t.ans.length ya)) ∧ (w'.cell? ⟨w3.heap.size, 0, none⟩ = some (.slice n6 t.name.length m6) ∧ w'.cell? ⟨w3.heap.size, 1, none⟩ = some (.int .i64 t.fst.type)))) (by kernel_rfl) rfl ⟨cells13 (unhide KE), cells2 (unhide GE)⟩ (fun hHeld => ?_)
  simp only [List.replicate]
  rw [← zE] at zgx
  have zX2 := bX.size
  rw [← zE] at zX2
  rw [← zE] at zL
  clear zE bX
  generalize wX.drew = Y at *
  repeat ((first | (refine tkF ?_ rfl (by kernel_rfl) (by rfl) (fun _ _ _ h => h) ?_ hHeld ?_; rotate_left; · (intro w hSw; (try dsimp only at hSw); go_simp <;> with_reducible rfl)) | refine skF rfl (by kernel_rfl) (by rfl) (fun _ _ _ h => h) hHeld ?_); simp only [Act.put, setF, List.setIfInBounds_toArray, List.set_cons_zero, List.set_cons_succ])
  refine tkI 6 ?_ rfl (by kernel_rfl) (by kernel_rfl) (fun _ _ _ h => h) ?_ hHeld ?_; rotate_left; (· (intro w hSw; (try dsimp only at hSw); go_simp <;> with_reducible rfl)); simp only [Act.put, List.setIfInBounds_toArray, List.set_cons_zero, List.set_cons_succ]
  have bA := below_alloc (w := Y) (.cells #[.slice n6 t.name.length m6, .int .i64 t.fst.type] 46)
  have gA := heap_alloc_new Y (.cells #[.slice n6 t.name.length m6, .int .i64 t.fst.type] 46)
  have zA := bA.size
  have zg := block_lt gA
  refine runI 4 rfl (by kernel_rfl) (by kernel_rfl) (fun K hK => ?_)
  have HK := hide hK
  clear hK hHeld
  go_simp
  refine (unhide HK).out _ _ ⟨cells13 (block_kept bA (unhide KE)), cells2 (block_kept bA (unhide GE))⟩ (fun hHeld => ?_)
  clear HK K
  simp only [List.setIfInBounds_toArray, List.set_cons_zero, List.set_cons_succ]
  have GA := hide gA
  have R6 := hide (block_kept bA (unhide RE))
  have K6 := hide (block_kept bA (unhide KE))
  have Q6 := hide (block_kept bA (unhide GE))
  have N6 := hide ((unhide NE).below bA)
  have b7 := below_next bE bA
  clear gA bA KE RE GE NE bE
  generalize Y.alloc (.cells #[.slice n6 t.name.length m6, .int .i64 t.fst.type] 46) = Y2 at *
  repeat ((first | (refine tkF ?_ rfl (by kernel_rfl) (by rfl) (fun _ _ _ h => h) ?_ hHeld ?_; rotate_left; · (intro w hSw; (try dsimp only at hSw); go_simp <;> with_reducible rfl)) | refine skF rfl (by kernel_rfl) (by rfl) (fun _ _ _ h => h) hHeld ?_); simp only [Act.put, setF, List.setIfInBounds_toArray, List.set_cons_zero, List.set_cons_succ])
  obtain ⟨p0, p1, p2, p3, p4, p5, p6, p7, p8, p9, p10⟩ := cells11 (unhide R6)
  obtain ⟨q0, q1, q2, q3, q4, q5, q6, q7, q8, q9, q10⟩ := frozen11 (unhide R6)
  obtain ⟨R7, u7⟩ := set11_is (c0 := .int .i64 t.id) (c1 := .bool false) (c2 := .int .i64 0) (c3 := .bool false) (c4 := .int .i64 0) (c5 := .slice (some ⟨Y.heap.size, 0, none⟩) 1 1) (c6 := .slice none 0 0) (c7 := .slice none 0 0) (c8 := .slice none 0 0) (c9 := .slice none 0 0) (c10 := .slice none 0 0) (unhide R6)
  unfold set11 at R7 u7
  have K7 := hide (u7.kept (unhide K6) (by omega))
  have Q7 := hide (u7.kept (unhide Q6) (by omega))
  refine runI 7 rfl (by kernel_rfl) (by kernel_rfl) (fun K hK => ?_)
  have HK := hide hK
  clear hK hHeld
  go_simp
  refine (unhide HK).out _ _ ⟨cells13 (unhide K7), cells2 (unhide Q7)⟩ (fun hHeld => ?_)
  clear HK K
  simp only [List.setIfInBounds_toArray, List.set_cons_zero, List.set_cons_succ]
  repeat ((first | (refine tkF ?_ rfl (by kernel_rfl) (by rfl) (fun _ _ _ h => h) ?_ hHeld ?_; rotate_left; · (intro w hSw; (try dsimp only at hSw); go_simp <;> with_reducible rfl)) | refine skF rfl (by kernel_rfl) (by rfl) (fun _ _ _ h => h) hHeld ?_); simp only [Act.put, setF, List.setIfInBounds_toArray, List.set_cons_zero, List.set_cons_succ])
  refine wpAnyH_done (by kernel_rfl) ?_ _
  clear hHeld
  clear p0 p1 p2 p3 p4 p5 p6 p7 p8 p9 p10 q0 q1 q2 q3 q4 q5 q6 q7 q8 q9 q10
  have z7 := u7.size
  have G7 := u7.kept (unhide GA) (by omega)
  have O7 := (unhide N6).outside u7 (by omega)
  have bb := u7.below (below_next b0 b7) (by omega)
  go_wp2_with fail
  refine bodyPost_ret (results_tct rfl _ _ (w.heap.size + 1) 85 #[.int .i64 t.id, .bool false, .int .i64 0, .bool false, .int .i64 0, .slice (some ⟨Y.heap.size, 0, none⟩) 1 1, .slice none 0 0, .slice none 0 0, .slice none 0 0, .slice none 0 0, .slice none 0 0] (0, 0) _ rfl R7 Try.underlying85 rfl (by kernel_rfl)) rfl ?_
  refine ⟨_, _, _, _, _, _, rfl, ownM_q (m := askM t) ?_ bb.size _ rfl rfl rfl rfl rfl rfl, bb⟩
  exact RowX.one (ownsQu 22 5) (C := w3.drew.heap.size) (D := w6.heap.size) (us := [.slice n6 t.name.length m6, .int .i64 t.fst.type]) G7 rfl rfl ⟨_, rfl, O7⟩ (by omega) (by omega) z6 (by omega) (by omega) (.inr (by omega))

theorem implAskOf_own {vf vn vz vh vr va : Value} {t : Tk} {w : World} (h : HasTk w vf vn vz vh vr va t) (hs1 : t.hints.length ≤ 1048576) (hs2 : t.servers.length ≤ 1048576) :
  Calls Try.prog 49 #[.agg #[.int .i64 t.state, .int .i64 t.id, vf, .int .i64 t.fst.type, vn, vz, vh, vr, .int .i64 t.turn, .int .i64 t.sends, .int .i64 t.steps, .int .i64 t.code, va]] w fun e w' => ∃ uq ua ub um up uu, e = .returned (.tuple #[.int .i64 (askI t), .agg #[.int .i64 (askR t).id, .bool (askR t).reply, .int .i64 (askR t).op, .bool (askR t).auth, .int .i64 (askR t).code, uq, ua, ub, um, up, uu], .bool (askT t)]) ∧ OwnM w.heap.size w'.heap.size w' uq ua ub um up uu (askR t) ∧ Below w.heap.size w w' := by
 cases hn : askT t with
 | false => have := implAskOf_no h hs1 hs2 hn; rw [hn] at this; exact this
 | true => have := implAskOf_yes h hs1 hs2 hn; rw [hn] at this; exact this
end Go.Proofs.Ytjgfljndeolmoaa
