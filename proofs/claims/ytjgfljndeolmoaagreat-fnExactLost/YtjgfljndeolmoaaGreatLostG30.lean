/-
  Contract of the program's Lost.
-/
import Derived.Test.YtjgfljndeolmoaaGreatLostG19
import Derived.Test.YtjgfljndeolmoaaGreatLostG26
import Derived.Test.YtjgfljndeolmoaaGreatLostG29
namespace Go.Proofs.YtjgfljndeolmoaaGreat
open Go.RowKit
set_option linter.unusedVariables false

set_option maxHeartbeats 4000000 in
set_option maxRecDepth 100000 in
theorem implLost_no {vf vn vz vh vr va : Value} {t : Tk} {w : World} (h : HasTk w vf vn vz vh vr va t) (hs1 : t.hints.length ≤ 1048576) (hs2 : t.servers.length ≤ 1048576) (hn : askT t = false) :
  Calls Tryz.prog 25 #[.agg #[.int .i64 t.state, .int .i64 t.id, vf, .int .i64 t.fst.type, vn, vz, vh, vr, .int .i64 t.turn, .int .i64 t.sends, .int .i64 t.steps, .int .i64 t.code, va]] w fun e w' => ∃ uf un uz uh ur ua, e = .returned (.tuple #[.agg #[.int .i64 (lostT t).state, .int .i64 (lostT t).id, uf, .int .i64 (lostT t).fst.type, un, uz, uh, ur, .int .i64 (lostT t).turn, .int .i64 (lostT t).sends, .int .i64 (lostT t).steps, .int .i64 (lostT t).code, ua], .bool (askT t)]) ∧ OwnTk w.heap.size w'.heap.size w' uf un uz uh ur ua (lostT t) ∧ Below w.heap.size w w' := by
 obtain ⟨xf, yf, rfl, _⟩ := h.fst.form
 obtain ⟨xn, yn, rfl, _⟩ := h.name.form
 obtain ⟨xz, yz, rfl, _⟩ := h.zone.form
 obtain ⟨xh, yh, rfl, _⟩ := h.hints.form
 obtain ⟨xr, yr, rfl, _⟩ := h.servers.form
 obtain ⟨xa, ya, rfl, _⟩ := h.ans.form
 obtain ⟨hsz, k0, r0⟩ := box2 w (.cells #[.int .i64 t.state, .int .i64 t.id, .slice xf t.fst.name.length yf, .int .i64 t.fst.type, .slice xn t.name.length yn, .slice xz t.zone.length yz, .slice xh t.hints.length yh, .slice xr t.servers.length yr, .int .i64 t.turn, .int .i64 t.sends, .int .i64 t.steps, .int .i64 t.code, .slice xa t.ans.length ya] 61) #[.int .i64 0, .int .i64 0, .slice none 0 0, .int .i64 0, .slice none 0 0, .slice none 0 0, .slice none 0 0, .slice none 0 0, .int .i64 0, .int .i64 0, .int .i64 0, .int .i64 0, .slice none 0 0] 61
 have b0 := below2 w (.cells #[.int .i64 t.state, .int .i64 t.id, .slice xf t.fst.name.length yf, .int .i64 t.fst.type, .slice xn t.name.length yn, .slice xz t.zone.length yz, .slice xh t.hints.length yh, .slice xr t.servers.length yr, .int .i64 t.turn, .int .i64 t.sends, .int .i64 t.steps, .int .i64 t.code, .slice xa t.ans.length ya] 61) (.cells #[.int .i64 0, .int .i64 0, .slice none 0 0, .int .i64 0, .slice none 0 0, .slice none 0 0, .slice none 0 0, .slice none 0 0, .int .i64 0, .int .i64 0, .int .i64 0, .int .i64 0, .slice none 0 0] 61)
 have zr := block_lt r0
 have HH := hide (h.below b0)
 have KK := hide k0
 have RR := hide r0
 have eT : lostT t = zeroTk := by unfold lostT; rw [hn]; rfl
 rw [eT, hn]
 obtain ⟨d0, d1, d2, d3, d4, d5, d6, d7, d8, d9, d10, d11, d12⟩ := cells13 k0
 clear k0 r0 hsz h eT
 go_enter Tryz.func25, Tryz.ntmps25
 go_wp2_with fail
 clear d0 d1 d2 d3 d4 d5 d6 d7 d8 d9 d10 d11 d12
 have CL := isAsking_has (unhide HH) hs1 hs2
 rw [hn] at CL
 refine CL.mono ?_
 rintro e w1 ⟨rfl, b1⟩
 replace b0 := below_next b0 b1
 replace RR := hide (block_kept b1 (unhide RR))
 clear b1 CL
 obtain ⟨p0, p1, p2, p3, p4, p5, p6, p7, p8, p9, p10, p11, p12⟩ := cells13 (unhide RR)
 obtain ⟨q0, q1, q2, q3, q4, q5, q6, q7, q8, q9, q10, q11, q12⟩ := frozen13 (unhide RR)
 go_wp2_with fail
 obtain ⟨R7, u7⟩ := set13_is (c0 := .int .i64 0) (c1 := .int .i64 0) (c2 := .slice none 0 0) (c3 := .int .i64 0) (c4 := .slice none 0 0) (c5 := .slice none 0 0) (c6 := .slice none 0 0) (c7 := .slice none 0 0) (c8 := .int .i64 0) (c9 := .int .i64 0) (c10 := .int .i64 0) (c11 := .int .i64 0) (c12 := .slice none 0 0) (unhide RR)
 unfold set13 at R7 u7
 have bb := u7.below b0 (by omega)
 refine bodyPost_ret (results_cell_tmp_row rfl _ _ (w.heap.size + 1) 61 #[.int .i64 0, .int .i64 0, .slice none 0 0, .int .i64 0, .slice none 0 0, .slice none 0 0, .slice none 0 0, .slice none 0 0, .int .i64 0, .int .i64 0, .int .i64 0, .int .i64 0, .slice none 0 0] (0, 0) _ rfl R7 Tryz.underlying61 rfl (by kernel_rfl)) rfl ?_
 exact ⟨_, _, _, _, _, _, rfl, ownTk_nil _ _ bb.size _, bb⟩

set_option maxHeartbeats 4000000 in
set_option maxRecDepth 100000 in
theorem implLost_end {vf vn vz vh vr va : Value} {t : Tk} {w : World} (h : HasTk w vf vn vz vh vr va t) (hs1 : t.hints.length ≤ 1048576) (hs2 : t.servers.length ≤ 1048576) (hn : askT t = true) (he : t.sends = 11) :
  Calls Tryz.prog 25 #[.agg #[.int .i64 t.state, .int .i64 t.id, vf, .int .i64 t.fst.type, vn, vz, vh, vr, .int .i64 t.turn, .int .i64 t.sends, .int .i64 t.steps, .int .i64 t.code, va]] w fun e w' => ∃ uf un uz uh ur ua, e = .returned (.tuple #[.agg #[.int .i64 (lostT t).state, .int .i64 (lostT t).id, uf, .int .i64 (lostT t).fst.type, un, uz, uh, ur, .int .i64 (lostT t).turn, .int .i64 (lostT t).sends, .int .i64 (lostT t).steps, .int .i64 (lostT t).code, ua], .bool (askT t)]) ∧ OwnTk w.heap.size w'.heap.size w' uf un uz uh ur ua (lostT t) ∧ Below w.heap.size w w' := by
 obtain ⟨j, hj0, hj⟩ := askT_turn hn
 obtain ⟨hs0, hs11⟩ := askT_sends hn
 obtain ⟨xf, yf, rfl, _⟩ := h.fst.form
 obtain ⟨xn, yn, rfl, _⟩ := h.name.form
 obtain ⟨xz, yz, rfl, _⟩ := h.zone.form
 obtain ⟨xh, yh, rfl, _⟩ := h.hints.form
 obtain ⟨xr, yr, rfl, _⟩ := h.servers.form
 obtain ⟨xa, ya, rfl, _⟩ := h.ans.form
 obtain ⟨hsz, k0, r0⟩ := box2 w (.cells #[.int .i64 t.state, .int .i64 t.id, .slice xf t.fst.name.length yf, .int .i64 t.fst.type, .slice xn t.name.length yn, .slice xz t.zone.length yz, .slice xh t.hints.length yh, .slice xr t.servers.length yr, .int .i64 t.turn, .int .i64 t.sends, .int .i64 t.steps, .int .i64 t.code, .slice xa t.ans.length ya] 61) #[.int .i64 0, .int .i64 0, .slice none 0 0, .int .i64 0, .slice none 0 0, .slice none 0 0, .slice none 0 0, .slice none 0 0, .int .i64 0, .int .i64 0, .int .i64 0, .int .i64 0, .slice none 0 0] 61
 have b0 := below2 w (.cells #[.int .i64 t.state, .int .i64 t.id, .slice xf t.fst.name.length yf, .int .i64 t.fst.type, .slice xn t.name.length yn, .slice xz t.zone.length yz, .slice xh t.hints.length yh, .slice xr t.servers.length yr, .int .i64 t.turn, .int .i64 t.sends, .int .i64 t.steps, .int .i64 t.code, .slice xa t.ans.length ya] 61) (.cells #[.int .i64 0, .int .i64 0, .slice none 0 0, .int .i64 0, .slice none 0 0, .slice none 0 0, .slice none 0 0, .slice none 0 0, .int .i64 0, .int .i64 0, .int .i64 0, .int .i64 0, .slice none 0 0] 61)
 have zr := block_lt r0
 have HH := hide (h.below b0)
 have KK := hide k0
 have RR := hide r0
 have eT : lostT t = ⟨1, t.id, t.fst, t.name, t.zone, t.hints, t.servers, (((j : Int) + 1).tmod t.servers.length), 12, t.steps, 2, []⟩ := by
  unfold lostT lostC
  rw [hn, if_pos rfl, if_pos he, hj0]
 rw [eT, hn]
 have HJ := hide hj0
 have HE := hide he
 have hT := (askT_parts hn).1
 have h10 : True := trivial
 obtain ⟨d0, d1, d2, d3, d4, d5, d6, d7, d8, d9, d10, d11, d12⟩ := cells13 k0
 clear k0 r0 hsz h eT hj0 he
 have CL := isAsking_has (unhide HH) hs1 hs2
 rw [hn] at CL
 have CP := hide (fun (w : World) (vf vn vz vh vr va : Value) (h : HasTk w vf vn vz vh vr va t) => copyTask_own h hT)
 clear hn hT
 go_enter Tryz.func25, Tryz.ntmps25
 go_wp2_with fail
 clear d0 d1 d2 d3 d4 d5 d6 d7 d8 d9 d10 d11 d12
 generalize (w.alloc (.cells #[.int .i64 t.state, .int .i64 t.id, .slice xf t.fst.name.length yf, .int .i64 t.fst.type, .slice xn t.name.length yn, .slice xz t.zone.length yz, .slice xh t.hints.length yh, .slice xr t.servers.length yr, .int .i64 t.turn, .int .i64 t.sends, .int .i64 t.steps, .int .i64 t.code, .slice xa t.ans.length ya] 61)).alloc (.cells #[.int .i64 0, .int .i64 0, .slice none 0 0, .int .i64 0, .slice none 0 0, .slice none 0 0, .slice none 0 0, .slice none 0 0, .int .i64 0, .int .i64 0, .int .i64 0, .int .i64 0, .slice none 0 0] 61) = W at *
 refine CL.mono ?_
 rintro e w1 ⟨rfl, b1⟩
 replace b0 := below_next b0 b1
 replace RR := hide (block_kept b1 (unhide RR))
 replace KK := hide (block_kept b1 (unhide KK))
 replace HH := hide ((unhide HH).below b1)
 have z1 := b1.size
 clear b1 CL
 obtain ⟨d0, d1, d2, d3, d4, d5, d6, d7, d8, d9, d10, d11, d12⟩ := cells13 (unhide KK)
 go_wp2_with fail
 clear d0 d1 d2 d3 d4 d5 d6 d7 d8 d9 d10 d11 d12
 refine (unhide CP _ _ _ _ _ _ _ (unhide HH)).mono ?_
 rintro e w2 ⟨vf, vn, vz, vh, vr, va, rfl, o2, b2⟩
 obtain ⟨nf, mf, rfl, _⟩ := o2.has.fst.form
 obtain ⟨nn, mn, rfl, _⟩ := o2.has.name.form
 obtain ⟨nz, mz, rfl, _⟩ := o2.has.zone.form
 obtain ⟨nh, mh, rfl, _⟩ := o2.has.hints.form
 obtain ⟨na, ma, rfl, _⟩ := o2.has.ans.form
 obtain ⟨sb, so, mr, rfl, hsb, hsc⟩ : ∃ g off cap, vr = .slice (some ⟨g, off, none⟩) t.servers.length cap ∧ g < w2.heap.size ∧ ∀ i, i < t.servers.length → w2.cell? ⟨g, off + i, none⟩ = some (.int .i64 (t.servers.getD i 0)) := by
  rcases o2.has.servers with ⟨_, e⟩ | ⟨g, off, cap, hv, hg, _, _, hc⟩
  ·rw [e] at hj
   simp at hj
  ·exact ⟨g, off, cap, hv, hg, hc⟩
 replace b0 := below_next b0 b2
 replace RR := hide (block_kept b2 (unhide RR))
 replace KK := hide (block_kept b2 (unhide KK))
 have z2 := b2.size
 have hcj := hsc j hj
 have O2 := hide o2
 clear b2 o2 hsc HH CP
 have b3 := below_alloc (w := w2) (.cells #[.int .i64 t.state, .int .i64 t.id, .slice nf t.fst.name.length mf, .int .i64 t.fst.type, .slice nn t.name.length mn, .slice nz t.zone.length mz, .slice nh t.hints.length mh, .slice (some ⟨sb, so, none⟩) t.servers.length mr, .int .i64 t.turn, .int .i64 t.sends, .int .i64 t.steps, .int .i64 t.code, .slice na t.ans.length ma] 61)
 have KC := hide (heap_alloc_new w2 (.cells #[.int .i64 t.state, .int .i64 t.id, .slice nf t.fst.name.length mf, .int .i64 t.fst.type, .slice nn t.name.length mn, .slice nz t.zone.length mz, .slice nh t.hints.length mh, .slice (some ⟨sb, so, none⟩) t.servers.length mr, .int .i64 t.turn, .int .i64 t.sends, .int .i64 t.steps, .int .i64 t.code, .slice na t.ans.length ma] 61))
 go_wp2_with fail
 replace b0 := below_next b0 b3
 replace RR := hide (block_kept b3 (unhide RR))
 replace O2 := hide ((unhide O2).below b3)
 have HCJ := hide ((b3.cell (p := ⟨sb, so + j, none⟩) hsb).trans hcj)
 have z3 := b3.size
 have zc := block_lt (unhide KC)
 clear b3 hcj
 generalize w2.alloc (.cells #[.int .i64 t.state, .int .i64 t.id, .slice nf t.fst.name.length mf, .int .i64 t.fst.type, .slice nn t.name.length mn, .slice nz t.zone.length mz, .slice nh t.hints.length mh, .slice (some ⟨sb, so, none⟩) t.servers.length mr, .int .i64 t.turn, .int .i64 t.sends, .int .i64 t.steps, .int .i64 t.code, .slice na t.ans.length ma] 61) = w3 at *
 rw [unhide HJ, unhide HE] at KC
 refine (send_end (unhide KC)).mono ?_
 rintro e w4 ⟨⟨v4, rfl⟩, h4, u4⟩
 have K4 := hide h4
 replace RR := hide (u4.kept (unhide RR) (by omega))
 replace O2 := hide ((unhide O2).outside u4 (.inl (by omega)))
 replace b0 := u4.below b0 (by omega)
 have C4 : w4.cell? ⟨sb, so + j, none⟩ = some (.int .i64 (t.servers.getD j 0)) := by unfold World.cell?; rw [u4.block sb (by omega) (by omega)]; exact unhide HCJ
 have z4 := u4.size
 clear h4 u4 KC HCJ
 go_wp2_with fail
 refine (next_has (unhide K4) hj hs2 (by omega) C4).mono ?_
 rintro e w5 ⟨⟨v5, rfl⟩, h5, u5⟩
 have K5 := hide h5
 replace RR := hide (u5.kept (unhide RR) (by omega))
 replace O2 := hide ((unhide O2).outside u5 (.inl (by omega)))
 replace b0 := u5.below b0 (by omega)
 have z5 := u5.size
 clear h5 u5
 obtain ⟨d0, d1, d2, d3, d4, d5, d6, d7, d8, d9, d10, d11, d12⟩ := cells13 (unhide K5)
 obtain ⟨p0, p1, p2, p3, p4, p5, p6, p7, p8, p9, p10, p11, p12⟩ := cells13 (unhide RR)
 obtain ⟨q0, q1, q2, q3, q4, q5, q6, q7, q8, q9, q10, q11, q12⟩ := frozen13 (unhide RR)
 go_wp2_with fail
 clear d0 d1 d2 d3 d4 d5 d6 d7 d8 d9 d10 d11 d12 p0 p1 p2 p3 p4 p5 p6 p7 p8 p9 p10 p11 p12 q0 q1 q2 q3 q4 q5 q6 q7 q8 q9 q10 q11 q12
 obtain ⟨R7, u7⟩ := set13_is (c0 := .int .i64 1) (c1 := .int .i64 t.id) (c2 := .slice nf t.fst.name.length mf) (c3 := .int .i64 t.fst.type) (c4 := .slice nn t.name.length mn) (c5 := .slice nz t.zone.length mz) (c6 := .slice nh t.hints.length mh) (c7 := .slice (some ⟨sb, so, none⟩) t.servers.length mr) (c8 := .int .i64 (((j : Int) + 1).tmod t.servers.length)) (c9 := .int .i64 12) (c10 := .int .i64 t.steps) (c11 := .int .i64 2) (c12 := .slice none 0 0) (unhide RR)
 have O7 := (unhide O2).outside u7 (.inr (by omega))
 unfold set13 at R7 u7 O7
 have b7 := u7.below b0 (by omega)
 have z7 := u7.size
 refine bodyPost_ret (results_cell_tmp_row rfl _ _ (w.heap.size + 1) 61 #[.int .i64 1, .int .i64 t.id, .slice nf t.fst.name.length mf, .int .i64 t.fst.type, .slice nn t.name.length mn, .slice nz t.zone.length mz, .slice nh t.hints.length mh, .slice (some ⟨sb, so, none⟩) t.servers.length mr, .int .i64 (((j : Int) + 1).tmod t.servers.length), .int .i64 12, .int .i64 t.steps, .int .i64 2, .slice none 0 0] (0, 0) _ rfl R7 Tryz.underlying61 rfl (by kernel_rfl)) rfl ?_
 have hE7 : w2.heap.size ≤ w5.heap.size := by omega
 obtain ⟨s1, s2, s3, s4, s5, a1, a2, a3, a4, a5, a6, g1, g2, g3, g4, g5, g6⟩ := O7
 exact ⟨_, _, _, _, _, _, rfl, ⟨s1, s2, s3, s4, s5, by omega, a2, a3, a4, a5, Nat.le_trans a6 (Nat.le_trans hE7 z7), g1.wide (by omega) (Nat.le_refl _), g2, g3, g4, g5, RowO.nil _ _ _ _ _ _ _⟩, b7⟩

set_option maxHeartbeats 4000000 in
set_option maxRecDepth 100000 in
theorem implLost_on {vf vn vz vh vr va : Value} {t : Tk} {w : World} (h : HasTk w vf vn vz vh vr va t) (hs1 : t.hints.length ≤ 1048576) (hs2 : t.servers.length ≤ 1048576) (hn : askT t = true) (he : t.sends ≠ 11) :
  Calls Tryz.prog 25 #[.agg #[.int .i64 t.state, .int .i64 t.id, vf, .int .i64 t.fst.type, vn, vz, vh, vr, .int .i64 t.turn, .int .i64 t.sends, .int .i64 t.steps, .int .i64 t.code, va]] w fun e w' => ∃ uf un uz uh ur ua, e = .returned (.tuple #[.agg #[.int .i64 (lostT t).state, .int .i64 (lostT t).id, uf, .int .i64 (lostT t).fst.type, un, uz, uh, ur, .int .i64 (lostT t).turn, .int .i64 (lostT t).sends, .int .i64 (lostT t).steps, .int .i64 (lostT t).code, ua], .bool (askT t)]) ∧ OwnTk w.heap.size w'.heap.size w' uf un uz uh ur ua (lostT t) ∧ Below w.heap.size w w' := by
 obtain ⟨j, hj0, hj⟩ := askT_turn hn
 obtain ⟨hs0, hs11⟩ := askT_sends hn
 obtain ⟨xf, yf, rfl, _⟩ := h.fst.form
 obtain ⟨xn, yn, rfl, _⟩ := h.name.form
 obtain ⟨xz, yz, rfl, _⟩ := h.zone.form
 obtain ⟨xh, yh, rfl, _⟩ := h.hints.form
 obtain ⟨xr, yr, rfl, _⟩ := h.servers.form
 obtain ⟨xa, ya, rfl, _⟩ := h.ans.form
 obtain ⟨hsz, k0, r0⟩ := box2 w (.cells #[.int .i64 t.state, .int .i64 t.id, .slice xf t.fst.name.length yf, .int .i64 t.fst.type, .slice xn t.name.length yn, .slice xz t.zone.length yz, .slice xh t.hints.length yh, .slice xr t.servers.length yr, .int .i64 t.turn, .int .i64 t.sends, .int .i64 t.steps, .int .i64 t.code, .slice xa t.ans.length ya] 61) #[.int .i64 0, .int .i64 0, .slice none 0 0, .int .i64 0, .slice none 0 0, .slice none 0 0, .slice none 0 0, .slice none 0 0, .int .i64 0, .int .i64 0, .int .i64 0, .int .i64 0, .slice none 0 0] 61
 have b0 := below2 w (.cells #[.int .i64 t.state, .int .i64 t.id, .slice xf t.fst.name.length yf, .int .i64 t.fst.type, .slice xn t.name.length yn, .slice xz t.zone.length yz, .slice xh t.hints.length yh, .slice xr t.servers.length yr, .int .i64 t.turn, .int .i64 t.sends, .int .i64 t.steps, .int .i64 t.code, .slice xa t.ans.length ya] 61) (.cells #[.int .i64 0, .int .i64 0, .slice none 0 0, .int .i64 0, .slice none 0 0, .slice none 0 0, .slice none 0 0, .slice none 0 0, .int .i64 0, .int .i64 0, .int .i64 0, .int .i64 0, .slice none 0 0] 61)
 have zr := block_lt r0
 have HH := hide (h.below b0)
 have KK := hide k0
 have RR := hide r0
 have eT : lostT t = ⟨t.state, t.id, t.fst, t.name, t.zone, t.hints, t.servers, (((j : Int) + 1).tmod t.servers.length), t.sends + 1, t.steps, t.code, t.ans⟩ := by
  unfold lostT lostC
  rw [hn, if_pos rfl, if_neg he, hj0]
 rw [eT, hn]
 have HJ := hide hj0
 have HE := hide he
 have hT := (askT_parts hn).1
 have h10 : t.sends ≤ 10 := by omega
 obtain ⟨d0, d1, d2, d3, d4, d5, d6, d7, d8, d9, d10, d11, d12⟩ := cells13 k0
 clear k0 r0 hsz h eT hj0 he
 have CL := isAsking_has (unhide HH) hs1 hs2
 rw [hn] at CL
 have CP := hide (fun (w : World) (vf vn vz vh vr va : Value) (h : HasTk w vf vn vz vh vr va t) => copyTask_own h hT)
 clear hn hT
 go_enter Tryz.func25, Tryz.ntmps25
 go_wp2_with fail
 clear d0 d1 d2 d3 d4 d5 d6 d7 d8 d9 d10 d11 d12
 generalize (w.alloc (.cells #[.int .i64 t.state, .int .i64 t.id, .slice xf t.fst.name.length yf, .int .i64 t.fst.type, .slice xn t.name.length yn, .slice xz t.zone.length yz, .slice xh t.hints.length yh, .slice xr t.servers.length yr, .int .i64 t.turn, .int .i64 t.sends, .int .i64 t.steps, .int .i64 t.code, .slice xa t.ans.length ya] 61)).alloc (.cells #[.int .i64 0, .int .i64 0, .slice none 0 0, .int .i64 0, .slice none 0 0, .slice none 0 0, .slice none 0 0, .slice none 0 0, .int .i64 0, .int .i64 0, .int .i64 0, .int .i64 0, .slice none 0 0] 61) = W at *
 refine CL.mono ?_
 rintro e w1 ⟨rfl, b1⟩
 replace b0 := below_next b0 b1
 replace RR := hide (block_kept b1 (unhide RR))
 replace KK := hide (block_kept b1 (unhide KK))
 replace HH := hide ((unhide HH).below b1)
 have z1 := b1.size
 clear b1 CL
 obtain ⟨d0, d1, d2, d3, d4, d5, d6, d7, d8, d9, d10, d11, d12⟩ := cells13 (unhide KK)
 go_wp2_with fail
 clear d0 d1 d2 d3 d4 d5 d6 d7 d8 d9 d10 d11 d12
 refine (unhide CP _ _ _ _ _ _ _ (unhide HH)).mono ?_
 rintro e w2 ⟨vf, vn, vz, vh, vr, va, rfl, o2, b2⟩
 obtain ⟨nf, mf, rfl, _⟩ := o2.has.fst.form
 obtain ⟨nn, mn, rfl, _⟩ := o2.has.name.form
 obtain ⟨nz, mz, rfl, _⟩ := o2.has.zone.form
 obtain ⟨nh, mh, rfl, _⟩ := o2.has.hints.form
 obtain ⟨na, ma, rfl, _⟩ := o2.has.ans.form
 obtain ⟨sb, so, mr, rfl, hsb, hsc⟩ : ∃ g off cap, vr = .slice (some ⟨g, off, none⟩) t.servers.length cap ∧ g < w2.heap.size ∧ ∀ i, i < t.servers.length → w2.cell? ⟨g, off + i, none⟩ = some (.int .i64 (t.servers.getD i 0)) := by
  rcases o2.has.servers with ⟨_, e⟩ | ⟨g, off, cap, hv, hg, _, _, hc⟩
  ·rw [e] at hj
   simp at hj
  ·exact ⟨g, off, cap, hv, hg, hc⟩
 replace b0 := below_next b0 b2
 replace RR := hide (block_kept b2 (unhide RR))
 replace KK := hide (block_kept b2 (unhide KK))
 have z2 := b2.size
 have hcj := hsc j hj
 have O2 := hide o2
 clear b2 o2 hsc HH CP
 have b3 := below_alloc (w := w2) (.cells #[.int .i64 t.state, .int .i64 t.id, .slice nf t.fst.name.length mf, .int .i64 t.fst.type, .slice nn t.name.length mn, .slice nz t.zone.length mz, .slice nh t.hints.length mh, .slice (some ⟨sb, so, none⟩) t.servers.length mr, .int .i64 t.turn, .int .i64 t.sends, .int .i64 t.steps, .int .i64 t.code, .slice na t.ans.length ma] 61)
 have KC := hide (heap_alloc_new w2 (.cells #[.int .i64 t.state, .int .i64 t.id, .slice nf t.fst.name.length mf, .int .i64 t.fst.type, .slice nn t.name.length mn, .slice nz t.zone.length mz, .slice nh t.hints.length mh, .slice (some ⟨sb, so, none⟩) t.servers.length mr, .int .i64 t.turn, .int .i64 t.sends, .int .i64 t.steps, .int .i64 t.code, .slice na t.ans.length ma] 61))
 go_wp2_with fail
 replace b0 := below_next b0 b3
 replace RR := hide (block_kept b3 (unhide RR))
 replace O2 := hide ((unhide O2).below b3)
 have HCJ := hide ((b3.cell (p := ⟨sb, so + j, none⟩) hsb).trans hcj)
 have z3 := b3.size
 have zc := block_lt (unhide KC)
 clear b3 hcj
 generalize w2.alloc (.cells #[.int .i64 t.state, .int .i64 t.id, .slice nf t.fst.name.length mf, .int .i64 t.fst.type, .slice nn t.name.length mn, .slice nz t.zone.length mz, .slice nh t.hints.length mh, .slice (some ⟨sb, so, none⟩) t.servers.length mr, .int .i64 t.turn, .int .i64 t.sends, .int .i64 t.steps, .int .i64 t.code, .slice na t.ans.length ma] 61) = w3 at *
 rw [unhide HJ] at KC
 refine (send_on (unhide KC) hs0 h10).mono ?_
 rintro e w4 ⟨⟨v4, rfl⟩, h4, u4⟩
 have K4 := hide h4
 replace RR := hide (u4.kept (unhide RR) (by omega))
 replace O2 := hide ((unhide O2).outside u4 (.inl (by omega)))
 replace b0 := u4.below b0 (by omega)
 have C4 : w4.cell? ⟨sb, so + j, none⟩ = some (.int .i64 (t.servers.getD j 0)) := by unfold World.cell?; rw [u4.block sb (by omega) (by omega)]; exact unhide HCJ
 have z4 := u4.size
 clear h4 u4 KC HCJ
 go_wp2_with fail
 refine (next_has (unhide K4) hj hs2 (by omega) C4).mono ?_
 rintro e w5 ⟨⟨v5, rfl⟩, h5, u5⟩
 have K5 := hide h5
 replace RR := hide (u5.kept (unhide RR) (by omega))
 replace O2 := hide ((unhide O2).outside u5 (.inl (by omega)))
 replace b0 := u5.below b0 (by omega)
 have z5 := u5.size
 clear h5 u5
 obtain ⟨d0, d1, d2, d3, d4, d5, d6, d7, d8, d9, d10, d11, d12⟩ := cells13 (unhide K5)
 obtain ⟨p0, p1, p2, p3, p4, p5, p6, p7, p8, p9, p10, p11, p12⟩ := cells13 (unhide RR)
 obtain ⟨q0, q1, q2, q3, q4, q5, q6, q7, q8, q9, q10, q11, q12⟩ := frozen13 (unhide RR)
 go_wp2_with fail
 clear d0 d1 d2 d3 d4 d5 d6 d7 d8 d9 d10 d11 d12 p0 p1 p2 p3 p4 p5 p6 p7 p8 p9 p10 p11 p12 q0 q1 q2 q3 q4 q5 q6 q7 q8 q9 q10 q11 q12
 obtain ⟨R7, u7⟩ := set13_is (c0 := .int .i64 t.state) (c1 := .int .i64 t.id) (c2 := .slice nf t.fst.name.length mf) (c3 := .int .i64 t.fst.type) (c4 := .slice nn t.name.length mn) (c5 := .slice nz t.zone.length mz) (c6 := .slice nh t.hints.length mh) (c7 := .slice (some ⟨sb, so, none⟩) t.servers.length mr) (c8 := .int .i64 (((j : Int) + 1).tmod t.servers.length)) (c9 := .int .i64 (t.sends + 1)) (c10 := .int .i64 t.steps) (c11 := .int .i64 t.code) (c12 := .slice na t.ans.length ma) (unhide RR)
 have O7 := (unhide O2).outside u7 (.inr (by omega))
 unfold set13 at R7 u7 O7
 have b7 := u7.below b0 (by omega)
 have z7 := u7.size
 refine bodyPost_ret (results_cell_tmp_row rfl _ _ (w.heap.size + 1) 61 #[.int .i64 t.state, .int .i64 t.id, .slice nf t.fst.name.length mf, .int .i64 t.fst.type, .slice nn t.name.length mn, .slice nz t.zone.length mz, .slice nh t.hints.length mh, .slice (some ⟨sb, so, none⟩) t.servers.length mr, .int .i64 (((j : Int) + 1).tmod t.servers.length), .int .i64 (t.sends + 1), .int .i64 t.steps, .int .i64 t.code, .slice na t.ans.length ma] (0, 0) _ rfl R7 Tryz.underlying61 rfl (by kernel_rfl)) rfl ?_
 have hE7 : w2.heap.size ≤ w5.heap.size := by omega
 obtain ⟨s1, s2, s3, s4, s5, a1, a2, a3, a4, a5, a6, g1, g2, g3, g4, g5, g6⟩ := O7
 exact ⟨_, _, _, _, _, _, rfl, ⟨s1, s2, s3, s4, s5, by omega, a2, a3, a4, a5, Nat.le_trans a6 (Nat.le_trans hE7 z7), g1.wide (by omega) (Nat.le_refl _), g2, g3, g4, g5, g6.wide (Nat.le_refl _) (Nat.le_trans hE7 z7)⟩, b7⟩

theorem implLost_own {vf vn vz vh vr va : Value} {t : Tk} {w : World} (h : HasTk w vf vn vz vh vr va t) (hs1 : t.hints.length ≤ 1048576) (hs2 : t.servers.length ≤ 1048576) :
  Calls Tryz.prog 25 #[.agg #[.int .i64 t.state, .int .i64 t.id, vf, .int .i64 t.fst.type, vn, vz, vh, vr, .int .i64 t.turn, .int .i64 t.sends, .int .i64 t.steps, .int .i64 t.code, va]] w fun e w' => ∃ uf un uz uh ur ua, e = .returned (.tuple #[.agg #[.int .i64 (lostT t).state, .int .i64 (lostT t).id, uf, .int .i64 (lostT t).fst.type, un, uz, uh, ur, .int .i64 (lostT t).turn, .int .i64 (lostT t).sends, .int .i64 (lostT t).steps, .int .i64 (lostT t).code, ua], .bool (askT t)]) ∧ OwnTk w.heap.size w'.heap.size w' uf un uz uh ur ua (lostT t) ∧ Below w.heap.size w w' := by
 cases hn : askT t with
 | false => have := implLost_no h hs1 hs2 hn; rw [hn] at this; exact this
 | true =>
  by_cases he : t.sends = 11
  ·have := implLost_end h hs1 hs2 hn he; rw [hn] at this; exact this
  ·have := implLost_on h hs1 hs2 hn he; rw [hn] at this; exact this
end Go.Proofs.YtjgfljndeolmoaaGreat
