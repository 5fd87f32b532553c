/-
  Contracts of the helpers of the laws for messages (szMsg, toMsg, eqMsg).
-/
import Derived.Test.YtfbfakdkemlbmaaGreatTxnBytesG06
import Derived.Test.YtfbfakdkemlbmaaGreatTxnBytesG10
namespace Go.Proofs.YtfbfakdkemlbmaaGreat
open Go.RowKit
set_option linter.unusedVariables false

set_option maxHeartbeats 1000000 in
set_option maxRecDepth 100000 in
theorem szMsg_any (aq : Option Addr) (cq : Nat) (aa : Option Addr) (ca : Nat) (ab : Option Addr) (cb : Nat) (am : Option Addr) (cm : Nat) (ap : Option Addr) (cp : Nat) (au : Option Addr) (cu : Nat) (m : Mg) (left : Int) (w : World) (h : InM w aq aa ab am ap au m) (hl : m.qs.length ≤ maxLen ∧ m.ans.length ≤ maxLen ∧ m.aus.length ≤ maxLen ∧ m.more.length ≤ maxLen ∧ m.pres.length ≤ maxLen ∧ m.ups.length ≤ maxLen) (hm : SizeM maxLen m) (h0 : 0 ≤ left) (h1 : left ≤ 1048576) :
  Calls Tryz.prog 13 #[.agg #[.int .i64 m.id, .bool m.reply, .int .i64 m.op, .bool m.auth, .int .i64 m.code, .slice aq m.qs.length cq, .slice aa m.ans.length ca, .slice ab m.aus.length cb, .slice am m.more.length cm, .slice ap m.pres.length cp, .slice au m.ups.length cu], .int .i64 left] w fun e w' => (∃ y : Int, e = .returned (.int .i64 y) ∧ -1 ≤ y ∧ y ≤ left ∧ (0 ≤ y → SizeM left.toNat m ∧ (m.count : Int) ≤ left)) ∧ Below w.heap.size w w' := by
 have b0 := below_alloc (w := w) (.cells #[.int .i64 m.id, .bool m.reply, .int .i64 m.op, .bool m.auth, .int .i64 m.code, .slice aq m.qs.length cq, .slice aa m.ans.length ca, .slice ab m.aus.length cb, .slice am m.more.length cm, .slice ap m.pres.length cp, .slice au m.ups.length cu] 26)
 have K0 := hide (heap_alloc_new w (.cells #[.int .i64 m.id, .bool m.reply, .int .i64 m.op, .bool m.auth, .int .i64 m.code, .slice aq m.qs.length cq, .slice aa m.ans.length ca, .slice ab m.aus.length cb, .slice am m.more.length cm, .slice ap m.pres.length cp, .slice au m.ups.length cu] 26))
 have HI := hide (h.below b0)
 have HM := hide hm
 have HL := hide hl
 clear h hm hl
 obtain ⟨d0, d1, d2, d3, d4, d5, d6, d7, d8, d9, d10⟩ := cells11 (unhide K0)
 go_enter Tryz.func13, Tryz.ntmps13
 go_wp2_with fail
 clear d0 d1 d2 d3 d4 d5 d6 d7 d8 d9 d10
 generalize w.alloc (.cells #[.int .i64 m.id, .bool m.reply, .int .i64 m.op, .bool m.auth, .int .i64 m.code, .slice aq m.qs.length cq, .slice aa m.ans.length ca, .slice ab m.aus.length cb, .slice am m.more.length cm, .slice ap m.pres.length cp, .slice au m.ups.length cu] 26) = W at *
 refine (szQuestionS_sum aq cq m.qs left _ (unhide HI).qs (unhide HL).1 (unhide HM).qs (by omega) (by omega)).mono ?_
 rintro e w1 ⟨⟨y1, rfl, ya1, yb1, yc1⟩, b1⟩
 replace b0 := below_next b0 b1
 replace HI := hide ((unhide HI).below b1)
 replace K0 := hide (block_kept b1 (unhide K0))
 have Y1 := hide yc1
 clear yc1 b1
 by_cases n1 : y1 < 0
 ·go_wp2
  go_ret
  exact ⟨⟨-1, rfl, by omega, by omega, fun q => by omega⟩, b0⟩
 obtain ⟨d0, d1, d2, d3, d4, d5, d6, d7, d8, d9, d10⟩ := cells11 (unhide K0)
 go_wp2_with fail
 clear d0 d1 d2 d3 d4 d5 d6 d7 d8 d9 d10
 refine (szRrS_sum aa ca m.ans y1 _ (unhide HI).ans (unhide HL).2.1 (unhide HM).ans (by omega) (by omega)).mono ?_
 rintro e w2 ⟨⟨y2, rfl, ya2, yb2, yc2⟩, b2⟩
 replace b0 := below_next b0 b2
 replace HI := hide ((unhide HI).below b2)
 replace K0 := hide (block_kept b2 (unhide K0))
 have Y2 := hide yc2
 clear yc2 b2
 by_cases n2 : y2 < 0
 ·go_wp2
  go_ret
  exact ⟨⟨-1, rfl, by omega, by omega, fun q => by omega⟩, b0⟩
 obtain ⟨d0, d1, d2, d3, d4, d5, d6, d7, d8, d9, d10⟩ := cells11 (unhide K0)
 go_wp2_with fail
 clear d0 d1 d2 d3 d4 d5 d6 d7 d8 d9 d10
 refine (szRrS_sum ab cb m.aus y2 _ (unhide HI).aus (unhide HL).2.2.1 (unhide HM).aus (by omega) (by omega)).mono ?_
 rintro e w3 ⟨⟨y3, rfl, ya3, yb3, yc3⟩, b3⟩
 replace b0 := below_next b0 b3
 replace HI := hide ((unhide HI).below b3)
 replace K0 := hide (block_kept b3 (unhide K0))
 have Y3 := hide yc3
 clear yc3 b3
 by_cases n3 : y3 < 0
 ·go_wp2
  go_ret
  exact ⟨⟨-1, rfl, by omega, by omega, fun q => by omega⟩, b0⟩
 obtain ⟨d0, d1, d2, d3, d4, d5, d6, d7, d8, d9, d10⟩ := cells11 (unhide K0)
 go_wp2_with fail
 clear d0 d1 d2 d3 d4 d5 d6 d7 d8 d9 d10
 refine (szRrS_sum am cm m.more y3 _ (unhide HI).more (unhide HL).2.2.2.1 (unhide HM).more (by omega) (by omega)).mono ?_
 rintro e w4 ⟨⟨y4, rfl, ya4, yb4, yc4⟩, b4⟩
 replace b0 := below_next b0 b4
 replace HI := hide ((unhide HI).below b4)
 replace K0 := hide (block_kept b4 (unhide K0))
 have Y4 := hide yc4
 clear yc4 b4
 by_cases n4 : y4 < 0
 ·go_wp2
  go_ret
  exact ⟨⟨-1, rfl, by omega, by omega, fun q => by omega⟩, b0⟩
 obtain ⟨d0, d1, d2, d3, d4, d5, d6, d7, d8, d9, d10⟩ := cells11 (unhide K0)
 go_wp2_with fail
 clear d0 d1 d2 d3 d4 d5 d6 d7 d8 d9 d10
 refine (szWantS_sum ap cp m.pres y4 _ (unhide HI).pres (unhide HL).2.2.2.2.1 (unhide HM).pres (by omega) (by omega)).mono ?_
 rintro e w5 ⟨⟨y5, rfl, ya5, yb5, yc5⟩, b5⟩
 replace b0 := below_next b0 b5
 replace HI := hide ((unhide HI).below b5)
 replace K0 := hide (block_kept b5 (unhide K0))
 have Y5 := hide yc5
 clear yc5 b5
 by_cases n5 : y5 < 0
 ·go_wp2
  go_ret
  exact ⟨⟨-1, rfl, by omega, by omega, fun q => by omega⟩, b0⟩
 obtain ⟨d0, d1, d2, d3, d4, d5, d6, d7, d8, d9, d10⟩ := cells11 (unhide K0)
 go_wp2_with fail
 clear d0 d1 d2 d3 d4 d5 d6 d7 d8 d9 d10
 refine (szWantS_sum au cu m.ups y5 _ (unhide HI).ups (unhide HL).2.2.2.2.2 (unhide HM).ups (by omega) (by omega)).mono ?_
 rintro e w6 ⟨⟨y6, rfl, ya6, yb6, yc6⟩, b6⟩
 replace b0 := below_next b0 b6
 replace HI := hide ((unhide HI).below b6)
 replace K0 := hide (block_kept b6 (unhide K0))
 have Y6 := hide yc6
 clear yc6 b6
 by_cases n6 : y6 < 0
 ·go_wp2
  go_ret
  exact ⟨⟨-1, rfl, by omega, by omega, fun q => by omega⟩, b0⟩
 go_wp2
 go_ret
 have p1 := unhide Y1 (by omega)
 have p2 := unhide Y2 (by omega)
 have p3 := unhide Y3 (by omega)
 have p4 := unhide Y4 (by omega)
 have p5 := unhide Y5 (by omega)
 have p6 := unhide Y6 (by omega)
 refine ⟨⟨y6, rfl, by omega, by omega, fun _ => ⟨⟨fun i hi => (p1.2 i hi).mono (by omega), fun i hi => (p2.2 i hi).mono (by omega), fun i hi => (p3.2 i hi).mono (by omega), fun i hi => (p4.2 i hi).mono (by omega), fun i hi => (p5.2 i hi).mono (by omega), fun i hi => (p6.2 i hi).mono (by omega)⟩, ?_⟩⟩, b0⟩
 have q1 := p1.1
 have q2 := p2.1
 have q3 := p3.1
 have q4 := p4.1
 have q5 := p5.1
 have q6 := p6.1
 unfold Mg.count
 omega

set_option maxHeartbeats 1000000 in
set_option maxRecDepth 100000 in
theorem toMsg_own (aq : Option Addr) (cq : Nat) (aa : Option Addr) (ca : Nat) (ab : Option Addr) (cb : Nat) (am : Option Addr) (cm : Nat) (ap : Option Addr) (cp : Nat) (au : Option Addr) (cu : Nat) (m : Mg) (w : World) (h : InM w aq aa ab am ap au m) (hl : m.count ≤ 1048576) (hs : SizeM 1048576 m) :
  Calls Tryz.prog 17 #[.agg #[.int .i64 m.id, .bool m.reply, .int .i64 m.op, .bool m.auth, .int .i64 m.code, .slice aq m.qs.length cq, .slice aa m.ans.length ca, .slice ab m.aus.length cb, .slice am m.more.length cm, .slice ap m.pres.length cp, .slice au m.ups.length cu]] w fun e w' => ∃ vq va vb vm vp vu, e = .returned (.agg #[.int .i64 m.id, .bool m.reply, .int .i64 m.op, .bool m.auth, .int .i64 m.code, vq, va, vb, vm, vp, vu]) ∧ OwnM w.heap.size w'.heap.size w' vq va vb vm vp vu m ∧ Below w.heap.size w w' := by
 obtain ⟨hsz, r0, v0⟩ := box3 w (.cells #[.int .i64 m.id, .bool m.reply, .int .i64 m.op, .bool m.auth, .int .i64 m.code, .slice aq m.qs.length cq, .slice aa m.ans.length ca, .slice ab m.aus.length cb, .slice am m.more.length cm, .slice ap m.pres.length cp, .slice au m.ups.length cu] 26) #[.int .i64 0, .bool false, .int .i64 0, .bool false, .int .i64 0, .slice none 0 0, .slice none 0 0, .slice none 0 0, .slice none 0 0, .slice none 0 0, .slice none 0 0] #[.int .i64 m.id, .bool m.reply, .int .i64 m.op, .bool m.auth, .int .i64 m.code, .slice none 0 0, .slice none 0 0, .slice none 0 0, .slice none 0 0, .slice none 0 0, .slice none 0 0] 37 37
 have bb : Below w.heap.size w (((w.alloc (.cells #[.int .i64 m.id, .bool m.reply, .int .i64 m.op, .bool m.auth, .int .i64 m.code, .slice aq m.qs.length cq, .slice aa m.ans.length ca, .slice ab m.aus.length cb, .slice am m.more.length cm, .slice ap m.pres.length cp, .slice au m.ups.length cu] 26)).alloc (.cells #[.int .i64 0, .bool false, .int .i64 0, .bool false, .int .i64 0, .slice none 0 0, .slice none 0 0, .slice none 0 0, .slice none 0 0, .slice none 0 0, .slice none 0 0] 37)).alloc (.cells #[.int .i64 m.id, .bool m.reply, .int .i64 m.op, .bool m.auth, .int .i64 m.code, .slice none 0 0, .slice none 0 0, .slice none 0 0, .slice none 0 0, .slice none 0 0, .slice none 0 0] 37)) := ((below_alloc _).alloc (below_alloc _).size _).alloc ((below_alloc _).alloc (below_alloc _).size _).size _
 have k0 : (((w.alloc (.cells #[.int .i64 m.id, .bool m.reply, .int .i64 m.op, .bool m.auth, .int .i64 m.code, .slice aq m.qs.length cq, .slice aa m.ans.length ca, .slice ab m.aus.length cb, .slice am m.more.length cm, .slice ap m.pres.length cp, .slice au m.ups.length cu] 26)).alloc (.cells #[.int .i64 0, .bool false, .int .i64 0, .bool false, .int .i64 0, .slice none 0 0, .slice none 0 0, .slice none 0 0, .slice none 0 0, .slice none 0 0, .slice none 0 0] 37)).alloc (.cells #[.int .i64 m.id, .bool m.reply, .int .i64 m.op, .bool m.auth, .int .i64 m.code, .slice none 0 0, .slice none 0 0, .slice none 0 0, .slice none 0 0, .slice none 0 0, .slice none 0 0] 37)).heap[w.heap.size]? = some (.cells #[.int .i64 m.id, .bool m.reply, .int .i64 m.op, .bool m.auth, .int .i64 m.code, .slice aq m.qs.length cq, .slice aa m.ans.length ca, .slice ab m.aus.length cb, .slice am m.more.length cm, .slice ap m.pres.length cp, .slice au m.ups.length cu] 26) := block_kept (below_alloc _) (block_kept (below_alloc _) (heap_alloc_new w _))
 have HI := hide h
 have HS := hide hs
 have KK := hide k0
 have RR := hide r0
 have V := hide v0
 have zv := block_lt v0
 unfold Mg.count at hl
 clear h hs r0 v0 hsz
 obtain ⟨d0, d1, d2, d3, d4, d5, d6, d7, d8, d9, d10⟩ := cells11 k0
 clear k0
 go_enter Tryz.func17, Tryz.ntmps17
 go_wp2_with fail
 clear d0 d1 d2 d3 d4 d5 d6 d7 d8 d9 d10
 generalize (((w.alloc (.cells #[.int .i64 m.id, .bool m.reply, .int .i64 m.op, .bool m.auth, .int .i64 m.code, .slice aq m.qs.length cq, .slice aa m.ans.length ca, .slice ab m.aus.length cb, .slice am m.more.length cm, .slice ap m.pres.length cp, .slice au m.ups.length cu] 26)).alloc (.cells #[.int .i64 0, .bool false, .int .i64 0, .bool false, .int .i64 0, .slice none 0 0, .slice none 0 0, .slice none 0 0, .slice none 0 0, .slice none 0 0, .slice none 0 0] 37)).alloc (.cells #[.int .i64 m.id, .bool m.reply, .int .i64 m.op, .bool m.auth, .int .i64 m.code, .slice none 0 0, .slice none 0 0, .slice none 0 0, .slice none 0 0, .slice none 0 0, .slice none 0 0] 37)) = W at *
 refine (toQuestionS_own aq cq m.qs _ ((unhide HI).below bb).qs (by omega) (unhide HS).qs).mono ?_
 rintro e w1 ⟨v1, rfl, o1, b1⟩
 obtain ⟨n1, m1, rfl, _⟩ := o1.form
 replace bb := below_next bb b1
 replace KK := hide (block_kept b1 (unhide KK))
 replace RR := hide (block_kept b1 (unhide RR))
 replace V := hide (block_kept b1 (unhide V))
 have O1 := hide o1
 have z1 := b1.size
 clear o1 b1
 obtain ⟨d0, d1, d2, d3, d4, d5, d6, d7, d8, d9, d10⟩ := cells11 (unhide KK)
 obtain ⟨f0, f1, f2, f3, f4, f5, f6, f7, f8, f9, f10⟩ := cells11 (unhide V)
 obtain ⟨g0, g1, g2, g3, g4, g5, g6, g7, g8, g9, g10⟩ := frozen11 (unhide V)
 go_wp2_with fail
 clear d0 d1 d2 d3 d4 d5 d6 d7 d8 d9 d10 f0 f1 f2 f3 f4 f5 f6 f7 f8 f9 f10 g0 g1 g2 g3 g4 g5 g6 g7 g8 g9 g10
 have u1 := outside_set w1 (w.heap.size + 1 + 1) 5 (.slice n1 m.qs.length m1)
 have V' : (w1.setCell ⟨w.heap.size + 1 + 1, 5, none⟩ (.slice n1 m.qs.length m1)).heap[w.heap.size + 1 + 1]? = some (.cells #[.int .i64 m.id, .bool m.reply, .int .i64 m.op, .bool m.auth, .int .i64 m.code, .slice n1 m.qs.length m1, .slice none 0 0, .slice none 0 0, .slice none 0 0, .slice none 0 0, .slice none 0 0] 37) := block_setAt (unhide V) 5 _
 generalize w1.setCell ⟨w.heap.size + 1 + 1, 5, none⟩ (.slice n1 m.qs.length m1) = x1 at *
 replace V := hide V'
 clear V'
 replace bb := u1.below bb (by omega)
 replace KK := hide (u1.kept (unhide KK) (by omega))
 replace RR := hide (u1.kept (unhide RR) (by omega))
 have y1 := u1.size
 replace O1 := hide (RowX.outside (ownsQu 27 5) (unhide O1) u1 (by omega))
 clear u1
 refine (toRrS_own aa ca m.ans _ ((unhide HI).below bb).ans (by omega) (unhide HS).ans).mono ?_
 rintro e w2 ⟨v2, rfl, o2, b2⟩
 obtain ⟨n2, m2, rfl, _⟩ := o2.form
 replace bb := below_next bb b2
 replace KK := hide (block_kept b2 (unhide KK))
 replace RR := hide (block_kept b2 (unhide RR))
 replace V := hide (block_kept b2 (unhide V))
 have O2 := hide o2
 have z2 := b2.size
 replace O1 := hide (RowX.below (ownsQu 27 5) (unhide O1) b2)
 clear o2 b2
 obtain ⟨d0, d1, d2, d3, d4, d5, d6, d7, d8, d9, d10⟩ := cells11 (unhide KK)
 obtain ⟨f0, f1, f2, f3, f4, f5, f6, f7, f8, f9, f10⟩ := cells11 (unhide V)
 obtain ⟨g0, g1, g2, g3, g4, g5, g6, g7, g8, g9, g10⟩ := frozen11 (unhide V)
 go_wp2_with fail
 clear d0 d1 d2 d3 d4 d5 d6 d7 d8 d9 d10 f0 f1 f2 f3 f4 f5 f6 f7 f8 f9 f10 g0 g1 g2 g3 g4 g5 g6 g7 g8 g9 g10
 have u2 := outside_set w2 (w.heap.size + 1 + 1) 6 (.slice n2 m.ans.length m2)
 have V' : (w2.setCell ⟨w.heap.size + 1 + 1, 6, none⟩ (.slice n2 m.ans.length m2)).heap[w.heap.size + 1 + 1]? = some (.cells #[.int .i64 m.id, .bool m.reply, .int .i64 m.op, .bool m.auth, .int .i64 m.code, .slice n1 m.qs.length m1, .slice n2 m.ans.length m2, .slice none 0 0, .slice none 0 0, .slice none 0 0, .slice none 0 0] 37) := block_setAt (unhide V) 6 _
 generalize w2.setCell ⟨w.heap.size + 1 + 1, 6, none⟩ (.slice n2 m.ans.length m2) = x2 at *
 replace V := hide V'
 clear V'
 replace bb := u2.below bb (by omega)
 replace KK := hide (u2.kept (unhide KK) (by omega))
 replace RR := hide (u2.kept (unhide RR) (by omega))
 have y2 := u2.size
 replace O1 := hide (RowX.outside (ownsQu 27 5) (unhide O1) u2 (by omega))
 replace O2 := hide (RowO.outside (unhide O2) u2 (by omega))
 clear u2
 refine (toRrS_own ab cb m.aus _ ((unhide HI).below bb).aus (by omega) (unhide HS).aus).mono ?_
 rintro e w3 ⟨v3, rfl, o3, b3⟩
 obtain ⟨n3, m3, rfl, _⟩ := o3.form
 replace bb := below_next bb b3
 replace KK := hide (block_kept b3 (unhide KK))
 replace RR := hide (block_kept b3 (unhide RR))
 replace V := hide (block_kept b3 (unhide V))
 have O3 := hide o3
 have z3 := b3.size
 replace O1 := hide (RowX.below (ownsQu 27 5) (unhide O1) b3)
 replace O2 := hide (RowO.below (unhide O2) b3)
 clear o3 b3
 obtain ⟨d0, d1, d2, d3, d4, d5, d6, d7, d8, d9, d10⟩ := cells11 (unhide KK)
 obtain ⟨f0, f1, f2, f3, f4, f5, f6, f7, f8, f9, f10⟩ := cells11 (unhide V)
 obtain ⟨g0, g1, g2, g3, g4, g5, g6, g7, g8, g9, g10⟩ := frozen11 (unhide V)
 go_wp2_with fail
 clear d0 d1 d2 d3 d4 d5 d6 d7 d8 d9 d10 f0 f1 f2 f3 f4 f5 f6 f7 f8 f9 f10 g0 g1 g2 g3 g4 g5 g6 g7 g8 g9 g10
 have u3 := outside_set w3 (w.heap.size + 1 + 1) 7 (.slice n3 m.aus.length m3)
 have V' : (w3.setCell ⟨w.heap.size + 1 + 1, 7, none⟩ (.slice n3 m.aus.length m3)).heap[w.heap.size + 1 + 1]? = some (.cells #[.int .i64 m.id, .bool m.reply, .int .i64 m.op, .bool m.auth, .int .i64 m.code, .slice n1 m.qs.length m1, .slice n2 m.ans.length m2, .slice n3 m.aus.length m3, .slice none 0 0, .slice none 0 0, .slice none 0 0] 37) := block_setAt (unhide V) 7 _
 generalize w3.setCell ⟨w.heap.size + 1 + 1, 7, none⟩ (.slice n3 m.aus.length m3) = x3 at *
 replace V := hide V'
 clear V'
 replace bb := u3.below bb (by omega)
 replace KK := hide (u3.kept (unhide KK) (by omega))
 replace RR := hide (u3.kept (unhide RR) (by omega))
 have y3 := u3.size
 replace O1 := hide (RowX.outside (ownsQu 27 5) (unhide O1) u3 (by omega))
 replace O2 := hide (RowO.outside (unhide O2) u3 (by omega))
 replace O3 := hide (RowO.outside (unhide O3) u3 (by omega))
 clear u3
 refine (toRrS_own am cm m.more _ ((unhide HI).below bb).more (by omega) (unhide HS).more).mono ?_
 rintro e w4 ⟨v4, rfl, o4, b4⟩
 obtain ⟨n4, m4, rfl, _⟩ := o4.form
 replace bb := below_next bb b4
 replace KK := hide (block_kept b4 (unhide KK))
 replace RR := hide (block_kept b4 (unhide RR))
 replace V := hide (block_kept b4 (unhide V))
 have O4 := hide o4
 have z4 := b4.size
 replace O1 := hide (RowX.below (ownsQu 27 5) (unhide O1) b4)
 replace O2 := hide (RowO.below (unhide O2) b4)
 replace O3 := hide (RowO.below (unhide O3) b4)
 clear o4 b4
 obtain ⟨d0, d1, d2, d3, d4, d5, d6, d7, d8, d9, d10⟩ := cells11 (unhide KK)
 obtain ⟨f0, f1, f2, f3, f4, f5, f6, f7, f8, f9, f10⟩ := cells11 (unhide V)
 obtain ⟨g0, g1, g2, g3, g4, g5, g6, g7, g8, g9, g10⟩ := frozen11 (unhide V)
 go_wp2_with fail
 clear d0 d1 d2 d3 d4 d5 d6 d7 d8 d9 d10 f0 f1 f2 f3 f4 f5 f6 f7 f8 f9 f10 g0 g1 g2 g3 g4 g5 g6 g7 g8 g9 g10
 have u4 := outside_set w4 (w.heap.size + 1 + 1) 8 (.slice n4 m.more.length m4)
 have V' : (w4.setCell ⟨w.heap.size + 1 + 1, 8, none⟩ (.slice n4 m.more.length m4)).heap[w.heap.size + 1 + 1]? = some (.cells #[.int .i64 m.id, .bool m.reply, .int .i64 m.op, .bool m.auth, .int .i64 m.code, .slice n1 m.qs.length m1, .slice n2 m.ans.length m2, .slice n3 m.aus.length m3, .slice n4 m.more.length m4, .slice none 0 0, .slice none 0 0] 37) := block_setAt (unhide V) 8 _
 generalize w4.setCell ⟨w.heap.size + 1 + 1, 8, none⟩ (.slice n4 m.more.length m4) = x4 at *
 replace V := hide V'
 clear V'
 replace bb := u4.below bb (by omega)
 replace KK := hide (u4.kept (unhide KK) (by omega))
 replace RR := hide (u4.kept (unhide RR) (by omega))
 have y4 := u4.size
 replace O1 := hide (RowX.outside (ownsQu 27 5) (unhide O1) u4 (by omega))
 replace O2 := hide (RowO.outside (unhide O2) u4 (by omega))
 replace O3 := hide (RowO.outside (unhide O3) u4 (by omega))
 replace O4 := hide (RowO.outside (unhide O4) u4 (by omega))
 clear u4
 refine (toWantS_own ap cp m.pres _ ((unhide HI).below bb).pres (by omega) (unhide HS).pres).mono ?_
 rintro e w5 ⟨v5, rfl, o5, b5⟩
 obtain ⟨n5, m5, rfl, _⟩ := o5.form
 replace bb := below_next bb b5
 replace KK := hide (block_kept b5 (unhide KK))
 replace RR := hide (block_kept b5 (unhide RR))
 replace V := hide (block_kept b5 (unhide V))
 have O5 := hide o5
 have z5 := b5.size
 replace O1 := hide (RowX.below (ownsQu 27 5) (unhide O1) b5)
 replace O2 := hide (RowO.below (unhide O2) b5)
 replace O3 := hide (RowO.below (unhide O3) b5)
 replace O4 := hide (RowO.below (unhide O4) b5)
 clear o5 b5
 obtain ⟨d0, d1, d2, d3, d4, d5, d6, d7, d8, d9, d10⟩ := cells11 (unhide KK)
 obtain ⟨f0, f1, f2, f3, f4, f5, f6, f7, f8, f9, f10⟩ := cells11 (unhide V)
 obtain ⟨g0, g1, g2, g3, g4, g5, g6, g7, g8, g9, g10⟩ := frozen11 (unhide V)
 go_wp2_with fail
 clear d0 d1 d2 d3 d4 d5 d6 d7 d8 d9 d10 f0 f1 f2 f3 f4 f5 f6 f7 f8 f9 f10 g0 g1 g2 g3 g4 g5 g6 g7 g8 g9 g10
 have u5 := outside_set w5 (w.heap.size + 1 + 1) 9 (.slice n5 m.pres.length m5)
 have V' : (w5.setCell ⟨w.heap.size + 1 + 1, 9, none⟩ (.slice n5 m.pres.length m5)).heap[w.heap.size + 1 + 1]? = some (.cells #[.int .i64 m.id, .bool m.reply, .int .i64 m.op, .bool m.auth, .int .i64 m.code, .slice n1 m.qs.length m1, .slice n2 m.ans.length m2, .slice n3 m.aus.length m3, .slice n4 m.more.length m4, .slice n5 m.pres.length m5, .slice none 0 0] 37) := block_setAt (unhide V) 9 _
 generalize w5.setCell ⟨w.heap.size + 1 + 1, 9, none⟩ (.slice n5 m.pres.length m5) = x5 at *
 replace V := hide V'
 clear V'
 replace bb := u5.below bb (by omega)
 replace KK := hide (u5.kept (unhide KK) (by omega))
 replace RR := hide (u5.kept (unhide RR) (by omega))
 have y5 := u5.size
 replace O1 := hide (RowX.outside (ownsQu 27 5) (unhide O1) u5 (by omega))
 replace O2 := hide (RowO.outside (unhide O2) u5 (by omega))
 replace O3 := hide (RowO.outside (unhide O3) u5 (by omega))
 replace O4 := hide (RowO.outside (unhide O4) u5 (by omega))
 replace O5 := hide (RowX.outside (ownsWn 27 5 3) (unhide O5) u5 (by omega))
 clear u5
 refine (toWantS_own au cu m.ups _ ((unhide HI).below bb).ups (by omega) (unhide HS).ups).mono ?_
 rintro e w6 ⟨v6, rfl, o6, b6⟩
 obtain ⟨n6, m6, rfl, _⟩ := o6.form
 replace bb := below_next bb b6
 replace KK := hide (block_kept b6 (unhide KK))
 replace RR := hide (block_kept b6 (unhide RR))
 replace V := hide (block_kept b6 (unhide V))
 have O6 := hide o6
 have z6 := b6.size
 replace O1 := hide (RowX.below (ownsQu 27 5) (unhide O1) b6)
 replace O2 := hide (RowO.below (unhide O2) b6)
 replace O3 := hide (RowO.below (unhide O3) b6)
 replace O4 := hide (RowO.below (unhide O4) b6)
 replace O5 := hide (RowX.below (ownsWn 27 5 3) (unhide O5) b6)
 clear o6 b6
 obtain ⟨d0, d1, d2, d3, d4, d5, d6, d7, d8, d9, d10⟩ := cells11 (unhide KK)
 obtain ⟨f0, f1, f2, f3, f4, f5, f6, f7, f8, f9, f10⟩ := cells11 (unhide V)
 obtain ⟨g0, g1, g2, g3, g4, g5, g6, g7, g8, g9, g10⟩ := frozen11 (unhide V)
 obtain ⟨p0, p1, p2, p3, p4, p5, p6, p7, p8, p9, p10⟩ := cells11 (unhide RR)
 obtain ⟨q0, q1, q2, q3, q4, q5, q6, q7, q8, q9, q10⟩ := frozen11 (unhide RR)
 go_wp2_with fail
 clear d0 d1 d2 d3 d4 d5 d6 d7 d8 d9 d10 f0 f1 f2 f3 f4 f5 f6 f7 f8 f9 f10 g0 g1 g2 g3 g4 g5 g6 g7 g8 g9 g10 p0 p1 p2 p3 p4 p5 p6 p7 p8 p9 p10 q0 q1 q2 q3 q4 q5 q6 q7 q8 q9 q10
 have u6 := (outside_set w6 (w.heap.size + 1 + 1) 10 (.slice n6 m.ups.length m6)).wide (B' := w.heap.size + 1) (E' := w.heap.size + 3) (by omega) (by omega)
 have R4 := block_other (unhide RR) (b' := w.heap.size + 1 + 1) (by omega) 10 (.slice n6 m.ups.length m6)
 generalize w6.setCell ⟨w.heap.size + 1 + 1, 10, none⟩ (.slice n6 m.ups.length m6) = x6 at *
 obtain ⟨R5, u7⟩ := set11_is (c0 := .int .i64 m.id) (c1 := .bool m.reply) (c2 := .int .i64 m.op) (c3 := .bool m.auth) (c4 := .int .i64 m.code) (c5 := .slice n1 m.qs.length m1) (c6 := .slice n2 m.ans.length m2) (c7 := .slice n3 m.aus.length m3) (c8 := .slice n4 m.more.length m4) (c9 := .slice n5 m.pres.length m5) (c10 := .slice n6 m.ups.length m6) R4
 have u8 := u6.trans (u7.wide (B' := w.heap.size + 1) (E' := w.heap.size + 3) (by omega) (by omega))
 have z8 := u8.size
 unfold set11 at R5 u8 z8
 refine bodyPost_ret (results_cell_row rfl _ _ (w.heap.size + 1) 37 #[.int .i64 m.id, .bool m.reply, .int .i64 m.op, .bool m.auth, .int .i64 m.code, .slice n1 m.qs.length m1, .slice n2 m.ans.length m2, .slice n3 m.aus.length m3, .slice n4 m.more.length m4, .slice n5 m.pres.length m5, .slice n6 m.ups.length m6] (0, 0) _ rfl R5 Tryz.underlying37 rfl (by kernel_rfl)) rfl ?_
 refine ⟨_, _, _, _, _, _, rfl, ⟨w1.heap.size, w2.heap.size, w3.heap.size, w4.heap.size, w5.heap.size, by omega, by omega, by omega, by omega, by omega, by omega, ?_, ?_, ?_, ?_, ?_, ?_⟩, u8.below bb (by omega)⟩
 ·exact RowX.wide (RowX.outside (ownsQu 27 5) (unhide O1) u8 (.inr (by omega))) (by omega) (by omega)
 ·exact RowO.wide (RowO.outside (unhide O2) u8 (.inr (by omega))) (by omega) (by omega)
 ·exact RowO.wide (RowO.outside (unhide O3) u8 (.inr (by omega))) (by omega) (by omega)
 ·exact RowO.wide (RowO.outside (unhide O4) u8 (.inr (by omega))) (by omega) (by omega)
 ·exact RowX.wide (RowX.outside (ownsWn 27 5 3) (unhide O5) u8 (.inr (by omega))) (by omega) (by omega)
 ·exact RowX.wide (RowX.outside (ownsWn 27 5 3) (unhide O6) u8 (.inr (by omega))) (by omega) (by omega)

set_option maxHeartbeats 1000000 in
set_option maxRecDepth 100000 in
theorem eqMsg_has {vq va vb vm vp vu wq wa wb wm wp wu : Value} {m : Mg} {w : World} (h : HasM w vq va vb vm vp vu m) (h' : HasM w wq wa wb wm wp wu m) (hs : SizeM 2097152 m) :
  Calls Tryz.prog 21 #[.agg #[.int .i64 m.id, .bool m.reply, .int .i64 m.op, .bool m.auth, .int .i64 m.code, vq, va, vb, vm, vp, vu], .agg #[.int .i64 m.id, .bool m.reply, .int .i64 m.op, .bool m.auth, .int .i64 m.code, wq, wa, wb, wm, wp, wu]] w fun e w' => e = .returned (.bool true) ∧ Below w.heap.size w w' := by
 obtain ⟨xq, yq, rfl, _⟩ := h.qs.form
 obtain ⟨uq, tq, rfl, _⟩ := h'.qs.form
 obtain ⟨xa, ya, rfl, _⟩ := h.ans.form
 obtain ⟨ua, ta, rfl, _⟩ := h'.ans.form
 obtain ⟨xb, yb, rfl, _⟩ := h.aus.form
 obtain ⟨ub, tb, rfl, _⟩ := h'.aus.form
 obtain ⟨xm, ym, rfl, _⟩ := h.more.form
 obtain ⟨um, tm, rfl, _⟩ := h'.more.form
 obtain ⟨xp, yp, rfl, _⟩ := h.pres.form
 obtain ⟨up, tp, rfl, _⟩ := h'.pres.form
 obtain ⟨xu, yu, rfl, _⟩ := h.ups.form
 obtain ⟨uu, tu, rfl, _⟩ := h'.ups.form
 have b0 := below2 w (.cells #[.int .i64 m.id, .bool m.reply, .int .i64 m.op, .bool m.auth, .int .i64 m.code, .slice xq m.qs.length yq, .slice xa m.ans.length ya, .slice xb m.aus.length yb, .slice xm m.more.length ym, .slice xp m.pres.length yp, .slice xu m.ups.length yu] 37) (.cells #[.int .i64 m.id, .bool m.reply, .int .i64 m.op, .bool m.auth, .int .i64 m.code, .slice uq m.qs.length tq, .slice ua m.ans.length ta, .slice ub m.aus.length tb, .slice um m.more.length tm, .slice up m.pres.length tp, .slice uu m.ups.length tu] 37)
 obtain ⟨hsz, k0, x0⟩ := box2 w (.cells #[.int .i64 m.id, .bool m.reply, .int .i64 m.op, .bool m.auth, .int .i64 m.code, .slice xq m.qs.length yq, .slice xa m.ans.length ya, .slice xb m.aus.length yb, .slice xm m.more.length ym, .slice xp m.pres.length yp, .slice xu m.ups.length yu] 37) #[.int .i64 m.id, .bool m.reply, .int .i64 m.op, .bool m.auth, .int .i64 m.code, .slice uq m.qs.length tq, .slice ua m.ans.length ta, .slice ub m.aus.length tb, .slice um m.more.length tm, .slice up m.pres.length tp, .slice uu m.ups.length tu] 37
 have H := hide (h.below b0)
 have H' := hide (h'.below b0)
 have HS := hide hs
 have KK := hide k0
 have XX := hide x0
 obtain ⟨d0, d1, d2, d3, d4, d5, d6, d7, d8, d9, d10⟩ := cells11 k0
 obtain ⟨f0, f1, f2, f3, f4, f5, f6, f7, f8, f9, f10⟩ := cells11 x0
 clear h h' hs k0 x0 hsz
 go_enter Tryz.func21, Tryz.ntmps21
 go_wp2_with fail
 clear d0 d1 d2 d3 d4 d5 d6 d7 d8 d9 d10 f0 f1 f2 f3 f4 f5 f6 f7 f8 f9 f10
 generalize (w.alloc (.cells #[.int .i64 m.id, .bool m.reply, .int .i64 m.op, .bool m.auth, .int .i64 m.code, .slice xq m.qs.length yq, .slice xa m.ans.length ya, .slice xb m.aus.length yb, .slice xm m.more.length ym, .slice xp m.pres.length yp, .slice xu m.ups.length yu] 37)).alloc (.cells #[.int .i64 m.id, .bool m.reply, .int .i64 m.op, .bool m.auth, .int .i64 m.code, .slice uq m.qs.length tq, .slice ua m.ans.length ta, .slice ub m.aus.length tb, .slice um m.more.length tm, .slice up m.pres.length tp, .slice uu m.ups.length tu] 37) = W at *
 refine (eqQuestionS_has (unhide H).qs (unhide H').qs (unhide HS).qs).mono ?_
 rintro e w1 ⟨rfl, b1⟩
 replace b0 := below_next b0 b1
 replace H := hide ((unhide H).below b1)
 replace H' := hide ((unhide H').below b1)
 replace KK := hide (block_kept b1 (unhide KK))
 replace XX := hide (block_kept b1 (unhide XX))
 clear b1
 obtain ⟨d0, d1, d2, d3, d4, d5, d6, d7, d8, d9, d10⟩ := cells11 (unhide KK)
 obtain ⟨f0, f1, f2, f3, f4, f5, f6, f7, f8, f9, f10⟩ := cells11 (unhide XX)
 go_wp2_with fail
 clear d0 d1 d2 d3 d4 d5 d6 d7 d8 d9 d10 f0 f1 f2 f3 f4 f5 f6 f7 f8 f9 f10
 refine (eqRrS_has (unhide H).ans (unhide H').ans (unhide HS).ans).mono ?_
 rintro e w2 ⟨rfl, b2⟩
 replace b0 := below_next b0 b2
 replace H := hide ((unhide H).below b2)
 replace H' := hide ((unhide H').below b2)
 replace KK := hide (block_kept b2 (unhide KK))
 replace XX := hide (block_kept b2 (unhide XX))
 clear b2
 obtain ⟨d0, d1, d2, d3, d4, d5, d6, d7, d8, d9, d10⟩ := cells11 (unhide KK)
 obtain ⟨f0, f1, f2, f3, f4, f5, f6, f7, f8, f9, f10⟩ := cells11 (unhide XX)
 go_wp2_with fail
 clear d0 d1 d2 d3 d4 d5 d6 d7 d8 d9 d10 f0 f1 f2 f3 f4 f5 f6 f7 f8 f9 f10
 refine (eqRrS_has (unhide H).aus (unhide H').aus (unhide HS).aus).mono ?_
 rintro e w3 ⟨rfl, b3⟩
 replace b0 := below_next b0 b3
 replace H := hide ((unhide H).below b3)
 replace H' := hide ((unhide H').below b3)
 replace KK := hide (block_kept b3 (unhide KK))
 replace XX := hide (block_kept b3 (unhide XX))
 clear b3
 obtain ⟨d0, d1, d2, d3, d4, d5, d6, d7, d8, d9, d10⟩ := cells11 (unhide KK)
 obtain ⟨f0, f1, f2, f3, f4, f5, f6, f7, f8, f9, f10⟩ := cells11 (unhide XX)
 go_wp2_with fail
 clear d0 d1 d2 d3 d4 d5 d6 d7 d8 d9 d10 f0 f1 f2 f3 f4 f5 f6 f7 f8 f9 f10
 refine (eqRrS_has (unhide H).more (unhide H').more (unhide HS).more).mono ?_
 rintro e w4 ⟨rfl, b4⟩
 replace b0 := below_next b0 b4
 replace H := hide ((unhide H).below b4)
 replace H' := hide ((unhide H').below b4)
 replace KK := hide (block_kept b4 (unhide KK))
 replace XX := hide (block_kept b4 (unhide XX))
 clear b4
 obtain ⟨d0, d1, d2, d3, d4, d5, d6, d7, d8, d9, d10⟩ := cells11 (unhide KK)
 obtain ⟨f0, f1, f2, f3, f4, f5, f6, f7, f8, f9, f10⟩ := cells11 (unhide XX)
 go_wp2_with fail
 clear d0 d1 d2 d3 d4 d5 d6 d7 d8 d9 d10 f0 f1 f2 f3 f4 f5 f6 f7 f8 f9 f10
 refine (eqWantS_has (unhide H).pres (unhide H').pres (unhide HS).pres).mono ?_
 rintro e w5 ⟨rfl, b5⟩
 replace b0 := below_next b0 b5
 replace H := hide ((unhide H).below b5)
 replace H' := hide ((unhide H').below b5)
 replace KK := hide (block_kept b5 (unhide KK))
 replace XX := hide (block_kept b5 (unhide XX))
 clear b5
 obtain ⟨d0, d1, d2, d3, d4, d5, d6, d7, d8, d9, d10⟩ := cells11 (unhide KK)
 obtain ⟨f0, f1, f2, f3, f4, f5, f6, f7, f8, f9, f10⟩ := cells11 (unhide XX)
 go_wp2_with fail
 clear d0 d1 d2 d3 d4 d5 d6 d7 d8 d9 d10 f0 f1 f2 f3 f4 f5 f6 f7 f8 f9 f10
 refine (eqWantS_has (unhide H).ups (unhide H').ups (unhide HS).ups).mono ?_
 rintro e w6 ⟨rfl, b6⟩
 replace b0 := below_next b0 b6
 replace H := hide ((unhide H).below b6)
 replace H' := hide ((unhide H').below b6)
 replace KK := hide (block_kept b6 (unhide KK))
 replace XX := hide (block_kept b6 (unhide XX))
 clear b6
 go_wp2_with fail
 go_ret
 exact ⟨rfl, b0⟩
end Go.Proofs.YtfbfakdkemlbmaaGreat
