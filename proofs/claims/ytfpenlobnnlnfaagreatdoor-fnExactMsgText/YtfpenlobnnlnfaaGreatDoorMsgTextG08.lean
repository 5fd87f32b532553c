/-
  Contracts of the helpers of the laws for messages (szMsg, toMsg, eqMsg). Contracts of the byte helpers of the laws (markByteS, heldByteS): what each answers and what it leaves in memory.
-/
import Derived.Test.YtfpenlobnnlnfaaGreatDoorMsgTextG04
import Derived.Test.YtfpenlobnnlnfaaGreatDoorMsgTextG07
namespace Go.Proofs.YtfpenlobnnlnfaaGreatDoor
open Go.RowKit
set_option linter.unusedVariables false
set_option maxHeartbeats 1000000
set_option maxRecDepth 100000

theorem szMsg_any (aq : Option Addr) (cq : Nat) (aa : Option Addr) (ca : Nat) (ab : Option Addr) (cb : Nat) (am : Option Addr) (cm : Nat) (ap : Option Addr) (cp : Nat) (au : Option Addr) (cu : Nat) (m : Mg) (left : Int) (w : World) (h : InM w aq aa ab am ap au m) (hl : m.qs.length ≤ maxLen ∧ m.ans.length ≤ maxLen ∧ m.aus.length ≤ maxLen ∧ m.more.length ≤ maxLen ∧ m.pres.length ≤ maxLen ∧ m.ups.length ≤ maxLen) (hm : SizeM maxLen m) (h0 : 0 ≤ left) (h1 : left ≤ 1048576) :
  Calls Tryz.prog 4 #[.agg #[.int .i64 m.id, .bool m.reply, .int .i64 m.op, .bool m.auth, .int .i64 m.code, .slice aq m.qs.length cq, .slice aa m.ans.length ca, .slice ab m.aus.length cb, .slice am m.more.length cm, .slice ap m.pres.length cp, .slice au m.ups.length cu], .int .i64 left] w fun e w' => (∃ y : Int, e = .returned (.int .i64 y) ∧ -1 ≤ y ∧ y ≤ left ∧ (0 ≤ y → SizeM left.toNat m ∧ (m.count : Int) ≤ left)) ∧ Below w.heap.size w w' := by
 have b0 := UI (w := w) (.cells #[.int .i64 m.id, .bool m.reply, .int .i64 m.op, .bool m.auth, .int .i64 m.code, .slice aq m.qs.length cq, .slice aa m.ans.length ca, .slice ab m.aus.length cb, .slice am m.more.length cm, .slice ap m.pres.length cp, .slice au m.ups.length cu] 26)
 have K0 := UC (heap_alloc_new w (.cells #[.int .i64 m.id, .bool m.reply, .int .i64 m.op, .bool m.auth, .int .i64 m.code, .slice aq m.qs.length cq, .slice aa m.ans.length ca, .slice ab m.aus.length cb, .slice am m.more.length cm, .slice ap m.pres.length cp, .slice au m.ups.length cu] 26))
 have HI := UC (h.below b0)
 have HM := UC hm
 have HL := UC hl
 clear h hm hl
 obtain ⟨d0, d1, d2, d3, d4, d5, d6, d7, d8, d9, d10⟩ := cells11 (UB K0)
 go_enter Tryz.func4, Tryz.ntmps4
 go_wp2_with fail
 clear d0 d1 d2 d3 d4 d5 d6 d7 d8 d9 d10
 generalize w.alloc (.cells #[.int .i64 m.id, .bool m.reply, .int .i64 m.op, .bool m.auth, .int .i64 m.code, .slice aq m.qs.length cq, .slice aa m.ans.length ca, .slice ab m.aus.length cb, .slice am m.more.length cm, .slice ap m.pres.length cp, .slice au m.ups.length cu] 26) = W at *
 refine (szQuestionS_sum aq cq m.qs left _ (UB HI).qs (UB HL).1 (UB HM).qs (by omega) (by omega)).mono ?_
 rintro e w1 ⟨⟨y1, rfl, ya1, yb1, yc1⟩, b1⟩
 replace b0 := UG b0 b1
 replace HI := UC ((UB HI).below b1)
 replace K0 := UC (UE b1 (UB K0))
 have Y1 := UC yc1
 clear yc1 b1
 by_cases n1 : y1 < 0
 ·go_wp2
  go_ret
  exact ⟨⟨-1, rfl, by omega, by omega, fun q => by omega⟩, b0⟩
 obtain ⟨d0, d1, d2, d3, d4, d5, d6, d7, d8, d9, d10⟩ := cells11 (UB K0)
 go_wp2_with fail
 clear d0 d1 d2 d3 d4 d5 d6 d7 d8 d9 d10
 refine (szRrS_sum aa ca m.ans y1 _ (UB HI).ans (UB HL).2.1 (UB HM).ans (by omega) (by omega)).mono ?_
 rintro e w2 ⟨⟨y2, rfl, ya2, yb2, yc2⟩, b2⟩
 replace b0 := UG b0 b2
 replace HI := UC ((UB HI).below b2)
 replace K0 := UC (UE b2 (UB K0))
 have Y2 := UC yc2
 clear yc2 b2
 by_cases n2 : y2 < 0
 ·go_wp2
  go_ret
  exact ⟨⟨-1, rfl, by omega, by omega, fun q => by omega⟩, b0⟩
 obtain ⟨d0, d1, d2, d3, d4, d5, d6, d7, d8, d9, d10⟩ := cells11 (UB K0)
 go_wp2_with fail
 clear d0 d1 d2 d3 d4 d5 d6 d7 d8 d9 d10
 refine (szRrS_sum ab cb m.aus y2 _ (UB HI).aus (UB HL).2.2.1 (UB HM).aus (by omega) (by omega)).mono ?_
 rintro e w3 ⟨⟨y3, rfl, ya3, yb3, yc3⟩, b3⟩
 replace b0 := UG b0 b3
 replace HI := UC ((UB HI).below b3)
 replace K0 := UC (UE b3 (UB K0))
 have Y3 := UC yc3
 clear yc3 b3
 by_cases n3 : y3 < 0
 ·go_wp2
  go_ret
  exact ⟨⟨-1, rfl, by omega, by omega, fun q => by omega⟩, b0⟩
 obtain ⟨d0, d1, d2, d3, d4, d5, d6, d7, d8, d9, d10⟩ := cells11 (UB K0)
 go_wp2_with fail
 clear d0 d1 d2 d3 d4 d5 d6 d7 d8 d9 d10
 refine (szRrS_sum am cm m.more y3 _ (UB HI).more (UB HL).2.2.2.1 (UB HM).more (by omega) (by omega)).mono ?_
 rintro e w4 ⟨⟨y4, rfl, ya4, yb4, yc4⟩, b4⟩
 replace b0 := UG b0 b4
 replace HI := UC ((UB HI).below b4)
 replace K0 := UC (UE b4 (UB K0))
 have Y4 := UC yc4
 clear yc4 b4
 by_cases n4 : y4 < 0
 ·go_wp2
  go_ret
  exact ⟨⟨-1, rfl, by omega, by omega, fun q => by omega⟩, b0⟩
 obtain ⟨d0, d1, d2, d3, d4, d5, d6, d7, d8, d9, d10⟩ := cells11 (UB K0)
 go_wp2_with fail
 clear d0 d1 d2 d3 d4 d5 d6 d7 d8 d9 d10
 refine (szWantS_sum ap cp m.pres y4 _ (UB HI).pres (UB HL).2.2.2.2.1 (UB HM).pres (by omega) (by omega)).mono ?_
 rintro e w5 ⟨⟨y5, rfl, ya5, yb5, yc5⟩, b5⟩
 replace b0 := UG b0 b5
 replace HI := UC ((UB HI).below b5)
 replace K0 := UC (UE b5 (UB K0))
 have Y5 := UC yc5
 clear yc5 b5
 by_cases n5 : y5 < 0
 ·go_wp2
  go_ret
  exact ⟨⟨-1, rfl, by omega, by omega, fun q => by omega⟩, b0⟩
 obtain ⟨d0, d1, d2, d3, d4, d5, d6, d7, d8, d9, d10⟩ := cells11 (UB K0)
 go_wp2_with fail
 clear d0 d1 d2 d3 d4 d5 d6 d7 d8 d9 d10
 refine (szWantS_sum au cu m.ups y5 _ (UB HI).ups (UB HL).2.2.2.2.2 (UB HM).ups (by omega) (by omega)).mono ?_
 rintro e w6 ⟨⟨y6, rfl, ya6, yb6, yc6⟩, b6⟩
 replace b0 := UG b0 b6
 replace HI := UC ((UB HI).below b6)
 replace K0 := UC (UE b6 (UB K0))
 have Y6 := UC yc6
 clear yc6 b6
 by_cases n6 : y6 < 0
 ·go_wp2
  go_ret
  exact ⟨⟨-1, rfl, by omega, by omega, fun q => by omega⟩, b0⟩
 go_wp2
 go_ret
 have p1 := UB Y1 (by omega)
 have p2 := UB Y2 (by omega)
 have p3 := UB Y3 (by omega)
 have p4 := UB Y4 (by omega)
 have p5 := UB Y5 (by omega)
 have p6 := UB Y6 (by omega)
 refine ⟨⟨y6, rfl, by omega, by omega, fun _ => ⟨⟨fun i hi => (p1.2 i hi).mono (by omega), fun i hi => (p2.2 i hi).mono (by omega), fun i hi => (p3.2 i hi).mono (by omega), fun i hi => (p4.2 i hi).mono (by omega), fun i hi => (p5.2 i hi).mono (by omega), fun i hi => (p6.2 i hi).mono (by omega)⟩, ?_⟩⟩, b0⟩
 have q1 := p1.1
 have q2 := p2.1
 have q3 := p3.1
 have q4 := p4.1
 have q5 := p5.1
 have q6 := p6.1
 unfold Mg.count
 omega

theorem toMsg_own (aq : Option Addr) (cq : Nat) (aa : Option Addr) (ca : Nat) (ab : Option Addr) (cb : Nat) (am : Option Addr) (cm : Nat) (ap : Option Addr) (cp : Nat) (au : Option Addr) (cu : Nat) (m : Mg) (w : World) (h : InM w aq aa ab am ap au m) (hl : m.count ≤ 1048576) (hs : SizeM 1048576 m) :
  Calls Tryz.prog 6 #[.agg #[.int .i64 m.id, .bool m.reply, .int .i64 m.op, .bool m.auth, .int .i64 m.code, .slice aq m.qs.length cq, .slice aa m.ans.length ca, .slice ab m.aus.length cb, .slice am m.more.length cm, .slice ap m.pres.length cp, .slice au m.ups.length cu]] w fun e w' => ∃ vq va vb vm vp vu, e = .returned (.agg #[.int .i64 m.id, .bool m.reply, .int .i64 m.op, .bool m.auth, .int .i64 m.code, vq, va, vb, vm, vp, vu]) ∧ OwnM w.heap.size w'.heap.size w' vq va vb vm vp vu m ∧ Below w.heap.size w w' := by
 obtain ⟨hsz, r0, v0⟩ := box3 w (.cells #[.int .i64 m.id, .bool m.reply, .int .i64 m.op, .bool m.auth, .int .i64 m.code, .slice aq m.qs.length cq, .slice aa m.ans.length ca, .slice ab m.aus.length cb, .slice am m.more.length cm, .slice ap m.pres.length cp, .slice au m.ups.length cu] 26) #[.int .i64 0, .bool false, .int .i64 0, .bool false, .int .i64 0, .slice none 0 0, .slice none 0 0, .slice none 0 0, .slice none 0 0, .slice none 0 0, .slice none 0 0] #[.int .i64 m.id, .bool m.reply, .int .i64 m.op, .bool m.auth, .int .i64 m.code, .slice none 0 0, .slice none 0 0, .slice none 0 0, .slice none 0 0, .slice none 0 0, .slice none 0 0] 34 34
 have bb : Below w.heap.size w (((w.alloc (.cells #[.int .i64 m.id, .bool m.reply, .int .i64 m.op, .bool m.auth, .int .i64 m.code, .slice aq m.qs.length cq, .slice aa m.ans.length ca, .slice ab m.aus.length cb, .slice am m.more.length cm, .slice ap m.pres.length cp, .slice au m.ups.length cu] 26)).alloc (.cells #[.int .i64 0, .bool false, .int .i64 0, .bool false, .int .i64 0, .slice none 0 0, .slice none 0 0, .slice none 0 0, .slice none 0 0, .slice none 0 0, .slice none 0 0] 34)).alloc (.cells #[.int .i64 m.id, .bool m.reply, .int .i64 m.op, .bool m.auth, .int .i64 m.code, .slice none 0 0, .slice none 0 0, .slice none 0 0, .slice none 0 0, .slice none 0 0, .slice none 0 0] 34)) := ((UI _).alloc (UI _).size _).alloc ((UI _).alloc (UI _).size _).size _
 have k0 : (((w.alloc (.cells #[.int .i64 m.id, .bool m.reply, .int .i64 m.op, .bool m.auth, .int .i64 m.code, .slice aq m.qs.length cq, .slice aa m.ans.length ca, .slice ab m.aus.length cb, .slice am m.more.length cm, .slice ap m.pres.length cp, .slice au m.ups.length cu] 26)).alloc (.cells #[.int .i64 0, .bool false, .int .i64 0, .bool false, .int .i64 0, .slice none 0 0, .slice none 0 0, .slice none 0 0, .slice none 0 0, .slice none 0 0, .slice none 0 0] 34)).alloc (.cells #[.int .i64 m.id, .bool m.reply, .int .i64 m.op, .bool m.auth, .int .i64 m.code, .slice none 0 0, .slice none 0 0, .slice none 0 0, .slice none 0 0, .slice none 0 0, .slice none 0 0] 34)).heap[w.heap.size]? = some (.cells #[.int .i64 m.id, .bool m.reply, .int .i64 m.op, .bool m.auth, .int .i64 m.code, .slice aq m.qs.length cq, .slice aa m.ans.length ca, .slice ab m.aus.length cb, .slice am m.more.length cm, .slice ap m.pres.length cp, .slice au m.ups.length cu] 26) := UE (UI _) (UE (UI _) (heap_alloc_new w _))
 have HI := UC h
 have HS := UC hs
 have KK := UC k0
 have RR := UC r0
 have V := UC v0
 have zv := VC v0
 unfold Mg.count at hl
 clear h hs r0 v0 hsz
 obtain ⟨d0, d1, d2, d3, d4, d5, d6, d7, d8, d9, d10⟩ := cells11 k0
 clear k0
 go_enter Tryz.func6, Tryz.ntmps6
 go_wp2_with fail
 clear d0 d1 d2 d3 d4 d5 d6 d7 d8 d9 d10
 generalize (((w.alloc (.cells #[.int .i64 m.id, .bool m.reply, .int .i64 m.op, .bool m.auth, .int .i64 m.code, .slice aq m.qs.length cq, .slice aa m.ans.length ca, .slice ab m.aus.length cb, .slice am m.more.length cm, .slice ap m.pres.length cp, .slice au m.ups.length cu] 26)).alloc (.cells #[.int .i64 0, .bool false, .int .i64 0, .bool false, .int .i64 0, .slice none 0 0, .slice none 0 0, .slice none 0 0, .slice none 0 0, .slice none 0 0, .slice none 0 0] 34)).alloc (.cells #[.int .i64 m.id, .bool m.reply, .int .i64 m.op, .bool m.auth, .int .i64 m.code, .slice none 0 0, .slice none 0 0, .slice none 0 0, .slice none 0 0, .slice none 0 0, .slice none 0 0] 34)) = W at *
 refine (toQuestionS_own aq cq m.qs _ ((UB HI).below bb).qs (by omega) (UB HS).qs).mono ?_
 rintro e w1 ⟨v1, rfl, o1, b1⟩
 obtain ⟨n1, m1, rfl, _⟩ := o1.form
 replace bb := UG bb b1
 replace KK := UC (UE b1 (UB KK))
 replace RR := UC (UE b1 (UB RR))
 replace V := UC (UE b1 (UB V))
 have O1 := UC o1
 have z1 := b1.size
 clear o1 b1
 obtain ⟨d0, d1, d2, d3, d4, d5, d6, d7, d8, d9, d10⟩ := cells11 (UB KK)
 obtain ⟨f0, f1, f2, f3, f4, f5, f6, f7, f8, f9, f10⟩ := cells11 (UB V)
 obtain ⟨g0, g1, g2, g3, g4, g5, g6, g7, g8, g9, g10⟩ := frozen11 (UB V)
 go_wp2_with fail
 clear d0 d1 d2 d3 d4 d5 d6 d7 d8 d9 d10 f0 f1 f2 f3 f4 f5 f6 f7 f8 f9 f10 g0 g1 g2 g3 g4 g5 g6 g7 g8 g9 g10
 have u1 := UT w1 (w.heap.size + 1 + 1) 5 (.slice n1 m.qs.length m1)
 have V' : (w1.setCell ⟨w.heap.size + 1 + 1, 5, none⟩ (.slice n1 m.qs.length m1)).heap[w.heap.size + 1 + 1]? = some (.cells #[.int .i64 m.id, .bool m.reply, .int .i64 m.op, .bool m.auth, .int .i64 m.code, .slice n1 m.qs.length m1, .slice none 0 0, .slice none 0 0, .slice none 0 0, .slice none 0 0, .slice none 0 0] 34) := UV (UB V) 5 _
 generalize w1.setCell ⟨w.heap.size + 1 + 1, 5, none⟩ (.slice n1 m.qs.length m1) = x1 at *
 replace V := UC V'
 clear V'
 replace bb := u1.below bb (by omega)
 replace KK := UC (u1.kept (UB KK) (by omega))
 replace RR := UC (u1.kept (UB RR) (by omega))
 have y1 := u1.size
 replace O1 := UC (RowX.outside (ownsQu 28 5) (UB O1) u1 (by omega))
 clear u1
 refine (toRrS_own aa ca m.ans _ ((UB HI).below bb).ans (by omega) (UB HS).ans).mono ?_
 rintro e w2 ⟨v2, rfl, o2, b2⟩
 obtain ⟨n2, m2, rfl, _⟩ := o2.form
 replace bb := UG bb b2
 replace KK := UC (UE b2 (UB KK))
 replace RR := UC (UE b2 (UB RR))
 replace V := UC (UE b2 (UB V))
 have O2 := UC o2
 have z2 := b2.size
 replace O1 := UC (RowX.below (ownsQu 28 5) (UB O1) b2)
 clear o2 b2
 obtain ⟨d0, d1, d2, d3, d4, d5, d6, d7, d8, d9, d10⟩ := cells11 (UB KK)
 obtain ⟨f0, f1, f2, f3, f4, f5, f6, f7, f8, f9, f10⟩ := cells11 (UB V)
 obtain ⟨g0, g1, g2, g3, g4, g5, g6, g7, g8, g9, g10⟩ := frozen11 (UB V)
 go_wp2_with fail
 clear d0 d1 d2 d3 d4 d5 d6 d7 d8 d9 d10 f0 f1 f2 f3 f4 f5 f6 f7 f8 f9 f10 g0 g1 g2 g3 g4 g5 g6 g7 g8 g9 g10
 have u2 := UT w2 (w.heap.size + 1 + 1) 6 (.slice n2 m.ans.length m2)
 have V' : (w2.setCell ⟨w.heap.size + 1 + 1, 6, none⟩ (.slice n2 m.ans.length m2)).heap[w.heap.size + 1 + 1]? = some (.cells #[.int .i64 m.id, .bool m.reply, .int .i64 m.op, .bool m.auth, .int .i64 m.code, .slice n1 m.qs.length m1, .slice n2 m.ans.length m2, .slice none 0 0, .slice none 0 0, .slice none 0 0, .slice none 0 0] 34) := UV (UB V) 6 _
 generalize w2.setCell ⟨w.heap.size + 1 + 1, 6, none⟩ (.slice n2 m.ans.length m2) = x2 at *
 replace V := UC V'
 clear V'
 replace bb := u2.below bb (by omega)
 replace KK := UC (u2.kept (UB KK) (by omega))
 replace RR := UC (u2.kept (UB RR) (by omega))
 have y2 := u2.size
 replace O1 := UC (RowX.outside (ownsQu 28 5) (UB O1) u2 (by omega))
 replace O2 := UC (RowO.outside (UB O2) u2 (by omega))
 clear u2
 refine (toRrS_own ab cb m.aus _ ((UB HI).below bb).aus (by omega) (UB HS).aus).mono ?_
 rintro e w3 ⟨v3, rfl, o3, b3⟩
 obtain ⟨n3, m3, rfl, _⟩ := o3.form
 replace bb := UG bb b3
 replace KK := UC (UE b3 (UB KK))
 replace RR := UC (UE b3 (UB RR))
 replace V := UC (UE b3 (UB V))
 have O3 := UC o3
 have z3 := b3.size
 replace O1 := UC (RowX.below (ownsQu 28 5) (UB O1) b3)
 replace O2 := UC (RowO.below (UB O2) b3)
 clear o3 b3
 obtain ⟨d0, d1, d2, d3, d4, d5, d6, d7, d8, d9, d10⟩ := cells11 (UB KK)
 obtain ⟨f0, f1, f2, f3, f4, f5, f6, f7, f8, f9, f10⟩ := cells11 (UB V)
 obtain ⟨g0, g1, g2, g3, g4, g5, g6, g7, g8, g9, g10⟩ := frozen11 (UB V)
 go_wp2_with fail
 clear d0 d1 d2 d3 d4 d5 d6 d7 d8 d9 d10 f0 f1 f2 f3 f4 f5 f6 f7 f8 f9 f10 g0 g1 g2 g3 g4 g5 g6 g7 g8 g9 g10
 have u3 := UT w3 (w.heap.size + 1 + 1) 7 (.slice n3 m.aus.length m3)
 have V' : (w3.setCell ⟨w.heap.size + 1 + 1, 7, none⟩ (.slice n3 m.aus.length m3)).heap[w.heap.size + 1 + 1]? = some (.cells #[.int .i64 m.id, .bool m.reply, .int .i64 m.op, .bool m.auth, .int .i64 m.code, .slice n1 m.qs.length m1, .slice n2 m.ans.length m2, .slice n3 m.aus.length m3, .slice none 0 0, .slice none 0 0, .slice none 0 0] 34) := UV (UB V) 7 _
 generalize w3.setCell ⟨w.heap.size + 1 + 1, 7, none⟩ (.slice n3 m.aus.length m3) = x3 at *
 replace V := UC V'
 clear V'
 replace bb := u3.below bb (by omega)
 replace KK := UC (u3.kept (UB KK) (by omega))
 replace RR := UC (u3.kept (UB RR) (by omega))
 have y3 := u3.size
 replace O1 := UC (RowX.outside (ownsQu 28 5) (UB O1) u3 (by omega))
 replace O2 := UC (RowO.outside (UB O2) u3 (by omega))
 replace O3 := UC (RowO.outside (UB O3) u3 (by omega))
 clear u3
 refine (toRrS_own am cm m.more _ ((UB HI).below bb).more (by omega) (UB HS).more).mono ?_
 rintro e w4 ⟨v4, rfl, o4, b4⟩
 obtain ⟨n4, m4, rfl, _⟩ := o4.form
 replace bb := UG bb b4
 replace KK := UC (UE b4 (UB KK))
 replace RR := UC (UE b4 (UB RR))
 replace V := UC (UE b4 (UB V))
 have O4 := UC o4
 have z4 := b4.size
 replace O1 := UC (RowX.below (ownsQu 28 5) (UB O1) b4)
 replace O2 := UC (RowO.below (UB O2) b4)
 replace O3 := UC (RowO.below (UB O3) b4)
 clear o4 b4
 obtain ⟨d0, d1, d2, d3, d4, d5, d6, d7, d8, d9, d10⟩ := cells11 (UB KK)
 obtain ⟨f0, f1, f2, f3, f4, f5, f6, f7, f8, f9, f10⟩ := cells11 (UB V)
 obtain ⟨g0, g1, g2, g3, g4, g5, g6, g7, g8, g9, g10⟩ := frozen11 (UB V)
 go_wp2_with fail
 clear d0 d1 d2 d3 d4 d5 d6 d7 d8 d9 d10 f0 f1 f2 f3 f4 f5 f6 f7 f8 f9 f10 g0 g1 g2 g3 g4 g5 g6 g7 g8 g9 g10
 have u4 := UT w4 (w.heap.size + 1 + 1) 8 (.slice n4 m.more.length m4)
 have V' : (w4.setCell ⟨w.heap.size + 1 + 1, 8, none⟩ (.slice n4 m.more.length m4)).heap[w.heap.size + 1 + 1]? = some (.cells #[.int .i64 m.id, .bool m.reply, .int .i64 m.op, .bool m.auth, .int .i64 m.code, .slice n1 m.qs.length m1, .slice n2 m.ans.length m2, .slice n3 m.aus.length m3, .slice n4 m.more.length m4, .slice none 0 0, .slice none 0 0] 34) := UV (UB V) 8 _
 generalize w4.setCell ⟨w.heap.size + 1 + 1, 8, none⟩ (.slice n4 m.more.length m4) = x4 at *
 replace V := UC V'
 clear V'
 replace bb := u4.below bb (by omega)
 replace KK := UC (u4.kept (UB KK) (by omega))
 replace RR := UC (u4.kept (UB RR) (by omega))
 have y4 := u4.size
 replace O1 := UC (RowX.outside (ownsQu 28 5) (UB O1) u4 (by omega))
 replace O2 := UC (RowO.outside (UB O2) u4 (by omega))
 replace O3 := UC (RowO.outside (UB O3) u4 (by omega))
 replace O4 := UC (RowO.outside (UB O4) u4 (by omega))
 clear u4
 refine (toWantS_own ap cp m.pres _ ((UB HI).below bb).pres (by omega) (UB HS).pres).mono ?_
 rintro e w5 ⟨v5, rfl, o5, b5⟩
 obtain ⟨n5, m5, rfl, _⟩ := o5.form
 replace bb := UG bb b5
 replace KK := UC (UE b5 (UB KK))
 replace RR := UC (UE b5 (UB RR))
 replace V := UC (UE b5 (UB V))
 have O5 := UC o5
 have z5 := b5.size
 replace O1 := UC (RowX.below (ownsQu 28 5) (UB O1) b5)
 replace O2 := UC (RowO.below (UB O2) b5)
 replace O3 := UC (RowO.below (UB O3) b5)
 replace O4 := UC (RowO.below (UB O4) b5)
 clear o5 b5
 obtain ⟨d0, d1, d2, d3, d4, d5, d6, d7, d8, d9, d10⟩ := cells11 (UB KK)
 obtain ⟨f0, f1, f2, f3, f4, f5, f6, f7, f8, f9, f10⟩ := cells11 (UB V)
 obtain ⟨g0, g1, g2, g3, g4, g5, g6, g7, g8, g9, g10⟩ := frozen11 (UB V)
 go_wp2_with fail
 clear d0 d1 d2 d3 d4 d5 d6 d7 d8 d9 d10 f0 f1 f2 f3 f4 f5 f6 f7 f8 f9 f10 g0 g1 g2 g3 g4 g5 g6 g7 g8 g9 g10
 have u5 := UT w5 (w.heap.size + 1 + 1) 9 (.slice n5 m.pres.length m5)
 have V' : (w5.setCell ⟨w.heap.size + 1 + 1, 9, none⟩ (.slice n5 m.pres.length m5)).heap[w.heap.size + 1 + 1]? = some (.cells #[.int .i64 m.id, .bool m.reply, .int .i64 m.op, .bool m.auth, .int .i64 m.code, .slice n1 m.qs.length m1, .slice n2 m.ans.length m2, .slice n3 m.aus.length m3, .slice n4 m.more.length m4, .slice n5 m.pres.length m5, .slice none 0 0] 34) := UV (UB V) 9 _
 generalize w5.setCell ⟨w.heap.size + 1 + 1, 9, none⟩ (.slice n5 m.pres.length m5) = x5 at *
 replace V := UC V'
 clear V'
 replace bb := u5.below bb (by omega)
 replace KK := UC (u5.kept (UB KK) (by omega))
 replace RR := UC (u5.kept (UB RR) (by omega))
 have y5 := u5.size
 replace O1 := UC (RowX.outside (ownsQu 28 5) (UB O1) u5 (by omega))
 replace O2 := UC (RowO.outside (UB O2) u5 (by omega))
 replace O3 := UC (RowO.outside (UB O3) u5 (by omega))
 replace O4 := UC (RowO.outside (UB O4) u5 (by omega))
 replace O5 := UC (RowX.outside (ownsWn 28 5 3) (UB O5) u5 (by omega))
 clear u5
 refine (toWantS_own au cu m.ups _ ((UB HI).below bb).ups (by omega) (UB HS).ups).mono ?_
 rintro e w6 ⟨v6, rfl, o6, b6⟩
 obtain ⟨n6, m6, rfl, _⟩ := o6.form
 replace bb := UG bb b6
 replace KK := UC (UE b6 (UB KK))
 replace RR := UC (UE b6 (UB RR))
 replace V := UC (UE b6 (UB V))
 have O6 := UC o6
 have z6 := b6.size
 replace O1 := UC (RowX.below (ownsQu 28 5) (UB O1) b6)
 replace O2 := UC (RowO.below (UB O2) b6)
 replace O3 := UC (RowO.below (UB O3) b6)
 replace O4 := UC (RowO.below (UB O4) b6)
 replace O5 := UC (RowX.below (ownsWn 28 5 3) (UB O5) b6)
 clear o6 b6
 obtain ⟨d0, d1, d2, d3, d4, d5, d6, d7, d8, d9, d10⟩ := cells11 (UB KK)
 obtain ⟨f0, f1, f2, f3, f4, f5, f6, f7, f8, f9, f10⟩ := cells11 (UB V)
 obtain ⟨g0, g1, g2, g3, g4, g5, g6, g7, g8, g9, g10⟩ := frozen11 (UB V)
 obtain ⟨p0, p1, p2, p3, p4, p5, p6, p7, p8, p9, p10⟩ := cells11 (UB RR)
 obtain ⟨q0, q1, q2, q3, q4, q5, q6, q7, q8, q9, q10⟩ := frozen11 (UB RR)
 go_wp2_with fail
 clear d0 d1 d2 d3 d4 d5 d6 d7 d8 d9 d10 f0 f1 f2 f3 f4 f5 f6 f7 f8 f9 f10 g0 g1 g2 g3 g4 g5 g6 g7 g8 g9 g10 p0 p1 p2 p3 p4 p5 p6 p7 p8 p9 p10 q0 q1 q2 q3 q4 q5 q6 q7 q8 q9 q10
 have u6 := (UT w6 (w.heap.size + 1 + 1) 10 (.slice n6 m.ups.length m6)).wide (B' := w.heap.size + 1) (E' := w.heap.size + 3) (by omega) (by omega)
 have R4 := block_other (UB RR) (b' := w.heap.size + 1 + 1) (by omega) 10 (.slice n6 m.ups.length m6)
 generalize w6.setCell ⟨w.heap.size + 1 + 1, 10, none⟩ (.slice n6 m.ups.length m6) = x6 at *
 obtain ⟨R5, u7⟩ := set11_is (c0 := .int .i64 m.id) (c1 := .bool m.reply) (c2 := .int .i64 m.op) (c3 := .bool m.auth) (c4 := .int .i64 m.code) (c5 := .slice n1 m.qs.length m1) (c6 := .slice n2 m.ans.length m2) (c7 := .slice n3 m.aus.length m3) (c8 := .slice n4 m.more.length m4) (c9 := .slice n5 m.pres.length m5) (c10 := .slice n6 m.ups.length m6) R4
 have u8 := u6.trans (u7.wide (B' := w.heap.size + 1) (E' := w.heap.size + 3) (by omega) (by omega))
 have z8 := u8.size
 unfold set11 at R5 u8 z8
 refine bodyPost_ret (results_cell_row rfl _ _ (w.heap.size + 1) 34 #[.int .i64 m.id, .bool m.reply, .int .i64 m.op, .bool m.auth, .int .i64 m.code, .slice n1 m.qs.length m1, .slice n2 m.ans.length m2, .slice n3 m.aus.length m3, .slice n4 m.more.length m4, .slice n5 m.pres.length m5, .slice n6 m.ups.length m6] (0, 0) _ rfl R5 Tryz.underlying34 rfl (by kernel_rfl)) rfl ?_
 refine ⟨_, _, _, _, _, _, rfl, ⟨w1.heap.size, w2.heap.size, w3.heap.size, w4.heap.size, w5.heap.size, by omega, by omega, by omega, by omega, by omega, by omega, ?_, ?_, ?_, ?_, ?_, ?_⟩, u8.below bb (by omega)⟩
 ·exact RowX.wide (RowX.outside (ownsQu 28 5) (UB O1) u8 (.inr (by omega))) (by omega) (by omega)
 ·exact RowO.wide (RowO.outside (UB O2) u8 (.inr (by omega))) (by omega) (by omega)
 ·exact RowO.wide (RowO.outside (UB O3) u8 (.inr (by omega))) (by omega) (by omega)
 ·exact RowO.wide (RowO.outside (UB O4) u8 (.inr (by omega))) (by omega) (by omega)
 ·exact RowX.wide (RowX.outside (ownsWn 28 5 3) (UB O5) u8 (.inr (by omega))) (by omega) (by omega)
 ·exact RowX.wide (RowX.outside (ownsWn 28 5 3) (UB O6) u8 (.inr (by omega))) (by omega) (by omega)

theorem eqMsg_has {vq va vb vm vp vu wq wa wb wm wp wu : Value} {m : Mg} {w : World} (h : HasM w vq va vb vm vp vu m) (h' : HasM w wq wa wb wm wp wu m) (hs : SizeM 2097152 m) :
  Calls Tryz.prog 9 #[.agg #[.int .i64 m.id, .bool m.reply, .int .i64 m.op, .bool m.auth, .int .i64 m.code, vq, va, vb, vm, vp, vu], .agg #[.int .i64 m.id, .bool m.reply, .int .i64 m.op, .bool m.auth, .int .i64 m.code, wq, wa, wb, wm, wp, wu]] w fun e w' => e = .returned (.bool true) ∧ Below w.heap.size w w' := by
 obtain ⟨xq, yq, rfl, _⟩ := h.qs.form
 obtain ⟨uq, tq, rfl, _⟩ := h'.qs.form
 obtain ⟨xa, ya, rfl, _⟩ := h.ans.form
 obtain ⟨ua, ta, rfl, _⟩ := h'.ans.form
 obtain ⟨xb, yb, rfl, _⟩ := h.aus.form
 obtain ⟨ub, tb, rfl, _⟩ := h'.aus.form
 obtain ⟨xm, ym, rfl, _⟩ := h.more.form
 obtain ⟨um, tm, rfl, _⟩ := h'.more.form
 obtain ⟨xp, yp, rfl, _⟩ := h.pres.form
 obtain ⟨up, tp, rfl, _⟩ := h'.pres.form
 obtain ⟨xu, yu, rfl, _⟩ := h.ups.form
 obtain ⟨uu, tu, rfl, _⟩ := h'.ups.form
 have b0 := below2 w (.cells #[.int .i64 m.id, .bool m.reply, .int .i64 m.op, .bool m.auth, .int .i64 m.code, .slice xq m.qs.length yq, .slice xa m.ans.length ya, .slice xb m.aus.length yb, .slice xm m.more.length ym, .slice xp m.pres.length yp, .slice xu m.ups.length yu] 34) (.cells #[.int .i64 m.id, .bool m.reply, .int .i64 m.op, .bool m.auth, .int .i64 m.code, .slice uq m.qs.length tq, .slice ua m.ans.length ta, .slice ub m.aus.length tb, .slice um m.more.length tm, .slice up m.pres.length tp, .slice uu m.ups.length tu] 34)
 obtain ⟨hsz, k0, x0⟩ := box2 w (.cells #[.int .i64 m.id, .bool m.reply, .int .i64 m.op, .bool m.auth, .int .i64 m.code, .slice xq m.qs.length yq, .slice xa m.ans.length ya, .slice xb m.aus.length yb, .slice xm m.more.length ym, .slice xp m.pres.length yp, .slice xu m.ups.length yu] 34) #[.int .i64 m.id, .bool m.reply, .int .i64 m.op, .bool m.auth, .int .i64 m.code, .slice uq m.qs.length tq, .slice ua m.ans.length ta, .slice ub m.aus.length tb, .slice um m.more.length tm, .slice up m.pres.length tp, .slice uu m.ups.length tu] 34
 have H := UC (h.below b0)
 have H' := UC (h'.below b0)
 have HS := UC hs
 have KK := UC k0
 have XX := UC x0
 obtain ⟨d0, d1, d2, d3, d4, d5, d6, d7, d8, d9, d10⟩ := cells11 k0
 obtain ⟨f0, f1, f2, f3, f4, f5, f6, f7, f8, f9, f10⟩ := cells11 x0
 clear h h' hs k0 x0 hsz
 go_enter Tryz.func9, Tryz.ntmps9
 go_wp2_with fail
 clear d0 d1 d2 d3 d4 d5 d6 d7 d8 d9 d10 f0 f1 f2 f3 f4 f5 f6 f7 f8 f9 f10
 generalize (w.alloc (.cells #[.int .i64 m.id, .bool m.reply, .int .i64 m.op, .bool m.auth, .int .i64 m.code, .slice xq m.qs.length yq, .slice xa m.ans.length ya, .slice xb m.aus.length yb, .slice xm m.more.length ym, .slice xp m.pres.length yp, .slice xu m.ups.length yu] 34)).alloc (.cells #[.int .i64 m.id, .bool m.reply, .int .i64 m.op, .bool m.auth, .int .i64 m.code, .slice uq m.qs.length tq, .slice ua m.ans.length ta, .slice ub m.aus.length tb, .slice um m.more.length tm, .slice up m.pres.length tp, .slice uu m.ups.length tu] 34) = W at *
 refine (eqQuestionS_has (UB H).qs (UB H').qs (UB HS).qs).mono ?_
 rintro e w1 ⟨rfl, b1⟩
 replace b0 := UG b0 b1
 replace H := UC ((UB H).below b1)
 replace H' := UC ((UB H').below b1)
 replace KK := UC (UE b1 (UB KK))
 replace XX := UC (UE b1 (UB XX))
 clear b1
 obtain ⟨d0, d1, d2, d3, d4, d5, d6, d7, d8, d9, d10⟩ := cells11 (UB KK)
 obtain ⟨f0, f1, f2, f3, f4, f5, f6, f7, f8, f9, f10⟩ := cells11 (UB XX)
 go_wp2_with fail
 clear d0 d1 d2 d3 d4 d5 d6 d7 d8 d9 d10 f0 f1 f2 f3 f4 f5 f6 f7 f8 f9 f10
 refine (eqRrS_has (UB H).ans (UB H').ans (UB HS).ans).mono ?_
 rintro e w2 ⟨rfl, b2⟩
 replace b0 := UG b0 b2
 replace H := UC ((UB H).below b2)
 replace H' := UC ((UB H').below b2)
 replace KK := UC (UE b2 (UB KK))
 replace XX := UC (UE b2 (UB XX))
 clear b2
 obtain ⟨d0, d1, d2, d3, d4, d5, d6, d7, d8, d9, d10⟩ := cells11 (UB KK)
 obtain ⟨f0, f1, f2, f3, f4, f5, f6, f7, f8, f9, f10⟩ := cells11 (UB XX)
 go_wp2_with fail
 clear d0 d1 d2 d3 d4 d5 d6 d7 d8 d9 d10 f0 f1 f2 f3 f4 f5 f6 f7 f8 f9 f10
 refine (eqRrS_has (UB H).aus (UB H').aus (UB HS).aus).mono ?_
 rintro e w3 ⟨rfl, b3⟩
 replace b0 := UG b0 b3
 replace H := UC ((UB H).below b3)
 replace H' := UC ((UB H').below b3)
 replace KK := UC (UE b3 (UB KK))
 replace XX := UC (UE b3 (UB XX))
 clear b3
 obtain ⟨d0, d1, d2, d3, d4, d5, d6, d7, d8, d9, d10⟩ := cells11 (UB KK)
 obtain ⟨f0, f1, f2, f3, f4, f5, f6, f7, f8, f9, f10⟩ := cells11 (UB XX)
 go_wp2_with fail
 clear d0 d1 d2 d3 d4 d5 d6 d7 d8 d9 d10 f0 f1 f2 f3 f4 f5 f6 f7 f8 f9 f10
 refine (eqRrS_has (UB H).more (UB H').more (UB HS).more).mono ?_
 rintro e w4 ⟨rfl, b4⟩
 replace b0 := UG b0 b4
 replace H := UC ((UB H).below b4)
 replace H' := UC ((UB H').below b4)
 replace KK := UC (UE b4 (UB KK))
 replace XX := UC (UE b4 (UB XX))
 clear b4
 obtain ⟨d0, d1, d2, d3, d4, d5, d6, d7, d8, d9, d10⟩ := cells11 (UB KK)
 obtain ⟨f0, f1, f2, f3, f4, f5, f6, f7, f8, f9, f10⟩ := cells11 (UB XX)
 go_wp2_with fail
 clear d0 d1 d2 d3 d4 d5 d6 d7 d8 d9 d10 f0 f1 f2 f3 f4 f5 f6 f7 f8 f9 f10
 refine (eqWantS_has (UB H).pres (UB H').pres (UB HS).pres).mono ?_
 rintro e w5 ⟨rfl, b5⟩
 replace b0 := UG b0 b5
 replace H := UC ((UB H).below b5)
 replace H' := UC ((UB H').below b5)
 replace KK := UC (UE b5 (UB KK))
 replace XX := UC (UE b5 (UB XX))
 clear b5
 obtain ⟨d0, d1, d2, d3, d4, d5, d6, d7, d8, d9, d10⟩ := cells11 (UB KK)
 obtain ⟨f0, f1, f2, f3, f4, f5, f6, f7, f8, f9, f10⟩ := cells11 (UB XX)
 go_wp2_with fail
 clear d0 d1 d2 d3 d4 d5 d6 d7 d8 d9 d10 f0 f1 f2 f3 f4 f5 f6 f7 f8 f9 f10
 refine (eqWantS_has (UB H).ups (UB H').ups (UB HS).ups).mono ?_
 rintro e w6 ⟨rfl, b6⟩
 replace b0 := UG b0 b6
 replace H := UC ((UB H).below b6)
 replace H' := UC ((UB H').below b6)
 replace KK := UC (UE b6 (UB KK))
 replace XX := UC (UE b6 (UB XX))
 clear b6
 go_wp2_with fail
 go_ret
 exact ⟨rfl, b0⟩
set_option maxHeartbeats 400000
set_option maxRecDepth 100000

theorem markByteS_some (B g cap : Nat) (k0 : Int) (l : List Int) (w : World) (h : Own B 5 w (.slice (some ⟨g, 0, none⟩) l.length cap) l) (hl : l.length ≤ 2097152) (hk0 : 0 ≤ k0) (hk1 : k0 ≤ 9000000000000000000) :
  Calls Tryz.prog 11 #[.slice (some ⟨g, 0, none⟩) l.length cap, .int .i64 k0] w fun e w' => e = .returned (.int .i64 (k0 + l.length)) ∧
   Own B 5 w' (.slice (some ⟨g, 0, none⟩) l.length cap) (marks k0 l.length) ∧ w.grownBy w' (some g) := by
 generalize hn : l.length = n at *
 have HN := UC hn
 clear hn
 go_enter Tryz.func11, Tryz.ntmps11
 go_wp2
 go_loopw [1, 5] (fun kk i wr => ∃ k : Nat, k ≤ n ∧ i = .int .i64 k ∧ kk = .int .i64 (k0 + k) ∧ wr.ownsRow B 5 1 (.slice (some ⟨g, 0, none⟩) n cap) n ((marked l k0 k).map (Value.int .u8)) ∧ w.grownBy wr (some g)) (fun _ i _ => n - (intOf i).toNat)
 case atStart => exact ⟨0, Nat.zero_le _, rfl, by simp, by rw [marked_zero]; have h1 := h; unfold Own at h1; rw [UB HN] at h1; exact h1, ⟨rfl, rfl, rfl, Nat.le_refl _, fun _ _ _ => rfl⟩⟩
 case round =>
  obtain ⟨k, hk, rfl, rfl, ho, hg⟩ := hrel
  by_cases hlt : k < n
  ·have hc := ho.cellAt k (by omega)
   rw [map_at _ _ (by rw [marked_length, UB HN]; exact hlt)] at hc
   have hf := ho.frozenAt k
   have HO := UC ho
   clear ho
   go_wp2
   have hst := (UB HO).stored k (.int .u8 ((k0 + k) % 256))
   refine ⟨⟨k + 1, by omega, by go_num, by go_num, ?_, ?_⟩, by simp [intOf]; omega⟩
   ·rw [← marked_succ, List.map_set]
    exact hst.1
   ·exact grown_trans hg hst.2
  ·go_wp2
   go_ret
   obtain rfl : k = n := by omega
   refine ⟨rfl, ?_, hg⟩
   unfold Own
   rw [marks_length]
   have e : marked l k0 k = marks k0 k := by have := marked_all l k0; rw [UB HN] at this; exact this
   rw [← e]
   exact ho

theorem markByteS_nil (k0 : Int) (w : World) (hk0 : 0 ≤ k0) (hk1 : k0 ≤ 9000000000000000000) :
  Calls Tryz.prog 11 #[.slice none 0 0, .int .i64 k0] w fun e w' => e = .returned (.int .i64 k0) ∧ w = w' := by
 go_enter Tryz.func11, Tryz.ntmps11
 go_wp2
 go_loop [1, 5] (fun kk i => i = .int .i64 0 ∧ kk = .int .i64 k0) (fun _ i => 0)
 case atStart => exact ⟨rfl, rfl⟩
 case round =>
  obtain ⟨rfl, rfl⟩ := hrel
  go_wp2
  go_ret
  exact ⟨rfl, rfl⟩

theorem markByteS_any {B : Nat} {v : Value} {l : List Int} (k0 : Int) {w : World} (h : Own B 5 w v l) (hl : l.length ≤ 2097152) (hk0 : 0 ≤ k0) (hk1 : k0 ≤ 9000000000000000000) :
  Calls Tryz.prog 11 #[v, .int .i64 k0] w fun e w' => e = .returned (.int .i64 (k0 + l.length)) ∧ Own B 5 w' v (marks k0 l.length) ∧ w.grownBy w' v.ownBlock := by
 rcases h.form with ⟨rfl, rfl⟩ | ⟨g, cap, rfl, _⟩
 ·refine (markByteS_nil k0 w hk0 hk1).mono fun e w' ⟨he, hw⟩ => ?_
  subst hw
  exact ⟨by simpa using he, h, ⟨rfl, rfl, rfl, Nat.le_refl _, fun _ _ _ => rfl⟩⟩
 ·exact markByteS_some B g cap k0 l w h hl hk0 hk1

theorem heldByteS_marks (a : Option Addr) (cap n : Nat) (k0 : Int) (w : World) (h : Lies w a (marks k0 n)) (hl : n ≤ 2097152) (hk0 : 0 ≤ k0) (hk1 : k0 ≤ 9000000000000000000) :
  Calls Tryz.prog 12 #[.slice a n cap, .int .i64 k0] w fun e w' => e = .returned (.int .i64 (k0 + n)) ∧ w = w' := by
 go_enter Tryz.func12, Tryz.ntmps12
 go_wp2
 go_loop [1, 5] (fun kk i => ∃ k : Nat, k ≤ n ∧ i = .int .i64 k ∧ kk = .int .i64 (k0 + k)) (fun _ i => n - (intOf i).toNat)
 case atStart => exact ⟨0, Nat.zero_le _, rfl, by simp⟩
 case round =>
  obtain ⟨k, hk, rfl, rfl⟩ := hrel
  by_cases hlt : k < n
  ·obtain ⟨b, off, rfl, hbl, hc⟩ := h.here (k := k) (by rw [marks_length]; exact hlt)
   rw [marks_getD _ _ _ hlt] at hc
   go_wp2
   exact ⟨⟨k + 1, by omega, by go_num, by go_num⟩, by simp [intOf]; omega⟩
  ·go_wp2
   go_ret
   obtain rfl : k = n := by omega
   exact ⟨rfl, rfl⟩

theorem heldByteS_any {B : Nat} {v : Value} {n : Nat} (k0 : Int) {w : World} (h : Own B 5 w v (marks k0 n)) (hl : n ≤ 2097152) (hk0 : 0 ≤ k0) (hk1 : k0 ≤ 9000000000000000000) :
  Calls Tryz.prog 12 #[v, .int .i64 k0] w fun e w' => e = .returned (.int .i64 (k0 + n)) ∧ w = w' := by
 obtain ⟨a, cap, rfl, hL⟩ := h.lies
 rw [marks_length]
 exact heldByteS_marks a cap n k0 w hL hl hk0 hk1
end Go.Proofs.YtfpenlobnnlnfaaGreatDoor
