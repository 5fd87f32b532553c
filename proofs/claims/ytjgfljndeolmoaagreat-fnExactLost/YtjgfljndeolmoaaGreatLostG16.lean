/-
  Contracts of the helpers of the laws for tasks (szTask, toTask, eqTask).
-/
import Derived.Test.YtjgfljndeolmoaaGreatLostG10
import Derived.Test.YtjgfljndeolmoaaGreatLostG15
import Derived.Test.YtjgfljndeolmoaaGreatLostG14
import Derived.Test.YtjgfljndeolmoaaGreatLostG11
import Derived.Test.YtjgfljndeolmoaaGreatLostG03
namespace Go.Proofs.YtjgfljndeolmoaaGreat
open Go.RowKit
set_option linter.unusedVariables false

/-- The slices of a task own its lists, in blocks of B .. E - 1. -/
def OwnTk (B E : Nat) (w : World) (vf vn vz vh vr va : Value) (t : Tk) : Prop := ∃ s1 s2 s3 s4 s5, B ≤ s1 ∧ s1 ≤ s2 ∧ s2 ≤ s3 ∧ s3 ≤ s4 ∧ s4 ≤ s5 ∧ s5 ≤ E ∧ OwnN B s1 27 5 w vf t.fst.name ∧ OwnN s1 s2 27 5 w vn t.name ∧ OwnN s2 s3 27 5 w vz t.zone ∧ OwnBI s3 s4 3 w vh t.hints ∧ OwnBI s4 s5 3 w vr t.servers ∧ RowO s5 E 137 27 5 3 w va t.ans
theorem OwnTk.below {B E : Nat} {w w' : World} {vf vn vz vh vr va : Value} {t : Tk} (h : OwnTk B E w vf vn vz vh vr va t) (hb : Below w.heap.size w w') : OwnTk B E w' vf vn vz vh vr va t := by
 obtain ⟨s1, s2, s3, s4, s5, a1, a2, a3, a4, a5, a6, h1, h2, h3, h4, h5, h6⟩ := h
 exact ⟨s1, s2, s3, s4, s5, a1, a2, a3, a4, a5, a6, h1.below hb, h2.below hb, h3.below hb, h4.below hb, h5.below hb, h6.below hb⟩
theorem OwnTk.outside {B E C D : Nat} {w w' : World} {vf vn vz vh vr va : Value} {t : Tk} (h : OwnTk B E w vf vn vz vh vr va t) (u : Outside C D w w') (hd : E ≤ C ∨ D ≤ B) : OwnTk B E w' vf vn vz vh vr va t := by
 obtain ⟨s1, s2, s3, s4, s5, a1, a2, a3, a4, a5, a6, h1, h2, h3, h4, h5, h6⟩ := h
 exact ⟨s1, s2, s3, s4, s5, a1, a2, a3, a4, a5, a6, h1.outside u (by omega), h2.outside u (by omega), h3.outside u (by omega), h4.outside u (by omega), h5.outside u (by omega), h6.outside u (by omega)⟩
theorem OwnTk.has {B E : Nat} {w : World} {vf vn vz vh vr va : Value} {t : Tk} (h : OwnTk B E w vf vn vz vh vr va t) : HasTk w vf vn vz vh vr va t := by
 obtain ⟨s1, s2, s3, s4, s5, a1, a2, a3, a4, a5, a6, h1, h2, h3, h4, h5, h6⟩ := h
 exact ⟨h1.hasL, h2.hasL, h3.hasL, h4.has, h5.has, h6.has⟩

set_option maxHeartbeats 1000000 in
set_option maxRecDepth 100000 in
theorem szTask_any (af : Option Addr) (cf : Nat) (an : Option Addr) (cn : Nat) (az : Option Addr) (cz : Nat) (ah : Option Addr) (ch : Nat) (ar : Option Addr) (cr : Nat) (aa : Option Addr) (ca : Nat) (t : Tk) (left : Int) (w : World) (h : InTk w af an az ah ar aa t) (hm : SizeTk maxLen t) (h0 : 0 ≤ left) (h1 : left ≤ 1048576) :
  Calls Tryz.prog 15 #[.agg #[.int .i64 t.state, .int .i64 t.id, .slice af t.fst.name.length cf, .int .i64 t.fst.type, .slice an t.name.length cn, .slice az t.zone.length cz, .slice ah t.hints.length ch, .slice ar t.servers.length cr, .int .i64 t.turn, .int .i64 t.sends, .int .i64 t.steps, .int .i64 t.code, .slice aa t.ans.length ca], .int .i64 left] w fun e w' => (∃ y : Int, e = .returned (.int .i64 y) ∧ -1 ≤ y ∧ y ≤ left ∧ (0 ≤ y → SizeTk left.toNat t)) ∧ Below w.heap.size w w' := by
 have b0 := below_alloc (w := w) (.cells #[.int .i64 t.state, .int .i64 t.id, .slice af t.fst.name.length cf, .int .i64 t.fst.type, .slice an t.name.length cn, .slice az t.zone.length cz, .slice ah t.hints.length ch, .slice ar t.servers.length cr, .int .i64 t.turn, .int .i64 t.sends, .int .i64 t.steps, .int .i64 t.code, .slice aa t.ans.length ca] 53)
 have KK := hide (heap_alloc_new w (.cells #[.int .i64 t.state, .int .i64 t.id, .slice af t.fst.name.length cf, .int .i64 t.fst.type, .slice an t.name.length cn, .slice az t.zone.length cz, .slice ah t.hints.length ch, .slice ar t.servers.length cr, .int .i64 t.turn, .int .i64 t.sends, .int .i64 t.steps, .int .i64 t.code, .slice aa t.ans.length ca] 53))
 have HI := hide h
 have HM := hide hm
 clear h hm
 obtain ⟨d0, d1, d2, d3, d4, d5, d6, d7, d8, d9, d10, d11, d12⟩ := cells13 (unhide KK)
 go_enter Tryz.func15, Tryz.ntmps15
 go_wp2_with fail
 clear d0 d1 d2 d3 d4 d5 d6 d7 d8 d9 d10 d11 d12
 generalize w.alloc (.cells #[.int .i64 t.state, .int .i64 t.id, .slice af t.fst.name.length cf, .int .i64 t.fst.type, .slice an t.name.length cn, .slice az t.zone.length cz, .slice ah t.hints.length ch, .slice ar t.servers.length cr, .int .i64 t.turn, .int .i64 t.sends, .int .i64 t.steps, .int .i64 t.code, .slice aa t.ans.length ca] 53) = W at *
 refine (szQuestion_any af cf t.fst left _ ((unhide HI).below b0).fst (unhide HM).fst (by omega) (by omega)).mono ?_
 rintro e w1 ⟨⟨y1, rfl, ya1, yb1, yc1⟩, b1⟩
 replace b0 := below_next b0 b1
 replace KK := hide (block_kept b1 (unhide KK))
 have Y1 := hide yc1
 clear yc1 b1
 by_cases n1 : y1 < 0
 ·go_wp2
  go_ret
  exact ⟨⟨-1, rfl, by omega, by omega, fun q => by omega⟩, b0⟩
 obtain ⟨d0, d1, d2, d3, d4, d5, d6, d7, d8, d9, d10, d11, d12⟩ := cells13 (unhide KK)
 go_wp2_with fail
 clear d0 d1 d2 d3 d4 d5 d6 d7 d8 d9 d10 d11 d12
 refine (szName_any an cn t.name y1 _ ((unhide HI).below b0).name (unhide HM).name (unhide HM).names (by omega) (by omega)).mono ?_
 rintro e w2 ⟨⟨y2, rfl, ya2, yb2, yc2⟩, b2⟩
 replace b0 := below_next b0 b2
 replace KK := hide (block_kept b2 (unhide KK))
 have Y2 := hide yc2
 clear yc2 b2
 by_cases n2 : y2 < 0
 ·go_wp2
  go_ret
  exact ⟨⟨-1, rfl, by omega, by omega, fun q => by omega⟩, b0⟩
 obtain ⟨d0, d1, d2, d3, d4, d5, d6, d7, d8, d9, d10, d11, d12⟩ := cells13 (unhide KK)
 go_wp2_with fail
 clear d0 d1 d2 d3 d4 d5 d6 d7 d8 d9 d10 d11 d12
 refine (szName_any az cz t.zone y2 _ ((unhide HI).below b0).zone (unhide HM).zone (unhide HM).zones (by omega) (by omega)).mono ?_
 rintro e w3 ⟨⟨y3, rfl, ya3, yb3, yc3⟩, b3⟩
 replace b0 := below_next b0 b3
 replace KK := hide (block_kept b3 (unhide KK))
 have Y3 := hide yc3
 clear yc3 b3
 by_cases n3 : y3 < 0
 ·go_wp2
  go_ret
  exact ⟨⟨-1, rfl, by omega, by omega, fun q => by omega⟩, b0⟩
 obtain ⟨d0, d1, d2, d3, d4, d5, d6, d7, d8, d9, d10, d11, d12⟩ := cells13 (unhide KK)
 go_wp2_with fail
 clear d0 d1 d2 d3 d4 d5 d6 d7 d8 d9 d10 d11 d12
 have hq4 := (unhide HM).hints
 refine (szIntS_any ah t.hints.length ch y3 _ hq4 (by omega) (by omega)).mono ?_
 rintro e w4 ⟨rfl, rfl⟩
 clear hq4
 by_cases m4 : (t.hints.length : Int) ≤ y3
 rotate_left
 ·rw [if_neg m4]
  go_wp2
  go_ret
  exact ⟨⟨-1, rfl, by omega, by omega, fun q => by omega⟩, b0⟩
 rw [if_pos m4]
 have Y4 := hide m4
 have yb4 : y3 - (t.hints.length : Int) ≤ y3 := by omega
 have n4 : ¬ y3 - (t.hints.length : Int) < 0 := by omega
 generalize y3 - (t.hints.length : Int) = y4 at *
 clear m4
 obtain ⟨d0, d1, d2, d3, d4, d5, d6, d7, d8, d9, d10, d11, d12⟩ := cells13 (unhide KK)
 go_wp2_with fail
 clear d0 d1 d2 d3 d4 d5 d6 d7 d8 d9 d10 d11 d12
 have hq5 := (unhide HM).servers
 refine (szIntS_any ar t.servers.length cr y4 _ hq5 (by omega) (by omega)).mono ?_
 rintro e w5 ⟨rfl, rfl⟩
 clear hq5
 by_cases m5 : (t.servers.length : Int) ≤ y4
 rotate_left
 ·rw [if_neg m5]
  go_wp2
  go_ret
  exact ⟨⟨-1, rfl, by omega, by omega, fun q => by omega⟩, b0⟩
 rw [if_pos m5]
 have Y5 := hide m5
 have yb5 : y4 - (t.servers.length : Int) ≤ y4 := by omega
 have n5 : ¬ y4 - (t.servers.length : Int) < 0 := by omega
 generalize y4 - (t.servers.length : Int) = y5 at *
 clear m5
 obtain ⟨d0, d1, d2, d3, d4, d5, d6, d7, d8, d9, d10, d11, d12⟩ := cells13 (unhide KK)
 go_wp2_with fail
 clear d0 d1 d2 d3 d4 d5 d6 d7 d8 d9 d10 d11 d12
 refine (szRrS_any aa ca t.ans y5 _ ((unhide HI).below b0).ans (unhide HM).ans (unhide HM).anss (by omega) (by omega)).mono ?_
 rintro e w6 ⟨⟨y6, rfl, ya6, yb6, yc6⟩, b6⟩
 replace b0 := below_next b0 b6
 replace KK := hide (block_kept b6 (unhide KK))
 have Y6 := hide yc6
 clear yc6 b6
 by_cases n6 : y6 < 0
 ·go_wp2
  go_ret
  exact ⟨⟨-1, rfl, by omega, by omega, fun q => by omega⟩, b0⟩
 go_wp2
 go_ret
 have p1 := unhide Y1 (by omega)
 have p2 := unhide Y2 (by omega)
 have p3 := unhide Y3 (by omega)
 have p4 := unhide Y4
 have p5 := unhide Y5
 have p6 := unhide Y6 (by omega)
 exact ⟨⟨y6, rfl, by omega, by omega, fun _ => ⟨p1, by omega, fun i hi => by have := p2.2 i hi; omega, by omega, fun i hi => by have := p3.2 i hi; omega, by omega, by omega, by omega, fun i hi => (p6.2 i hi).mono (by omega)⟩⟩, b0⟩

set_option maxHeartbeats 4000000 in
set_option maxRecDepth 100000 in
theorem toTask_own (af : Option Addr) (cf : Nat) (an : Option Addr) (cn : Nat) (az : Option Addr) (cz : Nat) (ah : Option Addr) (ch : Nat) (ar : Option Addr) (cr : Nat) (aa : Option Addr) (ca : Nat) (t : Tk) (w : World) (h : InTk w af an az ah ar aa t) (hs : SizeTk 1048576 t) :
  Calls Tryz.prog 17 #[.agg #[.int .i64 t.state, .int .i64 t.id, .slice af t.fst.name.length cf, .int .i64 t.fst.type, .slice an t.name.length cn, .slice az t.zone.length cz, .slice ah t.hints.length ch, .slice ar t.servers.length cr, .int .i64 t.turn, .int .i64 t.sends, .int .i64 t.steps, .int .i64 t.code, .slice aa t.ans.length ca]] w fun e w' => ∃ vf vn vz vh vr va, e = .returned (.agg #[.int .i64 t.state, .int .i64 t.id, vf, .int .i64 t.fst.type, vn, vz, vh, vr, .int .i64 t.turn, .int .i64 t.sends, .int .i64 t.steps, .int .i64 t.code, va]) ∧ OwnTk w.heap.size w'.heap.size w' vf vn vz vh vr va t ∧ Below w.heap.size w w' := by
 obtain ⟨hsz, r0, v0⟩ := box3 w (.cells #[.int .i64 t.state, .int .i64 t.id, .slice af t.fst.name.length cf, .int .i64 t.fst.type, .slice an t.name.length cn, .slice az t.zone.length cz, .slice ah t.hints.length ch, .slice ar t.servers.length cr, .int .i64 t.turn, .int .i64 t.sends, .int .i64 t.steps, .int .i64 t.code, .slice aa t.ans.length ca] 53) #[.int .i64 0, .int .i64 0, .slice none 0 0, .int .i64 0, .slice none 0 0, .slice none 0 0, .slice none 0 0, .slice none 0 0, .int .i64 0, .int .i64 0, .int .i64 0, .int .i64 0, .slice none 0 0] #[.int .i64 t.state, .int .i64 t.id, .slice none 0 0, .int .i64 0, .slice none 0 0, .slice none 0 0, .slice none 0 0, .slice none 0 0, .int .i64 0, .int .i64 0, .int .i64 0, .int .i64 0, .slice none 0 0] 61 61
 have bb : Below w.heap.size w (((w.alloc (.cells #[.int .i64 t.state, .int .i64 t.id, .slice af t.fst.name.length cf, .int .i64 t.fst.type, .slice an t.name.length cn, .slice az t.zone.length cz, .slice ah t.hints.length ch, .slice ar t.servers.length cr, .int .i64 t.turn, .int .i64 t.sends, .int .i64 t.steps, .int .i64 t.code, .slice aa t.ans.length ca] 53)).alloc (.cells #[.int .i64 0, .int .i64 0, .slice none 0 0, .int .i64 0, .slice none 0 0, .slice none 0 0, .slice none 0 0, .slice none 0 0, .int .i64 0, .int .i64 0, .int .i64 0, .int .i64 0, .slice none 0 0] 61)).alloc (.cells #[.int .i64 t.state, .int .i64 t.id, .slice none 0 0, .int .i64 0, .slice none 0 0, .slice none 0 0, .slice none 0 0, .slice none 0 0, .int .i64 0, .int .i64 0, .int .i64 0, .int .i64 0, .slice none 0 0] 61)) := ((below_alloc _).alloc (below_alloc _).size _).alloc ((below_alloc _).alloc (below_alloc _).size _).size _
 have k0 : (((w.alloc (.cells #[.int .i64 t.state, .int .i64 t.id, .slice af t.fst.name.length cf, .int .i64 t.fst.type, .slice an t.name.length cn, .slice az t.zone.length cz, .slice ah t.hints.length ch, .slice ar t.servers.length cr, .int .i64 t.turn, .int .i64 t.sends, .int .i64 t.steps, .int .i64 t.code, .slice aa t.ans.length ca] 53)).alloc (.cells #[.int .i64 0, .int .i64 0, .slice none 0 0, .int .i64 0, .slice none 0 0, .slice none 0 0, .slice none 0 0, .slice none 0 0, .int .i64 0, .int .i64 0, .int .i64 0, .int .i64 0, .slice none 0 0] 61)).alloc (.cells #[.int .i64 t.state, .int .i64 t.id, .slice none 0 0, .int .i64 0, .slice none 0 0, .slice none 0 0, .slice none 0 0, .slice none 0 0, .int .i64 0, .int .i64 0, .int .i64 0, .int .i64 0, .slice none 0 0] 61)).heap[w.heap.size]? = some (.cells #[.int .i64 t.state, .int .i64 t.id, .slice af t.fst.name.length cf, .int .i64 t.fst.type, .slice an t.name.length cn, .slice az t.zone.length cz, .slice ah t.hints.length ch, .slice ar t.servers.length cr, .int .i64 t.turn, .int .i64 t.sends, .int .i64 t.steps, .int .i64 t.code, .slice aa t.ans.length ca] 53) := block_kept (below_alloc _) (block_kept (below_alloc _) (heap_alloc_new w _))
 have HI := hide h
 have HS := hide hs
 have KK := hide k0
 have RR := hide r0
 have V := hide v0
 have zv := block_lt v0
 clear h hs r0 v0 hsz
 obtain ⟨d0, d1, d2, d3, d4, d5, d6, d7, d8, d9, d10, d11, d12⟩ := cells13 k0
 clear k0
 go_enter Tryz.func17, Tryz.ntmps17
 go_wp2_with fail
 clear d0 d1 d2 d3 d4 d5 d6 d7 d8 d9 d10 d11 d12
 generalize (((w.alloc (.cells #[.int .i64 t.state, .int .i64 t.id, .slice af t.fst.name.length cf, .int .i64 t.fst.type, .slice an t.name.length cn, .slice az t.zone.length cz, .slice ah t.hints.length ch, .slice ar t.servers.length cr, .int .i64 t.turn, .int .i64 t.sends, .int .i64 t.steps, .int .i64 t.code, .slice aa t.ans.length ca] 53)).alloc (.cells #[.int .i64 0, .int .i64 0, .slice none 0 0, .int .i64 0, .slice none 0 0, .slice none 0 0, .slice none 0 0, .slice none 0 0, .int .i64 0, .int .i64 0, .int .i64 0, .int .i64 0, .slice none 0 0] 61)).alloc (.cells #[.int .i64 t.state, .int .i64 t.id, .slice none 0 0, .int .i64 0, .slice none 0 0, .slice none 0 0, .slice none 0 0, .slice none 0 0, .int .i64 0, .int .i64 0, .int .i64 0, .int .i64 0, .slice none 0 0] 61)) = W at *
 refine (toQuestion_any af cf t.fst _ ((unhide HI).below bb).fst (unhide HS).fst).mono ?_
 rintro e w1 ⟨vf, rfl, o1, b1⟩
 obtain ⟨xf, yf, rfl, _⟩ := o1.hasL.form
 replace bb := below_next bb b1
 replace KK := hide (block_kept b1 (unhide KK))
 replace RR := hide (block_kept b1 (unhide RR))
 replace V := hide (block_kept b1 (unhide V))
 have O1 := hide o1
 have z1 := b1.size
 clear o1 b1
 obtain ⟨d0, d1, d2, d3, d4, d5, d6, d7, d8, d9, d10, d11, d12⟩ := cells13 (unhide KK)
 obtain ⟨f0, f1, f2, f3, f4, f5, f6, f7, f8, f9, f10, f11, f12⟩ := cells13 (unhide V)
 obtain ⟨g0, g1, g2, g3, g4, g5, g6, g7, g8, g9, g10, g11, g12⟩ := frozen13 (unhide V)
 go_wp2_with fail
 clear d0 d1 d2 d3 d4 d5 d6 d7 d8 d9 d10 d11 d12 f0 f1 f2 f3 f4 f5 f6 f7 f8 f9 f10 f11 f12 g0 g1 g2 g3 g4 g5 g6 g7 g8 g9 g10 g11 g12
 obtain ⟨V1, u1⟩ := setfst_is (c2 := .slice xf t.fst.name.length yf) (c3 := .int .i64 t.fst.type) (unhide V)
 unfold setfst at V1 u1
 generalize (w1.setCell ⟨w.heap.size + 1 + 1, 2, none⟩ (.slice xf t.fst.name.length yf)).setCell ⟨w.heap.size + 1 + 1, 3, none⟩ (.int .i64 t.fst.type) = x1 at *
 replace V := hide V1
 replace bb := u1.below bb (by omega)
 replace KK := hide (u1.kept (unhide KK) (by omega))
 replace RR := hide (u1.kept (unhide RR) (by omega))
 replace O1 := hide ((unhide O1).outside u1 (by omega))
 have s1 := u1.size
 clear V1 u1
 refine (toName_any an cn t.name _ ((unhide HI).below bb).name (unhide HS).name (unhide HS).names).mono ?_
 rintro e w2 ⟨vn, rfl, o2, b2⟩
 obtain ⟨xn, yn, rfl, _⟩ := o2.hasL.form
 replace bb := below_next bb b2
 replace KK := hide (block_kept b2 (unhide KK))
 replace RR := hide (block_kept b2 (unhide RR))
 replace V := hide (block_kept b2 (unhide V))
 replace O1 := hide ((unhide O1).below b2)
 have O2 := hide o2.here
 have z2 := b2.size
 clear o2 b2
 obtain ⟨d0, d1, d2, d3, d4, d5, d6, d7, d8, d9, d10, d11, d12⟩ := cells13 (unhide KK)
 obtain ⟨f0, f1, f2, f3, f4, f5, f6, f7, f8, f9, f10, f11, f12⟩ := cells13 (unhide V)
 obtain ⟨g0, g1, g2, g3, g4, g5, g6, g7, g8, g9, g10, g11, g12⟩ := frozen13 (unhide V)
 go_wp2_with fail
 clear d0 d1 d2 d3 d4 d5 d6 d7 d8 d9 d10 d11 d12 f0 f1 f2 f3 f4 f5 f6 f7 f8 f9 f10 f11 f12 g0 g1 g2 g3 g4 g5 g6 g7 g8 g9 g10 g11 g12
 have u2 := outside_set w2 (w.heap.size + 1 + 1) 4 (.slice xn t.name.length yn)
 have V2 : (w2.setCell ⟨w.heap.size + 1 + 1, 4, none⟩ (.slice xn t.name.length yn)).heap[w.heap.size + 1 + 1]? = some (.cells #[.int .i64 t.state, .int .i64 t.id, .slice xf t.fst.name.length yf, .int .i64 t.fst.type, .slice xn t.name.length yn, .slice none 0 0, .slice none 0 0, .slice none 0 0, .int .i64 0, .int .i64 0, .int .i64 0, .int .i64 0, .slice none 0 0] 61) := block_setAt (unhide V) 4 _
 generalize w2.setCell ⟨w.heap.size + 1 + 1, 4, none⟩ (.slice xn t.name.length yn) = x2 at *
 replace V := hide V2
 replace bb := u2.below bb (by omega)
 replace KK := hide (u2.kept (unhide KK) (by omega))
 replace RR := hide (u2.kept (unhide RR) (by omega))
 replace O1 := hide ((unhide O1).outside u2 (by omega))
 replace O2 := hide ((unhide O2).outside u2 (by omega))
 have s2 := u2.size
 clear V2 u2
 refine (toName_any az cz t.zone _ ((unhide HI).below bb).zone (unhide HS).zone (unhide HS).zones).mono ?_
 rintro e w3 ⟨vz, rfl, o3, b3⟩
 obtain ⟨xz, yz, rfl, _⟩ := o3.hasL.form
 replace bb := below_next bb b3
 replace KK := hide (block_kept b3 (unhide KK))
 replace RR := hide (block_kept b3 (unhide RR))
 replace V := hide (block_kept b3 (unhide V))
 replace O1 := hide ((unhide O1).below b3)
 replace O2 := hide ((unhide O2).below b3)
 have O3 := hide o3.here
 have z3 := b3.size
 clear o3 b3
 obtain ⟨d0, d1, d2, d3, d4, d5, d6, d7, d8, d9, d10, d11, d12⟩ := cells13 (unhide KK)
 obtain ⟨f0, f1, f2, f3, f4, f5, f6, f7, f8, f9, f10, f11, f12⟩ := cells13 (unhide V)
 obtain ⟨g0, g1, g2, g3, g4, g5, g6, g7, g8, g9, g10, g11, g12⟩ := frozen13 (unhide V)
 go_wp2_with fail
 clear d0 d1 d2 d3 d4 d5 d6 d7 d8 d9 d10 d11 d12 f0 f1 f2 f3 f4 f5 f6 f7 f8 f9 f10 f11 f12 g0 g1 g2 g3 g4 g5 g6 g7 g8 g9 g10 g11 g12
 have u3 := outside_set w3 (w.heap.size + 1 + 1) 5 (.slice xz t.zone.length yz)
 have V3 : (w3.setCell ⟨w.heap.size + 1 + 1, 5, none⟩ (.slice xz t.zone.length yz)).heap[w.heap.size + 1 + 1]? = some (.cells #[.int .i64 t.state, .int .i64 t.id, .slice xf t.fst.name.length yf, .int .i64 t.fst.type, .slice xn t.name.length yn, .slice xz t.zone.length yz, .slice none 0 0, .slice none 0 0, .int .i64 0, .int .i64 0, .int .i64 0, .int .i64 0, .slice none 0 0] 61) := block_setAt (unhide V) 5 _
 generalize w3.setCell ⟨w.heap.size + 1 + 1, 5, none⟩ (.slice xz t.zone.length yz) = x3 at *
 replace V := hide V3
 replace bb := u3.below bb (by omega)
 replace KK := hide (u3.kept (unhide KK) (by omega))
 replace RR := hide (u3.kept (unhide RR) (by omega))
 replace O1 := hide ((unhide O1).outside u3 (by omega))
 replace O2 := hide ((unhide O2).outside u3 (by omega))
 replace O3 := hide ((unhide O3).outside u3 (by omega))
 have s3 := u3.size
 clear V3 u3
 refine (toIntS_any ah ch t.hints _ ((unhide HI).below bb).hints (unhide HS).hints).mono ?_
 rintro e w4 ⟨vh, rfl, o4, b4⟩
 obtain ⟨xh, yh, rfl, _⟩ := o4.lies
 replace bb := below_next bb b4
 replace KK := hide (block_kept b4 (unhide KK))
 replace RR := hide (block_kept b4 (unhide RR))
 replace V := hide (block_kept b4 (unhide V))
 replace O1 := hide ((unhide O1).below b4)
 replace O2 := hide ((unhide O2).below b4)
 replace O3 := hide ((unhide O3).below b4)
 have O4 := hide o4.here
 have z4 := b4.size
 clear o4 b4
 obtain ⟨d0, d1, d2, d3, d4, d5, d6, d7, d8, d9, d10, d11, d12⟩ := cells13 (unhide KK)
 obtain ⟨f0, f1, f2, f3, f4, f5, f6, f7, f8, f9, f10, f11, f12⟩ := cells13 (unhide V)
 obtain ⟨g0, g1, g2, g3, g4, g5, g6, g7, g8, g9, g10, g11, g12⟩ := frozen13 (unhide V)
 go_wp2_with fail
 clear d0 d1 d2 d3 d4 d5 d6 d7 d8 d9 d10 d11 d12 f0 f1 f2 f3 f4 f5 f6 f7 f8 f9 f10 f11 f12 g0 g1 g2 g3 g4 g5 g6 g7 g8 g9 g10 g11 g12
 have u4 := outside_set w4 (w.heap.size + 1 + 1) 6 (.slice xh t.hints.length yh)
 have V4 : (w4.setCell ⟨w.heap.size + 1 + 1, 6, none⟩ (.slice xh t.hints.length yh)).heap[w.heap.size + 1 + 1]? = some (.cells #[.int .i64 t.state, .int .i64 t.id, .slice xf t.fst.name.length yf, .int .i64 t.fst.type, .slice xn t.name.length yn, .slice xz t.zone.length yz, .slice xh t.hints.length yh, .slice none 0 0, .int .i64 0, .int .i64 0, .int .i64 0, .int .i64 0, .slice none 0 0] 61) := block_setAt (unhide V) 6 _
 generalize w4.setCell ⟨w.heap.size + 1 + 1, 6, none⟩ (.slice xh t.hints.length yh) = x4 at *
 replace V := hide V4
 replace bb := u4.below bb (by omega)
 replace KK := hide (u4.kept (unhide KK) (by omega))
 replace RR := hide (u4.kept (unhide RR) (by omega))
 replace O1 := hide ((unhide O1).outside u4 (by omega))
 replace O2 := hide ((unhide O2).outside u4 (by omega))
 replace O3 := hide ((unhide O3).outside u4 (by omega))
 replace O4 := hide ((unhide O4).outside u4 (by omega))
 have s4 := u4.size
 clear V4 u4
 refine (toIntS_any ar cr t.servers _ ((unhide HI).below bb).servers (unhide HS).servers).mono ?_
 rintro e w5 ⟨vr, rfl, o5, b5⟩
 obtain ⟨xr, yr, rfl, _⟩ := o5.lies
 replace bb := below_next bb b5
 replace KK := hide (block_kept b5 (unhide KK))
 replace RR := hide (block_kept b5 (unhide RR))
 replace V := hide (block_kept b5 (unhide V))
 replace O1 := hide ((unhide O1).below b5)
 replace O2 := hide ((unhide O2).below b5)
 replace O3 := hide ((unhide O3).below b5)
 replace O4 := hide ((unhide O4).below b5)
 have O5 := hide o5.here
 have z5 := b5.size
 clear o5 b5
 obtain ⟨d0, d1, d2, d3, d4, d5, d6, d7, d8, d9, d10, d11, d12⟩ := cells13 (unhide KK)
 obtain ⟨f0, f1, f2, f3, f4, f5, f6, f7, f8, f9, f10, f11, f12⟩ := cells13 (unhide V)
 obtain ⟨g0, g1, g2, g3, g4, g5, g6, g7, g8, g9, g10, g11, g12⟩ := frozen13 (unhide V)
 go_wp2_with fail
 clear d0 d1 d2 d3 d4 d5 d6 d7 d8 d9 d10 d11 d12 f0 f1 f2 f3 f4 f5 f6 f7 f8 f9 f10 f11 f12 g0 g1 g2 g3 g4 g5 g6 g7 g8 g9 g10 g11 g12
 obtain ⟨V5, u5⟩ := setsrv_is (c7 := .slice xr t.servers.length yr) (c8 := .int .i64 t.turn) (c9 := .int .i64 t.sends) (c10 := .int .i64 t.steps) (c11 := .int .i64 t.code) (unhide V)
 unfold setsrv at V5 u5
 generalize ((((w5.setCell ⟨w.heap.size + 1 + 1, 7, none⟩ (.slice xr t.servers.length yr)).setCell ⟨w.heap.size + 1 + 1, 8, none⟩ (.int .i64 t.turn)).setCell ⟨w.heap.size + 1 + 1, 9, none⟩ (.int .i64 t.sends)).setCell ⟨w.heap.size + 1 + 1, 10, none⟩ (.int .i64 t.steps)).setCell ⟨w.heap.size + 1 + 1, 11, none⟩ (.int .i64 t.code) = x5 at *
 replace V := hide V5
 replace bb := u5.below bb (by omega)
 replace KK := hide (u5.kept (unhide KK) (by omega))
 replace RR := hide (u5.kept (unhide RR) (by omega))
 replace O1 := hide ((unhide O1).outside u5 (by omega))
 replace O2 := hide ((unhide O2).outside u5 (by omega))
 replace O3 := hide ((unhide O3).outside u5 (by omega))
 replace O4 := hide ((unhide O4).outside u5 (by omega))
 replace O5 := hide ((unhide O5).outside u5 (by omega))
 have s5 := u5.size
 clear V5 u5
 refine (toRrS_own aa ca t.ans _ ((unhide HI).below bb).ans (unhide HS).ans (unhide HS).anss).mono ?_
 rintro e w6 ⟨va, rfl, o6, b6⟩
 obtain ⟨xa, ya, rfl, _⟩ := o6.form
 replace bb := below_next bb b6
 replace KK := hide (block_kept b6 (unhide KK))
 replace RR := hide (block_kept b6 (unhide RR))
 replace V := hide (block_kept b6 (unhide V))
 replace O1 := hide ((unhide O1).below b6)
 replace O2 := hide ((unhide O2).below b6)
 replace O3 := hide ((unhide O3).below b6)
 replace O4 := hide ((unhide O4).below b6)
 replace O5 := hide ((unhide O5).below b6)
 have O6 := hide o6
 have z6 := b6.size
 clear o6 b6
 obtain ⟨d0, d1, d2, d3, d4, d5, d6, d7, d8, d9, d10, d11, d12⟩ := cells13 (unhide KK)
 obtain ⟨f0, f1, f2, f3, f4, f5, f6, f7, f8, f9, f10, f11, f12⟩ := cells13 (unhide V)
 obtain ⟨g0, g1, g2, g3, g4, g5, g6, g7, g8, g9, g10, g11, g12⟩ := frozen13 (unhide V)
 obtain ⟨p0, p1, p2, p3, p4, p5, p6, p7, p8, p9, p10, p11, p12⟩ := cells13 (unhide RR)
 obtain ⟨q0, q1, q2, q3, q4, q5, q6, q7, q8, q9, q10, q11, q12⟩ := frozen13 (unhide RR)
 go_wp2_with fail
 clear d0 d1 d2 d3 d4 d5 d6 d7 d8 d9 d10 d11 d12 f0 f1 f2 f3 f4 f5 f6 f7 f8 f9 f10 f11 f12 g0 g1 g2 g3 g4 g5 g6 g7 g8 g9 g10 g11 g12 p0 p1 p2 p3 p4 p5 p6 p7 p8 p9 p10 p11 p12 q0 q1 q2 q3 q4 q5 q6 q7 q8 q9 q10 q11 q12
 have u7 := (outside_set w6 (w.heap.size + 1 + 1) 12 (.slice xa t.ans.length ya)).wide (B' := w.heap.size + 1) (E' := w.heap.size + 3) (by omega) (by omega)
 have R7 := block_other (unhide RR) (b' := w.heap.size + 1 + 1) (by omega) 12 (.slice xa t.ans.length ya)
 generalize w6.setCell ⟨w.heap.size + 1 + 1, 12, none⟩ (.slice xa t.ans.length ya) = x7 at *
 obtain ⟨R8, u8⟩ := set13_is (c0 := .int .i64 t.state) (c1 := .int .i64 t.id) (c2 := .slice xf t.fst.name.length yf) (c3 := .int .i64 t.fst.type) (c4 := .slice xn t.name.length yn) (c5 := .slice xz t.zone.length yz) (c6 := .slice xh t.hints.length yh) (c7 := .slice xr t.servers.length yr) (c8 := .int .i64 t.turn) (c9 := .int .i64 t.sends) (c10 := .int .i64 t.steps) (c11 := .int .i64 t.code) (c12 := .slice xa t.ans.length ya) R7
 have u9 := u7.trans (u8.wide (B' := w.heap.size + 1) (E' := w.heap.size + 3) (by omega) (by omega))
 have z9 := u9.size
 unfold set13 at R8 u9 z9
 refine bodyPost_ret (results_cell_row rfl _ _ (w.heap.size + 1) 61 #[.int .i64 t.state, .int .i64 t.id, .slice xf t.fst.name.length yf, .int .i64 t.fst.type, .slice xn t.name.length yn, .slice xz t.zone.length yz, .slice xh t.hints.length yh, .slice xr t.servers.length yr, .int .i64 t.turn, .int .i64 t.sends, .int .i64 t.steps, .int .i64 t.code, .slice xa t.ans.length ya] (0, 0) _ rfl R8 Tryz.underlying61 rfl (by kernel_rfl)) rfl ?_
 refine ⟨_, _, _, _, _, _, rfl, ⟨w1.heap.size, w2.heap.size, w3.heap.size, w4.heap.size, w5.heap.size, by omega, by omega, by omega, by omega, by omega, by omega, ?_, ?_, ?_, ?_, ?_, ?_⟩, u9.below bb (by omega)⟩
 ·exact ((unhide O1).outside u9 (.inr (by omega))).wide (by omega) (by omega)
 ·exact ((unhide O2).outside u9 (.inr (by omega))).wide (by omega) (by omega)
 ·exact ((unhide O3).outside u9 (.inr (by omega))).wide (by omega) (by omega)
 ·exact ((unhide O4).outside u9 (.inr (by omega))).wide (by omega) (by omega)
 ·exact ((unhide O5).outside u9 (.inr (by omega))).wide (by omega) (by omega)
 ·exact ((unhide O6).outside u9 (.inr (by omega))).wide (by omega) (by omega)

set_option maxHeartbeats 1000000 in
set_option maxRecDepth 100000 in
theorem eqTask_has {vf vn vz vh vr va wf wn wz wh wr wa : Value} {t : Tk} {w : World} (h : HasTk w vf vn vz vh vr va t) (h' : HasTk w wf wn wz wh wr wa t) (hs : SizeTk 2097152 t) :
  Calls Tryz.prog 20 #[.agg #[.int .i64 t.state, .int .i64 t.id, vf, .int .i64 t.fst.type, vn, vz, vh, vr, .int .i64 t.turn, .int .i64 t.sends, .int .i64 t.steps, .int .i64 t.code, va], .agg #[.int .i64 t.state, .int .i64 t.id, wf, .int .i64 t.fst.type, wn, wz, wh, wr, .int .i64 t.turn, .int .i64 t.sends, .int .i64 t.steps, .int .i64 t.code, wa]] w fun e w' => e = .returned (.bool true) ∧ Below w.heap.size w w' := by
 obtain ⟨xf, yf, rfl, _⟩ := h.fst.form
 obtain ⟨uf, tf, rfl, _⟩ := h'.fst.form
 obtain ⟨xn, yn, rfl, _⟩ := h.name.form
 obtain ⟨un, tn, rfl, _⟩ := h'.name.form
 obtain ⟨xz, yz, rfl, _⟩ := h.zone.form
 obtain ⟨uz, tz, rfl, _⟩ := h'.zone.form
 obtain ⟨xh, yh, rfl, _⟩ := h.hints.form
 obtain ⟨uh, th, rfl, _⟩ := h'.hints.form
 obtain ⟨xr, yr, rfl, _⟩ := h.servers.form
 obtain ⟨ur, tr, rfl, _⟩ := h'.servers.form
 obtain ⟨xa, ya, rfl, _⟩ := h.ans.form
 obtain ⟨ua, ta, rfl, _⟩ := h'.ans.form
 have b0 := below2 w (.cells #[.int .i64 t.state, .int .i64 t.id, .slice xf t.fst.name.length yf, .int .i64 t.fst.type, .slice xn t.name.length yn, .slice xz t.zone.length yz, .slice xh t.hints.length yh, .slice xr t.servers.length yr, .int .i64 t.turn, .int .i64 t.sends, .int .i64 t.steps, .int .i64 t.code, .slice xa t.ans.length ya] 61) (.cells #[.int .i64 t.state, .int .i64 t.id, .slice uf t.fst.name.length tf, .int .i64 t.fst.type, .slice un t.name.length tn, .slice uz t.zone.length tz, .slice uh t.hints.length th, .slice ur t.servers.length tr, .int .i64 t.turn, .int .i64 t.sends, .int .i64 t.steps, .int .i64 t.code, .slice ua t.ans.length ta] 61)
 obtain ⟨hsz, k0, x0⟩ := box2 w (.cells #[.int .i64 t.state, .int .i64 t.id, .slice xf t.fst.name.length yf, .int .i64 t.fst.type, .slice xn t.name.length yn, .slice xz t.zone.length yz, .slice xh t.hints.length yh, .slice xr t.servers.length yr, .int .i64 t.turn, .int .i64 t.sends, .int .i64 t.steps, .int .i64 t.code, .slice xa t.ans.length ya] 61) #[.int .i64 t.state, .int .i64 t.id, .slice uf t.fst.name.length tf, .int .i64 t.fst.type, .slice un t.name.length tn, .slice uz t.zone.length tz, .slice uh t.hints.length th, .slice ur t.servers.length tr, .int .i64 t.turn, .int .i64 t.sends, .int .i64 t.steps, .int .i64 t.code, .slice ua t.ans.length ta] 61
 have H := hide (h.below b0)
 have H' := hide (h'.below b0)
 have HS := hide hs
 have KK := hide k0
 have XX := hide x0
 obtain ⟨d0, d1, d2, d3, d4, d5, d6, d7, d8, d9, d10, d11, d12⟩ := cells13 k0
 obtain ⟨f0, f1, f2, f3, f4, f5, f6, f7, f8, f9, f10, f11, f12⟩ := cells13 x0
 clear h h' hs k0 x0 hsz
 go_enter Tryz.func20, Tryz.ntmps20
 go_wp2_with fail
 clear d0 d1 d2 d3 d4 d5 d6 d7 d8 d9 d10 d11 d12 f0 f1 f2 f3 f4 f5 f6 f7 f8 f9 f10 f11 f12
 generalize (w.alloc (.cells #[.int .i64 t.state, .int .i64 t.id, .slice xf t.fst.name.length yf, .int .i64 t.fst.type, .slice xn t.name.length yn, .slice xz t.zone.length yz, .slice xh t.hints.length yh, .slice xr t.servers.length yr, .int .i64 t.turn, .int .i64 t.sends, .int .i64 t.steps, .int .i64 t.code, .slice xa t.ans.length ya] 61)).alloc (.cells #[.int .i64 t.state, .int .i64 t.id, .slice uf t.fst.name.length tf, .int .i64 t.fst.type, .slice un t.name.length tn, .slice uz t.zone.length tz, .slice uh t.hints.length th, .slice ur t.servers.length tr, .int .i64 t.turn, .int .i64 t.sends, .int .i64 t.steps, .int .i64 t.code, .slice ua t.ans.length ta] 61) = W at *
 refine (eqQuestion_has (unhide H).fst (unhide H').fst (unhide HS).fst).mono ?_
 rintro e w1 ⟨rfl, b1⟩
 replace b0 := below_next b0 b1
 replace H := hide ((unhide H).below b1)
 replace H' := hide ((unhide H').below b1)
 replace KK := hide (block_kept b1 (unhide KK))
 replace XX := hide (block_kept b1 (unhide XX))
 clear b1
 obtain ⟨d0, d1, d2, d3, d4, d5, d6, d7, d8, d9, d10, d11, d12⟩ := cells13 (unhide KK)
 obtain ⟨f0, f1, f2, f3, f4, f5, f6, f7, f8, f9, f10, f11, f12⟩ := cells13 (unhide XX)
 go_wp2_with fail
 clear d0 d1 d2 d3 d4 d5 d6 d7 d8 d9 d10 d11 d12 f0 f1 f2 f3 f4 f5 f6 f7 f8 f9 f10 f11 f12
 refine (eqName_has (unhide H).name (unhide H').name (unhide HS).names).mono ?_
 rintro e w2 ⟨rfl, b2⟩
 replace b0 := below_next b0 b2
 replace H := hide ((unhide H).below b2)
 replace H' := hide ((unhide H').below b2)
 replace KK := hide (block_kept b2 (unhide KK))
 replace XX := hide (block_kept b2 (unhide XX))
 clear b2
 obtain ⟨d0, d1, d2, d3, d4, d5, d6, d7, d8, d9, d10, d11, d12⟩ := cells13 (unhide KK)
 obtain ⟨f0, f1, f2, f3, f4, f5, f6, f7, f8, f9, f10, f11, f12⟩ := cells13 (unhide XX)
 go_wp2_with fail
 clear d0 d1 d2 d3 d4 d5 d6 d7 d8 d9 d10 d11 d12 f0 f1 f2 f3 f4 f5 f6 f7 f8 f9 f10 f11 f12
 refine (eqName_has (unhide H).zone (unhide H').zone (unhide HS).zones).mono ?_
 rintro e w3 ⟨rfl, b3⟩
 replace b0 := below_next b0 b3
 replace H := hide ((unhide H).below b3)
 replace H' := hide ((unhide H').below b3)
 replace KK := hide (block_kept b3 (unhide KK))
 replace XX := hide (block_kept b3 (unhide XX))
 clear b3
 obtain ⟨d0, d1, d2, d3, d4, d5, d6, d7, d8, d9, d10, d11, d12⟩ := cells13 (unhide KK)
 obtain ⟨f0, f1, f2, f3, f4, f5, f6, f7, f8, f9, f10, f11, f12⟩ := cells13 (unhide XX)
 go_wp2_with fail
 clear d0 d1 d2 d3 d4 d5 d6 d7 d8 d9 d10 d11 d12 f0 f1 f2 f3 f4 f5 f6 f7 f8 f9 f10 f11 f12
 refine (eqIntS_has (unhide H).hints (unhide H').hints (unhide HS).hints).mono ?_
 rintro e w4 ⟨rfl, m4, hm4⟩
 have b4 : Below w3.heap.size w3 w4 := by rw [hm4]; exact below_draws m4
 clear hm4
 replace b0 := below_next b0 b4
 replace H := hide ((unhide H).below b4)
 replace H' := hide ((unhide H').below b4)
 replace KK := hide (block_kept b4 (unhide KK))
 replace XX := hide (block_kept b4 (unhide XX))
 clear b4
 obtain ⟨d0, d1, d2, d3, d4, d5, d6, d7, d8, d9, d10, d11, d12⟩ := cells13 (unhide KK)
 obtain ⟨f0, f1, f2, f3, f4, f5, f6, f7, f8, f9, f10, f11, f12⟩ := cells13 (unhide XX)
 go_wp2_with fail
 clear d0 d1 d2 d3 d4 d5 d6 d7 d8 d9 d10 d11 d12 f0 f1 f2 f3 f4 f5 f6 f7 f8 f9 f10 f11 f12
 refine (eqIntS_has (unhide H).servers (unhide H').servers (unhide HS).servers).mono ?_
 rintro e w5 ⟨rfl, m5, hm5⟩
 have b5 : Below w4.heap.size w4 w5 := by rw [hm5]; exact below_draws m5
 clear hm5
 replace b0 := below_next b0 b5
 replace H := hide ((unhide H).below b5)
 replace H' := hide ((unhide H').below b5)
 replace KK := hide (block_kept b5 (unhide KK))
 replace XX := hide (block_kept b5 (unhide XX))
 clear b5
 obtain ⟨d0, d1, d2, d3, d4, d5, d6, d7, d8, d9, d10, d11, d12⟩ := cells13 (unhide KK)
 obtain ⟨f0, f1, f2, f3, f4, f5, f6, f7, f8, f9, f10, f11, f12⟩ := cells13 (unhide XX)
 go_wp2_with fail
 clear d0 d1 d2 d3 d4 d5 d6 d7 d8 d9 d10 d11 d12 f0 f1 f2 f3 f4 f5 f6 f7 f8 f9 f10 f11 f12
 refine (eqRrS_has (unhide H).ans (unhide H').ans (unhide HS).anss).mono ?_
 rintro e w6 ⟨rfl, b6⟩
 replace b0 := below_next b0 b6
 replace H := hide ((unhide H).below b6)
 replace H' := hide ((unhide H').below b6)
 replace KK := hide (block_kept b6 (unhide KK))
 replace XX := hide (block_kept b6 (unhide XX))
 clear b6
 go_wp2_with fail
 go_ret
 exact ⟨rfl, b0⟩
end Go.Proofs.YtjgfljndeolmoaaGreat
