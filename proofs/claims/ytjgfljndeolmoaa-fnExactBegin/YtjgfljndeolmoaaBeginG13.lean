/-
  Contracts of the helpers of the laws for questions. Contract of a helper of the laws: rows of records that are made of what came in, and own their memory (toRrS). Contracts of the helpers of the laws for tasks (szTask, toTask, eqTask). Plain facts: a record's data as bytes. No program is named here. Plain facts: what DataPut and RrPut answer. No program is named here. Plain facts: which messages may be, and their bytes. No program is named here.
-/
import Derived.Test.YtjgfljndeolmoaaBeginG09
import Derived.Test.YtjgfljndeolmoaaBeginG12
import Derived.Test.YtjgfljndeolmoaaBeginG11
import Derived.Test.YtjgfljndeolmoaaBeginG03
import Derived.Test.YtjgfljndeolmoaaBeginG07
import Derived.Test.YtjgfljndeolmoaaBeginG10
import Derived.Test.YtjgfljndeolmoaaBeginG08
namespace Go.Proofs.Ytjgfljndeolmoaa
open Go.RowKit
set_option linter.unusedVariables false


set_option maxHeartbeats 1000000 in
set_option maxRecDepth 100000 in
theorem szQuestion_any (a : Option Addr) (c : Nat) (q : Que) (left : Int) (w : World) (h : LiesL w a q.name) (hm : SizeQu maxLen q) (h0 : 0 ≤ left) (h1 : left ≤ 1048576) :
  Calls Try.prog 27 #[.agg #[.slice a q.name.length c, .int .i64 q.type], .int .i64 left] w fun e w' => (∃ y : Int, e = .returned (.int .i64 y) ∧ -1 ≤ y ∧ y ≤ left ∧ (0 ≤ y → SizeQu left.toNat q)) ∧ Below w.heap.size w w' := by
 have b0 := below_alloc (w := w) (.cells #[.slice a q.name.length c, .int .i64 q.type] 39)
 have HC := hide (szName_any a c q.name left _ (h.below b0) hm.name hm.names h0 h1)
 clear h hm
 go_enter Try.func27, Try.ntmps27
 go_wp2_with fail
 generalize w.alloc (.cells #[.slice a q.name.length c, .int .i64 q.type] 39) = W at *
 refine (unhide HC).mono ?_
 rintro e w1 ⟨⟨y1, rfl, ya1, yb1, yc1⟩, b1⟩
 have bb1 := below_next b0 b1
 have Y1 := hide yc1
 clear yc1 b0 b1 HC
 by_cases n1 : y1 < 0
 ·go_wp2
  go_ret
  exact ⟨⟨-1, rfl, by omega, by omega, fun q => by omega⟩, bb1⟩
 go_wp2
 go_ret
 have p1 := unhide Y1 (by omega)
 exact ⟨⟨y1, rfl, by omega, by omega, fun _ => ⟨by omega, fun i hi => by have := p1.2 i hi; omega⟩⟩, bb1⟩

set_option maxHeartbeats 1000000 in
set_option maxRecDepth 100000 in
theorem toQuestion_any (a : Option Addr) (c : Nat) (q : Que) (w : World) (h : LiesL w a q.name) (hs : SizeQu 1048576 q) :
  Calls Try.prog 29 #[.agg #[.slice a q.name.length c, .int .i64 q.type]] w fun e w' => ∃ v, e = .returned (.agg #[v, .int .i64 q.type]) ∧ OwnN w.heap.size w'.heap.size 22 5 w' v q.name ∧ Below w.heap.size w w' := by
 obtain ⟨hsz, r0, v0⟩ := box3 w (.cells #[.slice a q.name.length c, .int .i64 q.type] 39) #[.slice none 0 0, .int .i64 0] #[.slice none 0 0, .int .i64 0] 46 46
 have b0 : Below w.heap.size w (((w.alloc (.cells #[.slice a q.name.length c, .int .i64 q.type] 39)).alloc (.cells #[.slice none 0 0, .int .i64 0] 46)).alloc (.cells #[.slice none 0 0, .int .i64 0] 46)) := ((below_alloc _).alloc (below_alloc _).size _).alloc ((below_alloc _).alloc (below_alloc _).size _).size _
 have k0 : (((w.alloc (.cells #[.slice a q.name.length c, .int .i64 q.type] 39)).alloc (.cells #[.slice none 0 0, .int .i64 0] 46)).alloc (.cells #[.slice none 0 0, .int .i64 0] 46)).heap[w.heap.size]? = some (.cells #[.slice a q.name.length c, .int .i64 q.type] 39) := block_kept (below_alloc _) (block_kept (below_alloc _) (heap_alloc_new w _))
 have HC := hide (toName_any a c q.name _ (h.below b0) hs.name hs.names)
 have K0 := hide k0
 have R0 := hide r0
 have V0 := hide v0
 have zv := block_lt v0
 clear h hs k0 r0 v0 hsz
 go_enter Try.func29, Try.ntmps29
 go_wp2_with fail
 generalize (((w.alloc (.cells #[.slice a q.name.length c, .int .i64 q.type] 39)).alloc (.cells #[.slice none 0 0, .int .i64 0] 46)).alloc (.cells #[.slice none 0 0, .int .i64 0] 46)) = W at *
 refine (unhide HC).mono ?_
 rintro e w1 ⟨v1, rfl, o1, b1⟩
 obtain ⟨n1, m1, rfl, _⟩ := o1.hasL.form
 have bb1 := below_next b0 b1
 have K1 := block_kept b1 (unhide K0)
 have R1 := block_kept b1 (unhide R0)
 have V1 := block_kept b1 (unhide V0)
 have O1 := hide o1.here
 have z1 := b1.size
 obtain ⟨d0, d1⟩ := cells2 K1
 obtain ⟨f0, f1⟩ := cells2 V1
 obtain ⟨g0, g1⟩ := frozen2 V1
 obtain ⟨p0, p1⟩ := cells2 R1
 obtain ⟨q0, q1⟩ := frozen2 R1
 clear b0 K0 R0 V0 b1 o1 HC
 go_wp2_with fail
 clear d0 d1 f0 f1 g0 g1 p0 p1 q0 q1
 have V2 : ((w1.setCell ⟨w.heap.size + 1 + 1, 0, none⟩ (.slice n1 q.name.length m1)).setCell ⟨w.heap.size + 1 + 1, 1, none⟩ (.int .i64 q.type)).heap[w.heap.size + 1 + 1]? = some (.cells #[.slice n1 q.name.length m1, .int .i64 q.type] 46) := block_setAt (block_setAt V1 0 _) 1 _
 have u2 := ((outside_set w1 (w.heap.size + 1 + 1) 0 (.slice n1 q.name.length m1)).trans (outside_set _ (w.heap.size + 1 + 1) 1 (.int .i64 q.type))).wide (B' := w.heap.size + 1) (E' := w.heap.size + 3) (by omega) (by omega)
 have R2 := block_other (block_other R1 (b' := w.heap.size + 1 + 1) (by omega) 0 (.slice n1 q.name.length m1)) (b' := w.heap.size + 1 + 1) (by omega) 1 (.int .i64 q.type)
 generalize (w1.setCell ⟨w.heap.size + 1 + 1, 0, none⟩ (.slice n1 q.name.length m1)).setCell ⟨w.heap.size + 1 + 1, 1, none⟩ (.int .i64 q.type) = w4 at *
 have R5 : ((w4.setCell ⟨w.heap.size + 1, 0, none⟩ (.slice n1 q.name.length m1)).setCell ⟨w.heap.size + 1, 1, none⟩ (.int .i64 q.type)).heap[w.heap.size + 1]? = some (.cells #[.slice n1 q.name.length m1, .int .i64 q.type] 46) := block_setAt (block_setAt R2 0 _) 1 _
 have u5 := ((outside_set w4 (w.heap.size + 1) 0 (.slice n1 q.name.length m1)).trans (outside_set _ (w.heap.size + 1) 1 (.int .i64 q.type))).wide (B' := w.heap.size + 1) (E' := w.heap.size + 3) (by omega) (by omega)
 refine bodyPost_ret (results_cell_row rfl _ _ (w.heap.size + 1) 46 #[.slice n1 q.name.length m1, .int .i64 q.type] (0, 0) _ rfl R5 Try.underlying46 rfl (by kernel_rfl)) rfl ?_
 have u6 := u2.trans u5
 have z6 := u6.size
 exact ⟨_, rfl, ((unhide O1).outside u6 (by omega)).wide (by omega) (by omega), u6.below bb1 (by omega)⟩

set_option maxHeartbeats 1000000 in
set_option maxRecDepth 100000 in
theorem eqQuestion_has {v v' : Value} {q : Que} {w : World} (h : HasL w v q.name) (h' : HasL w v' q.name) (hs : SizeQu 2097152 q) :
  Calls Try.prog 32 #[.agg #[v, .int .i64 q.type], .agg #[v', .int .i64 q.type]] w fun e w' => e = .returned (.bool true) ∧ Below w.heap.size w w' := by
 obtain ⟨oa, oc, rfl, _⟩ := h.form
 obtain ⟨oa', oc', rfl, _⟩ := h'.form
 have b0 := below2 w (.cells #[.slice oa q.name.length oc, .int .i64 q.type] 46) (.cells #[.slice oa' q.name.length oc', .int .i64 q.type] 46)
 obtain ⟨hsz, k0, x0⟩ := box2 w (.cells #[.slice oa q.name.length oc, .int .i64 q.type] 46) #[.slice oa' q.name.length oc', .int .i64 q.type] 46
 have HC := hide (eqName_has (h.below b0) (h'.below b0) hs.names)
 have K0 := hide k0
 have X0 := hide x0
 clear h h' hs k0 x0 hsz
 go_enter Try.func32, Try.ntmps32
 go_wp2_with fail
 generalize (w.alloc (.cells #[.slice oa q.name.length oc, .int .i64 q.type] 46)).alloc (.cells #[.slice oa' q.name.length oc', .int .i64 q.type] 46) = W at *
 refine (unhide HC).mono ?_
 rintro e w1 ⟨rfl, b1⟩
 have bb1 := below_next b0 b1
 obtain ⟨d0, d1⟩ := cells2 (block_kept b1 (unhide K0))
 obtain ⟨f0, f1⟩ := cells2 (block_kept b1 (unhide X0))
 clear b0 K0 X0 b1 HC
 go_wp2_with fail
 go_ret
 exact ⟨rfl, bb1⟩
end Go.Proofs.Ytjgfljndeolmoaa

namespace Go.Proofs.Ytjgfljndeolmoaa
open Go.RowKit
set_option linter.unusedVariables false

end Go.Proofs.Ytjgfljndeolmoaa

namespace Go.Proofs.Ytjgfljndeolmoaa
open Go.RowKit
set_option linter.unusedVariables false

/-- The slices of a task own its lists, in blocks of B .. E - 1. -/
def OwnTk (B E : Nat) (w : World) (vf vn vz vh vr va : Value) (t : Tk) : Prop := ∃ s1 s2 s3 s4 s5, B ≤ s1 ∧ s1 ≤ s2 ∧ s2 ≤ s3 ∧ s3 ≤ s4 ∧ s4 ≤ s5 ∧ s5 ≤ E ∧ OwnN B s1 22 5 w vf t.fst.name ∧ OwnN s1 s2 22 5 w vn t.name ∧ OwnN s2 s3 22 5 w vz t.zone ∧ OwnBI s3 s4 3 w vh t.hints ∧ OwnBI s4 s5 3 w vr t.servers ∧ RowO s5 E 34 22 5 3 w va t.ans
theorem OwnTk.below {B E : Nat} {w w' : World} {vf vn vz vh vr va : Value} {t : Tk} (h : OwnTk B E w vf vn vz vh vr va t) (hb : Below w.heap.size w w') : OwnTk B E w' vf vn vz vh vr va t := by
 obtain ⟨s1, s2, s3, s4, s5, a1, a2, a3, a4, a5, a6, h1, h2, h3, h4, h5, h6⟩ := h
 exact ⟨s1, s2, s3, s4, s5, a1, a2, a3, a4, a5, a6, h1.below hb, h2.below hb, h3.below hb, h4.below hb, h5.below hb, h6.below hb⟩
theorem OwnTk.outside {B E C D : Nat} {w w' : World} {vf vn vz vh vr va : Value} {t : Tk} (h : OwnTk B E w vf vn vz vh vr va t) (u : Outside C D w w') (hd : E ≤ C ∨ D ≤ B) : OwnTk B E w' vf vn vz vh vr va t := by
 obtain ⟨s1, s2, s3, s4, s5, a1, a2, a3, a4, a5, a6, h1, h2, h3, h4, h5, h6⟩ := h
 exact ⟨s1, s2, s3, s4, s5, a1, a2, a3, a4, a5, a6, h1.outside u (by omega), h2.outside u (by omega), h3.outside u (by omega), h4.outside u (by omega), h5.outside u (by omega), h6.outside u (by omega)⟩
theorem OwnTk.has {B E : Nat} {w : World} {vf vn vz vh vr va : Value} {t : Tk} (h : OwnTk B E w vf vn vz vh vr va t) : HasTk w vf vn vz vh vr va t := by
 obtain ⟨s1, s2, s3, s4, s5, a1, a2, a3, a4, a5, a6, h1, h2, h3, h4, h5, h6⟩ := h
 exact ⟨h1.hasL, h2.hasL, h3.hasL, h4.has, h5.has, h6.has⟩

set_option maxHeartbeats 1000000 in
set_option maxRecDepth 100000 in
theorem eqTask_has {vf vn vz vh vr va wf wn wz wh wr wa : Value} {t : Tk} {w : World} (h : HasTk w vf vn vz vh vr va t) (h' : HasTk w wf wn wz wh wr wa t) (hs : SizeTk 2097152 t) :
  Calls Try.prog 16 #[.agg #[.int .i64 t.state, .int .i64 t.id, vf, .int .i64 t.fst.type, vn, vz, vh, vr, .int .i64 t.turn, .int .i64 t.sends, .int .i64 t.steps, .int .i64 t.code, va], .agg #[.int .i64 t.state, .int .i64 t.id, wf, .int .i64 t.fst.type, wn, wz, wh, wr, .int .i64 t.turn, .int .i64 t.sends, .int .i64 t.steps, .int .i64 t.code, wa]] w fun e w' => e = .returned (.bool true) ∧ Below w.heap.size w w' := by
 obtain ⟨xf, yf, rfl, _⟩ := h.fst.form
 obtain ⟨uf, tf, rfl, _⟩ := h'.fst.form
 obtain ⟨xn, yn, rfl, _⟩ := h.name.form
 obtain ⟨un, tn, rfl, _⟩ := h'.name.form
 obtain ⟨xz, yz, rfl, _⟩ := h.zone.form
 obtain ⟨uz, tz, rfl, _⟩ := h'.zone.form
 obtain ⟨xh, yh, rfl, _⟩ := h.hints.form
 obtain ⟨uh, th, rfl, _⟩ := h'.hints.form
 obtain ⟨xr, yr, rfl, _⟩ := h.servers.form
 obtain ⟨ur, tr, rfl, _⟩ := h'.servers.form
 obtain ⟨xa, ya, rfl, _⟩ := h.ans.form
 obtain ⟨ua, ta, rfl, _⟩ := h'.ans.form
 have b0 := below2 w (.cells #[.int .i64 t.state, .int .i64 t.id, .slice xf t.fst.name.length yf, .int .i64 t.fst.type, .slice xn t.name.length yn, .slice xz t.zone.length yz, .slice xh t.hints.length yh, .slice xr t.servers.length yr, .int .i64 t.turn, .int .i64 t.sends, .int .i64 t.steps, .int .i64 t.code, .slice xa t.ans.length ya] 48) (.cells #[.int .i64 t.state, .int .i64 t.id, .slice uf t.fst.name.length tf, .int .i64 t.fst.type, .slice un t.name.length tn, .slice uz t.zone.length tz, .slice uh t.hints.length th, .slice ur t.servers.length tr, .int .i64 t.turn, .int .i64 t.sends, .int .i64 t.steps, .int .i64 t.code, .slice ua t.ans.length ta] 48)
 obtain ⟨hsz, k0, x0⟩ := box2 w (.cells #[.int .i64 t.state, .int .i64 t.id, .slice xf t.fst.name.length yf, .int .i64 t.fst.type, .slice xn t.name.length yn, .slice xz t.zone.length yz, .slice xh t.hints.length yh, .slice xr t.servers.length yr, .int .i64 t.turn, .int .i64 t.sends, .int .i64 t.steps, .int .i64 t.code, .slice xa t.ans.length ya] 48) #[.int .i64 t.state, .int .i64 t.id, .slice uf t.fst.name.length tf, .int .i64 t.fst.type, .slice un t.name.length tn, .slice uz t.zone.length tz, .slice uh t.hints.length th, .slice ur t.servers.length tr, .int .i64 t.turn, .int .i64 t.sends, .int .i64 t.steps, .int .i64 t.code, .slice ua t.ans.length ta] 48
 have H := hide (h.below b0)
 have H' := hide (h'.below b0)
 have HS := hide hs
 have KK := hide k0
 have XX := hide x0
 obtain ⟨d0, d1, d2, d3, d4, d5, d6, d7, d8, d9, d10, d11, d12⟩ := cells13 k0
 obtain ⟨f0, f1, f2, f3, f4, f5, f6, f7, f8, f9, f10, f11, f12⟩ := cells13 x0
 clear h h' hs k0 x0 hsz
 go_enter Try.func16, Try.ntmps16
 go_wp2_with fail
 clear d0 d1 d2 d3 d4 d5 d6 d7 d8 d9 d10 d11 d12 f0 f1 f2 f3 f4 f5 f6 f7 f8 f9 f10 f11 f12
 generalize (w.alloc (.cells #[.int .i64 t.state, .int .i64 t.id, .slice xf t.fst.name.length yf, .int .i64 t.fst.type, .slice xn t.name.length yn, .slice xz t.zone.length yz, .slice xh t.hints.length yh, .slice xr t.servers.length yr, .int .i64 t.turn, .int .i64 t.sends, .int .i64 t.steps, .int .i64 t.code, .slice xa t.ans.length ya] 48)).alloc (.cells #[.int .i64 t.state, .int .i64 t.id, .slice uf t.fst.name.length tf, .int .i64 t.fst.type, .slice un t.name.length tn, .slice uz t.zone.length tz, .slice uh t.hints.length th, .slice ur t.servers.length tr, .int .i64 t.turn, .int .i64 t.sends, .int .i64 t.steps, .int .i64 t.code, .slice ua t.ans.length ta] 48) = W at *
 refine (eqQuestion_has (unhide H).fst (unhide H').fst (unhide HS).fst).mono ?_
 rintro e w1 ⟨rfl, b1⟩
 replace b0 := below_next b0 b1
 replace H := hide ((unhide H).below b1)
 replace H' := hide ((unhide H').below b1)
 replace KK := hide (block_kept b1 (unhide KK))
 replace XX := hide (block_kept b1 (unhide XX))
 clear b1
 obtain ⟨d0, d1, d2, d3, d4, d5, d6, d7, d8, d9, d10, d11, d12⟩ := cells13 (unhide KK)
 obtain ⟨f0, f1, f2, f3, f4, f5, f6, f7, f8, f9, f10, f11, f12⟩ := cells13 (unhide XX)
 go_wp2_with fail
 clear d0 d1 d2 d3 d4 d5 d6 d7 d8 d9 d10 d11 d12 f0 f1 f2 f3 f4 f5 f6 f7 f8 f9 f10 f11 f12
 refine (eqName_has (unhide H).name (unhide H').name (unhide HS).names).mono ?_
 rintro e w2 ⟨rfl, b2⟩
 replace b0 := below_next b0 b2
 replace H := hide ((unhide H).below b2)
 replace H' := hide ((unhide H').below b2)
 replace KK := hide (block_kept b2 (unhide KK))
 replace XX := hide (block_kept b2 (unhide XX))
 clear b2
 obtain ⟨d0, d1, d2, d3, d4, d5, d6, d7, d8, d9, d10, d11, d12⟩ := cells13 (unhide KK)
 obtain ⟨f0, f1, f2, f3, f4, f5, f6, f7, f8, f9, f10, f11, f12⟩ := cells13 (unhide XX)
 go_wp2_with fail
 clear d0 d1 d2 d3 d4 d5 d6 d7 d8 d9 d10 d11 d12 f0 f1 f2 f3 f4 f5 f6 f7 f8 f9 f10 f11 f12
 refine (eqName_has (unhide H).zone (unhide H').zone (unhide HS).zones).mono ?_
 rintro e w3 ⟨rfl, b3⟩
 replace b0 := below_next b0 b3
 replace H := hide ((unhide H).below b3)
 replace H' := hide ((unhide H').below b3)
 replace KK := hide (block_kept b3 (unhide KK))
 replace XX := hide (block_kept b3 (unhide XX))
 clear b3
 obtain ⟨d0, d1, d2, d3, d4, d5, d6, d7, d8, d9, d10, d11, d12⟩ := cells13 (unhide KK)
 obtain ⟨f0, f1, f2, f3, f4, f5, f6, f7, f8, f9, f10, f11, f12⟩ := cells13 (unhide XX)
 go_wp2_with fail
 clear d0 d1 d2 d3 d4 d5 d6 d7 d8 d9 d10 d11 d12 f0 f1 f2 f3 f4 f5 f6 f7 f8 f9 f10 f11 f12
 refine (eqIntS_has (unhide H).hints (unhide H').hints (unhide HS).hints).mono ?_
 rintro e w4 ⟨rfl, m4, hm4⟩
 have b4 : Below w3.heap.size w3 w4 := by rw [hm4]; exact below_draws m4
 clear hm4
 replace b0 := below_next b0 b4
 replace H := hide ((unhide H).below b4)
 replace H' := hide ((unhide H').below b4)
 replace KK := hide (block_kept b4 (unhide KK))
 replace XX := hide (block_kept b4 (unhide XX))
 clear b4
 obtain ⟨d0, d1, d2, d3, d4, d5, d6, d7, d8, d9, d10, d11, d12⟩ := cells13 (unhide KK)
 obtain ⟨f0, f1, f2, f3, f4, f5, f6, f7, f8, f9, f10, f11, f12⟩ := cells13 (unhide XX)
 go_wp2_with fail
 clear d0 d1 d2 d3 d4 d5 d6 d7 d8 d9 d10 d11 d12 f0 f1 f2 f3 f4 f5 f6 f7 f8 f9 f10 f11 f12
 refine (eqIntS_has (unhide H).servers (unhide H').servers (unhide HS).servers).mono ?_
 rintro e w5 ⟨rfl, m5, hm5⟩
 have b5 : Below w4.heap.size w4 w5 := by rw [hm5]; exact below_draws m5
 clear hm5
 replace b0 := below_next b0 b5
 replace H := hide ((unhide H).below b5)
 replace H' := hide ((unhide H').below b5)
 replace KK := hide (block_kept b5 (unhide KK))
 replace XX := hide (block_kept b5 (unhide XX))
 clear b5
 obtain ⟨d0, d1, d2, d3, d4, d5, d6, d7, d8, d9, d10, d11, d12⟩ := cells13 (unhide KK)
 obtain ⟨f0, f1, f2, f3, f4, f5, f6, f7, f8, f9, f10, f11, f12⟩ := cells13 (unhide XX)
 go_wp2_with fail
 clear d0 d1 d2 d3 d4 d5 d6 d7 d8 d9 d10 d11 d12 f0 f1 f2 f3 f4 f5 f6 f7 f8 f9 f10 f11 f12
 refine (eqRrS_has (unhide H).ans (unhide H').ans (unhide HS).anss).mono ?_
 rintro e w6 ⟨rfl, b6⟩
 replace b0 := below_next b0 b6
 replace H := hide ((unhide H).below b6)
 replace H' := hide ((unhide H').below b6)
 replace KK := hide (block_kept b6 (unhide KK))
 replace XX := hide (block_kept b6 (unhide XX))
 clear b6
 go_wp2_with fail
 go_ret
 exact ⟨rfl, b0⟩
end Go.Proofs.Ytjgfljndeolmoaa

namespace Go.Proofs.Ytjgfljndeolmoaa
open Go.RowKit

/-- The data, as bytes. -/
def dataB (r : Rec) : List Int :=
 if r.type = 1 then put32 [] r.addr else if r.type = 6 then put32 (put32 (wire r.to) (r.nums.getD 0 0)) (r.nums.getD 1 0) else if named r.type = true then wire r.to else (r.text.length : Int) :: r.text

end Go.Proofs.Ytjgfljndeolmoaa

namespace Go.Proofs.Ytjgfljndeolmoaa
open Go.RowKit

end Go.Proofs.Ytjgfljndeolmoaa

namespace Go.Proofs.Ytjgfljndeolmoaa
open Go.RowKit
set_option linter.unusedVariables false

def rrsOk (l : List Rec) : Bool := decide (l.length ≤ 12) && l.all rrOk
theorem all_take {α : Type} {p : α → Bool} (l : List α) (d : α) : ∀ k, (∀ j, j < k → j < l.length → p (l.getD j d) = true) → (l.take k).all p = true := by
 intro k hk
 rw [List.all_eq_true]
 intro x hx
 obtain ⟨j, hj, e⟩ := List.getElem_of_mem hx
 rw [List.length_take] at hj
 have := hk j (by omega) (by omega)
 rw [List.getD_eq_getElem?_getD, List.getElem?_eq_getElem (by omega), Option.getD_some] at this
 rw [← e, List.getElem_take]
 exact this
theorem all_of {α : Type} {p : α → Bool} (l : List α) (d : α) (h : ∀ j, j < l.length → p (l.getD j d) = true) : l.all p = true := by
 have := all_take (p := p) l d l.length (fun j _ hj => h j hj)
 rwa [List.take_length] at this
theorem all_not {α : Type} {p : α → Bool} (l : List α) (d : α) {k : Nat} (hk : k < l.length) (h : p (l.getD k d) = false) : l.all p = false := by
 rw [List.all_eq_false]
 refine ⟨l[k], List.getElem_mem hk, ?_⟩
 rw [List.getD_eq_getElem?_getD, List.getElem?_eq_getElem hk, Option.getD_some] at h
 simp [h]
/-! Bytes. -/
end Go.Proofs.Ytjgfljndeolmoaa
