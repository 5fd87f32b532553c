/-
  Contract of the specification's l11own.
-/
import Derived.Test.YtjgfljndeolmoaaGreatLostG17
import Derived.Test.YtjgfljndeolmoaaGreatLostG37
import Derived.Test.YtjgfljndeolmoaaGreatLostG39
import Derived.Test.YtjgfljndeolmoaaGreatLostG27
import Derived.Test.YtjgfljndeolmoaaGreatLostG16
namespace Go.Proofs.YtjgfljndeolmoaaGreat
open Go.RowKit
set_option linter.unusedVariables false

theorem grown_of_outside {q : Nat} {w w' : World} (u : Outside q (q + 1) w w') : w.grownBy w' (some q) := ⟨u.os, u.tape, u.output, u.size, fun k hk hne => u.block k hk (by
 rcases Nat.lt_trichotomy k q with h | h | h
 ·exact .inl h
 ·exact absurd (by rw [h]) hne
 ·exact .inr h)⟩
/-- The slices of a task own its lists, wherever they lie in blocks of B .. E - 1. -/
structure QTk (B E : Nat) (w : World) (vf vn vz vh vr va : Value) (t : Tk) : Prop where
 fst : OwnN B E 27 5 w vf t.fst.name
 name : OwnN B E 27 5 w vn t.name
 zone : OwnN B E 27 5 w vz t.zone
 hints : OwnBI B E 3 w vh t.hints
 servers : OwnBI B E 3 w vr t.servers
 ans : RowQ B 137 27 5 3 w va t.ans
theorem QTk.has {B E : Nat} {w : World} {vf vn vz vh vr va : Value} {t : Tk} (h : QTk B E w vf vn vz vh vr va t) : HasTk w vf vn vz vh vr va t := ⟨h.fst.hasL, h.name.hasL, h.zone.hasL, h.hints.has, h.servers.has, h.ans.has⟩
theorem QTk.store {B E q : Nat} {w w' : World} {vf vn vz vh vr va : Value} {t : Tk} {c : Array Value} (h : QTk B E w vf vn vz vh vr va t) (u : Outside q (q + 1) w w') (hq : q + 1 ≤ B) (hk : w.heap[q]? = some (.cells c 61)) : QTk B E w' vf vn vz vh vr va t :=
 ⟨h.fst.outside u (.inr hq), h.name.outside u (.inr hq), h.zone.outside u (.inr hq), h.hints.outside u (.inr hq), h.servers.outside u (.inr hq), RowQ.off h.ans hk (by decide) (by decide) (by decide) (by decide) (grown_of_outside u)⟩
theorem info_intT : (Tryz.prog.info? 3).map (fun i => (i.zero, i.size, i.bytes)) = some (some (.int .i64 0), 1, 8) := by kernel_rfl
set_option maxHeartbeats 4000000 in
set_option maxRecDepth 100000 in
theorem l11own_has {vf vn vz vh vr va : Value} {t : Tk} {w : World} (h : HasTk w vf vn vz vh vr va t) (hok : taskOk t = true) :
  Calls Tryz.prog 63 #[.agg #[.int .i64 t.state, .int .i64 t.id, vf, .int .i64 t.fst.type, vn, vz, vh, vr, .int .i64 t.turn, .int .i64 t.sends, .int .i64 t.steps, .int .i64 t.code, va]] w fun e w' => ∃ uf un uz uh ur ua, e = .returned (.agg #[.int .i64 t.state, .int .i64 t.id, uf, .int .i64 t.fst.type, un, uz, uh, ur, .int .i64 t.turn, .int .i64 t.sends, .int .i64 t.steps, .int .i64 t.code, ua]) ∧ QTk w.heap.size w'.heap.size w' uf un uz uh ur ua t ∧ Below w.heap.size w w' := by
 have ⟨hp, hn1, hn2, hn3, hn4, hn5, hn6, hn7, hn8⟩ := taskOk_iff.1 hok
 have hh4 : t.hints.length ≤ 4 := by unfold serversB at hn5; simp only [Bool.and_eq_true, decide_eq_true_iff] at hn5; exact hn5.2.1
 have hr4 : t.servers.length ≤ 4 := by unfold serversB at hn6; simp only [Bool.and_eq_true, decide_eq_true_iff] at hn6; exact hn6.2.1
 obtain ⟨ha12, haok⟩ := rrsOk_parts hn7
 obtain ⟨xf, yf, rfl, _⟩ := h.fst.form
 obtain ⟨xn, yn, rfl, _⟩ := h.name.form
 obtain ⟨xz, yz, rfl, _⟩ := h.zone.form
 obtain ⟨xh, yh, rfl, _⟩ := h.hints.form
 obtain ⟨xr, yr, rfl, _⟩ := h.servers.form
 obtain ⟨xa, ya, rfl, _⟩ := h.ans.form
 obtain ⟨hsz, k0, r0⟩ := box2 w (.cells #[.int .i64 t.state, .int .i64 t.id, .slice xf t.fst.name.length yf, .int .i64 t.fst.type, .slice xn t.name.length yn, .slice xz t.zone.length yz, .slice xh t.hints.length yh, .slice xr t.servers.length yr, .int .i64 t.turn, .int .i64 t.sends, .int .i64 t.steps, .int .i64 t.code, .slice xa t.ans.length ya] 61) #[.int .i64 0, .int .i64 0, .slice none 0 0, .int .i64 0, .slice none 0 0, .slice none 0 0, .slice none 0 0, .slice none 0 0, .int .i64 0, .int .i64 0, .int .i64 0, .int .i64 0, .slice none 0 0] 61
 have bb := below2 w (.cells #[.int .i64 t.state, .int .i64 t.id, .slice xf t.fst.name.length yf, .int .i64 t.fst.type, .slice xn t.name.length yn, .slice xz t.zone.length yz, .slice xh t.hints.length yh, .slice xr t.servers.length yr, .int .i64 t.turn, .int .i64 t.sends, .int .i64 t.steps, .int .i64 t.code, .slice xa t.ans.length ya] 61) (.cells #[.int .i64 0, .int .i64 0, .slice none 0 0, .int .i64 0, .slice none 0 0, .slice none 0 0, .slice none 0 0, .slice none 0 0, .int .i64 0, .int .i64 0, .int .i64 0, .int .i64 0, .slice none 0 0] 61)
 have H0 := hide h
 have V := hide k0
 have RR := hide r0
 have zr := block_lt r0
 obtain ⟨d0, d1, d2, d3, d4, d5, d6, d7, d8, d9, d10, d11, d12⟩ := cells13 k0
 clear h k0 r0 hsz hok hp
 go_enter Tryz.func63, Tryz.ntmps63
 go_wp2_with fail
 clear d0 d1 d2 d3 d4 d5 d6 d7 d8 d9 d10 d11 d12
 generalize (w.alloc (.cells #[.int .i64 t.state, .int .i64 t.id, .slice xf t.fst.name.length yf, .int .i64 t.fst.type, .slice xn t.name.length yn, .slice xz t.zone.length yz, .slice xh t.hints.length yh, .slice xr t.servers.length yr, .int .i64 t.turn, .int .i64 t.sends, .int .i64 t.steps, .int .i64 t.code, .slice xa t.ans.length ya] 61)).alloc (.cells #[.int .i64 0, .int .i64 0, .slice none 0 0, .int .i64 0, .slice none 0 0, .slice none 0 0, .slice none 0 0, .slice none 0 0, .int .i64 0, .int .i64 0, .int .i64 0, .int .i64 0, .slice none 0 0] 61) = W at *
 refine (l2own_has ((unhide H0).below bb).fst (nameOk_parts hn1).1 (fun k hk => (labelOk_length ((nameOk_parts hn1).2 k hk)).2)).mono ?_
 rintro e w1 ⟨vf, rfl, o1, b1⟩
 obtain ⟨nf, mf, rfl, _⟩ := o1.hasL.form
 replace bb := below_next bb b1
 replace V := hide (block_kept b1 (unhide V))
 replace RR := hide (block_kept b1 (unhide RR))
 have O1 := hide o1.here
 have z1 := b1.size
 clear o1 b1
 obtain ⟨d0, d1, d2, d3, d4, d5, d6, d7, d8, d9, d10, d11, d12⟩ := cells13 (unhide V)
 obtain ⟨g0, g1, g2, g3, g4, g5, g6, g7, g8, g9, g10, g11, g12⟩ := frozen13 (unhide V)
 go_wp2_with fail
 clear d0 d1 d2 d3 d4 d5 d6 d7 d8 d9 d10 d11 d12 g0 g1 g2 g3 g4 g5 g6 g7 g8 g9 g10 g11 g12
 have u1 := outside_set w1 (w.heap.size) 2 (.slice nf t.fst.name.length mf)
 have V1 : (w1.setCell ⟨w.heap.size, 2, none⟩ (.slice nf t.fst.name.length mf)).heap[w.heap.size]? = some (.cells #[.int .i64 t.state, .int .i64 t.id, .slice nf t.fst.name.length mf, .int .i64 t.fst.type, .slice xn t.name.length yn, .slice xz t.zone.length yz, .slice xh t.hints.length yh, .slice xr t.servers.length yr, .int .i64 t.turn, .int .i64 t.sends, .int .i64 t.steps, .int .i64 t.code, .slice xa t.ans.length ya] 61) := block_setAt (unhide V) 2 _
 generalize w1.setCell ⟨w.heap.size, 2, none⟩ (.slice nf t.fst.name.length mf) = x1 at *
 replace V := hide V1
 replace bb := u1.below bb (by omega)
 replace RR := hide (u1.kept (unhide RR) (by omega))
 replace O1 := hide ((unhide O1).outside u1 (by omega))
 have s1 := u1.size
 clear V1 u1
 refine (l2own_has ((unhide H0).below bb).name (nameOk_parts hn3).1 (fun k hk => (labelOk_length ((nameOk_parts hn3).2 k hk)).2)).mono ?_
 rintro e w2 ⟨vn, rfl, o2, b2⟩
 obtain ⟨nn, mn, rfl, _⟩ := o2.hasL.form
 replace bb := below_next bb b2
 replace V := hide (block_kept b2 (unhide V))
 replace RR := hide (block_kept b2 (unhide RR))
 replace O1 := hide ((unhide O1).below b2)
 have O2 := hide o2.here
 have z2 := b2.size
 clear o2 b2
 obtain ⟨d0, d1, d2, d3, d4, d5, d6, d7, d8, d9, d10, d11, d12⟩ := cells13 (unhide V)
 obtain ⟨g0, g1, g2, g3, g4, g5, g6, g7, g8, g9, g10, g11, g12⟩ := frozen13 (unhide V)
 go_wp2_with fail
 clear d0 d1 d2 d3 d4 d5 d6 d7 d8 d9 d10 d11 d12 g0 g1 g2 g3 g4 g5 g6 g7 g8 g9 g10 g11 g12
 have u2 := outside_set w2 (w.heap.size) 4 (.slice nn t.name.length mn)
 have V2 : (w2.setCell ⟨w.heap.size, 4, none⟩ (.slice nn t.name.length mn)).heap[w.heap.size]? = some (.cells #[.int .i64 t.state, .int .i64 t.id, .slice nf t.fst.name.length mf, .int .i64 t.fst.type, .slice nn t.name.length mn, .slice xz t.zone.length yz, .slice xh t.hints.length yh, .slice xr t.servers.length yr, .int .i64 t.turn, .int .i64 t.sends, .int .i64 t.steps, .int .i64 t.code, .slice xa t.ans.length ya] 61) := block_setAt (unhide V) 4 _
 generalize w2.setCell ⟨w.heap.size, 4, none⟩ (.slice nn t.name.length mn) = x2 at *
 replace V := hide V2
 replace bb := u2.below bb (by omega)
 replace RR := hide (u2.kept (unhide RR) (by omega))
 replace O1 := hide ((unhide O1).outside u2 (by omega))
 replace O2 := hide ((unhide O2).outside u2 (by omega))
 have s2 := u2.size
 clear V2 u2
 refine (l2own_has ((unhide H0).below bb).zone (nameOk_parts hn4).1 (fun k hk => (labelOk_length ((nameOk_parts hn4).2 k hk)).2)).mono ?_
 rintro e w3 ⟨vz, rfl, o3, b3⟩
 obtain ⟨nz, mz, rfl, _⟩ := o3.hasL.form
 replace bb := below_next bb b3
 replace V := hide (block_kept b3 (unhide V))
 replace RR := hide (block_kept b3 (unhide RR))
 replace O1 := hide ((unhide O1).below b3)
 replace O2 := hide ((unhide O2).below b3)
 have O3 := hide o3.here
 have z3 := b3.size
 clear o3 b3
 obtain ⟨d0, d1, d2, d3, d4, d5, d6, d7, d8, d9, d10, d11, d12⟩ := cells13 (unhide V)
 obtain ⟨g0, g1, g2, g3, g4, g5, g6, g7, g8, g9, g10, g11, g12⟩ := frozen13 (unhide V)
 have u3 := outside_set w3 (w.heap.size) 5 (.slice nz t.zone.length mz)
 have V3 : (w3.setCell ⟨w.heap.size, 5, none⟩ (.slice nz t.zone.length mz)).heap[w.heap.size]? = some (.cells #[.int .i64 t.state, .int .i64 t.id, .slice nf t.fst.name.length mf, .int .i64 t.fst.type, .slice nn t.name.length mn, .slice nz t.zone.length mz, .slice xh t.hints.length yh, .slice xr t.servers.length yr, .int .i64 t.turn, .int .i64 t.sends, .int .i64 t.steps, .int .i64 t.code, .slice xa t.ans.length ya] 61) := block_setAt (unhide V) 5 _
 replace V := hide V3
 replace bb := u3.below bb (by omega)
 replace RR := hide (u3.kept (unhide RR) (by omega))
 replace O1 := hide ((unhide O1).outside u3 (by omega))
 replace O2 := hide ((unhide O2).outside u3 (by omega))
 replace O3 := hide ((unhide O3).outside u3 (by omega))
 have s3 := u3.size
 clear V3 u3
 have b4 := below_alloc (w := (w3.setCell ⟨w.heap.size, 5, none⟩ (.slice nz t.zone.length mz))) (.cells #[] 3)
 have g4 := heap_alloc_new (w3.setCell ⟨w.heap.size, 5, none⟩ (.slice nz t.zone.length mz)) (.cells #[] 3)
 rw [show (w3.setCell ⟨w.heap.size, 5, none⟩ (.slice nz t.zone.length mz)).heap.size = w3.heap.size by simp [World.setCell]] at g4
 replace bb := below_next bb b4
 replace V := hide (block_kept b4 (unhide V))
 replace RR := hide (block_kept b4 (unhide RR))
 replace O1 := hide ((unhide O1).below b4)
 replace O2 := hide ((unhide O2).below b4)
 replace O3 := hide ((unhide O3).below b4)
 have HI := hide ((unhide H0).below bb).hints
 have z4 := b4.size
 have G4 := hide g4
 clear b4 g4
 obtain ⟨e0, e1, e2, e3, e4, e5, e6, e7, e8, e9, e10, e11, e12⟩ := cells13 (unhide V)
 go_wp2_with (at_builtin; refine append_freshI rfl _ _ 51 3 rfl Tryz.underlying51 info_intT w3.heap.size w3.heap.size (Nat.le_refl _) (unhide G4) _ t.hints rfl rfl (unhide HI) (by omega) ?_)
 intro vh w4 o4 c4
 replace c4 : Below ((w3.setCell ⟨w.heap.size, 5, none⟩ (.slice nz t.zone.length mz)).alloc (.cells #[] 3)).heap.size ((w3.setCell ⟨w.heap.size, 5, none⟩ (.slice nz t.zone.length mz)).alloc (.cells #[] 3)) w4 := by
  rw [show ((w3.setCell ⟨w.heap.size, 5, none⟩ (.slice nz t.zone.length mz)).alloc (.cells #[] 3)).heap.size = w3.heap.size + 1 by simp [World.setCell, World.size_alloc]]
  exact c4
 obtain ⟨nh, mh, rfl, _⟩ := o4.lies
 replace bb := below_next bb c4
 replace V := hide (block_kept c4 (unhide V))
 replace RR := hide (block_kept c4 (unhide RR))
 replace O1 := hide ((unhide O1).below c4)
 replace O2 := hide ((unhide O2).below c4)
 replace O3 := hide ((unhide O3).below c4)
 have O4 := hide o4.here
 have y4 := c4.size
 clear d0 d1 d2 d3 d4 d5 d6 d7 d8 d9 d10 d11 d12 e0 e1 e2 e3 e4 e5 e6 e7 e8 e9 e10 e11 e12 g0 g1 g2 g3 g4 g5 g6 g7 g8 g9 g10 g11 g12
 clear o4 c4 HI G4
 obtain ⟨d0, d1, d2, d3, d4, d5, d6, d7, d8, d9, d10, d11, d12⟩ := cells13 (unhide V)
 obtain ⟨g0, g1, g2, g3, g4, g5, g6, g7, g8, g9, g10, g11, g12⟩ := frozen13 (unhide V)
 have u4 := outside_set w4 (w.heap.size) 6 (.slice nh t.hints.length mh)
 have V4 : (w4.setCell ⟨w.heap.size, 6, none⟩ (.slice nh t.hints.length mh)).heap[w.heap.size]? = some (.cells #[.int .i64 t.state, .int .i64 t.id, .slice nf t.fst.name.length mf, .int .i64 t.fst.type, .slice nn t.name.length mn, .slice nz t.zone.length mz, .slice nh t.hints.length mh, .slice xr t.servers.length yr, .int .i64 t.turn, .int .i64 t.sends, .int .i64 t.steps, .int .i64 t.code, .slice xa t.ans.length ya] 61) := block_setAt (unhide V) 6 _
 replace V := hide V4
 replace bb := u4.below bb (by omega)
 replace RR := hide (u4.kept (unhide RR) (by omega))
 replace O1 := hide ((unhide O1).outside u4 (by omega))
 replace O2 := hide ((unhide O2).outside u4 (by omega))
 replace O3 := hide ((unhide O3).outside u4 (by omega))
 replace O4 := hide ((unhide O4).outside u4 (by omega))
 have s4 := u4.size
 clear V4 u4
 have b5 := below_alloc (w := (w4.setCell ⟨w.heap.size, 6, none⟩ (.slice nh t.hints.length mh))) (.cells #[] 3)
 have g5 := heap_alloc_new (w4.setCell ⟨w.heap.size, 6, none⟩ (.slice nh t.hints.length mh)) (.cells #[] 3)
 rw [show (w4.setCell ⟨w.heap.size, 6, none⟩ (.slice nh t.hints.length mh)).heap.size = w4.heap.size by simp [World.setCell]] at g5
 replace bb := below_next bb b5
 replace V := hide (block_kept b5 (unhide V))
 replace RR := hide (block_kept b5 (unhide RR))
 replace O1 := hide ((unhide O1).below b5)
 replace O2 := hide ((unhide O2).below b5)
 replace O3 := hide ((unhide O3).below b5)
 replace O4 := hide ((unhide O4).below b5)
 have HI := hide ((unhide H0).below bb).servers
 have z5 := b5.size
 have G5 := hide g5
 clear b5 g5
 obtain ⟨e0, e1, e2, e3, e4, e5, e6, e7, e8, e9, e10, e11, e12⟩ := cells13 (unhide V)
 go_wp2_with (at_builtin; refine append_freshI rfl _ _ 51 3 rfl Tryz.underlying51 info_intT w4.heap.size w4.heap.size (Nat.le_refl _) (unhide G5) _ t.servers rfl rfl (unhide HI) (by omega) ?_)
 intro vr w5 o5 c5
 replace c5 : Below ((w4.setCell ⟨w.heap.size, 6, none⟩ (.slice nh t.hints.length mh)).alloc (.cells #[] 3)).heap.size ((w4.setCell ⟨w.heap.size, 6, none⟩ (.slice nh t.hints.length mh)).alloc (.cells #[] 3)) w5 := by
  rw [show ((w4.setCell ⟨w.heap.size, 6, none⟩ (.slice nh t.hints.length mh)).alloc (.cells #[] 3)).heap.size = w4.heap.size + 1 by simp [World.setCell, World.size_alloc]]
  exact c5
 obtain ⟨nr, mr, rfl, _⟩ := o5.lies
 replace bb := below_next bb c5
 replace V := hide (block_kept c5 (unhide V))
 replace RR := hide (block_kept c5 (unhide RR))
 replace O1 := hide ((unhide O1).below c5)
 replace O2 := hide ((unhide O2).below c5)
 replace O3 := hide ((unhide O3).below c5)
 replace O4 := hide ((unhide O4).below c5)
 have O5 := hide o5.here
 have y5 := c5.size
 clear d0 d1 d2 d3 d4 d5 d6 d7 d8 d9 d10 d11 d12 e0 e1 e2 e3 e4 e5 e6 e7 e8 e9 e10 e11 e12 g0 g1 g2 g3 g4 g5 g6 g7 g8 g9 g10 g11 g12
 clear o5 c5 HI G5
 obtain ⟨d0, d1, d2, d3, d4, d5, d6, d7, d8, d9, d10, d11, d12⟩ := cells13 (unhide V)
 obtain ⟨g0, g1, g2, g3, g4, g5, g6, g7, g8, g9, g10, g11, g12⟩ := frozen13 (unhide V)
 go_wp2_with fail
 clear d0 d1 d2 d3 d4 d5 d6 d7 d8 d9 d10 d11 d12 g0 g1 g2 g3 g4 g5 g6 g7 g8 g9 g10 g11 g12
 have u5 := outside_set w5 (w.heap.size) 7 (.slice nr t.servers.length mr)
 have V5 : (w5.setCell ⟨w.heap.size, 7, none⟩ (.slice nr t.servers.length mr)).heap[w.heap.size]? = some (.cells #[.int .i64 t.state, .int .i64 t.id, .slice nf t.fst.name.length mf, .int .i64 t.fst.type, .slice nn t.name.length mn, .slice nz t.zone.length mz, .slice nh t.hints.length mh, .slice nr t.servers.length mr, .int .i64 t.turn, .int .i64 t.sends, .int .i64 t.steps, .int .i64 t.code, .slice xa t.ans.length ya] 61) := block_setAt (unhide V) 7 _
 generalize w5.setCell ⟨w.heap.size, 7, none⟩ (.slice nr t.servers.length mr) = x5 at *
 replace V := hide V5
 replace bb := u5.below bb (by omega)
 replace RR := hide (u5.kept (unhide RR) (by omega))
 replace O1 := hide ((unhide O1).outside u5 (by omega))
 replace O2 := hide ((unhide O2).outside u5 (by omega))
 replace O3 := hide ((unhide O3).outside u5 (by omega))
 replace O4 := hide ((unhide O4).outside u5 (by omega))
 replace O5 := hide ((unhide O5).outside u5 (by omega))
 have s5 := u5.size
 clear V5 u5
 refine (l3ownAll_has ((unhide H0).below bb).ans (fun i hi => short_rec (haok i hi)) (by omega)).mono ?_
 rintro e w6 ⟨va, rfl, o6, b6⟩
 obtain ⟨na, ma, rfl, _⟩ := o6.form
 replace bb := below_next bb b6
 replace V := hide (block_kept b6 (unhide V))
 replace RR := hide (block_kept b6 (unhide RR))
 replace O1 := hide ((unhide O1).below b6)
 replace O2 := hide ((unhide O2).below b6)
 replace O3 := hide ((unhide O3).below b6)
 replace O4 := hide ((unhide O4).below b6)
 replace O5 := hide ((unhide O5).below b6)
 have O6 := hide o6
 have z6 := b6.size
 clear o6 b6
 obtain ⟨d0, d1, d2, d3, d4, d5, d6, d7, d8, d9, d10, d11, d12⟩ := cells13 (unhide V)
 obtain ⟨g0, g1, g2, g3, g4, g5, g6, g7, g8, g9, g10, g11, g12⟩ := frozen13 (unhide V)
 obtain ⟨p0, p1, p2, p3, p4, p5, p6, p7, p8, p9, p10, p11, p12⟩ := cells13 (unhide RR)
 obtain ⟨q0, q1, q2, q3, q4, q5, q6, q7, q8, q9, q10, q11, q12⟩ := frozen13 (unhide RR)
 go_wp2_with fail
 clear d0 d1 d2 d3 d4 d5 d6 d7 d8 d9 d10 d11 d12 g0 g1 g2 g3 g4 g5 g6 g7 g8 g9 g10 g11 g12 p0 p1 p2 p3 p4 p5 p6 p7 p8 p9 p10 p11 p12 q0 q1 q2 q3 q4 q5 q6 q7 q8 q9 q10 q11 q12
 have u7 := outside_set w6 (w.heap.size) 12 (.slice na t.ans.length ma)
 have R7 := block_other (unhide RR) (b' := w.heap.size) (by omega) 12 (.slice na t.ans.length ma)
 have Q7 := RowQ.off (unhide O6) (unhide V) (by decide) (by decide) (by decide) (by decide) (grown_of_outside u7)
 replace u7 := u7.wide (B' := w.heap.size) (E' := w.heap.size + 2) (by omega) (by omega)
 generalize w6.setCell ⟨w.heap.size, 12, none⟩ (.slice na t.ans.length ma) = x7 at *
 obtain ⟨R8, u8⟩ := set13_is (c0 := .int .i64 t.state) (c1 := .int .i64 t.id) (c2 := .slice nf t.fst.name.length mf) (c3 := .int .i64 t.fst.type) (c4 := .slice nn t.name.length mn) (c5 := .slice nz t.zone.length mz) (c6 := .slice nh t.hints.length mh) (c7 := .slice nr t.servers.length mr) (c8 := .int .i64 t.turn) (c9 := .int .i64 t.sends) (c10 := .int .i64 t.steps) (c11 := .int .i64 t.code) (c12 := .slice na t.ans.length ma) R7
 have Q8 := RowQ.off Q7 R7 (by decide) (by decide) (by decide) (by decide) (grown_of_outside u8)
 have u9 := u7.trans (u8.wide (B' := w.heap.size) (E' := w.heap.size + 2) (by omega) (by omega))
 have z9 := u9.size
 unfold set13 at R8 u9 z9 Q8
 refine bodyPost_ret (results_cell_row rfl _ _ (w.heap.size + 1) 61 #[.int .i64 t.state, .int .i64 t.id, .slice nf t.fst.name.length mf, .int .i64 t.fst.type, .slice nn t.name.length mn, .slice nz t.zone.length mz, .slice nh t.hints.length mh, .slice nr t.servers.length mr, .int .i64 t.turn, .int .i64 t.sends, .int .i64 t.steps, .int .i64 t.code, .slice na t.ans.length ma] (0, 0) _ rfl R8 Tryz.underlying61 rfl (by kernel_rfl)) rfl ?_
 exact ⟨_, _, _, _, _, _, rfl, ⟨((unhide O1).outside u9 (.inr (by omega))).wide (by omega) (by omega), ((unhide O2).outside u9 (.inr (by omega))).wide (by omega) (by omega), ((unhide O3).outside u9 (.inr (by omega))).wide (by omega) (by omega), ((unhide O4).outside u9 (.inr (by omega))).wide (by omega) (by omega), ((unhide O5).outside u9 (.inr (by omega))).wide (by omega) (by omega), RowQ.mono Q8 (by omega)⟩, u9.below bb (Nat.le_refl _)⟩
end Go.Proofs.YtjgfljndeolmoaaGreat
