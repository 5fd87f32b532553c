/-
  Contract of the program's Begin. Messages that own their lists. What ReplyTo answers; messages that own what they have. Plain facts: what a task asks, and three results of a function. Contract of the program's isAsking.
-/
import Derived.Test.YtjgfljndeolmoaaFnInsidesG25
import Derived.Test.YtjgfljndeolmoaaFnInsidesG31
import Derived.Test.YtjgfljndeolmoaaFnInsidesG35
import Derived.Test.YtjgfljndeolmoaaFnInsidesG24
import Derived.Test.YtjgfljndeolmoaaFnInsidesG07
import Derived.Test.YtjgfljndeolmoaaFnInsidesG23
import Derived.Test.YtjgfljndeolmoaaFnInsidesG03
namespace Go.Proofs.Ytjgfljndeolmoaa
open Go.RowKit
set_option linter.unusedVariables false

theorem OwnTk.wide {B E B2 E2 : Nat} {w : World} {vf vn vz vh vr va : Value} {t : Tk} (h : OwnTk B E w vf vn vz vh vr va t) (hB : B2 ≤ B) (hE : E ≤ E2) : OwnTk B2 E2 w vf vn vz vh vr va t := by
 obtain ⟨s1, s2, s3, s4, s5, a1, a2, a3, a4, a5, a6, h1, h2, h3, h4, h5, h6⟩ := h
 exact ⟨s1, s2, s3, s4, s5, by omega, a2, a3, a4, a5, by omega, h1.wide hB (Nat.le_refl _), h2, h3, h4, h5, h6.wide (Nat.le_refl _) hE⟩
set_option maxHeartbeats 4000000 in
set_option maxRecDepth 100000 in
theorem implBegin_own {v vh : Value} {q : Que} {hs : List Int} (id : Int) {w : World} (h : HasL w v q.name) (hh : HasI w vh hs) (hl : hs.length ≤ 1048576) :
  Calls Try.prog 31 #[.agg #[v, .int .i64 q.type], vh, .int .i64 id] w fun e w' => ∃ uf un uz uh ur ua, e = .returned (.tuple #[.agg #[.int .i64 (begT q hs id).state, .int .i64 (begT q hs id).id, uf, .int .i64 (begT q hs id).fst.type, un, uz, uh, ur, .int .i64 (begT q hs id).turn, .int .i64 (begT q hs id).sends, .int .i64 (begT q hs id).steps, .int .i64 (begT q hs id).code, ua], .bool (begB q hs id)]) ∧ OwnTk w.heap.size w'.heap.size w' uf un uz uh ur ua (begT q hs id) ∧ Below w.heap.size w w' := by
 obtain ⟨na, nc, rfl, _⟩ := h.form
 obtain ⟨ha, hc, rfl, _⟩ := hh.form
 obtain ⟨hsz, r0, v0⟩ := box3 w (.cells #[.slice na q.name.length nc, .int .i64 q.type] 46) #[.int .i64 0, .int .i64 0, .slice none 0 0, .int .i64 0, .slice none 0 0, .slice none 0 0, .slice none 0 0, .slice none 0 0, .int .i64 0, .int .i64 0, .int .i64 0, .int .i64 0, .slice none 0 0] #[.int .i64 0, .int .i64 id, .slice na q.name.length nc, .int .i64 q.type, .slice na q.name.length nc, .slice none 0 0, .slice ha hs.length hc, .slice ha hs.length hc, .int .i64 0, .int .i64 0, .int .i64 0, .int .i64 0, .slice none 0 0] 48 48
 have bb : Below w.heap.size w (((w.alloc (.cells #[.slice na q.name.length nc, .int .i64 q.type] 46)).alloc (.cells #[.int .i64 0, .int .i64 0, .slice none 0 0, .int .i64 0, .slice none 0 0, .slice none 0 0, .slice none 0 0, .slice none 0 0, .int .i64 0, .int .i64 0, .int .i64 0, .int .i64 0, .slice none 0 0] 48)).alloc (.cells #[.int .i64 0, .int .i64 id, .slice na q.name.length nc, .int .i64 q.type, .slice na q.name.length nc, .slice none 0 0, .slice ha hs.length hc, .slice ha hs.length hc, .int .i64 0, .int .i64 0, .int .i64 0, .int .i64 0, .slice none 0 0] 48)) := ((below_alloc _).alloc (below_alloc _).size _).alloc ((below_alloc _).alloc (below_alloc _).size _).size _
 have HT := begTk_has id (h.below bb) (hh.below bb)
 have CL := implTaskOk_has HT hl hl
 have CP := hide (fun (w : World) (vf vn vz vh vr va : Value) (h : HasTk w vf vn vz vh vr va (begTk q hs id)) (hok : taskOk (begTk q hs id) = true) => copyTask_own h hok)
 simp only [begTk] at CL CP
 unfold begT begB
 generalize hG : taskOk (begTk q hs id) = G at *
 have hG' : taskOk ⟨0, id, q, q.name, [], hs, hs, 0, 0, 0, 0, []⟩ = G := hG
 rw [hG'] at CL
 replace CL := hide CL
 have H1 := hide HT
 have RR := hide r0
 have V := hide v0
 have zv := block_lt v0
 have zr := block_lt r0
 obtain ⟨e0, e1⟩ := cells2 (block_kept (below_alloc (.cells #[.int .i64 0, .int .i64 0, .slice none 0 0, .int .i64 0, .slice none 0 0, .slice none 0 0, .slice none 0 0, .slice none 0 0, .int .i64 0, .int .i64 0, .int .i64 0, .int .i64 0, .slice none 0 0] 48)) (heap_alloc_new w (.cells #[.slice na q.name.length nc, .int .i64 q.type] 46)))
 obtain ⟨d0, d1, d2, d3, d4, d5, d6, d7, d8, d9, d10, d11, d12⟩ := cells13 v0
 clear h hh r0 v0 hsz HT
 cases G with
 | false =>
  go_enter Try.func31, Try.ntmps31
  go_wp2_with fail
  clear d0 d1 d2 d3 d4 d5 d6 d7 d8 d9 d10 d11 d12
  clear e0 e1
  generalize ((w.alloc (.cells #[.slice na q.name.length nc, .int .i64 q.type] 46)).alloc (.cells #[.int .i64 0, .int .i64 0, .slice none 0 0, .int .i64 0, .slice none 0 0, .slice none 0 0, .slice none 0 0, .slice none 0 0, .int .i64 0, .int .i64 0, .int .i64 0, .int .i64 0, .slice none 0 0] 48)).alloc (.cells #[.int .i64 0, .int .i64 id, .slice na q.name.length nc, .int .i64 q.type, .slice na q.name.length nc, .slice none 0 0, .slice ha hs.length hc, .slice ha hs.length hc, .int .i64 0, .int .i64 0, .int .i64 0, .int .i64 0, .slice none 0 0] 48) = W at *
  refine (unhide CL).mono ?_
  rintro e w1 ⟨rfl, b1⟩
  replace bb := below_next bb b1
  replace RR := hide (block_kept b1 (unhide RR))
  clear b1
  obtain ⟨p0, p1, p2, p3, p4, p5, p6, p7, p8, p9, p10, p11, p12⟩ := cells13 (unhide RR)
  obtain ⟨q0, q1, q2, q3, q4, q5, q6, q7, q8, q9, q10, q11, q12⟩ := frozen13 (unhide RR)
  go_wp2_with fail
  obtain ⟨R7, u7⟩ := set13_is (c0 := .int .i64 0) (c1 := .int .i64 0) (c2 := .slice none 0 0) (c3 := .int .i64 0) (c4 := .slice none 0 0) (c5 := .slice none 0 0) (c6 := .slice none 0 0) (c7 := .slice none 0 0) (c8 := .int .i64 0) (c9 := .int .i64 0) (c10 := .int .i64 0) (c11 := .int .i64 0) (c12 := .slice none 0 0) (unhide RR)
  unfold set13 at R7 u7
  have b7 := u7.below bb (by omega)
  refine bodyPost_ret (results_cell_tmp_row rfl _ _ (w.heap.size + 1) 48 #[.int .i64 0, .int .i64 0, .slice none 0 0, .int .i64 0, .slice none 0 0, .slice none 0 0, .slice none 0 0, .slice none 0 0, .int .i64 0, .int .i64 0, .int .i64 0, .int .i64 0, .slice none 0 0] (0, 0) _ rfl R7 Try.underlying48 rfl (by kernel_rfl)) rfl ?_
  exact ⟨_, _, _, _, _, _, rfl, ownTk_nil _ _ b7.size _, b7⟩
 | true =>
  go_enter Try.func31, Try.ntmps31
  go_wp2_with fail
  clear d0 d1 d2 d3 d4 d5 d6 d7 d8 d9 d10 d11 d12
  clear e0 e1
  generalize ((w.alloc (.cells #[.slice na q.name.length nc, .int .i64 q.type] 46)).alloc (.cells #[.int .i64 0, .int .i64 0, .slice none 0 0, .int .i64 0, .slice none 0 0, .slice none 0 0, .slice none 0 0, .slice none 0 0, .int .i64 0, .int .i64 0, .int .i64 0, .int .i64 0, .slice none 0 0] 48)).alloc (.cells #[.int .i64 0, .int .i64 id, .slice na q.name.length nc, .int .i64 q.type, .slice na q.name.length nc, .slice none 0 0, .slice ha hs.length hc, .slice ha hs.length hc, .int .i64 0, .int .i64 0, .int .i64 0, .int .i64 0, .slice none 0 0] 48) = W at *
  refine (unhide CL).mono ?_
  rintro e w1 ⟨rfl, b1⟩
  replace bb := below_next bb b1
  replace RR := hide (block_kept b1 (unhide RR))
  replace V := hide (block_kept b1 (unhide V))
  replace H1 := hide ((unhide H1).below b1)
  have z1 := b1.size
  clear b1 CL
  obtain ⟨d0, d1, d2, d3, d4, d5, d6, d7, d8, d9, d10, d11, d12⟩ := cells13 (unhide V)
  go_wp2_with fail
  clear d0 d1 d2 d3 d4 d5 d6 d7 d8 d9 d10 d11 d12
  refine (unhide CP _ _ _ _ _ _ _ (unhide H1) hG').mono ?_
  rintro e w2 ⟨vf, vn, vz, vh, vr, va, rfl, o2, b2⟩
  obtain ⟨nf, mf, rfl, _⟩ := o2.has.fst.form
  obtain ⟨nn, mn, rfl, _⟩ := o2.has.name.form
  obtain ⟨nz, mz, rfl, _⟩ := o2.has.zone.form
  obtain ⟨nh, mh, rfl, _⟩ := o2.has.hints.form
  obtain ⟨nr, mr, rfl, _⟩ := o2.has.servers.form
  obtain ⟨nq, mq, rfl, _⟩ := o2.has.ans.form
  replace bb := below_next bb b2
  replace RR := hide (block_kept b2 (unhide RR))
  have O2 := hide o2
  have z2 := b2.size
  clear b2 o2 CP V H1
  obtain ⟨p0, p1, p2, p3, p4, p5, p6, p7, p8, p9, p10, p11, p12⟩ := cells13 (unhide RR)
  obtain ⟨q0, q1, q2, q3, q4, q5, q6, q7, q8, q9, q10, q11, q12⟩ := frozen13 (unhide RR)
  go_wp2_with fail
  obtain ⟨R7, u7⟩ := set13_is (c0 := .int .i64 0) (c1 := .int .i64 id) (c2 := .slice nf q.name.length mf) (c3 := .int .i64 q.type) (c4 := .slice nn q.name.length mn) (c5 := .slice nz 0 mz) (c6 := .slice nh hs.length mh) (c7 := .slice nr hs.length mr) (c8 := .int .i64 0) (c9 := .int .i64 0) (c10 := .int .i64 0) (c11 := .int .i64 0) (c12 := .slice nq 0 mq) (unhide RR)
  have O7 := hide ((unhide O2).outside u7 (.inr (by omega)))
  unfold set13 at R7 u7 O7
  have b7 := u7.below bb (by omega)
  have z7 := u7.size
  refine bodyPost_ret (results_cell_tmp_row rfl _ _ (w.heap.size + 1) 48 #[.int .i64 0, .int .i64 id, .slice nf q.name.length mf, .int .i64 q.type, .slice nn q.name.length mn, .slice nz 0 mz, .slice nh hs.length mh, .slice nr hs.length mr, .int .i64 0, .int .i64 0, .int .i64 0, .int .i64 0, .slice nq 0 mq] (0, 0) _ rfl R7 Try.underlying48 rfl (by kernel_rfl)) rfl ?_
  exact ⟨_, _, _, _, _, _, rfl, OwnTk.wide (unhide O7) (by omega) z7, b7⟩
end Go.Proofs.Ytjgfljndeolmoaa

namespace Go.Proofs.Ytjgfljndeolmoaa
open Go.RowKit
set_option linter.unusedVariables false

/-- The slices of a message own its lists, in blocks of B .. E - 1, each in a stretch of its own. -/
def OwnM (B E : Nat) (w : World) (vq va vb vm vp vu : Value) (m : Mg) : Prop := ∃ s1 s2 s3 s4 s5, B ≤ s1 ∧ s1 ≤ s2 ∧ s2 ≤ s3 ∧ s3 ≤ s4 ∧ s4 ≤ s5 ∧ s5 ≤ E ∧ RowX 2 (OwnQu 22 5) queZ B s1 46 w vq m.qs ∧ RowO s1 s2 34 22 5 3 w va m.ans ∧ RowO s2 s3 34 22 5 3 w vb m.aus ∧ RowO s3 s4 34 22 5 3 w vm m.more ∧ RowX 9 (OwnWn 22 5 3) wntZ s4 s5 164 w vp m.pres ∧ RowX 9 (OwnWn 22 5 3) wntZ s5 E 164 w vu m.ups
theorem OwnM.below {B E : Nat} {w w' : World} {vq va vb vm vp vu : Value} {m : Mg} (h : OwnM B E w vq va vb vm vp vu m) (hb : Below w.heap.size w w') : OwnM B E w' vq va vb vm vp vu m := by
 obtain ⟨s1, s2, s3, s4, s5, a0, a1, a2, a3, a4, a5, h0, h1, h2, h3, h4, h5⟩ := h
 exact ⟨s1, s2, s3, s4, s5, a0, a1, a2, a3, a4, a5, RowX.below (ownsQu 22 5) h0 hb, RowO.below h1 hb, RowO.below h2 hb, RowO.below h3 hb, RowX.below (ownsWn 22 5 3) h4 hb, RowX.below (ownsWn 22 5 3) h5 hb⟩
theorem OwnM.outside {B E C D : Nat} {w w' : World} {vq va vb vm vp vu : Value} {m : Mg} (h : OwnM B E w vq va vb vm vp vu m) (u : Outside C D w w') (hd : E ≤ C ∨ D ≤ B) : OwnM B E w' vq va vb vm vp vu m := by
 obtain ⟨s1, s2, s3, s4, s5, a0, a1, a2, a3, a4, a5, h0, h1, h2, h3, h4, h5⟩ := h
 exact ⟨s1, s2, s3, s4, s5, a0, a1, a2, a3, a4, a5, RowX.outside (ownsQu 22 5) h0 u (by omega), RowO.outside h1 u (by omega), RowO.outside h2 u (by omega), RowO.outside h3 u (by omega), RowX.outside (ownsWn 22 5 3) h4 u (by omega), RowX.outside (ownsWn 22 5 3) h5 u (by omega)⟩
theorem OwnM.has {B E : Nat} {w : World} {vq va vb vm vp vu : Value} {m : Mg} (h : OwnM B E w vq va vb vm vp vu m) : HasM w vq va vb vm vp vu m := by
 obtain ⟨s1, s2, s3, s4, s5, a0, a1, a2, a3, a4, a5, h0, h1, h2, h3, h4, h5⟩ := h
 exact ⟨RowX.has (ownsQu 22 5) OwnQu.has h0, RowO.has h1, RowO.has h2, RowO.has h3, RowX.has (ownsWn 22 5 3) OwnWn.has h4, RowX.has (ownsWn 22 5 3) OwnWn.has h5⟩
end Go.Proofs.Ytjgfljndeolmoaa

namespace Go.Proofs.Ytjgfljndeolmoaa
open Go.RowKit
set_option linter.unusedVariables false

/-- What ReplyTo answers. -/
def zeroM : Mg := ⟨0, false, 0, false, 0, [], [], [], [], [], []⟩
theorem ownM_nil (B E : Nat) (hBE : B ≤ E) (w : World) : OwnM B E w (.slice none 0 0) (.slice none 0 0) (.slice none 0 0) (.slice none 0 0) (.slice none 0 0) (.slice none 0 0) zeroM :=
 ⟨B, B, B, B, B, Nat.le_refl _, Nat.le_refl _, Nat.le_refl _, Nat.le_refl _, Nat.le_refl _, hBE, RowX.nil _, RowO.nil _ _ _ _ _ _ _, RowO.nil _ _ _ _ _ _ _, RowO.nil _ _ _ _ _ _ _, RowX.nil _, RowX.nil _⟩
theorem ownM_q {B E : Nat} {w : World} {v : Value} {m : Mg} (h : RowX 2 (OwnQu 22 5) queZ B E 46 w v m.qs) (hBE : B ≤ E) (m' : Mg) (hq : m'.qs = m.qs) (h1 : m'.ans = []) (h2 : m'.aus = []) (h3 : m'.more = []) (h4 : m'.pres = []) (h5 : m'.ups = []) : OwnM B E w v (.slice none 0 0) (.slice none 0 0) (.slice none 0 0) (.slice none 0 0) (.slice none 0 0) m' := by
 refine ⟨E, E, E, E, E, hBE, Nat.le_refl _, Nat.le_refl _, Nat.le_refl _, Nat.le_refl _, Nat.le_refl _, by rw [hq]; exact h, by rw [h1]; exact RowO.nil _ _ _ _ _ _ _, by rw [h2]; exact RowO.nil _ _ _ _ _ _ _, by rw [h3]; exact RowO.nil _ _ _ _ _ _ _, by rw [h4]; exact RowX.nil _, by rw [h5]; exact RowX.nil _⟩
end Go.Proofs.Ytjgfljndeolmoaa

namespace Go.Proofs.Ytjgfljndeolmoaa
open Go.RowKit
set_option linter.unusedVariables false

/-- What a task asks. -/
def askM (t : Tk) : Mg := ⟨t.id, false, 0, false, 0, [⟨t.name, t.fst.type⟩], [], [], [], [], []⟩
def askT (t : Tk) : Bool := taskOk t && decide (t.state = 0)
def askI (t : Tk) : Int := if askT t = true then t.servers.getD t.turn.toNat 0 else 0
def askR (t : Tk) : Mg := if askT t = true then askM t else zeroM
theorem askT_parts {t : Tk} (h : askT t = true) : taskOk t = true ∧ t.state = 0 := by
 unfold askT at h
 rw [Bool.and_eq_true] at h
 exact ⟨h.1, of_decide_eq_true h.2⟩
theorem askT_turn {t : Tk} (h : askT t = true) : ∃ j : Nat, t.turn = (j : Int) ∧ j < t.servers.length := by
 have := (taskOk_iff.1 (askT_parts h).1).1
 exact ⟨t.turn.toNat, by omega, by omega⟩
theorem outside_belA {B E : Nat} {w w' : World} (h : Below w.heap.size w w') : Outside B E w w' := ⟨h.os, h.tape, h.output, h.size, fun k hk _ => h.block k hk⟩
theorem results_tct {P : Program} {fn : Func} {p q r : Tmp} {ty : TypeId} (h : fn.results = #[.tmp p, .cell q ty, .tmp r]) (tmps : Array Value) (w : World) (g : Nat) (t : TypeId) (cs : Array Value) (fr : Nat × Nat) (d : TypeDesc)
  (hp : tmps.getD q undef = .pointer (some ⟨g, 0, none⟩)) (hg : w.heap[g]? = some (.cells cs t fr))
  (hu : P.underlying ty = some d) (hd : (match d with | .struct _ | .array _ _ => true | _ => false) = true) (hi : (P.info? ty).map (·.size) = some cs.size) :
  (results fn tmps).run P w = .ok (.tuple #[tmps.getD p undef, .agg cs, tmps.getD r undef]) w := by
 have hp' := hp
 simp only [Array.getD_eq_getD_getElem?] at hp'
 simp only [results, h]
 simp [hp', asAddr, run_loadVar_row w g t ty cs fr d hg hu hd hi]
end Go.Proofs.Ytjgfljndeolmoaa

namespace Go.Proofs.Ytjgfljndeolmoaa
open Go.RowKit
set_option linter.unusedVariables false

set_option maxHeartbeats 1000000 in
set_option maxRecDepth 100000 in
theorem isAsking_has {vf vn vz vh vr va : Value} {t : Tk} {w : World} (h : HasTk w vf vn vz vh vr va t) (hs1 : t.hints.length ≤ 1048576) (hs2 : t.servers.length ≤ 1048576) :
  Calls Try.prog 93 #[.agg #[.int .i64 t.state, .int .i64 t.id, vf, .int .i64 t.fst.type, vn, vz, vh, vr, .int .i64 t.turn, .int .i64 t.sends, .int .i64 t.steps, .int .i64 t.code, va]] w fun e w' => e = .returned (.bool (askT t)) ∧ Below w.heap.size w w' := by
 obtain ⟨xf, yf, rfl, _⟩ := h.fst.form
 obtain ⟨xn, yn, rfl, _⟩ := h.name.form
 obtain ⟨xz, yz, rfl, _⟩ := h.zone.form
 obtain ⟨xh, yh, rfl, _⟩ := h.hints.form
 obtain ⟨xr, yr, rfl, _⟩ := h.servers.form
 obtain ⟨xa, ya, rfl, _⟩ := h.ans.form
 have b0 := below_alloc (w := w) (.cells #[.int .i64 t.state, .int .i64 t.id, .slice xf t.fst.name.length yf, .int .i64 t.fst.type, .slice xn t.name.length yn, .slice xz t.zone.length yz, .slice xh t.hints.length yh, .slice xr t.servers.length yr, .int .i64 t.turn, .int .i64 t.sends, .int .i64 t.steps, .int .i64 t.code, .slice xa t.ans.length ya] 48)
 have KK := hide (heap_alloc_new w (.cells #[.int .i64 t.state, .int .i64 t.id, .slice xf t.fst.name.length yf, .int .i64 t.fst.type, .slice xn t.name.length yn, .slice xz t.zone.length yz, .slice xh t.hints.length yh, .slice xr t.servers.length yr, .int .i64 t.turn, .int .i64 t.sends, .int .i64 t.steps, .int .i64 t.code, .slice xa t.ans.length ya] 48))
 have HT := implTaskOk_has (h.below b0) hs1 hs2
 unfold askT
 generalize taskOk t = G at *
 replace HT := hide HT
 clear h
 obtain ⟨d0, d1, d2, d3, d4, d5, d6, d7, d8, d9, d10, d11, d12⟩ := cells13 (unhide KK)
 cases G with
 | false =>
  go_enter Try.func93, Try.ntmps93
  go_wp2_with fail
  clear d0 d1 d2 d3 d4 d5 d6 d7 d8 d9 d10 d11 d12
  refine (unhide HT).mono ?_
  rintro e w1 ⟨rfl, b1⟩
  go_wp2_with fail
  go_ret
  exact ⟨rfl, below_next b0 b1⟩
 | true =>
  rw [Bool.true_and]
  by_cases hz : t.state = 0
  ·rw [decide_eq_true hz]
   have hq : (t.state == 0) = true := by rw [hz]; rfl
   clear hz
   go_enter Try.func93, Try.ntmps93
   go_wp2_with fail
   clear d0 d1 d2 d3 d4 d5 d6 d7 d8 d9 d10 d11 d12
   refine (unhide HT).mono ?_
   rintro e w1 ⟨rfl, b1⟩
   obtain ⟨d0, d1, d2, d3, d4, d5, d6, d7, d8, d9, d10, d11, d12⟩ := cells13 (block_kept b1 (unhide KK))
   go_wp2_with fail
   go_ret
   exact ⟨rfl, below_next b0 b1⟩
  ·rw [decide_eq_false hz]
   have hq : (t.state == 0) = false := by rw [beq_eq_false_iff_ne]; exact hz
   clear hz
   go_enter Try.func93, Try.ntmps93
   go_wp2_with fail
   clear d0 d1 d2 d3 d4 d5 d6 d7 d8 d9 d10 d11 d12
   refine (unhide HT).mono ?_
   rintro e w1 ⟨rfl, b1⟩
   obtain ⟨d0, d1, d2, d3, d4, d5, d6, d7, d8, d9, d10, d11, d12⟩ := cells13 (block_kept b1 (unhide KK))
   go_wp2_with fail
   go_ret
   exact ⟨rfl, below_next b0 b1⟩
end Go.Proofs.Ytjgfljndeolmoaa
