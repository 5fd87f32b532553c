/-
  Contracts of helpers of the laws for messages that are answers (markMsg, heldMsg).
-/
import Derived.Test.YtjgfljndeolmoaaGreatAskOfG18
import Derived.Test.YtjgfljndeolmoaaGreatAskOfG42
import Derived.Test.YtjgfljndeolmoaaGreatAskOfG40
namespace Go.Proofs.YtjgfljndeolmoaaGreat
open Go.RowKit
set_option linter.unusedVariables false

/-- Where the marks of a message end that has no wants, and what it is then. -/
def posM (m : Mg) : Int := posRs m.more (posRs m.aus (posRs m.ans (posQs m.qs 1 m.qs.length) m.ans.length) m.aus.length) m.more.length
def markM (m : Mg) : Mg := ⟨m.id, m.reply, m.op, m.auth, m.code, markQs m.qs 1 m.qs.length, markRs m.ans (posQs m.qs 1 m.qs.length) m.ans.length, markRs m.aus (posRs m.ans (posQs m.qs 1 m.qs.length) m.ans.length) m.aus.length, markRs m.more (posRs m.aus (posRs m.ans (posQs m.qs 1 m.qs.length) m.ans.length) m.aus.length) m.more.length, m.pres, m.ups⟩
theorem posM_bounds {m : Mg} (hs : SizeM 1048576 m) (hc : m.count ≤ 1048576) : 1 ≤ posQs m.qs 1 m.qs.length ∧ posQs m.qs 1 m.qs.length ≤ 2400000000000000000 ∧ 1 ≤ posRs m.ans (posQs m.qs 1 m.qs.length) m.ans.length ∧ posRs m.ans (posQs m.qs 1 m.qs.length) m.ans.length ≤ 2400000000000000000 ∧
  1 ≤ posRs m.aus (posRs m.ans (posQs m.qs 1 m.qs.length) m.ans.length) m.aus.length ∧ posRs m.aus (posRs m.ans (posQs m.qs 1 m.qs.length) m.ans.length) m.aus.length ≤ 2400000000000000000 ∧ 1 ≤ posM m ∧ posM m ≤ 2400000000000000000 := by
 have q0 := posQs_bound (l := m.qs) hs.qs 1 m.qs.length (Nat.le_refl _)
 have q1 := posRs_bound (rs := m.ans) hs.ans (posQs m.qs 1 m.qs.length) m.ans.length (Nat.le_refl _)
 have q2 := posRs_bound (rs := m.aus) hs.aus (posRs m.ans (posQs m.qs 1 m.qs.length) m.ans.length) m.aus.length (Nat.le_refl _)
 have q3 := posRs_bound (rs := m.more) hs.more (posRs m.aus (posRs m.ans (posQs m.qs 1 m.qs.length) m.ans.length) m.aus.length) m.more.length (Nat.le_refl _)
 unfold posM
 unfold Mg.count at hc
 omega

set_option maxHeartbeats 4000000 in
set_option maxRecDepth 100000 in
theorem markMsg_r {m : Mg} (hs : SizeM 1048576 m) (hc : m.count ≤ 1048576) (hp : m.pres.length = 0) (hu : m.ups.length = 0) (B E : Nat) (vq va vb vm vp vu : Value) (w : World) (hEw : E ≤ w.heap.size) (h : OwnM B E w vq va vb vm vp vu m) :
  Calls Tryz.prog 22 #[.agg #[.int .i64 m.id, .bool m.reply, .int .i64 m.op, .bool m.auth, .int .i64 m.code, vq, va, vb, vm, vp, vu], .int .i64 1] w fun e w' => e = .returned (.int .i64 (posM m)) ∧ OwnM B E w' vq va vb vm vp vu (markM m) ∧ Outside B E w w' := by
 have HB := hide (posM_bounds hs hc)
 obtain ⟨s1, s2, s3, s4, s5, a0, a1, a2, a3, a4, a5, h0, h1, h2, h3, h4, h5⟩ := h
 obtain ⟨xq, yq, rfl, _⟩ := h0.form
 obtain ⟨xa, ya, rfl, _⟩ := h1.form
 obtain ⟨xb, yb, rfl, _⟩ := h2.form
 obtain ⟨xm, ym, rfl, _⟩ := h3.form
 obtain ⟨xp, yp, rfl, _⟩ := h4.form
 obtain ⟨xu, yu, rfl, _⟩ := h5.form
 have b0 := below_alloc (w := w) (.cells #[.int .i64 m.id, .bool m.reply, .int .i64 m.op, .bool m.auth, .int .i64 m.code, .slice xq m.qs.length yq, .slice xa m.ans.length ya, .slice xb m.aus.length yb, .slice xm m.more.length ym, .slice xp m.pres.length yp, .slice xu m.ups.length yu] 37)
 have KK := hide (heap_alloc_new w (.cells #[.int .i64 m.id, .bool m.reply, .int .i64 m.op, .bool m.auth, .int .i64 m.code, .slice xq m.qs.length yq, .slice xa m.ans.length ya, .slice xb m.aus.length yb, .slice xm m.more.length ym, .slice xp m.pres.length yp, .slice xu m.ups.length yu] 37))
 have hcc := hc
 unfold Mg.count at hcc
 have c0 : m.qs.length ≤ 1048576 := by omega
 have c1 : m.ans.length ≤ 1048576 := by omega
 have c2 : m.aus.length ≤ 1048576 := by omega
 have c3 : m.more.length ≤ 1048576 := by omega
 have H0 := hide (RowX.below (ownsQu 27 5) h0 b0)
 have H1 := hide (RowO.below h1 b0)
 have H2 := hide (RowO.below h2 b0)
 have H3 := hide (RowO.below h3 b0)
 have H4 := hide (RowX.below (ownsWn 27 5 3) h4 b0)
 have H5 := hide (RowX.below (ownsWn 27 5 3) h5 b0)
 clear h0 h1 h2 h3 h4 h5
 have bz := b0.size
 have HS := hide hs
 have hPM : posM m = posRs m.more (posRs m.aus (posRs m.ans (posQs m.qs 1 m.qs.length) m.ans.length) m.aus.length) m.more.length := rfl
 have hMM : markM m = ⟨m.id, m.reply, m.op, m.auth, m.code, markQs m.qs 1 m.qs.length, markRs m.ans (posQs m.qs 1 m.qs.length) m.ans.length, markRs m.aus (posRs m.ans (posQs m.qs 1 m.qs.length) m.ans.length) m.aus.length, markRs m.more (posRs m.aus (posRs m.ans (posQs m.qs 1 m.qs.length) m.ans.length) m.aus.length) m.more.length, m.pres, m.ups⟩ := rfl
 have HB' := unhide HB
 rw [hPM] at HB'
 rw [hPM, hMM]
 clear hPM hMM hcc hc hs HB
 have C0 := hide (fun (w : World) (hE : s1 ≤ w.heap.size) (h : RowX 2 (OwnQu 27 5) queZ B s1 59 w (.slice xq m.qs.length yq) m.qs) => markQuestionS_own (unhide HS).qs c0 1 (by omega) (by omega) hE h)
 have C1 := hide (fun (w : World) (hE : s2 ≤ w.heap.size) (h : RowO s1 s2 137 27 5 3 w (.slice xa m.ans.length ya) m.ans) => markRrS_own (unhide HS).ans c1 (posQs m.qs 1 m.qs.length) (by omega) (by omega) hE h)
 have C2 := hide (fun (w : World) (hE : s3 ≤ w.heap.size) (h : RowO s2 s3 137 27 5 3 w (.slice xb m.aus.length yb) m.aus) => markRrS_own (unhide HS).aus c2 (posRs m.ans (posQs m.qs 1 m.qs.length) m.ans.length) (by omega) (by omega) hE h)
 have C3 := hide (fun (w : World) (hE : s4 ≤ w.heap.size) (h : RowO s3 s4 137 27 5 3 w (.slice xm m.more.length ym) m.more) => markRrS_own (unhide HS).more c3 (posRs m.aus (posRs m.ans (posQs m.qs 1 m.qs.length) m.ans.length) m.aus.length) (by omega) (by omega) hE h)
 generalize posRs m.more (posRs m.aus (posRs m.ans (posQs m.qs 1 m.qs.length) m.ans.length) m.aus.length) m.more.length = P4 at *
 generalize markRs m.more (posRs m.aus (posRs m.ans (posQs m.qs 1 m.qs.length) m.ans.length) m.aus.length) m.more.length = M3 at *
 generalize posRs m.aus (posRs m.ans (posQs m.qs 1 m.qs.length) m.ans.length) m.aus.length = P3 at *
 generalize markRs m.aus (posRs m.ans (posQs m.qs 1 m.qs.length) m.ans.length) m.aus.length = M2 at *
 generalize posRs m.ans (posQs m.qs 1 m.qs.length) m.ans.length = P2 at *
 generalize markRs m.ans (posQs m.qs 1 m.qs.length) m.ans.length = M1 at *
 generalize posQs m.qs 1 m.qs.length = P1 at *
 generalize markQs m.qs 1 m.qs.length = M0 at *
 have hp' : m.pres.length = 0 := hp
 have hu' : m.ups.length = 0 := hu
 clear hp hu
 generalize hPR : m.pres = PR at *
 generalize hUP : m.ups = UP at *
 obtain rfl : PR = [] := List.eq_nil_of_length_eq_zero hp'
 obtain rfl : UP = [] := List.eq_nil_of_length_eq_zero hu'
 clear hp' hu' hPR hUP
 obtain ⟨d0, d1, d2, d3, d4, d5, d6, d7, d8, d9, d10⟩ := cells11 (unhide KK)
 go_enter Tryz.func22, Tryz.ntmps22
 go_wp2_with fail
 clear d0 d1 d2 d3 d4 d5 d6 d7 d8 d9 d10
 generalize w.alloc (.cells #[.int .i64 m.id, .bool m.reply, .int .i64 m.op, .bool m.auth, .int .i64 m.code, .slice xq m.qs.length yq, .slice xa m.ans.length ya, .slice xb m.aus.length yb, .slice xm m.more.length ym, .slice xp ([] : List Wnt).length yp, .slice xu ([] : List Wnt).length yu] 37) = W at *
 have OUT := hide (Outside.refl B E W)
 refine (unhide C0 _ (by omega) (unhide H0)).mono ?_
 rintro e w1 ⟨rfl, o0, u1⟩
 have z1 := u1.size
 replace H0 := hide o0
 replace H1 := hide (RowO.outside (unhide H1) u1 (by omega))
 replace H2 := hide (RowO.outside (unhide H2) u1 (by omega))
 replace H3 := hide (RowO.outside (unhide H3) u1 (by omega))
 replace H4 := hide (RowX.outside (ownsWn 27 5 3) (unhide H4) u1 (by omega))
 replace H5 := hide (RowX.outside (ownsWn 27 5 3) (unhide H5) u1 (by omega))
 replace KK := hide (u1.kept (unhide KK) (by omega))
 replace OUT := hide ((unhide OUT).trans (u1.wide (by omega) (by omega)))
 clear u1 o0
 obtain ⟨d0, d1, d2, d3, d4, d5, d6, d7, d8, d9, d10⟩ := cells11 (unhide KK)
 go_wp2_with fail
 clear d0 d1 d2 d3 d4 d5 d6 d7 d8 d9 d10
 refine (unhide C1 _ (by omega) (unhide H1)).mono ?_
 rintro e w2 ⟨rfl, o1, u2⟩
 have z2 := u2.size
 replace H1 := hide o1
 replace H0 := hide (RowX.outside (ownsQu 27 5) (unhide H0) u2 (by omega))
 replace H2 := hide (RowO.outside (unhide H2) u2 (by omega))
 replace H3 := hide (RowO.outside (unhide H3) u2 (by omega))
 replace H4 := hide (RowX.outside (ownsWn 27 5 3) (unhide H4) u2 (by omega))
 replace H5 := hide (RowX.outside (ownsWn 27 5 3) (unhide H5) u2 (by omega))
 replace KK := hide (u2.kept (unhide KK) (by omega))
 replace OUT := hide ((unhide OUT).trans (u2.wide (by omega) (by omega)))
 clear u2 o1
 obtain ⟨d0, d1, d2, d3, d4, d5, d6, d7, d8, d9, d10⟩ := cells11 (unhide KK)
 go_wp2_with fail
 clear d0 d1 d2 d3 d4 d5 d6 d7 d8 d9 d10
 refine (unhide C2 _ (by omega) (unhide H2)).mono ?_
 rintro e w3 ⟨rfl, o2, u3⟩
 have z3 := u3.size
 replace H2 := hide o2
 replace H0 := hide (RowX.outside (ownsQu 27 5) (unhide H0) u3 (by omega))
 replace H1 := hide (RowO.outside (unhide H1) u3 (by omega))
 replace H3 := hide (RowO.outside (unhide H3) u3 (by omega))
 replace H4 := hide (RowX.outside (ownsWn 27 5 3) (unhide H4) u3 (by omega))
 replace H5 := hide (RowX.outside (ownsWn 27 5 3) (unhide H5) u3 (by omega))
 replace KK := hide (u3.kept (unhide KK) (by omega))
 replace OUT := hide ((unhide OUT).trans (u3.wide (by omega) (by omega)))
 clear u3 o2
 obtain ⟨d0, d1, d2, d3, d4, d5, d6, d7, d8, d9, d10⟩ := cells11 (unhide KK)
 go_wp2_with fail
 clear d0 d1 d2 d3 d4 d5 d6 d7 d8 d9 d10
 refine (unhide C3 _ (by omega) (unhide H3)).mono ?_
 rintro e w4 ⟨rfl, o3, u4⟩
 have z4 := u4.size
 replace H3 := hide o3
 replace H0 := hide (RowX.outside (ownsQu 27 5) (unhide H0) u4 (by omega))
 replace H1 := hide (RowO.outside (unhide H1) u4 (by omega))
 replace H2 := hide (RowO.outside (unhide H2) u4 (by omega))
 replace H4 := hide (RowX.outside (ownsWn 27 5 3) (unhide H4) u4 (by omega))
 replace H5 := hide (RowX.outside (ownsWn 27 5 3) (unhide H5) u4 (by omega))
 replace KK := hide (u4.kept (unhide KK) (by omega))
 replace OUT := hide ((unhide OUT).trans (u4.wide (by omega) (by omega)))
 clear u4 o3
 obtain ⟨d0, d1, d2, d3, d4, d5, d6, d7, d8, d9, d10⟩ := cells11 (unhide KK)
 go_wp2_with fail
 clear d0 d1 d2 d3 d4 d5 d6 d7 d8 d9 d10
 refine (markWantS_nil P4).mono ?_
 rintro e w5 ⟨rfl, rfl⟩
 obtain ⟨d0, d1, d2, d3, d4, d5, d6, d7, d8, d9, d10⟩ := cells11 (unhide KK)
 go_wp2_with fail
 clear d0 d1 d2 d3 d4 d5 d6 d7 d8 d9 d10
 refine (markWantS_nil P4).mono ?_
 rintro e w6 ⟨rfl, rfl⟩
 go_wp2_with fail
 go_ret
 have u := unhide OUT
 exact ⟨rfl, ⟨s1, s2, s3, s4, s5, a0, a1, a2, a3, a4, a5, unhide H0, unhide H1, unhide H2, unhide H3, unhide H4, unhide H5⟩, ⟨u.os.trans b0.os, u.tape.trans b0.tape, u.output.trans b0.output, by omega, fun k hk hn => (u.block k (by omega) hn).trans (b0.block k hk)⟩⟩

set_option maxHeartbeats 4000000 in
set_option maxRecDepth 100000 in
theorem heldMsg_r {m : Mg} (hs : SizeM 1048576 m) (hc : m.count ≤ 1048576) (hp : m.pres.length = 0) (hu : m.ups.length = 0) {vq va vb vm vp vu : Value} {w : World} (h : HasM w vq va vb vm vp vu (markM m)) :
  Calls Tryz.prog 23 #[.agg #[.int .i64 m.id, .bool m.reply, .int .i64 m.op, .bool m.auth, .int .i64 m.code, vq, va, vb, vm, vp, vu], .int .i64 1] w fun e w' => e = .returned (.int .i64 (posM m)) ∧ Below w.heap.size w w' := by
 have HB := hide (posM_bounds hs hc)
 obtain ⟨xq, yq, rfl, _⟩ := h.qs.form
 obtain ⟨xa, ya, rfl, _⟩ := h.ans.form
 obtain ⟨xb, yb, rfl, _⟩ := h.aus.form
 obtain ⟨xm, ym, rfl, _⟩ := h.more.form
 obtain ⟨xp, yp, rfl, _⟩ := h.pres.form
 obtain ⟨xu, yu, rfl, _⟩ := h.ups.form
 have e0 : (markM m).qs.length = m.qs.length := markQs_length _ _ _
 have e1 : (markM m).ans.length = m.ans.length := markRs_length _ _ _
 have e2 : (markM m).aus.length = m.aus.length := markRs_length _ _ _
 have e3 : (markM m).more.length = m.more.length := markRs_length _ _ _
 have e4 : (markM m).pres.length = m.pres.length := rfl
 have e5 : (markM m).ups.length = m.ups.length := rfl
 rw [e0, e1, e2, e3, e4, e5] at h ⊢
 clear e0 e1 e2 e3 e4 e5
 have b0 := below_alloc (w := w) (.cells #[.int .i64 m.id, .bool m.reply, .int .i64 m.op, .bool m.auth, .int .i64 m.code, .slice xq m.qs.length yq, .slice xa m.ans.length ya, .slice xb m.aus.length yb, .slice xm m.more.length ym, .slice xp m.pres.length yp, .slice xu m.ups.length yu] 37)
 have KK := hide (heap_alloc_new w (.cells #[.int .i64 m.id, .bool m.reply, .int .i64 m.op, .bool m.auth, .int .i64 m.code, .slice xq m.qs.length yq, .slice xa m.ans.length ya, .slice xb m.aus.length yb, .slice xm m.more.length ym, .slice xp m.pres.length yp, .slice xu m.ups.length yu] 37))
 have hcc := hc
 unfold Mg.count at hcc
 have c0 : m.qs.length ≤ 1048576 := by omega
 have c1 : m.ans.length ≤ 1048576 := by omega
 have c2 : m.aus.length ≤ 1048576 := by omega
 have c3 : m.more.length ≤ 1048576 := by omega
 have H := hide (h.below b0)
 clear h
 have bz := b0.size
 have HS := hide hs
 have hPM : posM m = posRs m.more (posRs m.aus (posRs m.ans (posQs m.qs 1 m.qs.length) m.ans.length) m.aus.length) m.more.length := rfl
 have hMM : markM m = ⟨m.id, m.reply, m.op, m.auth, m.code, markQs m.qs 1 m.qs.length, markRs m.ans (posQs m.qs 1 m.qs.length) m.ans.length, markRs m.aus (posRs m.ans (posQs m.qs 1 m.qs.length) m.ans.length) m.aus.length, markRs m.more (posRs m.aus (posRs m.ans (posQs m.qs 1 m.qs.length) m.ans.length) m.aus.length) m.more.length, m.pres, m.ups⟩ := rfl
 have HB' := unhide HB
 rw [hPM] at HB'
 rw [hPM]
 rw [hMM] at H
 clear hPM hMM hcc hc hs HB
 have C0 := hide (fun (w : World) (h : HasQs w (.slice xq m.qs.length yq) (markQs m.qs 1 m.qs.length)) => heldQuestionS_has (unhide HS).qs c0 1 (by omega) (by omega) h)
 have C1 := hide (fun (w : World) (h : HasRs w (.slice xa m.ans.length ya) (markRs m.ans (posQs m.qs 1 m.qs.length) m.ans.length)) => heldRrS_has (unhide HS).ans c1 (posQs m.qs 1 m.qs.length) (by omega) (by omega) h)
 have C2 := hide (fun (w : World) (h : HasRs w (.slice xb m.aus.length yb) (markRs m.aus (posRs m.ans (posQs m.qs 1 m.qs.length) m.ans.length) m.aus.length)) => heldRrS_has (unhide HS).aus c2 (posRs m.ans (posQs m.qs 1 m.qs.length) m.ans.length) (by omega) (by omega) h)
 have C3 := hide (fun (w : World) (h : HasRs w (.slice xm m.more.length ym) (markRs m.more (posRs m.aus (posRs m.ans (posQs m.qs 1 m.qs.length) m.ans.length) m.aus.length) m.more.length)) => heldRrS_has (unhide HS).more c3 (posRs m.aus (posRs m.ans (posQs m.qs 1 m.qs.length) m.ans.length) m.aus.length) (by omega) (by omega) h)
 generalize posRs m.more (posRs m.aus (posRs m.ans (posQs m.qs 1 m.qs.length) m.ans.length) m.aus.length) m.more.length = P4 at *
 generalize markRs m.more (posRs m.aus (posRs m.ans (posQs m.qs 1 m.qs.length) m.ans.length) m.aus.length) m.more.length = M3 at *
 generalize posRs m.aus (posRs m.ans (posQs m.qs 1 m.qs.length) m.ans.length) m.aus.length = P3 at *
 generalize markRs m.aus (posRs m.ans (posQs m.qs 1 m.qs.length) m.ans.length) m.aus.length = M2 at *
 generalize posRs m.ans (posQs m.qs 1 m.qs.length) m.ans.length = P2 at *
 generalize markRs m.ans (posQs m.qs 1 m.qs.length) m.ans.length = M1 at *
 generalize posQs m.qs 1 m.qs.length = P1 at *
 generalize markQs m.qs 1 m.qs.length = M0 at *
 have hp' : m.pres.length = 0 := hp
 have hu' : m.ups.length = 0 := hu
 clear hp hu
 generalize hPR : m.pres = PR at *
 generalize hUP : m.ups = UP at *
 obtain rfl : PR = [] := List.eq_nil_of_length_eq_zero hp'
 obtain rfl : UP = [] := List.eq_nil_of_length_eq_zero hu'
 clear hp' hu' hPR hUP
 obtain ⟨d0, d1, d2, d3, d4, d5, d6, d7, d8, d9, d10⟩ := cells11 (unhide KK)
 go_enter Tryz.func23, Tryz.ntmps23
 go_wp2_with fail
 clear d0 d1 d2 d3 d4 d5 d6 d7 d8 d9 d10
 generalize w.alloc (.cells #[.int .i64 m.id, .bool m.reply, .int .i64 m.op, .bool m.auth, .int .i64 m.code, .slice xq m.qs.length yq, .slice xa m.ans.length ya, .slice xb m.aus.length yb, .slice xm m.more.length ym, .slice xp ([] : List Wnt).length yp, .slice xu ([] : List Wnt).length yu] 37) = W at *
 refine (unhide C0 _ (unhide H).qs).mono ?_
 rintro e w1 ⟨rfl, rfl⟩
 have hn0 : ¬ P1 < 0 := by omega
 obtain ⟨d0, d1, d2, d3, d4, d5, d6, d7, d8, d9, d10⟩ := cells11 (unhide KK)
 go_wp2_with fail
 clear d0 d1 d2 d3 d4 d5 d6 d7 d8 d9 d10
 refine (unhide C1 _ (unhide H).ans).mono ?_
 rintro e w2 ⟨rfl, rfl⟩
 have hn1 : ¬ P2 < 0 := by omega
 obtain ⟨d0, d1, d2, d3, d4, d5, d6, d7, d8, d9, d10⟩ := cells11 (unhide KK)
 go_wp2_with fail
 clear d0 d1 d2 d3 d4 d5 d6 d7 d8 d9 d10
 refine (unhide C2 _ (unhide H).aus).mono ?_
 rintro e w3 ⟨rfl, rfl⟩
 have hn2 : ¬ P3 < 0 := by omega
 obtain ⟨d0, d1, d2, d3, d4, d5, d6, d7, d8, d9, d10⟩ := cells11 (unhide KK)
 go_wp2_with fail
 clear d0 d1 d2 d3 d4 d5 d6 d7 d8 d9 d10
 refine (unhide C3 _ (unhide H).more).mono ?_
 rintro e w4 ⟨rfl, rfl⟩
 have hn3 : ¬ P4 < 0 := by omega
 obtain ⟨d0, d1, d2, d3, d4, d5, d6, d7, d8, d9, d10⟩ := cells11 (unhide KK)
 go_wp2_with fail
 clear d0 d1 d2 d3 d4 d5 d6 d7 d8 d9 d10
 refine (heldWantS_nil P4).mono ?_
 rintro e w5 ⟨rfl, rfl⟩
 obtain ⟨d0, d1, d2, d3, d4, d5, d6, d7, d8, d9, d10⟩ := cells11 (unhide KK)
 go_wp2_with fail
 clear d0 d1 d2 d3 d4 d5 d6 d7 d8 d9 d10
 refine (heldWantS_nil P4).mono ?_
 rintro e w6 ⟨rfl, rfl⟩
 go_wp2_with fail
 go_ret
 exact ⟨rfl, b0⟩
end Go.Proofs.YtjgfljndeolmoaaGreat
