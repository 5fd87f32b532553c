/-
  Contract of a helper of the laws for messages that came in (markMsg). Contract of the laws' markTxn. Plain facts: a record's data as bytes. No program is named here. Plain facts: what DataPut and RrPut answer. No program is named here. Plain facts: which messages may be, and their bytes. No program is named here. Plain facts: which transactions may be. No program is named here.
-/
import Derived.Test.YtfbfakdkemlbmaaGreatTxnBytesG11
import Derived.Test.YtfbfakdkemlbmaaGreatTxnBytesG13
import Derived.Test.YtfbfakdkemlbmaaGreatTxnBytesG14
import Derived.Test.YtfbfakdkemlbmaaGreatTxnBytesG12
import Derived.Test.YtfbfakdkemlbmaaGreatTxnBytesG04
import Derived.Test.YtfbfakdkemlbmaaGreatTxnBytesG05
import Derived.Test.YtfbfakdkemlbmaaGreatTxnBytesG06
namespace Go.Proofs.YtfbfakdkemlbmaaGreat
open Go.RowKit
set_option linter.unusedVariables false

set_option maxHeartbeats 4000000 in
set_option maxRecDepth 100000 in
theorem markMsg_out {m : Mg} (hs : SizeM 1048576 m) (hc : m.count ≤ 1048576) (B E : Nat) (vq va vb vm vp vu : Value) (w : World) (hEw : E ≤ w.heap.size) (h : OwnM B E w vq va vb vm vp vu m) :
  Calls Tryz.prog 22 #[.agg #[.int .i64 m.id, .bool m.reply, .int .i64 m.op, .bool m.auth, .int .i64 m.code, vq, va, vb, vm, vp, vu], .int .i64 1] w fun e w' => (∃ P : Int, e = .returned (.int .i64 P) ∧ 0 ≤ P ∧ P ≤ 8000000000000000000) ∧ Outside B E w w' := by
 obtain ⟨s1, s2, s3, s4, s5, a0, a1, a2, a3, a4, a5, h0, h1, h2, h3, h4, h5⟩ := h
 obtain ⟨xq, yq, rfl, _⟩ := h0.form
 obtain ⟨xa, ya, rfl, _⟩ := h1.form
 obtain ⟨xb, yb, rfl, _⟩ := h2.form
 obtain ⟨xm, ym, rfl, _⟩ := h3.form
 obtain ⟨xp, yp, rfl, _⟩ := h4.form
 obtain ⟨xu, yu, rfl, _⟩ := h5.form
 have b0 := below_alloc (w := w) (.cells #[.int .i64 m.id, .bool m.reply, .int .i64 m.op, .bool m.auth, .int .i64 m.code, .slice xq m.qs.length yq, .slice xa m.ans.length ya, .slice xb m.aus.length yb, .slice xm m.more.length ym, .slice xp m.pres.length yp, .slice xu m.ups.length yu] 37)
 have KK := hide (heap_alloc_new w (.cells #[.int .i64 m.id, .bool m.reply, .int .i64 m.op, .bool m.auth, .int .i64 m.code, .slice xq m.qs.length yq, .slice xa m.ans.length ya, .slice xb m.aus.length yb, .slice xm m.more.length ym, .slice xp m.pres.length yp, .slice xu m.ups.length yu] 37))
 unfold Mg.count at hc
 have H0 := hide (RowX.below (ownsQu 27 5) h0 b0)
 have H1 := hide (RowO.below h1 b0)
 have H2 := hide (RowO.below h2 b0)
 have H3 := hide (RowO.below h3 b0)
 have H4 := hide (RowX.below (ownsWn 27 5 3) h4 b0)
 have H5 := hide (RowX.below (ownsWn 27 5 3) h5 b0)
 have bz := b0.size
 have HS := hide hs
 clear h0 h1 h2 h3 h4 h5 hs
 have q0 := posQs_bound (l := m.qs) (unhide HS).qs 1 m.qs.length (Nat.le_refl _)
 obtain ⟨d0, d1, d2, d3, d4, d5, d6, d7, d8, d9, d10⟩ := cells11 (unhide KK)
 go_enter Tryz.func22, Tryz.ntmps22
 go_wp2_with fail
 clear d0 d1 d2 d3 d4 d5 d6 d7 d8 d9 d10
 generalize w.alloc (.cells #[.int .i64 m.id, .bool m.reply, .int .i64 m.op, .bool m.auth, .int .i64 m.code, .slice xq m.qs.length yq, .slice xa m.ans.length ya, .slice xb m.aus.length yb, .slice xm m.more.length ym, .slice xp m.pres.length yp, .slice xu m.ups.length yu] 37) = W at *
 have OUT := hide (Outside.refl B E W)
 refine (markQuestionS_own (unhide HS).qs (by omega) 1 (by omega) (by omega) (by omega) (unhide H0)).mono ?_
 rintro e w1 ⟨rfl, _, u1⟩
 generalize posQs m.qs 1 m.qs.length = P1 at *
 have z1 := u1.size
 replace H1 := hide (RowO.outside (unhide H1) u1 (by omega))
 replace H2 := hide (RowO.outside (unhide H2) u1 (by omega))
 replace H3 := hide (RowO.outside (unhide H3) u1 (by omega))
 replace H4 := hide (RowX.outside (ownsWn 27 5 3) (unhide H4) u1 (by omega))
 replace H5 := hide (RowX.outside (ownsWn 27 5 3) (unhide H5) u1 (by omega))
 replace KK := hide (u1.kept (unhide KK) (by omega))
 replace OUT := hide ((unhide OUT).trans (u1.wide (by omega) (by omega)))
 clear u1 H0
 obtain ⟨d0, d1, d2, d3, d4, d5, d6, d7, d8, d9, d10⟩ := cells11 (unhide KK)
 go_wp2_with fail
 clear d0 d1 d2 d3 d4 d5 d6 d7 d8 d9 d10
 have q1 := posRs_bound (rs := m.ans) (unhide HS).ans P1 m.ans.length (Nat.le_refl _)
 refine (markRrS_own (unhide HS).ans (by omega) P1 (by omega) (by omega) (by omega) (unhide H1)).mono ?_
 rintro e w2 ⟨rfl, _, u2⟩
 generalize posRs m.ans P1 m.ans.length = P2 at *
 have z2 := u2.size
 replace H2 := hide (RowO.outside (unhide H2) u2 (by omega))
 replace H3 := hide (RowO.outside (unhide H3) u2 (by omega))
 replace H4 := hide (RowX.outside (ownsWn 27 5 3) (unhide H4) u2 (by omega))
 replace H5 := hide (RowX.outside (ownsWn 27 5 3) (unhide H5) u2 (by omega))
 replace KK := hide (u2.kept (unhide KK) (by omega))
 replace OUT := hide ((unhide OUT).trans (u2.wide (by omega) (by omega)))
 clear u2 H1
 obtain ⟨d0, d1, d2, d3, d4, d5, d6, d7, d8, d9, d10⟩ := cells11 (unhide KK)
 go_wp2_with fail
 clear d0 d1 d2 d3 d4 d5 d6 d7 d8 d9 d10
 have q2 := posRs_bound (rs := m.aus) (unhide HS).aus P2 m.aus.length (Nat.le_refl _)
 refine (markRrS_own (unhide HS).aus (by omega) P2 (by omega) (by omega) (by omega) (unhide H2)).mono ?_
 rintro e w3 ⟨rfl, _, u3⟩
 generalize posRs m.aus P2 m.aus.length = P3 at *
 have z3 := u3.size
 replace H3 := hide (RowO.outside (unhide H3) u3 (by omega))
 replace H4 := hide (RowX.outside (ownsWn 27 5 3) (unhide H4) u3 (by omega))
 replace H5 := hide (RowX.outside (ownsWn 27 5 3) (unhide H5) u3 (by omega))
 replace KK := hide (u3.kept (unhide KK) (by omega))
 replace OUT := hide ((unhide OUT).trans (u3.wide (by omega) (by omega)))
 clear u3 H2
 obtain ⟨d0, d1, d2, d3, d4, d5, d6, d7, d8, d9, d10⟩ := cells11 (unhide KK)
 go_wp2_with fail
 clear d0 d1 d2 d3 d4 d5 d6 d7 d8 d9 d10
 have q3 := posRs_bound (rs := m.more) (unhide HS).more P3 m.more.length (Nat.le_refl _)
 refine (markRrS_own (unhide HS).more (by omega) P3 (by omega) (by omega) (by omega) (unhide H3)).mono ?_
 rintro e w4 ⟨rfl, _, u4⟩
 generalize posRs m.more P3 m.more.length = P4 at *
 have z4 := u4.size
 replace H4 := hide (RowX.outside (ownsWn 27 5 3) (unhide H4) u4 (by omega))
 replace H5 := hide (RowX.outside (ownsWn 27 5 3) (unhide H5) u4 (by omega))
 replace KK := hide (u4.kept (unhide KK) (by omega))
 replace OUT := hide ((unhide OUT).trans (u4.wide (by omega) (by omega)))
 clear u4 H3
 obtain ⟨d0, d1, d2, d3, d4, d5, d6, d7, d8, d9, d10⟩ := cells11 (unhide KK)
 go_wp2_with fail
 clear d0 d1 d2 d3 d4 d5 d6 d7 d8 d9 d10
 refine (markWantS_any (unhide HS).pres (by omega) P4 (by omega) (by omega) (by omega) (unhide H4)).mono ?_
 rintro e w5 ⟨⟨P5, rfl, p5a, p5b⟩, u5⟩
 have z5 := u5.size
 replace H5 := hide (RowX.outside (ownsWn 27 5 3) (unhide H5) u5 (by omega))
 replace KK := hide (u5.kept (unhide KK) (by omega))
 replace OUT := hide ((unhide OUT).trans (u5.wide (by omega) (by omega)))
 clear u5 H4
 obtain ⟨d0, d1, d2, d3, d4, d5, d6, d7, d8, d9, d10⟩ := cells11 (unhide KK)
 go_wp2_with fail
 clear d0 d1 d2 d3 d4 d5 d6 d7 d8 d9 d10
 refine (markWantS_any (unhide HS).ups (by omega) P5 (by omega) (by omega) (by omega) (unhide H5)).mono ?_
 rintro e w6 ⟨⟨P6, rfl, p6a, p6b⟩, u6⟩
 have z6 := u6.size
 replace KK := hide (u6.kept (unhide KK) (by omega))
 replace OUT := hide ((unhide OUT).trans (u6.wide (by omega) (by omega)))
 clear u6 H5
 go_wp2_with fail
 go_ret
 have u := unhide OUT
 exact ⟨⟨P6, rfl, by omega, by omega⟩, ⟨u.os.trans b0.os, u.tape.trans b0.tape, u.output.trans b0.output, by omega, fun k hk hn => (u.block k (by omega) hn).trans (b0.block k hk)⟩⟩
end Go.Proofs.YtfbfakdkemlbmaaGreat

namespace Go.Proofs.YtfbfakdkemlbmaaGreat
open Go.RowKit
set_option linter.unusedVariables false

set_option maxHeartbeats 4000000 in
set_option maxRecDepth 100000 in
theorem markTxn_out {t : Tx} (hs : SizeTx 1048576 t) (B E : Nat) (vq va vb vm vp vu vc vh : Value) (w : World) (hEw : E ≤ w.heap.size) (h : OwnTx B E w vq va vb vm vp vu vc vh t) :
  Calls Tryz.prog 10 #[.agg #[.int .i64 t.kind, .int .i64 t.msg.id, .bool t.msg.reply, .int .i64 t.msg.op, .bool t.msg.auth, .int .i64 t.msg.code, vq, va, vb, vm, vp, vu, .int .i64 t.ip, vc, vh, .int .i64 t.when], .int .i64 1] w fun e w' => (∃ P : Int, e = .returned (.int .i64 P) ∧ 0 ≤ P ∧ P ≤ 9000000000000000000) ∧ Outside B E w w' := by
 obtain ⟨xq, yq, rfl, _, zq⟩ := h.has.msg.qs.form
 obtain ⟨xa, ya, rfl, _, za⟩ := h.has.msg.ans.form
 obtain ⟨xb, yb, rfl, _, zb⟩ := h.has.msg.aus.form
 obtain ⟨xm, ym, rfl, _, zm⟩ := h.has.msg.more.form
 obtain ⟨xp, yp, rfl, _, zp⟩ := h.has.msg.pres.form
 obtain ⟨xu, yu, rfl, _, zu⟩ := h.has.msg.ups.form
 have hcb := h.has.client.bound
 have hhb := h.has.host.bound
 obtain ⟨xc, yc, rfl, _⟩ := h.has.client.form
 obtain ⟨xh, yh, rfl, _⟩ := h.has.host.form
 obtain ⟨s1, s2, a1, a2, a3, h1, h2, h3⟩ := h
 have b0 := below_alloc (w := w) (.cells #[.int .i64 t.kind, .int .i64 t.msg.id, .bool t.msg.reply, .int .i64 t.msg.op, .bool t.msg.auth, .int .i64 t.msg.code, .slice xq t.msg.qs.length yq, .slice xa t.msg.ans.length ya, .slice xb t.msg.aus.length yb, .slice xm t.msg.more.length ym, .slice xp t.msg.pres.length yp, .slice xu t.msg.ups.length yu, .int .i64 t.ip, .slice xc t.client.length yc, .slice xh t.host.length yh, .int .i64 t.when] 39)
 have KK := hide (heap_alloc_new w (.cells #[.int .i64 t.kind, .int .i64 t.msg.id, .bool t.msg.reply, .int .i64 t.msg.op, .bool t.msg.auth, .int .i64 t.msg.code, .slice xq t.msg.qs.length yq, .slice xa t.msg.ans.length ya, .slice xb t.msg.aus.length yb, .slice xm t.msg.more.length ym, .slice xp t.msg.pres.length yp, .slice xu t.msg.ups.length yu, .int .i64 t.ip, .slice xc t.client.length yc, .slice xh t.host.length yh, .int .i64 t.when] 39))
 have MK := fun (w : World) (hw : s1 ≤ w.heap.size) (h : OwnM B s1 w (.slice xq t.msg.qs.length yq) (.slice xa t.msg.ans.length ya) (.slice xb t.msg.aus.length yb) (.slice xm t.msg.more.length ym) (.slice xp t.msg.pres.length yp) (.slice xu t.msg.ups.length yu) t.msg) => markMsg_out hs.msg hs.count B s1 _ _ _ _ _ _ w hw h
 have H1 := hide (h1.below b0)
 have H2 := hide (h2.below b0)
 have H3 := hide (h3.below b0)
 have hlc := hs.client
 have hlh := hs.host
 have bz := b0.size
 replace MK := hide MK
 clear h1 h2 h3 hs
 obtain ⟨d0, d1, d2, d3, d4, d5, d6, d7, d8, d9, d10, d11, d12, d13, d14, d15⟩ := cells16 (unhide KK)
 go_enter Tryz.func10, Tryz.ntmps10
 go_wp2_with fail
 clear d0 d1 d2 d3 d4 d5 d6 d7 d8 d9 d10 d11 d12 d13 d14 d15
 have zk := block_lt (unhide KK)
 have hkb : w.heap.size < s1 ∨ E ≤ w.heap.size := .inr hEw
 generalize w.alloc (.cells #[.int .i64 t.kind, .int .i64 t.msg.id, .bool t.msg.reply, .int .i64 t.msg.op, .bool t.msg.auth, .int .i64 t.msg.code, .slice xq t.msg.qs.length yq, .slice xa t.msg.ans.length ya, .slice xb t.msg.aus.length yb, .slice xm t.msg.more.length ym, .slice xp t.msg.pres.length yp, .slice xu t.msg.ups.length yu, .int .i64 t.ip, .slice xc t.client.length yc, .slice xh t.host.length yh, .int .i64 t.when] 39) = W at *
 refine (unhide MK _ (by omega) (unhide H1)).mono ?_
 rintro e w1 ⟨⟨P, rfl, hP0, hP1⟩, u1⟩
 have z1 := u1.size
 replace KK := hide (u1.kept (unhide KK) (by omega))
 replace H2 := hide ((unhide H2).outside u1 (by omega))
 replace H3 := hide ((unhide H3).outside u1 (by omega))
 have OUT := hide (u1.wide (show B ≤ B from Nat.le_refl _) (show s1 ≤ E by omega))
 clear u1 H1 MK
 obtain ⟨d0, d1, d2, d3, d4, d5, d6, d7, d8, d9, d10, d11, d12, d13, d14, d15⟩ := cells16 (unhide KK)
 go_wp2_with fail
 clear d0 d1 d2 d3 d4 d5 d6 d7 d8 d9 d10 d11 d12 d13 d14 d15
 refine (markByteS_any P (unhide H2).1 (by omega) hP0 (by omega)).mono ?_
 rintro e w2 ⟨rfl, o2, g2⟩
 obtain ⟨_, u2⟩ := (unhide H2).marks o2 g2
 have z2 := u2.size
 replace KK := hide (u2.kept (unhide KK) (by omega))
 replace H3 := hide ((unhide H3).outside u2 (by omega))
 replace OUT := hide ((unhide OUT).trans (u2.wide (by omega) (by omega)))
 clear u2 H2 o2 g2
 obtain ⟨d0, d1, d2, d3, d4, d5, d6, d7, d8, d9, d10, d11, d12, d13, d14, d15⟩ := cells16 (unhide KK)
 go_wp2_with fail
 clear d0 d1 d2 d3 d4 d5 d6 d7 d8 d9 d10 d11 d12 d13 d14 d15
 refine (markByteS_any (P + t.client.length) (unhide H3).1 (by omega) (by omega) (by omega)).mono ?_
 rintro e w3 ⟨rfl, o3, g3⟩
 obtain ⟨_, u3⟩ := (unhide H3).marks o3 g3
 have z3 := u3.size
 replace OUT := hide ((unhide OUT).trans (u3.wide (by omega) (by omega)))
 clear u3 H3 o3 g3
 go_wp2_with fail
 go_ret
 have u := unhide OUT
 exact ⟨⟨_, rfl, by omega, by omega⟩, ⟨u.os.trans b0.os, u.tape.trans b0.tape, u.output.trans b0.output, by omega, fun k hk hn => (u.block k (by omega) hn).trans (b0.block k hk)⟩⟩
end Go.Proofs.YtfbfakdkemlbmaaGreat

namespace Go.Proofs.YtfbfakdkemlbmaaGreat
open Go.RowKit

/-- The data, as bytes. -/
def dataB (r : Rec) : List Int :=
 if r.type = 1 then put32 [] r.addr else if r.type = 6 then put32 (put32 (wire r.to) (r.nums.getD 0 0)) (r.nums.getD 1 0) else if named r.type = true then wire r.to else (r.text.length : Int) :: r.text

/-- What the data of a record that may be are: of its four kinds one. -/
theorem data_kinds {r : Rec} (ht : typeOk r.type = true) (h : dataOk r = true) :
  (r.type = 1 ∧ 0 ≤ r.addr ∧ r.addr ≤ 4294967295 ∧ dataB r = put32 [] r.addr) ∨ ((r.type = 2 ∨ r.type = 5 ∨ r.type = 12) ∧ nameOk r.to = true ∧ dataB r = wire r.to) ∨
  (r.type = 6 ∧ nameOk r.to = true ∧ (∃ x y, r.nums = [x, y] ∧ 0 ≤ x ∧ x ≤ 4294967295 ∧ 0 ≤ y ∧ y ≤ 100000 ∧ dataB r = put32 (put32 (wire r.to) x) y)) ∨ ((r.type = 16 ∨ r.type = 49) ∧ r.text.length ≤ 40 ∧ dataB r = (r.text.length : Int) :: r.text) := by
 have ht' : r.type = 1 ∨ r.type = 2 ∨ r.type = 5 ∨ r.type = 6 ∨ r.type = 12 ∨ r.type = 16 ∨ r.type = 49 := of_decide_eq_true ht
 unfold dataOk at h
 simp only [Bool.and_eq_true] at h
 obtain ⟨h1, h2, h3, h4⟩ := h
 by_cases e1 : r.type = 1
 ·left
  rw [if_pos e1] at h1
  have := of_decide_eq_true h1
  exact ⟨e1, this.1, this.2, by unfold dataB; rw [if_pos e1]⟩
 by_cases e6 : r.type = 6
 ·right; right; left
  have hn : named r.type = true := decide_eq_true (by omega)
  rw [if_pos hn] at h2
  rw [if_pos e6] at h4
  have h5 := of_decide_eq_true h4
  obtain ⟨x, y, hxy⟩ := two_of h5.1
  rw [hxy] at h5
  refine ⟨e6, h2, x, y, hxy, h5.2.1, h5.2.2.1, h5.2.2.2.1, h5.2.2.2.2, ?_⟩
  unfold dataB
  rw [if_neg e1, if_pos e6, hxy]
  rfl
 by_cases en : r.type = 2 ∨ r.type = 5 ∨ r.type = 12
 ·right; left
  have hn : named r.type = true := decide_eq_true (by omega)
  rw [if_pos hn] at h2
  exact ⟨en, h2, by unfold dataB; rw [if_neg e1, if_neg e6, if_pos hn]⟩
 ·right; right; right
  have hx : texted r.type = true := decide_eq_true (by omega)
  have hn : ¬ named r.type = true := by
   intro hh
   have : r.type = 2 ∨ r.type = 5 ∨ r.type = 6 ∨ r.type = 12 := of_decide_eq_true hh
   omega
  rw [if_pos hx] at h3
  exact ⟨by omega, of_decide_eq_true h3, by unfold dataB; rw [if_neg e1, if_neg e6, if_neg hn]⟩
theorem rrOk_parts {r : Rec} (h : rrOk r = true) : nameOk r.name = true ∧ typeOk r.type = true ∧ 0 ≤ r.ttl ∧ r.ttl ≤ 100000 ∧ dataOk r = true := by
 unfold rrOk at h
 simp only [Bool.and_eq_true] at h
 have := of_decide_eq_true h.2.2.1
 exact ⟨h.1, h.2.1, this.1, this.2, h.2.2.2⟩
theorem dataB_length {r : Rec} (h : rrOk r = true) : (dataB r).length ≤ 105 := by
 obtain ⟨_, ht, _, _, hd⟩ := rrOk_parts h
 rcases data_kinds ht hd with ⟨_, _, _, e⟩ | ⟨_, hn, e⟩ | ⟨_, hn, x, y, _, _, _, _, _, e⟩ | ⟨_, hx, e⟩
 ·rw [e]; have := put32_length [] r.addr; simp at this; omega
 ·rw [e]; have := wire_length r.to hn; omega
 ·rw [e]
  have h1 := wire_length r.to hn
  have h2 := put32_length (wire r.to) x
  have h3 := put32_length (put32 (wire r.to) x) y
  omega
 ·rw [e]; simp; omega
end Go.Proofs.YtfbfakdkemlbmaaGreat

namespace Go.Proofs.YtfbfakdkemlbmaaGreat
open Go.RowKit

/-- A record's bytes behind some, with this class and these data. -/
def classB (l : List Int) (r : Rec) (c : Int) (D : List Int) : List Int := put16 (put32 (put16 (put16 (l ++ wire r.name) r.type) c) r.ttl) D.length ++ D
end Go.Proofs.YtfbfakdkemlbmaaGreat

namespace Go.Proofs.YtfbfakdkemlbmaaGreat
open Go.RowKit
set_option linter.unusedVariables false

def que1 (m : Mg) : Que := m.qs.getD 0 queZ
def queOk (l : List Que) : Bool := decide (l.length = 1) && (nameOk (l.getD 0 queZ).name && asked (l.getD 0 queZ).type)
def rrsOk (l : List Rec) : Bool := decide (l.length ≤ 12) && l.all rrOk
def wntOk (x : Wnt) : Bool := wantOk x.rr x.cls x.bare
def wntsOk (l : List Wnt) : Bool := decide (l.length ≤ 12) && l.all wntOk
def opOk (m : Mg) : Bool := if m.op = 0 then (decide (m.pres.length = 0) && decide (m.ups.length = 0)) else if m.op = 5 then (decide ((que1 m).type = 6) && (decide (m.ans.length = 0) && (decide (m.aus.length = 0) && decide (m.more.length = 0)))) else false
def listsOk (m : Mg) : Bool := rrsOk m.ans && (rrsOk m.aus && (rrsOk m.more && (wntsOk m.pres && wntsOk m.ups)))
def mayM (m : Mg) : Bool := decide (0 ≤ m.id ∧ m.id ≤ 65535) && (decide (0 ≤ m.code ∧ m.code ≤ 10) && (queOk m.qs && (opOk m && listsOk m)))

theorem all_take {α : Type} {p : α → Bool} (l : List α) (d : α) : ∀ k, (∀ j, j < k → j < l.length → p (l.getD j d) = true) → (l.take k).all p = true := by
 intro k hk
 rw [List.all_eq_true]
 intro x hx
 obtain ⟨j, hj, e⟩ := List.getElem_of_mem hx
 rw [List.length_take] at hj
 have := hk j (by omega) (by omega)
 rw [List.getD_eq_getElem?_getD, List.getElem?_eq_getElem (by omega), Option.getD_some] at this
 rw [← e, List.getElem_take]
 exact this
theorem all_of {α : Type} {p : α → Bool} (l : List α) (d : α) (h : ∀ j, j < l.length → p (l.getD j d) = true) : l.all p = true := by
 have := all_take (p := p) l d l.length (fun j _ hj => h j hj)
 rwa [List.take_length] at this
theorem all_not {α : Type} {p : α → Bool} (l : List α) (d : α) {k : Nat} (hk : k < l.length) (h : p (l.getD k d) = false) : l.all p = false := by
 rw [List.all_eq_false]
 refine ⟨l[k], List.getElem_mem hk, ?_⟩
 rw [List.getD_eq_getElem?_getD, List.getElem?_eq_getElem hk, Option.getD_some] at h
 simp [h]
theorem all_at {α : Type} {p : α → Bool} {l : List α} (d : α) (h : l.all p = true) {k : Nat} (hk : k < l.length) : p (l.getD k d) = true := by
 rw [List.all_eq_true] at h
 rw [List.getD_eq_getElem?_getD, List.getElem?_eq_getElem hk, Option.getD_some]
 exact h _ (List.getElem_mem hk)

/-! Bytes. -/
def firstM (m : Mg) : Nat := if m.op = 5 then m.pres.length else m.ans.length
def secondM (m : Mg) : Nat := if m.op = 5 then m.ups.length else m.aus.length
def flagsM (m : Mg) : Int := 2048 * m.op + m.code + (if m.reply = true then 32768 else 0) + (if m.auth = true then 1024 else 0)
def headM (m : Mg) : List Int := put16 (put16 (put16 (put16 (put16 (put16 [] m.id) (flagsM m)) 1) (firstM m)) (secondM m)) m.more.length
def queB (l : List Int) (q : Que) : List Int := put16 (put16 (l ++ wire q.name) q.type) 1
def wntB (l : List Int) (x : Wnt) : List Int := classB l x.rr x.cls (if x.bare = true then [] else dataB x.rr)
/-- Wants behind some bytes, the first k. -/
def wntsB (b : List Int) (l : List Wnt) (k : Nat) : List Int := (l.take k).foldl wntB b
def inCl (r : Rec) : Wnt := ⟨r, 1, false⟩
def bytesM (m : Mg) : List Int := ((((queB (headM m) (que1 m) |> fun b => wntsB b m.pres m.pres.length) |> fun b => wntsB b m.ups m.ups.length) |> fun b => wntsB b (m.ans.map inCl) m.ans.length) |> fun b => wntsB b (m.aus.map inCl) m.aus.length) |> fun b => wntsB b (m.more.map inCl) m.more.length
def okM (m : Mg) : Bool := mayM m && decide ((bytesM m).length ≤ 512)

theorem wntsB_zero (b : List Int) (l : List Wnt) : wntsB b l 0 = b := rfl
theorem wntsB_succ (b : List Int) (l : List Wnt) (k : Nat) (hk : k < l.length) : wntsB b l (k + 1) = wntB (wntsB b l k) (l.getD k wntZ) := by
 unfold wntsB
 rw [List.take_succ_eq_append_getElem hk, List.foldl_append, List.getD_eq_getElem?_getD, List.getElem?_eq_getElem hk]
 rfl
theorem classB_length (l : List Int) {r : Rec} (c : Int) {D : List Int} (h : nameOk r.name = true) (hd : D.length ≤ 105) : (classB l r c D).length ≤ l.length + 212 := by
 have h1 := wire_length r.name h
 have h3 := put16_length (l ++ wire r.name) r.type
 have h4 := put16_length (put16 (l ++ wire r.name) r.type) c
 have h5 := put32_length (put16 (put16 (l ++ wire r.name) r.type) c) r.ttl
 have h6 := put16_length (put32 (put16 (put16 (l ++ wire r.name) r.type) c) r.ttl) D.length
 unfold classB
 rw [List.length_append] at h3 ⊢
 omega
/-- What is known of a want that may be. -/
theorem wntOk_name {x : Wnt} (h : wntOk x = true) : nameOk x.rr.name = true := by
 unfold wntOk wantOk at h
 split at h
 ·unfold bareOk at h
  simp only [Bool.and_eq_true] at h
  exact h.2.1
 ·split at h
  ·exact (rrOk_parts h).1
  ·split at h
   ·simp only [Bool.and_eq_true] at h
    exact (rrOk_parts h.1).1
   ·simp at h
theorem wntOk_rr {x : Wnt} (h : wntOk x = true) (hb : x.bare = false) : rrOk x.rr = true := by
 unfold wntOk wantOk at h
 rw [hb, if_neg (by simp)] at h
 split at h
 ·exact h
 ·split at h
  ·simp only [Bool.and_eq_true] at h
   exact h.1
  ·simp at h
theorem wntOk_in {r : Rec} (h : rrOk r = true) : wntOk (inCl r) = true := by
 unfold wntOk wantOk inCl
 simp [h]
theorem wntB_length (l : List Int) {x : Wnt} (h : wntOk x = true) : (wntB l x).length ≤ l.length + 212 := by
 unfold wntB
 refine classB_length l x.cls (wntOk_name h) ?_
 cases hb : x.bare with
 | true => simp
 | false => simpa using dataB_length (wntOk_rr h hb)
theorem wntsB_length (b : List Int) {l : List Wnt} (h : ∀ j, j < l.length → wntOk (l.getD j wntZ) = true) : ∀ k, k ≤ l.length → (wntsB b l k).length ≤ b.length + 212 * k
 | 0, _ => by simp [wntsB]
 | k + 1, hk => by
  rw [wntsB_succ b l k (by omega)]
  have h1 := wntB_length (wntsB b l k) (h k (by omega))
  have h2 := wntsB_length b h k (by omega)
  omega
theorem headM_length (m : Mg) : (headM m).length ≤ 12 := by
 unfold headM
 have h1 := put16_length [] m.id
 have h2 := put16_length (put16 [] m.id) (flagsM m)
 have h3 := put16_length (put16 (put16 [] m.id) (flagsM m)) 1
 have h4 := put16_length (put16 (put16 (put16 [] m.id) (flagsM m)) 1) (firstM m)
 have h5 := put16_length (put16 (put16 (put16 (put16 [] m.id) (flagsM m)) 1) (firstM m)) (secondM m)
 have h6 := put16_length (put16 (put16 (put16 (put16 (put16 [] m.id) (flagsM m)) 1) (firstM m)) (secondM m)) m.more.length
 simp only [List.length_nil] at h1
 omega
theorem queB_length (l : List Int) {q : Que} (h : nameOk q.name = true) : (queB l q).length ≤ l.length + 101 := by
 have h1 := wire_length q.name h
 have h3 := put16_length (l ++ wire q.name) q.type
 have h4 := put16_length (put16 (l ++ wire q.name) q.type) 1
 unfold queB
 rw [List.length_append] at h3
 omega
theorem map_getD (l : List Rec) {k : Nat} (hk : k < l.length) : (l.map inCl).getD k wntZ = inCl (l.getD k recZ) := by
 simp [List.getD, hk]
/-- What is known of a message that may be. -/
theorem mayM_parts {m : Mg} (h : mayM m = true) : (0 ≤ m.id ∧ m.id ≤ 65535) ∧ (0 ≤ m.code ∧ m.code ≤ 10) ∧ m.qs.length = 1 ∧ nameOk (que1 m).name = true ∧ asked (que1 m).type = true ∧ (m.op = 0 ∨ m.op = 5) ∧
  (m.ans.length ≤ 12 ∧ m.aus.length ≤ 12 ∧ m.more.length ≤ 12 ∧ m.pres.length ≤ 12 ∧ m.ups.length ≤ 12) ∧ (∀ j, j < m.ans.length → rrOk (m.ans.getD j recZ) = true) ∧ (∀ j, j < m.aus.length → rrOk (m.aus.getD j recZ) = true) ∧ (∀ j, j < m.more.length → rrOk (m.more.getD j recZ) = true) ∧
  (∀ j, j < m.pres.length → wntOk (m.pres.getD j wntZ) = true) ∧ (∀ j, j < m.ups.length → wntOk (m.ups.getD j wntZ) = true) := by
 unfold mayM queOk listsOk rrsOk wntsOk at h
 simp only [Bool.and_eq_true, decide_eq_true_eq] at h
 obtain ⟨h1, h2, ⟨h3, h4, h5⟩, h6, ⟨a1, a2⟩, ⟨b1, b2⟩, ⟨c1, c2⟩, ⟨d1, d2⟩, e1, e2⟩ := h
 refine ⟨h1, h2, h3, h4, h5, ?_, ⟨a1, b1, c1, d1, e1⟩, fun j hj => all_at _ a2 hj, fun j hj => all_at _ b2 hj, fun j hj => all_at _ c2 hj, fun j hj => all_at _ d2 hj, fun j hj => all_at _ e2 hj⟩
 unfold opOk at h6
 split at h6
 ·exact .inl (by assumption)
 ·split at h6
  ·exact .inr (by assumption)
  ·simp at h6
/-- The bytes, part by part: none is longer than this. -/
theorem bytesM_parts {m : Mg} (h : mayM m = true) : ∃ b0 b1 b2 b3 b4, b0 = queB (headM m) (que1 m) ∧ b1 = wntsB b0 m.pres m.pres.length ∧ b2 = wntsB b1 m.ups m.ups.length ∧ b3 = wntsB b2 (m.ans.map inCl) m.ans.length ∧ b4 = wntsB b3 (m.aus.map inCl) m.aus.length ∧ bytesM m = wntsB b4 (m.more.map inCl) m.more.length ∧
  b0.length ≤ 113 ∧ b1.length ≤ 2657 ∧ b2.length ≤ 5201 ∧ b3.length ≤ 7745 ∧ b4.length ≤ 10289 ∧ (bytesM m).length ≤ 12833 := by
 obtain ⟨_, _, _, hn, _, _, ⟨a1, b1, c1, d1, e1⟩, ha, hb, hc, hd, he⟩ := mayM_parts h
 have inl : ∀ {l : List Rec}, (∀ j, j < l.length → rrOk (l.getD j recZ) = true) → ∀ j, j < (l.map inCl).length → wntOk ((l.map inCl).getD j wntZ) = true := fun hl j hj => by
  rw [List.length_map] at hj
  rw [map_getD _ hj]
  exact wntOk_in (hl j hj)
 refine ⟨_, _, _, _, _, rfl, rfl, rfl, rfl, rfl, rfl, ?_⟩
 have q0 := queB_length (headM m) hn
 have q00 := headM_length m
 have q1 := wntsB_length (queB (headM m) (que1 m)) hd m.pres.length (Nat.le_refl _)
 have q2 := wntsB_length (wntsB (queB (headM m) (que1 m)) m.pres m.pres.length) he m.ups.length (Nat.le_refl _)
 have q3 := wntsB_length (wntsB (wntsB (queB (headM m) (que1 m)) m.pres m.pres.length) m.ups m.ups.length) (inl ha) m.ans.length (by simp)
 have q4 := wntsB_length (wntsB (wntsB (wntsB (queB (headM m) (que1 m)) m.pres m.pres.length) m.ups m.ups.length) (m.ans.map inCl) m.ans.length) (inl hb) m.aus.length (by simp)
 have q5 := wntsB_length (wntsB (wntsB (wntsB (wntsB (queB (headM m) (que1 m)) m.pres m.pres.length) m.ups m.ups.length) (m.ans.map inCl) m.ans.length) (m.aus.map inCl) m.aus.length) (inl hc) m.more.length (by simp)
 have e5 : bytesM m = wntsB (wntsB (wntsB (wntsB (wntsB (queB (headM m) (que1 m)) m.pres m.pres.length) m.ups m.ups.length) (m.ans.map inCl) m.ans.length) (m.aus.map inCl) m.aus.length) (m.more.map inCl) m.more.length := rfl
 rw [e5]
 refine ⟨by omega, by omega, by omega, by omega, by omega, by omega⟩
end Go.Proofs.YtfbfakdkemlbmaaGreat

namespace Go.Proofs.YtfbfakdkemlbmaaGreat
open Go.RowKit
set_option linter.unusedVariables false

def emptyM (m : Mg) : Bool := decide (m.id = 0) && (!m.reply && (decide (m.op = 0) && (!m.auth && (decide (m.code = 0) && decide (m.count = 0)))))
def ipB (i : Int) : Bool := decide (167772160 < i ∧ i ≤ 167772414)
def clientB (l : List Int) : Bool := decide (1 ≤ l.length ∧ l.length ≤ 16)
def txOk (t : Tx) : Bool :=
 if t.kind = 0 then okM t.msg && (decide (t.msg.op = 5) && (!t.msg.reply && (decide (t.ip = 0) && (decide (t.client.length = 0) && (decide (t.host.length = 0) && decide (t.when = 0))))))
 else if t.kind = 1 then emptyM t.msg && (ipB t.ip && (clientB t.client && (labelOk t.host && (decide (0 ≤ t.when ∧ t.when ≤ 2000000)))))
 else if t.kind = 2 then emptyM t.msg && (ipB t.ip && (clientB t.client && (decide (t.host.length = 0) && decide (t.when = 0))))
 else if t.kind = 3 then emptyM t.msg && (decide (t.ip = 0) && (decide (t.client.length = 0) && (decide (t.host.length = 0) && decide (0 ≤ t.when ∧ t.when ≤ 1000000))))
 else false
theorem wrap_intT (x : Int) (h0 : 0 ≤ x) (h1 : x < 9223372036854775808) : IntKind.i64.wrap x = x := by
 have := wrap_small x.toNat (by omega)
 rwa [Int.toNat_of_nonneg h0] at this
end Go.Proofs.YtfbfakdkemlbmaaGreat
