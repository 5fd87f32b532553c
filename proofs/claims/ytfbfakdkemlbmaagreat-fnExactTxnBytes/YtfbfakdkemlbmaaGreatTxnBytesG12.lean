/-
  Contracts of the helpers of the laws for transactions (szTxn, toTxn, eqTxn). Contracts of the byte helpers of the laws (markByteS, heldByteS): what each answers and what it leaves in memory.
-/
import Derived.Test.YtfbfakdkemlbmaaGreatTxnBytesG06
import Derived.Test.YtfbfakdkemlbmaaGreatTxnBytesG11
import Derived.Test.YtfbfakdkemlbmaaGreatTxnBytesG07
import Derived.Test.YtfbfakdkemlbmaaGreatTxnBytesG01
namespace Go.Proofs.YtfbfakdkemlbmaaGreat
open Go.RowKit
set_option linter.unusedVariables false

theorem ownM_wide {B E B2 E2 : Nat} {w : World} {vq va vb vm vp vu : Value} {m : Mg} (h : OwnM B E w vq va vb vm vp vu m) (hB : B2 ≤ B) (hE : E ≤ E2) : OwnM B2 E2 w vq va vb vm vp vu m := by
 obtain ⟨s1, s2, s3, s4, s5, a0, a1, a2, a3, a4, a5, h0, h1, h2, h3, h4, h5⟩ := h
 exact ⟨s1, s2, s3, s4, s5, by omega, a1, a2, a3, a4, by omega, RowX.wide h0 hB (Nat.le_refl _), h1, h2, h3, h4, RowX.wide h5 (Nat.le_refl _) hE⟩
/-- The slices of a transaction own its lists, in blocks of B .. E - 1. -/
def OwnTx (B E : Nat) (w : World) (vq va vb vm vp vu vc vh : Value) (t : Tx) : Prop := ∃ s1 s2, B ≤ s1 ∧ s1 ≤ s2 ∧ s2 ≤ E ∧ OwnM B s1 w vq va vb vm vp vu t.msg ∧ OwnB s1 s2 5 w vc t.client ∧ OwnB s2 E 5 w vh t.host
theorem OwnTx.below {B E : Nat} {w w' : World} {vq va vb vm vp vu vc vh : Value} {t : Tx} (h : OwnTx B E w vq va vb vm vp vu vc vh t) (hb : Below w.heap.size w w') : OwnTx B E w' vq va vb vm vp vu vc vh t := by
 obtain ⟨s1, s2, a1, a2, a3, h1, h2, h3⟩ := h
 exact ⟨s1, s2, a1, a2, a3, h1.below hb, h2.below hb, h3.below hb⟩
theorem OwnTx.outside {B E C D : Nat} {w w' : World} {vq va vb vm vp vu vc vh : Value} {t : Tx} (h : OwnTx B E w vq va vb vm vp vu vc vh t) (u : Outside C D w w') (hd : E ≤ C ∨ D ≤ B) : OwnTx B E w' vq va vb vm vp vu vc vh t := by
 obtain ⟨s1, s2, a1, a2, a3, h1, h2, h3⟩ := h
 exact ⟨s1, s2, a1, a2, a3, h1.outside u (by omega), h2.outside u (by omega), h3.outside u (by omega)⟩
theorem OwnTx.has {B E : Nat} {w : World} {vq va vb vm vp vu vc vh : Value} {t : Tx} (h : OwnTx B E w vq va vb vm vp vu vc vh t) : HasTx w vq va vb vm vp vu vc vh t := by
 obtain ⟨s1, s2, a1, a2, a3, h1, h2, h3⟩ := h
 exact ⟨h1.has, h2.has, h3.has⟩

set_option maxHeartbeats 1000000 in
set_option maxRecDepth 100000 in
theorem szTxn_any (aq : Option Addr) (cq : Nat) (aa : Option Addr) (ca : Nat) (ab : Option Addr) (cb : Nat) (am : Option Addr) (cm : Nat) (ap : Option Addr) (cp : Nat) (au : Option Addr) (cu : Nat) (ac : Option Addr) (cc : Nat) (ah : Option Addr) (ch : Nat) (t : Tx) (left : Int) (w : World) (h : InTx w aq aa ab am ap au ac ah t) (hl : t.msg.qs.length ≤ maxLen ∧ t.msg.ans.length ≤ maxLen ∧ t.msg.aus.length ≤ maxLen ∧ t.msg.more.length ≤ maxLen ∧ t.msg.pres.length ≤ maxLen ∧ t.msg.ups.length ≤ maxLen) (hm : SizeM maxLen t.msg) (hc : t.client.length ≤ maxLen) (hh : t.host.length ≤ maxLen) (h0 : 0 ≤ left) (h1 : left ≤ 1048576) :
  Calls Tryz.prog 4 #[.agg #[.int .i64 t.kind, .int .i64 t.msg.id, .bool t.msg.reply, .int .i64 t.msg.op, .bool t.msg.auth, .int .i64 t.msg.code, .slice aq t.msg.qs.length cq, .slice aa t.msg.ans.length ca, .slice ab t.msg.aus.length cb, .slice am t.msg.more.length cm, .slice ap t.msg.pres.length cp, .slice au t.msg.ups.length cu, .int .i64 t.ip, .slice ac t.client.length cc, .slice ah t.host.length ch, .int .i64 t.when], .int .i64 left] w fun e w' => (∃ y : Int, e = .returned (.int .i64 y) ∧ -1 ≤ y ∧ y ≤ left ∧ (0 ≤ y → SizeTx left.toNat t)) ∧ Below w.heap.size w w' := by
 have b0 := below_alloc (w := w) (.cells #[.int .i64 t.kind, .int .i64 t.msg.id, .bool t.msg.reply, .int .i64 t.msg.op, .bool t.msg.auth, .int .i64 t.msg.code, .slice aq t.msg.qs.length cq, .slice aa t.msg.ans.length ca, .slice ab t.msg.aus.length cb, .slice am t.msg.more.length cm, .slice ap t.msg.pres.length cp, .slice au t.msg.ups.length cu, .int .i64 t.ip, .slice ac t.client.length cc, .slice ah t.host.length ch, .int .i64 t.when] 29)
 have KK := hide (heap_alloc_new w (.cells #[.int .i64 t.kind, .int .i64 t.msg.id, .bool t.msg.reply, .int .i64 t.msg.op, .bool t.msg.auth, .int .i64 t.msg.code, .slice aq t.msg.qs.length cq, .slice aa t.msg.ans.length ca, .slice ab t.msg.aus.length cb, .slice am t.msg.more.length cm, .slice ap t.msg.pres.length cp, .slice au t.msg.ups.length cu, .int .i64 t.ip, .slice ac t.client.length cc, .slice ah t.host.length ch, .int .i64 t.when] 29))
 have HC := hide (szMsg_any aq cq aa ca ab cb am cm ap cp au cu t.msg left _ (h.below b0).msg hl hm h0 h1)
 clear h hl hm
 obtain ⟨d0, d1, d2, d3, d4, d5, d6, d7, d8, d9, d10, d11, d12, d13, d14, d15⟩ := cells16 (unhide KK)
 go_enter Tryz.func4, Tryz.ntmps4
 go_wp2_with fail
 clear d0 d1 d2 d3 d4 d5 d6 d7 d8 d9 d10 d11 d12 d13 d14 d15
 generalize w.alloc (.cells #[.int .i64 t.kind, .int .i64 t.msg.id, .bool t.msg.reply, .int .i64 t.msg.op, .bool t.msg.auth, .int .i64 t.msg.code, .slice aq t.msg.qs.length cq, .slice aa t.msg.ans.length ca, .slice ab t.msg.aus.length cb, .slice am t.msg.more.length cm, .slice ap t.msg.pres.length cp, .slice au t.msg.ups.length cu, .int .i64 t.ip, .slice ac t.client.length cc, .slice ah t.host.length ch, .int .i64 t.when] 29) = W at *
 refine (unhide HC).mono ?_
 rintro e w1 ⟨⟨y1, rfl, ya1, yb1, yc1⟩, b1⟩
 replace b0 := below_next b0 b1
 replace KK := hide (block_kept b1 (unhide KK))
 have Y1 := hide yc1
 clear yc1 b1 HC
 by_cases n1 : y1 < 0
 ·go_wp2
  go_ret
  exact ⟨⟨-1, rfl, by omega, by omega, fun q => by omega⟩, b0⟩
 obtain ⟨d0, d1, d2, d3, d4, d5, d6, d7, d8, d9, d10, d11, d12, d13, d14, d15⟩ := cells16 (unhide KK)
 go_wp2_with fail
 clear d0 d1 d2 d3 d4 d5 d6 d7 d8 d9 d10 d11 d12 d13 d14 d15
 refine (szByteS_any ac t.client.length cc y1 w1 hc (by omega) (by omega)).mono ?_
 rintro e w2 ⟨rfl, rfl⟩
 by_cases m1 : (t.client.length : Int) ≤ y1
 ·rw [if_pos m1]
  generalize hg : y1 - (t.client.length : Int) = y2 at *
  have n2 : ¬ y2 < 0 := by omega
  have HG := hide hg
  clear hg
  obtain ⟨d0, d1, d2, d3, d4, d5, d6, d7, d8, d9, d10, d11, d12, d13, d14, d15⟩ := cells16 (unhide KK)
  go_wp2_with fail
  clear d0 d1 d2 d3 d4 d5 d6 d7 d8 d9 d10 d11 d12 d13 d14 d15
  have hg := unhide HG
  refine (szByteS_any ah t.host.length ch y2 w1 hh (by omega) (by omega)).mono ?_
  rintro e w3 ⟨rfl, rfl⟩
  by_cases m2 : (t.host.length : Int) ≤ y2
  ·rw [if_pos m2]
   generalize hg3 : y2 - (t.host.length : Int) = y3 at *
   have n3 : ¬ y3 < 0 := by omega
   have HG3 := hide hg3
   clear hg3 hg
   go_wp2
   go_ret
   have hg := unhide HG
   have hg3 := unhide HG3
   have p1 := unhide Y1 (by omega)
   have p2 := p1.2
   exact ⟨⟨y3, rfl, by omega, by omega, fun _ => ⟨p1.1, by omega, by omega, by omega⟩⟩, b0⟩
  ·rw [if_neg m2]
   clear hg
   go_wp2
   go_ret
   exact ⟨⟨-1, rfl, by omega, by omega, fun q => by omega⟩, b0⟩
 ·rw [if_neg m1]
  go_wp2
  go_ret
  exact ⟨⟨-1, rfl, by omega, by omega, fun q => by omega⟩, b0⟩

set_option maxHeartbeats 4000000 in
set_option maxRecDepth 100000 in
theorem toTxn_own (aq : Option Addr) (cq : Nat) (aa : Option Addr) (ca : Nat) (ab : Option Addr) (cb : Nat) (am : Option Addr) (cm : Nat) (ap : Option Addr) (cp : Nat) (au : Option Addr) (cu : Nat) (ac : Option Addr) (cc : Nat) (ah : Option Addr) (ch : Nat) (t : Tx) (w : World) (h : InTx w aq aa ab am ap au ac ah t) (hs : SizeTx 1048576 t) :
  Calls Tryz.prog 6 #[.agg #[.int .i64 t.kind, .int .i64 t.msg.id, .bool t.msg.reply, .int .i64 t.msg.op, .bool t.msg.auth, .int .i64 t.msg.code, .slice aq t.msg.qs.length cq, .slice aa t.msg.ans.length ca, .slice ab t.msg.aus.length cb, .slice am t.msg.more.length cm, .slice ap t.msg.pres.length cp, .slice au t.msg.ups.length cu, .int .i64 t.ip, .slice ac t.client.length cc, .slice ah t.host.length ch, .int .i64 t.when]] w fun e w' => ∃ vq va vb vm vp vu vc vh, e = .returned (.agg #[.int .i64 t.kind, .int .i64 t.msg.id, .bool t.msg.reply, .int .i64 t.msg.op, .bool t.msg.auth, .int .i64 t.msg.code, vq, va, vb, vm, vp, vu, .int .i64 t.ip, vc, vh, .int .i64 t.when]) ∧ OwnTx w.heap.size w'.heap.size w' vq va vb vm vp vu vc vh t ∧ Below w.heap.size w w' := by
 obtain ⟨hsz, r0, v0⟩ := box3 w (.cells #[.int .i64 t.kind, .int .i64 t.msg.id, .bool t.msg.reply, .int .i64 t.msg.op, .bool t.msg.auth, .int .i64 t.msg.code, .slice aq t.msg.qs.length cq, .slice aa t.msg.ans.length ca, .slice ab t.msg.aus.length cb, .slice am t.msg.more.length cm, .slice ap t.msg.pres.length cp, .slice au t.msg.ups.length cu, .int .i64 t.ip, .slice ac t.client.length cc, .slice ah t.host.length ch, .int .i64 t.when] 29) #[.int .i64 0, .int .i64 0, .bool false, .int .i64 0, .bool false, .int .i64 0, .slice none 0 0, .slice none 0 0, .slice none 0 0, .slice none 0 0, .slice none 0 0, .slice none 0 0, .int .i64 0, .slice none 0 0, .slice none 0 0, .int .i64 0] #[.int .i64 t.kind, .int .i64 0, .bool false, .int .i64 0, .bool false, .int .i64 0, .slice none 0 0, .slice none 0 0, .slice none 0 0, .slice none 0 0, .slice none 0 0, .slice none 0 0, .int .i64 0, .slice none 0 0, .slice none 0 0, .int .i64 0] 39 39
 have bb : Below w.heap.size w (((w.alloc (.cells #[.int .i64 t.kind, .int .i64 t.msg.id, .bool t.msg.reply, .int .i64 t.msg.op, .bool t.msg.auth, .int .i64 t.msg.code, .slice aq t.msg.qs.length cq, .slice aa t.msg.ans.length ca, .slice ab t.msg.aus.length cb, .slice am t.msg.more.length cm, .slice ap t.msg.pres.length cp, .slice au t.msg.ups.length cu, .int .i64 t.ip, .slice ac t.client.length cc, .slice ah t.host.length ch, .int .i64 t.when] 29)).alloc (.cells #[.int .i64 0, .int .i64 0, .bool false, .int .i64 0, .bool false, .int .i64 0, .slice none 0 0, .slice none 0 0, .slice none 0 0, .slice none 0 0, .slice none 0 0, .slice none 0 0, .int .i64 0, .slice none 0 0, .slice none 0 0, .int .i64 0] 39)).alloc (.cells #[.int .i64 t.kind, .int .i64 0, .bool false, .int .i64 0, .bool false, .int .i64 0, .slice none 0 0, .slice none 0 0, .slice none 0 0, .slice none 0 0, .slice none 0 0, .slice none 0 0, .int .i64 0, .slice none 0 0, .slice none 0 0, .int .i64 0] 39)) := ((below_alloc _).alloc (below_alloc _).size _).alloc ((below_alloc _).alloc (below_alloc _).size _).size _
 have k0 : (((w.alloc (.cells #[.int .i64 t.kind, .int .i64 t.msg.id, .bool t.msg.reply, .int .i64 t.msg.op, .bool t.msg.auth, .int .i64 t.msg.code, .slice aq t.msg.qs.length cq, .slice aa t.msg.ans.length ca, .slice ab t.msg.aus.length cb, .slice am t.msg.more.length cm, .slice ap t.msg.pres.length cp, .slice au t.msg.ups.length cu, .int .i64 t.ip, .slice ac t.client.length cc, .slice ah t.host.length ch, .int .i64 t.when] 29)).alloc (.cells #[.int .i64 0, .int .i64 0, .bool false, .int .i64 0, .bool false, .int .i64 0, .slice none 0 0, .slice none 0 0, .slice none 0 0, .slice none 0 0, .slice none 0 0, .slice none 0 0, .int .i64 0, .slice none 0 0, .slice none 0 0, .int .i64 0] 39)).alloc (.cells #[.int .i64 t.kind, .int .i64 0, .bool false, .int .i64 0, .bool false, .int .i64 0, .slice none 0 0, .slice none 0 0, .slice none 0 0, .slice none 0 0, .slice none 0 0, .slice none 0 0, .int .i64 0, .slice none 0 0, .slice none 0 0, .int .i64 0] 39)).heap[w.heap.size]? = some (.cells #[.int .i64 t.kind, .int .i64 t.msg.id, .bool t.msg.reply, .int .i64 t.msg.op, .bool t.msg.auth, .int .i64 t.msg.code, .slice aq t.msg.qs.length cq, .slice aa t.msg.ans.length ca, .slice ab t.msg.aus.length cb, .slice am t.msg.more.length cm, .slice ap t.msg.pres.length cp, .slice au t.msg.ups.length cu, .int .i64 t.ip, .slice ac t.client.length cc, .slice ah t.host.length ch, .int .i64 t.when] 29) := block_kept (below_alloc _) (block_kept (below_alloc _) (heap_alloc_new w _))
 have HI := hide h
 have HS := hide hs
 have KK := hide k0
 have RR := hide r0
 have V := hide v0
 have zv := block_lt v0
 clear h hs r0 v0 hsz
 obtain ⟨d0, d1, d2, d3, d4, d5, d6, d7, d8, d9, d10, d11, d12, d13, d14, d15⟩ := cells16 k0
 clear k0
 go_enter Tryz.func6, Tryz.ntmps6
 go_wp2_with fail
 clear d0 d1 d2 d3 d4 d5 d6 d7 d8 d9 d10 d11 d12 d13 d14 d15
 generalize (((w.alloc (.cells #[.int .i64 t.kind, .int .i64 t.msg.id, .bool t.msg.reply, .int .i64 t.msg.op, .bool t.msg.auth, .int .i64 t.msg.code, .slice aq t.msg.qs.length cq, .slice aa t.msg.ans.length ca, .slice ab t.msg.aus.length cb, .slice am t.msg.more.length cm, .slice ap t.msg.pres.length cp, .slice au t.msg.ups.length cu, .int .i64 t.ip, .slice ac t.client.length cc, .slice ah t.host.length ch, .int .i64 t.when] 29)).alloc (.cells #[.int .i64 0, .int .i64 0, .bool false, .int .i64 0, .bool false, .int .i64 0, .slice none 0 0, .slice none 0 0, .slice none 0 0, .slice none 0 0, .slice none 0 0, .slice none 0 0, .int .i64 0, .slice none 0 0, .slice none 0 0, .int .i64 0] 39)).alloc (.cells #[.int .i64 t.kind, .int .i64 0, .bool false, .int .i64 0, .bool false, .int .i64 0, .slice none 0 0, .slice none 0 0, .slice none 0 0, .slice none 0 0, .slice none 0 0, .slice none 0 0, .int .i64 0, .slice none 0 0, .slice none 0 0, .int .i64 0] 39)) = W at *
 refine (toMsg_own aq cq aa ca ab cb am cm ap cp au cu t.msg _ ((unhide HI).below bb).msg (unhide HS).count (unhide HS).msg).mono ?_
 rintro e w1 ⟨vq, va, vb, vm, vp, vu, rfl, o1, b1⟩
 obtain ⟨xq, yq, rfl, _⟩ := o1.has.qs.form
 obtain ⟨xa, ya, rfl, _⟩ := o1.has.ans.form
 obtain ⟨xb, yb, rfl, _⟩ := o1.has.aus.form
 obtain ⟨xm, ym, rfl, _⟩ := o1.has.more.form
 obtain ⟨xp, yp, rfl, _⟩ := o1.has.pres.form
 obtain ⟨xu, yu, rfl, _⟩ := o1.has.ups.form
 replace bb := below_next bb b1
 replace KK := hide (block_kept b1 (unhide KK))
 replace RR := hide (block_kept b1 (unhide RR))
 replace V := hide (block_kept b1 (unhide V))
 have O1 := hide o1
 have z1 := b1.size
 clear o1 b1
 obtain ⟨d0, d1, d2, d3, d4, d5, d6, d7, d8, d9, d10, d11, d12, d13, d14, d15⟩ := cells16 (unhide KK)
 obtain ⟨f0, f1, f2, f3, f4, f5, f6, f7, f8, f9, f10, f11, f12, f13, f14, f15⟩ := cells16 (unhide V)
 obtain ⟨g0, g1, g2, g3, g4, g5, g6, g7, g8, g9, g10, g11, g12, g13, g14, g15⟩ := frozen16 (unhide V)
 go_wp2_with fail
 clear d0 d1 d2 d3 d4 d5 d6 d7 d8 d9 d10 d11 d12 d13 d14 d15 f0 f1 f2 f3 f4 f5 f6 f7 f8 f9 f10 f11 f12 f13 f14 f15 g0 g1 g2 g3 g4 g5 g6 g7 g8 g9 g10 g11 g12 g13 g14 g15
 obtain ⟨V1, u1⟩ := setmsg_is (c1 := .int .i64 t.msg.id) (c2 := .bool t.msg.reply) (c3 := .int .i64 t.msg.op) (c4 := .bool t.msg.auth) (c5 := .int .i64 t.msg.code) (c6 := .slice xq t.msg.qs.length yq) (c7 := .slice xa t.msg.ans.length ya) (c8 := .slice xb t.msg.aus.length yb) (c9 := .slice xm t.msg.more.length ym) (c10 := .slice xp t.msg.pres.length yp) (c11 := .slice xu t.msg.ups.length yu) (c12 := .int .i64 t.ip) (unhide V)
 unfold setmsg at V1 u1
 generalize (((((((((((w1.setCell ⟨w.heap.size + 1 + 1, 1, none⟩ (.int .i64 t.msg.id)).setCell ⟨w.heap.size + 1 + 1, 2, none⟩ (.bool t.msg.reply)).setCell ⟨w.heap.size + 1 + 1, 3, none⟩ (.int .i64 t.msg.op)).setCell ⟨w.heap.size + 1 + 1, 4, none⟩ (.bool t.msg.auth)).setCell ⟨w.heap.size + 1 + 1, 5, none⟩ (.int .i64 t.msg.code)).setCell ⟨w.heap.size + 1 + 1, 6, none⟩ (.slice xq t.msg.qs.length yq)).setCell ⟨w.heap.size + 1 + 1, 7, none⟩ (.slice xa t.msg.ans.length ya)).setCell ⟨w.heap.size + 1 + 1, 8, none⟩ (.slice xb t.msg.aus.length yb)).setCell ⟨w.heap.size + 1 + 1, 9, none⟩ (.slice xm t.msg.more.length ym)).setCell ⟨w.heap.size + 1 + 1, 10, none⟩ (.slice xp t.msg.pres.length yp)).setCell ⟨w.heap.size + 1 + 1, 11, none⟩ (.slice xu t.msg.ups.length yu)).setCell ⟨w.heap.size + 1 + 1, 12, none⟩ (.int .i64 t.ip) = x1 at *
 replace V := hide V1
 replace bb := u1.below bb (by omega)
 replace KK := hide (u1.kept (unhide KK) (by omega))
 replace RR := hide (u1.kept (unhide RR) (by omega))
 replace O1 := hide ((unhide O1).outside u1 (by omega))
 have y1 := u1.size
 clear V1 u1
 refine (toByteS_any ac cc t.client _ ((unhide HI).below bb).client (unhide HS).client).mono ?_
 rintro e w2 ⟨vc, rfl, o2, b2⟩
 obtain ⟨xc, yc, rfl, _⟩ := o2.lies
 replace bb := below_next bb b2
 replace KK := hide (block_kept b2 (unhide KK))
 replace RR := hide (block_kept b2 (unhide RR))
 replace V := hide (block_kept b2 (unhide V))
 replace O1 := hide ((unhide O1).below b2)
 have O2 := hide o2.here
 have z2 := b2.size
 clear o2 b2
 obtain ⟨d0, d1, d2, d3, d4, d5, d6, d7, d8, d9, d10, d11, d12, d13, d14, d15⟩ := cells16 (unhide KK)
 obtain ⟨f0, f1, f2, f3, f4, f5, f6, f7, f8, f9, f10, f11, f12, f13, f14, f15⟩ := cells16 (unhide V)
 obtain ⟨g0, g1, g2, g3, g4, g5, g6, g7, g8, g9, g10, g11, g12, g13, g14, g15⟩ := frozen16 (unhide V)
 go_wp2_with fail
 clear d0 d1 d2 d3 d4 d5 d6 d7 d8 d9 d10 d11 d12 d13 d14 d15 f0 f1 f2 f3 f4 f5 f6 f7 f8 f9 f10 f11 f12 f13 f14 f15 g0 g1 g2 g3 g4 g5 g6 g7 g8 g9 g10 g11 g12 g13 g14 g15
 have u2 := outside_set w2 (w.heap.size + 1 + 1) 13 (.slice xc t.client.length yc)
 have V2 : (w2.setCell ⟨w.heap.size + 1 + 1, 13, none⟩ (.slice xc t.client.length yc)).heap[w.heap.size + 1 + 1]? = some (.cells #[.int .i64 t.kind, .int .i64 t.msg.id, .bool t.msg.reply, .int .i64 t.msg.op, .bool t.msg.auth, .int .i64 t.msg.code, .slice xq t.msg.qs.length yq, .slice xa t.msg.ans.length ya, .slice xb t.msg.aus.length yb, .slice xm t.msg.more.length ym, .slice xp t.msg.pres.length yp, .slice xu t.msg.ups.length yu, .int .i64 t.ip, .slice xc t.client.length yc, .slice none 0 0, .int .i64 0] 39) := block_setAt (unhide V) 13 _
 generalize w2.setCell ⟨w.heap.size + 1 + 1, 13, none⟩ (.slice xc t.client.length yc) = x2 at *
 replace V := hide V2
 replace bb := u2.below bb (by omega)
 replace KK := hide (u2.kept (unhide KK) (by omega))
 replace RR := hide (u2.kept (unhide RR) (by omega))
 replace O1 := hide ((unhide O1).outside u2 (by omega))
 replace O2 := hide ((unhide O2).outside u2 (by omega))
 have y2 := u2.size
 clear V2 u2
 refine (toByteS_any ah ch t.host _ ((unhide HI).below bb).host (unhide HS).host).mono ?_
 rintro e w3 ⟨vh, rfl, o3, b3⟩
 obtain ⟨xh, yh, rfl, _⟩ := o3.lies
 replace bb := below_next bb b3
 replace KK := hide (block_kept b3 (unhide KK))
 replace RR := hide (block_kept b3 (unhide RR))
 replace V := hide (block_kept b3 (unhide V))
 replace O1 := hide ((unhide O1).below b3)
 replace O2 := hide ((unhide O2).below b3)
 have O3 := hide o3.here
 have z3 := b3.size
 clear o3 b3
 obtain ⟨d0, d1, d2, d3, d4, d5, d6, d7, d8, d9, d10, d11, d12, d13, d14, d15⟩ := cells16 (unhide KK)
 obtain ⟨f0, f1, f2, f3, f4, f5, f6, f7, f8, f9, f10, f11, f12, f13, f14, f15⟩ := cells16 (unhide V)
 obtain ⟨g0, g1, g2, g3, g4, g5, g6, g7, g8, g9, g10, g11, g12, g13, g14, g15⟩ := frozen16 (unhide V)
 obtain ⟨p0, p1, p2, p3, p4, p5, p6, p7, p8, p9, p10, p11, p12, p13, p14, p15⟩ := cells16 (unhide RR)
 obtain ⟨q0, q1, q2, q3, q4, q5, q6, q7, q8, q9, q10, q11, q12, q13, q14, q15⟩ := frozen16 (unhide RR)
 go_wp2_with fail
 clear d0 d1 d2 d3 d4 d5 d6 d7 d8 d9 d10 d11 d12 d13 d14 d15 f0 f1 f2 f3 f4 f5 f6 f7 f8 f9 f10 f11 f12 f13 f14 f15 g0 g1 g2 g3 g4 g5 g6 g7 g8 g9 g10 g11 g12 g13 g14 g15 p0 p1 p2 p3 p4 p5 p6 p7 p8 p9 p10 p11 p12 p13 p14 p15 q0 q1 q2 q3 q4 q5 q6 q7 q8 q9 q10 q11 q12 q13 q14 q15
 have u4 := ((outside_set w3 (w.heap.size + 1 + 1) 14 (.slice xh t.host.length yh)).trans (outside_set _ (w.heap.size + 1 + 1) 15 (.int .i64 t.when))).wide (B' := w.heap.size + 1) (E' := w.heap.size + 3) (by omega) (by omega)
 have R4 := block_other (block_other (unhide RR) (b' := w.heap.size + 1 + 1) (by omega) 14 (.slice xh t.host.length yh)) (b' := w.heap.size + 1 + 1) (by omega) 15 (.int .i64 t.when)
 generalize (w3.setCell ⟨w.heap.size + 1 + 1, 14, none⟩ (.slice xh t.host.length yh)).setCell ⟨w.heap.size + 1 + 1, 15, none⟩ (.int .i64 t.when) = x4 at *
 obtain ⟨R5, u5⟩ := set16_is (c0 := .int .i64 t.kind) (c1 := .int .i64 t.msg.id) (c2 := .bool t.msg.reply) (c3 := .int .i64 t.msg.op) (c4 := .bool t.msg.auth) (c5 := .int .i64 t.msg.code) (c6 := .slice xq t.msg.qs.length yq) (c7 := .slice xa t.msg.ans.length ya) (c8 := .slice xb t.msg.aus.length yb) (c9 := .slice xm t.msg.more.length ym) (c10 := .slice xp t.msg.pres.length yp) (c11 := .slice xu t.msg.ups.length yu) (c12 := .int .i64 t.ip) (c13 := .slice xc t.client.length yc) (c14 := .slice xh t.host.length yh) (c15 := .int .i64 t.when) R4
 have u8 := u4.trans (u5.wide (B' := w.heap.size + 1) (E' := w.heap.size + 3) (by omega) (by omega))
 have z8 := u8.size
 unfold set16 at R5 u8 z8
 refine bodyPost_ret (results_cell_row rfl _ _ (w.heap.size + 1) 39 #[.int .i64 t.kind, .int .i64 t.msg.id, .bool t.msg.reply, .int .i64 t.msg.op, .bool t.msg.auth, .int .i64 t.msg.code, .slice xq t.msg.qs.length yq, .slice xa t.msg.ans.length ya, .slice xb t.msg.aus.length yb, .slice xm t.msg.more.length ym, .slice xp t.msg.pres.length yp, .slice xu t.msg.ups.length yu, .int .i64 t.ip, .slice xc t.client.length yc, .slice xh t.host.length yh, .int .i64 t.when] (0, 0) _ rfl R5 Tryz.underlying39 rfl (by kernel_rfl)) rfl ?_
 refine ⟨_, _, _, _, _, _, _, _, rfl, ⟨w1.heap.size, w2.heap.size, by omega, by omega, by omega, ?_, ?_, ?_⟩, u8.below bb (by omega)⟩
 ·exact ownM_wide ((unhide O1).outside u8 (.inr (by omega))) (by omega) (by omega)
 ·exact ((unhide O2).outside u8 (.inr (by omega))).wide (by omega) (by omega)
 ·exact ((unhide O3).outside u8 (.inr (by omega))).wide (by omega) (by omega)

set_option maxHeartbeats 1000000 in
set_option maxRecDepth 100000 in
theorem eqTxn_has {vq va vb vm vp vu vc vh wq wa wb wm wp wu wc wh : Value} {t : Tx} {w : World} (h : HasTx w vq va vb vm vp vu vc vh t) (h' : HasTx w wq wa wb wm wp wu wc wh t) (hs : SizeTx 2097152 t) :
  Calls Tryz.prog 9 #[.agg #[.int .i64 t.kind, .int .i64 t.msg.id, .bool t.msg.reply, .int .i64 t.msg.op, .bool t.msg.auth, .int .i64 t.msg.code, vq, va, vb, vm, vp, vu, .int .i64 t.ip, vc, vh, .int .i64 t.when], .agg #[.int .i64 t.kind, .int .i64 t.msg.id, .bool t.msg.reply, .int .i64 t.msg.op, .bool t.msg.auth, .int .i64 t.msg.code, wq, wa, wb, wm, wp, wu, .int .i64 t.ip, wc, wh, .int .i64 t.when]] w fun e w' => e = .returned (.bool true) ∧ Below w.heap.size w w' := by
 obtain ⟨xq, yq, rfl, _⟩ := h.msg.qs.form
 obtain ⟨uq, tq, rfl, _⟩ := h'.msg.qs.form
 obtain ⟨xa, ya, rfl, _⟩ := h.msg.ans.form
 obtain ⟨ua, ta, rfl, _⟩ := h'.msg.ans.form
 obtain ⟨xb, yb, rfl, _⟩ := h.msg.aus.form
 obtain ⟨ub, tb, rfl, _⟩ := h'.msg.aus.form
 obtain ⟨xm, ym, rfl, _⟩ := h.msg.more.form
 obtain ⟨um, tm, rfl, _⟩ := h'.msg.more.form
 obtain ⟨xp, yp, rfl, _⟩ := h.msg.pres.form
 obtain ⟨up, tp, rfl, _⟩ := h'.msg.pres.form
 obtain ⟨xu, yu, rfl, _⟩ := h.msg.ups.form
 obtain ⟨uu, tu, rfl, _⟩ := h'.msg.ups.form
 obtain ⟨xc, yc, rfl, _⟩ := h.client.form
 obtain ⟨uc, tc, rfl, _⟩ := h'.client.form
 obtain ⟨xh, yh, rfl, _⟩ := h.host.form
 obtain ⟨uh, th, rfl, _⟩ := h'.host.form
 have b0 := below2 w (.cells #[.int .i64 t.kind, .int .i64 t.msg.id, .bool t.msg.reply, .int .i64 t.msg.op, .bool t.msg.auth, .int .i64 t.msg.code, .slice xq t.msg.qs.length yq, .slice xa t.msg.ans.length ya, .slice xb t.msg.aus.length yb, .slice xm t.msg.more.length ym, .slice xp t.msg.pres.length yp, .slice xu t.msg.ups.length yu, .int .i64 t.ip, .slice xc t.client.length yc, .slice xh t.host.length yh, .int .i64 t.when] 39) (.cells #[.int .i64 t.kind, .int .i64 t.msg.id, .bool t.msg.reply, .int .i64 t.msg.op, .bool t.msg.auth, .int .i64 t.msg.code, .slice uq t.msg.qs.length tq, .slice ua t.msg.ans.length ta, .slice ub t.msg.aus.length tb, .slice um t.msg.more.length tm, .slice up t.msg.pres.length tp, .slice uu t.msg.ups.length tu, .int .i64 t.ip, .slice uc t.client.length tc, .slice uh t.host.length th, .int .i64 t.when] 39)
 obtain ⟨hsz, k0, x0⟩ := box2 w (.cells #[.int .i64 t.kind, .int .i64 t.msg.id, .bool t.msg.reply, .int .i64 t.msg.op, .bool t.msg.auth, .int .i64 t.msg.code, .slice xq t.msg.qs.length yq, .slice xa t.msg.ans.length ya, .slice xb t.msg.aus.length yb, .slice xm t.msg.more.length ym, .slice xp t.msg.pres.length yp, .slice xu t.msg.ups.length yu, .int .i64 t.ip, .slice xc t.client.length yc, .slice xh t.host.length yh, .int .i64 t.when] 39) #[.int .i64 t.kind, .int .i64 t.msg.id, .bool t.msg.reply, .int .i64 t.msg.op, .bool t.msg.auth, .int .i64 t.msg.code, .slice uq t.msg.qs.length tq, .slice ua t.msg.ans.length ta, .slice ub t.msg.aus.length tb, .slice um t.msg.more.length tm, .slice up t.msg.pres.length tp, .slice uu t.msg.ups.length tu, .int .i64 t.ip, .slice uc t.client.length tc, .slice uh t.host.length th, .int .i64 t.when] 39
 have H := hide (h.below b0)
 have H' := hide (h'.below b0)
 have HS := hide hs
 have KK := hide k0
 have XX := hide x0
 obtain ⟨d0, d1, d2, d3, d4, d5, d6, d7, d8, d9, d10, d11, d12, d13, d14, d15⟩ := cells16 k0
 obtain ⟨f0, f1, f2, f3, f4, f5, f6, f7, f8, f9, f10, f11, f12, f13, f14, f15⟩ := cells16 x0
 clear h h' hs k0 x0 hsz
 go_enter Tryz.func9, Tryz.ntmps9
 go_wp2_with fail
 clear d0 d1 d2 d3 d4 d5 d6 d7 d8 d9 d10 d11 d12 d13 d14 d15 f0 f1 f2 f3 f4 f5 f6 f7 f8 f9 f10 f11 f12 f13 f14 f15
 generalize (w.alloc (.cells #[.int .i64 t.kind, .int .i64 t.msg.id, .bool t.msg.reply, .int .i64 t.msg.op, .bool t.msg.auth, .int .i64 t.msg.code, .slice xq t.msg.qs.length yq, .slice xa t.msg.ans.length ya, .slice xb t.msg.aus.length yb, .slice xm t.msg.more.length ym, .slice xp t.msg.pres.length yp, .slice xu t.msg.ups.length yu, .int .i64 t.ip, .slice xc t.client.length yc, .slice xh t.host.length yh, .int .i64 t.when] 39)).alloc (.cells #[.int .i64 t.kind, .int .i64 t.msg.id, .bool t.msg.reply, .int .i64 t.msg.op, .bool t.msg.auth, .int .i64 t.msg.code, .slice uq t.msg.qs.length tq, .slice ua t.msg.ans.length ta, .slice ub t.msg.aus.length tb, .slice um t.msg.more.length tm, .slice up t.msg.pres.length tp, .slice uu t.msg.ups.length tu, .int .i64 t.ip, .slice uc t.client.length tc, .slice uh t.host.length th, .int .i64 t.when] 39) = W at *
 refine (eqMsg_has (unhide H).msg (unhide H').msg (unhide HS).msg).mono ?_
 rintro e w1 ⟨rfl, b1⟩
 replace b0 := below_next b0 b1
 replace H := hide ((unhide H).below b1)
 replace H' := hide ((unhide H').below b1)
 replace KK := hide (block_kept b1 (unhide KK))
 replace XX := hide (block_kept b1 (unhide XX))
 clear b1
 obtain ⟨d0, d1, d2, d3, d4, d5, d6, d7, d8, d9, d10, d11, d12, d13, d14, d15⟩ := cells16 (unhide KK)
 obtain ⟨f0, f1, f2, f3, f4, f5, f6, f7, f8, f9, f10, f11, f12, f13, f14, f15⟩ := cells16 (unhide XX)
 go_wp2_with fail
 clear d0 d1 d2 d3 d4 d5 d6 d7 d8 d9 d10 d11 d12 d13 d14 d15 f0 f1 f2 f3 f4 f5 f6 f7 f8 f9 f10 f11 f12 f13 f14 f15
 refine (eqByteS_has (unhide H).client (unhide H').client (unhide HS).client).mono ?_
 rintro e w2 ⟨rfl, m2, hm2⟩
 have b2 : Below w1.heap.size w1 w2 := by rw [hm2]; exact below_draws m2
 clear hm2
 replace b0 := below_next b0 b2
 replace H := hide ((unhide H).below b2)
 replace H' := hide ((unhide H').below b2)
 replace KK := hide (block_kept b2 (unhide KK))
 replace XX := hide (block_kept b2 (unhide XX))
 clear b2
 obtain ⟨d0, d1, d2, d3, d4, d5, d6, d7, d8, d9, d10, d11, d12, d13, d14, d15⟩ := cells16 (unhide KK)
 obtain ⟨f0, f1, f2, f3, f4, f5, f6, f7, f8, f9, f10, f11, f12, f13, f14, f15⟩ := cells16 (unhide XX)
 go_wp2_with fail
 clear d0 d1 d2 d3 d4 d5 d6 d7 d8 d9 d10 d11 d12 d13 d14 d15 f0 f1 f2 f3 f4 f5 f6 f7 f8 f9 f10 f11 f12 f13 f14 f15
 refine (eqByteS_has (unhide H).host (unhide H').host (unhide HS).host).mono ?_
 rintro e w3 ⟨rfl, m3, hm3⟩
 have b3 : Below w2.heap.size w2 w3 := by rw [hm3]; exact below_draws m3
 clear hm3
 replace b0 := below_next b0 b3
 replace KK := hide (block_kept b3 (unhide KK))
 replace XX := hide (block_kept b3 (unhide XX))
 obtain ⟨d0, d1, d2, d3, d4, d5, d6, d7, d8, d9, d10, d11, d12, d13, d14, d15⟩ := cells16 (unhide KK)
 obtain ⟨f0, f1, f2, f3, f4, f5, f6, f7, f8, f9, f10, f11, f12, f13, f14, f15⟩ := cells16 (unhide XX)
 go_wp2_with fail
 go_ret
 exact ⟨rfl, b0⟩
end Go.Proofs.YtfbfakdkemlbmaaGreat

namespace Go.Proofs.YtfbfakdkemlbmaaGreat
open Go.RowKit
set_option linter.unusedVariables false

set_option maxHeartbeats 400000 in
set_option maxRecDepth 100000 in
theorem markByteS_some (B g cap : Nat) (k0 : Int) (l : List Int) (w : World) (h : Own B 5 w (.slice (some ⟨g, 0, none⟩) l.length cap) l) (hl : l.length ≤ 2097152) (hk0 : 0 ≤ k0) (hk1 : k0 ≤ 9000000000000000000) :
  Calls Tryz.prog 11 #[.slice (some ⟨g, 0, none⟩) l.length cap, .int .i64 k0] w fun e w' => e = .returned (.int .i64 (k0 + l.length)) ∧
   Own B 5 w' (.slice (some ⟨g, 0, none⟩) l.length cap) (marks k0 l.length) ∧ w.grownBy w' (some g) := by
 generalize hn : l.length = n at *
 have HN := hide hn
 clear hn
 go_enter Tryz.func11, Tryz.ntmps11
 go_wp2
 go_loopw [1, 5] (fun kk i wr => ∃ k : Nat, k ≤ n ∧ i = .int .i64 k ∧ kk = .int .i64 (k0 + k) ∧ wr.ownsRow B 5 1 (.slice (some ⟨g, 0, none⟩) n cap) n ((marked l k0 k).map (Value.int .u8)) ∧ w.grownBy wr (some g)) (fun _ i _ => n - (intOf i).toNat)
 case atStart => exact ⟨0, Nat.zero_le _, rfl, by simp, by rw [marked_zero]; have h1 := h; unfold Own at h1; rw [unhide HN] at h1; exact h1, ⟨rfl, rfl, rfl, Nat.le_refl _, fun _ _ _ => rfl⟩⟩
 case round =>
  obtain ⟨k, hk, rfl, rfl, ho, hg⟩ := hrel
  by_cases hlt : k < n
  ·have hc := ho.cellAt k (by omega)
   rw [map_at _ _ (by rw [marked_length, unhide HN]; exact hlt)] at hc
   have hf := ho.frozenAt k
   have HO := hide ho
   clear ho
   go_wp2
   have hst := (unhide HO).stored k (.int .u8 ((k0 + k) % 256))
   refine ⟨⟨k + 1, by omega, by go_num, by go_num, ?_, ?_⟩, by simp [intOf]; omega⟩
   ·rw [← marked_succ, List.map_set]
    exact hst.1
   ·exact grown_trans hg hst.2
  ·go_wp2
   go_ret
   obtain rfl : k = n := by omega
   refine ⟨rfl, ?_, hg⟩
   unfold Own
   rw [marks_length]
   have e : marked l k0 k = marks k0 k := by have := marked_all l k0; rw [unhide HN] at this; exact this
   rw [← e]
   exact ho

set_option maxHeartbeats 400000 in
set_option maxRecDepth 100000 in
theorem markByteS_nil (k0 : Int) (w : World) (hk0 : 0 ≤ k0) (hk1 : k0 ≤ 9000000000000000000) :
  Calls Tryz.prog 11 #[.slice none 0 0, .int .i64 k0] w fun e w' => e = .returned (.int .i64 k0) ∧ w = w' := by
 go_enter Tryz.func11, Tryz.ntmps11
 go_wp2
 go_loop [1, 5] (fun kk i => i = .int .i64 0 ∧ kk = .int .i64 k0) (fun _ i => 0)
 case atStart => exact ⟨rfl, rfl⟩
 case round =>
  obtain ⟨rfl, rfl⟩ := hrel
  go_wp2
  go_ret
  exact ⟨rfl, rfl⟩

theorem markByteS_any {B : Nat} {v : Value} {l : List Int} (k0 : Int) {w : World} (h : Own B 5 w v l) (hl : l.length ≤ 2097152) (hk0 : 0 ≤ k0) (hk1 : k0 ≤ 9000000000000000000) :
  Calls Tryz.prog 11 #[v, .int .i64 k0] w fun e w' => e = .returned (.int .i64 (k0 + l.length)) ∧ Own B 5 w' v (marks k0 l.length) ∧ w.grownBy w' v.ownBlock := by
 rcases h.form with ⟨rfl, rfl⟩ | ⟨g, cap, rfl, _⟩
 ·refine (markByteS_nil k0 w hk0 hk1).mono fun e w' ⟨he, hw⟩ => ?_
  subst hw
  exact ⟨by simpa using he, h, ⟨rfl, rfl, rfl, Nat.le_refl _, fun _ _ _ => rfl⟩⟩
 ·exact markByteS_some B g cap k0 l w h hl hk0 hk1

set_option maxHeartbeats 400000 in
set_option maxRecDepth 100000 in
theorem heldByteS_marks (a : Option Addr) (cap n : Nat) (k0 : Int) (w : World) (h : Lies w a (marks k0 n)) (hl : n ≤ 2097152) (hk0 : 0 ≤ k0) (hk1 : k0 ≤ 9000000000000000000) :
  Calls Tryz.prog 12 #[.slice a n cap, .int .i64 k0] w fun e w' => e = .returned (.int .i64 (k0 + n)) ∧ w = w' := by
 go_enter Tryz.func12, Tryz.ntmps12
 go_wp2
 go_loop [1, 5] (fun kk i => ∃ k : Nat, k ≤ n ∧ i = .int .i64 k ∧ kk = .int .i64 (k0 + k)) (fun _ i => n - (intOf i).toNat)
 case atStart => exact ⟨0, Nat.zero_le _, rfl, by simp⟩
 case round =>
  obtain ⟨k, hk, rfl, rfl⟩ := hrel
  by_cases hlt : k < n
  ·obtain ⟨b, off, rfl, hbl, hc⟩ := h.here (k := k) (by rw [marks_length]; exact hlt)
   rw [marks_getD _ _ _ hlt] at hc
   go_wp2
   exact ⟨⟨k + 1, by omega, by go_num, by go_num⟩, by simp [intOf]; omega⟩
  ·go_wp2
   go_ret
   obtain rfl : k = n := by omega
   exact ⟨rfl, rfl⟩

theorem heldByteS_any {B : Nat} {v : Value} {n : Nat} (k0 : Int) {w : World} (h : Own B 5 w v (marks k0 n)) (hl : n ≤ 2097152) (hk0 : 0 ≤ k0) (hk1 : k0 ≤ 9000000000000000000) :
  Calls Tryz.prog 12 #[v, .int .i64 k0] w fun e w' => e = .returned (.int .i64 (k0 + n)) ∧ w = w' := by
 obtain ⟨a, cap, rfl, hL⟩ := h.lies
 rw [marks_length]
 exact heldByteS_marks a cap n k0 w hL hl hk0 hk1
end Go.Proofs.YtfbfakdkemlbmaaGreat
