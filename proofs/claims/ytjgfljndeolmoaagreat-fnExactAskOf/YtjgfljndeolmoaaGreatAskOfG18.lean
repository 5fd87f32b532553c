/-
  Contracts of the helpers of the laws for Want (szWant, toWant, eqWant). Contracts of the helpers of the laws for questions and for rows of questions, records and wants (sz.., to.., eq..). Contracts of the helpers of the laws for messages (szMsg, toMsg, eqMsg). Plain facts: a record's data as bytes. No program is named here. Plain facts: what DataPut and RrPut answer. No program is named here.
-/
import Derived.Test.YtjgfljndeolmoaaGreatAskOfG09
import Derived.Test.YtjgfljndeolmoaaGreatAskOfG15
import Derived.Test.YtjgfljndeolmoaaGreatAskOfG16
import Derived.Test.YtjgfljndeolmoaaGreatAskOfG10
namespace Go.Proofs.YtjgfljndeolmoaaGreat
open Go.RowKit
set_option linter.unusedVariables false

set_option maxHeartbeats 1000000 in
set_option maxRecDepth 100000 in
theorem eqWant_has {vn vt vx vi un ut ux ui : Value} {r : Rec} (c : Int) (b : Bool) {w : World} (h : HasR w vn vt vx vi r) (h' : HasR w un ut ux ui r) (hs : SizeR 2097152 r) :
  Calls Tryz.prog 98 #[.agg #[vn, .int .i64 r.type, .int .i64 r.ttl, .int .i64 r.addr, vt, vx, vi, .int .i64 c, .bool b], .agg #[un, .int .i64 r.type, .int .i64 r.ttl, .int .i64 r.addr, ut, ux, ui, .int .i64 c, .bool b]] w fun e w' => e = .returned (.bool true) ∧ Below w.heap.size w w' := by
 obtain ⟨na, nc, rfl, _⟩ := h.name.form
 obtain ⟨ta, tc, rfl, _⟩ := h.to.form
 obtain ⟨xa, xc, rfl, _⟩ := h.text.form
 obtain ⟨ia, ic, rfl, _⟩ := h.nums.form
 obtain ⟨na2, nc2, rfl, _⟩ := h'.name.form
 obtain ⟨ta2, tc2, rfl, _⟩ := h'.to.form
 obtain ⟨xa2, xc2, rfl, _⟩ := h'.text.form
 obtain ⟨ia2, ic2, rfl, _⟩ := h'.nums.form
 obtain ⟨hsz, k0, r0⟩ := box2 w (.cells #[.slice na r.name.length nc, .int .i64 r.type, .int .i64 r.ttl, .int .i64 r.addr, .slice ta r.to.length tc, .slice xa r.text.length xc, .slice ia r.nums.length ic, .int .i64 c, .bool b] 142) #[.slice na2 r.name.length nc2, .int .i64 r.type, .int .i64 r.ttl, .int .i64 r.addr, .slice ta2 r.to.length tc2, .slice xa2 r.text.length xc2, .slice ia2 r.nums.length ic2, .int .i64 c, .bool b] 142
 have b0 := below2 w (.cells #[.slice na r.name.length nc, .int .i64 r.type, .int .i64 r.ttl, .int .i64 r.addr, .slice ta r.to.length tc, .slice xa r.text.length xc, .slice ia r.nums.length ic, .int .i64 c, .bool b] 142) (.cells #[.slice na2 r.name.length nc2, .int .i64 r.type, .int .i64 r.ttl, .int .i64 r.addr, .slice ta2 r.to.length tc2, .slice xa2 r.text.length xc2, .slice ia2 r.nums.length ic2, .int .i64 c, .bool b] 142)
 have HE := hide (eqRr_has (h.below b0) (h'.below b0) hs)
 have K0 := hide k0
 have R0 := hide r0
 clear h h' hs k0 r0
 obtain ⟨d0, d1, d2, d3, d4, d5, d6, d7, d8⟩ := cells9 (unhide K0)
 obtain ⟨f0, f1, f2, f3, f4, f5, f6, f7, f8⟩ := cells9 (unhide R0)
 have dr : ∀ m : Nat, True := fun _ => trivial
 go_enter Tryz.func98, Tryz.ntmps98
 go_wp2_with fail
 generalize (w.alloc (.cells #[.slice na r.name.length nc, .int .i64 r.type, .int .i64 r.ttl, .int .i64 r.addr, .slice ta r.to.length tc, .slice xa r.text.length xc, .slice ia r.nums.length ic, .int .i64 c, .bool b] 142)).alloc (.cells #[.slice na2 r.name.length nc2, .int .i64 r.type, .int .i64 r.ttl, .int .i64 r.addr, .slice ta2 r.to.length tc2, .slice xa2 r.text.length xc2, .slice ia2 r.nums.length ic2, .int .i64 c, .bool b] 142) = W at *
 refine (unhide HE).mono ?_
 rintro e w1 ⟨rfl, b1⟩
 have K1 := hide (block_kept b1 (unhide K0))
 have R1 := hide (block_kept b1 (unhide R0))
 have bb1 := below_next b0 b1
 clear d0 d1 d2 d3 d4 d5 d6 d7 d8 f0 f1 f2 f3 f4 f5 f6 f7 f8 dr K0 R0 b0 b1 HE
 obtain ⟨d0, d1, d2, d3, d4, d5, d6, d7, d8⟩ := cells9 (unhide K1)
 obtain ⟨f0, f1, f2, f3, f4, f5, f6, f7, f8⟩ := cells9 (unhide R1)
 go_wp2_with fail
 go_ret
 exact ⟨rfl, bb1⟩
end Go.Proofs.YtjgfljndeolmoaaGreat

namespace Go.Proofs.YtjgfljndeolmoaaGreat
open Go.RowKit
set_option linter.unusedVariables false

set_option maxHeartbeats 1000000 in
set_option maxRecDepth 100000 in
theorem eqQuestionS_has {v v' : Value} {xs : List Que} {w : World} (h : HasQs w v xs) (h' : HasQs w v' xs) (hl2 : ∀ i, i < xs.length → SizeQu 2097152 (xs.getD i queZ)) :
  Calls Tryz.prog 48 #[v, v'] w fun e w' => e = .returned (.bool true) ∧ Below w.heap.size w w' := by
 obtain ⟨a, cap, rfl, hl, hm⟩ := h.form
 obtain ⟨a', cap', rfl, hl', hm'⟩ := h'.form
 unfold maxLen at hm hm'
 have HL := hide hl2
 clear hl2
 generalize hn : xs.length = m at *
 have HN := hide hn
 clear hn
 go_enter Tryz.func48, Tryz.ntmps48
 go_wp2
 go_loopw [5] (fun i wr => ∃ k : Nat, k ≤ m ∧ i = .int .i64 k ∧ Below w.heap.size w wr) (fun i _ => m - (intOf i).toNat)
 case atStart => exact ⟨0, Nat.zero_le _, rfl, Below.refl _ _⟩
 case round =>
  obtain ⟨k, hk, rfl, hb⟩ := hrel
  by_cases hlt : k < m
  ·obtain ⟨b, off, vs, rfl, hbl, hc, vn, rfl, hu⟩ := (keptQs h hb).here (k := k) (by rw [unhide HN]; exact hlt)
   obtain ⟨b', off', vs', rfl, hbl', hc', vn', rfl, hu'⟩ := (keptQs h' hb).here (k := k) (by rw [unhide HN]; exact hlt)
   have HLK := hide (unhide HL k hlt)
   generalize xs.getD k queZ = rk at *
   obtain ⟨na, nc, rfl, _⟩ := hu.form
   obtain ⟨na', nc', rfl, _⟩ := hu'.form
   have bd := below_drew (w := wr)
   have HU := hide (hu.below bd)
   have HU' := hide (hu'.below bd)
   have hbd := below_next hb bd
   have HC := hide (range_below hc hbl bd)
   have HC' := hide (range_below hc' hbl' bd)
   have hbld : b < wr.drew.heap.size := hbl
   have hbld' : b' < wr.drew.heap.size := hbl'
   clear hu hu' hc hc' hb
   go_wp2_with fail
   go_region_held3 (fun w' => (w'.cell? ⟨b, off + k * 2, none⟩ = some (.slice na rk.name.length nc) ∧ w'.cell? ⟨b, off + k * 2 + 1, none⟩ = some (.int .i64 rk.type)) ∧ (w'.cell? ⟨b', off' + k * 2, none⟩ = some (.slice na' rk.name.length nc') ∧ w'.cell? ⟨b', off' + k * 2 + 1, none⟩ = some (.int .i64 rk.type)))
    (first | exact ⟨range2 (unhide HC), range2 (unhide HC')⟩ | exact ⟨range2 (range_below (unhide HC) hbld b2), range2 (range_below (unhide HC') hbld' b2)⟩)
    (first
    | (go_at_call 51; refine (eqQuestion_has (unhide HU) (unhide HU') (unhide HLK)).mono ?_; rintro e w2 ⟨rfl, b2⟩))
   go_wp2
   exact ⟨⟨k + 1, by omega, by go_num, below_next hbd b2⟩, by simp [intOf]; omega⟩
  ·go_wp2
   go_ret
   exact ⟨rfl, hb⟩

set_option maxHeartbeats 1000000 in
set_option maxRecDepth 100000 in
theorem eqWantS_has {v v' : Value} {xs : List Wnt} {w : World} (h : HasWs w v xs) (h' : HasWs w v' xs) (hl2 : ∀ i, i < xs.length → SizeR 2097152 (xs.getD i wntZ).rr) :
  Calls Tryz.prog 50 #[v, v'] w fun e w' => e = .returned (.bool true) ∧ Below w.heap.size w w' := by
 obtain ⟨a, cap, rfl, hl, hm⟩ := h.form
 obtain ⟨a', cap', rfl, hl', hm'⟩ := h'.form
 unfold maxLen at hm hm'
 have HL := hide hl2
 clear hl2
 generalize hn : xs.length = m at *
 have HN := hide hn
 clear hn
 go_enter Tryz.func50, Tryz.ntmps50
 go_wp2
 go_loopw [5] (fun i wr => ∃ k : Nat, k ≤ m ∧ i = .int .i64 k ∧ Below w.heap.size w wr) (fun i _ => m - (intOf i).toNat)
 case atStart => exact ⟨0, Nat.zero_le _, rfl, Below.refl _ _⟩
 case round =>
  obtain ⟨k, hk, rfl, hb⟩ := hrel
  by_cases hlt : k < m
  ·obtain ⟨b, off, vs, rfl, hbl, hc, vn, vt, vx, vi, rfl, hu⟩ := (keptWs h hb).here (k := k) (by rw [unhide HN]; exact hlt)
   obtain ⟨b', off', vs', rfl, hbl', hc', vn', vt', vx', vi', rfl, hu'⟩ := (keptWs h' hb).here (k := k) (by rw [unhide HN]; exact hlt)
   have HLK := hide (unhide HL k hlt)
   generalize xs.getD k wntZ = rk at *
   obtain ⟨na, nc, rfl, _⟩ := hu.name.form
   obtain ⟨ta, tc, rfl, _⟩ := hu.to.form
   obtain ⟨xa, xc, rfl, _⟩ := hu.text.form
   obtain ⟨ia, ic, rfl, _⟩ := hu.nums.form
   obtain ⟨na', nc', rfl, _⟩ := hu'.name.form
   obtain ⟨ta', tc', rfl, _⟩ := hu'.to.form
   obtain ⟨xa', xc', rfl, _⟩ := hu'.text.form
   obtain ⟨ia', ic', rfl, _⟩ := hu'.nums.form
   have bd := below_drew (w := wr)
   have HU := hide (hu.below bd)
   have HU' := hide (hu'.below bd)
   have hbd := below_next hb bd
   have HC := hide (range_below hc hbl bd)
   have HC' := hide (range_below hc' hbl' bd)
   have hbld : b < wr.drew.heap.size := hbl
   have hbld' : b' < wr.drew.heap.size := hbl'
   clear hu hu' hc hc' hb
   go_wp2_with fail
   go_region_held3 (fun w' => (w'.cell? ⟨b, off + k * 9, none⟩ = some (.slice na rk.rr.name.length nc) ∧ w'.cell? ⟨b, off + k * 9 + 1, none⟩ = some (.int .i64 rk.rr.type) ∧ w'.cell? ⟨b, off + k * 9 + 2, none⟩ = some (.int .i64 rk.rr.ttl) ∧ w'.cell? ⟨b, off + k * 9 + 3, none⟩ = some (.int .i64 rk.rr.addr) ∧ w'.cell? ⟨b, off + k * 9 + 4, none⟩ = some (.slice ta rk.rr.to.length tc) ∧ w'.cell? ⟨b, off + k * 9 + 5, none⟩ = some (.slice xa rk.rr.text.length xc) ∧ w'.cell? ⟨b, off + k * 9 + 6, none⟩ = some (.slice ia rk.rr.nums.length ic) ∧ w'.cell? ⟨b, off + k * 9 + 7, none⟩ = some (.int .i64 rk.cls) ∧ w'.cell? ⟨b, off + k * 9 + 8, none⟩ = some (.bool rk.bare)) ∧ (w'.cell? ⟨b', off' + k * 9, none⟩ = some (.slice na' rk.rr.name.length nc') ∧ w'.cell? ⟨b', off' + k * 9 + 1, none⟩ = some (.int .i64 rk.rr.type) ∧ w'.cell? ⟨b', off' + k * 9 + 2, none⟩ = some (.int .i64 rk.rr.ttl) ∧ w'.cell? ⟨b', off' + k * 9 + 3, none⟩ = some (.int .i64 rk.rr.addr) ∧ w'.cell? ⟨b', off' + k * 9 + 4, none⟩ = some (.slice ta' rk.rr.to.length tc') ∧ w'.cell? ⟨b', off' + k * 9 + 5, none⟩ = some (.slice xa' rk.rr.text.length xc') ∧ w'.cell? ⟨b', off' + k * 9 + 6, none⟩ = some (.slice ia' rk.rr.nums.length ic') ∧ w'.cell? ⟨b', off' + k * 9 + 7, none⟩ = some (.int .i64 rk.cls) ∧ w'.cell? ⟨b', off' + k * 9 + 8, none⟩ = some (.bool rk.bare)))
    (first | exact ⟨range9 (unhide HC), range9 (unhide HC')⟩ | exact ⟨range9 (range_below (unhide HC) hbld b2), range9 (range_below (unhide HC') hbld' b2)⟩)
    (first
    | (go_at_call 98; refine (eqWant_has rk.cls rk.bare (unhide HU) (unhide HU') (unhide HLK)).mono ?_; rintro e w2 ⟨rfl, b2⟩))
   go_wp2
   exact ⟨⟨k + 1, by omega, by go_num, below_next hbd b2⟩, by simp [intOf]; omega⟩
  ·go_wp2
   go_ret
   exact ⟨rfl, hb⟩

end Go.Proofs.YtjgfljndeolmoaaGreat

namespace Go.Proofs.YtjgfljndeolmoaaGreat
open Go.RowKit
set_option linter.unusedVariables false

/-- The slices of a message own its lists, in blocks of B .. E - 1, each in a stretch of its own. -/
def OwnM (B E : Nat) (w : World) (vq va vb vm vp vu : Value) (m : Mg) : Prop := ∃ s1 s2 s3 s4 s5, B ≤ s1 ∧ s1 ≤ s2 ∧ s2 ≤ s3 ∧ s3 ≤ s4 ∧ s4 ≤ s5 ∧ s5 ≤ E ∧ RowX 2 (OwnQu 27 5) queZ B s1 59 w vq m.qs ∧ RowO s1 s2 137 27 5 3 w va m.ans ∧ RowO s2 s3 137 27 5 3 w vb m.aus ∧ RowO s3 s4 137 27 5 3 w vm m.more ∧ RowX 9 (OwnWn 27 5 3) wntZ s4 s5 142 w vp m.pres ∧ RowX 9 (OwnWn 27 5 3) wntZ s5 E 142 w vu m.ups
theorem OwnM.below {B E : Nat} {w w' : World} {vq va vb vm vp vu : Value} {m : Mg} (h : OwnM B E w vq va vb vm vp vu m) (hb : Below w.heap.size w w') : OwnM B E w' vq va vb vm vp vu m := by
 obtain ⟨s1, s2, s3, s4, s5, a0, a1, a2, a3, a4, a5, h0, h1, h2, h3, h4, h5⟩ := h
 exact ⟨s1, s2, s3, s4, s5, a0, a1, a2, a3, a4, a5, RowX.below (ownsQu 27 5) h0 hb, RowO.below h1 hb, RowO.below h2 hb, RowO.below h3 hb, RowX.below (ownsWn 27 5 3) h4 hb, RowX.below (ownsWn 27 5 3) h5 hb⟩
theorem OwnM.outside {B E C D : Nat} {w w' : World} {vq va vb vm vp vu : Value} {m : Mg} (h : OwnM B E w vq va vb vm vp vu m) (u : Outside C D w w') (hd : E ≤ C ∨ D ≤ B) : OwnM B E w' vq va vb vm vp vu m := by
 obtain ⟨s1, s2, s3, s4, s5, a0, a1, a2, a3, a4, a5, h0, h1, h2, h3, h4, h5⟩ := h
 exact ⟨s1, s2, s3, s4, s5, a0, a1, a2, a3, a4, a5, RowX.outside (ownsQu 27 5) h0 u (by omega), RowO.outside h1 u (by omega), RowO.outside h2 u (by omega), RowO.outside h3 u (by omega), RowX.outside (ownsWn 27 5 3) h4 u (by omega), RowX.outside (ownsWn 27 5 3) h5 u (by omega)⟩
theorem OwnM.has {B E : Nat} {w : World} {vq va vb vm vp vu : Value} {m : Mg} (h : OwnM B E w vq va vb vm vp vu m) : HasM w vq va vb vm vp vu m := by
 obtain ⟨s1, s2, s3, s4, s5, a0, a1, a2, a3, a4, a5, h0, h1, h2, h3, h4, h5⟩ := h
 exact ⟨RowX.has (ownsQu 27 5) OwnQu.has h0, RowO.has h1, RowO.has h2, RowO.has h3, RowX.has (ownsWn 27 5 3) OwnWn.has h4, RowX.has (ownsWn 27 5 3) OwnWn.has h5⟩

set_option maxHeartbeats 1000000 in
set_option maxRecDepth 100000 in
theorem eqMsg_has {vq va vb vm vp vu wq wa wb wm wp wu : Value} {m : Mg} {w : World} (h : HasM w vq va vb vm vp vu m) (h' : HasM w wq wa wb wm wp wu m) (hs : SizeM 2097152 m) :
  Calls Tryz.prog 19 #[.agg #[.int .i64 m.id, .bool m.reply, .int .i64 m.op, .bool m.auth, .int .i64 m.code, vq, va, vb, vm, vp, vu], .agg #[.int .i64 m.id, .bool m.reply, .int .i64 m.op, .bool m.auth, .int .i64 m.code, wq, wa, wb, wm, wp, wu]] w fun e w' => e = .returned (.bool true) ∧ Below w.heap.size w w' := by
 obtain ⟨xq, yq, rfl, _⟩ := h.qs.form
 obtain ⟨uq, tq, rfl, _⟩ := h'.qs.form
 obtain ⟨xa, ya, rfl, _⟩ := h.ans.form
 obtain ⟨ua, ta, rfl, _⟩ := h'.ans.form
 obtain ⟨xb, yb, rfl, _⟩ := h.aus.form
 obtain ⟨ub, tb, rfl, _⟩ := h'.aus.form
 obtain ⟨xm, ym, rfl, _⟩ := h.more.form
 obtain ⟨um, tm, rfl, _⟩ := h'.more.form
 obtain ⟨xp, yp, rfl, _⟩ := h.pres.form
 obtain ⟨up, tp, rfl, _⟩ := h'.pres.form
 obtain ⟨xu, yu, rfl, _⟩ := h.ups.form
 obtain ⟨uu, tu, rfl, _⟩ := h'.ups.form
 have b0 := below2 w (.cells #[.int .i64 m.id, .bool m.reply, .int .i64 m.op, .bool m.auth, .int .i64 m.code, .slice xq m.qs.length yq, .slice xa m.ans.length ya, .slice xb m.aus.length yb, .slice xm m.more.length ym, .slice xp m.pres.length yp, .slice xu m.ups.length yu] 37) (.cells #[.int .i64 m.id, .bool m.reply, .int .i64 m.op, .bool m.auth, .int .i64 m.code, .slice uq m.qs.length tq, .slice ua m.ans.length ta, .slice ub m.aus.length tb, .slice um m.more.length tm, .slice up m.pres.length tp, .slice uu m.ups.length tu] 37)
 obtain ⟨hsz, k0, x0⟩ := box2 w (.cells #[.int .i64 m.id, .bool m.reply, .int .i64 m.op, .bool m.auth, .int .i64 m.code, .slice xq m.qs.length yq, .slice xa m.ans.length ya, .slice xb m.aus.length yb, .slice xm m.more.length ym, .slice xp m.pres.length yp, .slice xu m.ups.length yu] 37) #[.int .i64 m.id, .bool m.reply, .int .i64 m.op, .bool m.auth, .int .i64 m.code, .slice uq m.qs.length tq, .slice ua m.ans.length ta, .slice ub m.aus.length tb, .slice um m.more.length tm, .slice up m.pres.length tp, .slice uu m.ups.length tu] 37
 have H := hide (h.below b0)
 have H' := hide (h'.below b0)
 have HS := hide hs
 have KK := hide k0
 have XX := hide x0
 obtain ⟨d0, d1, d2, d3, d4, d5, d6, d7, d8, d9, d10⟩ := cells11 k0
 obtain ⟨f0, f1, f2, f3, f4, f5, f6, f7, f8, f9, f10⟩ := cells11 x0
 clear h h' hs k0 x0 hsz
 go_enter Tryz.func19, Tryz.ntmps19
 go_wp2_with fail
 clear d0 d1 d2 d3 d4 d5 d6 d7 d8 d9 d10 f0 f1 f2 f3 f4 f5 f6 f7 f8 f9 f10
 generalize (w.alloc (.cells #[.int .i64 m.id, .bool m.reply, .int .i64 m.op, .bool m.auth, .int .i64 m.code, .slice xq m.qs.length yq, .slice xa m.ans.length ya, .slice xb m.aus.length yb, .slice xm m.more.length ym, .slice xp m.pres.length yp, .slice xu m.ups.length yu] 37)).alloc (.cells #[.int .i64 m.id, .bool m.reply, .int .i64 m.op, .bool m.auth, .int .i64 m.code, .slice uq m.qs.length tq, .slice ua m.ans.length ta, .slice ub m.aus.length tb, .slice um m.more.length tm, .slice up m.pres.length tp, .slice uu m.ups.length tu] 37) = W at *
 refine (eqQuestionS_has (unhide H).qs (unhide H').qs (unhide HS).qs).mono ?_
 rintro e w1 ⟨rfl, b1⟩
 replace b0 := below_next b0 b1
 replace H := hide ((unhide H).below b1)
 replace H' := hide ((unhide H').below b1)
 replace KK := hide (block_kept b1 (unhide KK))
 replace XX := hide (block_kept b1 (unhide XX))
 clear b1
 obtain ⟨d0, d1, d2, d3, d4, d5, d6, d7, d8, d9, d10⟩ := cells11 (unhide KK)
 obtain ⟨f0, f1, f2, f3, f4, f5, f6, f7, f8, f9, f10⟩ := cells11 (unhide XX)
 go_wp2_with fail
 clear d0 d1 d2 d3 d4 d5 d6 d7 d8 d9 d10 f0 f1 f2 f3 f4 f5 f6 f7 f8 f9 f10
 refine (eqRrS_has (unhide H).ans (unhide H').ans (unhide HS).ans).mono ?_
 rintro e w2 ⟨rfl, b2⟩
 replace b0 := below_next b0 b2
 replace H := hide ((unhide H).below b2)
 replace H' := hide ((unhide H').below b2)
 replace KK := hide (block_kept b2 (unhide KK))
 replace XX := hide (block_kept b2 (unhide XX))
 clear b2
 obtain ⟨d0, d1, d2, d3, d4, d5, d6, d7, d8, d9, d10⟩ := cells11 (unhide KK)
 obtain ⟨f0, f1, f2, f3, f4, f5, f6, f7, f8, f9, f10⟩ := cells11 (unhide XX)
 go_wp2_with fail
 clear d0 d1 d2 d3 d4 d5 d6 d7 d8 d9 d10 f0 f1 f2 f3 f4 f5 f6 f7 f8 f9 f10
 refine (eqRrS_has (unhide H).aus (unhide H').aus (unhide HS).aus).mono ?_
 rintro e w3 ⟨rfl, b3⟩
 replace b0 := below_next b0 b3
 replace H := hide ((unhide H).below b3)
 replace H' := hide ((unhide H').below b3)
 replace KK := hide (block_kept b3 (unhide KK))
 replace XX := hide (block_kept b3 (unhide XX))
 clear b3
 obtain ⟨d0, d1, d2, d3, d4, d5, d6, d7, d8, d9, d10⟩ := cells11 (unhide KK)
 obtain ⟨f0, f1, f2, f3, f4, f5, f6, f7, f8, f9, f10⟩ := cells11 (unhide XX)
 go_wp2_with fail
 clear d0 d1 d2 d3 d4 d5 d6 d7 d8 d9 d10 f0 f1 f2 f3 f4 f5 f6 f7 f8 f9 f10
 refine (eqRrS_has (unhide H).more (unhide H').more (unhide HS).more).mono ?_
 rintro e w4 ⟨rfl, b4⟩
 replace b0 := below_next b0 b4
 replace H := hide ((unhide H).below b4)
 replace H' := hide ((unhide H').below b4)
 replace KK := hide (block_kept b4 (unhide KK))
 replace XX := hide (block_kept b4 (unhide XX))
 clear b4
 obtain ⟨d0, d1, d2, d3, d4, d5, d6, d7, d8, d9, d10⟩ := cells11 (unhide KK)
 obtain ⟨f0, f1, f2, f3, f4, f5, f6, f7, f8, f9, f10⟩ := cells11 (unhide XX)
 go_wp2_with fail
 clear d0 d1 d2 d3 d4 d5 d6 d7 d8 d9 d10 f0 f1 f2 f3 f4 f5 f6 f7 f8 f9 f10
 refine (eqWantS_has (unhide H).pres (unhide H').pres (unhide HS).pres).mono ?_
 rintro e w5 ⟨rfl, b5⟩
 replace b0 := below_next b0 b5
 replace H := hide ((unhide H).below b5)
 replace H' := hide ((unhide H').below b5)
 replace KK := hide (block_kept b5 (unhide KK))
 replace XX := hide (block_kept b5 (unhide XX))
 clear b5
 obtain ⟨d0, d1, d2, d3, d4, d5, d6, d7, d8, d9, d10⟩ := cells11 (unhide KK)
 obtain ⟨f0, f1, f2, f3, f4, f5, f6, f7, f8, f9, f10⟩ := cells11 (unhide XX)
 go_wp2_with fail
 clear d0 d1 d2 d3 d4 d5 d6 d7 d8 d9 d10 f0 f1 f2 f3 f4 f5 f6 f7 f8 f9 f10
 refine (eqWantS_has (unhide H).ups (unhide H').ups (unhide HS).ups).mono ?_
 rintro e w6 ⟨rfl, b6⟩
 replace b0 := below_next b0 b6
 replace H := hide ((unhide H).below b6)
 replace H' := hide ((unhide H').below b6)
 replace KK := hide (block_kept b6 (unhide KK))
 replace XX := hide (block_kept b6 (unhide XX))
 clear b6
 go_wp2_with fail
 go_ret
 exact ⟨rfl, b0⟩
end Go.Proofs.YtjgfljndeolmoaaGreat

namespace Go.Proofs.YtjgfljndeolmoaaGreat
open Go.RowKit

/-- The data, as bytes. -/
def dataB (r : Rec) : List Int :=
 if r.type = 1 then put32 [] r.addr else if r.type = 6 then put32 (put32 (wire r.to) (r.nums.getD 0 0)) (r.nums.getD 1 0) else if named r.type = true then wire r.to else (r.text.length : Int) :: r.text

end Go.Proofs.YtjgfljndeolmoaaGreat

namespace Go.Proofs.YtjgfljndeolmoaaGreat
open Go.RowKit

end Go.Proofs.YtjgfljndeolmoaaGreat
