/-
  The walk of laws.FnExactReplyTo.
-/
import Derived.Test.YtnplmeifhebhhaaGreatReplyToG12
import Derived.Test.YtnplmeifhebhhaaGreatReplyToG26
import Derived.Test.YtnplmeifhebhhaaGreatReplyToG41
import Derived.Test.YtnplmeifhebhhaaGreatReplyToG43
import Derived.Test.YtnplmeifhebhhaaGreatReplyToG45
import Derived.Test.YtnplmeifhebhhaaGreatReplyToG02
import Derived.Deep.RegionHeld3
namespace Go.Proofs.YtnplmeifhebhhaaGreat
open Go.RowKit
set_option linter.unusedVariables false

theorem replyM_size {m : Mg} {code : Int} (hs : SizeM 1048576 m) (hc : m.count ≤ 1048576) : SizeM 1048576 (replyM m code) ∧ (replyM m code).count ≤ 1048576 ∧ (replyM m code).pres.length = 0 ∧ (replyM m code).ups.length = 0 := by
 unfold replyM
 unfold Mg.count at hc
 split
 ·refine ⟨⟨hs.qs, fun i hi => absurd hi (by simp), fun i hi => absurd hi (by simp), fun i hi => absurd hi (by simp), fun i hi => absurd hi (by simp), fun i hi => absurd hi (by simp)⟩, ?_, rfl, rfl⟩
  unfold Mg.count
  simp only [List.length_nil]
  omega
 ·exact ⟨⟨fun i hi => absurd hi (by simp [zeroM]), fun i hi => absurd hi (by simp [zeroM]), fun i hi => absurd hi (by simp [zeroM]), fun i hi => absurd hi (by simp [zeroM]), fun i hi => absurd hi (by simp [zeroM]), fun i hi => absurd hi (by simp [zeroM])⟩, by unfold Mg.count zeroM; simp, rfl, rfl⟩

set_option maxHeartbeats 4000000 in
set_option maxRecDepth 100000 in
theorem lawReplyTo (aq : Option Addr) (cq : Nat) (aa : Option Addr) (ca : Nat) (ab : Option Addr) (cb : Nat) (am : Option Addr) (cm : Nat) (ap : Option Addr) (cp : Nat) (au : Option Addr) (cu : Nat) (m : Mg) (code : Int) (w : World) (h : InM w aq aa ab am ap au m) (hl : m.qs.length ≤ maxLen ∧ m.ans.length ≤ maxLen ∧ m.aus.length ≤ maxLen ∧ m.more.length ≤ maxLen ∧ m.pres.length ≤ maxLen ∧ m.ups.length ≤ maxLen) (hm : SizeM maxLen m) :
  Calls Tryz.prog 5 #[.agg #[.int .i64 m.id, .bool m.reply, .int .i64 m.op, .bool m.auth, .int .i64 m.code, .slice aq m.qs.length cq, .slice aa m.ans.length ca, .slice ab m.aus.length cb, .slice am m.more.length cm, .slice ap m.pres.length cp, .slice au m.ups.length cu], .int .i64 code] w fun e w' => e = .returned (.bool true) ∧ Below w.heap.size w w' := by
 have bb := below_alloc (w := w) (.cells #[.int .i64 m.id, .bool m.reply, .int .i64 m.op, .bool m.auth, .int .i64 m.code, .slice aq m.qs.length cq, .slice aa m.ans.length ca, .slice ab m.aus.length cb, .slice am m.more.length cm, .slice ap m.pres.length cp, .slice au m.ups.length cu] 26)
 have K0 := hide (heap_alloc_new w (.cells #[.int .i64 m.id, .bool m.reply, .int .i64 m.op, .bool m.auth, .int .i64 m.code, .slice aq m.qs.length cq, .slice aa m.ans.length ca, .slice ab m.aus.length cb, .slice am m.more.length cm, .slice ap m.pres.length cp, .slice au m.ups.length cu] 26))
 have L0 := hide h
 have HM := hide hm
 have HLL := hide hl
 clear h hm hl
 go_enter Tryz.func5, Tryz.ntmps5
 go_wp2_with fail
 generalize w.alloc (.cells #[.int .i64 m.id, .bool m.reply, .int .i64 m.op, .bool m.auth, .int .i64 m.code, .slice aq m.qs.length cq, .slice aa m.ans.length ca, .slice ab m.aus.length cb, .slice am m.more.length cm, .slice ap m.pres.length cp, .slice au m.ups.length cu] 26) = W at *
 have zk0 := block_lt (unhide K0)
 refine (szMsg_any aq cq aa ca ab cb am cm ap cp au cu m 1048576 _ ((unhide L0).below bb) (unhide HLL) (unhide HM) (by omega) (by omega)).mono ?_
 rintro e w1 ⟨⟨y, rfl, hr0, hr1, hr2⟩, b1⟩
 replace bb := below_next bb b1
 replace K0 := hide (block_kept b1 (unhide K0))
 have z1 := b1.size
 clear b1
 by_cases hneg : y < 0
 ·clear hr2
  go_wp2_with fail
  go_ret
  exact ⟨rfl, bb⟩
 have HS := hide ((hr2 (by omega)).1.mono (s' := 1048576) (by omega))
 have HSS := hide ((unhide HS).mono (s' := 2097152) (by omega))
 have hcnt : m.count ≤ 1048576 := by have := (hr2 (by omega)).2; omega
 clear hr2 HM HLL
 have MK := hide (markMsg_out (m := m) (unhide HS) hcnt)
 have SP := fun (w : World) (vq va vb vm vp vu : Value) (h : HasM w vq va vb vm vp vu m) => specReplyTo_has h code
 have IM := fun (w : World) (vq va vb vm vp vu : Value) (h : HasM w vq va vb vm vp vu m) => implReplyTo_has h code
 have hsr := replyM_size (code := code) (unhide HS) hcnt
 generalize replyM m code = r at *
 have HSr := hide hsr.1
 have HSSr := hide ((unhide HSr).mono (s' := 2097152) (by omega))
 have hcr := hsr.2.1
 have hpr := hsr.2.2.1
 have hur := hsr.2.2.2
 have MR := hide (markMsg_r (m := r) (unhide HSr) hcr hpr hur)
 have HD := hide (fun (w : World) (vq va vb vm vp vu : Value) (h : HasM w vq va vb vm vp vu (markM r)) => heldMsg_r (m := r) (unhide HSr) hcr hpr hur h)
 have hPM := (posM_bounds (unhide HSr) hcr).2.2.2.2.2.2
 have hPn : ¬ posM r < 0 := by omega
 have hPe : (posM r != posM r) = false := by simp
 clear hsr hpr hur hPM
 replace SP := hide SP
 replace IM := hide IM
 obtain ⟨k0, k1, k2, k3, k4, k5, k6, k7, k8, k9, k10⟩ := cells11 (unhide K0)
 go_wp2_with fail
 clear k0 k1 k2 k3 k4 k5 k6 k7 k8 k9 k10
 refine (toMsg_own aq cq aa ca ab cb am cm ap cp au cu m _ ((unhide L0).below bb) hcnt (unhide HS)).mono ?_
 rintro e w2 ⟨vq2, va2, vb2, vm2, vp2, vu2, rfl, o2, b2⟩
 obtain ⟨xq2, yq2, rfl, _⟩ := o2.has.qs.form
 obtain ⟨xa2, ya2, rfl, _⟩ := o2.has.ans.form
 obtain ⟨xb2, yb2, rfl, _⟩ := o2.has.aus.form
 obtain ⟨xm2, ym2, rfl, _⟩ := o2.has.more.form
 obtain ⟨xp2, yp2, rfl, _⟩ := o2.has.pres.form
 obtain ⟨xu2, yu2, rfl, _⟩ := o2.has.ups.form
 have A2 := hide o2.has
 clear o2
 replace bb := below_next bb b2
 replace K0 := hide (block_kept b2 (unhide K0))
 have zb2 := b2.size
 clear b2
 obtain ⟨k0, k1, k2, k3, k4, k5, k6, k7, k8, k9, k10⟩ := cells11 (unhide K0)
 go_wp2_with fail
 clear k0 k1 k2 k3 k4 k5 k6 k7 k8 k9 k10
 refine (unhide SP _ _ _ _ _ _ _ (unhide A2)).mono ?_
 rintro e w3 ⟨vq3, va3, vb3, vm3, vp3, vu3, rfl, o3, b3⟩
 obtain ⟨xq3, yq3, rfl, _⟩ := o3.has.qs.form
 obtain ⟨xa3, ya3, rfl, _⟩ := o3.has.ans.form
 obtain ⟨xb3, yb3, rfl, _⟩ := o3.has.aus.form
 obtain ⟨xm3, ym3, rfl, _⟩ := o3.has.more.form
 obtain ⟨xp3, yp3, rfl, _⟩ := o3.has.pres.form
 obtain ⟨xu3, yu3, rfl, _⟩ := o3.has.ups.form
 clear A2
 have W0 := hide o3
 clear o3
 replace bb := below_next bb b3
 replace K0 := hide (block_kept b3 (unhide K0))
 have zb3 := b3.size
 clear b3
 have b30 := below_alloc (w := w3) (.cells #[.int .i64 r.id, .bool r.reply, .int .i64 r.op, .bool r.auth, .int .i64 r.code, .slice xq3 r.qs.length yq3, .slice xa3 r.ans.length ya3, .slice xb3 r.aus.length yb3, .slice xm3 r.more.length ym3, .slice xp3 r.pres.length yp3, .slice xu3 r.ups.length yu3] 33)
 have BW := hide (heap_alloc_new w3 (.cells #[.int .i64 r.id, .bool r.reply, .int .i64 r.op, .bool r.auth, .int .i64 r.code, .slice xq3 r.qs.length yq3, .slice xa3 r.ans.length ya3, .slice xb3 r.aus.length yb3, .slice xm3 r.more.length ym3, .slice xp3 r.pres.length yp3, .slice xu3 r.ups.length yu3] 33))
 obtain ⟨k0, k1, k2, k3, k4, k5, k6, k7, k8, k9, k10⟩ := cells11 (block_kept b30 (unhide K0))
 go_wp2_with fail
 clear k0 k1 k2 k3 k4 k5 k6 k7 k8 k9 k10
 generalize w3.alloc (.cells #[.int .i64 r.id, .bool r.reply, .int .i64 r.op, .bool r.auth, .int .i64 r.code, .slice xq3 r.qs.length yq3, .slice xa3 r.ans.length ya3, .slice xb3 r.aus.length yb3, .slice xm3 r.more.length ym3, .slice xp3 r.pres.length yp3, .slice xu3 r.ups.length yu3] 33) = w30 at *
 replace bb := below_next bb b30
 replace K0 := hide (block_kept b30 (unhide K0))
 replace W0 := hide ((unhide W0).below b30)
 have zb30 := b30.size
 clear b30
 have zb30 := block_lt (unhide BW)
 refine (toMsg_own aq cq aa ca ab cb am cm ap cp au cu m _ ((unhide L0).below bb) hcnt (unhide HS)).mono ?_
 rintro e w4 ⟨vq4, va4, vb4, vm4, vp4, vu4, rfl, o4, b4⟩
 obtain ⟨xq4, yq4, rfl, _⟩ := o4.has.qs.form
 obtain ⟨xa4, ya4, rfl, _⟩ := o4.has.ans.form
 obtain ⟨xb4, yb4, rfl, _⟩ := o4.has.aus.form
 obtain ⟨xm4, ym4, rfl, _⟩ := o4.has.more.form
 obtain ⟨xp4, yp4, rfl, _⟩ := o4.has.pres.form
 obtain ⟨xu4, yu4, rfl, _⟩ := o4.has.ups.form
 have X0 := hide o4
 clear o4
 replace bb := below_next bb b4
 replace K0 := hide (block_kept b4 (unhide K0))
 replace W0 := hide ((unhide W0).below b4)
 replace BW := hide (block_kept b4 (unhide BW))
 have zb4 := b4.size
 clear b4
 have b5 := below_alloc (w := w4) (.cells #[.int .i64 m.id, .bool m.reply, .int .i64 m.op, .bool m.auth, .int .i64 m.code, .slice xq4 m.qs.length yq4, .slice xa4 m.ans.length ya4, .slice xb4 m.aus.length yb4, .slice xm4 m.more.length ym4, .slice xp4 m.pres.length yp4, .slice xu4 m.ups.length yu4] 33)
 have VX := hide (heap_alloc_new w4 (.cells #[.int .i64 m.id, .bool m.reply, .int .i64 m.op, .bool m.auth, .int .i64 m.code, .slice xq4 m.qs.length yq4, .slice xa4 m.ans.length ya4, .slice xb4 m.aus.length yb4, .slice xm4 m.more.length ym4, .slice xp4 m.pres.length yp4, .slice xu4 m.ups.length yu4] 33))
 obtain ⟨k0, k1, k2, k3, k4, k5, k6, k7, k8, k9, k10⟩ := cells11 (block_kept b5 (unhide K0))
 go_wp2_with fail
 clear k0 k1 k2 k3 k4 k5 k6 k7 k8 k9 k10
 generalize w4.alloc (.cells #[.int .i64 m.id, .bool m.reply, .int .i64 m.op, .bool m.auth, .int .i64 m.code, .slice xq4 m.qs.length yq4, .slice xa4 m.ans.length ya4, .slice xb4 m.aus.length yb4, .slice xm4 m.more.length ym4, .slice xp4 m.pres.length yp4, .slice xu4 m.ups.length yu4] 33) = w5 at *
 replace bb := below_next bb b5
 replace K0 := hide (block_kept b5 (unhide K0))
 replace W0 := hide ((unhide W0).below b5)
 replace BW := hide (block_kept b5 (unhide BW))
 replace X0 := hide ((unhide X0).below b5)
 have zb5 := b5.size
 clear b5
 have zb5 := block_lt (unhide VX)
 refine (unhide IM _ _ _ _ _ _ _ (unhide X0).has).mono ?_
 rintro e w6 ⟨vq6, va6, vb6, vm6, vp6, vu6, rfl, o6, b6⟩
 obtain ⟨xq6, yq6, rfl, _⟩ := o6.has.qs.form
 obtain ⟨xa6, ya6, rfl, _⟩ := o6.has.ans.form
 obtain ⟨xb6, yb6, rfl, _⟩ := o6.has.aus.form
 obtain ⟨xm6, ym6, rfl, _⟩ := o6.has.more.form
 obtain ⟨xp6, yp6, rfl, _⟩ := o6.has.pres.form
 obtain ⟨xu6, yu6, rfl, _⟩ := o6.has.ups.form
 have GG := hide o6
 clear o6
 replace bb := below_next bb b6
 replace K0 := hide (block_kept b6 (unhide K0))
 replace W0 := hide ((unhide W0).below b6)
 replace BW := hide (block_kept b6 (unhide BW))
 replace X0 := hide ((unhide X0).below b6)
 replace VX := hide (block_kept b6 (unhide VX))
 have zb6 := b6.size
 clear b6
 have b60 := below_alloc (w := w6) (.cells #[.int .i64 r.id, .bool r.reply, .int .i64 r.op, .bool r.auth, .int .i64 r.code, .slice xq6 r.qs.length yq6, .slice xa6 r.ans.length ya6, .slice xb6 r.aus.length yb6, .slice xm6 r.more.length ym6, .slice xp6 r.pres.length yp6, .slice xu6 r.ups.length yu6] 33)
 have BG := hide (heap_alloc_new w6 (.cells #[.int .i64 r.id, .bool r.reply, .int .i64 r.op, .bool r.auth, .int .i64 r.code, .slice xq6 r.qs.length yq6, .slice xa6 r.ans.length ya6, .slice xb6 r.aus.length yb6, .slice xm6 r.more.length ym6, .slice xp6 r.pres.length yp6, .slice xu6 r.ups.length yu6] 33))
 obtain ⟨k0, k1, k2, k3, k4, k5, k6, k7, k8, k9, k10⟩ := cells11 (block_kept b60 (unhide K0))
 obtain ⟨d0, d1, d2, d3, d4, d5, d6, d7, d8, d9, d10⟩ := cells11 (block_kept b60 (unhide BW))
 obtain ⟨x0, x1, x2, x3, x4, x5, x6, x7, x8, x9, x10⟩ := cells11 (block_kept b60 (unhide VX))
 go_wp2_with fail
 clear k0 k1 k2 k3 k4 k5 k6 k7 k8 k9 k10 d0 d1 d2 d3 d4 d5 d6 d7 d8 d9 d10 x0 x1 x2 x3 x4 x5 x6 x7 x8 x9 x10
 generalize w6.alloc (.cells #[.int .i64 r.id, .bool r.reply, .int .i64 r.op, .bool r.auth, .int .i64 r.code, .slice xq6 r.qs.length yq6, .slice xa6 r.ans.length ya6, .slice xb6 r.aus.length yb6, .slice xm6 r.more.length ym6, .slice xp6 r.pres.length yp6, .slice xu6 r.ups.length yu6] 33) = w60 at *
 replace bb := below_next bb b60
 replace K0 := hide (block_kept b60 (unhide K0))
 replace W0 := hide ((unhide W0).below b60)
 replace BW := hide (block_kept b60 (unhide BW))
 replace X0 := hide ((unhide X0).below b60)
 replace VX := hide (block_kept b60 (unhide VX))
 replace GG := hide ((unhide GG).below b60)
 have zb60 := b60.size
 clear b60
 have zb60 := block_lt (unhide BG)
 refine (eqMsg_has (unhide GG).has (unhide W0).has (unhide HSSr)).mono ?_
 rintro e w7 ⟨rfl, b7⟩
 replace bb := below_next bb b7
 replace K0 := hide (block_kept b7 (unhide K0))
 replace W0 := hide ((unhide W0).below b7)
 replace BW := hide (block_kept b7 (unhide BW))
 replace X0 := hide ((unhide X0).below b7)
 replace VX := hide (block_kept b7 (unhide VX))
 replace GG := hide ((unhide GG).below b7)
 replace BG := hide (block_kept b7 (unhide BG))
 have zb7 := b7.size
 clear b7
 have bd := below_drew (w := w7)
 have zd : w7.drew.heap.size = w7.heap.size := rfl
 replace bb := below_next bb bd
 replace K0 := hide (block_kept bd (unhide K0))
 replace W0 := hide ((unhide W0).below bd)
 replace BW := hide (block_kept bd (unhide BW))
 replace X0 := hide ((unhide X0).below bd)
 replace VX := hide (block_kept bd (unhide VX))
 replace GG := hide ((unhide GG).below bd)
 replace BG := hide (block_kept bd (unhide BG))
 have zbd := bd.size
 clear bd
 obtain ⟨k0, k1, k2, k3, k4, k5, k6, k7, k8, k9, k10⟩ := cells11 (unhide K0)
 obtain ⟨d0, d1, d2, d3, d4, d5, d6, d7, d8, d9, d10⟩ := cells11 (unhide BW)
 obtain ⟨x0, x1, x2, x3, x4, x5, x6, x7, x8, x9, x10⟩ := cells11 (unhide VX)
 obtain ⟨f0, f1, f2, f3, f4, f5, f6, f7, f8, f9, f10⟩ := cells11 (unhide BG)
 go_wp2_with fail
 clear k0 k1 k2 k3 k4 k5 k6 k7 k8 k9 k10 d0 d1 d2 d3 d4 d5 d6 d7 d8 d9 d10 x0 x1 x2 x3 x4 x5 x6 x7 x8 x9 x10 f0 f1 f2 f3 f4 f5 f6 f7 f8 f9 f10
 go_region_held3 (fun w' => (w'.cell? ⟨w.heap.size, 0, none⟩ = some (.int .i64 m.id) ∧ w'.cell? ⟨w.heap.size, 1, none⟩ = some (.bool m.reply) ∧ w'.cell? ⟨w.heap.size, 2, none⟩ = some (.int .i64 m.op) ∧ w'.cell? ⟨w.heap.size, 3, none⟩ = some (.bool m.auth) ∧ w'.cell? ⟨w.heap.size, 4, none⟩ = some (.int .i64 m.code) ∧ w'.cell? ⟨w.heap.size, 5, none⟩ = some (.slice aq m.qs.length cq) ∧ w'.cell? ⟨w.heap.size, 6, none⟩ = some (.slice aa m.ans.length ca) ∧ w'.cell? ⟨w.heap.size, 7, none⟩ = some (.slice ab m.aus.length cb) ∧ w'.cell? ⟨w.heap.size, 8, none⟩ = some (.slice am m.more.length cm) ∧ w'.cell? ⟨w.heap.size, 9, none⟩ = some (.slice ap m.pres.length cp) ∧ w'.cell? ⟨w.heap.size, 10, none⟩ = some (.slice au m.ups.length cu)) ∧ (w'.cell? ⟨w4.heap.size, 0, none⟩ = some (.int .i64 m.id) ∧ w'.cell? ⟨w4.heap.size, 1, none⟩ = some (.bool m.reply) ∧ w'.cell? ⟨w4.heap.size, 2, none⟩ = some (.int .i64 m.op) ∧ w'.cell? ⟨w4.heap.size, 3, none⟩ = some (.bool m.auth) ∧ w'.cell? ⟨w4.heap.size, 4, none⟩ = some (.int .i64 m.code) ∧ w'.cell? ⟨w4.heap.size, 5, none⟩ = some (.slice xq4 m.qs.length yq4) ∧ w'.cell? ⟨w4.heap.size, 6, none⟩ = some (.slice xa4 m.ans.length ya4) ∧ w'.cell? ⟨w4.heap.size, 7, none⟩ = some (.slice xb4 m.aus.length yb4) ∧ w'.cell? ⟨w4.heap.size, 8, none⟩ = some (.slice xm4 m.more.length ym4) ∧ w'.cell? ⟨w4.heap.size, 9, none⟩ = some (.slice xp4 m.pres.length yp4) ∧ w'.cell? ⟨w4.heap.size, 10, none⟩ = some (.slice xu4 m.ups.length yu4)))
  (first | exact ⟨cells11 (unhide K0), cells11 (unhide VX)⟩ | exact ⟨cells11 (block_kept b8 (unhide K0)), cells11 (block_kept b8 (unhide VX))⟩ | exact ⟨cells11 (block_kept q9 (unhide K0)), cells11 (block_kept q9 (unhide VX))⟩)
  (first
  | (go_at_call 10; refine (toMsg_own aq cq aa ca ab cb am cm ap cp au cu m _ ((unhide L0).below bb) hcnt (unhide HS)).mono ?_; rintro e w8 ⟨vq8, va8, vb8, vm8, vp8, vu8, rfl, o8, b8⟩; obtain ⟨xq8, yq8, rfl, _⟩ := o8.has.qs.form; obtain ⟨xa8, ya8, rfl, _⟩ := o8.has.ans.form; obtain ⟨xb8, yb8, rfl, _⟩ := o8.has.aus.form; obtain ⟨xm8, ym8, rfl, _⟩ := o8.has.more.form; obtain ⟨xp8, yp8, rfl, _⟩ := o8.has.pres.form; obtain ⟨xu8, yu8, rfl, _⟩ := o8.has.ups.form)
  | (go_at_call 12; refine (eqMsg_has ((unhide X0).below b8).has o8.has (unhide HSS)).mono ?_; rintro e w9 ⟨rfl, b9⟩; have q9 := below_next b8 b9))
 clear b8 b9 o8
 replace bb := below_next bb q9
 replace K0 := hide (block_kept q9 (unhide K0))
 replace W0 := hide ((unhide W0).below q9)
 replace BW := hide (block_kept q9 (unhide BW))
 replace X0 := hide ((unhide X0).below q9)
 replace VX := hide (block_kept q9 (unhide VX))
 replace GG := hide ((unhide GG).below q9)
 replace BG := hide (block_kept q9 (unhide BG))
 have zq9 := q9.size
 clear q9
 obtain ⟨k0, k1, k2, k3, k4, k5, k6, k7, k8, k9, k10⟩ := cells11 (unhide K0)
 obtain ⟨d0, d1, d2, d3, d4, d5, d6, d7, d8, d9, d10⟩ := cells11 (unhide BW)
 obtain ⟨x0, x1, x2, x3, x4, x5, x6, x7, x8, x9, x10⟩ := cells11 (unhide VX)
 obtain ⟨f0, f1, f2, f3, f4, f5, f6, f7, f8, f9, f10⟩ := cells11 (unhide BG)
 go_wp2_with fail
 clear k0 k1 k2 k3 k4 k5 k6 k7 k8 k9 k10 d0 d1 d2 d3 d4 d5 d6 d7 d8 d9 d10 x0 x1 x2 x3 x4 x5 x6 x7 x8 x9 x10 f0 f1 f2 f3 f4 f5 f6 f7 f8 f9 f10
 refine (unhide MK _ _ _ _ _ _ _ _ _ (by omega) (unhide X0)).mono ?_
 rintro e w10 ⟨⟨P0, rfl, hPa⟩, u10⟩
 have hPz : ¬ P0 < 0 := by omega
 clear X0
 replace bb := u10.below bb (by omega)
 replace K0 := hide (u10.kept (unhide K0) (by omega))
 replace W0 := hide ((unhide W0).outside u10 (by omega))
 replace BW := hide (u10.kept (unhide BW) (by omega))
 replace VX := hide (u10.kept (unhide VX) (by omega))
 replace GG := hide ((unhide GG).outside u10 (by omega))
 replace BG := hide (u10.kept (unhide BG) (by omega))
 have zu10 := u10.size
 clear u10
 obtain ⟨k0, k1, k2, k3, k4, k5, k6, k7, k8, k9, k10⟩ := cells11 (unhide K0)
 obtain ⟨d0, d1, d2, d3, d4, d5, d6, d7, d8, d9, d10⟩ := cells11 (unhide BW)
 obtain ⟨x0, x1, x2, x3, x4, x5, x6, x7, x8, x9, x10⟩ := cells11 (unhide VX)
 obtain ⟨f0, f1, f2, f3, f4, f5, f6, f7, f8, f9, f10⟩ := cells11 (unhide BG)
 go_wp2_with fail
 clear k0 k1 k2 k3 k4 k5 k6 k7 k8 k9 k10 d0 d1 d2 d3 d4 d5 d6 d7 d8 d9 d10 x0 x1 x2 x3 x4 x5 x6 x7 x8 x9 x10 f0 f1 f2 f3 f4 f5 f6 f7 f8 f9 f10
 refine (eqMsg_has (unhide GG).has (unhide W0).has (unhide HSSr)).mono ?_
 rintro e w11 ⟨rfl, b11⟩
 replace bb := below_next bb b11
 replace K0 := hide (block_kept b11 (unhide K0))
 replace W0 := hide ((unhide W0).below b11)
 replace BW := hide (block_kept b11 (unhide BW))
 replace VX := hide (block_kept b11 (unhide VX))
 replace GG := hide ((unhide GG).below b11)
 replace BG := hide (block_kept b11 (unhide BG))
 have zb11 := b11.size
 clear b11
 obtain ⟨k0, k1, k2, k3, k4, k5, k6, k7, k8, k9, k10⟩ := cells11 (unhide K0)
 obtain ⟨d0, d1, d2, d3, d4, d5, d6, d7, d8, d9, d10⟩ := cells11 (unhide BW)
 obtain ⟨x0, x1, x2, x3, x4, x5, x6, x7, x8, x9, x10⟩ := cells11 (unhide VX)
 obtain ⟨f0, f1, f2, f3, f4, f5, f6, f7, f8, f9, f10⟩ := cells11 (unhide BG)
 go_wp2_with fail
 clear k0 k1 k2 k3 k4 k5 k6 k7 k8 k9 k10 d0 d1 d2 d3 d4 d5 d6 d7 d8 d9 d10 x0 x1 x2 x3 x4 x5 x6 x7 x8 x9 x10 f0 f1 f2 f3 f4 f5 f6 f7 f8 f9 f10
 refine (unhide MR _ _ _ _ _ _ _ _ _ (by omega) (unhide GG)).mono ?_
 rintro e w12 ⟨rfl, o12, u12⟩
 clear GG
 replace bb := u12.below bb (by omega)
 replace K0 := hide (u12.kept (unhide K0) (by omega))
 replace W0 := hide ((unhide W0).outside u12 (by omega))
 replace BW := hide (u12.kept (unhide BW) (by omega))
 replace VX := hide (u12.kept (unhide VX) (by omega))
 replace BG := hide (u12.kept (unhide BG) (by omega))
 have zu12 := u12.size
 clear u12
 have GM := hide o12.has
 clear o12
 obtain ⟨k0, k1, k2, k3, k4, k5, k6, k7, k8, k9, k10⟩ := cells11 (unhide K0)
 obtain ⟨d0, d1, d2, d3, d4, d5, d6, d7, d8, d9, d10⟩ := cells11 (unhide BW)
 obtain ⟨x0, x1, x2, x3, x4, x5, x6, x7, x8, x9, x10⟩ := cells11 (unhide VX)
 obtain ⟨f0, f1, f2, f3, f4, f5, f6, f7, f8, f9, f10⟩ := cells11 (unhide BG)
 go_wp2_with fail
 clear k0 k1 k2 k3 k4 k5 k6 k7 k8 k9 k10 d0 d1 d2 d3 d4 d5 d6 d7 d8 d9 d10 x0 x1 x2 x3 x4 x5 x6 x7 x8 x9 x10 f0 f1 f2 f3 f4 f5 f6 f7 f8 f9 f10
 refine (unhide HD _ _ _ _ _ _ _ (unhide GM)).mono ?_
 rintro e w13 ⟨rfl, b13⟩
 replace bb := below_next bb b13
 replace K0 := hide (block_kept b13 (unhide K0))
 replace W0 := hide ((unhide W0).below b13)
 replace BW := hide (block_kept b13 (unhide BW))
 replace VX := hide (block_kept b13 (unhide VX))
 replace BG := hide (block_kept b13 (unhide BG))
 replace GM := hide ((unhide GM).below b13)
 have zb13 := b13.size
 clear b13
 obtain ⟨k0, k1, k2, k3, k4, k5, k6, k7, k8, k9, k10⟩ := cells11 (unhide K0)
 obtain ⟨d0, d1, d2, d3, d4, d5, d6, d7, d8, d9, d10⟩ := cells11 (unhide BW)
 obtain ⟨x0, x1, x2, x3, x4, x5, x6, x7, x8, x9, x10⟩ := cells11 (unhide VX)
 obtain ⟨f0, f1, f2, f3, f4, f5, f6, f7, f8, f9, f10⟩ := cells11 (unhide BG)
 go_wp2_with fail
 clear k0 k1 k2 k3 k4 k5 k6 k7 k8 k9 k10 d0 d1 d2 d3 d4 d5 d6 d7 d8 d9 d10 x0 x1 x2 x3 x4 x5 x6 x7 x8 x9 x10 f0 f1 f2 f3 f4 f5 f6 f7 f8 f9 f10
 refine (toMsg_own aq cq aa ca ab cb am cm ap cp au cu m _ ((unhide L0).below bb) hcnt (unhide HS)).mono ?_
 rintro e w14 ⟨vq14, va14, vb14, vm14, vp14, vu14, rfl, o14, b14⟩
 obtain ⟨xq14, yq14, rfl, _⟩ := o14.has.qs.form
 obtain ⟨xa14, ya14, rfl, _⟩ := o14.has.ans.form
 obtain ⟨xb14, yb14, rfl, _⟩ := o14.has.aus.form
 obtain ⟨xm14, ym14, rfl, _⟩ := o14.has.more.form
 obtain ⟨xp14, yp14, rfl, _⟩ := o14.has.pres.form
 obtain ⟨xu14, yu14, rfl, _⟩ := o14.has.ups.form
 have A14 := hide o14.has
 clear o14
 replace bb := below_next bb b14
 replace K0 := hide (block_kept b14 (unhide K0))
 replace W0 := hide ((unhide W0).below b14)
 replace BW := hide (block_kept b14 (unhide BW))
 replace VX := hide (block_kept b14 (unhide VX))
 replace BG := hide (block_kept b14 (unhide BG))
 replace GM := hide ((unhide GM).below b14)
 have zb14 := b14.size
 clear b14
 obtain ⟨k0, k1, k2, k3, k4, k5, k6, k7, k8, k9, k10⟩ := cells11 (unhide K0)
 obtain ⟨d0, d1, d2, d3, d4, d5, d6, d7, d8, d9, d10⟩ := cells11 (unhide BW)
 obtain ⟨x0, x1, x2, x3, x4, x5, x6, x7, x8, x9, x10⟩ := cells11 (unhide VX)
 obtain ⟨f0, f1, f2, f3, f4, f5, f6, f7, f8, f9, f10⟩ := cells11 (unhide BG)
 go_wp2_with fail
 clear k0 k1 k2 k3 k4 k5 k6 k7 k8 k9 k10 d0 d1 d2 d3 d4 d5 d6 d7 d8 d9 d10 x0 x1 x2 x3 x4 x5 x6 x7 x8 x9 x10 f0 f1 f2 f3 f4 f5 f6 f7 f8 f9 f10
 refine (unhide IM _ _ _ _ _ _ _ (unhide A14)).mono ?_
 rintro e w15 ⟨vq15, va15, vb15, vm15, vp15, vu15, rfl, o15, b15⟩
 obtain ⟨xq15, yq15, rfl, _⟩ := o15.has.qs.form
 obtain ⟨xa15, ya15, rfl, _⟩ := o15.has.ans.form
 obtain ⟨xb15, yb15, rfl, _⟩ := o15.has.aus.form
 obtain ⟨xm15, ym15, rfl, _⟩ := o15.has.more.form
 obtain ⟨xp15, yp15, rfl, _⟩ := o15.has.pres.form
 obtain ⟨xu15, yu15, rfl, _⟩ := o15.has.ups.form
 clear A14
 have H0 := hide o15
 clear o15
 replace bb := below_next bb b15
 replace K0 := hide (block_kept b15 (unhide K0))
 replace W0 := hide ((unhide W0).below b15)
 replace BW := hide (block_kept b15 (unhide BW))
 replace VX := hide (block_kept b15 (unhide VX))
 replace BG := hide (block_kept b15 (unhide BG))
 replace GM := hide ((unhide GM).below b15)
 have zb15 := b15.size
 clear b15
 have b50 := below_alloc (w := w15) (.cells #[.int .i64 r.id, .bool r.reply, .int .i64 r.op, .bool r.auth, .int .i64 r.code, .slice xq15 r.qs.length yq15, .slice xa15 r.ans.length ya15, .slice xb15 r.aus.length yb15, .slice xm15 r.more.length ym15, .slice xp15 r.pres.length yp15, .slice xu15 r.ups.length yu15] 33)
 have BH := hide (heap_alloc_new w15 (.cells #[.int .i64 r.id, .bool r.reply, .int .i64 r.op, .bool r.auth, .int .i64 r.code, .slice xq15 r.qs.length yq15, .slice xa15 r.ans.length ya15, .slice xb15 r.aus.length yb15, .slice xm15 r.more.length ym15, .slice xp15 r.pres.length yp15, .slice xu15 r.ups.length yu15] 33))
 obtain ⟨k0, k1, k2, k3, k4, k5, k6, k7, k8, k9, k10⟩ := cells11 (block_kept b50 (unhide K0))
 obtain ⟨d0, d1, d2, d3, d4, d5, d6, d7, d8, d9, d10⟩ := cells11 (block_kept b50 (unhide BW))
 obtain ⟨x0, x1, x2, x3, x4, x5, x6, x7, x8, x9, x10⟩ := cells11 (block_kept b50 (unhide VX))
 obtain ⟨f0, f1, f2, f3, f4, f5, f6, f7, f8, f9, f10⟩ := cells11 (block_kept b50 (unhide BG))
 go_wp2_with fail
 clear k0 k1 k2 k3 k4 k5 k6 k7 k8 k9 k10 d0 d1 d2 d3 d4 d5 d6 d7 d8 d9 d10 x0 x1 x2 x3 x4 x5 x6 x7 x8 x9 x10 f0 f1 f2 f3 f4 f5 f6 f7 f8 f9 f10
 generalize w15.alloc (.cells #[.int .i64 r.id, .bool r.reply, .int .i64 r.op, .bool r.auth, .int .i64 r.code, .slice xq15 r.qs.length yq15, .slice xa15 r.ans.length ya15, .slice xb15 r.aus.length yb15, .slice xm15 r.more.length ym15, .slice xp15 r.pres.length yp15, .slice xu15 r.ups.length yu15] 33) = w50 at *
 replace bb := below_next bb b50
 replace K0 := hide (block_kept b50 (unhide K0))
 replace W0 := hide ((unhide W0).below b50)
 replace BW := hide (block_kept b50 (unhide BW))
 replace VX := hide (block_kept b50 (unhide VX))
 replace BG := hide (block_kept b50 (unhide BG))
 replace GM := hide ((unhide GM).below b50)
 replace H0 := hide ((unhide H0).below b50)
 have zb50 := b50.size
 clear b50
 have zb50 := block_lt (unhide BH)
 refine (eqMsg_has (unhide H0).has (unhide W0).has (unhide HSSr)).mono ?_
 rintro e w16 ⟨rfl, b16⟩
 replace bb := below_next bb b16
 replace K0 := hide (block_kept b16 (unhide K0))
 replace W0 := hide ((unhide W0).below b16)
 replace BW := hide (block_kept b16 (unhide BW))
 replace VX := hide (block_kept b16 (unhide VX))
 replace BG := hide (block_kept b16 (unhide BG))
 replace GM := hide ((unhide GM).below b16)
 replace H0 := hide ((unhide H0).below b16)
 replace BH := hide (block_kept b16 (unhide BH))
 have zb16 := b16.size
 clear b16
 obtain ⟨k0, k1, k2, k3, k4, k5, k6, k7, k8, k9, k10⟩ := cells11 (unhide K0)
 obtain ⟨d0, d1, d2, d3, d4, d5, d6, d7, d8, d9, d10⟩ := cells11 (unhide BW)
 obtain ⟨x0, x1, x2, x3, x4, x5, x6, x7, x8, x9, x10⟩ := cells11 (unhide VX)
 obtain ⟨f0, f1, f2, f3, f4, f5, f6, f7, f8, f9, f10⟩ := cells11 (unhide BG)
 go_wp2_with fail
 clear k0 k1 k2 k3 k4 k5 k6 k7 k8 k9 k10 d0 d1 d2 d3 d4 d5 d6 d7 d8 d9 d10 x0 x1 x2 x3 x4 x5 x6 x7 x8 x9 x10 f0 f1 f2 f3 f4 f5 f6 f7 f8 f9 f10
 refine (unhide HD _ _ _ _ _ _ _ (unhide GM)).mono ?_
 rintro e w17 ⟨rfl, b17⟩
 replace bb := below_next bb b17
 replace K0 := hide (block_kept b17 (unhide K0))
 replace W0 := hide ((unhide W0).below b17)
 replace BW := hide (block_kept b17 (unhide BW))
 replace VX := hide (block_kept b17 (unhide VX))
 replace BG := hide (block_kept b17 (unhide BG))
 replace GM := hide ((unhide GM).below b17)
 replace H0 := hide ((unhide H0).below b17)
 replace BH := hide (block_kept b17 (unhide BH))
 have zb17 := b17.size
 clear b17
 go_wp2_with fail
 go_ret
 exact ⟨rfl, bb⟩
end Go.Proofs.YtnplmeifhebhhaaGreat
