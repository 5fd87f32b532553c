/-
  The walk of laws.FnExactTxnBytes.
-/
import Derived.Test.YtfbfakdkemlbmaaGreatTxnBytesG12
import Derived.Test.YtfbfakdkemlbmaaGreatTxnBytesG01
import Derived.Test.YtfbfakdkemlbmaaGreatTxnBytesG13
import Derived.Test.YtfbfakdkemlbmaaGreatTxnBytesG15
import Derived.Test.YtfbfakdkemlbmaaGreatTxnBytesG33
import Derived.Test.YtfbfakdkemlbmaaGreatTxnBytesG46
namespace Go.Proofs.YtfbfakdkemlbmaaGreat
open Go.RowKit
set_option linter.unusedVariables false

set_option maxHeartbeats 8000000 in
set_option maxRecDepth 100000 in
theorem lawTxnBytes (aq : Option Addr) (cq : Nat) (aa : Option Addr) (ca : Nat) (ab : Option Addr) (cb : Nat) (am : Option Addr) (cm : Nat) (ap : Option Addr) (cp : Nat) (au : Option Addr) (cu : Nat) (ac : Option Addr) (cc : Nat) (ah : Option Addr) (ch : Nat) (t : Tx) (w : World) (h : InTx w aq aa ab am ap au ac ah t) (hl : t.msg.qs.length ≤ maxLen ∧ t.msg.ans.length ≤ maxLen ∧ t.msg.aus.length ≤ maxLen ∧ t.msg.more.length ≤ maxLen ∧ t.msg.pres.length ≤ maxLen ∧ t.msg.ups.length ≤ maxLen) (hm : SizeM maxLen t.msg) (hc : t.client.length ≤ maxLen) (hh : t.host.length ≤ maxLen) :
  Calls Tryz.prog 3 #[.agg #[.int .i64 t.kind, .int .i64 t.msg.id, .bool t.msg.reply, .int .i64 t.msg.op, .bool t.msg.auth, .int .i64 t.msg.code, .slice aq t.msg.qs.length cq, .slice aa t.msg.ans.length ca, .slice ab t.msg.aus.length cb, .slice am t.msg.more.length cm, .slice ap t.msg.pres.length cp, .slice au t.msg.ups.length cu, .int .i64 t.ip, .slice ac t.client.length cc, .slice ah t.host.length ch, .int .i64 t.when]] w fun e w' => e = .returned (.bool true) ∧ Below w.heap.size w w' := by
 have bb := below_alloc (w := w) (.cells #[.int .i64 t.kind, .int .i64 t.msg.id, .bool t.msg.reply, .int .i64 t.msg.op, .bool t.msg.auth, .int .i64 t.msg.code, .slice aq t.msg.qs.length cq, .slice aa t.msg.ans.length ca, .slice ab t.msg.aus.length cb, .slice am t.msg.more.length cm, .slice ap t.msg.pres.length cp, .slice au t.msg.ups.length cu, .int .i64 t.ip, .slice ac t.client.length cc, .slice ah t.host.length ch, .int .i64 t.when] 29)
 have K0 := hide (heap_alloc_new w (.cells #[.int .i64 t.kind, .int .i64 t.msg.id, .bool t.msg.reply, .int .i64 t.msg.op, .bool t.msg.auth, .int .i64 t.msg.code, .slice aq t.msg.qs.length cq, .slice aa t.msg.ans.length ca, .slice ab t.msg.aus.length cb, .slice am t.msg.more.length cm, .slice ap t.msg.pres.length cp, .slice au t.msg.ups.length cu, .int .i64 t.ip, .slice ac t.client.length cc, .slice ah t.host.length ch, .int .i64 t.when] 29))
 have L0 := hide h
 have HM := hide hm
 have HLL := hide hl
 have HCC := hide hc
 have HHH := hide hh
 clear h hm hl hc hh
 go_enter Tryz.func3, Tryz.ntmps3
 go_wp2_with fail
 generalize w.alloc (.cells #[.int .i64 t.kind, .int .i64 t.msg.id, .bool t.msg.reply, .int .i64 t.msg.op, .bool t.msg.auth, .int .i64 t.msg.code, .slice aq t.msg.qs.length cq, .slice aa t.msg.ans.length ca, .slice ab t.msg.aus.length cb, .slice am t.msg.more.length cm, .slice ap t.msg.pres.length cp, .slice au t.msg.ups.length cu, .int .i64 t.ip, .slice ac t.client.length cc, .slice ah t.host.length ch, .int .i64 t.when] 29) = W at *
 have zk0 := block_lt (unhide K0)
 refine (szTxn_any aq cq aa ca ab cb am cm ap cp au cu ac cc ah ch t 1048576 _ ((unhide L0).below bb) (unhide HLL) (unhide HM) (unhide HCC) (unhide HHH) (by omega) (by omega)).mono ?_
 rintro e w1 ⟨⟨y, rfl, hr0, hr1, hr2⟩, b1⟩
 replace bb := below_next bb b1
 replace K0 := hide (block_kept b1 (unhide K0))
 have z1 := b1.size
 clear b1
 generalize Value.agg #[.int .i64 t.kind, .int .i64 t.msg.id, .bool t.msg.reply, .int .i64 t.msg.op, .bool t.msg.auth, .int .i64 t.msg.code, .slice aq t.msg.qs.length cq, .slice aa t.msg.ans.length ca, .slice ab t.msg.aus.length cb, .slice am t.msg.more.length cm, .slice ap t.msg.pres.length cp, .slice au t.msg.ups.length cu, .int .i64 t.ip, .slice ac t.client.length cc, .slice ah t.host.length ch, .int .i64 t.when] = V1
 by_cases hneg : y < 0
 ·clear hr2
  go_wp2_with fail
  go_ret
  exact ⟨rfl, bb⟩
 as_aux_lemma =>
  have HS := hide ((hr2 (by omega)).mono (s' := 1048576) (by omega))
  have HSS := hide ((unhide HS).mono (s' := 2097152) (by omega))
  have MK := hide (fun (B E : Nat) (vq va vb vm vp vu vc vh : Value) (w : World) (hEw : E ≤ w.heap.size) (h : OwnTx B E w vq va vb vm vp vu vc vh t) => markTxn_out (unhide HS) B E vq va vb vm vp vu vc vh w hEw h)
  have hG0 := txPut_length t
  clear hr2 HM HLL HCC HHH
  obtain ⟨G0, G1, hG0, SP, IM⟩ : ∃ (G0 : List Int) (G1 : Bool), G0.length ≤ 601 ∧ (∀ (w : World) (vq va vb vm vp vu vc vh : Value), HasTx w vq va vb vm vp vu vc vh t → Calls Tryz.prog 5 #[.agg #[.int .i64 t.kind, .int .i64 t.msg.id, .bool t.msg.reply, .int .i64 t.msg.op, .bool t.msg.auth, .int .i64 t.msg.code, vq, va, vb, vm, vp, vu, .int .i64 t.ip, vc, vh, .int .i64 t.when]] w fun e w' => ∃ v', e = .returned (.tuple #[v', .bool G1]) ∧ Own w.heap.size 5 w' v' G0 ∧ Below w.heap.size w w') ∧ (∀ (w : World) (vq va vb vm vp vu vc vh : Value), HasTx w vq va vb vm vp vu vc vh t → Calls Tryz.prog 7 #[.agg #[.int .i64 t.kind, .int .i64 t.msg.id, .bool t.msg.reply, .int .i64 t.msg.op, .bool t.msg.auth, .int .i64 t.msg.code, vq, va, vb, vm, vp, vu, .int .i64 t.ip, vc, vh, .int .i64 t.when]] w fun e w' => ∃ v', e = .returned (.tuple #[v', .bool G1]) ∧ Own w.heap.size 5 w' v' G0 ∧ Below w.heap.size w w') :=
   ⟨(txPut t).1, (txPut t).2, hG0, fun w vq va vb vm vp vu vc vh h => specTxnBytes_has h (unhide HS).count, fun w vq va vb vm vp vu vc vh h => implTxnBytes_has h (unhide HS).count⟩
  have hgg : (G1 != G1) = false := by simp
  replace SP := hide SP
  replace IM := hide IM
  obtain ⟨k0, k1, k2, k3, k4, k5, k6, k7, k8, k9, k10, k11, k12, k13, k14, k15⟩ := cells16 (unhide K0)
  go_wp2_with fail
  clear k0 k1 k2 k3 k4 k5 k6 k7 k8 k9 k10 k11 k12 k13 k14 k15
  refine (toTxn_own aq cq aa ca ab cb am cm ap cp au cu ac cc ah ch t _ ((unhide L0).below bb) (unhide HS)).mono ?_
  rintro e w2 ⟨vq2, va2, vb2, vm2, vp2, vu2, vc2, vh2, rfl, o2, b2⟩
  obtain ⟨xq2, yq2, rfl, _⟩ := o2.has.msg.qs.form
  obtain ⟨xa2, ya2, rfl, _⟩ := o2.has.msg.ans.form
  obtain ⟨xb2, yb2, rfl, _⟩ := o2.has.msg.aus.form
  obtain ⟨xm2, ym2, rfl, _⟩ := o2.has.msg.more.form
  obtain ⟨xp2, yp2, rfl, _⟩ := o2.has.msg.pres.form
  obtain ⟨xu2, yu2, rfl, _⟩ := o2.has.msg.ups.form
  obtain ⟨xc2, yc2, rfl, _⟩ := o2.has.client.form
  obtain ⟨xh2, yh2, rfl, _⟩ := o2.has.host.form
  have A2 := hide o2.has
  clear o2
  replace bb := below_next bb b2
  replace K0 := hide (block_kept b2 (unhide K0))
  have zb2 := b2.size
  clear b2
  obtain ⟨k0, k1, k2, k3, k4, k5, k6, k7, k8, k9, k10, k11, k12, k13, k14, k15⟩ := cells16 (unhide K0)
  go_wp2_with fail
  clear k0 k1 k2 k3 k4 k5 k6 k7 k8 k9 k10 k11 k12 k13 k14 k15
  refine (unhide SP _ _ _ _ _ _ _ _ _ (unhide A2)).mono ?_
  rintro e w3 ⟨y3, rfl, o3, b3⟩
  clear A2
  generalize Value.agg #[.int .i64 t.kind, .int .i64 t.msg.id, .bool t.msg.reply, .int .i64 t.msg.op, .bool t.msg.auth, .int .i64 t.msg.code, .slice aq t.msg.qs.length cq, .slice aa t.msg.ans.length ca, .slice ab t.msg.aus.length cb, .slice am t.msg.more.length cm, .slice ap t.msg.pres.length cp, .slice au t.msg.ups.length cu, .int .i64 t.ip, .slice ac t.client.length cc, .slice ah t.host.length ch, .int .i64 t.when] = V2
  generalize Value.agg #[.int .i64 t.kind, .int .i64 t.msg.id, .bool t.msg.reply, .int .i64 t.msg.op, .bool t.msg.auth, .int .i64 t.msg.code, .slice xq2 t.msg.qs.length yq2, .slice xa2 t.msg.ans.length ya2, .slice xb2 t.msg.aus.length yb2, .slice xm2 t.msg.more.length ym2, .slice xp2 t.msg.pres.length yp2, .slice xu2 t.msg.ups.length yu2, .int .i64 t.ip, .slice xc2 t.client.length yc2, .slice xh2 t.host.length yh2, .int .i64 t.when] = V3
  replace bb := below_next bb b3
  replace K0 := hide (block_kept b3 (unhide K0))
  have zb3 := b3.size
  clear b3
  have W0 := hide o3.has.at
  clear o3
  as_aux_lemma =>
   obtain ⟨k0, k1, k2, k3, k4, k5, k6, k7, k8, k9, k10, k11, k12, k13, k14, k15⟩ := cells16 (unhide K0)
   go_wp2_with fail
   clear k0 k1 k2 k3 k4 k5 k6 k7 k8 k9 k10 k11 k12 k13 k14 k15
   refine (toTxn_own aq cq aa ca ab cb am cm ap cp au cu ac cc ah ch t _ ((unhide L0).below bb) (unhide HS)).mono ?_
   rintro e w4 ⟨vq4, va4, vb4, vm4, vp4, vu4, vc4, vh4, rfl, o4, b4⟩
   obtain ⟨xq4, yq4, rfl, _⟩ := o4.has.msg.qs.form
   obtain ⟨xa4, ya4, rfl, _⟩ := o4.has.msg.ans.form
   obtain ⟨xb4, yb4, rfl, _⟩ := o4.has.msg.aus.form
   obtain ⟨xm4, ym4, rfl, _⟩ := o4.has.msg.more.form
   obtain ⟨xp4, yp4, rfl, _⟩ := o4.has.msg.pres.form
   obtain ⟨xu4, yu4, rfl, _⟩ := o4.has.msg.ups.form
   obtain ⟨xc4, yc4, rfl, _⟩ := o4.has.client.form
   obtain ⟨xh4, yh4, rfl, _⟩ := o4.has.host.form
   have X0 := hide o4
   clear o4
   replace bb := below_next bb b4
   replace K0 := hide (block_kept b4 (unhide K0))
   replace W0 := hide ((unhide W0).below b4)
   have zb4 := b4.size
   clear b4
   as_aux_lemma =>
    have b5 := below_alloc (w := w4) (.cells #[.int .i64 t.kind, .int .i64 t.msg.id, .bool t.msg.reply, .int .i64 t.msg.op, .bool t.msg.auth, .int .i64 t.msg.code, .slice xq4 t.msg.qs.length yq4, .slice xa4 t.msg.ans.length ya4, .slice xb4 t.msg.aus.length yb4, .slice xm4 t.msg.more.length ym4, .slice xp4 t.msg.pres.length yp4, .slice xu4 t.msg.ups.length yu4, .int .i64 t.ip, .slice xc4 t.client.length yc4, .slice xh4 t.host.length yh4, .int .i64 t.when] 39)
    have VX := hide (heap_alloc_new w4 (.cells #[.int .i64 t.kind, .int .i64 t.msg.id, .bool t.msg.reply, .int .i64 t.msg.op, .bool t.msg.auth, .int .i64 t.msg.code, .slice xq4 t.msg.qs.length yq4, .slice xa4 t.msg.ans.length ya4, .slice xb4 t.msg.aus.length yb4, .slice xm4 t.msg.more.length ym4, .slice xp4 t.msg.pres.length yp4, .slice xu4 t.msg.ups.length yu4, .int .i64 t.ip, .slice xc4 t.client.length yc4, .slice xh4 t.host.length yh4, .int .i64 t.when] 39))
    obtain ⟨k0, k1, k2, k3, k4, k5, k6, k7, k8, k9, k10, k11, k12, k13, k14, k15⟩ := cells16 (block_kept b5 (unhide K0))
    go_wp2_with fail
    clear k0 k1 k2 k3 k4 k5 k6 k7 k8 k9 k10 k11 k12 k13 k14 k15
    generalize w4.alloc (.cells #[.int .i64 t.kind, .int .i64 t.msg.id, .bool t.msg.reply, .int .i64 t.msg.op, .bool t.msg.auth, .int .i64 t.msg.code, .slice xq4 t.msg.qs.length yq4, .slice xa4 t.msg.ans.length ya4, .slice xb4 t.msg.aus.length yb4, .slice xm4 t.msg.more.length ym4, .slice xp4 t.msg.pres.length yp4, .slice xu4 t.msg.ups.length yu4, .int .i64 t.ip, .slice xc4 t.client.length yc4, .slice xh4 t.host.length yh4, .int .i64 t.when] 39) = w5 at *
    replace bb := below_next bb b5
    replace K0 := hide (block_kept b5 (unhide K0))
    replace W0 := hide ((unhide W0).below b5)
    replace X0 := hide ((unhide X0).below b5)
    have zb5 := b5.size
    clear b5
    have zvx := block_lt (unhide VX)
    refine (unhide IM _ _ _ _ _ _ _ _ _ (unhide X0).has).mono ?_
    rintro e w6 ⟨y6, rfl, o6, b6⟩
    generalize Value.agg #[.int .i64 t.kind, .int .i64 t.msg.id, .bool t.msg.reply, .int .i64 t.msg.op, .bool t.msg.auth, .int .i64 t.msg.code, .slice aq t.msg.qs.length cq, .slice aa t.msg.ans.length ca, .slice ab t.msg.aus.length cb, .slice am t.msg.more.length cm, .slice ap t.msg.pres.length cp, .slice au t.msg.ups.length cu, .int .i64 t.ip, .slice ac t.client.length cc, .slice ah t.host.length ch, .int .i64 t.when] = V4
    generalize Value.agg #[.int .i64 t.kind, .int .i64 t.msg.id, .bool t.msg.reply, .int .i64 t.msg.op, .bool t.msg.auth, .int .i64 t.msg.code, .slice xq4 t.msg.qs.length yq4, .slice xa4 t.msg.ans.length ya4, .slice xb4 t.msg.aus.length yb4, .slice xm4 t.msg.more.length ym4, .slice xp4 t.msg.pres.length yp4, .slice xu4 t.msg.ups.length yu4, .int .i64 t.ip, .slice xc4 t.client.length yc4, .slice xh4 t.host.length yh4, .int .i64 t.when] = V5
    replace bb := below_next bb b6
    replace K0 := hide (block_kept b6 (unhide K0))
    replace W0 := hide ((unhide W0).below b6)
    replace X0 := hide ((unhide X0).below b6)
    replace VX := hide (block_kept b6 (unhide VX))
    have zb6 := b6.size
    clear b6
    have GG := hide o6.here
    clear o6
    obtain ⟨k0, k1, k2, k3, k4, k5, k6, k7, k8, k9, k10, k11, k12, k13, k14, k15⟩ := cells16 (unhide K0)
    obtain ⟨x0, x1, x2, x3, x4, x5, x6, x7, x8, x9, x10, x11, x12, x13, x14, x15⟩ := cells16 (unhide VX)
    go_wp2_with fail
    clear k0 k1 k2 k3 k4 k5 k6 k7 k8 k9 k10 k11 k12 k13 k14 k15 x0 x1 x2 x3 x4 x5 x6 x7 x8 x9 x10 x11 x12 x13 x14 x15
    refine (eqByteS_has (unhide GG).has (unhide W0).has (by omega)).mono ?_
    rintro e w7 ⟨rfl, m7, hm7⟩
    have b7 : Below w6.heap.size w6 w7 := by rw [hm7]; exact below_draws m7
    clear hm7
    replace bb := below_next bb b7
    replace K0 := hide (block_kept b7 (unhide K0))
    replace W0 := hide ((unhide W0).below b7)
    replace X0 := hide ((unhide X0).below b7)
    replace VX := hide (block_kept b7 (unhide VX))
    replace GG := hide ((unhide GG).below b7)
    have zb7 := b7.size
    clear b7
    have bd := below_drew (w := w7)
    have zd : w7.drew.heap.size = w7.heap.size := rfl
    replace bb := below_next bb bd
    replace K0 := hide (block_kept bd (unhide K0))
    replace W0 := hide ((unhide W0).below bd)
    replace X0 := hide ((unhide X0).below bd)
    replace VX := hide (block_kept bd (unhide VX))
    replace GG := hide ((unhide GG).below bd)
    have zbd := bd.size
    clear bd
    obtain ⟨k0, k1, k2, k3, k4, k5, k6, k7, k8, k9, k10, k11, k12, k13, k14, k15⟩ := cells16 (unhide K0)
    obtain ⟨x0, x1, x2, x3, x4, x5, x6, x7, x8, x9, x10, x11, x12, x13, x14, x15⟩ := cells16 (unhide VX)
    go_wp2_with fail
    clear k0 k1 k2 k3 k4 k5 k6 k7 k8 k9 k10 k11 k12 k13 k14 k15 x0 x1 x2 x3 x4 x5 x6 x7 x8 x9 x10 x11 x12 x13 x14 x15
    as_aux_lemma =>
     refine startF 5 (S := (fun w' => (w'.cell? ⟨w.heap.size, 0, none⟩ = some (.int .i64 t.kind) ∧ w'.cell? ⟨w.heap.size, 1, none⟩ = some (.int .i64 t.msg.id) ∧ w'.cell? ⟨w.heap.size, 2, none⟩ = some (.bool t.msg.reply) ∧ w'.cell? ⟨w.heap.size, 3, none⟩ = some (.int .i64 t.msg.op) ∧ w'.cell? ⟨w.heap.size, 4, none⟩ = some (.bool t.msg.auth) ∧ w'.cell? ⟨w.heap.size, 5, none⟩ = some (.int .i64 t.msg.code) ∧ w'.cell? ⟨w.heap.size, 6, none⟩ = some (.slice aq t.msg.qs.length cq) ∧ w'.cell? ⟨w.heap.size, 7, none⟩ = some (.slice aa t.msg.ans.length ca) ∧ w'.cell? ⟨w.heap.size, 8, none⟩ = some (.slice ab t.msg.aus.length cb) ∧ w'.cell? ⟨w.heap.size, 9, none⟩ = some (.slice am t.msg.more.length cm) ∧ w'.cell? ⟨w.heap.size, 10, none⟩ = some (.slice ap t.msg.pres.length cp) ∧ w'.cell? ⟨w.heap.size, 11, none⟩ = some (.slice au t.msg.ups.length cu) ∧ w'.cell? ⟨w.heap.size, 12, none⟩ = some (.int .i64 t.ip) ∧ w'.cell? ⟨w.heap.size, 13, none⟩ = some (.slice ac t.client.length cc) ∧ w'.cell? ⟨w.heap.size, 14, none⟩ = some (.slice ah t.host.length ch) ∧ w'.cell? ⟨w.heap.size, 15, none⟩ = some (.int .i64 t.when)) ∧ (w'.cell? ⟨w4.heap.size, 0, none⟩ = some (.int .i64 t.kind) ∧ w'.cell? ⟨w4.heap.size, 1, none⟩ = some (.int .i64 t.msg.id) ∧ w'.cell? ⟨w4.heap.size, 2, none⟩ = some (.bool t.msg.reply) ∧ w'.cell? ⟨w4.heap.size, 3, none⟩ = some (.int .i64 t.msg.op) ∧ w'.cell? ⟨w4.heap.size, 4, none⟩ = some (.bool t.msg.auth) ∧ w'.cell? ⟨w4.heap.size, 5, none⟩ = some (.int .i64 t.msg.code) ∧ w'.cell? ⟨w4.heap.size, 6, none⟩ = some (.slice xq4 t.msg.qs.length yq4) ∧ w'.cell? ⟨w4.heap.size, 7, none⟩ = some (.slice xa4 t.msg.ans.length ya4) ∧ w'.cell? ⟨w4.heap.size, 8, none⟩ = some (.slice xb4 t.msg.aus.length yb4) ∧ w'.cell? ⟨w4.heap.size, 9, none⟩ = some (.slice xm4 t.msg.more.length ym4) ∧ w'.cell? ⟨w4.heap.size, 10, none⟩ = some (.slice xp4 t.msg.pres.length yp4) ∧ w'.cell? ⟨w4.heap.size, 11, none⟩ = some (.slice xu4 t.msg.ups.length yu4) ∧ w'.cell? ⟨w4.heap.size, 12, none⟩ = some (.int .i64 t.ip) ∧ w'.cell? ⟨w4.heap.size, 13, none⟩ = some (.slice xc4 t.client.length yc4) ∧ w'.cell? ⟨w4.heap.size, 14, none⟩ = some (.slice xh4 t.host.length yh4) ∧ w'.cell? ⟨w4.heap.size, 15, none⟩ = some (.int .i64 t.when)))) (by kernel_rfl) rfl ⟨cells16 (unhide K0), cells16 (unhide VX)⟩ (fun hHeld => ?_)
     simp only [List.replicate]
     repeat ((first | (refine tkF ?_ rfl (by kernel_rfl) (by rfl) (fun _ _ _ h => h) ?_ hHeld ?_; rotate_left; · (intro w hSw; (try dsimp only at hSw); go_simp <;> with_reducible rfl)) | refine skF rfl (by kernel_rfl) (by rfl) (fun _ _ _ h => h) hHeld ?_); simp only [Act.put, setF, List.setIfInBounds_toArray, List.set_cons_zero, List.set_cons_succ])
     refine runI 2 rfl (by kernel_rfl) (by kernel_rfl) (fun K hK => ?_)
     have HK := hide hK
     clear hK hHeld
     go_simp
     refine (toTxn_own aq cq aa ca ab cb am cm ap cp au cu ac cc ah ch t _ ((unhide L0).below bb) (unhide HS)).mono ?_
     rintro e w8 ⟨vq8, va8, vb8, vm8, vp8, vu8, vc8, vh8, rfl, o8, b8⟩
     obtain ⟨xq8, yq8, rfl, _⟩ := o8.has.msg.qs.form
     obtain ⟨xa8, ya8, rfl, _⟩ := o8.has.msg.ans.form
     obtain ⟨xb8, yb8, rfl, _⟩ := o8.has.msg.aus.form
     obtain ⟨xm8, ym8, rfl, _⟩ := o8.has.msg.more.form
     obtain ⟨xp8, yp8, rfl, _⟩ := o8.has.msg.pres.form
     obtain ⟨xu8, yu8, rfl, _⟩ := o8.has.msg.ups.form
     obtain ⟨xc8, yc8, rfl, _⟩ := o8.has.client.form
     obtain ⟨xh8, yh8, rfl, _⟩ := o8.has.host.form
     refine (unhide HK).out _ _ ⟨cells16 (block_kept b8 (unhide K0)), cells16 (block_kept b8 (unhide VX))⟩ (fun hHeld => ?_)
     clear HK K
     simp only [List.setIfInBounds_toArray, List.set_cons_zero, List.set_cons_succ]
     refine runI 3 rfl (by kernel_rfl) (by kernel_rfl) (fun K hK => ?_)
     have HK := hide hK
     clear hK hHeld
     go_simp
     refine (eqTxn_has ((unhide X0).below b8).has o8.has (unhide HSS)).mono ?_
     rintro e w9 ⟨rfl, b9⟩
     have q9 := below_next b8 b9
     refine (unhide HK).out _ _ ⟨cells16 (block_kept q9 (unhide K0)), cells16 (block_kept q9 (unhide VX))⟩ (fun hHeld => ?_)
     clear HK K
     simp only [List.setIfInBounds_toArray, List.set_cons_zero, List.set_cons_succ]
     repeat ((first | (refine tkF ?_ rfl (by kernel_rfl) (by rfl) (fun _ _ _ h => h) ?_ hHeld ?_; rotate_left; · (intro w hSw; (try dsimp only at hSw); go_simp <;> with_reducible rfl)) | refine skF rfl (by kernel_rfl) (by rfl) (fun _ _ _ h => h) hHeld ?_); simp only [Act.put, setF, List.setIfInBounds_toArray, List.set_cons_zero, List.set_cons_succ])
     refine wpAnyH_done (by kernel_rfl) ?_ _
     clear hHeld
     clear b8 b9 o8
     replace bb := below_next bb q9
     replace K0 := hide (block_kept q9 (unhide K0))
     replace W0 := hide ((unhide W0).below q9)
     replace X0 := hide ((unhide X0).below q9)
     replace VX := hide (block_kept q9 (unhide VX))
     replace GG := hide ((unhide GG).below q9)
     have zq9 := q9.size
     clear q9
     as_aux_lemma =>
      obtain ⟨k0, k1, k2, k3, k4, k5, k6, k7, k8, k9, k10, k11, k12, k13, k14, k15⟩ := cells16 (unhide K0)
      obtain ⟨x0, x1, x2, x3, x4, x5, x6, x7, x8, x9, x10, x11, x12, x13, x14, x15⟩ := cells16 (unhide VX)
      go_wp2_with fail
      clear k0 k1 k2 k3 k4 k5 k6 k7 k8 k9 k10 k11 k12 k13 k14 k15 x0 x1 x2 x3 x4 x5 x6 x7 x8 x9 x10 x11 x12 x13 x14 x15
      refine (unhide MK _ _ _ _ _ _ _ _ _ _ _ (by omega) (unhide X0)).mono ?_
      rintro e w10 ⟨⟨P0, rfl, hPa, hPb⟩, u10⟩
      have hPn : ¬ P0 < 0 := by omega
      clear X0
      replace bb := u10.below bb (by omega)
      replace K0 := hide (u10.kept (unhide K0) (by omega))
      replace W0 := hide ((unhide W0).outside u10 (by omega))
      replace VX := hide (u10.kept (unhide VX) (by omega))
      replace GG := hide ((unhide GG).outside u10 (by omega))
      have zu10 := u10.size
      clear u10
      clear VX
      obtain ⟨k0, k1, k2, k3, k4, k5, k6, k7, k8, k9, k10, k11, k12, k13, k14, k15⟩ := cells16 (unhide K0)
      go_wp2_with fail
      clear k0 k1 k2 k3 k4 k5 k6 k7 k8 k9 k10 k11 k12 k13 k14 k15
      refine (eqByteS_has (unhide GG).has (unhide W0).has (by omega)).mono ?_
      rintro e w11 ⟨rfl, m11, hm11⟩
      have b11 : Below w10.heap.size w10 w11 := by rw [hm11]; exact below_draws m11
      clear hm11
      replace bb := below_next bb b11
      replace K0 := hide (block_kept b11 (unhide K0))
      replace W0 := hide ((unhide W0).below b11)
      replace GG := hide ((unhide GG).below b11)
      have zb11 := b11.size
      clear b11
      as_aux_lemma =>
       obtain ⟨k0, k1, k2, k3, k4, k5, k6, k7, k8, k9, k10, k11, k12, k13, k14, k15⟩ := cells16 (unhide K0)
       go_wp2_with fail
       clear k0 k1 k2 k3 k4 k5 k6 k7 k8 k9 k10 k11 k12 k13 k14 k15
       refine (markByteS_any 1 (unhide GG).1 (by omega) (by omega) (by omega)).mono ?_
       rintro e w12 ⟨rfl, o12, g12⟩
       obtain ⟨GM, u12⟩ := (unhide GG).marks o12 g12
       clear o12 g12 GG
       replace bb := u12.below bb (by omega)
       replace K0 := hide (u12.kept (unhide K0) (by omega))
       replace W0 := hide ((unhide W0).outside u12 (by omega))
       have zu12 := u12.size
       clear u12
       replace GM := hide GM
       obtain ⟨k0, k1, k2, k3, k4, k5, k6, k7, k8, k9, k10, k11, k12, k13, k14, k15⟩ := cells16 (unhide K0)
       go_wp2_with fail
       clear k0 k1 k2 k3 k4 k5 k6 k7 k8 k9 k10 k11 k12 k13 k14 k15
       refine (heldByteS_any 1 (unhide GM).1 (by omega) (by omega) (by omega)).mono ?_
       rintro e wh ⟨rfl, rfl⟩
       obtain ⟨k0, k1, k2, k3, k4, k5, k6, k7, k8, k9, k10, k11, k12, k13, k14, k15⟩ := cells16 (unhide K0)
       go_wp2_with fail
       clear k0 k1 k2 k3 k4 k5 k6 k7 k8 k9 k10 k11 k12 k13 k14 k15
       refine (toTxn_own aq cq aa ca ab cb am cm ap cp au cu ac cc ah ch t _ ((unhide L0).below bb) (unhide HS)).mono ?_
       rintro e w13 ⟨vq13, va13, vb13, vm13, vp13, vu13, vc13, vh13, rfl, o13, b13⟩
       obtain ⟨xq13, yq13, rfl, _⟩ := o13.has.msg.qs.form
       obtain ⟨xa13, ya13, rfl, _⟩ := o13.has.msg.ans.form
       obtain ⟨xb13, yb13, rfl, _⟩ := o13.has.msg.aus.form
       obtain ⟨xm13, ym13, rfl, _⟩ := o13.has.msg.more.form
       obtain ⟨xp13, yp13, rfl, _⟩ := o13.has.msg.pres.form
       obtain ⟨xu13, yu13, rfl, _⟩ := o13.has.msg.ups.form
       obtain ⟨xc13, yc13, rfl, _⟩ := o13.has.client.form
       obtain ⟨xh13, yh13, rfl, _⟩ := o13.has.host.form
       have A13 := hide o13.has
       clear o13
       replace bb := below_next bb b13
       replace K0 := hide (block_kept b13 (unhide K0))
       replace W0 := hide ((unhide W0).below b13)
       replace GM := hide ((unhide GM).below b13)
       have zb13 := b13.size
       clear b13
       as_aux_lemma =>
        obtain ⟨k0, k1, k2, k3, k4, k5, k6, k7, k8, k9, k10, k11, k12, k13, k14, k15⟩ := cells16 (unhide K0)
        go_wp2_with fail
        clear k0 k1 k2 k3 k4 k5 k6 k7 k8 k9 k10 k11 k12 k13 k14 k15
        refine (unhide IM _ _ _ _ _ _ _ _ _ (unhide A13)).mono ?_
        rintro e w14 ⟨y14, rfl, o14, b14⟩
        clear A13
        replace bb := below_next bb b14
        replace K0 := hide (block_kept b14 (unhide K0))
        replace W0 := hide ((unhide W0).below b14)
        replace GM := hide ((unhide GM).below b14)
        have zb14 := b14.size
        clear b14
        have H0 := hide o14.here
        clear o14
        obtain ⟨k0, k1, k2, k3, k4, k5, k6, k7, k8, k9, k10, k11, k12, k13, k14, k15⟩ := cells16 (unhide K0)
        go_wp2_with fail
        clear k0 k1 k2 k3 k4 k5 k6 k7 k8 k9 k10 k11 k12 k13 k14 k15
        refine (eqByteS_has (unhide H0).has (unhide W0).has (by omega)).mono ?_
        rintro e w15 ⟨rfl, m15, hm15⟩
        have b15 : Below w14.heap.size w14 w15 := by rw [hm15]; exact below_draws m15
        clear hm15
        replace bb := below_next bb b15
        replace K0 := hide (block_kept b15 (unhide K0))
        replace W0 := hide ((unhide W0).below b15)
        replace GM := hide ((unhide GM).below b15)
        replace H0 := hide ((unhide H0).below b15)
        have zb15 := b15.size
        clear b15
        obtain ⟨k0, k1, k2, k3, k4, k5, k6, k7, k8, k9, k10, k11, k12, k13, k14, k15⟩ := cells16 (unhide K0)
        go_wp2_with fail
        clear k0 k1 k2 k3 k4 k5 k6 k7 k8 k9 k10 k11 k12 k13 k14 k15
        refine (heldByteS_any 1 (unhide GM).1 (by omega) (by omega) (by omega)).mono ?_
        rintro e wh ⟨rfl, rfl⟩
        go_wp2_with fail
        go_ret
        exact ⟨rfl, bb⟩
end Go.Proofs.YtfbfakdkemlbmaaGreat
