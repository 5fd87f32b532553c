/-
  The walk of laws.FnExactMsgText. What is known of a name that came in as an argument: a struct of one slice of slices of bytes, wherever they lie. What is known of a record that came in as an argument: a struct of two names, three numbers, a text and a list of numbers, wherever they lie. What is known of the cells of a record that came in. What is known of a Want that came in as an argument: a record, a number and a mark. What is known of a row of records that came in.
-/
import Derived.Test.YtfpenlobnnlnfaaGreatDoorMsgTextG08
import Derived.Test.YtfpenlobnnlnfaaGreatDoorMsgTextG01
import Derived.Test.YtfpenlobnnlnfaaGreatDoorMsgTextG10
import Derived.Test.YtfpenlobnnlnfaaGreatDoorMsgTextG27
import Derived.Test.YtfpenlobnnlnfaaGreatDoorMsgTextG44
import Derived.Deep.RegionHeld3
import Derived.Test.YtfpenlobnnlnfaaGreatDoorMsgTextG00
import Derived.ProofKit
import Derived.ChangeArms
import Derived.ChangeSame
import Derived.ChangeSlices
import Derived.Test.YtfpenlobnnlnfaaGreatDoorMsgTextG02
import Derived.Test.YtfpenlobnnlnfaaGreatDoorProg
namespace Go.Proofs.YtfpenlobnnlnfaaGreatDoor
open Go.RowKit
set_option linter.unusedVariables false

theorem msgText_length (m : Mg) : (msgText m).length ≤ 30000 := by
 unfold msgText
 split
 ·rename_i hok
  have hmay : mayM m = true := by unfold okM at hok; simp only [Bool.and_eq_true] at hok; exact hok.1
  obtain ⟨_, hc, _, _, _, _, ⟨ha12, hb12, hm12, _⟩, _⟩ := mayM_parts hmay
  have lN := nameText_length (m.qs.getD 0 queZ).name
  have lC := digs_ten hc.1 (show m.code ≤ 4294967295 by omega)
  have lK := kindT_length m
  have lH : (headT m).length ≤ 300 := by
   unfold headT
   simp only [List.length_append, List.length_cons, List.length_nil]
   omega
  unfold msgT
  have l1 := secT_length (headT m) (w := ansW) m.ans (by decide) m.ans.length
  have l2 := secT_length (secT (headT m) ansW m.ans m.ans.length) (w := autW) m.aus (by decide) m.aus.length
  have l3 := secT_length (secT (secT (headT m) ansW m.ans m.ans.length) autW m.aus m.aus.length) (w := morW) m.more (by decide) m.more.length
  omega
 ·simp
set_option maxHeartbeats 4000000 in
set_option maxRecDepth 100000 in
theorem lawMsgText (aq : Option Addr) (cq : Nat) (aa : Option Addr) (ca : Nat) (ab : Option Addr) (cb : Nat) (am : Option Addr) (cm : Nat) (ap : Option Addr) (cp : Nat) (au : Option Addr) (cu : Nat) (m : Mg) (w : World) (h : InM w aq aa ab am ap au m) (hl : m.qs.length ≤ maxLen ∧ m.ans.length ≤ maxLen ∧ m.aus.length ≤ maxLen ∧ m.more.length ≤ maxLen ∧ m.pres.length ≤ maxLen ∧ m.ups.length ≤ maxLen) (hm : SizeM maxLen m) (h8 : BytM m) (ht : Pow10 w) :
  Calls Tryz.prog 3 #[.agg #[.int .i64 m.id, .bool m.reply, .int .i64 m.op, .bool m.auth, .int .i64 m.code, .slice aq m.qs.length cq, .slice aa m.ans.length ca, .slice ab m.aus.length cb, .slice am m.more.length cm, .slice ap m.pres.length cp, .slice au m.ups.length cu]] w fun e w' => e = .returned (.bool true) ∧ Below w.heap.size w w' := by
 have bb := UI (w := w) (.cells #[.int .i64 m.id, .bool m.reply, .int .i64 m.op, .bool m.auth, .int .i64 m.code, .slice aq m.qs.length cq, .slice aa m.ans.length ca, .slice ab m.aus.length cb, .slice am m.more.length cm, .slice ap m.pres.length cp, .slice au m.ups.length cu] 26)
 have K0 := UC (heap_alloc_new w (.cells #[.int .i64 m.id, .bool m.reply, .int .i64 m.op, .bool m.auth, .int .i64 m.code, .slice aq m.qs.length cq, .slice aa m.ans.length ca, .slice ab m.aus.length cb, .slice am m.more.length cm, .slice ap m.pres.length cp, .slice au m.ups.length cu] 26))
 have L0 := UC h
 have HM := UC hm
 have HLL := UC hl
 have H8 := UC h8
 have HT := UC ht
 clear h hm hl h8 ht
 go_enter Tryz.func3, Tryz.ntmps3
 go_wp2_with fail
 generalize w.alloc (.cells #[.int .i64 m.id, .bool m.reply, .int .i64 m.op, .bool m.auth, .int .i64 m.code, .slice aq m.qs.length cq, .slice aa m.ans.length ca, .slice ab m.aus.length cb, .slice am m.more.length cm, .slice ap m.pres.length cp, .slice au m.ups.length cu] 26) = W at *
 have zk0 := VC (UB K0)
 refine (szMsg_any aq cq aa ca ab cb am cm ap cp au cu m 1048576 _ ((UB L0).below bb) (UB HLL) (UB HM) (by omega) (by omega)).mono ?_
 rintro e w1 ⟨⟨y, rfl, hr0, hr1, hr2⟩, b1⟩
 replace bb := UG bb b1
 replace K0 := UC (UE b1 (UB K0))
 have z1 := b1.size
 clear b1
 by_cases hneg : y < 0
 ·clear hr2
  go_wp2_with fail
  go_ret
  exact ⟨rfl, bb⟩
 have HS := UC ((hr2 (by omega)).1.mono (s' := 1048576) (by omega))
 have HSS := UC ((UB HS).mono (s' := 2097152) (by omega))
 have hcnt : m.count ≤ 1048576 := by have := (hr2 (by omega)).2; omega
 clear hr2 HM HLL
 have MK := UC (markMsg_out (m := m) (UB HS) hcnt)
 have hG0 := msgText_length m
 have SP := fun (w : World) (vq va vb vm vp vu : Value) (h : HasM w vq va vb vm vp vu m) => specMsgText_has h (UB H8)
 have IM := fun (w : World) (ht : Pow10 w) (vq va vb vm vp vu : Value) (h : HasM w vq va vb vm vp vu m) => implMsgText_has h (UB H8) ht
 generalize msgText m = G0 at *
 replace SP := UC SP
 replace IM := UC IM
 obtain ⟨k0, k1, k2, k3, k4, k5, k6, k7, k8, k9, k10⟩ := cells11 (UB K0)
 go_wp2_with fail
 clear k0 k1 k2 k3 k4 k5 k6 k7 k8 k9 k10
 refine (toMsg_own aq cq aa ca ab cb am cm ap cp au cu m _ ((UB L0).below bb) hcnt (UB HS)).mono ?_
 rintro e w2 ⟨vq2, va2, vb2, vm2, vp2, vu2, rfl, o2, b2⟩
 obtain ⟨xq2, yq2, rfl, _⟩ := o2.has.qs.form
 obtain ⟨xa2, ya2, rfl, _⟩ := o2.has.ans.form
 obtain ⟨xb2, yb2, rfl, _⟩ := o2.has.aus.form
 obtain ⟨xm2, ym2, rfl, _⟩ := o2.has.more.form
 obtain ⟨xp2, yp2, rfl, _⟩ := o2.has.pres.form
 obtain ⟨xu2, yu2, rfl, _⟩ := o2.has.ups.form
 have A2 := UC o2.has
 clear o2
 replace bb := UG bb b2
 replace K0 := UC (UE b2 (UB K0))
 have zb2 := b2.size
 clear b2
 obtain ⟨k0, k1, k2, k3, k4, k5, k6, k7, k8, k9, k10⟩ := cells11 (UB K0)
 go_wp2_with fail
 clear k0 k1 k2 k3 k4 k5 k6 k7 k8 k9 k10
 refine (UB SP _ _ _ _ _ _ _ (UB A2)).mono ?_
 rintro e w3 ⟨y3, rfl, o3, b3⟩
 clear A2
 replace bb := UG bb b3
 replace K0 := UC (UE b3 (UB K0))
 have zb3 := b3.size
 clear b3
 have W0 := UC o3.at
 clear o3
 obtain ⟨k0, k1, k2, k3, k4, k5, k6, k7, k8, k9, k10⟩ := cells11 (UB K0)
 go_wp2_with fail
 clear k0 k1 k2 k3 k4 k5 k6 k7 k8 k9 k10
 refine (toMsg_own aq cq aa ca ab cb am cm ap cp au cu m _ ((UB L0).below bb) hcnt (UB HS)).mono ?_
 rintro e w4 ⟨vq4, va4, vb4, vm4, vp4, vu4, rfl, o4, b4⟩
 obtain ⟨xq4, yq4, rfl, _⟩ := o4.has.qs.form
 obtain ⟨xa4, ya4, rfl, _⟩ := o4.has.ans.form
 obtain ⟨xb4, yb4, rfl, _⟩ := o4.has.aus.form
 obtain ⟨xm4, ym4, rfl, _⟩ := o4.has.more.form
 obtain ⟨xp4, yp4, rfl, _⟩ := o4.has.pres.form
 obtain ⟨xu4, yu4, rfl, _⟩ := o4.has.ups.form
 have X0 := UC o4
 clear o4
 replace bb := UG bb b4
 replace K0 := UC (UE b4 (UB K0))
 replace W0 := UC ((UB W0).below b4)
 have zb4 := b4.size
 clear b4
 have b5 := UI (w := w4) (.cells #[.int .i64 m.id, .bool m.reply, .int .i64 m.op, .bool m.auth, .int .i64 m.code, .slice xq4 m.qs.length yq4, .slice xa4 m.ans.length ya4, .slice xb4 m.aus.length yb4, .slice xm4 m.more.length ym4, .slice xp4 m.pres.length yp4, .slice xu4 m.ups.length yu4] 34)
 have VX := UC (heap_alloc_new w4 (.cells #[.int .i64 m.id, .bool m.reply, .int .i64 m.op, .bool m.auth, .int .i64 m.code, .slice xq4 m.qs.length yq4, .slice xa4 m.ans.length ya4, .slice xb4 m.aus.length yb4, .slice xm4 m.more.length ym4, .slice xp4 m.pres.length yp4, .slice xu4 m.ups.length yu4] 34))
 obtain ⟨k0, k1, k2, k3, k4, k5, k6, k7, k8, k9, k10⟩ := cells11 (UE b5 (UB K0))
 go_wp2_with fail
 clear k0 k1 k2 k3 k4 k5 k6 k7 k8 k9 k10
 generalize w4.alloc (.cells #[.int .i64 m.id, .bool m.reply, .int .i64 m.op, .bool m.auth, .int .i64 m.code, .slice xq4 m.qs.length yq4, .slice xa4 m.ans.length ya4, .slice xb4 m.aus.length yb4, .slice xm4 m.more.length ym4, .slice xp4 m.pres.length yp4, .slice xu4 m.ups.length yu4] 34) = w5 at *
 replace bb := UG bb b5
 replace K0 := UC (UE b5 (UB K0))
 replace W0 := UC ((UB W0).below b5)
 replace X0 := UC ((UB X0).below b5)
 have zb5 := b5.size
 clear b5
 have zvx := VC (UB VX)
 refine (UB IM _ ((UB HT).below bb) _ _ _ _ _ _ (UB X0).has).mono ?_
 rintro e w6 ⟨y6, rfl, o6, b6⟩
 replace bb := UG bb b6
 replace K0 := UC (UE b6 (UB K0))
 replace W0 := UC ((UB W0).below b6)
 replace X0 := UC ((UB X0).below b6)
 replace VX := UC (UE b6 (UB VX))
 have zb6 := b6.size
 clear b6
 have GG := UC o6.here
 clear o6
 obtain ⟨k0, k1, k2, k3, k4, k5, k6, k7, k8, k9, k10⟩ := cells11 (UB K0)
 obtain ⟨x0, x1, x2, x3, x4, x5, x6, x7, x8, x9, x10⟩ := cells11 (UB VX)
 go_wp2_with fail
 clear k0 k1 k2 k3 k4 k5 k6 k7 k8 k9 k10 x0 x1 x2 x3 x4 x5 x6 x7 x8 x9 x10
 refine (eqByteS_has (UB GG).has (UB W0).has (by omega)).mono ?_
 rintro e w7 ⟨rfl, m7, hm7⟩
 have b7 : Below w6.heap.size w6 w7 := by rw [hm7]; exact below_draws m7
 clear hm7
 replace bb := UG bb b7
 replace K0 := UC (UE b7 (UB K0))
 replace W0 := UC ((UB W0).below b7)
 replace X0 := UC ((UB X0).below b7)
 replace VX := UC (UE b7 (UB VX))
 replace GG := UC ((UB GG).below b7)
 have zb7 := b7.size
 clear b7
 have bd := UX (w := w7)
 have zd : w7.drew.heap.size = w7.heap.size := rfl
 replace bb := UG bb bd
 replace K0 := UC (UE bd (UB K0))
 replace W0 := UC ((UB W0).below bd)
 replace X0 := UC ((UB X0).below bd)
 replace VX := UC (UE bd (UB VX))
 replace GG := UC ((UB GG).below bd)
 have zbd := bd.size
 clear bd
 obtain ⟨k0, k1, k2, k3, k4, k5, k6, k7, k8, k9, k10⟩ := cells11 (UB K0)
 obtain ⟨x0, x1, x2, x3, x4, x5, x6, x7, x8, x9, x10⟩ := cells11 (UB VX)
 go_wp2_with fail
 clear k0 k1 k2 k3 k4 k5 k6 k7 k8 k9 k10 x0 x1 x2 x3 x4 x5 x6 x7 x8 x9 x10
 go_region_held3 (fun w' => (w'.cell? ⟨w.heap.size, 0, none⟩ = some (.int .i64 m.id) ∧ w'.cell? ⟨w.heap.size, 1, none⟩ = some (.bool m.reply) ∧ w'.cell? ⟨w.heap.size, 2, none⟩ = some (.int .i64 m.op) ∧ w'.cell? ⟨w.heap.size, 3, none⟩ = some (.bool m.auth) ∧ w'.cell? ⟨w.heap.size, 4, none⟩ = some (.int .i64 m.code) ∧ w'.cell? ⟨w.heap.size, 5, none⟩ = some (.slice aq m.qs.length cq) ∧ w'.cell? ⟨w.heap.size, 6, none⟩ = some (.slice aa m.ans.length ca) ∧ w'.cell? ⟨w.heap.size, 7, none⟩ = some (.slice ab m.aus.length cb) ∧ w'.cell? ⟨w.heap.size, 8, none⟩ = some (.slice am m.more.length cm) ∧ w'.cell? ⟨w.heap.size, 9, none⟩ = some (.slice ap m.pres.length cp) ∧ w'.cell? ⟨w.heap.size, 10, none⟩ = some (.slice au m.ups.length cu)) ∧ (w'.cell? ⟨w4.heap.size, 0, none⟩ = some (.int .i64 m.id) ∧ w'.cell? ⟨w4.heap.size, 1, none⟩ = some (.bool m.reply) ∧ w'.cell? ⟨w4.heap.size, 2, none⟩ = some (.int .i64 m.op) ∧ w'.cell? ⟨w4.heap.size, 3, none⟩ = some (.bool m.auth) ∧ w'.cell? ⟨w4.heap.size, 4, none⟩ = some (.int .i64 m.code) ∧ w'.cell? ⟨w4.heap.size, 5, none⟩ = some (.slice xq4 m.qs.length yq4) ∧ w'.cell? ⟨w4.heap.size, 6, none⟩ = some (.slice xa4 m.ans.length ya4) ∧ w'.cell? ⟨w4.heap.size, 7, none⟩ = some (.slice xb4 m.aus.length yb4) ∧ w'.cell? ⟨w4.heap.size, 8, none⟩ = some (.slice xm4 m.more.length ym4) ∧ w'.cell? ⟨w4.heap.size, 9, none⟩ = some (.slice xp4 m.pres.length yp4) ∧ w'.cell? ⟨w4.heap.size, 10, none⟩ = some (.slice xu4 m.ups.length yu4)))
  (first | exact ⟨cells11 (UB K0), cells11 (UB VX)⟩ | exact ⟨cells11 (UE b8 (UB K0)), cells11 (UE b8 (UB VX))⟩ | exact ⟨cells11 (UE q9 (UB K0)), cells11 (UE q9 (UB VX))⟩)
  (first
  | (go_at_call 6; refine (toMsg_own aq cq aa ca ab cb am cm ap cp au cu m _ ((UB L0).below bb) hcnt (UB HS)).mono ?_; rintro e w8 ⟨vq8, va8, vb8, vm8, vp8, vu8, rfl, o8, b8⟩; obtain ⟨xq8, yq8, rfl, _⟩ := o8.has.qs.form; obtain ⟨xa8, ya8, rfl, _⟩ := o8.has.ans.form; obtain ⟨xb8, yb8, rfl, _⟩ := o8.has.aus.form; obtain ⟨xm8, ym8, rfl, _⟩ := o8.has.more.form; obtain ⟨xp8, yp8, rfl, _⟩ := o8.has.pres.form; obtain ⟨xu8, yu8, rfl, _⟩ := o8.has.ups.form)
  | (go_at_call 9; refine (eqMsg_has ((UB X0).below b8).has o8.has (UB HSS)).mono ?_; rintro e w9 ⟨rfl, b9⟩; have q9 := UG b8 b9))
 clear b8 b9 o8
 replace bb := UG bb q9
 replace K0 := UC (UE q9 (UB K0))
 replace W0 := UC ((UB W0).below q9)
 replace X0 := UC ((UB X0).below q9)
 replace VX := UC (UE q9 (UB VX))
 replace GG := UC ((UB GG).below q9)
 have zq9 := q9.size
 clear q9
 obtain ⟨k0, k1, k2, k3, k4, k5, k6, k7, k8, k9, k10⟩ := cells11 (UB K0)
 obtain ⟨x0, x1, x2, x3, x4, x5, x6, x7, x8, x9, x10⟩ := cells11 (UB VX)
 go_wp2_with fail
 clear k0 k1 k2 k3 k4 k5 k6 k7 k8 k9 k10 x0 x1 x2 x3 x4 x5 x6 x7 x8 x9 x10
 refine (UB MK _ _ _ _ _ _ _ _ _ (by omega) (UB X0)).mono ?_
 rintro e w10 ⟨⟨P0, rfl, hPa⟩, u10⟩
 have hPn : ¬ P0 < 0 := by omega
 clear X0
 replace bb := u10.below bb (by omega)
 replace K0 := UC (u10.kept (UB K0) (by omega))
 replace W0 := UC ((UB W0).outside u10 (by omega))
 replace VX := UC (u10.kept (UB VX) (by omega))
 replace GG := UC ((UB GG).outside u10 (by omega))
 have zu10 := u10.size
 clear u10
 obtain ⟨k0, k1, k2, k3, k4, k5, k6, k7, k8, k9, k10⟩ := cells11 (UB K0)
 obtain ⟨x0, x1, x2, x3, x4, x5, x6, x7, x8, x9, x10⟩ := cells11 (UB VX)
 go_wp2_with fail
 clear k0 k1 k2 k3 k4 k5 k6 k7 k8 k9 k10 x0 x1 x2 x3 x4 x5 x6 x7 x8 x9 x10
 refine (eqByteS_has (UB GG).has (UB W0).has (by omega)).mono ?_
 rintro e w11 ⟨rfl, m11, hm11⟩
 have b11 : Below w10.heap.size w10 w11 := by rw [hm11]; exact below_draws m11
 clear hm11
 replace bb := UG bb b11
 replace K0 := UC (UE b11 (UB K0))
 replace W0 := UC ((UB W0).below b11)
 replace VX := UC (UE b11 (UB VX))
 replace GG := UC ((UB GG).below b11)
 have zb11 := b11.size
 clear b11
 obtain ⟨k0, k1, k2, k3, k4, k5, k6, k7, k8, k9, k10⟩ := cells11 (UB K0)
 obtain ⟨x0, x1, x2, x3, x4, x5, x6, x7, x8, x9, x10⟩ := cells11 (UB VX)
 go_wp2_with fail
 clear k0 k1 k2 k3 k4 k5 k6 k7 k8 k9 k10 x0 x1 x2 x3 x4 x5 x6 x7 x8 x9 x10
 refine (markByteS_any 1 (UB GG).1 (by omega) (by omega) (by omega)).mono ?_
 rintro e w12 ⟨rfl, o12, g12⟩
 obtain ⟨GM, u12⟩ := (UB GG).marks o12 g12
 clear o12 g12 GG
 replace bb := u12.below bb (by omega)
 replace K0 := UC (u12.kept (UB K0) (by omega))
 replace W0 := UC ((UB W0).outside u12 (by omega))
 replace VX := UC (u12.kept (UB VX) (by omega))
 have zu12 := u12.size
 clear u12
 replace GM := UC GM
 obtain ⟨k0, k1, k2, k3, k4, k5, k6, k7, k8, k9, k10⟩ := cells11 (UB K0)
 obtain ⟨x0, x1, x2, x3, x4, x5, x6, x7, x8, x9, x10⟩ := cells11 (UB VX)
 go_wp2_with fail
 clear k0 k1 k2 k3 k4 k5 k6 k7 k8 k9 k10 x0 x1 x2 x3 x4 x5 x6 x7 x8 x9 x10
 refine (heldByteS_any 1 (UB GM).1 (by omega) (by omega) (by omega)).mono ?_
 rintro e wh ⟨rfl, rfl⟩
 obtain ⟨k0, k1, k2, k3, k4, k5, k6, k7, k8, k9, k10⟩ := cells11 (UB K0)
 obtain ⟨x0, x1, x2, x3, x4, x5, x6, x7, x8, x9, x10⟩ := cells11 (UB VX)
 go_wp2_with fail
 clear k0 k1 k2 k3 k4 k5 k6 k7 k8 k9 k10 x0 x1 x2 x3 x4 x5 x6 x7 x8 x9 x10
 refine (toMsg_own aq cq aa ca ab cb am cm ap cp au cu m _ ((UB L0).below bb) hcnt (UB HS)).mono ?_
 rintro e w13 ⟨vq13, va13, vb13, vm13, vp13, vu13, rfl, o13, b13⟩
 obtain ⟨xq13, yq13, rfl, _⟩ := o13.has.qs.form
 obtain ⟨xa13, ya13, rfl, _⟩ := o13.has.ans.form
 obtain ⟨xb13, yb13, rfl, _⟩ := o13.has.aus.form
 obtain ⟨xm13, ym13, rfl, _⟩ := o13.has.more.form
 obtain ⟨xp13, yp13, rfl, _⟩ := o13.has.pres.form
 obtain ⟨xu13, yu13, rfl, _⟩ := o13.has.ups.form
 have A13 := UC o13.has
 clear o13
 replace bb := UG bb b13
 replace K0 := UC (UE b13 (UB K0))
 replace W0 := UC ((UB W0).below b13)
 replace VX := UC (UE b13 (UB VX))
 replace GM := UC ((UB GM).below b13)
 have zb13 := b13.size
 clear b13
 obtain ⟨k0, k1, k2, k3, k4, k5, k6, k7, k8, k9, k10⟩ := cells11 (UB K0)
 obtain ⟨x0, x1, x2, x3, x4, x5, x6, x7, x8, x9, x10⟩ := cells11 (UB VX)
 go_wp2_with fail
 clear k0 k1 k2 k3 k4 k5 k6 k7 k8 k9 k10 x0 x1 x2 x3 x4 x5 x6 x7 x8 x9 x10
 refine (UB IM _ ((UB HT).below bb) _ _ _ _ _ _ (UB A13)).mono ?_
 rintro e w14 ⟨y14, rfl, o14, b14⟩
 clear A13
 replace bb := UG bb b14
 replace K0 := UC (UE b14 (UB K0))
 replace W0 := UC ((UB W0).below b14)
 replace VX := UC (UE b14 (UB VX))
 replace GM := UC ((UB GM).below b14)
 have zb14 := b14.size
 clear b14
 have H0 := UC o14.here
 clear o14
 obtain ⟨k0, k1, k2, k3, k4, k5, k6, k7, k8, k9, k10⟩ := cells11 (UB K0)
 obtain ⟨x0, x1, x2, x3, x4, x5, x6, x7, x8, x9, x10⟩ := cells11 (UB VX)
 go_wp2_with fail
 clear k0 k1 k2 k3 k4 k5 k6 k7 k8 k9 k10 x0 x1 x2 x3 x4 x5 x6 x7 x8 x9 x10
 refine (eqByteS_has (UB H0).has (UB W0).has (by omega)).mono ?_
 rintro e w15 ⟨rfl, m15, hm15⟩
 have b15 : Below w14.heap.size w14 w15 := by rw [hm15]; exact below_draws m15
 clear hm15
 replace bb := UG bb b15
 replace K0 := UC (UE b15 (UB K0))
 replace W0 := UC ((UB W0).below b15)
 replace VX := UC (UE b15 (UB VX))
 replace GM := UC ((UB GM).below b15)
 replace H0 := UC ((UB H0).below b15)
 have zb15 := b15.size
 clear b15
 obtain ⟨k0, k1, k2, k3, k4, k5, k6, k7, k8, k9, k10⟩ := cells11 (UB K0)
 obtain ⟨x0, x1, x2, x3, x4, x5, x6, x7, x8, x9, x10⟩ := cells11 (UB VX)
 go_wp2_with fail
 clear k0 k1 k2 k3 k4 k5 k6 k7 k8 k9 k10 x0 x1 x2 x3 x4 x5 x6 x7 x8 x9 x10
 refine (heldByteS_any 1 (UB GM).1 (by omega) (by omega) (by omega)).mono ?_
 rintro e wh ⟨rfl, rfl⟩
 go_wp2_with fail
 go_ret
 exact ⟨rfl, bb⟩
end Go.Proofs.YtfpenlobnnlnfaaGreatDoor

namespace Go.Proofs.YtfpenlobnnlnfaaGreatDoor
open Go.RowKit Go.ChangeShapes Go.WideShapes Go.ChangeAt

theorem ints_lies {H : Type} {enc : TypeId × Value → H} {P : Program} {w : World} {sp : Nat → Bool} {held : Bool} {t e : TypeId} {fuel : Nat} {v : Value} {x : DataW H × List MemPlace}
  (ht : P.underlying t = some (.slice e)) (he : P.underlying e = some (.int .u8)) (hc : P.cellsOf e = 1) (hsp : ∀ b, sp b = true) (h : DataW.trod enc P w 0 sp held fuel t [v] = some x) :
  ∃ (a : Option Addr) (cap : Nat) (l : List Int), v = .slice a l.length cap ∧ l.length ≤ maxLen ∧ Lies w a l ∧ ∀ k, 0 ≤ l.getD k 0 ∧ l.getD k 0 ≤ 255 := by
 have key : ∃ a len cap zs, v = .slice a len cap ∧ IsRow .u8 w a len cap zs := by
  rcases open_ints ht he hc h with ⟨hcs, _⟩ | ⟨x, l, c, zs, hcs, _, hl, hm, hz, _, hcell, hwz⟩
  ·simp at hcs
   exact ⟨none, 0, 0, [], hcs, .inl ⟨rfl, rfl, rfl, rfl⟩⟩
  ·simp at hcs
   exact ⟨some x, l, c, zs, hcs, .inr ⟨_, rfl, hl, hm, by simpa [hsp] using hz, hcell, hwz⟩⟩
 obtain ⟨a, len, cap, zs, rfl, hr⟩ := key
 obtain ⟨l, rfl, hm, hL, hb⟩ := isRow_lies hr
 exact ⟨a, cap, l, rfl, hm, hL, hb⟩

theorem open_texts {H : Type} {enc : TypeId × Value → H} {P : Program} {w : World} {sp : Nat → Bool} {held : Bool} {t e u : TypeId} {fuel : Nat} {v : Value} {x : DataW H × List MemPlace}
  (ht : P.underlying t = some (.slice e)) (he : P.underlying e = some (.slice u)) (hu : P.underlying u = some (.int .u8)) (hc : P.cellsOf e = 1) (hcu : P.cellsOf u = 1) (hsp : ∀ b, sp b = true)
  (h : DataW.trod enc P w 0 sp held fuel t [v] = some x) :
  ∃ (a : Option Addr) (cap : Nat) (n : List (List Int)), v = .slice a n.length cap ∧ n.length ≤ maxLen ∧ LiesL w a n ∧ ∀ i, i < n.length → (n.getD i []).length ≤ maxLen ∧ ∀ k, 0 ≤ (n.getD i []).getD k 0 ∧ (n.getD i []).getD k 0 ≤ 255 := by
 rcases DataW.trod_slice ht h with ⟨hv, _⟩ | ⟨a, len, cap, elems, rest, n, _, hcs, hx, _, hl, hm, hlen, hel, _⟩
 ·simp at hv
  exact ⟨none, 0, [], hv, Nat.zero_le _, .inl rfl, by simp⟩
 ·simp at hcs
  subst hcs
  have each : ∀ i, i < len → ∃ c : Value, w.cell? (a.add i) = some c ∧ ∃ y, DataW.trod enc P w 0 sp held n e [c] = some y := by
   intro i hi
   have hE := hel i hi
   rw [hc, Nat.mul_one] at hE
   have hi' : i < elems.length := by omega
   rw [List.getElem?_eq_getElem hi'] at hE
   simp only [Option.bind_eq_some_iff] at hE
   obtain ⟨c1, hc1, hy1⟩ := hE
   have e0 : (a.add i).add 0 = a.add i := by simp [Addr.add]
   have : ∃ c, c1 = [c] ∧ w.cell? (a.add i) = some c := by
    unfold World.cells? at hc1
    split at hc1
    ·simp only [List.range_succ, List.range_zero, List.nil_append, List.mapM_cons, List.mapM_nil, e0] at hc1
     cases hcc : w.cell? (a.add i) with
     | none => simp [hcc] at hc1
     | some c => simp [hcc] at hc1; exact ⟨c, hc1.symm, rfl⟩
    ·cases hc1
   obtain ⟨c, rfl, hcell⟩ := this
   exact ⟨c, hcell, _, hy1⟩
  have each2 : ∀ i, i < len → ∃ (l : List Int), l.length ≤ maxLen ∧ (∀ k, 0 ≤ l.getD k 0 ∧ l.getD k 0 ≤ 255) ∧ ∃ ia ic, w.cell? (a.add i) = some (.slice ia l.length ic) ∧ Lies w ia l := by
   intro i hi
   obtain ⟨c, hcell, y, hy⟩ := each i hi
   obtain ⟨ia, ic, l, rfl, h1, h2, h3⟩ := ints_lies he hu hcu hsp hy
   exact ⟨l, h1, h3, ia, ic, hcell, h2⟩
  have hch : ∃ L : Nat → List Int, ∀ i, i < len → (L i).length ≤ maxLen ∧ (∀ k, 0 ≤ (L i).getD k 0 ∧ (L i).getD k 0 ≤ 255) ∧ ∃ ia ic, w.cell? (a.add i) = some (.slice ia (L i).length ic) ∧ Lies w ia (L i) := by
   refine ⟨fun i => if hi : i < len then (each2 i hi).choose else [], fun i hi => ?_⟩
   simp only [hi, dite_true]
   exact (each2 i hi).choose_spec
  obtain ⟨L, hL⟩ := hch
  have hln : ((List.range len).map L).length = len := by simp
  have hget : ∀ i, i < len → ((List.range len).map L).getD i [] = L i := fun i hi => by simp [hi]
  refine ⟨some a, cap, (List.range len).map L, by rw [hln], by omega, ?_, ?_⟩
  ·by_cases h0 : len = 0
   ·subst h0; exact .inl (by simp)
   ·right
    obtain ⟨b, off, spot⟩ := a
    obtain ⟨c, hc0, _⟩ := each 0 (by omega)
    have hspot : spot = none := by simpa [Addr.add] using World.cell?_spot hc0
    subst hspot
    refine ⟨b, off, rfl, cell_lt hc0, fun i hi => ?_⟩
    rw [hln] at hi
    rw [hget i hi]
    obtain ⟨_, _, ia, ic, h1, h2⟩ := hL i hi
    rw [Addr.add_lit] at h1
    exact ⟨ia, ic, h1, h2⟩
  ·intro i hi
   rw [hln] at hi
   rw [hget i hi]
   exact ⟨(hL i hi).1, (hL i hi).2.1⟩

end Go.Proofs.YtfpenlobnnlnfaaGreatDoor

namespace Go.Proofs.YtfpenlobnnlnfaaGreatDoor
open Go.RowKit Go.ChangeShapes Go.WideShapes Go.ChangeAt

theorem nums_lies {H : Type} {enc : TypeId × Value → H} {P : Program} {w : World} {sp : Nat → Bool} {held : Bool} {t e : TypeId} {fuel : Nat} {v : Value} {x : DataW H × List MemPlace}
  (ht : P.underlying t = some (.slice e)) (he : P.underlying e = some (.int .i64)) (hc : P.cellsOf e = 1) (hsp : ∀ b, sp b = true) (h : DataW.trod enc P w 0 sp held fuel t [v] = some x) :
  ∃ (a : Option Addr) (cap : Nat) (l : List Int), v = .slice a l.length cap ∧ l.length ≤ maxLen ∧ LiesI w a l := by
 have key : ∃ a len cap zs, v = .slice a len cap ∧ IsRow .i64 w a len cap zs := by
  rcases open_ints ht he hc h with ⟨hcs, _⟩ | ⟨x, l, c, zs, hcs, _, hl, hm, hz, _, hcell, hwz⟩
  ·simp at hcs
   exact ⟨none, 0, 0, [], hcs, .inl ⟨rfl, rfl, rfl, rfl⟩⟩
  ·simp at hcs
   exact ⟨some x, l, c, zs, hcs, .inr ⟨_, rfl, hl, hm, by simpa [hsp] using hz, hcell, hwz⟩⟩
 obtain ⟨a, len, cap, zs, rfl, hr⟩ := key
 obtain ⟨l, rfl, hm, hL⟩ := isRow_liesI hr
 exact ⟨a, cap, l, rfl, hm, hL⟩

theorem cellsRr : Tryz.prog.cellsOf 71 = 7 := by kernel_rfl
theorem cellsName : Tryz.prog.cellsOf 65 = 1 := by kernel_rfl
theorem cellsInt : Tryz.prog.cellsOf 3 = 1 := by kernel_rfl
theorem cellsText : Tryz.prog.cellsOf 28 = 1 := by kernel_rfl
theorem cellsTexts : Tryz.prog.cellsOf 47 = 1 := by kernel_rfl
theorem cellsNums : Tryz.prog.cellsOf 69 = 1 := by kernel_rfl
theorem cellsByte : Tryz.prog.cellsOf 5 = 1 := by kernel_rfl

theorem open_nameCell {H : Type} {enc : TypeId × Value → H} {w : World} {sp : Nat → Bool} {held : Bool} {n : Nat} {c : Value} {y : DataW H × List MemPlace} (hsp : ∀ b, sp b = true) (h : DataW.trod enc Tryz.prog w 0 sp held n 65 [c] = some y) :
  ∃ (a : Option Addr) (cap : Nat) (m : List (List Int)), c = .slice a m.length cap ∧ m.length ≤ maxLen ∧ LiesL w a m ∧ ∀ i, i < m.length → (m.getD i []).length ≤ maxLen := by
 obtain ⟨y0, k, _, _, hy⟩ := trod_struct1 Tryz.underlying65 h
 dsimp only at hy
 rw [cellsTexts] at hy
 simp only [List.drop_zero, List.take_succ_cons, List.take_zero] at hy
 obtain ⟨a, cap, m, rfl, hm, hL, hb⟩ := open_texts Tryz.underlying47 Tryz.underlying28 Tryz.underlying5 cellsText cellsByte hsp hy
 exact ⟨a, cap, m, rfl, hm, hL, fun i hi => (hb i hi).1⟩

end Go.Proofs.YtfpenlobnnlnfaaGreatDoor

namespace Go.Proofs.YtfpenlobnnlnfaaGreatDoor
open Go.RowKit Go.ChangeShapes Go.WideShapes Go.ChangeAt

set_option maxRecDepth 100000 in
theorem open_recCells {H : Type} {enc : TypeId × Value → H} {w : World} {sp : Nat → Bool} {held : Bool} {fuel : Nat} {c0 c1 c2 c3 c4 c5 c6 : Value} {x : DataW H × List MemPlace} (hsp : ∀ b, sp b = true) (hf0 : DataW.trod enc Tryz.prog w 0 sp held fuel 71 [c0, c1, c2, c3, c4, c5, c6] = some x) :
  ∃ (an : Option Addr) (cn : Nat) (ato : Option Addr) (ct : Nat) (ax : Option Addr) (cx : Nat) (ai : Option Addr) (ci : Nat) (q : Rec),
   [c0, c1, c2, c3, c4, c5, c6] = cellsR (.slice an q.name.length cn) (.slice ato q.to.length ct) (.slice ax q.text.length cx) (.slice ai q.nums.length ci) q ∧ InR w an ato ax ai q ∧ SizeR maxLen q := by
 obtain ⟨xs, n, _, _, _, hlen, hf⟩ := DataW.trod_struct Tryz.underlying71 hf0
 match xs, hlen with
 | [y0, y1, y2, y3, y4, y5, y6], _ =>
  have h0 : DataW.trod enc Tryz.prog w 0 sp held n 65 (([c0, c1, c2, c3, c4, c5, c6].drop 0).take (Tryz.prog.cellsOf 65)) = some y0 := hf 0 _ rfl
  have h1 : DataW.trod enc Tryz.prog w 0 sp held n 3 (([c0, c1, c2, c3, c4, c5, c6].drop 1).take (Tryz.prog.cellsOf 3)) = some y1 := hf 1 _ rfl
  have h2 : DataW.trod enc Tryz.prog w 0 sp held n 3 (([c0, c1, c2, c3, c4, c5, c6].drop 2).take (Tryz.prog.cellsOf 3)) = some y2 := hf 2 _ rfl
  have h3 : DataW.trod enc Tryz.prog w 0 sp held n 3 (([c0, c1, c2, c3, c4, c5, c6].drop 3).take (Tryz.prog.cellsOf 3)) = some y3 := hf 3 _ rfl
  have h4 : DataW.trod enc Tryz.prog w 0 sp held n 65 (([c0, c1, c2, c3, c4, c5, c6].drop 4).take (Tryz.prog.cellsOf 65)) = some y4 := hf 4 _ rfl
  have h5 : DataW.trod enc Tryz.prog w 0 sp held n 28 (([c0, c1, c2, c3, c4, c5, c6].drop 5).take (Tryz.prog.cellsOf 28)) = some y5 := hf 5 _ rfl
  have h6 : DataW.trod enc Tryz.prog w 0 sp held n 69 (([c0, c1, c2, c3, c4, c5, c6].drop 6).take (Tryz.prog.cellsOf 69)) = some y6 := hf 6 _ rfl
  rw [cellsName] at h0 h4
  rw [cellsInt] at h1 h2 h3
  rw [cellsText] at h5
  rw [cellsNums] at h6
  simp only [List.drop_zero, List.drop_succ_cons, List.take_succ_cons, List.take_zero] at h0 h1 h2 h3 h4 h5 h6
  obtain ⟨an, cn, nm, rfl, a1, a2, a3⟩ := open_nameCell hsp h0
  obtain ⟨t1, e1, _, _⟩ := DataW.trod_int Tryz.underlying3 h1
  obtain ⟨t2, e2, _, _⟩ := DataW.trod_int Tryz.underlying3 h2
  obtain ⟨t3, e3, _, _⟩ := DataW.trod_int Tryz.underlying3 h3
  simp only [List.cons.injEq, and_true] at e1 e2 e3
  subst e1 e2 e3
  obtain ⟨ato, ct, to, rfl, f1, f2, f3⟩ := open_nameCell hsp h4
  obtain ⟨ax, cx, tx, rfl, g1, g2, _⟩ := ints_lies Tryz.underlying28 Tryz.underlying5 cellsByte hsp h5
  obtain ⟨ai, ci, nu, rfl, k1, k2⟩ := nums_lies Tryz.underlying69 Tryz.underlying3 cellsInt hsp h6
  exact ⟨an, cn, ato, ct, ax, cx, ai, ci, ⟨nm, t1, t2, t3, to, tx, nu⟩, rfl, ⟨a2, f2, g2, k2⟩, ⟨a1, a3, f1, f3, g1, k1⟩⟩
end Go.Proofs.YtfpenlobnnlnfaaGreatDoor

namespace Go.Proofs.YtfpenlobnnlnfaaGreatDoor
open Go.RowKit Go.ChangeShapes Go.WideShapes Go.ChangeAt

theorem cellsBool : Tryz.prog.cellsOf 4 = 1 := by kernel_rfl

end Go.Proofs.YtfpenlobnnlnfaaGreatDoor

namespace Go.Proofs.YtfpenlobnnlnfaaGreatDoor
open Go.RowKit Go.ChangeShapes Go.WideShapes Go.ChangeAt

theorem cellsRecs : Tryz.prog.cellsOf 23 = 1 := by kernel_rfl
end Go.Proofs.YtfpenlobnnlnfaaGreatDoor
