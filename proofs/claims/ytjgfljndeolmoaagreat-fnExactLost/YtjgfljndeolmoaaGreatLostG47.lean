/-
  The walk of laws.FnExactLost.
-/
import Derived.Test.YtjgfljndeolmoaaGreatLostG16
import Derived.Test.YtjgfljndeolmoaaGreatLostG30
import Derived.Test.YtjgfljndeolmoaaGreatLostG41
import Derived.Test.YtjgfljndeolmoaaGreatLostG45
import Derived.Test.YtjgfljndeolmoaaGreatLostG03
import Derived.Test.YtjgfljndeolmoaaGreatLostG46
import Derived.Test.YtjgfljndeolmoaaGreatLostG18
namespace Go.Proofs.YtjgfljndeolmoaaGreat
open Go.RowKit
set_option linter.unusedVariables false

set_option maxHeartbeats 8000000 in
set_option maxRecDepth 100000 in
theorem lawLost (af : Option Addr) (cf : Nat) (an : Option Addr) (cn : Nat) (az : Option Addr) (cz : Nat) (ah : Option Addr) (ch : Nat) (ar : Option Addr) (cr : Nat) (aa : Option Addr) (ca : Nat) (t : Tk) (w : World) (h : InTk w af an az ah ar aa t) (hm : SizeTk maxLen t) :
  Calls Tryz.prog 5 #[.agg #[.int .i64 t.state, .int .i64 t.id, .slice af t.fst.name.length cf, .int .i64 t.fst.type, .slice an t.name.length cn, .slice az t.zone.length cz, .slice ah t.hints.length ch, .slice ar t.servers.length cr, .int .i64 t.turn, .int .i64 t.sends, .int .i64 t.steps, .int .i64 t.code, .slice aa t.ans.length ca]] w fun e w' => e = .returned (.bool true) ∧ Below w.heap.size w w' := by
 have bb := below_alloc (w := w) (.cells #[.int .i64 t.state, .int .i64 t.id, .slice af t.fst.name.length cf, .int .i64 t.fst.type, .slice an t.name.length cn, .slice az t.zone.length cz, .slice ah t.hints.length ch, .slice ar t.servers.length cr, .int .i64 t.turn, .int .i64 t.sends, .int .i64 t.steps, .int .i64 t.code, .slice aa t.ans.length ca] 53)
 have K0 := hide (heap_alloc_new w (.cells #[.int .i64 t.state, .int .i64 t.id, .slice af t.fst.name.length cf, .int .i64 t.fst.type, .slice an t.name.length cn, .slice az t.zone.length cz, .slice ah t.hints.length ch, .slice ar t.servers.length cr, .int .i64 t.turn, .int .i64 t.sends, .int .i64 t.steps, .int .i64 t.code, .slice aa t.ans.length ca] 53))
 have L0 := hide h
 have HM := hide hm
 clear h hm
 go_enter Tryz.func5, Tryz.ntmps5
 go_wp2_with fail
 generalize w.alloc (.cells #[.int .i64 t.state, .int .i64 t.id, .slice af t.fst.name.length cf, .int .i64 t.fst.type, .slice an t.name.length cn, .slice az t.zone.length cz, .slice ah t.hints.length ch, .slice ar t.servers.length cr, .int .i64 t.turn, .int .i64 t.sends, .int .i64 t.steps, .int .i64 t.code, .slice aa t.ans.length ca] 53) = W at *
 have zk0 := block_lt (unhide K0)
 refine (szTask_any af cf an cn az cz ah ch ar cr aa ca t 1048576 _ ((unhide L0).below bb) (unhide HM) (by omega) (by omega)).mono ?_
 rintro e w1 ⟨⟨y, rfl, hr0, hr1, hr2⟩, b1⟩
 replace bb := below_next bb b1
 replace K0 := hide (block_kept b1 (unhide K0))
 have z1 := b1.size
 clear b1
 generalize Value.agg #[.int .i64 t.state, .int .i64 t.id, .slice af t.fst.name.length cf, .int .i64 t.fst.type, .slice an t.name.length cn, .slice az t.zone.length cz, .slice ah t.hints.length ch, .slice ar t.servers.length cr, .int .i64 t.turn, .int .i64 t.sends, .int .i64 t.steps, .int .i64 t.code, .slice aa t.ans.length ca] = V1
 by_cases hneg : y < 0
 ·clear hr2
  go_wp2_with fail
  go_ret
  exact ⟨rfl, bb⟩
 as_aux_lemma =>
  have HS := hide ((hr2 (by omega)).mono (s' := 1048576) (by omega))
  have HSS := hide ((unhide HS).mono (s' := 2097152) (by omega))
  clear hr2 HM
  obtain ⟨T, B0, hsT, SP, IM⟩ : ∃ (T : Tk) (B0 : Bool), SizeTk 1048576 T ∧ (∀ (w : World) (vf vn vz vh vr va : Value), HasTk w vf vn vz vh vr va t → Calls Tryz.prog 24 #[.agg #[.int .i64 t.state, .int .i64 t.id, vf, .int .i64 t.fst.type, vn, vz, vh, vr, .int .i64 t.turn, .int .i64 t.sends, .int .i64 t.steps, .int .i64 t.code, va]] w fun e w' => ∃ uf un uz uh ur ua, e = .returned (.tuple #[.agg #[.int .i64 T.state, .int .i64 T.id, uf, .int .i64 T.fst.type, un, uz, uh, ur, .int .i64 T.turn, .int .i64 T.sends, .int .i64 T.steps, .int .i64 T.code, ua], .bool B0]) ∧ HasTk w' uf un uz uh ur ua T ∧ Below w.heap.size w w') ∧ (∀ (w : World) (vf vn vz vh vr va : Value), HasTk w vf vn vz vh vr va t → Calls Tryz.prog 25 #[.agg #[.int .i64 t.state, .int .i64 t.id, vf, .int .i64 t.fst.type, vn, vz, vh, vr, .int .i64 t.turn, .int .i64 t.sends, .int .i64 t.steps, .int .i64 t.code, va]] w fun e w' => ∃ uf un uz uh ur ua, e = .returned (.tuple #[.agg #[.int .i64 T.state, .int .i64 T.id, uf, .int .i64 T.fst.type, un, uz, uh, ur, .int .i64 T.turn, .int .i64 T.sends, .int .i64 T.steps, .int .i64 T.code, ua], .bool B0]) ∧ OwnTk w.heap.size w'.heap.size w' uf un uz uh ur ua T ∧ Below w.heap.size w w') :=
   ⟨lostT t, askT t, lostT_size (unhide HS), fun w vf vn vz vh vr va h => specLost_own h (unhide HS).hints (unhide HS).servers, fun w vf vn vz vh vr va h => implLost_own h (unhide HS).hints (unhide HS).servers⟩
  have HSST := hide (hsT.mono (s' := 2097152) (by omega))
  have MK := hide (fun (B E : Nat) (vf vn vz vh vr va : Value) (w : World) (hE : E ≤ w.heap.size) (h : OwnTk B E w vf vn vz vh vr va t) => markTask_own (unhide HS) 1 (by omega) (by omega) hE h)
  have hPT := (posTk_bound (unhide HS) 1)
  have hPz : ¬ posTk t 1 < 0 := by omega
  generalize posTk t 1 = P0 at *
  clear hPT
  have hPT := (posTk_bound hsT 1)
  have MT := hide (fun (B E : Nat) (vf vn vz vh vr va : Value) (w : World) (hE : E ≤ w.heap.size) (h : OwnTk B E w vf vn vz vh vr va T) => markTask_own hsT 1 (by omega) (by omega) hE h)
  have HD := hide (fun (vf vn vz vh vr va : Value) (w : World) (h : HasTk w vf vn vz vh vr va (markTk T 1)) => heldTask_has hsT 1 (by omega) (by omega) h)
  have hPn : ¬ posTk T 1 < 0 := by omega
  have hPe : (posTk T 1 != posTk T 1) = false := by simp
  generalize posTk T 1 = PT at *
  have hgb : (B0 != B0) = false := by simp
  clear hsT hPT
  replace SP := hide SP
  replace IM := hide IM
  obtain ⟨k0, k1, k2, k3, k4, k5, k6, k7, k8, k9, k10, k11, k12⟩ := cells13 (unhide K0)
  go_wp2_with fail
  clear k0 k1 k2 k3 k4 k5 k6 k7 k8 k9 k10 k11 k12
  refine (toTask_own af cf an cn az cz ah ch ar cr aa ca t _ ((unhide L0).below bb) (unhide HS)).mono ?_
  rintro e w2 ⟨vf2, vn2, vz2, vh2, vr2, va2, rfl, o2, b2⟩
  obtain ⟨xf2, yf2, rfl, _⟩ := o2.has.fst.form
  obtain ⟨xn2, yn2, rfl, _⟩ := o2.has.name.form
  obtain ⟨xz2, yz2, rfl, _⟩ := o2.has.zone.form
  obtain ⟨xh2, yh2, rfl, _⟩ := o2.has.hints.form
  obtain ⟨xr2, yr2, rfl, _⟩ := o2.has.servers.form
  obtain ⟨xa2, ya2, rfl, _⟩ := o2.has.ans.form
  have A2 := hide o2.has
  clear o2
  replace bb := below_next bb b2
  replace K0 := hide (block_kept b2 (unhide K0))
  have zb2 := b2.size
  clear b2
  obtain ⟨k0, k1, k2, k3, k4, k5, k6, k7, k8, k9, k10, k11, k12⟩ := cells13 (unhide K0)
  go_wp2_with fail
  clear k0 k1 k2 k3 k4 k5 k6 k7 k8 k9 k10 k11 k12
  refine (unhide SP _ _ _ _ _ _ _ (unhide A2)).mono ?_
  clear A2
  rintro e w3 ⟨vf3, vn3, vz3, vh3, vr3, va3, rfl, o3, b3⟩
  obtain ⟨xf3, yf3, rfl, _⟩ := o3.fst.form
  obtain ⟨xn3, yn3, rfl, _⟩ := o3.name.form
  obtain ⟨xz3, yz3, rfl, _⟩ := o3.zone.form
  obtain ⟨xh3, yh3, rfl, _⟩ := o3.hints.form
  obtain ⟨xr3, yr3, rfl, _⟩ := o3.servers.form
  obtain ⟨xa3, ya3, rfl, _⟩ := o3.ans.form
  replace bb := below_next bb b3
  replace K0 := hide (block_kept b3 (unhide K0))
  have zb3 := b3.size
  clear b3
  have W0 := hide o3
  clear o3
  have BW := hide (Below.refl w3.heap.size w3)
  generalize Value.agg #[.int .i64 t.state, .int .i64 t.id, .slice af t.fst.name.length cf, .int .i64 t.fst.type, .slice an t.name.length cn, .slice az t.zone.length cz, .slice ah t.hints.length ch, .slice ar t.servers.length cr, .int .i64 t.turn, .int .i64 t.sends, .int .i64 t.steps, .int .i64 t.code, .slice aa t.ans.length ca] = Vx1
  generalize Value.agg #[.int .i64 t.state, .int .i64 t.id, .slice xf2 t.fst.name.length yf2, .int .i64 t.fst.type, .slice xn2 t.name.length yn2, .slice xz2 t.zone.length yz2, .slice xh2 t.hints.length yh2, .slice xr2 t.servers.length yr2, .int .i64 t.turn, .int .i64 t.sends, .int .i64 t.steps, .int .i64 t.code, .slice xa2 t.ans.length ya2] = Vx2
  as_aux_lemma =>
   have b30 := below_alloc (w := w3) (.cells #[.int .i64 T.state, .int .i64 T.id, .slice xf3 T.fst.name.length yf3, .int .i64 T.fst.type, .slice xn3 T.name.length yn3, .slice xz3 T.zone.length yz3, .slice xh3 T.hints.length yh3, .slice xr3 T.servers.length yr3, .int .i64 T.turn, .int .i64 T.sends, .int .i64 T.steps, .int .i64 T.code, .slice xa3 T.ans.length ya3] 61)
   have BT := hide (heap_alloc_new w3 (.cells #[.int .i64 T.state, .int .i64 T.id, .slice xf3 T.fst.name.length yf3, .int .i64 T.fst.type, .slice xn3 T.name.length yn3, .slice xz3 T.zone.length yz3, .slice xh3 T.hints.length yh3, .slice xr3 T.servers.length yr3, .int .i64 T.turn, .int .i64 T.sends, .int .i64 T.steps, .int .i64 T.code, .slice xa3 T.ans.length ya3] 61))
   obtain ⟨k0, k1, k2, k3, k4, k5, k6, k7, k8, k9, k10, k11, k12⟩ := cells13 (block_kept b30 (unhide K0))
   go_wp2_with fail
   clear k0 k1 k2 k3 k4 k5 k6 k7 k8 k9 k10 k11 k12
   generalize w3.alloc (.cells #[.int .i64 T.state, .int .i64 T.id, .slice xf3 T.fst.name.length yf3, .int .i64 T.fst.type, .slice xn3 T.name.length yn3, .slice xz3 T.zone.length yz3, .slice xh3 T.hints.length yh3, .slice xr3 T.servers.length yr3, .int .i64 T.turn, .int .i64 T.sends, .int .i64 T.steps, .int .i64 T.code, .slice xa3 T.ans.length ya3] 61) = w30 at *
   replace bb := below_next bb b30
   replace K0 := hide (block_kept b30 (unhide K0))
   replace BW := hide ((unhide BW).trans (b30.mono (unhide BW).size))
   have zb30 := b30.size
   clear b30
   have zb30 := block_lt (unhide BT)
   refine (toTask_own af cf an cn az cz ah ch ar cr aa ca t _ ((unhide L0).below bb) (unhide HS)).mono ?_
   rintro e w4 ⟨vf4, vn4, vz4, vh4, vr4, va4, rfl, o4, b4⟩
   obtain ⟨xf4, yf4, rfl, _⟩ := o4.has.fst.form
   obtain ⟨xn4, yn4, rfl, _⟩ := o4.has.name.form
   obtain ⟨xz4, yz4, rfl, _⟩ := o4.has.zone.form
   obtain ⟨xh4, yh4, rfl, _⟩ := o4.has.hints.form
   obtain ⟨xr4, yr4, rfl, _⟩ := o4.has.servers.form
   obtain ⟨xa4, ya4, rfl, _⟩ := o4.has.ans.form
   have X0 := hide o4
   clear o4
   replace bb := below_next bb b4
   replace K0 := hide (block_kept b4 (unhide K0))
   replace BW := hide ((unhide BW).trans (b4.mono (unhide BW).size))
   replace BT := hide (block_kept b4 (unhide BT))
   have zb4 := b4.size
   clear b4
   have b5 := below_alloc (w := w4) (.cells #[.int .i64 t.state, .int .i64 t.id, .slice xf4 t.fst.name.length yf4, .int .i64 t.fst.type, .slice xn4 t.name.length yn4, .slice xz4 t.zone.length yz4, .slice xh4 t.hints.length yh4, .slice xr4 t.servers.length yr4, .int .i64 t.turn, .int .i64 t.sends, .int .i64 t.steps, .int .i64 t.code, .slice xa4 t.ans.length ya4] 61)
   have VX := hide (heap_alloc_new w4 (.cells #[.int .i64 t.state, .int .i64 t.id, .slice xf4 t.fst.name.length yf4, .int .i64 t.fst.type, .slice xn4 t.name.length yn4, .slice xz4 t.zone.length yz4, .slice xh4 t.hints.length yh4, .slice xr4 t.servers.length yr4, .int .i64 t.turn, .int .i64 t.sends, .int .i64 t.steps, .int .i64 t.code, .slice xa4 t.ans.length ya4] 61))
   obtain ⟨k0, k1, k2, k3, k4, k5, k6, k7, k8, k9, k10, k11, k12⟩ := cells13 (block_kept b5 (unhide K0))
   go_wp2_with fail
   clear k0 k1 k2 k3 k4 k5 k6 k7 k8 k9 k10 k11 k12
   generalize w4.alloc (.cells #[.int .i64 t.state, .int .i64 t.id, .slice xf4 t.fst.name.length yf4, .int .i64 t.fst.type, .slice xn4 t.name.length yn4, .slice xz4 t.zone.length yz4, .slice xh4 t.hints.length yh4, .slice xr4 t.servers.length yr4, .int .i64 t.turn, .int .i64 t.sends, .int .i64 t.steps, .int .i64 t.code, .slice xa4 t.ans.length ya4] 61) = w5 at *
   replace bb := below_next bb b5
   replace K0 := hide (block_kept b5 (unhide K0))
   replace BW := hide ((unhide BW).trans (b5.mono (unhide BW).size))
   replace BT := hide (block_kept b5 (unhide BT))
   replace X0 := hide ((unhide X0).below b5)
   have zb5 := b5.size
   clear b5
   have zb5 := block_lt (unhide VX)
   refine (unhide IM _ _ _ _ _ _ _ (unhide X0).has).mono ?_
   rintro e w6 ⟨vf6, vn6, vz6, vh6, vr6, va6, rfl, o6, b6⟩
   obtain ⟨xf6, yf6, rfl, _⟩ := o6.has.fst.form
   obtain ⟨xn6, yn6, rfl, _⟩ := o6.has.name.form
   obtain ⟨xz6, yz6, rfl, _⟩ := o6.has.zone.form
   obtain ⟨xh6, yh6, rfl, _⟩ := o6.has.hints.form
   obtain ⟨xr6, yr6, rfl, _⟩ := o6.has.servers.form
   obtain ⟨xa6, ya6, rfl, _⟩ := o6.has.ans.form
   have GG := hide o6
   clear o6
   replace bb := below_next bb b6
   replace K0 := hide (block_kept b6 (unhide K0))
   replace BW := hide ((unhide BW).trans (b6.mono (unhide BW).size))
   replace BT := hide (block_kept b6 (unhide BT))
   replace X0 := hide ((unhide X0).below b6)
   replace VX := hide (block_kept b6 (unhide VX))
   have zb6 := b6.size
   clear b6
   generalize Value.agg #[.int .i64 t.state, .int .i64 t.id, .slice af t.fst.name.length cf, .int .i64 t.fst.type, .slice an t.name.length cn, .slice az t.zone.length cz, .slice ah t.hints.length ch, .slice ar t.servers.length cr, .int .i64 t.turn, .int .i64 t.sends, .int .i64 t.steps, .int .i64 t.code, .slice aa t.ans.length ca] = Vx3
   generalize Value.agg #[.int .i64 t.state, .int .i64 t.id, .slice xf4 t.fst.name.length yf4, .int .i64 t.fst.type, .slice xn4 t.name.length yn4, .slice xz4 t.zone.length yz4, .slice xh4 t.hints.length yh4, .slice xr4 t.servers.length yr4, .int .i64 t.turn, .int .i64 t.sends, .int .i64 t.steps, .int .i64 t.code, .slice xa4 t.ans.length ya4] = Vx4
   as_aux_lemma =>
    have b60 := below_alloc (w := w6) (.cells #[.int .i64 T.state, .int .i64 T.id, .slice xf6 T.fst.name.length yf6, .int .i64 T.fst.type, .slice xn6 T.name.length yn6, .slice xz6 T.zone.length yz6, .slice xh6 T.hints.length yh6, .slice xr6 T.servers.length yr6, .int .i64 T.turn, .int .i64 T.sends, .int .i64 T.steps, .int .i64 T.code, .slice xa6 T.ans.length ya6] 61)
    have BG := hide (heap_alloc_new w6 (.cells #[.int .i64 T.state, .int .i64 T.id, .slice xf6 T.fst.name.length yf6, .int .i64 T.fst.type, .slice xn6 T.name.length yn6, .slice xz6 T.zone.length yz6, .slice xh6 T.hints.length yh6, .slice xr6 T.servers.length yr6, .int .i64 T.turn, .int .i64 T.sends, .int .i64 T.steps, .int .i64 T.code, .slice xa6 T.ans.length ya6] 61))
    obtain ⟨k0, k1, k2, k3, k4, k5, k6, k7, k8, k9, k10, k11, k12⟩ := cells13 (block_kept b60 (unhide K0))
    obtain ⟨d0, d1, d2, d3, d4, d5, d6, d7, d8, d9, d10, d11, d12⟩ := cells13 (block_kept b60 (unhide BT))
    obtain ⟨x0, x1, x2, x3, x4, x5, x6, x7, x8, x9, x10, x11, x12⟩ := cells13 (block_kept b60 (unhide VX))
    obtain ⟨j0, j1, j2, j3, j4, j5, j6, j7, j8, j9, j10, j11, j12⟩ := cells13 (unhide BG)
    go_wp2_with fail
    clear k0 k1 k2 k3 k4 k5 k6 k7 k8 k9 k10 k11 k12 d0 d1 d2 d3 d4 d5 d6 d7 d8 d9 d10 d11 d12 x0 x1 x2 x3 x4 x5 x6 x7 x8 x9 x10 x11 x12
    clear j0 j1 j2 j3 j4 j5 j6 j7 j8 j9 j10 j11 j12
    generalize w6.alloc (.cells #[.int .i64 T.state, .int .i64 T.id, .slice xf6 T.fst.name.length yf6, .int .i64 T.fst.type, .slice xn6 T.name.length yn6, .slice xz6 T.zone.length yz6, .slice xh6 T.hints.length yh6, .slice xr6 T.servers.length yr6, .int .i64 T.turn, .int .i64 T.sends, .int .i64 T.steps, .int .i64 T.code, .slice xa6 T.ans.length ya6] 61) = w60 at *
    replace bb := below_next bb b60
    replace K0 := hide (block_kept b60 (unhide K0))
    replace BW := hide ((unhide BW).trans (b60.mono (unhide BW).size))
    replace BT := hide (block_kept b60 (unhide BT))
    replace X0 := hide ((unhide X0).below b60)
    replace VX := hide (block_kept b60 (unhide VX))
    replace GG := hide ((unhide GG).below b60)
    have zb60 := b60.size
    clear b60
    have zb60 := block_lt (unhide BG)
    refine (eqTask_has (unhide GG).has ((unhide W0).below (unhide BW)) (unhide HSST)).mono ?_
    rintro e w7 ⟨rfl, b7⟩
    replace bb := below_next bb b7
    replace K0 := hide (block_kept b7 (unhide K0))
    replace BW := hide ((unhide BW).trans (b7.mono (unhide BW).size))
    replace BT := hide (block_kept b7 (unhide BT))
    replace X0 := hide ((unhide X0).below b7)
    replace VX := hide (block_kept b7 (unhide VX))
    replace GG := hide ((unhide GG).below b7)
    replace BG := hide (block_kept b7 (unhide BG))
    have zb7 := b7.size
    clear b7
    have bd := below_drew (w := w7)
    have zd : w7.drew.heap.size = w7.heap.size := rfl
    replace bb := below_next bb bd
    replace K0 := hide (block_kept bd (unhide K0))
    replace BW := hide ((unhide BW).trans (bd.mono (unhide BW).size))
    replace BT := hide (block_kept bd (unhide BT))
    replace X0 := hide ((unhide X0).below bd)
    replace VX := hide (block_kept bd (unhide VX))
    replace GG := hide ((unhide GG).below bd)
    replace BG := hide (block_kept bd (unhide BG))
    have zbd := bd.size
    clear bd
    obtain ⟨k0, k1, k2, k3, k4, k5, k6, k7, k8, k9, k10, k11, k12⟩ := cells13 (unhide K0)
    obtain ⟨d0, d1, d2, d3, d4, d5, d6, d7, d8, d9, d10, d11, d12⟩ := cells13 (unhide BT)
    obtain ⟨x0, x1, x2, x3, x4, x5, x6, x7, x8, x9, x10, x11, x12⟩ := cells13 (unhide VX)
    obtain ⟨f0, f1, f2, f3, f4, f5, f6, f7, f8, f9, f10, f11, f12⟩ := cells13 (unhide BG)
    go_wp2_with fail
    clear k0 k1 k2 k3 k4 k5 k6 k7 k8 k9 k10 k11 k12 d0 d1 d2 d3 d4 d5 d6 d7 d8 d9 d10 d11 d12 x0 x1 x2 x3 x4 x5 x6 x7 x8 x9 x10 x11 x12 f0 f1 f2 f3 f4 f5 f6 f7 f8 f9 f10 f11 f12
    as_aux_lemma =>
     refine startF 5 (S := (fun w' => (w'.cell? ⟨w.heap.size, 0, none⟩ = some (.int .i64 t.state) ∧ w'.cell? ⟨w.heap.size, 1, none⟩ = some (.int .i64 t.id) ∧ w'.cell? ⟨w.heap.size, 2, none⟩ = some (.slice af t.fst.name.length cf) ∧ w'.cell? ⟨w.heap.size, 3, none⟩ = some (.int .i64 t.fst.type) ∧ w'.cell? ⟨w.heap.size, 4, none⟩ = some (.slice an t.name.length cn) ∧ w'.cell? ⟨w.heap.size, 5, none⟩ = some (.slice az t.zone.length cz) ∧ w'.cell? ⟨w.heap.size, 6, none⟩ = some (.slice ah t.hints.length ch) ∧ w'.cell? ⟨w.heap.size, 7, none⟩ = some (.slice ar t.servers.length cr) ∧ w'.cell? ⟨w.heap.size, 8, none⟩ = some (.int .i64 t.turn) ∧ w'.cell? ⟨w.heap.size, 9, none⟩ = some (.int .i64 t.sends) ∧ w'.cell? ⟨w.heap.size, 10, none⟩ = some (.int .i64 t.steps) ∧ w'.cell? ⟨w.heap.size, 11, none⟩ = some (.int .i64 t.code) ∧ w'.cell? ⟨w.heap.size, 12, none⟩ = some (.slice aa t.ans.length ca)) ∧ (w'.cell? ⟨w4.heap.size, 0, none⟩ = some (.int .i64 t.state) ∧ w'.cell? ⟨w4.heap.size, 1, none⟩ = some (.int .i64 t.id) ∧ w'.cell? ⟨w4.heap.size, 2, none⟩ = some (.slice xf4 t.fst.name.length yf4) ∧ w'.cell? ⟨w4.heap.size, 3, none⟩ = some (.int .i64 t.fst.type) ∧ w'.cell? ⟨w4.heap.size, 4, none⟩ = some (.slice xn4 t.name.length yn4) ∧ w'.cell? ⟨w4.heap.size, 5, none⟩ = some (.slice xz4 t.zone.length yz4) ∧ w'.cell? ⟨w4.heap.size, 6, none⟩ = some (.slice xh4 t.hints.length yh4) ∧ w'.cell? ⟨w4.heap.size, 7, none⟩ = some (.slice xr4 t.servers.length yr4) ∧ w'.cell? ⟨w4.heap.size, 8, none⟩ = some (.int .i64 t.turn) ∧ w'.cell? ⟨w4.heap.size, 9, none⟩ = some (.int .i64 t.sends) ∧ w'.cell? ⟨w4.heap.size, 10, none⟩ = some (.int .i64 t.steps) ∧ w'.cell? ⟨w4.heap.size, 11, none⟩ = some (.int .i64 t.code) ∧ w'.cell? ⟨w4.heap.size, 12, none⟩ = some (.slice xa4 t.ans.length ya4)))) (by kernel_rfl) rfl ⟨cells13 (unhide K0), cells13 (unhide VX)⟩ (fun hHeld => ?_)
     simp only [List.replicate]
     repeat ((first | (refine tkF ?_ rfl (by kernel_rfl) (by rfl) (fun _ _ _ h => h) ?_ hHeld ?_; rotate_left; · (intro w hSw; (try dsimp only at hSw); go_simp <;> with_reducible rfl)) | refine skF rfl (by kernel_rfl) (by rfl) (fun _ _ _ h => h) hHeld ?_); simp only [Act.put, setF, List.setIfInBounds_toArray, List.set_cons_zero, List.set_cons_succ])
     refine runI 2 rfl (by kernel_rfl) (by kernel_rfl) (fun K hK => ?_)
     have HK := hide hK
     clear hK hHeld
     go_simp
     refine (toTask_own af cf an cn az cz ah ch ar cr aa ca t _ ((unhide L0).below bb) (unhide HS)).mono ?_
     rintro e w8 ⟨vf8, vn8, vz8, vh8, vr8, va8, rfl, o8, b8⟩
     obtain ⟨xf8, yf8, rfl, _⟩ := o8.has.fst.form
     obtain ⟨xn8, yn8, rfl, _⟩ := o8.has.name.form
     obtain ⟨xz8, yz8, rfl, _⟩ := o8.has.zone.form
     obtain ⟨xh8, yh8, rfl, _⟩ := o8.has.hints.form
     obtain ⟨xr8, yr8, rfl, _⟩ := o8.has.servers.form
     obtain ⟨xa8, ya8, rfl, _⟩ := o8.has.ans.form
     refine (unhide HK).out _ _ ⟨cells13 (block_kept b8 (unhide K0)), cells13 (block_kept b8 (unhide VX))⟩ (fun hHeld => ?_)
     clear HK K
     simp only [List.setIfInBounds_toArray, List.set_cons_zero, List.set_cons_succ]
     refine runI 3 rfl (by kernel_rfl) (by kernel_rfl) (fun K hK => ?_)
     have HK := hide hK
     clear hK hHeld
     go_simp
     refine (eqTask_has ((unhide X0).below b8).has o8.has (unhide HSS)).mono ?_
     rintro e w9 ⟨rfl, b9⟩
     have q9 := below_next b8 b9
     refine (unhide HK).out _ _ ⟨cells13 (block_kept q9 (unhide K0)), cells13 (block_kept q9 (unhide VX))⟩ (fun hHeld => ?_)
     clear HK K
     simp only [List.setIfInBounds_toArray, List.set_cons_zero, List.set_cons_succ]
     repeat ((first | (refine tkF ?_ rfl (by kernel_rfl) (by rfl) (fun _ _ _ h => h) ?_ hHeld ?_; rotate_left; · (intro w hSw; (try dsimp only at hSw); go_simp <;> with_reducible rfl)) | refine skF rfl (by kernel_rfl) (by rfl) (fun _ _ _ h => h) hHeld ?_); simp only [Act.put, setF, List.setIfInBounds_toArray, List.set_cons_zero, List.set_cons_succ])
     refine wpAnyH_done (by kernel_rfl) ?_ _
     clear hHeld
     clear b8 b9 o8
     replace bb := below_next bb q9
     replace K0 := hide (block_kept q9 (unhide K0))
     replace BW := hide ((unhide BW).trans (q9.mono (unhide BW).size))
     replace BT := hide (block_kept q9 (unhide BT))
     replace X0 := hide ((unhide X0).below q9)
     replace VX := hide (block_kept q9 (unhide VX))
     replace GG := hide ((unhide GG).below q9)
     replace BG := hide (block_kept q9 (unhide BG))
     have zq9 := q9.size
     clear q9
     obtain ⟨k0, k1, k2, k3, k4, k5, k6, k7, k8, k9, k10, k11, k12⟩ := cells13 (unhide K0)
     obtain ⟨d0, d1, d2, d3, d4, d5, d6, d7, d8, d9, d10, d11, d12⟩ := cells13 (unhide BT)
     obtain ⟨x0, x1, x2, x3, x4, x5, x6, x7, x8, x9, x10, x11, x12⟩ := cells13 (unhide VX)
     obtain ⟨f0, f1, f2, f3, f4, f5, f6, f7, f8, f9, f10, f11, f12⟩ := cells13 (unhide BG)
     go_wp2_with fail
     clear k0 k1 k2 k3 k4 k5 k6 k7 k8 k9 k10 k11 k12 d0 d1 d2 d3 d4 d5 d6 d7 d8 d9 d10 d11 d12 x0 x1 x2 x3 x4 x5 x6 x7 x8 x9 x10 x11 x12 f0 f1 f2 f3 f4 f5 f6 f7 f8 f9 f10 f11 f12
     refine (unhide MK _ _ _ _ _ _ _ _ _ (by omega) (unhide X0)).mono ?_
     rintro e w10 ⟨rfl, o10, u10⟩
     clear X0 o10
     replace bb := u10.below bb (by omega)
     replace K0 := hide (u10.kept (unhide K0) (by omega))
     replace BW := hide (u10.belowAt (unhide BW) (Nat.le_refl _) (by omega))
     replace BT := hide (u10.kept (unhide BT) (by omega))
     replace VX := hide (u10.kept (unhide VX) (by omega))
     replace GG := hide ((unhide GG).outside u10 (by omega))
     replace BG := hide (u10.kept (unhide BG) (by omega))
     have zu10 := u10.size
     clear u10
     as_aux_lemma =>
      obtain ⟨k0, k1, k2, k3, k4, k5, k6, k7, k8, k9, k10, k11, k12⟩ := cells13 (unhide K0)
      obtain ⟨d0, d1, d2, d3, d4, d5, d6, d7, d8, d9, d10, d11, d12⟩ := cells13 (unhide BT)
      obtain ⟨x0, x1, x2, x3, x4, x5, x6, x7, x8, x9, x10, x11, x12⟩ := cells13 (unhide VX)
      obtain ⟨f0, f1, f2, f3, f4, f5, f6, f7, f8, f9, f10, f11, f12⟩ := cells13 (unhide BG)
      go_wp2_with fail
      clear k0 k1 k2 k3 k4 k5 k6 k7 k8 k9 k10 k11 k12 d0 d1 d2 d3 d4 d5 d6 d7 d8 d9 d10 d11 d12 x0 x1 x2 x3 x4 x5 x6 x7 x8 x9 x10 x11 x12 f0 f1 f2 f3 f4 f5 f6 f7 f8 f9 f10 f11 f12
      refine (eqTask_has (unhide GG).has ((unhide W0).below (unhide BW)) (unhide HSST)).mono ?_
      rintro e w11 ⟨rfl, b11⟩
      replace bb := below_next bb b11
      replace K0 := hide (block_kept b11 (unhide K0))
      replace BW := hide ((unhide BW).trans (b11.mono (unhide BW).size))
      replace BT := hide (block_kept b11 (unhide BT))
      replace VX := hide (block_kept b11 (unhide VX))
      replace GG := hide ((unhide GG).below b11)
      replace BG := hide (block_kept b11 (unhide BG))
      have zb11 := b11.size
      clear b11
      obtain ⟨k0, k1, k2, k3, k4, k5, k6, k7, k8, k9, k10, k11, k12⟩ := cells13 (unhide K0)
      obtain ⟨d0, d1, d2, d3, d4, d5, d6, d7, d8, d9, d10, d11, d12⟩ := cells13 (unhide BT)
      obtain ⟨x0, x1, x2, x3, x4, x5, x6, x7, x8, x9, x10, x11, x12⟩ := cells13 (unhide VX)
      obtain ⟨f0, f1, f2, f3, f4, f5, f6, f7, f8, f9, f10, f11, f12⟩ := cells13 (unhide BG)
      go_wp2_with fail
      clear k0 k1 k2 k3 k4 k5 k6 k7 k8 k9 k10 k11 k12 d0 d1 d2 d3 d4 d5 d6 d7 d8 d9 d10 d11 d12 x0 x1 x2 x3 x4 x5 x6 x7 x8 x9 x10 x11 x12 f0 f1 f2 f3 f4 f5 f6 f7 f8 f9 f10 f11 f12
      refine (unhide MT _ _ _ _ _ _ _ _ _ (by omega) (unhide GG)).mono ?_
      rintro e w12 ⟨rfl, o12, u12⟩
      clear GG
      replace bb := u12.below bb (by omega)
      replace K0 := hide (u12.kept (unhide K0) (by omega))
      replace BW := hide (u12.belowAt (unhide BW) (Nat.le_refl _) (by omega))
      replace BT := hide (u12.kept (unhide BT) (by omega))
      replace VX := hide (u12.kept (unhide VX) (by omega))
      replace BG := hide (u12.kept (unhide BG) (by omega))
      have zu12 := u12.size
      clear u12
      have GM := hide o12.has
      clear o12
      obtain ⟨k0, k1, k2, k3, k4, k5, k6, k7, k8, k9, k10, k11, k12⟩ := cells13 (unhide K0)
      obtain ⟨d0, d1, d2, d3, d4, d5, d6, d7, d8, d9, d10, d11, d12⟩ := cells13 (unhide BT)
      obtain ⟨x0, x1, x2, x3, x4, x5, x6, x7, x8, x9, x10, x11, x12⟩ := cells13 (unhide VX)
      obtain ⟨f0, f1, f2, f3, f4, f5, f6, f7, f8, f9, f10, f11, f12⟩ := cells13 (unhide BG)
      go_wp2_with fail
      clear k0 k1 k2 k3 k4 k5 k6 k7 k8 k9 k10 k11 k12 d0 d1 d2 d3 d4 d5 d6 d7 d8 d9 d10 d11 d12 x0 x1 x2 x3 x4 x5 x6 x7 x8 x9 x10 x11 x12 f0 f1 f2 f3 f4 f5 f6 f7 f8 f9 f10 f11 f12
      refine (unhide HD _ _ _ _ _ _ _ (unhide GM)).mono ?_
      rintro e w13 ⟨rfl, b13⟩
      replace bb := below_next bb b13
      replace K0 := hide (block_kept b13 (unhide K0))
      replace BW := hide ((unhide BW).trans (b13.mono (unhide BW).size))
      replace BT := hide (block_kept b13 (unhide BT))
      replace VX := hide (block_kept b13 (unhide VX))
      replace BG := hide (block_kept b13 (unhide BG))
      replace GM := hide ((unhide GM).below b13)
      have zb13 := b13.size
      clear b13
      as_aux_lemma =>
       obtain ⟨k0, k1, k2, k3, k4, k5, k6, k7, k8, k9, k10, k11, k12⟩ := cells13 (unhide K0)
       obtain ⟨d0, d1, d2, d3, d4, d5, d6, d7, d8, d9, d10, d11, d12⟩ := cells13 (unhide BT)
       obtain ⟨x0, x1, x2, x3, x4, x5, x6, x7, x8, x9, x10, x11, x12⟩ := cells13 (unhide VX)
       obtain ⟨f0, f1, f2, f3, f4, f5, f6, f7, f8, f9, f10, f11, f12⟩ := cells13 (unhide BG)
       go_wp2_with fail
       clear k0 k1 k2 k3 k4 k5 k6 k7 k8 k9 k10 k11 k12 d0 d1 d2 d3 d4 d5 d6 d7 d8 d9 d10 d11 d12 x0 x1 x2 x3 x4 x5 x6 x7 x8 x9 x10 x11 x12 f0 f1 f2 f3 f4 f5 f6 f7 f8 f9 f10 f11 f12
       refine (toTask_own af cf an cn az cz ah ch ar cr aa ca t _ ((unhide L0).below bb) (unhide HS)).mono ?_
       rintro e w14 ⟨vf14, vn14, vz14, vh14, vr14, va14, rfl, o14, b14⟩
       obtain ⟨xf14, yf14, rfl, _⟩ := o14.has.fst.form
       obtain ⟨xn14, yn14, rfl, _⟩ := o14.has.name.form
       obtain ⟨xz14, yz14, rfl, _⟩ := o14.has.zone.form
       obtain ⟨xh14, yh14, rfl, _⟩ := o14.has.hints.form
       obtain ⟨xr14, yr14, rfl, _⟩ := o14.has.servers.form
       obtain ⟨xa14, ya14, rfl, _⟩ := o14.has.ans.form
       have A14 := hide o14.has
       clear o14
       replace bb := below_next bb b14
       replace K0 := hide (block_kept b14 (unhide K0))
       replace BW := hide ((unhide BW).trans (b14.mono (unhide BW).size))
       replace BT := hide (block_kept b14 (unhide BT))
       replace VX := hide (block_kept b14 (unhide VX))
       replace BG := hide (block_kept b14 (unhide BG))
       replace GM := hide ((unhide GM).below b14)
       have zb14 := b14.size
       clear b14
       obtain ⟨k0, k1, k2, k3, k4, k5, k6, k7, k8, k9, k10, k11, k12⟩ := cells13 (unhide K0)
       obtain ⟨d0, d1, d2, d3, d4, d5, d6, d7, d8, d9, d10, d11, d12⟩ := cells13 (unhide BT)
       obtain ⟨x0, x1, x2, x3, x4, x5, x6, x7, x8, x9, x10, x11, x12⟩ := cells13 (unhide VX)
       obtain ⟨f0, f1, f2, f3, f4, f5, f6, f7, f8, f9, f10, f11, f12⟩ := cells13 (unhide BG)
       go_wp2_with fail
       clear k0 k1 k2 k3 k4 k5 k6 k7 k8 k9 k10 k11 k12 d0 d1 d2 d3 d4 d5 d6 d7 d8 d9 d10 d11 d12 x0 x1 x2 x3 x4 x5 x6 x7 x8 x9 x10 x11 x12 f0 f1 f2 f3 f4 f5 f6 f7 f8 f9 f10 f11 f12
       refine (unhide IM _ _ _ _ _ _ _ (unhide A14)).mono ?_
       clear A14
       rintro e w15 ⟨vf15, vn15, vz15, vh15, vr15, va15, rfl, o15, b15⟩
       obtain ⟨xf15, yf15, rfl, _⟩ := o15.has.fst.form
       obtain ⟨xn15, yn15, rfl, _⟩ := o15.has.name.form
       obtain ⟨xz15, yz15, rfl, _⟩ := o15.has.zone.form
       obtain ⟨xh15, yh15, rfl, _⟩ := o15.has.hints.form
       obtain ⟨xr15, yr15, rfl, _⟩ := o15.has.servers.form
       obtain ⟨xa15, ya15, rfl, _⟩ := o15.has.ans.form
       have H0 := hide o15.has
       clear o15
       replace bb := below_next bb b15
       replace K0 := hide (block_kept b15 (unhide K0))
       replace BW := hide ((unhide BW).trans (b15.mono (unhide BW).size))
       replace BT := hide (block_kept b15 (unhide BT))
       replace VX := hide (block_kept b15 (unhide VX))
       replace BG := hide (block_kept b15 (unhide BG))
       replace GM := hide ((unhide GM).below b15)
       have zb15 := b15.size
       clear b15
       as_aux_lemma =>
        have b50 := below_alloc (w := w15) (.cells #[.int .i64 T.state, .int .i64 T.id, .slice xf15 T.fst.name.length yf15, .int .i64 T.fst.type, .slice xn15 T.name.length yn15, .slice xz15 T.zone.length yz15, .slice xh15 T.hints.length yh15, .slice xr15 T.servers.length yr15, .int .i64 T.turn, .int .i64 T.sends, .int .i64 T.steps, .int .i64 T.code, .slice xa15 T.ans.length ya15] 61)
        have BH := hide (heap_alloc_new w15 (.cells #[.int .i64 T.state, .int .i64 T.id, .slice xf15 T.fst.name.length yf15, .int .i64 T.fst.type, .slice xn15 T.name.length yn15, .slice xz15 T.zone.length yz15, .slice xh15 T.hints.length yh15, .slice xr15 T.servers.length yr15, .int .i64 T.turn, .int .i64 T.sends, .int .i64 T.steps, .int .i64 T.code, .slice xa15 T.ans.length ya15] 61))
        obtain ⟨k0, k1, k2, k3, k4, k5, k6, k7, k8, k9, k10, k11, k12⟩ := cells13 (block_kept b50 (unhide K0))
        obtain ⟨d0, d1, d2, d3, d4, d5, d6, d7, d8, d9, d10, d11, d12⟩ := cells13 (block_kept b50 (unhide BT))
        obtain ⟨x0, x1, x2, x3, x4, x5, x6, x7, x8, x9, x10, x11, x12⟩ := cells13 (block_kept b50 (unhide VX))
        obtain ⟨f0, f1, f2, f3, f4, f5, f6, f7, f8, f9, f10, f11, f12⟩ := cells13 (block_kept b50 (unhide BG))
        obtain ⟨j0, j1, j2, j3, j4, j5, j6, j7, j8, j9, j10, j11, j12⟩ := cells13 (unhide BH)
        go_wp2_with fail
        clear k0 k1 k2 k3 k4 k5 k6 k7 k8 k9 k10 k11 k12 d0 d1 d2 d3 d4 d5 d6 d7 d8 d9 d10 d11 d12 x0 x1 x2 x3 x4 x5 x6 x7 x8 x9 x10 x11 x12 f0 f1 f2 f3 f4 f5 f6 f7 f8 f9 f10 f11 f12
        clear j0 j1 j2 j3 j4 j5 j6 j7 j8 j9 j10 j11 j12
        generalize w15.alloc (.cells #[.int .i64 T.state, .int .i64 T.id, .slice xf15 T.fst.name.length yf15, .int .i64 T.fst.type, .slice xn15 T.name.length yn15, .slice xz15 T.zone.length yz15, .slice xh15 T.hints.length yh15, .slice xr15 T.servers.length yr15, .int .i64 T.turn, .int .i64 T.sends, .int .i64 T.steps, .int .i64 T.code, .slice xa15 T.ans.length ya15] 61) = w50 at *
        replace bb := below_next bb b50
        replace K0 := hide (block_kept b50 (unhide K0))
        replace BW := hide ((unhide BW).trans (b50.mono (unhide BW).size))
        replace BT := hide (block_kept b50 (unhide BT))
        replace VX := hide (block_kept b50 (unhide VX))
        replace BG := hide (block_kept b50 (unhide BG))
        replace GM := hide ((unhide GM).below b50)
        replace H0 := hide ((unhide H0).below b50)
        have zb50 := b50.size
        clear b50
        have zb50 := block_lt (unhide BH)
        refine (eqTask_has (unhide H0) ((unhide W0).below (unhide BW)) (unhide HSST)).mono ?_
        rintro e w16 ⟨rfl, b16⟩
        replace bb := below_next bb b16
        replace K0 := hide (block_kept b16 (unhide K0))
        replace BW := hide ((unhide BW).trans (b16.mono (unhide BW).size))
        replace BT := hide (block_kept b16 (unhide BT))
        replace VX := hide (block_kept b16 (unhide VX))
        replace BG := hide (block_kept b16 (unhide BG))
        replace GM := hide ((unhide GM).below b16)
        replace H0 := hide ((unhide H0).below b16)
        replace BH := hide (block_kept b16 (unhide BH))
        have zb16 := b16.size
        clear b16
        obtain ⟨k0, k1, k2, k3, k4, k5, k6, k7, k8, k9, k10, k11, k12⟩ := cells13 (unhide K0)
        obtain ⟨d0, d1, d2, d3, d4, d5, d6, d7, d8, d9, d10, d11, d12⟩ := cells13 (unhide BT)
        obtain ⟨x0, x1, x2, x3, x4, x5, x6, x7, x8, x9, x10, x11, x12⟩ := cells13 (unhide VX)
        obtain ⟨f0, f1, f2, f3, f4, f5, f6, f7, f8, f9, f10, f11, f12⟩ := cells13 (unhide BG)
        go_wp2_with fail
        clear k0 k1 k2 k3 k4 k5 k6 k7 k8 k9 k10 k11 k12 d0 d1 d2 d3 d4 d5 d6 d7 d8 d9 d10 d11 d12 x0 x1 x2 x3 x4 x5 x6 x7 x8 x9 x10 x11 x12 f0 f1 f2 f3 f4 f5 f6 f7 f8 f9 f10 f11 f12
        refine (unhide HD _ _ _ _ _ _ _ (unhide GM)).mono ?_
        rintro e w17 ⟨rfl, b17⟩
        replace bb := below_next bb b17
        replace K0 := hide (block_kept b17 (unhide K0))
        replace BW := hide ((unhide BW).trans (b17.mono (unhide BW).size))
        replace BT := hide (block_kept b17 (unhide BT))
        replace VX := hide (block_kept b17 (unhide VX))
        replace BG := hide (block_kept b17 (unhide BG))
        replace GM := hide ((unhide GM).below b17)
        replace H0 := hide ((unhide H0).below b17)
        replace BH := hide (block_kept b17 (unhide BH))
        have zb17 := b17.size
        clear b17
        go_wp2_with fail
        go_ret
        exact ⟨rfl, bb⟩
end Go.Proofs.YtjgfljndeolmoaaGreat
