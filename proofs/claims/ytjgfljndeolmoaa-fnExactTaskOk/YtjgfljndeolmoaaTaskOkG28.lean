/-
  The walk of laws.FnExactTaskOk.
-/
import Derived.Test.YtjgfljndeolmoaaTaskOkG13
import Derived.Test.YtjgfljndeolmoaaTaskOkG21
import Derived.Test.YtjgfljndeolmoaaTaskOkG27
import Derived.Test.YtjgfljndeolmoaaTaskOkG03
namespace Go.Proofs.Ytjgfljndeolmoaa
open Go.RowKit
set_option linter.unusedVariables false

set_option maxHeartbeats 8000000 in
set_option maxRecDepth 100000 in
theorem lawTaskOk (af : Option Addr) (cf : Nat) (an : Option Addr) (cn : Nat) (az : Option Addr) (cz : Nat) (ah : Option Addr) (ch : Nat) (ar : Option Addr) (cr : Nat) (aa : Option Addr) (ca : Nat) (t : Tk) (w : World) (h : InTk w af an az ah ar aa t) (hm : SizeTk maxLen t) :
  Calls Try.prog 4 #[.agg #[.int .i64 t.state, .int .i64 t.id, .slice af t.fst.name.length cf, .int .i64 t.fst.type, .slice an t.name.length cn, .slice az t.zone.length cz, .slice ah t.hints.length ch, .slice ar t.servers.length cr, .int .i64 t.turn, .int .i64 t.sends, .int .i64 t.steps, .int .i64 t.code, .slice aa t.ans.length ca]] w fun e w' => e = .returned (.bool true) ∧ Below w.heap.size w w' := by
 have bb := below_alloc (w := w) (.cells #[.int .i64 t.state, .int .i64 t.id, .slice af t.fst.name.length cf, .int .i64 t.fst.type, .slice an t.name.length cn, .slice az t.zone.length cz, .slice ah t.hints.length ch, .slice ar t.servers.length cr, .int .i64 t.turn, .int .i64 t.sends, .int .i64 t.steps, .int .i64 t.code, .slice aa t.ans.length ca] 42)
 have K0 := hide (heap_alloc_new w (.cells #[.int .i64 t.state, .int .i64 t.id, .slice af t.fst.name.length cf, .int .i64 t.fst.type, .slice an t.name.length cn, .slice az t.zone.length cz, .slice ah t.hints.length ch, .slice ar t.servers.length cr, .int .i64 t.turn, .int .i64 t.sends, .int .i64 t.steps, .int .i64 t.code, .slice aa t.ans.length ca] 42))
 have L0 := hide h
 have HM := hide hm
 clear h hm
 go_enter Try.func4, Try.ntmps4
 go_wp2_with fail
 generalize w.alloc (.cells #[.int .i64 t.state, .int .i64 t.id, .slice af t.fst.name.length cf, .int .i64 t.fst.type, .slice an t.name.length cn, .slice az t.zone.length cz, .slice ah t.hints.length ch, .slice ar t.servers.length cr, .int .i64 t.turn, .int .i64 t.sends, .int .i64 t.steps, .int .i64 t.code, .slice aa t.ans.length ca] 42) = W at *
 have zk0 := block_lt (unhide K0)
 refine (szTask_any af cf an cn az cz ah ch ar cr aa ca t 1048576 _ ((unhide L0).below bb) (unhide HM) (by omega) (by omega)).mono ?_
 rintro e w1 ⟨⟨y, rfl, hr0, hr1, hr2⟩, b1⟩
 replace bb := below_next bb b1
 replace K0 := hide (block_kept b1 (unhide K0))
 have z1 := b1.size
 clear b1
 generalize Value.agg #[.int .i64 t.state, .int .i64 t.id, .slice af t.fst.name.length cf, .int .i64 t.fst.type, .slice an t.name.length cn, .slice az t.zone.length cz, .slice ah t.hints.length ch, .slice ar t.servers.length cr, .int .i64 t.turn, .int .i64 t.sends, .int .i64 t.steps, .int .i64 t.code, .slice aa t.ans.length ca] = V1
 by_cases hneg : y < 0
 ·clear hr2
  go_wp2_with fail
  go_ret
  exact ⟨rfl, bb⟩
 as_aux_lemma =>
  have HS := hide ((hr2 (by omega)).mono (s' := 1048576) (by omega))
  have HSS := hide ((unhide HS).mono (s' := 2097152) (by omega))
  clear hr2 HM
  obtain ⟨G0, SP, IM⟩ : ∃ G0 : Bool, (∀ (w : World) (vf vn vz vh vr va : Value), HasTk w vf vn vz vh vr va t → Calls Try.prog 13 #[.agg #[.int .i64 t.state, .int .i64 t.id, vf, .int .i64 t.fst.type, vn, vz, vh, vr, .int .i64 t.turn, .int .i64 t.sends, .int .i64 t.steps, .int .i64 t.code, va]] w fun e w' => e = .returned (.bool G0) ∧ Below w.heap.size w w') ∧ (∀ (w : World) (vf vn vz vh vr va : Value), HasTk w vf vn vz vh vr va t → Calls Try.prog 15 #[.agg #[.int .i64 t.state, .int .i64 t.id, vf, .int .i64 t.fst.type, vn, vz, vh, vr, .int .i64 t.turn, .int .i64 t.sends, .int .i64 t.steps, .int .i64 t.code, va]] w fun e w' => e = .returned (.bool G0) ∧ Below w.heap.size w w') :=
   ⟨taskOk t, fun w vf vn vz vh vr va h => specTaskOk_has h (unhide HS).hints (unhide HS).servers, fun w vf vn vz vh vr va h => implTaskOk_has h (unhide HS).hints (unhide HS).servers⟩
  have hgg : (G0 != G0) = false := by simp
  replace SP := hide SP
  replace IM := hide IM
  obtain ⟨k0, k1, k2, k3, k4, k5, k6, k7, k8, k9, k10, k11, k12⟩ := cells13 (unhide K0)
  go_wp2_with fail
  clear k0 k1 k2 k3 k4 k5 k6 k7 k8 k9 k10 k11 k12
  refine (toTask_own af cf an cn az cz ah ch ar cr aa ca t _ ((unhide L0).below bb) (unhide HS)).mono ?_
  rintro e w2 ⟨vf2, vn2, vz2, vh2, vr2, va2, rfl, o2, b2⟩
  obtain ⟨xf2, yf2, rfl, _⟩ := o2.has.fst.form
  obtain ⟨xn2, yn2, rfl, _⟩ := o2.has.name.form
  obtain ⟨xz2, yz2, rfl, _⟩ := o2.has.zone.form
  obtain ⟨xh2, yh2, rfl, _⟩ := o2.has.hints.form
  obtain ⟨xr2, yr2, rfl, _⟩ := o2.has.servers.form
  obtain ⟨xa2, ya2, rfl, _⟩ := o2.has.ans.form
  have A2 := hide o2.has
  clear o2
  replace bb := below_next bb b2
  replace K0 := hide (block_kept b2 (unhide K0))
  have z2 := b2.size
  clear b2
  obtain ⟨k0, k1, k2, k3, k4, k5, k6, k7, k8, k9, k10, k11, k12⟩ := cells13 (unhide K0)
  go_wp2_with fail
  clear k0 k1 k2 k3 k4 k5 k6 k7 k8 k9 k10 k11 k12
  refine (unhide SP _ _ _ _ _ _ _ (unhide A2)).mono ?_
  rintro e w3 ⟨rfl, b3⟩
  clear A2
  generalize Value.agg #[.int .i64 t.state, .int .i64 t.id, .slice af t.fst.name.length cf, .int .i64 t.fst.type, .slice an t.name.length cn, .slice az t.zone.length cz, .slice ah t.hints.length ch, .slice ar t.servers.length cr, .int .i64 t.turn, .int .i64 t.sends, .int .i64 t.steps, .int .i64 t.code, .slice aa t.ans.length ca] = V2
  generalize Value.agg #[.int .i64 t.state, .int .i64 t.id, .slice xf2 t.fst.name.length yf2, .int .i64 t.fst.type, .slice xn2 t.name.length yn2, .slice xz2 t.zone.length yz2, .slice xh2 t.hints.length yh2, .slice xr2 t.servers.length yr2, .int .i64 t.turn, .int .i64 t.sends, .int .i64 t.steps, .int .i64 t.code, .slice xa2 t.ans.length ya2] = V3
  replace bb := below_next bb b3
  replace K0 := hide (block_kept b3 (unhide K0))
  have z3 := b3.size
  clear b3
  as_aux_lemma =>
   obtain ⟨k0, k1, k2, k3, k4, k5, k6, k7, k8, k9, k10, k11, k12⟩ := cells13 (unhide K0)
   go_wp2_with fail
   clear k0 k1 k2 k3 k4 k5 k6 k7 k8 k9 k10 k11 k12
   refine (toTask_own af cf an cn az cz ah ch ar cr aa ca t _ ((unhide L0).below bb) (unhide HS)).mono ?_
   rintro e w4 ⟨vf4, vn4, vz4, vh4, vr4, va4, rfl, o4, b4⟩
   obtain ⟨xf4, yf4, rfl, _⟩ := o4.has.fst.form
   obtain ⟨xn4, yn4, rfl, _⟩ := o4.has.name.form
   obtain ⟨xz4, yz4, rfl, _⟩ := o4.has.zone.form
   obtain ⟨xh4, yh4, rfl, _⟩ := o4.has.hints.form
   obtain ⟨xr4, yr4, rfl, _⟩ := o4.has.servers.form
   obtain ⟨xa4, ya4, rfl, _⟩ := o4.has.ans.form
   have X0 := hide o4
   clear o4
   replace bb := below_next bb b4
   replace K0 := hide (block_kept b4 (unhide K0))
   have z4 := b4.size
   clear b4
   as_aux_lemma =>
    have b5 := below_alloc (w := w4) (.cells #[.int .i64 t.state, .int .i64 t.id, .slice xf4 t.fst.name.length yf4, .int .i64 t.fst.type, .slice xn4 t.name.length yn4, .slice xz4 t.zone.length yz4, .slice xh4 t.hints.length yh4, .slice xr4 t.servers.length yr4, .int .i64 t.turn, .int .i64 t.sends, .int .i64 t.steps, .int .i64 t.code, .slice xa4 t.ans.length ya4] 48)
    have VX := hide (heap_alloc_new w4 (.cells #[.int .i64 t.state, .int .i64 t.id, .slice xf4 t.fst.name.length yf4, .int .i64 t.fst.type, .slice xn4 t.name.length yn4, .slice xz4 t.zone.length yz4, .slice xh4 t.hints.length yh4, .slice xr4 t.servers.length yr4, .int .i64 t.turn, .int .i64 t.sends, .int .i64 t.steps, .int .i64 t.code, .slice xa4 t.ans.length ya4] 48))
    obtain ⟨k0, k1, k2, k3, k4, k5, k6, k7, k8, k9, k10, k11, k12⟩ := cells13 (block_kept b5 (unhide K0))
    go_wp2_with fail
    clear k0 k1 k2 k3 k4 k5 k6 k7 k8 k9 k10 k11 k12
    generalize w4.alloc (.cells #[.int .i64 t.state, .int .i64 t.id, .slice xf4 t.fst.name.length yf4, .int .i64 t.fst.type, .slice xn4 t.name.length yn4, .slice xz4 t.zone.length yz4, .slice xh4 t.hints.length yh4, .slice xr4 t.servers.length yr4, .int .i64 t.turn, .int .i64 t.sends, .int .i64 t.steps, .int .i64 t.code, .slice xa4 t.ans.length ya4] 48) = w5 at *
    replace bb := below_next bb b5
    replace K0 := hide (block_kept b5 (unhide K0))
    replace X0 := hide ((unhide X0).below b5)
    have z5 := b5.size
    clear b5
    refine (unhide IM _ _ _ _ _ _ _ (unhide X0).has).mono ?_
    rintro e w6 ⟨rfl, b6⟩
    generalize Value.agg #[.int .i64 t.state, .int .i64 t.id, .slice af t.fst.name.length cf, .int .i64 t.fst.type, .slice an t.name.length cn, .slice az t.zone.length cz, .slice ah t.hints.length ch, .slice ar t.servers.length cr, .int .i64 t.turn, .int .i64 t.sends, .int .i64 t.steps, .int .i64 t.code, .slice aa t.ans.length ca] = V4
    generalize Value.agg #[.int .i64 t.state, .int .i64 t.id, .slice xf4 t.fst.name.length yf4, .int .i64 t.fst.type, .slice xn4 t.name.length yn4, .slice xz4 t.zone.length yz4, .slice xh4 t.hints.length yh4, .slice xr4 t.servers.length yr4, .int .i64 t.turn, .int .i64 t.sends, .int .i64 t.steps, .int .i64 t.code, .slice xa4 t.ans.length ya4] = V5
    have b7 := below_next b6 (below_drew (w := w6))
    replace bb := below_next bb b7
    replace K0 := hide (block_kept b7 (unhide K0))
    replace VX := hide (block_kept b7 (unhide VX))
    replace X0 := hide ((unhide X0).below b7)
    clear b6 b7
    obtain ⟨k0, k1, k2, k3, k4, k5, k6, k7, k8, k9, k10, k11, k12⟩ := cells13 (unhide K0)
    obtain ⟨x0, x1, x2, x3, x4, x5, x6, x7, x8, x9, x10, x11, x12⟩ := cells13 (unhide VX)
    go_wp2_with fail
    clear k0 k1 k2 k3 k4 k5 k6 k7 k8 k9 k10 k11 k12 x0 x1 x2 x3 x4 x5 x6 x7 x8 x9 x10 x11 x12
    as_aux_lemma =>
     refine startF 5 (S := (fun w' => (w'.cell? ⟨w.heap.size, 0, none⟩ = some (.int .i64 t.state) ∧ w'.cell? ⟨w.heap.size, 1, none⟩ = some (.int .i64 t.id) ∧ w'.cell? ⟨w.heap.size, 2, none⟩ = some (.slice af t.fst.name.length cf) ∧ w'.cell? ⟨w.heap.size, 3, none⟩ = some (.int .i64 t.fst.type) ∧ w'.cell? ⟨w.heap.size, 4, none⟩ = some (.slice an t.name.length cn) ∧ w'.cell? ⟨w.heap.size, 5, none⟩ = some (.slice az t.zone.length cz) ∧ w'.cell? ⟨w.heap.size, 6, none⟩ = some (.slice ah t.hints.length ch) ∧ w'.cell? ⟨w.heap.size, 7, none⟩ = some (.slice ar t.servers.length cr) ∧ w'.cell? ⟨w.heap.size, 8, none⟩ = some (.int .i64 t.turn) ∧ w'.cell? ⟨w.heap.size, 9, none⟩ = some (.int .i64 t.sends) ∧ w'.cell? ⟨w.heap.size, 10, none⟩ = some (.int .i64 t.steps) ∧ w'.cell? ⟨w.heap.size, 11, none⟩ = some (.int .i64 t.code) ∧ w'.cell? ⟨w.heap.size, 12, none⟩ = some (.slice aa t.ans.length ca)) ∧ (w'.cell? ⟨w4.heap.size, 0, none⟩ = some (.int .i64 t.state) ∧ w'.cell? ⟨w4.heap.size, 1, none⟩ = some (.int .i64 t.id) ∧ w'.cell? ⟨w4.heap.size, 2, none⟩ = some (.slice xf4 t.fst.name.length yf4) ∧ w'.cell? ⟨w4.heap.size, 3, none⟩ = some (.int .i64 t.fst.type) ∧ w'.cell? ⟨w4.heap.size, 4, none⟩ = some (.slice xn4 t.name.length yn4) ∧ w'.cell? ⟨w4.heap.size, 5, none⟩ = some (.slice xz4 t.zone.length yz4) ∧ w'.cell? ⟨w4.heap.size, 6, none⟩ = some (.slice xh4 t.hints.length yh4) ∧ w'.cell? ⟨w4.heap.size, 7, none⟩ = some (.slice xr4 t.servers.length yr4) ∧ w'.cell? ⟨w4.heap.size, 8, none⟩ = some (.int .i64 t.turn) ∧ w'.cell? ⟨w4.heap.size, 9, none⟩ = some (.int .i64 t.sends) ∧ w'.cell? ⟨w4.heap.size, 10, none⟩ = some (.int .i64 t.steps) ∧ w'.cell? ⟨w4.heap.size, 11, none⟩ = some (.int .i64 t.code) ∧ w'.cell? ⟨w4.heap.size, 12, none⟩ = some (.slice xa4 t.ans.length ya4)))) (by kernel_rfl) rfl ⟨cells13 (unhide K0), cells13 (unhide VX)⟩ (fun hHeld => ?_)
     simp only [List.replicate]
     repeat ((first | (refine tkF ?_ rfl (by kernel_rfl) (by rfl) (fun _ _ _ h => h) ?_ hHeld ?_; rotate_left; · (intro w hSw; (try dsimp only at hSw); go_simp <;> with_reducible rfl)) | refine skF rfl (by kernel_rfl) (by rfl) (fun _ _ _ h => h) hHeld ?_); simp only [Act.put, setF, List.setIfInBounds_toArray, List.set_cons_zero, List.set_cons_succ])
     refine runI 2 rfl (by kernel_rfl) (by kernel_rfl) (fun K hK => ?_)
     have HK := hide hK
     clear hK hHeld
     go_simp
     refine (toTask_own af cf an cn az cz ah ch ar cr aa ca t _ ((unhide L0).below bb) (unhide HS)).mono ?_
     rintro e w8 ⟨vf8, vn8, vz8, vh8, vr8, va8, rfl, o8, b8⟩
     obtain ⟨xf8, yf8, rfl, _⟩ := o8.has.fst.form
     obtain ⟨xn8, yn8, rfl, _⟩ := o8.has.name.form
     obtain ⟨xz8, yz8, rfl, _⟩ := o8.has.zone.form
     obtain ⟨xh8, yh8, rfl, _⟩ := o8.has.hints.form
     obtain ⟨xr8, yr8, rfl, _⟩ := o8.has.servers.form
     obtain ⟨xa8, ya8, rfl, _⟩ := o8.has.ans.form
     refine (unhide HK).out _ _ ⟨cells13 (block_kept b8 (unhide K0)), cells13 (block_kept b8 (unhide VX))⟩ (fun hHeld => ?_)
     clear HK K
     simp only [List.setIfInBounds_toArray, List.set_cons_zero, List.set_cons_succ]
     refine runI 3 rfl (by kernel_rfl) (by kernel_rfl) (fun K hK => ?_)
     have HK := hide hK
     clear hK hHeld
     go_simp
     refine (eqTask_has ((unhide X0).below b8).has o8.has (unhide HSS)).mono ?_
     rintro e w9 ⟨rfl, b9⟩
     have q9 := below_next b8 b9
     refine (unhide HK).out _ _ ⟨cells13 (block_kept q9 (unhide K0)), cells13 (block_kept q9 (unhide VX))⟩ (fun hHeld => ?_)
     clear HK K
     simp only [List.setIfInBounds_toArray, List.set_cons_zero, List.set_cons_succ]
     repeat ((first | (refine tkF ?_ rfl (by kernel_rfl) (by rfl) (fun _ _ _ h => h) ?_ hHeld ?_; rotate_left; · (intro w hSw; (try dsimp only at hSw); go_simp <;> with_reducible rfl)) | refine skF rfl (by kernel_rfl) (by rfl) (fun _ _ _ h => h) hHeld ?_); simp only [Act.put, setF, List.setIfInBounds_toArray, List.set_cons_zero, List.set_cons_succ])
     refine wpAnyH_done (by kernel_rfl) ?_ _
     clear hHeld
     clear b8 b9 o8
     replace bb := below_next bb q9
     go_wp2_with fail
     go_ret
     exact ⟨rfl, bb⟩
end Go.Proofs.Ytjgfljndeolmoaa
