/-
  The walk of laws.FnExactBegin.
-/
import Derived.Test.YtjgfljndeolmoaaBeginG13
import Derived.Test.YtjgfljndeolmoaaBeginG26
import Derived.Test.YtjgfljndeolmoaaBeginG36
import Derived.Test.YtjgfljndeolmoaaBeginG40
import Derived.Test.YtjgfljndeolmoaaBeginG10
import Derived.Test.YtjgfljndeolmoaaBeginG37
import Derived.Test.YtjgfljndeolmoaaBeginG03
import Derived.Test.YtjgfljndeolmoaaBeginG41
import Derived.Test.YtjgfljndeolmoaaBeginG32
import Derived.Test.YtjgfljndeolmoaaBeginG09
namespace Go.Proofs.Ytjgfljndeolmoaa
open Go.RowKit
set_option linter.unusedVariables false

set_option maxHeartbeats 8000000 in
set_option maxRecDepth 100000 in
theorem lawBegin (a0 : Option Addr) (c0 : Nat) (q : Que) (a1 : Option Addr) (c1 : Nat) (l1 : List Int) (id : Int) (w : World) (h : LiesL w a0 q.name) (hm : SizeQu maxLen q) (h1 : LiesI w a1 l1) (hm1 : l1.length ≤ maxLen) :
  Calls Try.prog 6 #[.agg #[.slice a0 q.name.length c0, .int .i64 q.type], .slice a1 l1.length c1, .int .i64 id] w fun e w' => e = .returned (.bool true) ∧ Below w.heap.size w w' := by
 have bb := below_alloc (w := w) (.cells #[.slice a0 q.name.length c0, .int .i64 q.type] 39)
 have K0 := hide (heap_alloc_new w (.cells #[.slice a0 q.name.length c0, .int .i64 q.type] 39))
 have L0 := hide h
 have HM := hide hm
 have L1 := hide h1
 unfold maxLen at hm1
 clear h hm h1
 by_cases hbig : 1048576 < l1.length
 ·have hb2 : (1048576 : Int) < l1.length := by omega
  go_enter Try.func6, Try.ntmps6
  go_wp2_with fail
  go_ret
  exact ⟨rfl, bb⟩
 have hl : l1.length ≤ 1048576 := by omega
 have hl2 : l1.length ≤ 2097152 := by omega
 have hb3 : ¬ (1048576 : Int) < l1.length := by omega
 clear hbig hm1
 go_enter Try.func6, Try.ntmps6
 go_wp2_with fail
 generalize w.alloc (.cells #[.slice a0 q.name.length c0, .int .i64 q.type] 39) = W at *
 have zk0 := block_lt (unhide K0)
 refine (szQuestion_any a0 c0 q 1048576 _ ((unhide L0).below bb) (unhide HM) (by omega) (by omega)).mono ?_
 rintro e w1 ⟨⟨y, rfl, hr0, hr1, hr2⟩, b1⟩
 replace bb := below_next bb b1
 replace K0 := hide (block_kept b1 (unhide K0))
 have z1 := b1.size
 clear b1
 by_cases hneg : y < 0
 ·clear hr2
  go_wp2_with fail
  go_ret
  exact ⟨rfl, bb⟩
 as_aux_lemma =>
  have HS := hide ((hr2 (by omega)).mono (m' := 1048576) (by omega))
  have HSS := hide ((unhide HS).mono (m' := 2097152) (by omega))
  clear hr2 HM
  obtain ⟨T, B0, hsT, SP, IM⟩ : ∃ (T : Tk) (B0 : Bool), SizeTk 1048576 T ∧ (∀ (w : World) (v vh : Value), HasL w v q.name → HasI w vh l1 → Calls Try.prog 28 #[.agg #[v, .int .i64 q.type], vh, .int .i64 id] w fun e w' => ∃ uf un uz uh ur ua, e = .returned (.tuple #[.agg #[.int .i64 T.state, .int .i64 T.id, uf, .int .i64 T.fst.type, un, uz, uh, ur, .int .i64 T.turn, .int .i64 T.sends, .int .i64 T.steps, .int .i64 T.code, ua], .bool B0]) ∧ HasTk w' uf un uz uh ur ua T ∧ Below w.heap.size w w') ∧ (∀ (w : World) (v vh : Value), HasL w v q.name → HasI w vh l1 → Calls Try.prog 31 #[.agg #[v, .int .i64 q.type], vh, .int .i64 id] w fun e w' => ∃ uf un uz uh ur ua, e = .returned (.tuple #[.agg #[.int .i64 T.state, .int .i64 T.id, uf, .int .i64 T.fst.type, un, uz, uh, ur, .int .i64 T.turn, .int .i64 T.sends, .int .i64 T.steps, .int .i64 T.code, ua], .bool B0]) ∧ OwnTk w.heap.size w'.heap.size w' uf un uz uh ur ua T ∧ Below w.heap.size w w') :=
   ⟨begT q l1 id, begB q l1 id, begT_size id (unhide HS) hl, fun w v vh h hh => specBegin_own id h hh hl, fun w v vh h hh => implBegin_own id h hh hl⟩
  have HST := hide hsT
  have HSST := hide (hsT.mono (s' := 2097152) (by omega))
  have hP := pos_bound' q.name 1 (unhide HS).name (unhide HS).names
  have MQ := hide (fun (B E : Nat) (v : Value) (w : World) (hE : E ≤ w.heap.size) (h : OwnN B E 22 5 w v q.name) => markQuestion_own (unhide HS) 1 (by omega) (by omega) hE h)
  generalize pos q.name 1 q.name.length = P0 at *
  have MI := hide (fun (B : Nat) (v : Value) (w : World) (h : OwnI B 3 w v l1) => markIntS_any P0 h hl2 (by omega) (by omega))
  have hPI : ¬ P0 + (l1.length : Int) < 0 := by omega
  have hPT := (posTk_bound hsT 1)
  have MT := hide (fun (B E : Nat) (vf vn vz vh vr va : Value) (w : World) (hE : E ≤ w.heap.size) (h : OwnTk B E w vf vn vz vh vr va T) => markTask_own hsT 1 (by omega) (by omega) hE h)
  have HD := hide (fun (vf vn vz vh vr va : Value) (w : World) (h : HasTk w vf vn vz vh vr va (markTk T 1)) => heldTask_has hsT 1 (by omega) (by omega) h)
  have hPz : ¬ posTk T 1 < 0 := by omega
  have hPe : (posTk T 1 != posTk T 1) = false := by simp
  generalize posTk T 1 = PT at *
  generalize P0 + (l1.length : Int) = P1 at *
  have hgb : (B0 != B0) = false := by simp
  clear hsT hPT hP
  replace SP := hide SP
  replace IM := hide IM
  obtain ⟨k0, k1⟩ := cells2 (unhide K0)
  go_wp2_with fail
  clear k0 k1
  refine (toQuestion_any a0 c0 q _ ((unhide L0).below bb) (unhide HS)).mono ?_
  rintro e w2 ⟨v2, rfl, o2, b2⟩
  obtain ⟨x2, y2, rfl, _⟩ := o2.hasL.form
  have A2 := hide o2.hasL
  clear o2
  replace bb := below_next bb b2
  replace K0 := hide (block_kept b2 (unhide K0))
  have zb2 := b2.size
  clear b2
  obtain ⟨k0, k1⟩ := cells2 (unhide K0)
  go_wp2_with fail
  clear k0 k1
  refine (toIntS_any a1 c1 l1 _ ((unhide L1).below bb) hl).mono ?_
  rintro e w3 ⟨v3, rfl, o3, b3⟩
  obtain ⟨x3, y3, rfl, _⟩ := o3.lies
  have A3 := hide o3.has
  clear o3
  replace bb := below_next bb b3
  replace K0 := hide (block_kept b3 (unhide K0))
  replace A2 := hide ((unhide A2).below b3)
  have zb3 := b3.size
  clear b3
  obtain ⟨k0, k1⟩ := cells2 (unhide K0)
  go_wp2_with fail
  clear k0 k1
  refine (unhide SP _ _ _ (unhide A2) (unhide A3)).mono ?_
  clear A2 A3
  rintro e w4 ⟨vf4, vn4, vz4, vh4, vr4, va4, rfl, o4, b4⟩
  obtain ⟨xf4, yf4, rfl, _⟩ := o4.fst.form
  obtain ⟨xn4, yn4, rfl, _⟩ := o4.name.form
  obtain ⟨xz4, yz4, rfl, _⟩ := o4.zone.form
  obtain ⟨xh4, yh4, rfl, _⟩ := o4.hints.form
  obtain ⟨xr4, yr4, rfl, _⟩ := o4.servers.form
  obtain ⟨xa4, ya4, rfl, _⟩ := o4.ans.form
  replace bb := below_next bb b4
  replace K0 := hide (block_kept b4 (unhide K0))
  have zb4 := b4.size
  clear b4
  have W0 := hide o4
  clear o4
  have BW := hide (Below.refl w4.heap.size w4)
  as_aux_lemma =>
   have b5 := below_alloc (w := w4) (.cells #[.int .i64 T.state, .int .i64 T.id, .slice xf4 T.fst.name.length yf4, .int .i64 T.fst.type, .slice xn4 T.name.length yn4, .slice xz4 T.zone.length yz4, .slice xh4 T.hints.length yh4, .slice xr4 T.servers.length yr4, .int .i64 T.turn, .int .i64 T.sends, .int .i64 T.steps, .int .i64 T.code, .slice xa4 T.ans.length ya4] 48)
   have BT := hide (heap_alloc_new w4 (.cells #[.int .i64 T.state, .int .i64 T.id, .slice xf4 T.fst.name.length yf4, .int .i64 T.fst.type, .slice xn4 T.name.length yn4, .slice xz4 T.zone.length yz4, .slice xh4 T.hints.length yh4, .slice xr4 T.servers.length yr4, .int .i64 T.turn, .int .i64 T.sends, .int .i64 T.steps, .int .i64 T.code, .slice xa4 T.ans.length ya4] 48))
   obtain ⟨k0, k1⟩ := cells2 (block_kept b5 (unhide K0))
   go_wp2_with fail
   clear k0 k1
   generalize w4.alloc (.cells #[.int .i64 T.state, .int .i64 T.id, .slice xf4 T.fst.name.length yf4, .int .i64 T.fst.type, .slice xn4 T.name.length yn4, .slice xz4 T.zone.length yz4, .slice xh4 T.hints.length yh4, .slice xr4 T.servers.length yr4, .int .i64 T.turn, .int .i64 T.sends, .int .i64 T.steps, .int .i64 T.code, .slice xa4 T.ans.length ya4] 48) = w5 at *
   replace bb := below_next bb b5
   replace K0 := hide (block_kept b5 (unhide K0))
   replace BW := hide ((unhide BW).trans (b5.mono (unhide BW).size))
   have zb5 := b5.size
   clear b5
   have zb5 := block_lt (unhide BT)
   refine (toQuestion_any a0 c0 q _ ((unhide L0).below bb) (unhide HS)).mono ?_
   rintro e w6 ⟨v6, rfl, o6, b6⟩
   obtain ⟨x6, y6, rfl, _⟩ := o6.hasL.form
   have X0 := hide o6
   clear o6
   replace bb := below_next bb b6
   replace K0 := hide (block_kept b6 (unhide K0))
   replace BW := hide ((unhide BW).trans (b6.mono (unhide BW).size))
   replace BT := hide (block_kept b6 (unhide BT))
   have zb6 := b6.size
   clear b6
   have b7 := below_alloc (w := w6) (.cells #[.slice x6 q.name.length y6, .int .i64 q.type] 46)
   have VX := hide (heap_alloc_new w6 (.cells #[.slice x6 q.name.length y6, .int .i64 q.type] 46))
   obtain ⟨k0, k1⟩ := cells2 (block_kept b7 (unhide K0))
   obtain ⟨d0, d1, d2, d3, d4, d5, d6, d7, d8, d9, d10, d11, d12⟩ := cells13 (block_kept b7 (unhide BT))
   go_wp2_with fail
   clear k0 k1 d0 d1 d2 d3 d4 d5 d6 d7 d8 d9 d10 d11 d12
   generalize w6.alloc (.cells #[.slice x6 q.name.length y6, .int .i64 q.type] 46) = w7 at *
   replace bb := below_next bb b7
   replace K0 := hide (block_kept b7 (unhide K0))
   replace BW := hide ((unhide BW).trans (b7.mono (unhide BW).size))
   replace BT := hide (block_kept b7 (unhide BT))
   replace X0 := hide ((unhide X0).below b7)
   have zb7 := b7.size
   clear b7
   have zb7 := block_lt (unhide VX)
   refine (toIntS_any a1 c1 l1 _ ((unhide L1).below bb) hl).mono ?_
   rintro e w8 ⟨v8, rfl, o8, b8⟩
   obtain ⟨x8, y8, rfl, _⟩ := o8.lies
   have X1 := hide o8.here
   clear o8
   replace bb := below_next bb b8
   replace K0 := hide (block_kept b8 (unhide K0))
   replace BW := hide ((unhide BW).trans (b8.mono (unhide BW).size))
   replace BT := hide (block_kept b8 (unhide BT))
   replace X0 := hide ((unhide X0).below b8)
   replace VX := hide (block_kept b8 (unhide VX))
   have zb8 := b8.size
   clear b8
   obtain ⟨k0, k1⟩ := cells2 (unhide K0)
   obtain ⟨d0, d1, d2, d3, d4, d5, d6, d7, d8, d9, d10, d11, d12⟩ := cells13 (unhide BT)
   obtain ⟨x0, x1⟩ := cells2 (unhide VX)
   go_wp2_with fail
   clear k0 k1 d0 d1 d2 d3 d4 d5 d6 d7 d8 d9 d10 d11 d12 x0 x1
   refine (unhide IM _ _ _ (unhide X0).hasL (unhide X1).has).mono ?_
   rintro e w9 ⟨vf9, vn9, vz9, vh9, vr9, va9, rfl, o9, b9⟩
   obtain ⟨xf9, yf9, rfl, _⟩ := o9.has.fst.form
   obtain ⟨xn9, yn9, rfl, _⟩ := o9.has.name.form
   obtain ⟨xz9, yz9, rfl, _⟩ := o9.has.zone.form
   obtain ⟨xh9, yh9, rfl, _⟩ := o9.has.hints.form
   obtain ⟨xr9, yr9, rfl, _⟩ := o9.has.servers.form
   obtain ⟨xa9, ya9, rfl, _⟩ := o9.has.ans.form
   have GG := hide o9
   clear o9
   replace bb := below_next bb b9
   replace K0 := hide (block_kept b9 (unhide K0))
   replace BW := hide ((unhide BW).trans (b9.mono (unhide BW).size))
   replace BT := hide (block_kept b9 (unhide BT))
   replace X0 := hide ((unhide X0).below b9)
   replace VX := hide (block_kept b9 (unhide VX))
   replace X1 := hide ((unhide X1).below b9)
   have zb9 := b9.size
   clear b9
   as_aux_lemma =>
    have b10 := below_alloc (w := w9) (.cells #[.int .i64 T.state, .int .i64 T.id, .slice xf9 T.fst.name.length yf9, .int .i64 T.fst.type, .slice xn9 T.name.length yn9, .slice xz9 T.zone.length yz9, .slice xh9 T.hints.length yh9, .slice xr9 T.servers.length yr9, .int .i64 T.turn, .int .i64 T.sends, .int .i64 T.steps, .int .i64 T.code, .slice xa9 T.ans.length ya9] 48)
    have BG := hide (heap_alloc_new w9 (.cells #[.int .i64 T.state, .int .i64 T.id, .slice xf9 T.fst.name.length yf9, .int .i64 T.fst.type, .slice xn9 T.name.length yn9, .slice xz9 T.zone.length yz9, .slice xh9 T.hints.length yh9, .slice xr9 T.servers.length yr9, .int .i64 T.turn, .int .i64 T.sends, .int .i64 T.steps, .int .i64 T.code, .slice xa9 T.ans.length ya9] 48))
    obtain ⟨k0, k1⟩ := cells2 (block_kept b10 (unhide K0))
    obtain ⟨d0, d1, d2, d3, d4, d5, d6, d7, d8, d9, d10, d11, d12⟩ := cells13 (block_kept b10 (unhide BT))
    obtain ⟨x0, x1⟩ := cells2 (block_kept b10 (unhide VX))
    obtain ⟨j0, j1, j2, j3, j4, j5, j6, j7, j8, j9, j10, j11, j12⟩ := cells13 (unhide BG)
    go_wp2_with fail
    clear k0 k1 d0 d1 d2 d3 d4 d5 d6 d7 d8 d9 d10 d11 d12 x0 x1
    clear j0 j1 j2 j3 j4 j5 j6 j7 j8 j9 j10 j11 j12
    generalize w9.alloc (.cells #[.int .i64 T.state, .int .i64 T.id, .slice xf9 T.fst.name.length yf9, .int .i64 T.fst.type, .slice xn9 T.name.length yn9, .slice xz9 T.zone.length yz9, .slice xh9 T.hints.length yh9, .slice xr9 T.servers.length yr9, .int .i64 T.turn, .int .i64 T.sends, .int .i64 T.steps, .int .i64 T.code, .slice xa9 T.ans.length ya9] 48) = w10 at *
    replace bb := below_next bb b10
    replace K0 := hide (block_kept b10 (unhide K0))
    replace BW := hide ((unhide BW).trans (b10.mono (unhide BW).size))
    replace BT := hide (block_kept b10 (unhide BT))
    replace X0 := hide ((unhide X0).below b10)
    replace VX := hide (block_kept b10 (unhide VX))
    replace X1 := hide ((unhide X1).below b10)
    replace GG := hide ((unhide GG).below b10)
    have zb10 := b10.size
    clear b10
    have zb10 := block_lt (unhide BG)
    refine (eqTask_has (unhide GG).has ((unhide W0).below (unhide BW)) (unhide HSST)).mono ?_
    rintro e w11 ⟨rfl, b11⟩
    replace bb := below_next bb b11
    replace K0 := hide (block_kept b11 (unhide K0))
    replace BW := hide ((unhide BW).trans (b11.mono (unhide BW).size))
    replace BT := hide (block_kept b11 (unhide BT))
    replace X0 := hide ((unhide X0).below b11)
    replace VX := hide (block_kept b11 (unhide VX))
    replace X1 := hide ((unhide X1).below b11)
    replace GG := hide ((unhide GG).below b11)
    replace BG := hide (block_kept b11 (unhide BG))
    have zb11 := b11.size
    clear b11
    have bd := below_drew (w := w11)
    have zd : w11.drew.heap.size = w11.heap.size := rfl
    replace bb := below_next bb bd
    replace K0 := hide (block_kept bd (unhide K0))
    replace BW := hide ((unhide BW).trans (bd.mono (unhide BW).size))
    replace BT := hide (block_kept bd (unhide BT))
    replace X0 := hide ((unhide X0).below bd)
    replace VX := hide (block_kept bd (unhide VX))
    replace X1 := hide ((unhide X1).below bd)
    replace GG := hide ((unhide GG).below bd)
    replace BG := hide (block_kept bd (unhide BG))
    have zbd := bd.size
    clear bd
    obtain ⟨k0, k1⟩ := cells2 (unhide K0)
    obtain ⟨d0, d1, d2, d3, d4, d5, d6, d7, d8, d9, d10, d11, d12⟩ := cells13 (unhide BT)
    obtain ⟨x0, x1⟩ := cells2 (unhide VX)
    obtain ⟨f0, f1, f2, f3, f4, f5, f6, f7, f8, f9, f10, f11, f12⟩ := cells13 (unhide BG)
    go_wp2_with fail
    clear k0 k1 d0 d1 d2 d3 d4 d5 d6 d7 d8 d9 d10 d11 d12 x0 x1 f0 f1 f2 f3 f4 f5 f6 f7 f8 f9 f10 f11 f12
    as_aux_lemma =>
     refine startF 5 (S := (fun w' => (w'.cell? ⟨w.heap.size, 0, none⟩ = some (.slice a0 q.name.length c0) ∧ w'.cell? ⟨w.heap.size, 1, none⟩ = some (.int .i64 q.type)) ∧ (w'.cell? ⟨w6.heap.size, 0, none⟩ = some (.slice x6 q.name.length y6) ∧ w'.cell? ⟨w6.heap.size, 1, none⟩ = some (.int .i64 q.type)))) (by kernel_rfl) rfl ⟨cells2 (unhide K0), cells2 (unhide VX)⟩ (fun hHeld => ?_)
     simp only [List.replicate]
     repeat ((first | (refine tkF ?_ rfl (by kernel_rfl) (by rfl) (fun _ _ _ h => h) ?_ hHeld ?_; rotate_left; · (intro w hSw; (try dsimp only at hSw); go_simp <;> with_reducible rfl)) | refine skF rfl (by kernel_rfl) (by rfl) (fun _ _ _ h => h) hHeld ?_); simp only [Act.put, setF, List.setIfInBounds_toArray, List.set_cons_zero, List.set_cons_succ])
     refine runI 2 rfl (by kernel_rfl) (by kernel_rfl) (fun K hK => ?_)
     have HK := hide hK
     clear hK hHeld
     go_simp
     refine (toQuestion_any a0 c0 q _ ((unhide L0).below bb) (unhide HS)).mono ?_
     rintro e w12 ⟨v12, rfl, o12, b12⟩
     obtain ⟨x12, y12, rfl, _⟩ := o12.hasL.form
     refine (unhide HK).out _ _ ⟨cells2 (block_kept b12 (unhide K0)), cells2 (block_kept b12 (unhide VX))⟩ (fun hHeld => ?_)
     clear HK K
     simp only [List.setIfInBounds_toArray, List.set_cons_zero, List.set_cons_succ]
     refine runI 3 rfl (by kernel_rfl) (by kernel_rfl) (fun K hK => ?_)
     have HK := hide hK
     clear hK hHeld
     go_simp
     refine (eqQuestion_has ((unhide X0).below b12).hasL o12.hasL (unhide HSS)).mono ?_
     rintro e w13 ⟨rfl, b13⟩
     have q13 := below_next b12 b13
     refine (unhide HK).out _ _ ⟨cells2 (block_kept q13 (unhide K0)), cells2 (block_kept q13 (unhide VX))⟩ (fun hHeld => ?_)
     clear HK K
     simp only [List.setIfInBounds_toArray, List.set_cons_zero, List.set_cons_succ]
     repeat ((first | (refine tkF ?_ rfl (by kernel_rfl) (by rfl) (fun _ _ _ h => h) ?_ hHeld ?_; rotate_left; · (intro w hSw; (try dsimp only at hSw); go_simp <;> with_reducible rfl)) | refine skF rfl (by kernel_rfl) (by rfl) (fun _ _ _ h => h) hHeld ?_); simp only [Act.put, setF, List.setIfInBounds_toArray, List.set_cons_zero, List.set_cons_succ])
     refine wpAnyH_done (by kernel_rfl) ?_ _
     clear hHeld
     clear b12 b13 o12
     replace bb := below_next bb q13
     replace K0 := hide (block_kept q13 (unhide K0))
     replace BW := hide ((unhide BW).trans (q13.mono (unhide BW).size))
     replace BT := hide (block_kept q13 (unhide BT))
     replace X0 := hide ((unhide X0).below q13)
     replace VX := hide (block_kept q13 (unhide VX))
     replace X1 := hide ((unhide X1).below q13)
     replace GG := hide ((unhide GG).below q13)
     replace BG := hide (block_kept q13 (unhide BG))
     have zq13 := q13.size
     clear q13
     obtain ⟨k0, k1⟩ := cells2 (unhide K0)
     obtain ⟨d0, d1, d2, d3, d4, d5, d6, d7, d8, d9, d10, d11, d12⟩ := cells13 (unhide BT)
     obtain ⟨x0, x1⟩ := cells2 (unhide VX)
     obtain ⟨f0, f1, f2, f3, f4, f5, f6, f7, f8, f9, f10, f11, f12⟩ := cells13 (unhide BG)
     go_wp2_with fail
     clear k0 k1 d0 d1 d2 d3 d4 d5 d6 d7 d8 d9 d10 d11 d12 x0 x1 f0 f1 f2 f3 f4 f5 f6 f7 f8 f9 f10 f11 f12
     refine (toIntS_any a1 c1 l1 _ ((unhide L1).below bb) hl).mono ?_
     rintro e w14 ⟨v14, rfl, o14, b14⟩
     obtain ⟨x14, y14, rfl, _⟩ := o14.lies
     have YY := hide o14.has
     clear o14
     replace bb := below_next bb b14
     replace K0 := hide (block_kept b14 (unhide K0))
     replace BW := hide ((unhide BW).trans (b14.mono (unhide BW).size))
     replace BT := hide (block_kept b14 (unhide BT))
     replace X0 := hide ((unhide X0).below b14)
     replace VX := hide (block_kept b14 (unhide VX))
     replace X1 := hide ((unhide X1).below b14)
     replace GG := hide ((unhide GG).below b14)
     replace BG := hide (block_kept b14 (unhide BG))
     have zb14 := b14.size
     clear b14
     obtain ⟨k0, k1⟩ := cells2 (unhide K0)
     obtain ⟨d0, d1, d2, d3, d4, d5, d6, d7, d8, d9, d10, d11, d12⟩ := cells13 (unhide BT)
     obtain ⟨x0, x1⟩ := cells2 (unhide VX)
     obtain ⟨f0, f1, f2, f3, f4, f5, f6, f7, f8, f9, f10, f11, f12⟩ := cells13 (unhide BG)
     go_wp2_with fail
     clear k0 k1 d0 d1 d2 d3 d4 d5 d6 d7 d8 d9 d10 d11 d12 x0 x1 f0 f1 f2 f3 f4 f5 f6 f7 f8 f9 f10 f11 f12
     refine (eqIntS_has (unhide X1).has (unhide YY) hl2).mono ?_
     rintro e w15 ⟨rfl, m15, hm15⟩
     have b15 : Below w14.heap.size w14 w15 := by rw [hm15]; exact below_draws m15
     clear hm15 YY
     replace bb := below_next bb b15
     replace K0 := hide (block_kept b15 (unhide K0))
     replace BW := hide ((unhide BW).trans (b15.mono (unhide BW).size))
     replace BT := hide (block_kept b15 (unhide BT))
     replace X0 := hide ((unhide X0).below b15)
     replace VX := hide (block_kept b15 (unhide VX))
     replace X1 := hide ((unhide X1).below b15)
     replace GG := hide ((unhide GG).below b15)
     replace BG := hide (block_kept b15 (unhide BG))
     have zb15 := b15.size
     clear b15
     as_aux_lemma =>
      obtain ⟨k0, k1⟩ := cells2 (unhide K0)
      obtain ⟨d0, d1, d2, d3, d4, d5, d6, d7, d8, d9, d10, d11, d12⟩ := cells13 (unhide BT)
      obtain ⟨x0, x1⟩ := cells2 (unhide VX)
      obtain ⟨f0, f1, f2, f3, f4, f5, f6, f7, f8, f9, f10, f11, f12⟩ := cells13 (unhide BG)
      go_wp2_with fail
      clear k0 k1 d0 d1 d2 d3 d4 d5 d6 d7 d8 d9 d10 d11 d12 x0 x1 f0 f1 f2 f3 f4 f5 f6 f7 f8 f9 f10 f11 f12
      refine (unhide MQ _ _ _ _ (by omega) (unhide X0)).mono ?_
      rintro e w16 ⟨rfl, o16, u16⟩
      clear X0 o16
      replace bb := u16.below bb (by omega)
      replace K0 := hide (u16.kept (unhide K0) (by omega))
      replace BW := hide (u16.belowAt (unhide BW) (Nat.le_refl _) (by omega))
      replace BT := hide (u16.kept (unhide BT) (by omega))
      replace VX := hide (u16.kept (unhide VX) (by omega))
      replace X1 := hide ((unhide X1).outside u16 (by omega))
      replace GG := hide ((unhide GG).outside u16 (by omega))
      replace BG := hide (u16.kept (unhide BG) (by omega))
      have zu16 := u16.size
      clear u16
      obtain ⟨k0, k1⟩ := cells2 (unhide K0)
      obtain ⟨d0, d1, d2, d3, d4, d5, d6, d7, d8, d9, d10, d11, d12⟩ := cells13 (unhide BT)
      obtain ⟨x0, x1⟩ := cells2 (unhide VX)
      obtain ⟨f0, f1, f2, f3, f4, f5, f6, f7, f8, f9, f10, f11, f12⟩ := cells13 (unhide BG)
      go_wp2_with fail
      clear k0 k1 d0 d1 d2 d3 d4 d5 d6 d7 d8 d9 d10 d11 d12 x0 x1 f0 f1 f2 f3 f4 f5 f6 f7 f8 f9 f10 f11 f12
      refine (unhide MI _ _ _ (unhide X1).1).mono ?_
      rintro e w17 ⟨rfl, o17, g17⟩
      have u17 := ((unhide X1).marks o17 g17).2
      clear X1 o17 g17
      replace bb := u17.below bb (by omega)
      replace K0 := hide (u17.kept (unhide K0) (by omega))
      replace BW := hide (u17.belowAt (unhide BW) (Nat.le_refl _) (by omega))
      replace BT := hide (u17.kept (unhide BT) (by omega))
      replace VX := hide (u17.kept (unhide VX) (by omega))
      replace GG := hide ((unhide GG).outside u17 (by omega))
      replace BG := hide (u17.kept (unhide BG) (by omega))
      have zu17 := u17.size
      clear u17
      as_aux_lemma =>
       obtain ⟨k0, k1⟩ := cells2 (unhide K0)
       obtain ⟨d0, d1, d2, d3, d4, d5, d6, d7, d8, d9, d10, d11, d12⟩ := cells13 (unhide BT)
       obtain ⟨x0, x1⟩ := cells2 (unhide VX)
       obtain ⟨f0, f1, f2, f3, f4, f5, f6, f7, f8, f9, f10, f11, f12⟩ := cells13 (unhide BG)
       go_wp2_with fail
       clear k0 k1 d0 d1 d2 d3 d4 d5 d6 d7 d8 d9 d10 d11 d12 x0 x1 f0 f1 f2 f3 f4 f5 f6 f7 f8 f9 f10 f11 f12
       refine (eqTask_has (unhide GG).has ((unhide W0).below (unhide BW)) (unhide HSST)).mono ?_
       rintro e w18 ⟨rfl, b18⟩
       replace bb := below_next bb b18
       replace K0 := hide (block_kept b18 (unhide K0))
       replace BW := hide ((unhide BW).trans (b18.mono (unhide BW).size))
       replace BT := hide (block_kept b18 (unhide BT))
       replace VX := hide (block_kept b18 (unhide VX))
       replace GG := hide ((unhide GG).below b18)
       replace BG := hide (block_kept b18 (unhide BG))
       have zb18 := b18.size
       clear b18
       obtain ⟨k0, k1⟩ := cells2 (unhide K0)
       obtain ⟨d0, d1, d2, d3, d4, d5, d6, d7, d8, d9, d10, d11, d12⟩ := cells13 (unhide BT)
       obtain ⟨x0, x1⟩ := cells2 (unhide VX)
       obtain ⟨f0, f1, f2, f3, f4, f5, f6, f7, f8, f9, f10, f11, f12⟩ := cells13 (unhide BG)
       go_wp2_with fail
       clear k0 k1 d0 d1 d2 d3 d4 d5 d6 d7 d8 d9 d10 d11 d12 x0 x1 f0 f1 f2 f3 f4 f5 f6 f7 f8 f9 f10 f11 f12
       refine (unhide MT _ _ _ _ _ _ _ _ _ (by omega) (unhide GG)).mono ?_
       rintro e w19 ⟨rfl, o19, u19⟩
       clear GG
       replace bb := u19.below bb (by omega)
       replace K0 := hide (u19.kept (unhide K0) (by omega))
       replace BW := hide (u19.belowAt (unhide BW) (Nat.le_refl _) (by omega))
       replace BT := hide (u19.kept (unhide BT) (by omega))
       replace VX := hide (u19.kept (unhide VX) (by omega))
       replace BG := hide (u19.kept (unhide BG) (by omega))
       have zu19 := u19.size
       clear u19
       have GM := hide o19.has
       clear o19
       obtain ⟨k0, k1⟩ := cells2 (unhide K0)
       obtain ⟨d0, d1, d2, d3, d4, d5, d6, d7, d8, d9, d10, d11, d12⟩ := cells13 (unhide BT)
       obtain ⟨x0, x1⟩ := cells2 (unhide VX)
       obtain ⟨f0, f1, f2, f3, f4, f5, f6, f7, f8, f9, f10, f11, f12⟩ := cells13 (unhide BG)
       go_wp2_with fail
       clear k0 k1 d0 d1 d2 d3 d4 d5 d6 d7 d8 d9 d10 d11 d12 x0 x1 f0 f1 f2 f3 f4 f5 f6 f7 f8 f9 f10 f11 f12
       refine (unhide HD _ _ _ _ _ _ _ (unhide GM)).mono ?_
       rintro e w20 ⟨rfl, b20⟩
       replace bb := below_next bb b20
       replace K0 := hide (block_kept b20 (unhide K0))
       replace BW := hide ((unhide BW).trans (b20.mono (unhide BW).size))
       replace BT := hide (block_kept b20 (unhide BT))
       replace VX := hide (block_kept b20 (unhide VX))
       replace BG := hide (block_kept b20 (unhide BG))
       replace GM := hide ((unhide GM).below b20)
       have zb20 := b20.size
       clear b20
       as_aux_lemma =>
        obtain ⟨k0, k1⟩ := cells2 (unhide K0)
        obtain ⟨d0, d1, d2, d3, d4, d5, d6, d7, d8, d9, d10, d11, d12⟩ := cells13 (unhide BT)
        obtain ⟨x0, x1⟩ := cells2 (unhide VX)
        obtain ⟨f0, f1, f2, f3, f4, f5, f6, f7, f8, f9, f10, f11, f12⟩ := cells13 (unhide BG)
        go_wp2_with fail
        clear k0 k1 d0 d1 d2 d3 d4 d5 d6 d7 d8 d9 d10 d11 d12 x0 x1 f0 f1 f2 f3 f4 f5 f6 f7 f8 f9 f10 f11 f12
        refine (toQuestion_any a0 c0 q _ ((unhide L0).below bb) (unhide HS)).mono ?_
        rintro e w21 ⟨v21, rfl, o21, b21⟩
        obtain ⟨x21, y21, rfl, _⟩ := o21.hasL.form
        have A21 := hide o21.hasL
        clear o21
        replace bb := below_next bb b21
        replace K0 := hide (block_kept b21 (unhide K0))
        replace BW := hide ((unhide BW).trans (b21.mono (unhide BW).size))
        replace BT := hide (block_kept b21 (unhide BT))
        replace VX := hide (block_kept b21 (unhide VX))
        replace BG := hide (block_kept b21 (unhide BG))
        replace GM := hide ((unhide GM).below b21)
        have zb21 := b21.size
        clear b21
        obtain ⟨k0, k1⟩ := cells2 (unhide K0)
        obtain ⟨d0, d1, d2, d3, d4, d5, d6, d7, d8, d9, d10, d11, d12⟩ := cells13 (unhide BT)
        obtain ⟨x0, x1⟩ := cells2 (unhide VX)
        obtain ⟨f0, f1, f2, f3, f4, f5, f6, f7, f8, f9, f10, f11, f12⟩ := cells13 (unhide BG)
        go_wp2_with fail
        clear k0 k1 d0 d1 d2 d3 d4 d5 d6 d7 d8 d9 d10 d11 d12 x0 x1 f0 f1 f2 f3 f4 f5 f6 f7 f8 f9 f10 f11 f12
        refine (toIntS_any a1 c1 l1 _ ((unhide L1).below bb) hl).mono ?_
        rintro e w22 ⟨v22, rfl, o22, b22⟩
        obtain ⟨x22, y22, rfl, _⟩ := o22.lies
        have A22 := hide o22.has
        clear o22
        replace bb := below_next bb b22
        replace K0 := hide (block_kept b22 (unhide K0))
        replace BW := hide ((unhide BW).trans (b22.mono (unhide BW).size))
        replace BT := hide (block_kept b22 (unhide BT))
        replace VX := hide (block_kept b22 (unhide VX))
        replace BG := hide (block_kept b22 (unhide BG))
        replace GM := hide ((unhide GM).below b22)
        replace A21 := hide ((unhide A21).below b22)
        have zb22 := b22.size
        clear b22
        obtain ⟨k0, k1⟩ := cells2 (unhide K0)
        obtain ⟨d0, d1, d2, d3, d4, d5, d6, d7, d8, d9, d10, d11, d12⟩ := cells13 (unhide BT)
        obtain ⟨x0, x1⟩ := cells2 (unhide VX)
        obtain ⟨f0, f1, f2, f3, f4, f5, f6, f7, f8, f9, f10, f11, f12⟩ := cells13 (unhide BG)
        go_wp2_with fail
        clear k0 k1 d0 d1 d2 d3 d4 d5 d6 d7 d8 d9 d10 d11 d12 x0 x1 f0 f1 f2 f3 f4 f5 f6 f7 f8 f9 f10 f11 f12
        refine (unhide IM _ _ _ (unhide A21) (unhide A22)).mono ?_
        clear A21 A22
        rintro e w23 ⟨vf23, vn23, vz23, vh23, vr23, va23, rfl, o23, b23⟩
        obtain ⟨xf23, yf23, rfl, _⟩ := o23.has.fst.form
        obtain ⟨xn23, yn23, rfl, _⟩ := o23.has.name.form
        obtain ⟨xz23, yz23, rfl, _⟩ := o23.has.zone.form
        obtain ⟨xh23, yh23, rfl, _⟩ := o23.has.hints.form
        obtain ⟨xr23, yr23, rfl, _⟩ := o23.has.servers.form
        obtain ⟨xa23, ya23, rfl, _⟩ := o23.has.ans.form
        have H0 := hide o23.has
        clear o23
        replace bb := below_next bb b23
        replace K0 := hide (block_kept b23 (unhide K0))
        replace BW := hide ((unhide BW).trans (b23.mono (unhide BW).size))
        replace BT := hide (block_kept b23 (unhide BT))
        replace VX := hide (block_kept b23 (unhide VX))
        replace BG := hide (block_kept b23 (unhide BG))
        replace GM := hide ((unhide GM).below b23)
        have zb23 := b23.size
        clear b23
        as_aux_lemma =>
         have b24 := below_alloc (w := w23) (.cells #[.int .i64 T.state, .int .i64 T.id, .slice xf23 T.fst.name.length yf23, .int .i64 T.fst.type, .slice xn23 T.name.length yn23, .slice xz23 T.zone.length yz23, .slice xh23 T.hints.length yh23, .slice xr23 T.servers.length yr23, .int .i64 T.turn, .int .i64 T.sends, .int .i64 T.steps, .int .i64 T.code, .slice xa23 T.ans.length ya23] 48)
         have BH := hide (heap_alloc_new w23 (.cells #[.int .i64 T.state, .int .i64 T.id, .slice xf23 T.fst.name.length yf23, .int .i64 T.fst.type, .slice xn23 T.name.length yn23, .slice xz23 T.zone.length yz23, .slice xh23 T.hints.length yh23, .slice xr23 T.servers.length yr23, .int .i64 T.turn, .int .i64 T.sends, .int .i64 T.steps, .int .i64 T.code, .slice xa23 T.ans.length ya23] 48))
         obtain ⟨k0, k1⟩ := cells2 (block_kept b24 (unhide K0))
         obtain ⟨d0, d1, d2, d3, d4, d5, d6, d7, d8, d9, d10, d11, d12⟩ := cells13 (block_kept b24 (unhide BT))
         obtain ⟨x0, x1⟩ := cells2 (block_kept b24 (unhide VX))
         obtain ⟨f0, f1, f2, f3, f4, f5, f6, f7, f8, f9, f10, f11, f12⟩ := cells13 (block_kept b24 (unhide BG))
         obtain ⟨j0, j1, j2, j3, j4, j5, j6, j7, j8, j9, j10, j11, j12⟩ := cells13 (unhide BH)
         go_wp2_with fail
         clear k0 k1 d0 d1 d2 d3 d4 d5 d6 d7 d8 d9 d10 d11 d12 x0 x1 f0 f1 f2 f3 f4 f5 f6 f7 f8 f9 f10 f11 f12
         clear j0 j1 j2 j3 j4 j5 j6 j7 j8 j9 j10 j11 j12
         generalize w23.alloc (.cells #[.int .i64 T.state, .int .i64 T.id, .slice xf23 T.fst.name.length yf23, .int .i64 T.fst.type, .slice xn23 T.name.length yn23, .slice xz23 T.zone.length yz23, .slice xh23 T.hints.length yh23, .slice xr23 T.servers.length yr23, .int .i64 T.turn, .int .i64 T.sends, .int .i64 T.steps, .int .i64 T.code, .slice xa23 T.ans.length ya23] 48) = w24 at *
         replace bb := below_next bb b24
         replace K0 := hide (block_kept b24 (unhide K0))
         replace BW := hide ((unhide BW).trans (b24.mono (unhide BW).size))
         replace BT := hide (block_kept b24 (unhide BT))
         replace VX := hide (block_kept b24 (unhide VX))
         replace BG := hide (block_kept b24 (unhide BG))
         replace GM := hide ((unhide GM).below b24)
         replace H0 := hide ((unhide H0).below b24)
         have zb24 := b24.size
         clear b24
         have zb24 := block_lt (unhide BH)
         refine (eqTask_has (unhide H0) ((unhide W0).below (unhide BW)) (unhide HSST)).mono ?_
         rintro e w25 ⟨rfl, b25⟩
         replace bb := below_next bb b25
         replace K0 := hide (block_kept b25 (unhide K0))
         replace BW := hide ((unhide BW).trans (b25.mono (unhide BW).size))
         replace BT := hide (block_kept b25 (unhide BT))
         replace VX := hide (block_kept b25 (unhide VX))
         replace BG := hide (block_kept b25 (unhide BG))
         replace GM := hide ((unhide GM).below b25)
         replace H0 := hide ((unhide H0).below b25)
         replace BH := hide (block_kept b25 (unhide BH))
         have zb25 := b25.size
         clear b25
         obtain ⟨k0, k1⟩ := cells2 (unhide K0)
         obtain ⟨d0, d1, d2, d3, d4, d5, d6, d7, d8, d9, d10, d11, d12⟩ := cells13 (unhide BT)
         obtain ⟨x0, x1⟩ := cells2 (unhide VX)
         obtain ⟨f0, f1, f2, f3, f4, f5, f6, f7, f8, f9, f10, f11, f12⟩ := cells13 (unhide BG)
         go_wp2_with fail
         clear k0 k1 d0 d1 d2 d3 d4 d5 d6 d7 d8 d9 d10 d11 d12 x0 x1 f0 f1 f2 f3 f4 f5 f6 f7 f8 f9 f10 f11 f12
         refine (unhide HD _ _ _ _ _ _ _ (unhide GM)).mono ?_
         rintro e w26 ⟨rfl, b26⟩
         replace bb := below_next bb b26
         replace K0 := hide (block_kept b26 (unhide K0))
         replace BW := hide ((unhide BW).trans (b26.mono (unhide BW).size))
         replace BT := hide (block_kept b26 (unhide BT))
         replace VX := hide (block_kept b26 (unhide VX))
         replace BG := hide (block_kept b26 (unhide BG))
         replace GM := hide ((unhide GM).below b26)
         replace H0 := hide ((unhide H0).below b26)
         replace BH := hide (block_kept b26 (unhide BH))
         have zb26 := b26.size
         clear b26
         go_wp2_with fail
         go_ret
         exact ⟨rfl, bb⟩
end Go.Proofs.Ytjgfljndeolmoaa
