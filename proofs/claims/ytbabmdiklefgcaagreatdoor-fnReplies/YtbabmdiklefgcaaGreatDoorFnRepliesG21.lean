/-
  Contract of the specification's l4bent.
-/
import Derived.Test.YtbabmdiklefgcaaGreatDoorFnRepliesG17
import Derived.Test.YtbabmdiklefgcaaGreatDoorFnRepliesG19
import Derived.Test.YtbabmdiklefgcaaGreatDoorFnRepliesG20
import Derived.Deep.Cut
namespace Go.Proofs.YtbabmdiklefgcaaGreatDoor
open Go.RowKit
set_option linter.unusedVariables false

def moreN (w : World) (b : Nat) : Nat := match w.cell? ⟨b, 8, none⟩ with
 | some (.slice _ n _) => n
 | _ => 0
theorem moreN_is {w : World} {b n c : Nat} {a : Option Addr} (h : w.cell? ⟨b, 8, none⟩ = some (.slice a n c)) : moreN w b = n := by unfold moreN; rw [h]
theorem info_QueD : (Tryz.prog.info? 39).map (fun i => (i.zero, i.size, i.bytes)) = some (some (.agg #[.slice none 0 0, .int .i64 0]), 2, 32) := by kernel_rfl
def DrawnMw (w : World) (g : Nat) (a : Option Addr) (len cap : Nat) (e : Ending) (w' : World) : Prop :=
 ∃ vq va vb vm vp vu B, ∃ m : Mg, e = .returned (.agg #[.int .i64 m.id, .bool m.reply, .int .i64 m.op, .bool m.auth, .int .i64 m.code, vq, va, vb, vm, vp, vu]) ∧ DrawMw B w' vq va vb vm vp vu m ∧ CurX w w' g a len cap
set_option maxHeartbeats 4000000 in
set_option maxRecDepth 100000 in
theorem l4bent_any {g : Nat} {a : Option Addr} {len cap : Nat} {w : World} (hc : Cur w g a len cap) (hL : Code w g a len) (hm : len ≤ maxLen) :
  Calls Tryz.prog 12 #[.pointer (some ⟨g, 0, none⟩)] w (DrawnMw w g a len cap) := by
 have hg := hc.lt
 have HM := UC hm
 have X0 := CurX.start hc hL
 have ba := UI (w := w) (.cells #[.int .i64 0, .bool false, .int .i64 0, .bool false, .int .i64 0, .slice none 0 0, .slice none 0 0, .slice none 0 0, .slice none 0 0, .slice none 0 0, .slice none 0 0] 27)
 have KB := UC (heap_alloc_new w (.cells #[.int .i64 0, .bool false, .int .i64 0, .bool false, .int .i64 0, .slice none 0 0, .slice none 0 0, .slice none 0 0, .slice none 0 0, .slice none 0 0, .slice none 0 0] 27))
 have X := UC (X0.below ba)
 have zb := VC (UB KB)
 clear hc hL hm X0 ba
 go_enter Tryz.func12, Tryz.ntmps12
 go_wp2_with fail
 generalize w.alloc (.cells #[.int .i64 0, .bool false, .int .i64 0, .bool false, .int .i64 0, .slice none 0 0, .slice none 0 0, .slice none 0 0, .slice none 0 0, .slice none 0 0, .slice none 0 0] 27) = W at *
 refine (l4draw_any (UB X).cur (UB X).code (UB HM)).mono ?_
 rintro e w1 ⟨vq, va, vb, vm, vp, vu, s1, s2, s3, m, rfl, dm, hq1, hl, cx⟩
 obtain ⟨xq, yq, rfl, _⟩ := dm.qs.form
 obtain ⟨xa, ya, rfl, _⟩ := dm.ans.form
 obtain ⟨xb, yb, rfl, _⟩ := dm.aus.form
 obtain ⟨xm, ym, rfl, _⟩ := dm.more.form
 obtain ⟨xp, yp, rfl, _⟩ := dm.pres.form
 obtain ⟨xu, yu, rfl, _⟩ := dm.ups.form
 have HQ1 := UC hq1
 obtain ⟨hla, hlm, hlu⟩ := hl
 clear hq1
 have z1 := cx.grown.size
 replace KB := UC (block_grown cx.grown (UB KB) (by simp; omega))
 have X1 : CurX w w1 g a len cap := ⟨cx.cur, cx.code, grown_trans (UB X).grown cx.grown, (UB X).lt⟩
 replace X := UC X1
 have DM := UC dm
 clear dm cx X1
 have KR := UC (heap_alloc_new w1 (.cells #[.int .i64 m.id, .bool m.reply, .int .i64 m.op, .bool m.auth, .int .i64 m.code, .slice xq m.qs.length yq, .slice xa m.ans.length ya, .slice xb m.aus.length yb, .slice xm m.more.length ym, .slice xp m.pres.length yp, .slice xu m.ups.length yu] 27))
 have ba := UI (w := w1) (.cells #[.int .i64 m.id, .bool m.reply, .int .i64 m.op, .bool m.auth, .int .i64 m.code, .slice xq m.qs.length yq, .slice xa m.ans.length ya, .slice xb m.aus.length yb, .slice xm m.more.length ym, .slice xp m.pres.length yp, .slice xu m.ups.length yu] 27)
 replace X := UC ((UB X).below ba)
 replace KB := UC (UE ba (UB KB))
 replace DM := UC ((UB DM).below ba)
 have zr := VC (UB KR)
 clear ba
 go_wp2_with fail
 generalize w1.alloc (.cells #[.int .i64 m.id, .bool m.reply, .int .i64 m.op, .bool m.auth, .int .i64 m.code, .slice xq m.qs.length yq, .slice xa m.ans.length ya, .slice xb m.aus.length yb, .slice xm m.more.length ym, .slice xp m.pres.length yp, .slice xu m.ups.length yu] 27) = W2 at *
 refine (l1Once_any 7 (UB X).cur (UB X).code (UB HM) (by omega) (by omega)).mono ?_
 rintro e w3 ⟨bent, rfl, c1, g1⟩
 replace DM := UC ((UB DM).cur (UB X).cur g1)
 replace KB := UC (block_grown g1 (UB KB) (by simp; omega))
 replace KR := UC (block_grown g1 (UB KR) (by simp; omega))
 replace X := UC ((UB X).step c1 g1)
 have zg1 := g1.size
 clear c1 g1
 cases bent
 ·-- as it was drawn
  obtain ⟨d0, d1, d2, d3, d4, d5, d6, d7, d8, d9, d10⟩ := cells11 (UB KR)
  obtain ⟨p0, p1, p2, p3, p4, p5, p6, p7, p8, p9, p10⟩ := cells11 (UB KB)
  obtain ⟨f0, f1, f2, f3, f4, f5, f6, f7, f8, f9, f10⟩ := frozen11 (UB KB)
  go_wp2_with fail
  clear d0 d1 d2 d3 d4 d5 d6 d7 d8 d9 d10 f0 f1 f2 f3 f4 f5 f6 f7 f8 f9 f10 p0 p1 p2 p3 p4 p5 p6 p7 p8 p9 p10
  have gf := set11_grown (c0 := .int .i64 m.id) (c1 := .bool m.reply) (c2 := .int .i64 m.op) (c3 := .bool m.auth) (c4 := .int .i64 m.code) (c5 := .slice xq m.qs.length yq) (c6 := .slice xa m.ans.length ya) (c7 := .slice xb m.aus.length yb) (c8 := .slice xm m.more.length ym) (c9 := .slice xp m.pres.length yp) (c10 := .slice xu m.ups.length yu) (UB KB)
  have kf := (set11_is (c0 := .int .i64 m.id) (c1 := .bool m.reply) (c2 := .int .i64 m.op) (c3 := .bool m.auth) (c4 := .int .i64 m.code) (c5 := .slice xq m.qs.length yq) (c6 := .slice xa m.ans.length ya) (c7 := .slice xb m.aus.length yb) (c8 := .slice xm m.more.length ym) (c9 := .slice xp m.pres.length yp) (c10 := .slice xu m.ups.length yu) (UB KB)).1
  have DF := ((UB DM).weak).off (UB KB) (by decide) gf
  have XF := (UB X).row gf (fun j e => by cases e; exact Nat.le_refl _)
  unfold set11 at gf kf DF XF
  refine bodyPost_ret (results_cell_row rfl _ _ w.heap.size 27 #[.int .i64 m.id, .bool m.reply, .int .i64 m.op, .bool m.auth, .int .i64 m.code, .slice xq m.qs.length yq, .slice xa m.ans.length ya, .slice xb m.aus.length yb, .slice xm m.more.length ym, .slice xp m.pres.length yp, .slice xu m.ups.length yu] (0, 0) _ rfl kf Tryz.underlying27 rfl (by kernel_rfl)) rfl ?_
  exact ⟨_, _, _, _, _, _, _, m, rfl, DF, XF⟩
 ·-- bent
  go_wp2_with fail
  refine (l1Below_any 7 (UB X).cur (UB X).code (UB HM) (by omega) (by omega)).mono ?_
  rintro e w4 ⟨y, rfl, hy0, hy1, c1, g1⟩
  replace DM := UC ((UB DM).cur (UB X).cur g1)
  replace KB := UC (block_grown g1 (UB KB) (by simp; omega))
  replace KR := UC (block_grown g1 (UB KR) (by simp; omega))
  replace X := UC ((UB X).step c1 g1)
  have zg1 := g1.size
  clear c1 g1
  by_cases e0 : y = 0
  ·subst e0
   have KZ := UC (heap_alloc_new w4 (.cells #[.int .i64 (-1), .int .i64 65536] 3))
   have bz := UI (w := w4) (.cells #[.int .i64 (-1), .int .i64 65536] 3)
   replace X := UC ((UB X).below bz)
   replace DM := UC ((UB DM).below bz)
   replace KB := UC (UE bz (UB KB))
   replace KR := UC (UE bz (UB KR))
   have zz := VC (UB KZ)
   have zb5 := bz.size
   clear bz
   obtain ⟨d0, d1, d2, d3, d4, d5, d6, d7, d8, d9, d10⟩ := cells11 (UB KR)
   obtain ⟨f0, f1, f2, f3, f4, f5, f6, f7, f8, f9, f10⟩ := frozen11 (UB KR)
   go_wp2_with fail
   clear d0 d1 d2 d3 d4 d5 d6 d7 d8 d9 d10 f0 f1 f2 f3 f4 f5 f6 f7 f8 f9 f10
   generalize hW5 : w4.alloc (.cells #[.int .i64 (-1), .int .i64 65536] 3) = W5 at *
   refine (l1PickInt_any w4.heap.size 2 (UB X).cur (UB X).code (UB HM) (by omega) (by omega) zz (by omega) (fun j hj => by match j, hj with | 0, _ => exact ⟨_, VE (UB KZ) 0⟩ | 1, _ => exact ⟨_, VE (UB KZ) 1⟩)).mono ?_
   rintro e w6 ⟨z, rfl, c1, g1⟩
   clear KZ zz
   replace DM := UC ((UB DM).cur (UB X).cur g1)
   replace KB := UC (block_grown g1 (UB KB) (by simp; omega))
   replace KR := UC (block_grown g1 (UB KR) (by simp; omega))
   replace X := UC ((UB X).step c1 g1)
   have zg1 := g1.size
   clear c1 g1
   clear hW5
   obtain ⟨d0, d1, d2, d3, d4, d5, d6, d7, d8, d9, d10⟩ := cells11 (UB KR)
   obtain ⟨f0, f1, f2, f3, f4, f5, f6, f7, f8, f9, f10⟩ := frozen11 (UB KR)
   go_upto_region 18 with fail
   clear d0 d1 d2 d3 d4 d5 d6 d7 d8 d9 d10 f0 f1 f2 f3 f4 f5 f6 f7 f8 f9 f10
   have gs := grown_setCell w6 ⟨w1.heap.size, 0, none⟩ (.int .i64 z)
   replace DM := UC (((UB DM).off (UB KR) (by decide) gs).heads z m.op m.code m.reply m.auth)
   replace X := UC ((UB X).row gs (fun j e => by cases e; show w.heap.size ≤ w1.heap.size; omega))
   replace KB := UC (block_grown gs (UB KB) (by simp; omega))
   have KR2 : Hid ((w6.setCell ⟨w1.heap.size, 0, none⟩ (.int .i64 z)).heap[w1.heap.size]? = some (.cells #[.int .i64 z, .bool m.reply, .int .i64 m.op, .bool m.auth, .int .i64 m.code, .slice xq m.qs.length yq, .slice xa m.ans.length ya, .slice xb m.aus.length yb, .slice xm m.more.length ym, .slice xp m.pres.length yp, .slice xu m.ups.length yu] 27)) := UC (UV (UB KR) 0 _)
   replace KR := KR2
   clear gs KR2
   generalize w6.setCell ⟨w1.heap.size, 0, none⟩ (.int .i64 z) = W7 at *
   obtain ⟨d0, d1, d2, d3, d4, d5, d6, d7, d8, d9, d10⟩ := cells11 (UB KR)
   obtain ⟨p0, p1, p2, p3, p4, p5, p6, p7, p8, p9, p10⟩ := cells11 (UB KB)
   obtain ⟨f0, f1, f2, f3, f4, f5, f6, f7, f8, f9, f10⟩ := frozen11 (UB KB)
   go_wp2_with fail
   clear d0 d1 d2 d3 d4 d5 d6 d7 d8 d9 d10 f0 f1 f2 f3 f4 f5 f6 f7 f8 f9 f10 p0 p1 p2 p3 p4 p5 p6 p7 p8 p9 p10
   have gf := set11_grown (c0 := .int .i64 z) (c1 := .bool m.reply) (c2 := .int .i64 m.op) (c3 := .bool m.auth) (c4 := .int .i64 m.code) (c5 := .slice xq m.qs.length yq) (c6 := .slice xa m.ans.length ya) (c7 := .slice xb m.aus.length yb) (c8 := .slice xm m.more.length ym) (c9 := .slice xp m.pres.length yp) (c10 := .slice xu m.ups.length yu) (UB KB)
   have kf := (set11_is (c0 := .int .i64 z) (c1 := .bool m.reply) (c2 := .int .i64 m.op) (c3 := .bool m.auth) (c4 := .int .i64 m.code) (c5 := .slice xq m.qs.length yq) (c6 := .slice xa m.ans.length ya) (c7 := .slice xb m.aus.length yb) (c8 := .slice xm m.more.length ym) (c9 := .slice xp m.pres.length yp) (c10 := .slice xu m.ups.length yu) (UB KB)).1
   have DF := ((UB DM).weak).off (UB KB) (by decide) gf
   have XF := (UB X).row gf (fun j e => by cases e; exact Nat.le_refl _)
   unfold set11 at gf kf DF XF
   refine bodyPost_ret (results_cell_row rfl _ _ w.heap.size 27 #[.int .i64 z, .bool m.reply, .int .i64 m.op, .bool m.auth, .int .i64 m.code, .slice xq m.qs.length yq, .slice xa m.ans.length ya, .slice xb m.aus.length yb, .slice xm m.more.length ym, .slice xp m.pres.length yp, .slice xu m.ups.length yu] (0, 0) _ rfl kf Tryz.underlying27 rfl (by kernel_rfl)) rfl ?_
   exact ⟨_, _, _, _, _, _, _, ⟨z, m.reply, m.op, m.auth, m.code, m.qs, m.ans, m.aus, m.more, m.pres, m.ups⟩, rfl, DF, XF⟩
  by_cases e1 : y = 1
  ·subst e1
   have KZ := UC (heap_alloc_new w4 (.cells #[.int .i64 1, .int .i64 5, .int .i64 (-1), .int .i64 0] 3))
   have bz := UI (w := w4) (.cells #[.int .i64 1, .int .i64 5, .int .i64 (-1), .int .i64 0] 3)
   replace X := UC ((UB X).below bz)
   replace DM := UC ((UB DM).below bz)
   replace KB := UC (UE bz (UB KB))
   replace KR := UC (UE bz (UB KR))
   have zz := VC (UB KZ)
   have zb5 := bz.size
   clear bz
   obtain ⟨d0, d1, d2, d3, d4, d5, d6, d7, d8, d9, d10⟩ := cells11 (UB KR)
   obtain ⟨f0, f1, f2, f3, f4, f5, f6, f7, f8, f9, f10⟩ := frozen11 (UB KR)
   go_wp2_with fail
   clear d0 d1 d2 d3 d4 d5 d6 d7 d8 d9 d10 f0 f1 f2 f3 f4 f5 f6 f7 f8 f9 f10
   generalize hW5 : w4.alloc (.cells #[.int .i64 1, .int .i64 5, .int .i64 (-1), .int .i64 0] 3) = W5 at *
   refine (l1PickInt_any w4.heap.size 4 (UB X).cur (UB X).code (UB HM) (by omega) (by omega) zz (by omega) (fun j hj => by match j, hj with | 0, _ => exact ⟨_, VE (UB KZ) 0⟩ | 1, _ => exact ⟨_, VE (UB KZ) 1⟩ | 2, _ => exact ⟨_, VE (UB KZ) 2⟩ | 3, _ => exact ⟨_, VE (UB KZ) 3⟩)).mono ?_
   rintro e w6 ⟨z, rfl, c1, g1⟩
   clear KZ zz
   replace DM := UC ((UB DM).cur (UB X).cur g1)
   replace KB := UC (block_grown g1 (UB KB) (by simp; omega))
   replace KR := UC (block_grown g1 (UB KR) (by simp; omega))
   replace X := UC ((UB X).step c1 g1)
   have zg1 := g1.size
   clear c1 g1
   clear hW5
   obtain ⟨d0, d1, d2, d3, d4, d5, d6, d7, d8, d9, d10⟩ := cells11 (UB KR)
   obtain ⟨f0, f1, f2, f3, f4, f5, f6, f7, f8, f9, f10⟩ := frozen11 (UB KR)
   go_upto_region 18 with fail
   clear d0 d1 d2 d3 d4 d5 d6 d7 d8 d9 d10 f0 f1 f2 f3 f4 f5 f6 f7 f8 f9 f10
   have gs := grown_setCell w6 ⟨w1.heap.size, 2, none⟩ (.int .i64 z)
   replace DM := UC (((UB DM).off (UB KR) (by decide) gs).heads m.id z m.code m.reply m.auth)
   replace X := UC ((UB X).row gs (fun j e => by cases e; show w.heap.size ≤ w1.heap.size; omega))
   replace KB := UC (block_grown gs (UB KB) (by simp; omega))
   have KR2 : Hid ((w6.setCell ⟨w1.heap.size, 2, none⟩ (.int .i64 z)).heap[w1.heap.size]? = some (.cells #[.int .i64 m.id, .bool m.reply, .int .i64 z, .bool m.auth, .int .i64 m.code, .slice xq m.qs.length yq, .slice xa m.ans.length ya, .slice xb m.aus.length yb, .slice xm m.more.length ym, .slice xp m.pres.length yp, .slice xu m.ups.length yu] 27)) := UC (UV (UB KR) 2 _)
   replace KR := KR2
   clear gs KR2
   generalize w6.setCell ⟨w1.heap.size, 2, none⟩ (.int .i64 z) = W7 at *
   obtain ⟨d0, d1, d2, d3, d4, d5, d6, d7, d8, d9, d10⟩ := cells11 (UB KR)
   obtain ⟨p0, p1, p2, p3, p4, p5, p6, p7, p8, p9, p10⟩ := cells11 (UB KB)
   obtain ⟨f0, f1, f2, f3, f4, f5, f6, f7, f8, f9, f10⟩ := frozen11 (UB KB)
   go_wp2_with fail
   clear d0 d1 d2 d3 d4 d5 d6 d7 d8 d9 d10 f0 f1 f2 f3 f4 f5 f6 f7 f8 f9 f10 p0 p1 p2 p3 p4 p5 p6 p7 p8 p9 p10
   have gf := set11_grown (c0 := .int .i64 m.id) (c1 := .bool m.reply) (c2 := .int .i64 z) (c3 := .bool m.auth) (c4 := .int .i64 m.code) (c5 := .slice xq m.qs.length yq) (c6 := .slice xa m.ans.length ya) (c7 := .slice xb m.aus.length yb) (c8 := .slice xm m.more.length ym) (c9 := .slice xp m.pres.length yp) (c10 := .slice xu m.ups.length yu) (UB KB)
   have kf := (set11_is (c0 := .int .i64 m.id) (c1 := .bool m.reply) (c2 := .int .i64 z) (c3 := .bool m.auth) (c4 := .int .i64 m.code) (c5 := .slice xq m.qs.length yq) (c6 := .slice xa m.ans.length ya) (c7 := .slice xb m.aus.length yb) (c8 := .slice xm m.more.length ym) (c9 := .slice xp m.pres.length yp) (c10 := .slice xu m.ups.length yu) (UB KB)).1
   have DF := ((UB DM).weak).off (UB KB) (by decide) gf
   have XF := (UB X).row gf (fun j e => by cases e; exact Nat.le_refl _)
   unfold set11 at gf kf DF XF
   refine bodyPost_ret (results_cell_row rfl _ _ w.heap.size 27 #[.int .i64 m.id, .bool m.reply, .int .i64 z, .bool m.auth, .int .i64 m.code, .slice xq m.qs.length yq, .slice xa m.ans.length ya, .slice xb m.aus.length yb, .slice xm m.more.length ym, .slice xp m.pres.length yp, .slice xu m.ups.length yu] (0, 0) _ rfl kf Tryz.underlying27 rfl (by kernel_rfl)) rfl ?_
   exact ⟨_, _, _, _, _, _, _, ⟨m.id, m.reply, z, m.auth, m.code, m.qs, m.ans, m.aus, m.more, m.pres, m.ups⟩, rfl, DF, XF⟩
  by_cases e2 : y = 2
  ·subst e2
   have KZ := UC (heap_alloc_new w4 (.cells #[.int .i64 (-1), .int .i64 11, .int .i64 10] 3))
   have bz := UI (w := w4) (.cells #[.int .i64 (-1), .int .i64 11, .int .i64 10] 3)
   replace X := UC ((UB X).below bz)
   replace DM := UC ((UB DM).below bz)
   replace KB := UC (UE bz (UB KB))
   replace KR := UC (UE bz (UB KR))
   have zz := VC (UB KZ)
   have zb5 := bz.size
   clear bz
   obtain ⟨d0, d1, d2, d3, d4, d5, d6, d7, d8, d9, d10⟩ := cells11 (UB KR)
   obtain ⟨f0, f1, f2, f3, f4, f5, f6, f7, f8, f9, f10⟩ := frozen11 (UB KR)
   go_wp2_with fail
   clear d0 d1 d2 d3 d4 d5 d6 d7 d8 d9 d10 f0 f1 f2 f3 f4 f5 f6 f7 f8 f9 f10
   generalize hW5 : w4.alloc (.cells #[.int .i64 (-1), .int .i64 11, .int .i64 10] 3) = W5 at *
   refine (l1PickInt_any w4.heap.size 3 (UB X).cur (UB X).code (UB HM) (by omega) (by omega) zz (by omega) (fun j hj => by match j, hj with | 0, _ => exact ⟨_, VE (UB KZ) 0⟩ | 1, _ => exact ⟨_, VE (UB KZ) 1⟩ | 2, _ => exact ⟨_, VE (UB KZ) 2⟩)).mono ?_
   rintro e w6 ⟨z, rfl, c1, g1⟩
   clear KZ zz
   replace DM := UC ((UB DM).cur (UB X).cur g1)
   replace KB := UC (block_grown g1 (UB KB) (by simp; omega))
   replace KR := UC (block_grown g1 (UB KR) (by simp; omega))
   replace X := UC ((UB X).step c1 g1)
   have zg1 := g1.size
   clear c1 g1
   clear hW5
   obtain ⟨d0, d1, d2, d3, d4, d5, d6, d7, d8, d9, d10⟩ := cells11 (UB KR)
   obtain ⟨f0, f1, f2, f3, f4, f5, f6, f7, f8, f9, f10⟩ := frozen11 (UB KR)
   go_upto_region 18 with fail
   clear d0 d1 d2 d3 d4 d5 d6 d7 d8 d9 d10 f0 f1 f2 f3 f4 f5 f6 f7 f8 f9 f10
   have gs := grown_setCell w6 ⟨w1.heap.size, 4, none⟩ (.int .i64 z)
   replace DM := UC (((UB DM).off (UB KR) (by decide) gs).heads m.id m.op z m.reply m.auth)
   replace X := UC ((UB X).row gs (fun j e => by cases e; show w.heap.size ≤ w1.heap.size; omega))
   replace KB := UC (block_grown gs (UB KB) (by simp; omega))
   have KR2 : Hid ((w6.setCell ⟨w1.heap.size, 4, none⟩ (.int .i64 z)).heap[w1.heap.size]? = some (.cells #[.int .i64 m.id, .bool m.reply, .int .i64 m.op, .bool m.auth, .int .i64 z, .slice xq m.qs.length yq, .slice xa m.ans.length ya, .slice xb m.aus.length yb, .slice xm m.more.length ym, .slice xp m.pres.length yp, .slice xu m.ups.length yu] 27)) := UC (UV (UB KR) 4 _)
   replace KR := KR2
   clear gs KR2
   generalize w6.setCell ⟨w1.heap.size, 4, none⟩ (.int .i64 z) = W7 at *
   obtain ⟨d0, d1, d2, d3, d4, d5, d6, d7, d8, d9, d10⟩ := cells11 (UB KR)
   obtain ⟨p0, p1, p2, p3, p4, p5, p6, p7, p8, p9, p10⟩ := cells11 (UB KB)
   obtain ⟨f0, f1, f2, f3, f4, f5, f6, f7, f8, f9, f10⟩ := frozen11 (UB KB)
   go_wp2_with fail
   clear d0 d1 d2 d3 d4 d5 d6 d7 d8 d9 d10 f0 f1 f2 f3 f4 f5 f6 f7 f8 f9 f10 p0 p1 p2 p3 p4 p5 p6 p7 p8 p9 p10
   have gf := set11_grown (c0 := .int .i64 m.id) (c1 := .bool m.reply) (c2 := .int .i64 m.op) (c3 := .bool m.auth) (c4 := .int .i64 z) (c5 := .slice xq m.qs.length yq) (c6 := .slice xa m.ans.length ya) (c7 := .slice xb m.aus.length yb) (c8 := .slice xm m.more.length ym) (c9 := .slice xp m.pres.length yp) (c10 := .slice xu m.ups.length yu) (UB KB)
   have kf := (set11_is (c0 := .int .i64 m.id) (c1 := .bool m.reply) (c2 := .int .i64 m.op) (c3 := .bool m.auth) (c4 := .int .i64 z) (c5 := .slice xq m.qs.length yq) (c6 := .slice xa m.ans.length ya) (c7 := .slice xb m.aus.length yb) (c8 := .slice xm m.more.length ym) (c9 := .slice xp m.pres.length yp) (c10 := .slice xu m.ups.length yu) (UB KB)).1
   have DF := ((UB DM).weak).off (UB KB) (by decide) gf
   have XF := (UB X).row gf (fun j e => by cases e; exact Nat.le_refl _)
   unfold set11 at gf kf DF XF
   refine bodyPost_ret (results_cell_row rfl _ _ w.heap.size 27 #[.int .i64 m.id, .bool m.reply, .int .i64 m.op, .bool m.auth, .int .i64 z, .slice xq m.qs.length yq, .slice xa m.ans.length ya, .slice xb m.aus.length yb, .slice xm m.more.length ym, .slice xp m.pres.length yp, .slice xu m.ups.length yu] (0, 0) _ rfl kf Tryz.underlying27 rfl (by kernel_rfl)) rfl ?_
   exact ⟨_, _, _, _, _, _, _, ⟨m.id, m.reply, m.op, m.auth, z, m.qs, m.ans, m.aus, m.more, m.pres, m.ups⟩, rfl, DF, XF⟩
  by_cases e3 : y = 3
  ·subst e3
   go_upto_region 13 with fail
   have bd := UX (w := w4)
   replace X := UC ((UB X).below bd)
   replace KB := UC (UE bd (UB KB))
   replace KR := UC (UE bd (UB KR))
   replace DM := UC ((UB DM).below bd)
   have zd := bd.size
   clear bd
   have hq0 : 0 < m.qs.length := by rw [UB HQ1]; decide
   have hq20 : m.qs.length ≤ 20 := by rw [UB HQ1]; decide
   obtain ⟨qb, qvs, hxq, hqb, hqr, qv, rfl, hqo⟩ := RowDr.here drawnQu (UB DM).qs hq0
   subst hxq
   obtain ⟨na, nc, rfl, _⟩ := hqo.hasL.form
   rw [Nat.zero_mul] at hqr
   generalize m.qs.getD 0 queZ = qq at *
   have HQR := UC (range2 hqr)
   have HQO := UC hqo
   clear hqr hqo
   refine startC [0, 1, 2, 3, 4, 5, 6, 7, 8, 9] (by kernel_rfl) ⟨by kernel_rfl, by kernel_rfl, by kernel_rfl, by kernel_rfl⟩ 8 [(1, fun w' => w'.cell? ⟨w1.heap.size, 5, none⟩ = some (.slice (some ⟨qb, 0, none⟩) m.qs.length yq)), (3, fun w' => w'.cell? ⟨w1.heap.size, 5, none⟩ = some (.slice (some ⟨qb, 0, none⟩) m.qs.length yq)), (5, fun w' => (fun w' => w'.cell? ⟨qb, 0, none⟩ = some (.slice na qq.name.length nc) ∧ w'.cell? ⟨qb, 0 + 1, none⟩ = some (.int .i64 qq.type)) w')] (fun hA => ?_)
   replace hA := UC hA
   generalize hWD : w4.drew = WD at *
   clear hWD
   repeat ((first | (refine VN ?_ (UB hA) rfl rfl rfl (by rfl) (fun _ _ _ h => h) ?_ ?_; rotate_left; · (intro w; go_simp <;> with_reducible rfl)) | refine VM (UB hA) rfl rfl (by rfl) (fun _ _ _ h => h) ?_); go_simp)
   refine takeC ?_ (UB hA) rfl rfl rfl (by rfl) (fun _ _ _ h => h) (.head _) (cells11 (UB KR)).2.2.2.2.2.1 ?_ ?_; rotate_left; (· (intro w hSw; (try dsimp only at hSw); go_simp <;> with_reducible rfl)); go_simp
   repeat ((first | (refine VN ?_ (UB hA) rfl rfl rfl (by rfl) (fun _ _ _ h => h) ?_ ?_; rotate_left; · (intro w; go_simp <;> with_reducible rfl)) | refine VM (UB hA) rfl rfl (by rfl) (fun _ _ _ h => h) ?_); go_simp)
   refine takeC ?_ (UB hA) rfl rfl rfl (by rfl) (fun _ _ _ h => h) (.tail _ (.head _)) (cells11 (UB KR)).2.2.2.2.2.1 ?_ ?_; rotate_left; (· (intro w hSw; (try dsimp only at hSw); go_simp <;> with_reducible rfl)); go_simp
   repeat ((first | (refine VN ?_ (UB hA) rfl rfl rfl (by rfl) (fun _ _ _ h => h) ?_ ?_; rotate_left; · (intro w; go_simp <;> with_reducible rfl)) | refine VM (UB hA) rfl rfl (by rfl) (fun _ _ _ h => h) ?_); go_simp)
   refine takeC ?_ (UB hA) rfl rfl rfl (by rfl) (fun _ _ _ h => h) (.tail _ (.tail _ (.head _))) (UB HQR) ?_ ?_; rotate_left; (· (intro w hSw; (try dsimp only at hSw); go_simp <;> with_reducible rfl)); go_simp
   repeat ((first | (refine VN ?_ (UB hA) rfl rfl rfl (by rfl) (fun _ _ _ h => h) ?_ ?_; rotate_left; · (intro w; go_simp <;> with_reducible rfl)) | refine VM (UB hA) rfl rfl (by rfl) (fun _ _ _ h => h) ?_); go_simp)
   refine runC (UB hA) rfl rfl (by kernel_rfl) (by kernel_rfl) (fun K hK => ?_)
   have HK := UC hK
   clear hK
   go_simp
   have KG := UC (heap_alloc_new WD (.cells #[.slice na qq.name.length nc, .int .i64 qq.type] 39))
   have bg := UI (w := WD) (.cells #[.slice na qq.name.length nc, .int .i64 qq.type] 39)
   replace X := UC ((UB X).below bg)
   replace DM := UC ((UB DM).below bg)
   replace KB := UC (UE bg (UB KB))
   replace KR := UC (UE bg (UB KR))
   replace HQO := UC ((UB HQO).below bg)
   have zg := bg.size
   clear bg
   refine (UB HK).out _ _ (keepC_yes (cells11 (UB KR)).2.2.2.2.2.1 (VB (by kernel_rfl) (VB (by kernel_rfl) VL))) ?_
   clear HK K
   go_simp
   obtain ⟨cs0, hx0⟩ := (UB DM).qs.own
   refine runC (UB hA) rfl rfl (by kernel_rfl) (by kernel_rfl) (fun K hK => ?_)
   have HK := UC hK
   clear hK
   refine append_oneW _ _ 23 39 rfl Tryz.underlying23 _ 2 32 (by omega) (by omega) info_QueD rfl W.heap.size (.slice (some ⟨qb, 0, none⟩) m.qs.length yq) m.qs.length rfl WD.heap.size [.slice na qq.name.length nc, .int .i64 qq.type] rfl ⟨cs0, hx0⟩ (UB KG) rfl (by simp [Value.oneCell']) (by first | omega | simp) (by omega) ?_
   intro v8 u4 h8 g8 hw8
   have DM8 := (UB DM).snocQ (vs := [.slice na qq.name.length nc, .int .i64 qq.type]) (x := qq) ⟨_, rfl, UB HQO⟩ g8 h8
   have X8 := (UB X).row g8 (fun j e => by have := (World.ownsRow.lt hx0 j e).1; omega)
   have KR8 := UC (RowDr.keep (UB DM).qs g8 (UB KR) (by decide))
   have KB8 := RowDr.keep (UB DM).qs g8 (UB KB) (by decide)
   obtain ⟨q1, q2, hv, _⟩ := DM8.qs.form
   have hl8 : (m.qs ++ [qq]).length = m.qs.length + 1 := by simp
   replace hv : v8 = .slice q1 (m.qs.length + 1) q2 := hv.trans (by show Value.slice q1 (m.qs ++ [qq]).length q2 = _; rw [hl8])
   subst hv
   clear hl8
   replace DM := UC DM8
   replace X := UC X8
   replace KB := UC KB8
   obtain ⟨d0, d1, d2, d3, d4, d5, d6, d7, d8, d9, d10⟩ := cells11 (UB KR8)
   obtain ⟨f0, f1, f2, f3, f4, f5, f6, f7, f8, f9, f10⟩ := frozen11 (UB KR8)
   clear hx0 h8 g8 hw8 DM8 X8 KB8 KG KR HQO HQR
   refine (UB HK).out _ _ (VB (by kernel_rfl) (VB (by kernel_rfl) (VB (by kernel_rfl) VL))) ?_
   clear HK K
   go_simp
   repeat ((first | (refine VN ?_ (UB hA) rfl rfl rfl (by rfl) (fun _ _ _ h => h) ?_ ?_; rotate_left; · (intro w; go_simp <;> with_reducible rfl)) | refine VM (UB hA) rfl rfl (by rfl) (fun _ _ _ h => h) ?_); go_simp)
   refine runC (UB hA) rfl rfl (by kernel_rfl) (by kernel_rfl) (fun K hK => ?_)
   have HK := UC hK
   clear hK
   go_simp
   refine (UB HK).out _ _ (VB (by kernel_rfl) (VB (by kernel_rfl) (VB (by kernel_rfl) VL))) ?_
   clear HK K
   go_simp
   refine doneC (UB hA) rfl ?_
   clear hA
   clear d0 d1 d2 d3 d4 d5 d6 d7 d8 d9 d10 f0 f1 f2 f3 f4 f5 f6 f7 f8 f9 f10
   have gs := grown_setCell u4 ⟨w1.heap.size, 5, none⟩ (.slice q1 (m.qs.length + 1) q2)
   replace DM := UC ((UB DM).off (UB KR8) (by decide) gs)
   replace X := UC ((UB X).row gs (fun j e => by cases e; show w.heap.size ≤ w1.heap.size; omega))
   replace KB := UC (block_grown gs (UB KB) (by simp; omega))
   have KR := UC (UV (UB KR8) 5 (.slice q1 (m.qs.length + 1) q2))
   clear gs KR8
   generalize u4.setCell ⟨w1.heap.size, 5, none⟩ (.slice q1 (m.qs.length + 1) q2) = WE at *
   obtain ⟨d0, d1, d2, d3, d4, d5, d6, d7, d8, d9, d10⟩ := cells11 (UB KR)
   obtain ⟨p0, p1, p2, p3, p4, p5, p6, p7, p8, p9, p10⟩ := cells11 (UB KB)
   obtain ⟨f0, f1, f2, f3, f4, f5, f6, f7, f8, f9, f10⟩ := frozen11 (UB KB)
   go_wp2_with fail
   clear d0 d1 d2 d3 d4 d5 d6 d7 d8 d9 d10 f0 f1 f2 f3 f4 f5 f6 f7 f8 f9 f10 p0 p1 p2 p3 p4 p5 p6 p7 p8 p9 p10
   have gf := set11_grown (c0 := .int .i64 m.id) (c1 := .bool m.reply) (c2 := .int .i64 m.op) (c3 := .bool m.auth) (c4 := .int .i64 m.code) (c5 := .slice q1 (m.qs.length + 1) q2) (c6 := .slice xa m.ans.length ya) (c7 := .slice xb m.aus.length yb) (c8 := .slice xm m.more.length ym) (c9 := .slice xp m.pres.length yp) (c10 := .slice xu m.ups.length yu) (UB KB)
   have kf := (set11_is (c0 := .int .i64 m.id) (c1 := .bool m.reply) (c2 := .int .i64 m.op) (c3 := .bool m.auth) (c4 := .int .i64 m.code) (c5 := .slice q1 (m.qs.length + 1) q2) (c6 := .slice xa m.ans.length ya) (c7 := .slice xb m.aus.length yb) (c8 := .slice xm m.more.length ym) (c9 := .slice xp m.pres.length yp) (c10 := .slice xu m.ups.length yu) (UB KB)).1
   have DF := ((UB DM).weak).off (UB KB) (by decide) gf
   have XF := (UB X).row gf (fun j e => by cases e; exact Nat.le_refl _)
   unfold set11 at gf kf DF XF
   refine bodyPost_ret (results_cell_row rfl _ _ w.heap.size 27 #[.int .i64 m.id, .bool m.reply, .int .i64 m.op, .bool m.auth, .int .i64 m.code, .slice q1 (m.qs.length + 1) q2, .slice xa m.ans.length ya, .slice xb m.aus.length yb, .slice xm m.more.length ym, .slice xp m.pres.length yp, .slice xu m.ups.length yu] (0, 0) _ rfl kf Tryz.underlying27 rfl (by kernel_rfl)) rfl ?_
   exact ⟨_, _, _, _, _, _, _, ⟨m.id, m.reply, m.op, m.auth, m.code, m.qs ++ [qq], m.ans, m.aus, m.more, m.pres, m.ups⟩, rfl, DF, XF⟩
  by_cases e4 : y = 4
  ·subst e4
   go_upto_region 15 with fail
   have bd := UX (w := w4)
   replace X := UC ((UB X).below bd)
   replace KB := UC (UE bd (UB KB))
   replace KR := UC (UE bd (UB KR))
   replace DM := UC ((UB DM).below bd)
   have zd := bd.size
   clear bd
   refine startC [0, 1, 2, 3, 4, 5, 6, 7] (by kernel_rfl) ⟨by kernel_rfl, by kernel_rfl, by kernel_rfl, by kernel_rfl⟩ 8 [(1, fun w' => w'.cell? ⟨w1.heap.size, 6, none⟩ = some (.slice xa m.ans.length ya))] (fun hA => ?_)
   replace hA := UC hA
   generalize hWD : w4.drew = WD at *
   clear hWD
   repeat ((first | (refine VN ?_ (UB hA) rfl rfl rfl (by rfl) (fun _ _ _ h => h) ?_ ?_; rotate_left; · (intro w; go_simp <;> with_reducible rfl)) | refine VM (UB hA) rfl rfl (by rfl) (fun _ _ _ h => h) ?_); go_simp)
   refine takeC ?_ (UB hA) rfl rfl rfl (by rfl) (fun _ _ _ h => h) (.head _) (cells11 (UB KR)).2.2.2.2.2.2.1 ?_ ?_; rotate_left; (· (intro w hSw; (try dsimp only at hSw); go_simp <;> with_reducible rfl)); go_simp
   repeat ((first | (refine VN ?_ (UB hA) rfl rfl rfl (by rfl) (fun _ _ _ h => h) ?_ ?_; rotate_left; · (intro w; go_simp <;> with_reducible rfl)) | refine VM (UB hA) rfl rfl (by rfl) (fun _ _ _ h => h) ?_); go_simp)
   refine runC (UB hA) rfl rfl (by kernel_rfl) (by kernel_rfl) (fun K hK => ?_)
   have HK := UC hK
   clear hK
   go_simp
   refine (l3bentQ_any (UB X).cur (UB X).code (UB HM)).mono ?_
   rintro e u1 ⟨vn, vt, vx, vi, r, rfl, dq, _, DR, _, c1, g1⟩
   have H8 := UC dq.2.1
   clear dq
   obtain ⟨p1, p2, rfl, _⟩ := DR.hasR.name.form
   obtain ⟨t1, t2, rfl, _⟩ := DR.hasR.to.form
   obtain ⟨x1, x2, rfl, _⟩ := DR.hasR.text.form
   obtain ⟨i1, i2, rfl, _⟩ := DR.hasR.nums.form
   replace DM := UC ((UB DM).cur (UB X).cur g1)
   replace KB := UC (block_grown g1 (UB KB) (by simp; omega))
   replace KR := UC (block_grown g1 (UB KR) (by simp; omega))
   replace X := UC ((UB X).step c1 g1)
   have zg1 := g1.size
   clear c1 g1
   have DD := UC DR
   clear DR
   refine (UB HK).out _ _ (keepC_yes (cells11 (UB KR)).2.2.2.2.2.2.1 VL) ?_
   clear HK K
   go_simp
   repeat ((first | (refine VN ?_ (UB hA) rfl rfl rfl (by rfl) (fun _ _ _ h => h) ?_ ?_; rotate_left; · (intro w; go_simp <;> with_reducible rfl)) | refine VM (UB hA) rfl rfl (by rfl) (fun _ _ _ h => h) ?_); go_simp)
   refine runC (UB hA) rfl rfl (by kernel_rfl) (by kernel_rfl) (fun K hK => ?_)
   have HK := UC hK
   clear hK
   go_simp
   have KG := UC (heap_alloc_new u1 (.cells #[.slice p1 r.name.length p2, .int .i64 r.type, .int .i64 r.ttl, .int .i64 r.addr, .slice t1 r.to.length t2, .slice x1 r.text.length x2, .slice i1 r.nums.length i2] 63))
   have bg := UI (w := u1) (.cells #[.slice p1 r.name.length p2, .int .i64 r.type, .int .i64 r.ttl, .int .i64 r.addr, .slice t1 r.to.length t2, .slice x1 r.text.length x2, .slice i1 r.nums.length i2] 63)
   replace X := UC ((UB X).below bg)
   replace KB := UC (UE bg (UB KB))
   replace KR := UC (UE bg (UB KR))
   replace DM := UC ((UB DM).below bg)
   replace DD := UC ((UB DD).below bg)
   have zg := bg.size
   clear bg
   refine (UB HK).out _ _ (keepC_yes (cells11 (UB KR)).2.2.2.2.2.2.1 VL) ?_
   clear HK K
   go_simp
   obtain ⟨cs0, hx0⟩ := (UB DM).ans.own
   have db1 := (UB DM).b1
   have db2 := (UB DM).b2
   have db3 := (UB DM).b3
   have db4 := (UB DM).b4
   have db5 := (UB DM).b5
   refine runC (UB hA) rfl rfl (by kernel_rfl) (by kernel_rfl) (fun K hK => ?_)
   have HK := UC hK
   clear hK
   refine append_oneW _ _ 24 63 rfl Tryz.underlying24 _ 7 120 (by omega) (by omega) info_rrD rfl W.heap.size (.slice xa m.ans.length ya) m.ans.length rfl u1.heap.size [.slice p1 r.name.length p2, .int .i64 r.type, .int .i64 r.ttl, .int .i64 r.addr, .slice t1 r.to.length t2, .slice x1 r.text.length x2, .slice i1 r.nums.length i2] rfl ⟨cs0, hx0⟩ (UB KG) rfl (by simp [Value.oneCell']) (by first | omega | simp) (by omega) ?_
   intro v8 u2 h8 g8 hw8
   have DM8 := (UB DM).snocZ (vs := [.slice p1 r.name.length p2, .int .i64 r.type, .int .i64 r.ttl, .int .i64 r.addr, .slice t1 r.to.length t2, .slice x1 r.text.length x2, .slice i1 r.nums.length i2]) (r := r) ⟨_, _, _, _, rfl, UB DD⟩ (UB H8) g8 h8
   have X8 := (UB X).row g8 (fun j e => by have := (World.ownsRow.lt hx0 j e).1; omega)
   have KR8 := UC (RowDr.keep (UB DM).ans g8 (UB KR) (by decide))
   have KB8 := RowDr.keep (UB DM).ans g8 (UB KB) (by decide)
   have z8 := g8.size
   obtain ⟨q1, q2, hv, _⟩ := DM8.ans.form
   have hl8 : (m.ans ++ [r]).length = m.ans.length + 1 := by simp
   replace hv : v8 = .slice q1 (m.ans.length + 1) q2 := hv.trans (by show Value.slice q1 (m.ans ++ [r]).length q2 = _; rw [hl8])
   subst hv
   clear hl8
   replace DM := UC DM8
   replace X := UC X8
   replace KB := UC KB8
   obtain ⟨d0, d1, d2, d3, d4, d5, d6, d7, d8, d9, d10⟩ := cells11 (UB KR8)
   obtain ⟨f0, f1, f2, f3, f4, f5, f6, f7, f8, f9, f10⟩ := frozen11 (UB KR8)
   clear hx0 h8 g8 hw8 DM8 X8 KB8 KG DD KR db1 db2 db3 db4 db5
   refine (UB HK).out _ _ (VB (by kernel_rfl) VL) ?_
   clear HK K
   go_simp
   repeat ((first | (refine VN ?_ (UB hA) rfl rfl rfl (by rfl) (fun _ _ _ h => h) ?_ ?_; rotate_left; · (intro w; go_simp <;> with_reducible rfl)) | refine VM (UB hA) rfl rfl (by rfl) (fun _ _ _ h => h) ?_); go_simp)
   refine runC (UB hA) rfl rfl (by kernel_rfl) (by kernel_rfl) (fun K hK => ?_)
   have HK := UC hK
   clear hK
   go_simp
   refine (UB HK).out _ _ (VB (by kernel_rfl) VL) ?_
   clear HK K
   go_simp
   refine doneC (UB hA) rfl ?_
   clear hA
   clear d0 d1 d2 d3 d4 d5 d6 d7 d8 d9 d10 f0 f1 f2 f3 f4 f5 f6 f7 f8 f9 f10
   have gs := grown_setCell u2 ⟨w1.heap.size, 6, none⟩ (.slice q1 (m.ans.length + 1) q2)
   replace DM := UC ((UB DM).off (UB KR8) (by decide) gs)
   replace X := UC ((UB X).row gs (fun j e => by cases e; show w.heap.size ≤ w1.heap.size; omega))
   replace KB := UC (block_grown gs (UB KB) (by simp; omega))
   have KR := UC (UV (UB KR8) 6 (.slice q1 (m.ans.length + 1) q2))
   have zs2 := gs.size
   clear gs KR8
   generalize u2.setCell ⟨w1.heap.size, 6, none⟩ (.slice q1 (m.ans.length + 1) q2) = WE at *
   obtain ⟨d0, d1, d2, d3, d4, d5, d6, d7, d8, d9, d10⟩ := cells11 (UB KR)
   obtain ⟨p0, p1, p2, p3, p4, p5, p6, p7, p8, p9, p10⟩ := cells11 (UB KB)
   obtain ⟨f0, f1, f2, f3, f4, f5, f6, f7, f8, f9, f10⟩ := frozen11 (UB KB)
   go_wp2_with fail
   clear d0 d1 d2 d3 d4 d5 d6 d7 d8 d9 d10 f0 f1 f2 f3 f4 f5 f6 f7 f8 f9 f10 p0 p1 p2 p3 p4 p5 p6 p7 p8 p9 p10
   have gf := set11_grown (c0 := .int .i64 m.id) (c1 := .bool m.reply) (c2 := .int .i64 m.op) (c3 := .bool m.auth) (c4 := .int .i64 m.code) (c5 := .slice xq m.qs.length yq) (c6 := .slice q1 (m.ans.length + 1) q2) (c7 := .slice xb m.aus.length yb) (c8 := .slice xm m.more.length ym) (c9 := .slice xp m.pres.length yp) (c10 := .slice xu m.ups.length yu) (UB KB)
   have kf := (set11_is (c0 := .int .i64 m.id) (c1 := .bool m.reply) (c2 := .int .i64 m.op) (c3 := .bool m.auth) (c4 := .int .i64 m.code) (c5 := .slice xq m.qs.length yq) (c6 := .slice q1 (m.ans.length + 1) q2) (c7 := .slice xb m.aus.length yb) (c8 := .slice xm m.more.length ym) (c9 := .slice xp m.pres.length yp) (c10 := .slice xu m.ups.length yu) (UB KB)).1
   have DF := (UB DM).off (UB KB) (by decide) gf
   have XF := (UB X).row gf (fun j e => by cases e; exact Nat.le_refl _)
   unfold set11 at gf kf DF XF
   refine bodyPost_ret (results_cell_row rfl _ _ w.heap.size 27 #[.int .i64 m.id, .bool m.reply, .int .i64 m.op, .bool m.auth, .int .i64 m.code, .slice xq m.qs.length yq, .slice q1 (m.ans.length + 1) q2, .slice xb m.aus.length yb, .slice xm m.more.length ym, .slice xp m.pres.length yp, .slice xu m.ups.length yu] (0, 0) _ rfl kf Tryz.underlying27 rfl (by kernel_rfl)) rfl ?_
   exact ⟨_, _, _, _, _, _, _, ⟨m.id, m.reply, m.op, m.auth, m.code, m.qs, m.ans ++ [r], m.aus, m.more, m.pres, m.ups⟩, rfl, DF, XF⟩
  by_cases e5 : y = 5
  ·subst e5
   go_upto_region 17 with fail
   have bd := UX (w := w4)
   replace X := UC ((UB X).below bd)
   replace KB := UC (UE bd (UB KB))
   replace KR := UC (UE bd (UB KR))
   replace DM := UC ((UB DM).below bd)
   have zd := bd.size
   clear bd
   refine startD [3, 5, 6, 8, 10, 11, 13] [0, 1, 2, 4, 7, 3, 5, 6, 8, 9, 10, 11, 12, 13] (by kernel_rfl) ⟨by kernel_rfl, by kernel_rfl, by kernel_rfl, by kernel_rfl⟩ 8 [(1, fun w' => w'.cell? ⟨w1.heap.size, 10, none⟩ = some (.slice xu m.ups.length yu))] (fun hA => ?_)
   replace hA := UC hA
   generalize hWD : w4.drew = WD at *
   clear hWD
   go_simp
   repeat ((refine lookD ?_ (UB hA) rfl rfl rfl (by rfl) (fun _ _ _ h => h) ?_ ?_; rotate_left; · (intro w; go_simp <;> with_reducible rfl)); go_simp)
   refine takeD ?_ (UB hA) rfl rfl rfl (by rfl) (fun _ _ _ h => h) (.head _) (cells11 (UB KR)).2.2.2.2.2.2.2.2.2.2 ?_ ?_; rotate_left; (· (intro w hSw; (try dsimp only at hSw); go_simp <;> with_reducible rfl)); go_simp
   repeat ((refine lookD ?_ (UB hA) rfl rfl rfl (by rfl) (fun _ _ _ h => h) ?_ ?_; rotate_left; · (intro w; go_simp <;> with_reducible rfl)); go_simp)
   refine forkD [0, 1, 2, 4, 7, 5, 3, 6, 8, 9, 10, 11, 12, 13] (UB hA) rfl rfl ⟨by kernel_rfl, by kernel_rfl, by kernel_rfl, by kernel_rfl⟩ rfl rfl rfl (by kernel_rfl) (by kernel_rfl) (by kernel_rfl) (fun K hK => ?_) (fun hA2 K hK => ?_)
   ·have HK := UC hK
    clear hK
    go_simp
    refine (l3bentQ_any (UB X).cur (UB X).code (UB HM)).mono ?_
    rintro e u1 ⟨vn, vt, vx, vi, r, rfl, _, _, DR, _, c1, g1⟩
    obtain ⟨p1, p2, rfl, _⟩ := DR.hasR.name.form
    obtain ⟨t1, t2, rfl, _⟩ := DR.hasR.to.form
    obtain ⟨x1, x2, rfl, _⟩ := DR.hasR.text.form
    obtain ⟨i1, i2, rfl, _⟩ := DR.hasR.nums.form
    replace DM := UC ((UB DM).cur (UB X).cur g1)
    replace KB := UC (block_grown g1 (UB KB) (by simp; omega))
    replace KR := UC (block_grown g1 (UB KR) (by simp; omega))
    replace X := UC ((UB X).step c1 g1)
    have zg1 := g1.size
    clear c1 g1
    have DD := UC DR
    clear DR
    refine (UB HK).out _ _ (keepC_yes (cells11 (UB KR)).2.2.2.2.2.2.2.2.2.2 VL) ?_
    clear HK K
    go_simp
    repeat ((refine lookD ?_ (UB hA) rfl rfl rfl (by rfl) (fun _ _ _ h => h) ?_ ?_; rotate_left; · (intro w; go_simp <;> with_reducible rfl)); go_simp)
    refine runD (UB hA) rfl rfl (by kernel_rfl) (by kernel_rfl) (fun K hK => ?_)
    have HK := UC hK
    clear hK
    go_simp
    have KZ := UC (heap_alloc_new u1 (.cells #[.int .i64 0, .int .i64 1, .int .i64 254, .int .i64 255] 3))
    have bz := UI (w := u1) (.cells #[.int .i64 0, .int .i64 1, .int .i64 254, .int .i64 255] 3)
    replace DM := UC ((UB DM).below bz)
    replace KB := UC (UE bz (UB KB))
    replace KR := UC (UE bz (UB KR))
    replace X := UC ((UB X).below bz)
    replace DD := UC ((UB DD).below bz)
    have zz := VC (UB KZ)
    have zbz := bz.size
    clear bz
    refine (UB HK).out _ _ (keepC_yes (cells11 (UB KR)).2.2.2.2.2.2.2.2.2.2 VL) ?_
    clear HK K
    go_simp
    repeat ((refine lookD ?_ (UB hA) rfl rfl rfl (by rfl) (fun _ _ _ h => h) ?_ ?_; rotate_left; · (intro w; go_simp <;> with_reducible rfl)); go_simp)
    refine runD (UB hA) rfl rfl (by kernel_rfl) (by kernel_rfl) (fun K hK => ?_)
    have HK := UC hK
    clear hK
    go_simp
    refine (l1PickInt_any u1.heap.size 4 (UB X).cur (UB X).code (UB HM) (by omega) (by omega) zz (by omega) (fun j hj => by match j, hj with | 0, _ => exact ⟨_, VE (UB KZ) 0⟩ | 1, _ => exact ⟨_, VE (UB KZ) 1⟩ | 2, _ => exact ⟨_, VE (UB KZ) 2⟩ | 3, _ => exact ⟨_, VE (UB KZ) 3⟩)).mono ?_
    rintro e u2 ⟨z, rfl, c1, g1⟩
    replace DM := UC ((UB DM).cur (UB X).cur g1)
    replace KB := UC (block_grown g1 (UB KB) (by simp; omega))
    replace KR := UC (block_grown g1 (UB KR) (by simp; omega))
    replace DD := UC ((UB DD).cur (UB X).cur g1)
    replace X := UC ((UB X).step c1 g1)
    have zg1 := g1.size
    clear c1 g1
    clear KZ zz
    refine (UB HK).out _ _ (keepC_yes (cells11 (UB KR)).2.2.2.2.2.2.2.2.2.2 VL) ?_
    clear HK K
    go_simp
    repeat ((refine lookD ?_ (UB hA) rfl rfl rfl (by rfl) (fun _ _ _ h => h) ?_ ?_; rotate_left; · (intro w; go_simp <;> with_reducible rfl)); go_simp)
    refine runD (UB hA) rfl rfl (by kernel_rfl) (by kernel_rfl) (fun K hK => ?_)
    have HK := UC hK
    clear hK
    go_simp
    refine (l1Once_any 2 (UB X).cur (UB X).code (UB HM) (by omega) (by omega)).mono ?_
    rintro e u3 ⟨bare, rfl, c1, g1⟩
    replace DM := UC ((UB DM).cur (UB X).cur g1)
    replace KB := UC (block_grown g1 (UB KB) (by simp; omega))
    replace KR := UC (block_grown g1 (UB KR) (by simp; omega))
    replace DD := UC ((UB DD).cur (UB X).cur g1)
    replace X := UC ((UB X).step c1 g1)
    have zg1 := g1.size
    clear c1 g1
    refine (UB HK).out _ _ (keepC_yes (cells11 (UB KR)).2.2.2.2.2.2.2.2.2.2 VL) ?_
    clear HK K
    go_simp
    repeat ((refine lookD ?_ (UB hA) rfl rfl rfl (by rfl) (fun _ _ _ h => h) ?_ ?_; rotate_left; · (intro w; go_simp <;> with_reducible rfl)); go_simp)
    refine runD (UB hA) rfl rfl (by kernel_rfl) (by kernel_rfl) (fun K hK => ?_)
    have HK := UC hK
    clear hK
    go_simp
    have KG := UC (heap_alloc_new u3 (.cells #[.slice p1 r.name.length p2, .int .i64 r.type, .int .i64 r.ttl, .int .i64 r.addr, .slice t1 r.to.length t2, .slice x1 r.text.length x2, .slice i1 r.nums.length i2, .int .i64 z, .bool bare] 66))
    have bg := UI (w := u3) (.cells #[.slice p1 r.name.length p2, .int .i64 r.type, .int .i64 r.ttl, .int .i64 r.addr, .slice t1 r.to.length t2, .slice x1 r.text.length x2, .slice i1 r.nums.length i2, .int .i64 z, .bool bare] 66)
    replace X := UC ((UB X).below bg)
    replace DM := UC ((UB DM).below bg)
    replace KB := UC (UE bg (UB KB))
    replace KR := UC (UE bg (UB KR))
    replace DD := UC ((UB DD).below bg)
    have zg := bg.size
    clear bg
    refine (UB HK).out _ _ (keepC_yes (cells11 (UB KR)).2.2.2.2.2.2.2.2.2.2 VL) ?_
    clear HK K
    go_simp
    repeat ((refine lookD ?_ (UB hA) rfl rfl rfl (by rfl) (fun _ _ _ h => h) ?_ ?_; rotate_left; · (intro w; go_simp <;> with_reducible rfl)); go_simp)
    obtain ⟨cs0, hx0⟩ := (UB DM).ups.own
    have db1 := (UB DM).b1
    have db2 := (UB DM).b2
    have db3 := (UB DM).b3
    have db4 := (UB DM).b4
    have db5 := (UB DM).b5
    refine runD (UB hA) rfl rfl (by kernel_rfl) (by kernel_rfl) (fun K hK => ?_)
    have HK := UC hK
    clear hK
    refine append_oneW _ _ 25 66 rfl Tryz.underlying25 _ 9 136 (by omega) (by omega) info_WantD rfl s3 (.slice xu m.ups.length yu) m.ups.length rfl u3.heap.size [.slice p1 r.name.length p2, .int .i64 r.type, .int .i64 r.ttl, .int .i64 r.addr, .slice t1 r.to.length t2, .slice x1 r.text.length x2, .slice i1 r.nums.length i2, .int .i64 z, .bool bare] rfl ⟨cs0, hx0⟩ (UB KG) rfl (by simp [Value.oneCell']) (by first | omega | simp) (by omega) ?_
    intro v8 u4 h8 g8 hw8
    have DM8 := (UB DM).snocU (vs := [.slice p1 r.name.length p2, .int .i64 r.type, .int .i64 r.ttl, .int .i64 r.addr, .slice t1 r.to.length t2, .slice x1 r.text.length x2, .slice i1 r.nums.length i2, .int .i64 z, .bool bare]) (x := ⟨r, z, bare⟩) ⟨_, _, _, _, rfl, UB DD⟩ g8 h8
    have X8 := (UB X).row g8 (fun j e => by have := (World.ownsRow.lt hx0 j e).1; omega)
    have KR8 := UC (RowDr.keep (UB DM).ups g8 (UB KR) (by decide))
    have KB8 := RowDr.keep (UB DM).ups g8 (UB KB) (by decide)
    obtain ⟨q1, q2, hv, _⟩ := DM8.ups.form
    have hl8 : (m.ups ++ [(⟨r, z, bare⟩ : Wnt)]).length = m.ups.length + 1 := by simp
    replace hv : v8 = .slice q1 (m.ups.length + 1) q2 := hv.trans (by show Value.slice q1 (m.ups ++ [(⟨r, z, bare⟩ : Wnt)]).length q2 = _; rw [hl8])
    subst hv
    clear hl8
    replace DM := UC DM8
    replace X := UC X8
    replace KB := UC KB8
    obtain ⟨d0, d1, d2, d3, d4, d5, d6, d7, d8, d9, d10⟩ := cells11 (UB KR8)
    obtain ⟨f0, f1, f2, f3, f4, f5, f6, f7, f8, f9, f10⟩ := frozen11 (UB KR8)
    clear hx0 h8 g8 hw8 DM8 X8 KB8 KG DD KR db1 db2 db3 db4 db5
    refine (UB HK).out _ _ (VB (by kernel_rfl) VL) ?_
    clear HK K
    go_simp
    repeat ((refine lookD ?_ (UB hA) rfl rfl rfl (by rfl) (fun _ _ _ h => h) ?_ ?_; rotate_left; · (intro w; go_simp <;> with_reducible rfl)); go_simp)
    refine runD (UB hA) rfl rfl (by kernel_rfl) (by kernel_rfl) (fun K hK => ?_)
    have HK := UC hK
    clear hK
    go_simp
    refine (UB HK).out _ _ (VB (by kernel_rfl) VL) ?_
    clear HK K
    go_simp
    repeat ((refine lookD ?_ (UB hA) rfl rfl rfl (by rfl) (fun _ _ _ h => h) ?_ ?_; rotate_left; · (intro w; go_simp <;> with_reducible rfl)); go_simp)
    refine doneD (UB hA) rfl ?_
    clear hA
    clear d0 d1 d2 d3 d4 d5 d6 d7 d8 d9 d10 f0 f1 f2 f3 f4 f5 f6 f7 f8 f9 f10
    have gs := grown_setCell u4 ⟨w1.heap.size, 10, none⟩ (.slice q1 (m.ups.length + 1) q2)
    replace DM := UC ((UB DM).off (UB KR8) (by decide) gs)
    replace X := UC ((UB X).row gs (fun j e => by cases e; show w.heap.size ≤ w1.heap.size; omega))
    replace KB := UC (block_grown gs (UB KB) (by simp; omega))
    have KR := UC (UV (UB KR8) 10 (.slice q1 (m.ups.length + 1) q2))
    clear gs KR8
    generalize u4.setCell ⟨w1.heap.size, 10, none⟩ (.slice q1 (m.ups.length + 1) q2) = WE at *
    obtain ⟨d0, d1, d2, d3, d4, d5, d6, d7, d8, d9, d10⟩ := cells11 (UB KR)
    obtain ⟨p0, p1, p2, p3, p4, p5, p6, p7, p8, p9, p10⟩ := cells11 (UB KB)
    obtain ⟨f0, f1, f2, f3, f4, f5, f6, f7, f8, f9, f10⟩ := frozen11 (UB KB)
    go_wp2_with fail
    clear d0 d1 d2 d3 d4 d5 d6 d7 d8 d9 d10 f0 f1 f2 f3 f4 f5 f6 f7 f8 f9 f10 p0 p1 p2 p3 p4 p5 p6 p7 p8 p9 p10
    have gf := set11_grown (c0 := .int .i64 m.id) (c1 := .bool m.reply) (c2 := .int .i64 m.op) (c3 := .bool m.auth) (c4 := .int .i64 m.code) (c5 := .slice xq m.qs.length yq) (c6 := .slice xa m.ans.length ya) (c7 := .slice xb m.aus.length yb) (c8 := .slice xm m.more.length ym) (c9 := .slice xp m.pres.length yp) (c10 := .slice q1 (m.ups.length + 1) q2) (UB KB)
    have kf := (set11_is (c0 := .int .i64 m.id) (c1 := .bool m.reply) (c2 := .int .i64 m.op) (c3 := .bool m.auth) (c4 := .int .i64 m.code) (c5 := .slice xq m.qs.length yq) (c6 := .slice xa m.ans.length ya) (c7 := .slice xb m.aus.length yb) (c8 := .slice xm m.more.length ym) (c9 := .slice xp m.pres.length yp) (c10 := .slice q1 (m.ups.length + 1) q2) (UB KB)).1
    have DF := ((UB DM).weak).off (UB KB) (by decide) gf
    have XF := (UB X).row gf (fun j e => by cases e; exact Nat.le_refl _)
    unfold set11 at gf kf DF XF
    refine bodyPost_ret (results_cell_row rfl _ _ w.heap.size 27 #[.int .i64 m.id, .bool m.reply, .int .i64 m.op, .bool m.auth, .int .i64 m.code, .slice xq m.qs.length yq, .slice xa m.ans.length ya, .slice xb m.aus.length yb, .slice xm m.more.length ym, .slice xp m.pres.length yp, .slice q1 (m.ups.length + 1) q2] (0, 0) _ rfl kf Tryz.underlying27 rfl (by kernel_rfl)) rfl ?_
    exact ⟨_, _, _, _, _, _, _, ⟨m.id, m.reply, m.op, m.auth, m.code, m.qs, m.ans, m.aus, m.more, m.pres, m.ups ++ [⟨r, z, bare⟩]⟩, rfl, DF, XF⟩
   ·replace hA := UC hA2
    clear hA2
    have HK := UC hK
    clear hK
    go_simp
    have KZ := UC (heap_alloc_new WD (.cells #[.int .i64 0, .int .i64 1, .int .i64 254, .int .i64 255] 3))
    have bz := UI (w := WD) (.cells #[.int .i64 0, .int .i64 1, .int .i64 254, .int .i64 255] 3)
    replace DM := UC ((UB DM).below bz)
    replace KB := UC (UE bz (UB KB))
    replace KR := UC (UE bz (UB KR))
    replace X := UC ((UB X).below bz)
    have zz := VC (UB KZ)
    have zbz := bz.size
    clear bz
    have ZR := UC zz
    clear zz
    refine (UB HK).out _ _ (keepC_yes (cells11 (UB KR)).2.2.2.2.2.2.2.2.2.2 VL) ?_
    clear HK K
    go_simp
    repeat ((refine lookD ?_ (UB hA) rfl rfl rfl (by rfl) (fun _ _ _ h => h) ?_ ?_; rotate_left; · (intro w; go_simp <;> with_reducible rfl)); go_simp)
    refine runD (UB hA) rfl rfl (by kernel_rfl) (by kernel_rfl) (fun K hK => ?_)
    have HK := UC hK
    clear hK
    go_simp
    have zz := UB ZR
    have hq0 := (UB X).lt
    refine (l3bentQ_any (UB X).cur (UB X).code (UB HM)).mono ?_
    rintro e u1 ⟨vn, vt, vx, vi, r, rfl, _, _, DR, _, c1, g1⟩
    obtain ⟨p1, p2, rfl, _⟩ := DR.hasR.name.form
    obtain ⟨t1, t2, rfl, _⟩ := DR.hasR.to.form
    obtain ⟨x1, x2, rfl, _⟩ := DR.hasR.text.form
    obtain ⟨i1, i2, rfl, _⟩ := DR.hasR.nums.form
    replace KZ := UC (block_grown g1 (UB KZ) (by simp; omega))
    replace DM := UC ((UB DM).cur (UB X).cur g1)
    replace KB := UC (block_grown g1 (UB KB) (by simp; omega))
    replace KR := UC (block_grown g1 (UB KR) (by simp; omega))
    replace X := UC ((UB X).step c1 g1)
    have zg1 := g1.size
    clear c1 g1
    have DD := UC DR
    have zz := VC (UB KZ)
    clear DR ZR
    refine (UB HK).out _ _ (keepC_yes (cells11 (UB KR)).2.2.2.2.2.2.2.2.2.2 VL) ?_
    clear HK K
    go_simp
    repeat ((refine lookD ?_ (UB hA) rfl rfl rfl (by rfl) (fun _ _ _ h => h) ?_ ?_; rotate_left; · (intro w; go_simp <;> with_reducible rfl)); go_simp)
    refine runD (UB hA) rfl rfl (by kernel_rfl) (by kernel_rfl) (fun K hK => ?_)
    have HK := UC hK
    clear hK
    go_simp
    refine (l1PickInt_any WD.heap.size 4 (UB X).cur (UB X).code (UB HM) (by omega) (by omega) zz (by omega) (fun j hj => by match j, hj with | 0, _ => exact ⟨_, VE (UB KZ) 0⟩ | 1, _ => exact ⟨_, VE (UB KZ) 1⟩ | 2, _ => exact ⟨_, VE (UB KZ) 2⟩ | 3, _ => exact ⟨_, VE (UB KZ) 3⟩)).mono ?_
    rintro e u2 ⟨z, rfl, c1, g1⟩
    replace DM := UC ((UB DM).cur (UB X).cur g1)
    replace KB := UC (block_grown g1 (UB KB) (by simp; omega))
    replace KR := UC (block_grown g1 (UB KR) (by simp; omega))
    replace DD := UC ((UB DD).cur (UB X).cur g1)
    replace X := UC ((UB X).step c1 g1)
    have zg1 := g1.size
    clear c1 g1
    clear KZ zz
    refine (UB HK).out _ _ (keepC_yes (cells11 (UB KR)).2.2.2.2.2.2.2.2.2.2 VL) ?_
    clear HK K
    go_simp
    repeat ((refine lookD ?_ (UB hA) rfl rfl rfl (by rfl) (fun _ _ _ h => h) ?_ ?_; rotate_left; · (intro w; go_simp <;> with_reducible rfl)); go_simp)
    refine runD (UB hA) rfl rfl (by kernel_rfl) (by kernel_rfl) (fun K hK => ?_)
    have HK := UC hK
    clear hK
    go_simp
    refine (l1Once_any 2 (UB X).cur (UB X).code (UB HM) (by omega) (by omega)).mono ?_
    rintro e u3 ⟨bare, rfl, c1, g1⟩
    replace DM := UC ((UB DM).cur (UB X).cur g1)
    replace KB := UC (block_grown g1 (UB KB) (by simp; omega))
    replace KR := UC (block_grown g1 (UB KR) (by simp; omega))
    replace DD := UC ((UB DD).cur (UB X).cur g1)
    replace X := UC ((UB X).step c1 g1)
    have zg1 := g1.size
    clear c1 g1
    refine (UB HK).out _ _ (keepC_yes (cells11 (UB KR)).2.2.2.2.2.2.2.2.2.2 VL) ?_
    clear HK K
    go_simp
    repeat ((refine lookD ?_ (UB hA) rfl rfl rfl (by rfl) (fun _ _ _ h => h) ?_ ?_; rotate_left; · (intro w; go_simp <;> with_reducible rfl)); go_simp)
    refine runD (UB hA) rfl rfl (by kernel_rfl) (by kernel_rfl) (fun K hK => ?_)
    have HK := UC hK
    clear hK
    go_simp
    have KG := UC (heap_alloc_new u3 (.cells #[.slice p1 r.name.length p2, .int .i64 r.type, .int .i64 r.ttl, .int .i64 r.addr, .slice t1 r.to.length t2, .slice x1 r.text.length x2, .slice i1 r.nums.length i2, .int .i64 z, .bool bare] 66))
    have bg := UI (w := u3) (.cells #[.slice p1 r.name.length p2, .int .i64 r.type, .int .i64 r.ttl, .int .i64 r.addr, .slice t1 r.to.length t2, .slice x1 r.text.length x2, .slice i1 r.nums.length i2, .int .i64 z, .bool bare] 66)
    replace X := UC ((UB X).below bg)
    replace DM := UC ((UB DM).below bg)
    replace KB := UC (UE bg (UB KB))
    replace KR := UC (UE bg (UB KR))
    replace DD := UC ((UB DD).below bg)
    have zg := bg.size
    clear bg
    refine (UB HK).out _ _ (keepC_yes (cells11 (UB KR)).2.2.2.2.2.2.2.2.2.2 VL) ?_
    clear HK K
    go_simp
    repeat ((refine lookD ?_ (UB hA) rfl rfl rfl (by rfl) (fun _ _ _ h => h) ?_ ?_; rotate_left; · (intro w; go_simp <;> with_reducible rfl)); go_simp)
    obtain ⟨cs0, hx0⟩ := (UB DM).ups.own
    have db1 := (UB DM).b1
    have db2 := (UB DM).b2
    have db3 := (UB DM).b3
    have db4 := (UB DM).b4
    have db5 := (UB DM).b5
    refine runD (UB hA) rfl rfl (by kernel_rfl) (by kernel_rfl) (fun K hK => ?_)
    have HK := UC hK
    clear hK
    refine append_oneW _ _ 25 66 rfl Tryz.underlying25 _ 9 136 (by omega) (by omega) info_WantD rfl s3 (.slice xu m.ups.length yu) m.ups.length rfl u3.heap.size [.slice p1 r.name.length p2, .int .i64 r.type, .int .i64 r.ttl, .int .i64 r.addr, .slice t1 r.to.length t2, .slice x1 r.text.length x2, .slice i1 r.nums.length i2, .int .i64 z, .bool bare] rfl ⟨cs0, hx0⟩ (UB KG) rfl (by simp [Value.oneCell']) (by first | omega | simp) (by omega) ?_
    intro v8 u4 h8 g8 hw8
    have DM8 := (UB DM).snocU (vs := [.slice p1 r.name.length p2, .int .i64 r.type, .int .i64 r.ttl, .int .i64 r.addr, .slice t1 r.to.length t2, .slice x1 r.text.length x2, .slice i1 r.nums.length i2, .int .i64 z, .bool bare]) (x := ⟨r, z, bare⟩) ⟨_, _, _, _, rfl, UB DD⟩ g8 h8
    have X8 := (UB X).row g8 (fun j e => by have := (World.ownsRow.lt hx0 j e).1; omega)
    have KR8 := UC (RowDr.keep (UB DM).ups g8 (UB KR) (by decide))
    have KB8 := RowDr.keep (UB DM).ups g8 (UB KB) (by decide)
    obtain ⟨q1, q2, hv, _⟩ := DM8.ups.form
    have hl8 : (m.ups ++ [(⟨r, z, bare⟩ : Wnt)]).length = m.ups.length + 1 := by simp
    replace hv : v8 = .slice q1 (m.ups.length + 1) q2 := hv.trans (by show Value.slice q1 (m.ups ++ [(⟨r, z, bare⟩ : Wnt)]).length q2 = _; rw [hl8])
    subst hv
    clear hl8
    replace DM := UC DM8
    replace X := UC X8
    replace KB := UC KB8
    obtain ⟨d0, d1, d2, d3, d4, d5, d6, d7, d8, d9, d10⟩ := cells11 (UB KR8)
    obtain ⟨f0, f1, f2, f3, f4, f5, f6, f7, f8, f9, f10⟩ := frozen11 (UB KR8)
    clear hx0 h8 g8 hw8 DM8 X8 KB8 KG DD KR db1 db2 db3 db4 db5
    refine (UB HK).out _ _ (VB (by kernel_rfl) VL) ?_
    clear HK K
    go_simp
    repeat ((refine lookD ?_ (UB hA) rfl rfl rfl (by rfl) (fun _ _ _ h => h) ?_ ?_; rotate_left; · (intro w; go_simp <;> with_reducible rfl)); go_simp)
    refine runD (UB hA) rfl rfl (by kernel_rfl) (by kernel_rfl) (fun K hK => ?_)
    have HK := UC hK
    clear hK
    go_simp
    refine (UB HK).out _ _ (VB (by kernel_rfl) VL) ?_
    clear HK K
    go_simp
    repeat ((refine lookD ?_ (UB hA) rfl rfl rfl (by rfl) (fun _ _ _ h => h) ?_ ?_; rotate_left; · (intro w; go_simp <;> with_reducible rfl)); go_simp)
    refine doneD (UB hA) rfl ?_
    clear hA
    clear d0 d1 d2 d3 d4 d5 d6 d7 d8 d9 d10 f0 f1 f2 f3 f4 f5 f6 f7 f8 f9 f10
    have gs := grown_setCell u4 ⟨w1.heap.size, 10, none⟩ (.slice q1 (m.ups.length + 1) q2)
    replace DM := UC ((UB DM).off (UB KR8) (by decide) gs)
    replace X := UC ((UB X).row gs (fun j e => by cases e; show w.heap.size ≤ w1.heap.size; omega))
    replace KB := UC (block_grown gs (UB KB) (by simp; omega))
    have KR := UC (UV (UB KR8) 10 (.slice q1 (m.ups.length + 1) q2))
    clear gs KR8
    generalize u4.setCell ⟨w1.heap.size, 10, none⟩ (.slice q1 (m.ups.length + 1) q2) = WE at *
    obtain ⟨d0, d1, d2, d3, d4, d5, d6, d7, d8, d9, d10⟩ := cells11 (UB KR)
    obtain ⟨p0, p1, p2, p3, p4, p5, p6, p7, p8, p9, p10⟩ := cells11 (UB KB)
    obtain ⟨f0, f1, f2, f3, f4, f5, f6, f7, f8, f9, f10⟩ := frozen11 (UB KB)
    go_wp2_with fail
    clear d0 d1 d2 d3 d4 d5 d6 d7 d8 d9 d10 f0 f1 f2 f3 f4 f5 f6 f7 f8 f9 f10 p0 p1 p2 p3 p4 p5 p6 p7 p8 p9 p10
    have gf := set11_grown (c0 := .int .i64 m.id) (c1 := .bool m.reply) (c2 := .int .i64 m.op) (c3 := .bool m.auth) (c4 := .int .i64 m.code) (c5 := .slice xq m.qs.length yq) (c6 := .slice xa m.ans.length ya) (c7 := .slice xb m.aus.length yb) (c8 := .slice xm m.more.length ym) (c9 := .slice xp m.pres.length yp) (c10 := .slice q1 (m.ups.length + 1) q2) (UB KB)
    have kf := (set11_is (c0 := .int .i64 m.id) (c1 := .bool m.reply) (c2 := .int .i64 m.op) (c3 := .bool m.auth) (c4 := .int .i64 m.code) (c5 := .slice xq m.qs.length yq) (c6 := .slice xa m.ans.length ya) (c7 := .slice xb m.aus.length yb) (c8 := .slice xm m.more.length ym) (c9 := .slice xp m.pres.length yp) (c10 := .slice q1 (m.ups.length + 1) q2) (UB KB)).1
    have DF := ((UB DM).weak).off (UB KB) (by decide) gf
    have XF := (UB X).row gf (fun j e => by cases e; exact Nat.le_refl _)
    unfold set11 at gf kf DF XF
    refine bodyPost_ret (results_cell_row rfl _ _ w.heap.size 27 #[.int .i64 m.id, .bool m.reply, .int .i64 m.op, .bool m.auth, .int .i64 m.code, .slice xq m.qs.length yq, .slice xa m.ans.length ya, .slice xb m.aus.length yb, .slice xm m.more.length ym, .slice xp m.pres.length yp, .slice q1 (m.ups.length + 1) q2] (0, 0) _ rfl kf Tryz.underlying27 rfl (by kernel_rfl)) rfl ?_
    exact ⟨_, _, _, _, _, _, _, ⟨m.id, m.reply, m.op, m.auth, m.code, m.qs, m.ans, m.aus, m.more, m.pres, m.ups ++ [⟨r, z, bare⟩]⟩, rfl, DF, XF⟩
  have hy7 : y = 6 := by omega
  subst hy7
  have hl0 : m.more.length ≤ 20 := hlm
  go_wp2_with fail
  go_loopw [] (fun wr => ∃ (vm : Value) (lm : List Rec), lm.length ≤ 20 ∧ wr.heap[w1.heap.size]? = some (.cells #[.int .i64 m.id, .bool m.reply, .int .i64 m.op, .bool m.auth, .int .i64 m.code, .slice xq m.qs.length yq, .slice xa m.ans.length ya, .slice xb m.aus.length yb, vm, .slice xp m.pres.length yp, .slice xu m.ups.length yu] 27) ∧ DrawMs W.heap.size s1 s2 s3 wr (.slice xq m.qs.length yq) (.slice xa m.ans.length ya) (.slice xb m.aus.length yb) vm (.slice xp m.pres.length yp) (.slice xu m.ups.length yu) ⟨m.id, m.reply, m.op, m.auth, m.code, m.qs, m.ans, m.aus, lm, m.pres, m.ups⟩ ∧ wr.heap[w.heap.size]? = some (.cells #[.int .i64 0, .bool false, .int .i64 0, .bool false, .int .i64 0, .slice none 0 0, .slice none 0 0, .slice none 0 0, .slice none 0 0, .slice none 0 0, .slice none 0 0] 27) ∧ CurX w wr g a len cap ∧ w4.heap.size ≤ wr.heap.size) (fun wr => 21 - moreN wr w1.heap.size)
  case atStart => exact ⟨_, m.more, hl0, UB KR, UB DM, UB KB, UB X, by omega⟩
  case round =>
   obtain ⟨vm, lm, hk, kr, dm, kb, x, hz⟩ := hrel
   obtain ⟨r1, r2, hvm, _⟩ := dm.more.form
   replace hvm : vm = .slice r1 lm.length r2 := hvm
   subst hvm
   have HMN : Hid (moreN wr w1.heap.size = lm.length) := UC (moreN_is (cells11 kr).2.2.2.2.2.2.2.2.1)
   clear KR DM KB X
   have KR := UC kr
   have DM := UC dm
   have KB := UC kb
   have X := UC x
   clear kr dm kb x
   go_upto_region 4 with fail
   have bd := UX (w := wr)
   replace X := UC ((UB X).below bd)
   replace KB := UC (UE bd (UB KB))
   replace KR := UC (UE bd (UB KR))
   replace DM := UC ((UB DM).below bd)
   have zd := bd.size
   clear bd
   refine startC [0, 1, 2, 3, 4, 5, 6] (by kernel_rfl) ⟨by kernel_rfl, by kernel_rfl, by kernel_rfl, by kernel_rfl⟩ 8 [(1, fun w' => w'.cell? ⟨w1.heap.size, 8, none⟩ = some (.slice r1 lm.length r2))] (fun hA => ?_)
   replace hA := UC hA
   generalize hWD : wr.drew = WD at *
   clear hWD
   repeat ((first | (refine VN ?_ (UB hA) rfl rfl rfl (by rfl) (fun _ _ _ h => h) ?_ ?_; rotate_left; · (intro w; go_simp <;> with_reducible rfl)) | refine VM (UB hA) rfl rfl (by rfl) (fun _ _ _ h => h) ?_); go_simp)
   refine takeC ?_ (UB hA) rfl rfl rfl (by rfl) (fun _ _ _ h => h) (.head _) (cells11 (UB KR)).2.2.2.2.2.2.2.2.1 ?_ ?_; rotate_left; (· (intro w hSw; (try dsimp only at hSw); go_simp <;> with_reducible rfl)); go_simp
   repeat ((first | (refine VN ?_ (UB hA) rfl rfl rfl (by rfl) (fun _ _ _ h => h) ?_ ?_; rotate_left; · (intro w; go_simp <;> with_reducible rfl)) | refine VM (UB hA) rfl rfl (by rfl) (fun _ _ _ h => h) ?_); go_simp)
   refine runC (UB hA) rfl rfl (by kernel_rfl) (by kernel_rfl) (fun K hK => ?_)
   have HK := UC hK
   clear hK
   go_simp
   refine (l1Below_any 2 (UB X).cur (UB X).code (UB HM) (by omega) (by omega)).mono ?_
   rintro e w9 ⟨yy, rfl, hyy0, hyy1, c1, g1⟩
   replace DM := UC ((UB DM).cur (UB X).cur g1)
   replace KB := UC (block_grown g1 (UB KB) (by simp; omega))
   replace KR := UC (block_grown g1 (UB KR) (by simp; omega))
   replace X := UC ((UB X).step c1 g1)
   have zg1 := g1.size
   clear c1 g1
   refine (UB HK).out _ _ (keepC_yes (cells11 (UB KR)).2.2.2.2.2.2.2.2.1 VL) ?_
   clear HK K
   go_simp
   repeat ((first | (refine VN ?_ (UB hA) rfl rfl rfl (by rfl) (fun _ _ _ h => h) ?_ ?_; rotate_left; · (intro w; go_simp <;> with_reducible rfl)) | refine VM (UB hA) rfl rfl (by rfl) (fun _ _ _ h => h) ?_); go_simp)
   refine doneC (UB hA) rfl ?_
   clear hA
   have hwr : IntKind.i64.wrap (12 + yy) = 12 + yy := by have h0 := wrap_small (12 + yy.toNat) (by omega); have h1 : ((12 + yy.toNat : Nat) : Int) = 12 + yy := (by omega); rwa [h1] at h0
   rw [hwr]
   clear hwr
   by_cases hlt : (lm.length : Int) < 12 + yy
   ·have hl12 : lm.length ≤ 12 := by omega
    rw [decide_eq_true hlt]
    go_upto_region 5 with fail
    have bd := UX (w := w9)
    replace X := UC ((UB X).below bd)
    replace KB := UC (UE bd (UB KB))
    replace KR := UC (UE bd (UB KR))
    replace DM := UC ((UB DM).below bd)
    have zd := bd.size
    clear bd
    refine startC [0, 1, 2, 3, 4, 5, 6, 7] (by kernel_rfl) ⟨by kernel_rfl, by kernel_rfl, by kernel_rfl, by kernel_rfl⟩ 8 [(1, fun w' => w'.cell? ⟨w1.heap.size, 8, none⟩ = some (.slice r1 lm.length r2))] (fun hA => ?_)
    replace hA := UC hA
    generalize hWD : w9.drew = WD at *
    clear hWD
    repeat ((first | (refine VN ?_ (UB hA) rfl rfl rfl (by rfl) (fun _ _ _ h => h) ?_ ?_; rotate_left; · (intro w; go_simp <;> with_reducible rfl)) | refine VM (UB hA) rfl rfl (by rfl) (fun _ _ _ h => h) ?_); go_simp)
    refine takeC ?_ (UB hA) rfl rfl rfl (by rfl) (fun _ _ _ h => h) (.head _) (cells11 (UB KR)).2.2.2.2.2.2.2.2.1 ?_ ?_; rotate_left; (· (intro w hSw; (try dsimp only at hSw); go_simp <;> with_reducible rfl)); go_simp
    repeat ((first | (refine VN ?_ (UB hA) rfl rfl rfl (by rfl) (fun _ _ _ h => h) ?_ ?_; rotate_left; · (intro w; go_simp <;> with_reducible rfl)) | refine VM (UB hA) rfl rfl (by rfl) (fun _ _ _ h => h) ?_); go_simp)
    refine runC (UB hA) rfl rfl (by kernel_rfl) (by kernel_rfl) (fun K hK => ?_)
    have HK := UC hK
    clear hK
    go_simp
    refine (l3drawQ_any (UB X).cur (UB X).code (UB HM)).mono ?_
    rintro e u1 ⟨vn, vt, vx, vi, r, rfl, dq, _, DR, _, c1, g1⟩
    have H8 := UC dq.2.1
    clear dq
    obtain ⟨p1, p2, rfl, _⟩ := DR.hasR.name.form
    obtain ⟨t1, t2, rfl, _⟩ := DR.hasR.to.form
    obtain ⟨x1, x2, rfl, _⟩ := DR.hasR.text.form
    obtain ⟨i1, i2, rfl, _⟩ := DR.hasR.nums.form
    replace DM := UC ((UB DM).cur (UB X).cur g1)
    replace KB := UC (block_grown g1 (UB KB) (by simp; omega))
    replace KR := UC (block_grown g1 (UB KR) (by simp; omega))
    replace X := UC ((UB X).step c1 g1)
    have zg1 := g1.size
    clear c1 g1
    have DD := UC DR
    clear DR
    refine (UB HK).out _ _ (keepC_yes (cells11 (UB KR)).2.2.2.2.2.2.2.2.1 VL) ?_
    clear HK K
    go_simp
    repeat ((first | (refine VN ?_ (UB hA) rfl rfl rfl (by rfl) (fun _ _ _ h => h) ?_ ?_; rotate_left; · (intro w; go_simp <;> with_reducible rfl)) | refine VM (UB hA) rfl rfl (by rfl) (fun _ _ _ h => h) ?_); go_simp)
    refine runC (UB hA) rfl rfl (by kernel_rfl) (by kernel_rfl) (fun K hK => ?_)
    have HK := UC hK
    clear hK
    go_simp
    have KG := UC (heap_alloc_new u1 (.cells #[.slice p1 r.name.length p2, .int .i64 r.type, .int .i64 r.ttl, .int .i64 r.addr, .slice t1 r.to.length t2, .slice x1 r.text.length x2, .slice i1 r.nums.length i2] 63))
    have bg := UI (w := u1) (.cells #[.slice p1 r.name.length p2, .int .i64 r.type, .int .i64 r.ttl, .int .i64 r.addr, .slice t1 r.to.length t2, .slice x1 r.text.length x2, .slice i1 r.nums.length i2] 63)
    replace X := UC ((UB X).below bg)
    replace KB := UC (UE bg (UB KB))
    replace KR := UC (UE bg (UB KR))
    replace DM := UC ((UB DM).below bg)
    replace DD := UC ((UB DD).below bg)
    have zg := bg.size
    clear bg
    refine (UB HK).out _ _ (keepC_yes (cells11 (UB KR)).2.2.2.2.2.2.2.2.1 VL) ?_
    clear HK K
    go_simp
    obtain ⟨cs0, hx0⟩ := (UB DM).more.own
    have db1 := (UB DM).b1
    have db2 := (UB DM).b2
    have db3 := (UB DM).b3
    have db4 := (UB DM).b4
    have db5 := (UB DM).b5
    refine runC (UB hA) rfl rfl (by kernel_rfl) (by kernel_rfl) (fun K hK => ?_)
    have HK := UC hK
    clear hK
    refine append_oneW _ _ 24 63 rfl Tryz.underlying24 _ 7 120 (by omega) (by omega) info_rrD rfl s2 (.slice r1 lm.length r2) lm.length rfl u1.heap.size [.slice p1 r.name.length p2, .int .i64 r.type, .int .i64 r.ttl, .int .i64 r.addr, .slice t1 r.to.length t2, .slice x1 r.text.length x2, .slice i1 r.nums.length i2] rfl ⟨cs0, hx0⟩ (UB KG) rfl (by simp [Value.oneCell']) (by first | omega | simp) (by omega) ?_
    intro v8 u2 h8 g8 hw8
    have DM8 := (UB DM).snocC (vs := [.slice p1 r.name.length p2, .int .i64 r.type, .int .i64 r.ttl, .int .i64 r.addr, .slice t1 r.to.length t2, .slice x1 r.text.length x2, .slice i1 r.nums.length i2]) (r := r) ⟨_, _, _, _, rfl, UB DD⟩ (UB H8) g8 h8
    have X8 := (UB X).row g8 (fun j e => by have := (World.ownsRow.lt hx0 j e).1; omega)
    have KR8 := UC (RowDr.keep (UB DM).more g8 (UB KR) (by decide))
    have KB8 := RowDr.keep (UB DM).more g8 (UB KB) (by decide)
    have z8 := g8.size
    obtain ⟨q1, q2, hv, _⟩ := DM8.more.form
    have hl8 : (lm ++ [r]).length = lm.length + 1 := by simp
    replace hv : v8 = .slice q1 (lm.length + 1) q2 := hv.trans (by show Value.slice q1 (lm ++ [r]).length q2 = _; rw [hl8])
    subst hv
    clear hl8
    replace DM := UC DM8
    replace X := UC X8
    replace KB := UC KB8
    obtain ⟨d0, d1, d2, d3, d4, d5, d6, d7, d8, d9, d10⟩ := cells11 (UB KR8)
    obtain ⟨f0, f1, f2, f3, f4, f5, f6, f7, f8, f9, f10⟩ := frozen11 (UB KR8)
    clear hx0 h8 g8 hw8 DM8 X8 KB8 KG DD KR db1 db2 db3 db4 db5
    refine (UB HK).out _ _ (VB (by kernel_rfl) VL) ?_
    clear HK K
    go_simp
    repeat ((first | (refine VN ?_ (UB hA) rfl rfl rfl (by rfl) (fun _ _ _ h => h) ?_ ?_; rotate_left; · (intro w; go_simp <;> with_reducible rfl)) | refine VM (UB hA) rfl rfl (by rfl) (fun _ _ _ h => h) ?_); go_simp)
    refine runC (UB hA) rfl rfl (by kernel_rfl) (by kernel_rfl) (fun K hK => ?_)
    have HK := UC hK
    clear hK
    go_simp
    refine (UB HK).out _ _ (VB (by kernel_rfl) VL) ?_
    clear HK K
    go_simp
    refine doneC (UB hA) rfl ?_
    clear hA
    clear d0 d1 d2 d3 d4 d5 d6 d7 d8 d9 d10 f0 f1 f2 f3 f4 f5 f6 f7 f8 f9 f10
    have gs := grown_setCell u2 ⟨w1.heap.size, 8, none⟩ (.slice q1 (lm.length + 1) q2)
    replace DM := UC ((UB DM).off (UB KR8) (by decide) gs)
    replace X := UC ((UB X).row gs (fun j e => by cases e; show w.heap.size ≤ w1.heap.size; omega))
    replace KB := UC (block_grown gs (UB KB) (by simp; omega))
    have KR := UC (UV (UB KR8) 8 (.slice q1 (lm.length + 1) q2))
    have zs2 := gs.size
    clear gs KR8
    generalize u2.setCell ⟨w1.heap.size, 8, none⟩ (.slice q1 (lm.length + 1) q2) = WE at *
    go_wp2_with fail
    have HM9 : moreN WE w1.heap.size = lm.length + 1 := moreN_is (cells11 (UB KR)).2.2.2.2.2.2.2.2.1
    exact ⟨⟨_, lm ++ [r], by simp; omega, UB KR, UB DM, UB KB, UB X, by omega⟩, by rw [HM9, UB HMN]; omega⟩
   ·rw [decide_eq_false hlt]
    obtain ⟨d0, d1, d2, d3, d4, d5, d6, d7, d8, d9, d10⟩ := cells11 (UB KR)
    obtain ⟨p0, p1, p2, p3, p4, p5, p6, p7, p8, p9, p10⟩ := cells11 (UB KB)
    obtain ⟨f0, f1, f2, f3, f4, f5, f6, f7, f8, f9, f10⟩ := frozen11 (UB KB)
    go_wp2_with fail
    clear d0 d1 d2 d3 d4 d5 d6 d7 d8 d9 d10 f0 f1 f2 f3 f4 f5 f6 f7 f8 f9 f10 p0 p1 p2 p3 p4 p5 p6 p7 p8 p9 p10
    have gf := set11_grown (c0 := .int .i64 m.id) (c1 := .bool m.reply) (c2 := .int .i64 m.op) (c3 := .bool m.auth) (c4 := .int .i64 m.code) (c5 := .slice xq m.qs.length yq) (c6 := .slice xa m.ans.length ya) (c7 := .slice xb m.aus.length yb) (c8 := .slice r1 lm.length r2) (c9 := .slice xp m.pres.length yp) (c10 := .slice xu m.ups.length yu) (UB KB)
    have kf := (set11_is (c0 := .int .i64 m.id) (c1 := .bool m.reply) (c2 := .int .i64 m.op) (c3 := .bool m.auth) (c4 := .int .i64 m.code) (c5 := .slice xq m.qs.length yq) (c6 := .slice xa m.ans.length ya) (c7 := .slice xb m.aus.length yb) (c8 := .slice r1 lm.length r2) (c9 := .slice xp m.pres.length yp) (c10 := .slice xu m.ups.length yu) (UB KB)).1
    have DF := ((UB DM).weak).off (UB KB) (by decide) gf
    have XF := (UB X).row gf (fun j e => by cases e; exact Nat.le_refl _)
    unfold set11 at gf kf DF XF
    refine bodyPost_ret (results_cell_row rfl _ _ w.heap.size 27 #[.int .i64 m.id, .bool m.reply, .int .i64 m.op, .bool m.auth, .int .i64 m.code, .slice xq m.qs.length yq, .slice xa m.ans.length ya, .slice xb m.aus.length yb, .slice r1 lm.length r2, .slice xp m.pres.length yp, .slice xu m.ups.length yu] (0, 0) _ rfl kf Tryz.underlying27 rfl (by kernel_rfl)) rfl ?_
    exact ⟨_, _, _, _, _, _, _, ⟨m.id, m.reply, m.op, m.auth, m.code, m.qs, m.ans, m.aus, lm, m.pres, m.ups⟩, rfl, DF, XF⟩
end Go.Proofs.YtbabmdiklefgcaaGreatDoor
