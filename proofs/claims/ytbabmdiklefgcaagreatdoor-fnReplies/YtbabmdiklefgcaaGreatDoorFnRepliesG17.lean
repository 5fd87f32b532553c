/-
  Contract of the specification's l4draw.
-/
import Derived.Test.YtbabmdiklefgcaaGreatDoorFnRepliesG15
import Derived.Test.YtbabmdiklefgcaaGreatDoorFnRepliesG09
import Derived.Test.YtbabmdiklefgcaaGreatDoorFnRepliesG07
import Derived.Test.YtbabmdiklefgcaaGreatDoorFnRepliesG16
import Derived.Deep.Cut
namespace Go.Proofs.YtbabmdiklefgcaaGreatDoor
open Go.RowKit
set_option linter.unusedVariables false

theorem set11_grown {w : World} {b : Nat} {c0 c1 c2 c3 c4 c5 c6 c7 c8 c9 c10 : Value} {cc : Array Value} {t : TypeId} (h : w.heap[b]? = some (.cells cc t)) : w.grownBy (set11 w b c0 c1 c2 c3 c4 c5 c6 c7 c8 c9 c10) (some b) := by
 unfold set11
 exact (grown_trans (grown_trans (grown_trans (grown_trans (grown_trans (grown_trans (grown_trans (grown_trans (grown_trans (grown_trans (grown_setCell w ⟨b, 0, none⟩ c0) (grown_setCell _ ⟨b, 1, none⟩ c1)) (grown_setCell _ ⟨b, 2, none⟩ c2)) (grown_setCell _ ⟨b, 3, none⟩ c3)) (grown_setCell _ ⟨b, 4, none⟩ c4)) (grown_setCell _ ⟨b, 5, none⟩ c5)) (grown_setCell _ ⟨b, 6, none⟩ c6)) (grown_setCell _ ⟨b, 7, none⟩ c7)) (grown_setCell _ ⟨b, 8, none⟩ c8)) (grown_setCell _ ⟨b, 9, none⟩ c9)) (grown_setCell _ ⟨b, 10, none⟩ c10))
def DrawnMs (w : World) (g : Nat) (a : Option Addr) (len cap : Nat) (e : Ending) (w' : World) : Prop :=
 ∃ vq va vb vm vp vu s1 s2 s3, ∃ m : Mg, e = .returned (.agg #[.int .i64 m.id, .bool m.reply, .int .i64 m.op, .bool m.auth, .int .i64 m.code, vq, va, vb, vm, vp, vu]) ∧ DrawMs w.heap.size s1 s2 s3 w' vq va vb vm vp vu m ∧ m.qs.length = 1 ∧ (m.ans.length ≤ 20 ∧ m.more.length ≤ 20 ∧ m.ups.length ≤ 20) ∧ CurX w w' g a len cap
theorem info_rrD : (Tryz.prog.info? 63).map (fun i => (i.zero, i.size, i.bytes)) = some (some (.agg #[.slice none 0 0, .int .i64 0, .int .i64 0, .int .i64 0, .slice none 0 0, .slice none 0 0, .slice none 0 0]), 7, 120) := by kernel_rfl
theorem info_WantD : (Tryz.prog.info? 66).map (fun i => (i.zero, i.size, i.bytes)) = some (some (.agg #[.slice none 0 0, .int .i64 0, .int .i64 0, .int .i64 0, .slice none 0 0, .slice none 0 0, .slice none 0 0, .int .i64 0, .bool false]), 9, 136) := by kernel_rfl
set_option maxHeartbeats 4000000 in
set_option maxRecDepth 100000 in
theorem l4draw_any {g : Nat} {a : Option Addr} {len cap : Nat} {w : World} (hc : Cur w g a len cap) (hL : Code w g a len) (hm : len ≤ maxLen) :
  Calls Tryz.prog 27 #[.pointer (some ⟨g, 0, none⟩)] w (DrawnMs w g a len cap) := by
 have hg := hc.lt
 have HM := UC hm
 have X0 := CurX.start hc hL
 have ba := UI (w := w) (.cells #[.int .i64 0, .bool false, .int .i64 0, .bool false, .int .i64 0, .slice none 0 0, .slice none 0 0, .slice none 0 0, .slice none 0 0, .slice none 0 0, .slice none 0 0] 27)
 have KB := UC (heap_alloc_new w (.cells #[.int .i64 0, .bool false, .int .i64 0, .bool false, .int .i64 0, .slice none 0 0, .slice none 0 0, .slice none 0 0, .slice none 0 0, .slice none 0 0, .slice none 0 0] 27))
 have X := UC (X0.below ba)
 have zb := VC (UB KB)
 clear hc hL hm X0 ba
 go_enter Tryz.func27, Tryz.ntmps27
 go_wp2_with fail
 generalize w.alloc (.cells #[.int .i64 0, .bool false, .int .i64 0, .bool false, .int .i64 0, .slice none 0 0, .slice none 0 0, .slice none 0 0, .slice none 0 0, .slice none 0 0, .slice none 0 0] 27) = W at *
 refine (l1Below_any 999 (UB X).cur (UB X).code (UB HM) (by omega) (by omega)).mono ?_
 rintro e w1 ⟨y, rfl, hy0, hy1, c1, g1⟩
 replace KB := UC (block_grown g1 (UB KB) (by simp; omega))
 replace X := UC ((UB X).step c1 g1)
 have zg1 := g1.size
 clear c1 g1
 have KZ := UC (heap_alloc_new w1 (.cells #[.int .i64 0, .int .i64 7, .int .i64 65535, .int .i64 y] 3))
 have bz := UI (w := w1) (.cells #[.int .i64 0, .int .i64 7, .int .i64 65535, .int .i64 y] 3)
 replace X := UC ((UB X).below bz)
 replace KB := UC (UE bz (UB KB))
 have zz := VC (UB KZ)
 have zb1 := bz.size
 clear bz
 go_wp2_with fail
 generalize hW2 : w1.alloc (.cells #[.int .i64 0, .int .i64 7, .int .i64 65535, .int .i64 y] 3) = W2 at *
 refine (l1PickInt_any w1.heap.size 4 (UB X).cur (UB X).code (UB HM) (by omega) (by omega) zz (by omega) (fun j hj => by match j, hj with | 0, _ => exact ⟨_, VE (UB KZ) 0⟩ | 1, _ => exact ⟨_, VE (UB KZ) 1⟩ | 2, _ => exact ⟨_, VE (UB KZ) 2⟩ | 3, _ => exact ⟨_, VE (UB KZ) 3⟩)).mono ?_
 rintro e w3 ⟨id, rfl, c3, g3⟩
 clear KZ zz
 replace KB := UC (block_grown g3 (UB KB) (by simp; omega))
 replace X := UC ((UB X).step c3 g3)
 have zg3 := g3.size
 clear c3 g3
 clear hW2
 go_wp2_with fail
 refine (l1Once_any 2 (UB X).cur (UB X).code (UB HM) (by omega) (by omega)).mono ?_
 rintro e w4 ⟨rp, rfl, c4, g4⟩
 replace KB := UC (block_grown g4 (UB KB) (by simp; omega))
 replace X := UC ((UB X).step c4 g4)
 have zg4 := g4.size
 clear c4 g4
 go_wp2_with fail
 refine (l1Once_any 3 (UB X).cur (UB X).code (UB HM) (by omega) (by omega)).mono ?_
 rintro e w5 ⟨au, rfl, c5, g5⟩
 replace KB := UC (block_grown g5 (UB KB) (by simp; omega))
 replace X := UC ((UB X).step c5 g5)
 have zg5 := g5.size
 clear c5 g5
 go_wp2_with fail
 refine (l1Below_any 11 (UB X).cur (UB X).code (UB HM) (by omega) (by omega)).mono ?_
 rintro e w6 ⟨co, rfl, hc0, hc1, c6, g6⟩
 replace KB := UC (block_grown g6 (UB KB) (by simp; omega))
 replace X := UC ((UB X).step c6 g6)
 have zg6 := g6.size
 clear c6 g6
 have KR := UC (heap_alloc_new w6 (.cells #[.int .i64 id, .bool rp, .int .i64 0, .bool au, .int .i64 co, .slice none 0 0, .slice none 0 0, .slice none 0 0, .slice none 0 0, .slice none 0 0, .slice none 0 0] 27))
 have ba := UI (w := w6) (.cells #[.int .i64 id, .bool rp, .int .i64 0, .bool au, .int .i64 co, .slice none 0 0, .slice none 0 0, .slice none 0 0, .slice none 0 0, .slice none 0 0, .slice none 0 0] 27)
 replace X := UC ((UB X).below ba)
 replace KB := UC (UE ba (UB KB))
 have zr := VC (UB KR)
 have za := ba.size
 clear ba
 go_wp2_with fail
 generalize w6.alloc (.cells #[.int .i64 id, .bool rp, .int .i64 0, .bool au, .int .i64 co, .slice none 0 0, .slice none 0 0, .slice none 0 0, .slice none 0 0, .slice none 0 0, .slice none 0 0] 27) = W7 at *
 refine (l2draw_any (UB X).cur (UB X).code (UB HM)).mono ?_
 rintro e w8 ⟨v8, n, rfl, _, o8, c8, g8⟩
 obtain ⟨n1, n2, rfl, _⟩ := o8.hasL.form
 have ON := UC (o8.ownT.mono (Nat.zero_le _))
 clear o8
 replace KB := UC (block_grown g8 (UB KB) (by simp; omega))
 replace KR := UC (block_grown g8 (UB KR) (by simp; omega))
 replace X := UC ((UB X).step c8 g8)
 have zg8 := g8.size
 clear c8 g8
 have KZ := UC (heap_alloc_new w8 (.cells #[.int .i64 1, .int .i64 255, .int .i64 12, .int .i64 6] 3))
 have bz := UI (w := w8) (.cells #[.int .i64 1, .int .i64 255, .int .i64 12, .int .i64 6] 3)
 replace X := UC ((UB X).below bz)
 replace KB := UC (UE bz (UB KB))
 replace KR := UC (UE bz (UB KR))
 have zz := VC (UB KZ)
 have zb2 := bz.size
 clear bz
 replace ON := UC ((UB ON).below (UI (w := w8) (.cells #[.int .i64 1, .int .i64 255, .int .i64 12, .int .i64 6] 3)))
 go_wp2_with fail
 generalize hW9 : w8.alloc (.cells #[.int .i64 1, .int .i64 255, .int .i64 12, .int .i64 6] 3) = W9 at *
 refine (l1PickInt_any w8.heap.size 4 (UB X).cur (UB X).code (UB HM) (by omega) (by omega) zz (by omega) (fun j hj => by match j, hj with | 0, _ => exact ⟨_, VE (UB KZ) 0⟩ | 1, _ => exact ⟨_, VE (UB KZ) 1⟩ | 2, _ => exact ⟨_, VE (UB KZ) 2⟩ | 3, _ => exact ⟨_, VE (UB KZ) 3⟩)).mono ?_
 rintro e w10 ⟨ty, rfl, c10, g10⟩
 clear KZ zz
 replace ON := UC ((UB ON).cur (UB X).cur g10)
 replace KB := UC (block_grown g10 (UB KB) (by simp; omega))
 replace KR := UC (block_grown g10 (UB KR) (by simp; omega))
 replace X := UC ((UB X).step c10 g10)
 have zg10 := g10.size
 clear c10 g10
 clear hW9
 have KQ := UC (heap_alloc_new w10 (.cells #[.slice n1 n.length n2, .int .i64 ty] 39))
 have bq := UI (w := w10) (.cells #[.slice n1 n.length n2, .int .i64 ty] 39)
 replace X := UC ((UB X).below bq)
 replace KB := UC (UE bq (UB KB))
 replace KR := UC (UE bq (UB KR))
 replace ON := UC ((UB ON).below bq)
 have zq := VC (UB KQ)
 have zq2 := bq.size
 clear bq
 obtain ⟨d0, d1, d2, d3, d4, d5, d6, d7, d8, d9, d10⟩ := cells11 (UB KR)
 obtain ⟨f0, f1, f2, f3, f4, f5, f6, f7, f8, f9, f10⟩ := frozen11 (UB KR)
 go_wp2_with fail
 clear d0 d1 d2 d3 d4 d5 d6 d7 d8 d9 d10 f0 f1 f2 f3 f4 f5 f6 f7 f8 f9 f10
 generalize w10.alloc (.cells #[.slice n1 n.length n2, .int .i64 ty] 39) = W11 at *
 have gs := grown_setCell W11 ⟨w6.heap.size, 5, none⟩ (.slice (some ⟨w10.heap.size, 0, none⟩) 1 1)
 replace KQ := UC (block_grown gs (UB KQ) (by simp; omega))
 replace ON := UC ((UB ON).off (UB KR) (by decide) (by decide) gs)
 replace X := UC ((UB X).row gs (fun j e => by cases e; show w.heap.size ≤ w6.heap.size; omega))
 replace KB := UC (block_grown gs (UB KB) (by simp; omega))
 have KR2 : Hid ((W11.setCell ⟨w6.heap.size, 5, none⟩ (.slice (some ⟨w10.heap.size, 0, none⟩) 1 1)).heap[w6.heap.size]? = some (.cells #[.int .i64 id, .bool rp, .int .i64 0, .bool au, .int .i64 co, .slice (some ⟨w10.heap.size, 0, none⟩) 1 1, .slice none 0 0, .slice none 0 0, .slice none 0 0, .slice none 0 0, .slice none 0 0] 27)) := UV (UB KR) 5 _
 replace KR := KR2
 have zs := gs.size
 clear gs KR2
 generalize W11.setCell ⟨w6.heap.size, 5, none⟩ (.slice (some ⟨w10.heap.size, 0, none⟩) 1 1) = W12 at *
 have DM : Hid (DrawMs w.heap.size w.heap.size w.heap.size w.heap.size W12 (.slice (some ⟨w10.heap.size, 0, none⟩) 1 1) nilV nilV nilV nilV nilV ⟨id, rp, 0, au, co, [⟨n, ty⟩], [], [], [], [], []⟩) := UC ⟨RowDr.one drawnQu (vs := [.slice n1 n.length n2, .int .i64 ty]) (UB KQ) ⟨_, rfl, UB ON⟩ (by omega) (by omega), RowDr.nil _, RowDr.nil _, RowDr.nil _, RowDr.nil _, RowDr.nil _, Nat.le_refl _, Nat.le_refl _, by omega, Nat.le_refl _, by omega, ⟨bytRs_nil, bytRs_nil, bytRs_nil⟩⟩
 refine (l1Once_any 2 (UB X).cur (UB X).code (UB HM) (by omega) (by omega)).mono ?_
 rintro e w13 ⟨bb, rfl, c13, g13⟩
 replace ON := UC ((UB ON).cur (UB X).cur g13)
 replace DM := UC ((UB DM).cur (UB X).cur g13)
 replace KB := UC (block_grown g13 (UB KB) (by simp; omega))
 replace KR := UC (block_grown g13 (UB KR) (by simp; omega))
 replace KQ := UC (block_grown g13 (UB KQ) (by simp; omega))
 replace X := UC ((UB X).step c13 g13)
 have zg13 := g13.size
 clear c13 g13
 cases bb
 ·-- an update
  obtain ⟨d0, d1, d2, d3, d4, d5, d6, d7, d8, d9, d10⟩ := cells11 (UB KR)
  obtain ⟨f0, f1, f2, f3, f4, f5, f6, f7, f8, f9, f10⟩ := frozen11 (UB KR)
  go_upto_region 17 with fail
  clear d0 d1 d2 d3 d4 d5 d6 d7 d8 d9 d10 f0 f1 f2 f3 f4 f5 f6 f7 f8 f9 f10
  have gs := grown_setCell w13 ⟨w6.heap.size, 2, none⟩ (.int .i64 5)
  replace DM := UC (((UB DM).off (UB KR) (by decide) gs).heads id 5 co rp au)
  replace ON := UC ((UB ON).off (UB KR) (by decide) (by decide) gs)
  replace X := UC ((UB X).row gs (fun j e => by cases e; show w.heap.size ≤ w6.heap.size; omega))
  replace KB := UC (block_grown gs (UB KB) (by simp; omega))
  replace KQ := UC (block_grown gs (UB KQ) (by simp; omega))
  have KR2 : Hid ((w13.setCell ⟨w6.heap.size, 2, none⟩ (.int .i64 5)).heap[w6.heap.size]? = some (.cells #[.int .i64 id, .bool rp, .int .i64 5, .bool au, .int .i64 co, .slice (some ⟨w10.heap.size, 0, none⟩) 1 1, .slice none 0 0, .slice none 0 0, .slice none 0 0, .slice none 0 0, .slice none 0 0] 27)) := UC (UV (UB KR) 2 _)
  replace KR := KR2
  have zs5 := gs.size
  clear gs KR2
  generalize w13.setCell ⟨w6.heap.size, 2, none⟩ (.int .i64 5) = W15 at *
  obtain ⟨d0, d1, d2, d3, d4, d5, d6, d7, d8, d9, d10⟩ := cells11 (UB KR)
  obtain ⟨k0, k1⟩ := UM (UB KQ)
  obtain ⟨f0, f1⟩ := frozen2 (UB KQ)
  go_wp2_with fail
  clear d0 d1 d2 d3 d4 d5 d6 d7 d8 d9 d10 k0 k1 f0 f1
  replace DM := UC ((UB DM).typ (t := 6) rfl (UB KQ) (UB ON))
  have gs := grown_setCell W15 ⟨w10.heap.size, 1, none⟩ (.int .i64 6)
  replace X := UC ((UB X).row gs (fun j e => by cases e; show w.heap.size ≤ w10.heap.size; omega))
  replace KB := UC (block_grown gs (UB KB) (by simp; omega))
  replace KR := UC (block_grown gs (UB KR) (by simp; omega))
  have zs6 := gs.size
  clear gs KQ ON
  generalize W15.setCell ⟨w10.heap.size, 1, none⟩ (.int .i64 6) = W16 at *
  refine (l1Below_any 3 (UB X).cur (UB X).code (UB HM) (by omega) (by omega)).mono ?_
  rintro e w17 ⟨cnt, rfl, hcnt0, hcnt1, c1, g1⟩
  replace DM := UC ((UB DM).cur (UB X).cur g1)
  replace KB := UC (block_grown g1 (UB KB) (by simp; omega))
  replace KR := UC (block_grown g1 (UB KR) (by simp; omega))
  replace X := UC ((UB X).step c1 g1)
  have zg1 := g1.size
  clear c1 g1
  go_wp2_with fail
  go_loopw [8] (fun i wr => ∃ (va : Value) (s3 : Nat) (lp : List Wnt), (lp.length : Int) ≤ cnt ∧ i = .int .i64 lp.length ∧ wr.heap[w6.heap.size]? = some (.cells #[.int .i64 id, .bool rp, .int .i64 5, .bool au, .int .i64 co, .slice (some ⟨w10.heap.size, 0, none⟩) 1 1, .slice none 0 0, .slice none 0 0, .slice none 0 0, va, .slice none 0 0] 27) ∧ DrawMs w.heap.size w.heap.size w.heap.size s3 wr (.slice (some ⟨w10.heap.size, 0, none⟩) 1 1) nilV nilV nilV va nilV ⟨id, rp, 5, au, co, [⟨n, 6⟩], [], [], [], lp, []⟩ ∧ wr.heap[w.heap.size]? = some (.cells #[.int .i64 0, .bool false, .int .i64 0, .bool false, .int .i64 0, .slice none 0 0, .slice none 0 0, .slice none 0 0, .slice none 0 0, .slice none 0 0, .slice none 0 0] 27) ∧ CurX w wr g a len cap ∧ W12.heap.size ≤ wr.heap.size) (fun i _ => (cnt - intOf i).toNat)
  case atStart => exact ⟨nilV, _, [], by simpa using hcnt0, rfl, UB KR, UB DM, UB KB, UB X, by omega⟩
  case round =>
   obtain ⟨va, s3, lp, hk, rfl, kr, dm, kb, x, hz⟩ := hrel
   obtain ⟨r1, r2, rfl, _⟩ := dm.pres.form
   clear KR DM KB X
   have KR := UC kr
   have DM := UC dm
   have KB := UC kb
   have X := UC x
   clear kr dm kb x
   by_cases hlt : (lp.length : Int) < cnt
   ·have hl20 : lp.length ≤ 900 := by omega
    go_upto_region 22 with fail
    have bd := UX (w := wr)
    replace X := UC ((UB X).below bd)
    replace KB := UC (UE bd (UB KB))
    replace KR := UC (UE bd (UB KR))
    replace DM := UC ((UB DM).below bd)
    have zd := bd.size
    clear bd
    refine startC [0, 1, 2, 3, 4, 5, 6, 7] (by kernel_rfl) ⟨by kernel_rfl, by kernel_rfl, by kernel_rfl, by kernel_rfl⟩ 8 [(1, fun w' => w'.cell? ⟨w6.heap.size, 9, none⟩ = some (.slice r1 lp.length r2))] (fun hA => ?_)
    replace hA := UC hA
    generalize hWD : wr.drew = WD at *
    clear hWD
    repeat ((first | (refine VN ?_ (UB hA) rfl rfl rfl (by rfl) (fun _ _ _ h => h) ?_ ?_; rotate_left; · (intro w; go_simp <;> with_reducible rfl)) | refine VM (UB hA) rfl rfl (by rfl) (fun _ _ _ h => h) ?_); go_simp)
    refine takeC ?_ (UB hA) rfl rfl rfl (by rfl) (fun _ _ _ h => h) (.head _) (cells11 (UB KR)).2.2.2.2.2.2.2.2.2.1 ?_ ?_; rotate_left; (· (intro w hSw; (try dsimp only at hSw); go_simp <;> with_reducible rfl)); go_simp
    repeat ((first | (refine VN ?_ (UB hA) rfl rfl rfl (by rfl) (fun _ _ _ h => h) ?_ ?_; rotate_left; · (intro w; go_simp <;> with_reducible rfl)) | refine VM (UB hA) rfl rfl (by rfl) (fun _ _ _ h => h) ?_); go_simp)
    refine runC (UB hA) rfl rfl (by kernel_rfl) (by kernel_rfl) (fun K hK => ?_)
    have HK := UC hK
    clear hK
    go_simp
    refine (l4drawWant_any true (UB X).cur (UB X).code (UB HM)).mono ?_
    rintro e u1 ⟨vn, vt, vx, vi, x, rfl, DR, c1, g1⟩
    obtain ⟨p1, p2, rfl, _⟩ := DR.hasR.name.form
    obtain ⟨t1, t2, rfl, _⟩ := DR.hasR.to.form
    obtain ⟨x1, x2, rfl, _⟩ := DR.hasR.text.form
    obtain ⟨i1, i2, rfl, _⟩ := DR.hasR.nums.form
    replace DM := UC ((UB DM).cur (UB X).cur g1)
    replace KB := UC (block_grown g1 (UB KB) (by simp; omega))
    replace KR := UC (block_grown g1 (UB KR) (by simp; omega))
    replace X := UC ((UB X).step c1 g1)
    have zg1 := g1.size
    clear c1 g1
    have DD := UC DR
    clear DR
    refine (UB HK).out _ _ (keepC_yes (cells11 (UB KR)).2.2.2.2.2.2.2.2.2.1 VL) ?_
    clear HK K
    go_simp
    repeat ((first | (refine VN ?_ (UB hA) rfl rfl rfl (by rfl) (fun _ _ _ h => h) ?_ ?_; rotate_left; · (intro w; go_simp <;> with_reducible rfl)) | refine VM (UB hA) rfl rfl (by rfl) (fun _ _ _ h => h) ?_); go_simp)
    refine runC (UB hA) rfl rfl (by kernel_rfl) (by kernel_rfl) (fun K hK => ?_)
    have HK := UC hK
    clear hK
    go_simp
    have KG := UC (heap_alloc_new u1 (.cells #[.slice p1 x.rr.name.length p2, .int .i64 x.rr.type, .int .i64 x.rr.ttl, .int .i64 x.rr.addr, .slice t1 x.rr.to.length t2, .slice x1 x.rr.text.length x2, .slice i1 x.rr.nums.length i2, .int .i64 x.cls, .bool x.bare] 66))
    have bg := UI (w := u1) (.cells #[.slice p1 x.rr.name.length p2, .int .i64 x.rr.type, .int .i64 x.rr.ttl, .int .i64 x.rr.addr, .slice t1 x.rr.to.length t2, .slice x1 x.rr.text.length x2, .slice i1 x.rr.nums.length i2, .int .i64 x.cls, .bool x.bare] 66)
    replace X := UC ((UB X).below bg)
    replace KB := UC (UE bg (UB KB))
    replace KR := UC (UE bg (UB KR))
    replace DM := UC ((UB DM).below bg)
    replace DD := UC ((UB DD).below bg)
    have zg := bg.size
    clear bg
    refine (UB HK).out _ _ (keepC_yes (cells11 (UB KR)).2.2.2.2.2.2.2.2.2.1 VL) ?_
    clear HK K
    go_simp
    obtain ⟨cs0, hx0⟩ := (UB DM).pres.own
    have db1 := (UB DM).b1
    have db2 := (UB DM).b2
    have db3 := (UB DM).b3
    have db4 := (UB DM).b4
    have db5 := (UB DM).b5
    refine runC (UB hA) rfl rfl (by kernel_rfl) (by kernel_rfl) (fun K hK => ?_)
    have HK := UC hK
    clear hK
    refine append_oneW _ _ 25 66 rfl Tryz.underlying25 _ 9 136 (by omega) (by omega) info_WantD rfl w.heap.size (.slice r1 lp.length r2) lp.length rfl u1.heap.size [.slice p1 x.rr.name.length p2, .int .i64 x.rr.type, .int .i64 x.rr.ttl, .int .i64 x.rr.addr, .slice t1 x.rr.to.length t2, .slice x1 x.rr.text.length x2, .slice i1 x.rr.nums.length i2, .int .i64 x.cls, .bool x.bare] rfl ⟨cs0, hx0⟩ (UB KG) rfl (by simp [Value.oneCell']) (by first | omega | simp) (by omega) ?_
    intro v8 u2 h8 g8 hw8
    have DM8 := (UB DM).snocP rfl (vs := [.slice p1 x.rr.name.length p2, .int .i64 x.rr.type, .int .i64 x.rr.ttl, .int .i64 x.rr.addr, .slice t1 x.rr.to.length t2, .slice x1 x.rr.text.length x2, .slice i1 x.rr.nums.length i2, .int .i64 x.cls, .bool x.bare]) (x := x) ⟨_, _, _, _, rfl, UB DD⟩ g8 h8
    have X8 := (UB X).row g8 (fun j e => by have := (World.ownsRow.lt hx0 j e).1; omega)
    have KR8 := UC (RowDr.keep (UB DM).pres g8 (UB KR) (by decide))
    have KB8 := RowDr.keep (UB DM).pres g8 (UB KB) (by decide)
    have z8 := g8.size
    obtain ⟨q1, q2, hv, _⟩ := DM8.pres.form
    have hl8 : (lp ++ [x]).length = lp.length + 1 := by simp
    replace hv : v8 = .slice q1 (lp.length + 1) q2 := hv.trans (by show Value.slice q1 (lp ++ [x]).length q2 = _; rw [hl8])
    subst hv
    clear hl8
    replace DM := UC DM8
    replace X := UC X8
    replace KB := UC KB8
    obtain ⟨d0, d1, d2, d3, d4, d5, d6, d7, d8, d9, d10⟩ := cells11 (UB KR8)
    obtain ⟨f0, f1, f2, f3, f4, f5, f6, f7, f8, f9, f10⟩ := frozen11 (UB KR8)
    clear hx0 h8 g8 hw8 DM8 X8 KB8 KG DD KR db1 db2 db3 db4 db5
    refine (UB HK).out _ _ (VB (by kernel_rfl) VL) ?_
    clear HK K
    go_simp
    repeat ((first | (refine VN ?_ (UB hA) rfl rfl rfl (by rfl) (fun _ _ _ h => h) ?_ ?_; rotate_left; · (intro w; go_simp <;> with_reducible rfl)) | refine VM (UB hA) rfl rfl (by rfl) (fun _ _ _ h => h) ?_); go_simp)
    refine runC (UB hA) rfl rfl (by kernel_rfl) (by kernel_rfl) (fun K hK => ?_)
    have HK := UC hK
    clear hK
    go_simp
    refine (UB HK).out _ _ (VB (by kernel_rfl) VL) ?_
    clear HK K
    go_simp
    refine doneC (UB hA) rfl ?_
    clear hA
    clear d0 d1 d2 d3 d4 d5 d6 d7 d8 d9 d10 f0 f1 f2 f3 f4 f5 f6 f7 f8 f9 f10
    have gs := grown_setCell u2 ⟨w6.heap.size, 9, none⟩ (.slice q1 (lp.length + 1) q2)
    replace DM := UC ((UB DM).off (UB KR8) (by decide) gs)
    replace X := UC ((UB X).row gs (fun j e => by cases e; show w.heap.size ≤ w6.heap.size; omega))
    replace KB := UC (block_grown gs (UB KB) (by simp; omega))
    have KR := UC (UV (UB KR8) 9 (.slice q1 (lp.length + 1) q2))
    have zs2 := gs.size
    clear gs KR8
    generalize u2.setCell ⟨w6.heap.size, 9, none⟩ (.slice q1 (lp.length + 1) q2) = WE at *
    go_wp2_with fail
    exact ⟨⟨_, _, lp ++ [x], by simp; omega, by simp <;> first | omega | go_num, UB KR, UB DM, UB KB, UB X, by omega⟩, by simp [intOf]; omega⟩
   ·-- the updates
    obtain ⟨a1, a2, ha⟩ : ∃ a1 a2, (Value.slice r1 lp.length r2) = .slice a1 lp.length a2 := ⟨_, _, rfl⟩
    rw [ha] at KR DM
    clear ha
    go_wp2_with fail
    refine (l1Below_any 4 (UB X).cur (UB X).code (UB HM) (by omega) (by omega)).mono ?_
    rintro e w18 ⟨cnt2, rfl, hcnt20, hcnt21, c1, g1⟩
    replace DM := UC ((UB DM).cur (UB X).cur g1)
    replace KB := UC (block_grown g1 (UB KB) (by simp; omega))
    replace KR := UC (block_grown g1 (UB KR) (by simp; omega))
    replace X := UC ((UB X).step c1 g1)
    have zg1 := g1.size
    clear c1 g1
    go_wp2_with fail
    go_loopw [9] (fun i wr => ∃ (va : Value) (s3 : Nat) (lu : List Wnt), (lu.length : Int) ≤ cnt2 ∧ i = .int .i64 lu.length ∧ wr.heap[w6.heap.size]? = some (.cells #[.int .i64 id, .bool rp, .int .i64 5, .bool au, .int .i64 co, .slice (some ⟨w10.heap.size, 0, none⟩) 1 1, .slice none 0 0, .slice none 0 0, .slice none 0 0, .slice a1 lp.length a2, va] 27) ∧ DrawMs w.heap.size w.heap.size w.heap.size s3 wr (.slice (some ⟨w10.heap.size, 0, none⟩) 1 1) nilV nilV nilV (.slice a1 lp.length a2) va ⟨id, rp, 5, au, co, [⟨n, 6⟩], [], [], [], lp, lu⟩ ∧ wr.heap[w.heap.size]? = some (.cells #[.int .i64 0, .bool false, .int .i64 0, .bool false, .int .i64 0, .slice none 0 0, .slice none 0 0, .slice none 0 0, .slice none 0 0, .slice none 0 0, .slice none 0 0] 27) ∧ CurX w wr g a len cap ∧ W12.heap.size ≤ wr.heap.size) (fun i _ => (cnt2 - intOf i).toNat)
    case atStart => exact ⟨nilV, _, [], by simpa using hcnt20, rfl, UB KR, UB DM, UB KB, UB X, by omega⟩
    case round =>
     obtain ⟨va, s3, lu, hk, rfl, kr, dm, kb, x, hz⟩ := hrel
     obtain ⟨r1, r2, rfl, _⟩ := dm.ups.form
     clear KR DM KB X
     have KR := UC kr
     have DM := UC dm
     have KB := UC kb
     have X := UC x
     clear kr dm kb x
     by_cases hlt : (lu.length : Int) < cnt2
     ·have hl20 : lu.length ≤ 900 := by omega
      go_upto_region 27 with fail
      have bd := UX (w := wr)
      replace X := UC ((UB X).below bd)
      replace KB := UC (UE bd (UB KB))
      replace KR := UC (UE bd (UB KR))
      replace DM := UC ((UB DM).below bd)
      have zd := bd.size
      clear bd
      refine startC [0, 1, 2, 3, 4, 5, 6, 7] (by kernel_rfl) ⟨by kernel_rfl, by kernel_rfl, by kernel_rfl, by kernel_rfl⟩ 8 [(1, fun w' => w'.cell? ⟨w6.heap.size, 10, none⟩ = some (.slice r1 lu.length r2))] (fun hA => ?_)
      replace hA := UC hA
      generalize hWD : wr.drew = WD at *
      clear hWD
      repeat ((first | (refine VN ?_ (UB hA) rfl rfl rfl (by rfl) (fun _ _ _ h => h) ?_ ?_; rotate_left; · (intro w; go_simp <;> with_reducible rfl)) | refine VM (UB hA) rfl rfl (by rfl) (fun _ _ _ h => h) ?_); go_simp)
      refine takeC ?_ (UB hA) rfl rfl rfl (by rfl) (fun _ _ _ h => h) (.head _) (cells11 (UB KR)).2.2.2.2.2.2.2.2.2.2 ?_ ?_; rotate_left; (· (intro w hSw; (try dsimp only at hSw); go_simp <;> with_reducible rfl)); go_simp
      repeat ((first | (refine VN ?_ (UB hA) rfl rfl rfl (by rfl) (fun _ _ _ h => h) ?_ ?_; rotate_left; · (intro w; go_simp <;> with_reducible rfl)) | refine VM (UB hA) rfl rfl (by rfl) (fun _ _ _ h => h) ?_); go_simp)
      refine runC (UB hA) rfl rfl (by kernel_rfl) (by kernel_rfl) (fun K hK => ?_)
      have HK := UC hK
      clear hK
      go_simp
      refine (l4drawWant_any false (UB X).cur (UB X).code (UB HM)).mono ?_
      rintro e u1 ⟨vn, vt, vx, vi, x, rfl, DR, c1, g1⟩
      obtain ⟨p1, p2, rfl, _⟩ := DR.hasR.name.form
      obtain ⟨t1, t2, rfl, _⟩ := DR.hasR.to.form
      obtain ⟨x1, x2, rfl, _⟩ := DR.hasR.text.form
      obtain ⟨i1, i2, rfl, _⟩ := DR.hasR.nums.form
      replace DM := UC ((UB DM).cur (UB X).cur g1)
      replace KB := UC (block_grown g1 (UB KB) (by simp; omega))
      replace KR := UC (block_grown g1 (UB KR) (by simp; omega))
      replace X := UC ((UB X).step c1 g1)
      have zg1 := g1.size
      clear c1 g1
      have DD := UC DR
      clear DR
      refine (UB HK).out _ _ (keepC_yes (cells11 (UB KR)).2.2.2.2.2.2.2.2.2.2 VL) ?_
      clear HK K
      go_simp
      repeat ((first | (refine VN ?_ (UB hA) rfl rfl rfl (by rfl) (fun _ _ _ h => h) ?_ ?_; rotate_left; · (intro w; go_simp <;> with_reducible rfl)) | refine VM (UB hA) rfl rfl (by rfl) (fun _ _ _ h => h) ?_); go_simp)
      refine runC (UB hA) rfl rfl (by kernel_rfl) (by kernel_rfl) (fun K hK => ?_)
      have HK := UC hK
      clear hK
      go_simp
      have KG := UC (heap_alloc_new u1 (.cells #[.slice p1 x.rr.name.length p2, .int .i64 x.rr.type, .int .i64 x.rr.ttl, .int .i64 x.rr.addr, .slice t1 x.rr.to.length t2, .slice x1 x.rr.text.length x2, .slice i1 x.rr.nums.length i2, .int .i64 x.cls, .bool x.bare] 66))
      have bg := UI (w := u1) (.cells #[.slice p1 x.rr.name.length p2, .int .i64 x.rr.type, .int .i64 x.rr.ttl, .int .i64 x.rr.addr, .slice t1 x.rr.to.length t2, .slice x1 x.rr.text.length x2, .slice i1 x.rr.nums.length i2, .int .i64 x.cls, .bool x.bare] 66)
      replace X := UC ((UB X).below bg)
      replace KB := UC (UE bg (UB KB))
      replace KR := UC (UE bg (UB KR))
      replace DM := UC ((UB DM).below bg)
      replace DD := UC ((UB DD).below bg)
      have zg := bg.size
      clear bg
      refine (UB HK).out _ _ (keepC_yes (cells11 (UB KR)).2.2.2.2.2.2.2.2.2.2 VL) ?_
      clear HK K
      go_simp
      obtain ⟨cs0, hx0⟩ := (UB DM).ups.own
      have db1 := (UB DM).b1
      have db2 := (UB DM).b2
      have db3 := (UB DM).b3
      have db4 := (UB DM).b4
      have db5 := (UB DM).b5
      refine runC (UB hA) rfl rfl (by kernel_rfl) (by kernel_rfl) (fun K hK => ?_)
      have HK := UC hK
      clear hK
      refine append_oneW _ _ 25 66 rfl Tryz.underlying25 _ 9 136 (by omega) (by omega) info_WantD rfl s3 (.slice r1 lu.length r2) lu.length rfl u1.heap.size [.slice p1 x.rr.name.length p2, .int .i64 x.rr.type, .int .i64 x.rr.ttl, .int .i64 x.rr.addr, .slice t1 x.rr.to.length t2, .slice x1 x.rr.text.length x2, .slice i1 x.rr.nums.length i2, .int .i64 x.cls, .bool x.bare] rfl ⟨cs0, hx0⟩ (UB KG) rfl (by simp [Value.oneCell']) (by first | omega | simp) (by omega) ?_
      intro v8 u2 h8 g8 hw8
      have DM8 := (UB DM).snocU (vs := [.slice p1 x.rr.name.length p2, .int .i64 x.rr.type, .int .i64 x.rr.ttl, .int .i64 x.rr.addr, .slice t1 x.rr.to.length t2, .slice x1 x.rr.text.length x2, .slice i1 x.rr.nums.length i2, .int .i64 x.cls, .bool x.bare]) (x := x) ⟨_, _, _, _, rfl, UB DD⟩ g8 h8
      have X8 := (UB X).row g8 (fun j e => by have := (World.ownsRow.lt hx0 j e).1; omega)
      have KR8 := UC (RowDr.keep (UB DM).ups g8 (UB KR) (by decide))
      have KB8 := RowDr.keep (UB DM).ups g8 (UB KB) (by decide)
      have z8 := g8.size
      obtain ⟨q1, q2, hv, _⟩ := DM8.ups.form
      have hl8 : (lu ++ [x]).length = lu.length + 1 := by simp
      replace hv : v8 = .slice q1 (lu.length + 1) q2 := hv.trans (by show Value.slice q1 (lu ++ [x]).length q2 = _; rw [hl8])
      subst hv
      clear hl8
      replace DM := UC DM8
      replace X := UC X8
      replace KB := UC KB8
      obtain ⟨d0, d1, d2, d3, d4, d5, d6, d7, d8, d9, d10⟩ := cells11 (UB KR8)
      obtain ⟨f0, f1, f2, f3, f4, f5, f6, f7, f8, f9, f10⟩ := frozen11 (UB KR8)
      clear hx0 h8 g8 hw8 DM8 X8 KB8 KG DD KR db1 db2 db3 db4 db5
      refine (UB HK).out _ _ (VB (by kernel_rfl) VL) ?_
      clear HK K
      go_simp
      repeat ((first | (refine VN ?_ (UB hA) rfl rfl rfl (by rfl) (fun _ _ _ h => h) ?_ ?_; rotate_left; · (intro w; go_simp <;> with_reducible rfl)) | refine VM (UB hA) rfl rfl (by rfl) (fun _ _ _ h => h) ?_); go_simp)
      refine runC (UB hA) rfl rfl (by kernel_rfl) (by kernel_rfl) (fun K hK => ?_)
      have HK := UC hK
      clear hK
      go_simp
      refine (UB HK).out _ _ (VB (by kernel_rfl) VL) ?_
      clear HK K
      go_simp
      refine doneC (UB hA) rfl ?_
      clear hA
      clear d0 d1 d2 d3 d4 d5 d6 d7 d8 d9 d10 f0 f1 f2 f3 f4 f5 f6 f7 f8 f9 f10
      have gs := grown_setCell u2 ⟨w6.heap.size, 10, none⟩ (.slice q1 (lu.length + 1) q2)
      replace DM := UC ((UB DM).off (UB KR8) (by decide) gs)
      replace X := UC ((UB X).row gs (fun j e => by cases e; show w.heap.size ≤ w6.heap.size; omega))
      replace KB := UC (block_grown gs (UB KB) (by simp; omega))
      have KR := UC (UV (UB KR8) 10 (.slice q1 (lu.length + 1) q2))
      have zs2 := gs.size
      clear gs KR8
      generalize u2.setCell ⟨w6.heap.size, 10, none⟩ (.slice q1 (lu.length + 1) q2) = WE at *
      go_wp2_with fail
      exact ⟨⟨_, _, lu ++ [x], by simp; omega, by simp <;> first | omega | go_num, UB KR, UB DM, UB KB, UB X, by omega⟩, by simp [intOf]; omega⟩
     ·-- the end
      obtain ⟨d0, d1, d2, d3, d4, d5, d6, d7, d8, d9, d10⟩ := cells11 (UB KR)
      obtain ⟨p0, p1, p2, p3, p4, p5, p6, p7, p8, p9, p10⟩ := cells11 (UB KB)
      obtain ⟨f0, f1, f2, f3, f4, f5, f6, f7, f8, f9, f10⟩ := frozen11 (UB KB)
      go_wp2_with fail
      clear d0 d1 d2 d3 d4 d5 d6 d7 d8 d9 d10 f0 f1 f2 f3 f4 f5 f6 f7 f8 f9 f10 p0 p1 p2 p3 p4 p5 p6 p7 p8 p9 p10
      have gf := set11_grown (c0 := .int .i64 id) (c1 := .bool rp) (c2 := .int .i64 5) (c3 := .bool au) (c4 := .int .i64 co) (c5 := .slice (some ⟨w10.heap.size, 0, none⟩) 1 1) (c6 := .slice none 0 0) (c7 := .slice none 0 0) (c8 := .slice none 0 0) (c9 := .slice a1 lp.length a2) (c10 := .slice r1 lu.length r2) (UB KB)
      have kf := (set11_is (c0 := .int .i64 id) (c1 := .bool rp) (c2 := .int .i64 5) (c3 := .bool au) (c4 := .int .i64 co) (c5 := .slice (some ⟨w10.heap.size, 0, none⟩) 1 1) (c6 := .slice none 0 0) (c7 := .slice none 0 0) (c8 := .slice none 0 0) (c9 := .slice a1 lp.length a2) (c10 := .slice r1 lu.length r2) (UB KB)).1
      have DF := (UB DM).off (UB KB) (by decide) gf
      have XF := (UB X).row gf (fun j e => by cases e; exact Nat.le_refl _)
      unfold set11 at gf kf DF XF
      refine bodyPost_ret (results_cell_row rfl _ _ w.heap.size 27 #[.int .i64 id, .bool rp, .int .i64 5, .bool au, .int .i64 co, .slice (some ⟨w10.heap.size, 0, none⟩) 1 1, .slice none 0 0, .slice none 0 0, .slice none 0 0, .slice a1 lp.length a2, .slice r1 lu.length r2] (0, 0) _ rfl kf Tryz.underlying27 rfl (by kernel_rfl)) rfl ?_
      exact ⟨_, _, _, _, _, _, _, _, _, ⟨id, rp, 5, au, co, [⟨n, 6⟩], [], [], [], lp, lu⟩, rfl, DF, rfl, ⟨by simp, by simp, by show lu.length ≤ 20; omega⟩, XF⟩
 ·-- an ask
  go_wp2_with fail
  refine (l1Below_any 4 (UB X).cur (UB X).code (UB HM) (by omega) (by omega)).mono ?_
  rintro e w14 ⟨cnt, rfl, hcnt0, hcnt1, c1, g1⟩
  replace DM := UC ((UB DM).cur (UB X).cur g1)
  replace KB := UC (block_grown g1 (UB KB) (by simp; omega))
  replace KR := UC (block_grown g1 (UB KR) (by simp; omega))
  replace X := UC ((UB X).step c1 g1)
  have zg1 := g1.size
  clear c1 g1
  clear KQ ON
  go_wp2_with fail
  go_loopw [5] (fun i wr => ∃ (va : Value) (s1 s2 : Nat) (la : List Rec), (la.length : Int) ≤ cnt ∧ i = .int .i64 la.length ∧ wr.heap[w6.heap.size]? = some (.cells #[.int .i64 id, .bool rp, .int .i64 0, .bool au, .int .i64 co, .slice (some ⟨w10.heap.size, 0, none⟩) 1 1, va, .slice none 0 0, .slice none 0 0, .slice none 0 0, .slice none 0 0] 27) ∧ DrawMs w.heap.size s1 s2 w.heap.size wr (.slice (some ⟨w10.heap.size, 0, none⟩) 1 1) va nilV nilV nilV nilV ⟨id, rp, 0, au, co, [⟨n, ty⟩], la, [], [], [], []⟩ ∧ wr.heap[w.heap.size]? = some (.cells #[.int .i64 0, .bool false, .int .i64 0, .bool false, .int .i64 0, .slice none 0 0, .slice none 0 0, .slice none 0 0, .slice none 0 0, .slice none 0 0, .slice none 0 0] 27) ∧ CurX w wr g a len cap ∧ W12.heap.size ≤ wr.heap.size) (fun i _ => (cnt - intOf i).toNat)
  case atStart => exact ⟨nilV, _, _, [], by simpa using hcnt0, rfl, UB KR, UB DM, UB KB, UB X, by omega⟩
  case round =>
   obtain ⟨va, s1, s2, la, hk, rfl, kr, dm, kb, x, hz⟩ := hrel
   obtain ⟨r1, r2, rfl, _⟩ := dm.ans.form
   clear KR DM KB X
   have KR := UC kr
   have DM := UC dm
   have KB := UC kb
   have X := UC x
   clear kr dm kb x
   by_cases hlt : (la.length : Int) < cnt
   ·have hl20 : la.length ≤ 900 := by omega
    go_upto_region 8 with fail
    have bd := UX (w := wr)
    replace X := UC ((UB X).below bd)
    replace KB := UC (UE bd (UB KB))
    replace KR := UC (UE bd (UB KR))
    replace DM := UC ((UB DM).below bd)
    have zd := bd.size
    clear bd
    refine startC [0, 1, 2, 3, 4, 5, 6, 7] (by kernel_rfl) ⟨by kernel_rfl, by kernel_rfl, by kernel_rfl, by kernel_rfl⟩ 8 [(1, fun w' => w'.cell? ⟨w6.heap.size, 6, none⟩ = some (.slice r1 la.length r2))] (fun hA => ?_)
    replace hA := UC hA
    generalize hWD : wr.drew = WD at *
    clear hWD
    repeat ((first | (refine VN ?_ (UB hA) rfl rfl rfl (by rfl) (fun _ _ _ h => h) ?_ ?_; rotate_left; · (intro w; go_simp <;> with_reducible rfl)) | refine VM (UB hA) rfl rfl (by rfl) (fun _ _ _ h => h) ?_); go_simp)
    refine takeC ?_ (UB hA) rfl rfl rfl (by rfl) (fun _ _ _ h => h) (.head _) (cells11 (UB KR)).2.2.2.2.2.2.1 ?_ ?_; rotate_left; (· (intro w hSw; (try dsimp only at hSw); go_simp <;> with_reducible rfl)); go_simp
    repeat ((first | (refine VN ?_ (UB hA) rfl rfl rfl (by rfl) (fun _ _ _ h => h) ?_ ?_; rotate_left; · (intro w; go_simp <;> with_reducible rfl)) | refine VM (UB hA) rfl rfl (by rfl) (fun _ _ _ h => h) ?_); go_simp)
    refine runC (UB hA) rfl rfl (by kernel_rfl) (by kernel_rfl) (fun K hK => ?_)
    have HK := UC hK
    clear hK
    go_simp
    refine (l3drawQ_any (UB X).cur (UB X).code (UB HM)).mono ?_
    rintro e u1 ⟨vn, vt, vx, vi, r, rfl, dq, _, DR, _, c1, g1⟩
    have H8 := UC dq.2.1
    clear dq
    obtain ⟨p1, p2, rfl, _⟩ := DR.hasR.name.form
    obtain ⟨t1, t2, rfl, _⟩ := DR.hasR.to.form
    obtain ⟨x1, x2, rfl, _⟩ := DR.hasR.text.form
    obtain ⟨i1, i2, rfl, _⟩ := DR.hasR.nums.form
    replace DM := UC ((UB DM).cur (UB X).cur g1)
    replace KB := UC (block_grown g1 (UB KB) (by simp; omega))
    replace KR := UC (block_grown g1 (UB KR) (by simp; omega))
    replace X := UC ((UB X).step c1 g1)
    have zg1 := g1.size
    clear c1 g1
    have DD := UC DR
    clear DR
    refine (UB HK).out _ _ (keepC_yes (cells11 (UB KR)).2.2.2.2.2.2.1 VL) ?_
    clear HK K
    go_simp
    repeat ((first | (refine VN ?_ (UB hA) rfl rfl rfl (by rfl) (fun _ _ _ h => h) ?_ ?_; rotate_left; · (intro w; go_simp <;> with_reducible rfl)) | refine VM (UB hA) rfl rfl (by rfl) (fun _ _ _ h => h) ?_); go_simp)
    refine runC (UB hA) rfl rfl (by kernel_rfl) (by kernel_rfl) (fun K hK => ?_)
    have HK := UC hK
    clear hK
    go_simp
    have KG := UC (heap_alloc_new u1 (.cells #[.slice p1 r.name.length p2, .int .i64 r.type, .int .i64 r.ttl, .int .i64 r.addr, .slice t1 r.to.length t2, .slice x1 r.text.length x2, .slice i1 r.nums.length i2] 63))
    have bg := UI (w := u1) (.cells #[.slice p1 r.name.length p2, .int .i64 r.type, .int .i64 r.ttl, .int .i64 r.addr, .slice t1 r.to.length t2, .slice x1 r.text.length x2, .slice i1 r.nums.length i2] 63)
    replace X := UC ((UB X).below bg)
    replace KB := UC (UE bg (UB KB))
    replace KR := UC (UE bg (UB KR))
    replace DM := UC ((UB DM).below bg)
    replace DD := UC ((UB DD).below bg)
    have zg := bg.size
    clear bg
    refine (UB HK).out _ _ (keepC_yes (cells11 (UB KR)).2.2.2.2.2.2.1 VL) ?_
    clear HK K
    go_simp
    obtain ⟨cs0, hx0⟩ := (UB DM).ans.own
    have db1 := (UB DM).b1
    have db2 := (UB DM).b2
    have db3 := (UB DM).b3
    have db4 := (UB DM).b4
    have db5 := (UB DM).b5
    refine runC (UB hA) rfl rfl (by kernel_rfl) (by kernel_rfl) (fun K hK => ?_)
    have HK := UC hK
    clear hK
    refine append_oneW _ _ 24 63 rfl Tryz.underlying24 _ 7 120 (by omega) (by omega) info_rrD rfl w.heap.size (.slice r1 la.length r2) la.length rfl u1.heap.size [.slice p1 r.name.length p2, .int .i64 r.type, .int .i64 r.ttl, .int .i64 r.addr, .slice t1 r.to.length t2, .slice x1 r.text.length x2, .slice i1 r.nums.length i2] rfl ⟨cs0, hx0⟩ (UB KG) rfl (by simp [Value.oneCell']) (by first | omega | simp) (by omega) ?_
    intro v8 u2 h8 g8 hw8
    have DM8 := (UB DM).snocA rfl rfl (vs := [.slice p1 r.name.length p2, .int .i64 r.type, .int .i64 r.ttl, .int .i64 r.addr, .slice t1 r.to.length t2, .slice x1 r.text.length x2, .slice i1 r.nums.length i2]) (r := r) ⟨_, _, _, _, rfl, UB DD⟩ (UB H8) g8 h8
    have X8 := (UB X).row g8 (fun j e => by have := (World.ownsRow.lt hx0 j e).1; omega)
    have KR8 := UC (RowDr.keep (UB DM).ans g8 (UB KR) (by decide))
    have KB8 := RowDr.keep (UB DM).ans g8 (UB KB) (by decide)
    have z8 := g8.size
    obtain ⟨q1, q2, hv, _⟩ := DM8.ans.form
    have hl8 : (la ++ [r]).length = la.length + 1 := by simp
    replace hv : v8 = .slice q1 (la.length + 1) q2 := hv.trans (by show Value.slice q1 (la ++ [r]).length q2 = _; rw [hl8])
    subst hv
    clear hl8
    replace DM := UC DM8
    replace X := UC X8
    replace KB := UC KB8
    obtain ⟨d0, d1, d2, d3, d4, d5, d6, d7, d8, d9, d10⟩ := cells11 (UB KR8)
    obtain ⟨f0, f1, f2, f3, f4, f5, f6, f7, f8, f9, f10⟩ := frozen11 (UB KR8)
    clear hx0 h8 g8 hw8 DM8 X8 KB8 KG DD KR db1 db2 db3 db4 db5
    refine (UB HK).out _ _ (VB (by kernel_rfl) VL) ?_
    clear HK K
    go_simp
    repeat ((first | (refine VN ?_ (UB hA) rfl rfl rfl (by rfl) (fun _ _ _ h => h) ?_ ?_; rotate_left; · (intro w; go_simp <;> with_reducible rfl)) | refine VM (UB hA) rfl rfl (by rfl) (fun _ _ _ h => h) ?_); go_simp)
    refine runC (UB hA) rfl rfl (by kernel_rfl) (by kernel_rfl) (fun K hK => ?_)
    have HK := UC hK
    clear hK
    go_simp
    refine (UB HK).out _ _ (VB (by kernel_rfl) VL) ?_
    clear HK K
    go_simp
    refine doneC (UB hA) rfl ?_
    clear hA
    clear d0 d1 d2 d3 d4 d5 d6 d7 d8 d9 d10 f0 f1 f2 f3 f4 f5 f6 f7 f8 f9 f10
    have gs := grown_setCell u2 ⟨w6.heap.size, 6, none⟩ (.slice q1 (la.length + 1) q2)
    replace DM := UC ((UB DM).off (UB KR8) (by decide) gs)
    replace X := UC ((UB X).row gs (fun j e => by cases e; show w.heap.size ≤ w6.heap.size; omega))
    replace KB := UC (block_grown gs (UB KB) (by simp; omega))
    have KR := UC (UV (UB KR8) 6 (.slice q1 (la.length + 1) q2))
    have zs2 := gs.size
    clear gs KR8
    generalize u2.setCell ⟨w6.heap.size, 6, none⟩ (.slice q1 (la.length + 1) q2) = WE at *
    go_wp2_with fail
    exact ⟨⟨_, _, _, la ++ [r], by simp; omega, by simp <;> first | omega | go_num, UB KR, UB DM, UB KB, UB X, by omega⟩, by simp [intOf]; omega⟩
   ·-- the authorities
    have hka : la.length ≤ 3 := by omega
    obtain ⟨a1, a2, ha⟩ : ∃ a1 a2, (Value.slice r1 la.length r2) = .slice a1 la.length a2 := ⟨_, _, rfl⟩
    rw [ha] at KR DM
    clear ha
    go_wp2_with fail
    go_loopw [6] (fun i wr => ∃ (va : Value) (s1 s2 : Nat) (lb : List Rec), (lb.length : Int) ≤ 2 ∧ i = .int .i64 lb.length ∧ wr.heap[w6.heap.size]? = some (.cells #[.int .i64 id, .bool rp, .int .i64 0, .bool au, .int .i64 co, .slice (some ⟨w10.heap.size, 0, none⟩) 1 1, .slice a1 la.length a2, va, .slice none 0 0, .slice none 0 0, .slice none 0 0] 27) ∧ DrawMs w.heap.size s1 s2 w.heap.size wr (.slice (some ⟨w10.heap.size, 0, none⟩) 1 1) (.slice a1 la.length a2) va nilV nilV nilV ⟨id, rp, 0, au, co, [⟨n, ty⟩], la, lb, [], [], []⟩ ∧ wr.heap[w.heap.size]? = some (.cells #[.int .i64 0, .bool false, .int .i64 0, .bool false, .int .i64 0, .slice none 0 0, .slice none 0 0, .slice none 0 0, .slice none 0 0, .slice none 0 0, .slice none 0 0] 27) ∧ CurX w wr g a len cap ∧ W12.heap.size ≤ wr.heap.size) (fun i _ => (2 - intOf i).toNat)
    case atStart => exact ⟨nilV, _, _, [], by simp, rfl, UB KR, UB DM, UB KB, UB X, by omega⟩
    case round =>
     obtain ⟨va, s1, s2, lb, hk, rfl, kr, dm, kb, x, hz⟩ := hrel
     obtain ⟨r1, r2, rfl, _⟩ := dm.aus.form
     clear KR DM KB X
     have KR := UC kr
     have DM := UC dm
     have KB := UC kb
     have X := UC x
     clear kr dm kb x
     go_wp2_with fail
     refine (l1Below_any 3 (UB X).cur (UB X).code (UB HM) (by omega) (by omega)).mono ?_
     rintro e w16 ⟨y3, rfl, hy30, hy31, c1, g1⟩
     replace DM := UC ((UB DM).cur (UB X).cur g1)
     replace KB := UC (block_grown g1 (UB KB) (by simp; omega))
     replace KR := UC (block_grown g1 (UB KR) (by simp; omega))
     replace X := UC ((UB X).step c1 g1)
     have zg1 := g1.size
     clear c1 g1
     by_cases hlt : (lb.length : Int) < y3
     ·have hl20 : lb.length ≤ 900 := by omega
      go_upto_region 12 with fail
      have bd := UX (w := w16)
      replace X := UC ((UB X).below bd)
      replace KB := UC (UE bd (UB KB))
      replace KR := UC (UE bd (UB KR))
      replace DM := UC ((UB DM).below bd)
      have zd := bd.size
      clear bd
      refine startC [0, 1, 2, 3, 4, 5, 6, 7] (by kernel_rfl) ⟨by kernel_rfl, by kernel_rfl, by kernel_rfl, by kernel_rfl⟩ 8 [(1, fun w' => w'.cell? ⟨w6.heap.size, 7, none⟩ = some (.slice r1 lb.length r2))] (fun hA => ?_)
      replace hA := UC hA
      generalize hWD : w16.drew = WD at *
      clear hWD
      repeat ((first | (refine VN ?_ (UB hA) rfl rfl rfl (by rfl) (fun _ _ _ h => h) ?_ ?_; rotate_left; · (intro w; go_simp <;> with_reducible rfl)) | refine VM (UB hA) rfl rfl (by rfl) (fun _ _ _ h => h) ?_); go_simp)
      refine takeC ?_ (UB hA) rfl rfl rfl (by rfl) (fun _ _ _ h => h) (.head _) (cells11 (UB KR)).2.2.2.2.2.2.2.1 ?_ ?_; rotate_left; (· (intro w hSw; (try dsimp only at hSw); go_simp <;> with_reducible rfl)); go_simp
      repeat ((first | (refine VN ?_ (UB hA) rfl rfl rfl (by rfl) (fun _ _ _ h => h) ?_ ?_; rotate_left; · (intro w; go_simp <;> with_reducible rfl)) | refine VM (UB hA) rfl rfl (by rfl) (fun _ _ _ h => h) ?_); go_simp)
      refine runC (UB hA) rfl rfl (by kernel_rfl) (by kernel_rfl) (fun K hK => ?_)
      have HK := UC hK
      clear hK
      go_simp
      refine (l3drawQ_any (UB X).cur (UB X).code (UB HM)).mono ?_
      rintro e u1 ⟨vn, vt, vx, vi, r, rfl, dq, _, DR, _, c1, g1⟩
      have H8 := UC dq.2.1
      clear dq
      obtain ⟨p1, p2, rfl, _⟩ := DR.hasR.name.form
      obtain ⟨t1, t2, rfl, _⟩ := DR.hasR.to.form
      obtain ⟨x1, x2, rfl, _⟩ := DR.hasR.text.form
      obtain ⟨i1, i2, rfl, _⟩ := DR.hasR.nums.form
      replace DM := UC ((UB DM).cur (UB X).cur g1)
      replace KB := UC (block_grown g1 (UB KB) (by simp; omega))
      replace KR := UC (block_grown g1 (UB KR) (by simp; omega))
      replace X := UC ((UB X).step c1 g1)
      have zg1 := g1.size
      clear c1 g1
      have DD := UC DR
      clear DR
      refine (UB HK).out _ _ (keepC_yes (cells11 (UB KR)).2.2.2.2.2.2.2.1 VL) ?_
      clear HK K
      go_simp
      repeat ((first | (refine VN ?_ (UB hA) rfl rfl rfl (by rfl) (fun _ _ _ h => h) ?_ ?_; rotate_left; · (intro w; go_simp <;> with_reducible rfl)) | refine VM (UB hA) rfl rfl (by rfl) (fun _ _ _ h => h) ?_); go_simp)
      refine runC (UB hA) rfl rfl (by kernel_rfl) (by kernel_rfl) (fun K hK => ?_)
      have HK := UC hK
      clear hK
      go_simp
      have KG := UC (heap_alloc_new u1 (.cells #[.slice p1 r.name.length p2, .int .i64 r.type, .int .i64 r.ttl, .int .i64 r.addr, .slice t1 r.to.length t2, .slice x1 r.text.length x2, .slice i1 r.nums.length i2] 63))
      have bg := UI (w := u1) (.cells #[.slice p1 r.name.length p2, .int .i64 r.type, .int .i64 r.ttl, .int .i64 r.addr, .slice t1 r.to.length t2, .slice x1 r.text.length x2, .slice i1 r.nums.length i2] 63)
      replace X := UC ((UB X).below bg)
      replace KB := UC (UE bg (UB KB))
      replace KR := UC (UE bg (UB KR))
      replace DM := UC ((UB DM).below bg)
      replace DD := UC ((UB DD).below bg)
      have zg := bg.size
      clear bg
      refine (UB HK).out _ _ (keepC_yes (cells11 (UB KR)).2.2.2.2.2.2.2.1 VL) ?_
      clear HK K
      go_simp
      obtain ⟨cs0, hx0⟩ := (UB DM).aus.own
      have db1 := (UB DM).b1
      have db2 := (UB DM).b2
      have db3 := (UB DM).b3
      have db4 := (UB DM).b4
      have db5 := (UB DM).b5
      refine runC (UB hA) rfl rfl (by kernel_rfl) (by kernel_rfl) (fun K hK => ?_)
      have HK := UC hK
      clear hK
      refine append_oneW _ _ 24 63 rfl Tryz.underlying24 _ 7 120 (by omega) (by omega) info_rrD rfl s1 (.slice r1 lb.length r2) lb.length rfl u1.heap.size [.slice p1 r.name.length p2, .int .i64 r.type, .int .i64 r.ttl, .int .i64 r.addr, .slice t1 r.to.length t2, .slice x1 r.text.length x2, .slice i1 r.nums.length i2] rfl ⟨cs0, hx0⟩ (UB KG) rfl (by simp [Value.oneCell']) (by first | omega | simp) (by omega) ?_
      intro v8 u2 h8 g8 hw8
      have DM8 := (UB DM).snocB rfl (vs := [.slice p1 r.name.length p2, .int .i64 r.type, .int .i64 r.ttl, .int .i64 r.addr, .slice t1 r.to.length t2, .slice x1 r.text.length x2, .slice i1 r.nums.length i2]) (r := r) ⟨_, _, _, _, rfl, UB DD⟩ (UB H8) g8 h8
      have X8 := (UB X).row g8 (fun j e => by have := (World.ownsRow.lt hx0 j e).1; omega)
      have KR8 := UC (RowDr.keep (UB DM).aus g8 (UB KR) (by decide))
      have KB8 := RowDr.keep (UB DM).aus g8 (UB KB) (by decide)
      have z8 := g8.size
      obtain ⟨q1, q2, hv, _⟩ := DM8.aus.form
      have hl8 : (lb ++ [r]).length = lb.length + 1 := by simp
      replace hv : v8 = .slice q1 (lb.length + 1) q2 := hv.trans (by show Value.slice q1 (lb ++ [r]).length q2 = _; rw [hl8])
      subst hv
      clear hl8
      replace DM := UC DM8
      replace X := UC X8
      replace KB := UC KB8
      obtain ⟨d0, d1, d2, d3, d4, d5, d6, d7, d8, d9, d10⟩ := cells11 (UB KR8)
      obtain ⟨f0, f1, f2, f3, f4, f5, f6, f7, f8, f9, f10⟩ := frozen11 (UB KR8)
      clear hx0 h8 g8 hw8 DM8 X8 KB8 KG DD KR db1 db2 db3 db4 db5
      refine (UB HK).out _ _ (VB (by kernel_rfl) VL) ?_
      clear HK K
      go_simp
      repeat ((first | (refine VN ?_ (UB hA) rfl rfl rfl (by rfl) (fun _ _ _ h => h) ?_ ?_; rotate_left; · (intro w; go_simp <;> with_reducible rfl)) | refine VM (UB hA) rfl rfl (by rfl) (fun _ _ _ h => h) ?_); go_simp)
      refine runC (UB hA) rfl rfl (by kernel_rfl) (by kernel_rfl) (fun K hK => ?_)
      have HK := UC hK
      clear hK
      go_simp
      refine (UB HK).out _ _ (VB (by kernel_rfl) VL) ?_
      clear HK K
      go_simp
      refine doneC (UB hA) rfl ?_
      clear hA
      clear d0 d1 d2 d3 d4 d5 d6 d7 d8 d9 d10 f0 f1 f2 f3 f4 f5 f6 f7 f8 f9 f10
      have gs := grown_setCell u2 ⟨w6.heap.size, 7, none⟩ (.slice q1 (lb.length + 1) q2)
      replace DM := UC ((UB DM).off (UB KR8) (by decide) gs)
      replace X := UC ((UB X).row gs (fun j e => by cases e; show w.heap.size ≤ w6.heap.size; omega))
      replace KB := UC (block_grown gs (UB KB) (by simp; omega))
      have KR := UC (UV (UB KR8) 7 (.slice q1 (lb.length + 1) q2))
      have zs2 := gs.size
      clear gs KR8
      generalize u2.setCell ⟨w6.heap.size, 7, none⟩ (.slice q1 (lb.length + 1) q2) = WE at *
      go_wp2_with fail
      exact ⟨⟨_, _, _, lb ++ [r], by simp; omega, by simp <;> first | omega | go_num, UB KR, UB DM, UB KB, UB X, by omega⟩, by simp [intOf]; omega⟩
     ·obtain ⟨b1, b2, hb⟩ : ∃ b1 b2, (Value.slice r1 lb.length r2) = .slice b1 lb.length b2 := ⟨_, _, rfl⟩
      rw [hb] at KR DM
      clear hb
      go_wp2_with fail
      refine (l1Once_any 3 (UB X).cur (UB X).code (UB HM) (by omega) (by omega)).mono ?_
      rintro e w17 ⟨cc, rfl, c1, g1⟩
      replace DM := UC ((UB DM).cur (UB X).cur g1)
      replace KB := UC (block_grown g1 (UB KB) (by simp; omega))
      replace KR := UC (block_grown g1 (UB KR) (by simp; omega))
      replace X := UC ((UB X).step c1 g1)
      have zg1 := g1.size
      clear c1 g1
      cases cc
      ·-- none
       obtain ⟨d0, d1, d2, d3, d4, d5, d6, d7, d8, d9, d10⟩ := cells11 (UB KR)
       obtain ⟨p0, p1, p2, p3, p4, p5, p6, p7, p8, p9, p10⟩ := cells11 (UB KB)
       obtain ⟨f0, f1, f2, f3, f4, f5, f6, f7, f8, f9, f10⟩ := frozen11 (UB KB)
       go_wp2_with fail
       clear d0 d1 d2 d3 d4 d5 d6 d7 d8 d9 d10 f0 f1 f2 f3 f4 f5 f6 f7 f8 f9 f10 p0 p1 p2 p3 p4 p5 p6 p7 p8 p9 p10
       have gf := set11_grown (c0 := .int .i64 id) (c1 := .bool rp) (c2 := .int .i64 0) (c3 := .bool au) (c4 := .int .i64 co) (c5 := .slice (some ⟨w10.heap.size, 0, none⟩) 1 1) (c6 := .slice a1 la.length a2) (c7 := .slice b1 lb.length b2) (c8 := .slice none 0 0) (c9 := .slice none 0 0) (c10 := .slice none 0 0) (UB KB)
       have kf := (set11_is (c0 := .int .i64 id) (c1 := .bool rp) (c2 := .int .i64 0) (c3 := .bool au) (c4 := .int .i64 co) (c5 := .slice (some ⟨w10.heap.size, 0, none⟩) 1 1) (c6 := .slice a1 la.length a2) (c7 := .slice b1 lb.length b2) (c8 := .slice none 0 0) (c9 := .slice none 0 0) (c10 := .slice none 0 0) (UB KB)).1
       have DF := (UB DM).off (UB KB) (by decide) gf
       have XF := (UB X).row gf (fun j e => by cases e; exact Nat.le_refl _)
       unfold set11 at gf kf DF XF
       refine bodyPost_ret (results_cell_row rfl _ _ w.heap.size 27 #[.int .i64 id, .bool rp, .int .i64 0, .bool au, .int .i64 co, .slice (some ⟨w10.heap.size, 0, none⟩) 1 1, .slice a1 la.length a2, .slice b1 lb.length b2, .slice none 0 0, .slice none 0 0, .slice none 0 0] (0, 0) _ rfl kf Tryz.underlying27 rfl (by kernel_rfl)) rfl ?_
       exact ⟨_, _, _, _, _, _, _, _, _, ⟨id, rp, 0, au, co, [⟨n, ty⟩], la, lb, [], [], []⟩, rfl, DF, rfl, ⟨by show la.length ≤ 20; omega, by simp, by simp⟩, XF⟩
      ·-- one more
       go_upto_region 14 with fail
       have bd := UX (w := w17)
       replace X := UC ((UB X).below bd)
       replace KB := UC (UE bd (UB KB))
       replace KR := UC (UE bd (UB KR))
       replace DM := UC ((UB DM).below bd)
       have zd := bd.size
       clear bd
       refine startC [0, 1, 2, 3, 4, 5, 6, 7] (by kernel_rfl) ⟨by kernel_rfl, by kernel_rfl, by kernel_rfl, by kernel_rfl⟩ 8 [(1, fun w' => w'.cell? ⟨w6.heap.size, 8, none⟩ = some (.slice none 0 0))] (fun hA => ?_)
       replace hA := UC hA
       generalize hWD : w17.drew = WD at *
       clear hWD
       repeat ((first | (refine VN ?_ (UB hA) rfl rfl rfl (by rfl) (fun _ _ _ h => h) ?_ ?_; rotate_left; · (intro w; go_simp <;> with_reducible rfl)) | refine VM (UB hA) rfl rfl (by rfl) (fun _ _ _ h => h) ?_); go_simp)
       refine takeC ?_ (UB hA) rfl rfl rfl (by rfl) (fun _ _ _ h => h) (.head _) (cells11 (UB KR)).2.2.2.2.2.2.2.2.1 ?_ ?_; rotate_left; (· (intro w hSw; (try dsimp only at hSw); go_simp <;> with_reducible rfl)); go_simp
       repeat ((first | (refine VN ?_ (UB hA) rfl rfl rfl (by rfl) (fun _ _ _ h => h) ?_ ?_; rotate_left; · (intro w; go_simp <;> with_reducible rfl)) | refine VM (UB hA) rfl rfl (by rfl) (fun _ _ _ h => h) ?_); go_simp)
       refine runC (UB hA) rfl rfl (by kernel_rfl) (by kernel_rfl) (fun K hK => ?_)
       have HK := UC hK
       clear hK
       go_simp
       refine (l3drawQ_any (UB X).cur (UB X).code (UB HM)).mono ?_
       rintro e u1 ⟨vn, vt, vx, vi, r, rfl, dq, _, DR, _, c1, g1⟩
       have H8 := UC dq.2.1
       clear dq
       obtain ⟨p1, p2, rfl, _⟩ := DR.hasR.name.form
       obtain ⟨t1, t2, rfl, _⟩ := DR.hasR.to.form
       obtain ⟨x1, x2, rfl, _⟩ := DR.hasR.text.form
       obtain ⟨i1, i2, rfl, _⟩ := DR.hasR.nums.form
       replace DM := UC ((UB DM).cur (UB X).cur g1)
       replace KB := UC (block_grown g1 (UB KB) (by simp; omega))
       replace KR := UC (block_grown g1 (UB KR) (by simp; omega))
       replace X := UC ((UB X).step c1 g1)
       have zg1 := g1.size
       clear c1 g1
       have DD := UC DR
       clear DR
       refine (UB HK).out _ _ (keepC_yes (cells11 (UB KR)).2.2.2.2.2.2.2.2.1 VL) ?_
       clear HK K
       go_simp
       repeat ((first | (refine VN ?_ (UB hA) rfl rfl rfl (by rfl) (fun _ _ _ h => h) ?_ ?_; rotate_left; · (intro w; go_simp <;> with_reducible rfl)) | refine VM (UB hA) rfl rfl (by rfl) (fun _ _ _ h => h) ?_); go_simp)
       refine runC (UB hA) rfl rfl (by kernel_rfl) (by kernel_rfl) (fun K hK => ?_)
       have HK := UC hK
       clear hK
       go_simp
       have KG := UC (heap_alloc_new u1 (.cells #[.slice p1 r.name.length p2, .int .i64 r.type, .int .i64 r.ttl, .int .i64 r.addr, .slice t1 r.to.length t2, .slice x1 r.text.length x2, .slice i1 r.nums.length i2] 63))
       have bg := UI (w := u1) (.cells #[.slice p1 r.name.length p2, .int .i64 r.type, .int .i64 r.ttl, .int .i64 r.addr, .slice t1 r.to.length t2, .slice x1 r.text.length x2, .slice i1 r.nums.length i2] 63)
       replace X := UC ((UB X).below bg)
       replace KB := UC (UE bg (UB KB))
       replace KR := UC (UE bg (UB KR))
       replace DM := UC ((UB DM).below bg)
       replace DD := UC ((UB DD).below bg)
       have zg := bg.size
       clear bg
       refine (UB HK).out _ _ (keepC_yes (cells11 (UB KR)).2.2.2.2.2.2.2.2.1 VL) ?_
       clear HK K
       go_simp
       obtain ⟨cs0, hx0⟩ := (UB DM).more.own
       have db1 := (UB DM).b1
       have db2 := (UB DM).b2
       have db3 := (UB DM).b3
       have db4 := (UB DM).b4
       have db5 := (UB DM).b5
       refine runC (UB hA) rfl rfl (by kernel_rfl) (by kernel_rfl) (fun K hK => ?_)
       have HK := UC hK
       clear hK
       refine append_oneW _ _ 24 63 rfl Tryz.underlying24 _ 7 120 (by omega) (by omega) info_rrD rfl s2 (.slice none 0 0) ([] : List Rec).length rfl u1.heap.size [.slice p1 r.name.length p2, .int .i64 r.type, .int .i64 r.ttl, .int .i64 r.addr, .slice t1 r.to.length t2, .slice x1 r.text.length x2, .slice i1 r.nums.length i2] rfl ⟨cs0, hx0⟩ (UB KG) rfl (by simp [Value.oneCell']) (by first | omega | simp) (by omega) ?_
       intro v8 u2 h8 g8 hw8
       have DM8 := (UB DM).snocC (vs := [.slice p1 r.name.length p2, .int .i64 r.type, .int .i64 r.ttl, .int .i64 r.addr, .slice t1 r.to.length t2, .slice x1 r.text.length x2, .slice i1 r.nums.length i2]) (r := r) ⟨_, _, _, _, rfl, UB DD⟩ (UB H8) g8 h8
       have X8 := (UB X).row g8 (fun j e => by have := (World.ownsRow.lt hx0 j e).1; omega)
       have KR8 := UC (RowDr.keep (UB DM).more g8 (UB KR) (by decide))
       have KB8 := RowDr.keep (UB DM).more g8 (UB KB) (by decide)
       have z8 := g8.size
       obtain ⟨q1, q2, hv, _⟩ := DM8.more.form
       have hl8 : (([] : List Rec) ++ [r]).length = ([] : List Rec).length + 1 := by simp
       replace hv : v8 = .slice q1 (([] : List Rec).length + 1) q2 := hv.trans (by show Value.slice q1 (([] : List Rec) ++ [r]).length q2 = _; rw [hl8])
       subst hv
       clear hl8
       replace DM := UC DM8
       replace X := UC X8
       replace KB := UC KB8
       obtain ⟨d0, d1, d2, d3, d4, d5, d6, d7, d8, d9, d10⟩ := cells11 (UB KR8)
       obtain ⟨f0, f1, f2, f3, f4, f5, f6, f7, f8, f9, f10⟩ := frozen11 (UB KR8)
       clear hx0 h8 g8 hw8 DM8 X8 KB8 KG DD KR db1 db2 db3 db4 db5
       refine (UB HK).out _ _ (VB (by kernel_rfl) VL) ?_
       clear HK K
       go_simp
       repeat ((first | (refine VN ?_ (UB hA) rfl rfl rfl (by rfl) (fun _ _ _ h => h) ?_ ?_; rotate_left; · (intro w; go_simp <;> with_reducible rfl)) | refine VM (UB hA) rfl rfl (by rfl) (fun _ _ _ h => h) ?_); go_simp)
       refine runC (UB hA) rfl rfl (by kernel_rfl) (by kernel_rfl) (fun K hK => ?_)
       have HK := UC hK
       clear hK
       go_simp
       refine (UB HK).out _ _ (VB (by kernel_rfl) VL) ?_
       clear HK K
       go_simp
       refine doneC (UB hA) rfl ?_
       clear hA
       clear d0 d1 d2 d3 d4 d5 d6 d7 d8 d9 d10 f0 f1 f2 f3 f4 f5 f6 f7 f8 f9 f10
       have gs := grown_setCell u2 ⟨w6.heap.size, 8, none⟩ (.slice q1 (([] : List Rec).length + 1) q2)
       replace DM := UC ((UB DM).off (UB KR8) (by decide) gs)
       replace X := UC ((UB X).row gs (fun j e => by cases e; show w.heap.size ≤ w6.heap.size; omega))
       replace KB := UC (block_grown gs (UB KB) (by simp; omega))
       have KR := UC (UV (UB KR8) 8 (.slice q1 (([] : List Rec).length + 1) q2))
       have zs2 := gs.size
       clear gs KR8
       generalize u2.setCell ⟨w6.heap.size, 8, none⟩ (.slice q1 (([] : List Rec).length + 1) q2) = WE at *
       obtain ⟨d0, d1, d2, d3, d4, d5, d6, d7, d8, d9, d10⟩ := cells11 (UB KR)
       obtain ⟨p0, p1, p2, p3, p4, p5, p6, p7, p8, p9, p10⟩ := cells11 (UB KB)
       obtain ⟨f0, f1, f2, f3, f4, f5, f6, f7, f8, f9, f10⟩ := frozen11 (UB KB)
       go_wp2_with fail
       clear d0 d1 d2 d3 d4 d5 d6 d7 d8 d9 d10 f0 f1 f2 f3 f4 f5 f6 f7 f8 f9 f10 p0 p1 p2 p3 p4 p5 p6 p7 p8 p9 p10
       have gf := set11_grown (c0 := .int .i64 id) (c1 := .bool rp) (c2 := .int .i64 0) (c3 := .bool au) (c4 := .int .i64 co) (c5 := .slice (some ⟨w10.heap.size, 0, none⟩) 1 1) (c6 := .slice a1 la.length a2) (c7 := .slice b1 lb.length b2) (c8 := .slice q1 (([] : List Rec).length + 1) q2) (c9 := .slice none 0 0) (c10 := .slice none 0 0) (UB KB)
       have kf := (set11_is (c0 := .int .i64 id) (c1 := .bool rp) (c2 := .int .i64 0) (c3 := .bool au) (c4 := .int .i64 co) (c5 := .slice (some ⟨w10.heap.size, 0, none⟩) 1 1) (c6 := .slice a1 la.length a2) (c7 := .slice b1 lb.length b2) (c8 := .slice q1 (([] : List Rec).length + 1) q2) (c9 := .slice none 0 0) (c10 := .slice none 0 0) (UB KB)).1
       have DF := (UB DM).off (UB KB) (by decide) gf
       have XF := (UB X).row gf (fun j e => by cases e; exact Nat.le_refl _)
       unfold set11 at gf kf DF XF
       refine bodyPost_ret (results_cell_row rfl _ _ w.heap.size 27 #[.int .i64 id, .bool rp, .int .i64 0, .bool au, .int .i64 co, .slice (some ⟨w10.heap.size, 0, none⟩) 1 1, .slice a1 la.length a2, .slice b1 lb.length b2, .slice q1 (([] : List Rec).length + 1) q2, .slice none 0 0, .slice none 0 0] (0, 0) _ rfl kf Tryz.underlying27 rfl (by kernel_rfl)) rfl ?_
       exact ⟨_, _, _, _, _, _, _, _, _, ⟨id, rp, 0, au, co, [⟨n, ty⟩], la, lb, ([] ++ [r]), [], []⟩, rfl, DF, rfl, ⟨by show la.length ≤ 20; omega, by simp, by simp⟩, XF⟩
end Go.Proofs.YtbabmdiklefgcaaGreatDoor
