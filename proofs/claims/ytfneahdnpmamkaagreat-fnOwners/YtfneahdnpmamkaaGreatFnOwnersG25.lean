/-
  Contract of the specification's l3bent: a drawn record, now and then bent.
-/
import Derived.Test.YtfneahdnpmamkaaGreatFnOwnersG24
namespace Go.Proofs.YtfneahdnpmamkaaGreat
open Go.RowKit
set_option linter.unusedVariables false

theorem Wm : (Tryz.prog.info? 3).map (fun i => (i.zero, i.size, i.bytes)) = some (some (.int .i64 0), 1, 8) := by kernel_rfl

set_option maxHeartbeats 8000000 in
set_option maxRecDepth 100000 in
theorem Rp {g : Nat} {a : Option Addr} {len cap : Nat} {w : World} (hc : Cur w g a len cap) (hL : Code w g a len) (hm : len ≤ maxLen) :
  Calls Tryz.prog 34 #[.pointer (some ⟨g, 0, none⟩)] w (Va 3 w g a len cap) := by
 have hg := hc.lt
 have HM := UC hm
 have C := UC hc
 have L := UC hL
 have GG : Hid (w.grownBy w (some g)) := ⟨rfl, rfl, rfl, Nat.le_refl _, fun _ _ _ => rfl⟩
 have KR := heap_alloc_new w (.cells #[.slice none 0 0, .int .i64 0, .int .i64 0, .int .i64 0, .slice none 0 0, .slice none 0 0, .slice none 0 0] 39)
 have ba := UI (w := w) (.cells #[.slice none 0 0, .int .i64 0, .int .i64 0, .int .i64 0, .slice none 0 0, .slice none 0 0, .slice none 0 0] 39)
 have zr := VC KR
 replace KR := UC KR
 replace C := UC ((UB C).later (Ac ba) (by simp))
 replace L := UC ((UB L).later (Ac ba) (by simp))
 replace GG := UC (Ae (UB GG) (Ac ba) (fun j e => by cases e))
 have HD := UC (Lo (UB C) (UB L) (UB HM))
 clear hc hL hm ba
 go_enter Tryz.func34, Tryz.ntmps34
 go_wp2_with fail
 generalize w.alloc (.cells #[.slice none 0 0, .int .i64 0, .int .i64 0, .int .i64 0, .slice none 0 0, .slice none 0 0, .slice none 0 0] 39) = W at *
 refine (UB HD).mono ?_
 rintro e w1 ⟨vn, vt, vx, vi, ⟨nm, ty, tl, ad, to, tx, nu⟩, rfl, hnu, hvb, DR, _, c1, g1⟩
 have HN := UC (show nu.length ≤ 2 from hnu.1.1)
 have HN1 : Hid (Ej nm) := hnu.1.2.1
 have HN2 : Hid (Ej to) := hnu.1.2.2.1
 have HX : Hid (tx.length ≤ 41) := hnu.1.2.2.2
 have HTX : Hid (Byt tx) := hnu.2.1
 have D1 : OwnT 0 22 5 w1 vn nm := DR.name
 have D2 : OwnT 0 22 5 w1 vt to := DR.to
 have D3 : Has w1 vx tx ∧ Ci 5 w1 vx := DR.text
 have D4 : OwnI 0 3 w1 vi nu := DR.nums
 clear HD DR hnu
 obtain ⟨x1, y1, rfl, _⟩ := D1.hasL.form
 obtain ⟨x2, y2, rfl, _⟩ := D2.hasL.form
 obtain ⟨x3, y3, rfl, _⟩ := D3.1.form
 obtain ⟨x4, y4, rfl, _⟩ := D4.lies
 have HVB := UC hvb
 clear hvb
 replace C := UC c1
 replace L := UC ((UB L).grown g1)
 replace GG := UC (Ad (UB GG) g1)
 replace KR := UC (Aa g1 (UB KR) (by simp; omega))
 have z0 := g1.size
 clear g1 c1
 have DD := UC (⟨D1, D2, D3, D4⟩ : B9 w1 (.slice x1 nm.length y1) (.slice x2 to.length y2) (.slice x3 tx.length y3) (.slice x4 nu.length y4) ⟨nm, ty, tl, ad, to, tx, nu⟩)
 clear D1 D2 D3 D4
 have KQ := heap_alloc_new w1 (.cells #[.slice x1 nm.length y1, .int .i64 ty, .int .i64 tl, .int .i64 ad, .slice x2 to.length y2, .slice x3 tx.length y3, .slice x4 nu.length y4] 39)
 have ba := UI (w := w1) (.cells #[.slice x1 nm.length y1, .int .i64 ty, .int .i64 tl, .int .i64 ad, .slice x2 to.length y2, .slice x3 tx.length y3, .slice x4 nu.length y4] 39)
 have zq := VC KQ
 replace KQ := UC KQ
 replace C := UC ((UB C).later (Ac ba) (by simp))
 replace L := UC ((UB L).later (Ac ba) (by simp))
 replace GG := UC (Ae (UB GG) (Ac ba) (fun j e => by cases e))
 replace KR := UC (UE ba (UB KR))
 replace DD := UC ((UB DD).below ba)
 have z1 := ba.size
 clear ba
 have HO := UC (Eg 7 (UB C) (UB L) (UB HM) (by omega) (by omega))
 go_wp2_with fail
 generalize (w1.alloc (.cells #[.slice x1 nm.length y1, .int .i64 ty, .int .i64 tl, .int .i64 ad, .slice x2 to.length y2, .slice x3 tx.length y3, .slice x4 nu.length y4] 39)) = W2 at *
 refine (UB HO).mono ?_
 rintro e u2 ⟨o, rfl, c2, g2⟩
 clear HO
 replace DD := UC ((UB DD).cur (UB C) g2)
 replace C := UC c2
 replace L := UC ((UB L).grown g2)
 replace GG := UC (Ad (UB GG) g2)
 replace KR := UC (Aa g2 (UB KR) (by simp; omega))
 replace KQ := UC (Aa g2 (UB KQ) (by simp; omega))
 have z2 := g2.size
 clear g2 c2
 rcases o with _ | _
 ·obtain ⟨p0, p1, p2, p3, p4, p5, p6⟩ := UJ (UB KR)
  obtain ⟨q0, q1, q2, q3, q4, q5, q6⟩ := VI (UB KR)
  obtain ⟨d0, d1, d2, d3, d4, d5, d6⟩ := UJ (UB KQ)
  obtain ⟨f0, f1, f2, f3, f4, f5, f6⟩ := VI (UB KQ)
  go_wp2_with fail
  clear d0 d1 d2 d3 d4 d5 d6 f0 f1 f2 f3 f4 f5 f6
  clear p0 p1 p2 p3 p4 p5 p6 q0 q1 q2 q3 q4 q5 q6
  obtain ⟨R2, ou2⟩ := set7 (c0 := .slice x1 nm.length y1) (c1 := .int .i64 ty) (c2 := .int .i64 tl) (c3 := .int .i64 ad) (c4 := .slice x2 to.length y2) (c5 := .slice x3 tx.length y3) (c6 := .slice x4 nu.length y4) (UB KR)
  have gF := A8 u2 w.heap.size (c0 := .slice x1 nm.length y1) (c1 := .int .i64 ty) (c2 := .int .i64 tl) (c3 := .int .i64 ad) (c4 := .slice x2 to.length y2) (c5 := .slice x3 tx.length y3) (c6 := .slice x4 nu.length y4)
  have DF := UC ((UB DD).off (UB KR) (by decide) (by decide) (by decide) gF)
  have CF := UC ((UB C).later gF (fun j e => by cases e; exact hg))
  have GF := UC (Ae (UB GG) gF (fun j e => by cases e; exact Nat.le_refl _))
  have HR2 := UC R2
  clear R2 ou2 gF
  refine bodyPost_ret (results_cell_row rfl _ _ w.heap.size 39 #[.slice x1 nm.length y1, .int .i64 ty, .int .i64 tl, .int .i64 ad, .slice x2 to.length y2, .slice x3 tx.length y3, .slice x4 nu.length y4] (0, 0) _ rfl (UB HR2) Tryz.underlying39 rfl (by kernel_rfl)) rfl ?_
  exact ⟨_, _, _, _, ⟨nm, ty, tl, ad, to, tx, nu⟩, rfl, ⟨⟨by first | exact Nat.le_trans (UB HN) (by decide) | (have := UB HN; simp; omega), by first | exact UB HN1 | exact UB HNB, by first | exact UB HN2 | exact UB HNB, by first | exact UB HX | simp⟩, by first | exact UB HTX | exact Fa _, fun e => absurd e (by decide)⟩, by first | exact (UB NL) | exact (fun j e => Nat.le_trans (Nat.le_of_lt zr) (UB HVB j e)), UB DF, (fun e => absurd e (by decide)), UB CF, UB GF⟩
 ·have HB := UC (A9 7 (UB C) (UB L) (UB HM) (by omega) (by omega))
  obtain ⟨d0, d1, d2, d3, d4, d5, d6⟩ := UJ (UB KQ)
  obtain ⟨f0, f1, f2, f3, f4, f5, f6⟩ := VI (UB KQ)
  go_wp2_with fail
  clear d0 d1 d2 d3 d4 d5 d6 f0 f1 f2 f3 f4 f5 f6
  refine (UB HB).mono ?_
  rintro e u3 ⟨kk, rfl, k0, k1, c3, g3⟩
  clear HB
  replace DD := UC ((UB DD).cur (UB C) g3)
  replace C := UC c3
  replace L := UC ((UB L).grown g3)
  replace GG := UC (Ad (UB GG) g3)
  replace KR := UC (Aa g3 (UB KR) (by simp; omega))
  replace KQ := UC (Aa g3 (UB KQ) (by simp; omega))
  have z3 := g3.size
  clear g3 c3
  have hk : kk = 0 ∨ kk = 1 ∨ kk = 2 ∨ kk = 3 ∨ kk = 4 ∨ kk = 5 ∨ kk = 6 := by omega
  clear k0 k1
  rcases hk with rfl | rfl | rfl | rfl | rfl | rfl | rfl
  ·have HD := UC (I9 (UB C) (UB L) (UB HM))
   obtain ⟨d0, d1, d2, d3, d4, d5, d6⟩ := UJ (UB KQ)
   obtain ⟨f0, f1, f2, f3, f4, f5, f6⟩ := VI (UB KQ)
   go_wp2_with fail
   clear d0 d1 d2 d3 d4 d5 d6 f0 f1 f2 f3 f4 f5 f6
   refine (UB HD).mono ?_
   rintro e u4 ⟨v4, bn, rfl, bn7, bn16, o4, c4, g4⟩
   obtain ⟨bx, bc, rfl⟩ := o4.form
   have HNB : Hid (Ej bn) := ⟨bn7, bn16⟩
   clear bn7 bn16
   have DT := o4.mono (Nat.zero_le _)
   clear HD o4
   replace DD := UC ((UB DD).cur (UB C) g4)
   replace C := UC c4
   replace L := UC ((UB L).grown g4)
   replace GG := UC (Ad (UB GG) g4)
   replace KR := UC (Aa g4 (UB KR) (by simp; omega))
   replace KQ := UC (Aa g4 (UB KQ) (by simp; omega))
   have z4 := g4.size
   clear g4 c4
   obtain ⟨p0, p1, p2, p3, p4, p5, p6⟩ := UJ (UB KR)
   obtain ⟨q0, q1, q2, q3, q4, q5, q6⟩ := VI (UB KR)
   obtain ⟨d0, d1, d2, d3, d4, d5, d6⟩ := UJ (UB KQ)
   obtain ⟨f0, f1, f2, f3, f4, f5, f6⟩ := VI (UB KQ)
   go_wp2_with fail
   clear d0 d1 d2 d3 d4 d5 d6 f0 f1 f2 f3 f4 f5 f6
   clear p0 p1 p2 p3 p4 p5 p6 q0 q1 q2 q3 q4 q5 q6
   have gs := Ab u4 ⟨w1.heap.size, 0, none⟩ (.slice bx bn.length bc)
   have KQ2 : Hid ((u4.setCell ⟨w1.heap.size, 0, none⟩ (.slice bx bn.length bc)).heap[w1.heap.size]? = some (.cells #[.slice bx bn.length bc, .int .i64 ty, .int .i64 tl, .int .i64 ad, .slice x2 to.length y2, .slice x3 tx.length y3, .slice x4 nu.length y4] 39)) := UV (UB KQ) 0 _
   have DT2 := OwnT.off DT (UB KQ) (by decide) (by decide) gs
   have D2 : Hid (B9 (u4.setCell ⟨w1.heap.size, 0, none⟩ (.slice bx bn.length bc)) (.slice bx bn.length bc) (.slice x2 to.length y2) (.slice x3 tx.length y3) (.slice x4 nu.length y4) ⟨bn, ty, tl, ad, to, tx, nu⟩) := by
    have q := (UB DD).off (UB KQ) (by decide) (by decide) (by decide) gs
    exact ⟨DT2, q.to, q.text, q.nums⟩
   replace C := UC ((UB C).later gs (fun j e => by cases e; show g < w1.heap.size; omega))
   replace L := UC ((UB L).later gs (fun j e => by cases e; show g ≤ w1.heap.size; omega))
   replace GG := UC (Ae (UB GG) gs (fun j e => by cases e; show w.heap.size ≤ w1.heap.size; omega))
   replace KR := UC (Aa gs (UB KR) (by simp; omega))
   replace KQ := KQ2
   replace DD := D2
   have zs := gs.size
   clear gs KQ2 D2
   obtain ⟨R2, ou2⟩ := set7 (c0 := .slice bx bn.length bc) (c1 := .int .i64 ty) (c2 := .int .i64 tl) (c3 := .int .i64 ad) (c4 := .slice x2 to.length y2) (c5 := .slice x3 tx.length y3) (c6 := .slice x4 nu.length y4) (UB KR)
   have gF := A8 (u4.setCell ⟨w1.heap.size, 0, none⟩ (.slice bx bn.length bc)) w.heap.size (c0 := .slice bx bn.length bc) (c1 := .int .i64 ty) (c2 := .int .i64 tl) (c3 := .int .i64 ad) (c4 := .slice x2 to.length y2) (c5 := .slice x3 tx.length y3) (c6 := .slice x4 nu.length y4)
   have DF := UC ((UB DD).off (UB KR) (by decide) (by decide) (by decide) gF)
   have CF := UC ((UB C).later gF (fun j e => by cases e; exact hg))
   have GF := UC (Ae (UB GG) gF (fun j e => by cases e; exact Nat.le_refl _))
   have HR2 := UC R2
   clear R2 ou2 gF
   refine bodyPost_ret (results_cell_row rfl _ _ w.heap.size 39 #[.slice bx bn.length bc, .int .i64 ty, .int .i64 tl, .int .i64 ad, .slice x2 to.length y2, .slice x3 tx.length y3, .slice x4 nu.length y4] (0, 0) _ rfl (UB HR2) Tryz.underlying39 rfl (by kernel_rfl)) rfl ?_
   exact ⟨_, _, _, _, ⟨bn, ty, tl, ad, to, tx, nu⟩, rfl, ⟨⟨by first | exact Nat.le_trans (UB HN) (by decide) | (have := UB HN; simp; omega), by first | exact UB HN1 | exact UB HNB, by first | exact UB HN2 | exact UB HNB, by first | exact UB HX | simp⟩, by first | exact UB HTX | exact Fa _, fun e => absurd e (by decide)⟩, by first | exact (UB NL) | exact (fun j e => Nat.le_trans (Nat.le_of_lt zr) (UB HVB j e)), UB DF, (fun e => absurd e (by decide)), UB CF, UB GF⟩
  ·have kz := heap_alloc_new u3 (.cells #[.int .i64 0, .int .i64 3, .int .i64 28, .int .i64 255, .int .i64 (-1), .int .i64 1, .int .i64 5] 3)
   have bz := UI (w := u3) (.cells #[.int .i64 0, .int .i64 3, .int .i64 28, .int .i64 255, .int .i64 (-1), .int .i64 1, .int .i64 5] 3)
   replace C := UC ((UB C).later (Ac bz) (by simp))
   replace L := UC ((UB L).later (Ac bz) (by simp))
   replace GG := UC (Ae (UB GG) (Ac bz) (fun j e => by cases e))
   replace KR := UC (UE bz (UB KR))
   replace KQ := UC (UE bz (UB KQ))
   replace DD := UC ((UB DD).below bz)
   have z4 := bz.size
   clear bz
   have HPK := UC (Cj (w := u3.alloc (.cells #[.int .i64 0, .int .i64 3, .int .i64 28, .int .i64 255, .int .i64 (-1), .int .i64 1, .int .i64 5] 3)) u3.heap.size 7 (fun z => True) (UB C) (UB L) (UB HM) (by omega) (by omega) (VC kz) (by omega) (fun j hj => by
    have hq := VE kz j
    match j, hj with
    | 0, _ => exact ⟨_, hq, trivial⟩
    | 1, _ => exact ⟨_, hq, trivial⟩
    | 2, _ => exact ⟨_, hq, trivial⟩
    | 3, _ => exact ⟨_, hq, trivial⟩
    | 4, _ => exact ⟨_, hq, trivial⟩
    | 5, _ => exact ⟨_, hq, trivial⟩
    | 6, _ => exact ⟨_, hq, trivial⟩))
   clear kz
   obtain ⟨d0, d1, d2, d3, d4, d5, d6⟩ := UJ (UB KQ)
   obtain ⟨f0, f1, f2, f3, f4, f5, f6⟩ := VI (UB KQ)
   go_wp2_with fail
   clear d0 d1 d2 d3 d4 d5 d6 f0 f1 f2 f3 f4 f5 f6
   generalize u3.alloc (.cells #[.int .i64 0, .int .i64 3, .int .i64 28, .int .i64 255, .int .i64 (-1), .int .i64 1, .int .i64 5] 3) = W5 at *
   refine (UB HPK).mono ?_
   rintro e u5 ⟨zt, rfl, hzt, c5, g5⟩
   clear HPK
   replace DD := UC ((UB DD).cur (UB C) g5)
   replace C := UC c5
   replace L := UC ((UB L).grown g5)
   replace GG := UC (Ad (UB GG) g5)
   replace KR := UC (Aa g5 (UB KR) (by simp; omega))
   replace KQ := UC (Aa g5 (UB KQ) (by simp; omega))
   have z5 := g5.size
   clear g5 c5
   obtain ⟨p0, p1, p2, p3, p4, p5, p6⟩ := UJ (UB KR)
   obtain ⟨q0, q1, q2, q3, q4, q5, q6⟩ := VI (UB KR)
   obtain ⟨d0, d1, d2, d3, d4, d5, d6⟩ := UJ (UB KQ)
   obtain ⟨f0, f1, f2, f3, f4, f5, f6⟩ := VI (UB KQ)
   go_wp2_with fail
   clear d0 d1 d2 d3 d4 d5 d6 f0 f1 f2 f3 f4 f5 f6
   clear p0 p1 p2 p3 p4 p5 p6 q0 q1 q2 q3 q4 q5 q6
   have gs := Ab u5 ⟨w1.heap.size, 1, none⟩ (.int .i64 zt)
   have KQ2 : Hid ((u5.setCell ⟨w1.heap.size, 1, none⟩ (.int .i64 zt)).heap[w1.heap.size]? = some (.cells #[.slice x1 nm.length y1, .int .i64 zt, .int .i64 tl, .int .i64 ad, .slice x2 to.length y2, .slice x3 tx.length y3, .slice x4 nu.length y4] 39)) := UV (UB KQ) 1 _
   have D2 : Hid (B9 (u5.setCell ⟨w1.heap.size, 1, none⟩ (.int .i64 zt)) (.slice x1 nm.length y1) (.slice x2 to.length y2) (.slice x3 tx.length y3) (.slice x4 nu.length y4) ⟨nm, zt, tl, ad, to, tx, nu⟩) := by
    have q := (UB DD).off (UB KQ) (by decide) (by decide) (by decide) gs
    exact ⟨q.name, q.to, q.text, q.nums⟩
   replace C := UC ((UB C).later gs (fun j e => by cases e; show g < w1.heap.size; omega))
   replace L := UC ((UB L).later gs (fun j e => by cases e; show g ≤ w1.heap.size; omega))
   replace GG := UC (Ae (UB GG) gs (fun j e => by cases e; show w.heap.size ≤ w1.heap.size; omega))
   replace KR := UC (Aa gs (UB KR) (by simp; omega))
   replace KQ := KQ2
   replace DD := D2
   have zs := gs.size
   clear gs KQ2 D2
   obtain ⟨R2, ou2⟩ := set7 (c0 := .slice x1 nm.length y1) (c1 := .int .i64 zt) (c2 := .int .i64 tl) (c3 := .int .i64 ad) (c4 := .slice x2 to.length y2) (c5 := .slice x3 tx.length y3) (c6 := .slice x4 nu.length y4) (UB KR)
   have gF := A8 (u5.setCell ⟨w1.heap.size, 1, none⟩ (.int .i64 zt)) w.heap.size (c0 := .slice x1 nm.length y1) (c1 := .int .i64 zt) (c2 := .int .i64 tl) (c3 := .int .i64 ad) (c4 := .slice x2 to.length y2) (c5 := .slice x3 tx.length y3) (c6 := .slice x4 nu.length y4)
   have DF := UC ((UB DD).off (UB KR) (by decide) (by decide) (by decide) gF)
   have CF := UC ((UB C).later gF (fun j e => by cases e; exact hg))
   have GF := UC (Ae (UB GG) gF (fun j e => by cases e; exact Nat.le_refl _))
   have HR2 := UC R2
   clear R2 ou2 gF
   refine bodyPost_ret (results_cell_row rfl _ _ w.heap.size 39 #[.slice x1 nm.length y1, .int .i64 zt, .int .i64 tl, .int .i64 ad, .slice x2 to.length y2, .slice x3 tx.length y3, .slice x4 nu.length y4] (0, 0) _ rfl (UB HR2) Tryz.underlying39 rfl (by kernel_rfl)) rfl ?_
   exact ⟨_, _, _, _, ⟨nm, zt, tl, ad, to, tx, nu⟩, rfl, ⟨⟨by first | exact Nat.le_trans (UB HN) (by decide) | (have := UB HN; simp; omega), by first | exact UB HN1 | exact UB HNB, by first | exact UB HN2 | exact UB HNB, by first | exact UB HX | simp⟩, by first | exact UB HTX | exact Fa _, fun e => absurd e (by decide)⟩, by first | exact (UB NL) | exact (fun j e => Nat.le_trans (Nat.le_of_lt zr) (UB HVB j e)), UB DF, (fun e => absurd e (by decide)), UB CF, UB GF⟩
  ·have kz := heap_alloc_new u3 (.cells #[.int .i64 (-1), .int .i64 100001] 3)
   have bz := UI (w := u3) (.cells #[.int .i64 (-1), .int .i64 100001] 3)
   replace C := UC ((UB C).later (Ac bz) (by simp))
   replace L := UC ((UB L).later (Ac bz) (by simp))
   replace GG := UC (Ae (UB GG) (Ac bz) (fun j e => by cases e))
   replace KR := UC (UE bz (UB KR))
   replace KQ := UC (UE bz (UB KQ))
   replace DD := UC ((UB DD).below bz)
   have z4 := bz.size
   clear bz
   have HPK := UC (Cj (w := u3.alloc (.cells #[.int .i64 (-1), .int .i64 100001] 3)) u3.heap.size 2 (fun z => True) (UB C) (UB L) (UB HM) (by omega) (by omega) (VC kz) (by omega) (fun j hj => by
    have hq := VE kz j
    match j, hj with
    | 0, _ => exact ⟨_, hq, trivial⟩
    | 1, _ => exact ⟨_, hq, trivial⟩))
   clear kz
   obtain ⟨d0, d1, d2, d3, d4, d5, d6⟩ := UJ (UB KQ)
   obtain ⟨f0, f1, f2, f3, f4, f5, f6⟩ := VI (UB KQ)
   go_wp2_with fail
   clear d0 d1 d2 d3 d4 d5 d6 f0 f1 f2 f3 f4 f5 f6
   generalize u3.alloc (.cells #[.int .i64 (-1), .int .i64 100001] 3) = W5 at *
   refine (UB HPK).mono ?_
   rintro e u5 ⟨zt, rfl, hzt, c5, g5⟩
   clear HPK
   replace DD := UC ((UB DD).cur (UB C) g5)
   replace C := UC c5
   replace L := UC ((UB L).grown g5)
   replace GG := UC (Ad (UB GG) g5)
   replace KR := UC (Aa g5 (UB KR) (by simp; omega))
   replace KQ := UC (Aa g5 (UB KQ) (by simp; omega))
   have z5 := g5.size
   clear g5 c5
   obtain ⟨p0, p1, p2, p3, p4, p5, p6⟩ := UJ (UB KR)
   obtain ⟨q0, q1, q2, q3, q4, q5, q6⟩ := VI (UB KR)
   obtain ⟨d0, d1, d2, d3, d4, d5, d6⟩ := UJ (UB KQ)
   obtain ⟨f0, f1, f2, f3, f4, f5, f6⟩ := VI (UB KQ)
   go_wp2_with fail
   clear d0 d1 d2 d3 d4 d5 d6 f0 f1 f2 f3 f4 f5 f6
   clear p0 p1 p2 p3 p4 p5 p6 q0 q1 q2 q3 q4 q5 q6
   have gs := Ab u5 ⟨w1.heap.size, 2, none⟩ (.int .i64 zt)
   have KQ2 : Hid ((u5.setCell ⟨w1.heap.size, 2, none⟩ (.int .i64 zt)).heap[w1.heap.size]? = some (.cells #[.slice x1 nm.length y1, .int .i64 ty, .int .i64 zt, .int .i64 ad, .slice x2 to.length y2, .slice x3 tx.length y3, .slice x4 nu.length y4] 39)) := UV (UB KQ) 2 _
   have D2 : Hid (B9 (u5.setCell ⟨w1.heap.size, 2, none⟩ (.int .i64 zt)) (.slice x1 nm.length y1) (.slice x2 to.length y2) (.slice x3 tx.length y3) (.slice x4 nu.length y4) ⟨nm, ty, zt, ad, to, tx, nu⟩) := by
    have q := (UB DD).off (UB KQ) (by decide) (by decide) (by decide) gs
    exact ⟨q.name, q.to, q.text, q.nums⟩
   replace C := UC ((UB C).later gs (fun j e => by cases e; show g < w1.heap.size; omega))
   replace L := UC ((UB L).later gs (fun j e => by cases e; show g ≤ w1.heap.size; omega))
   replace GG := UC (Ae (UB GG) gs (fun j e => by cases e; show w.heap.size ≤ w1.heap.size; omega))
   replace KR := UC (Aa gs (UB KR) (by simp; omega))
   replace KQ := KQ2
   replace DD := D2
   have zs := gs.size
   clear gs KQ2 D2
   obtain ⟨R2, ou2⟩ := set7 (c0 := .slice x1 nm.length y1) (c1 := .int .i64 ty) (c2 := .int .i64 zt) (c3 := .int .i64 ad) (c4 := .slice x2 to.length y2) (c5 := .slice x3 tx.length y3) (c6 := .slice x4 nu.length y4) (UB KR)
   have gF := A8 (u5.setCell ⟨w1.heap.size, 2, none⟩ (.int .i64 zt)) w.heap.size (c0 := .slice x1 nm.length y1) (c1 := .int .i64 ty) (c2 := .int .i64 zt) (c3 := .int .i64 ad) (c4 := .slice x2 to.length y2) (c5 := .slice x3 tx.length y3) (c6 := .slice x4 nu.length y4)
   have DF := UC ((UB DD).off (UB KR) (by decide) (by decide) (by decide) gF)
   have CF := UC ((UB C).later gF (fun j e => by cases e; exact hg))
   have GF := UC (Ae (UB GG) gF (fun j e => by cases e; exact Nat.le_refl _))
   have HR2 := UC R2
   clear R2 ou2 gF
   refine bodyPost_ret (results_cell_row rfl _ _ w.heap.size 39 #[.slice x1 nm.length y1, .int .i64 ty, .int .i64 zt, .int .i64 ad, .slice x2 to.length y2, .slice x3 tx.length y3, .slice x4 nu.length y4] (0, 0) _ rfl (UB HR2) Tryz.underlying39 rfl (by kernel_rfl)) rfl ?_
   exact ⟨_, _, _, _, ⟨nm, ty, zt, ad, to, tx, nu⟩, rfl, ⟨⟨by first | exact Nat.le_trans (UB HN) (by decide) | (have := UB HN; simp; omega), by first | exact UB HN1 | exact UB HNB, by first | exact UB HN2 | exact UB HNB, by first | exact UB HX | simp⟩, by first | exact UB HTX | exact Fa _, fun e => absurd e (by decide)⟩, by first | exact (UB NL) | exact (fun j e => Nat.le_trans (Nat.le_of_lt zr) (UB HVB j e)), UB DF, (fun e => absurd e (by decide)), UB CF, UB GF⟩
  ·have kz := heap_alloc_new u3 (.cells #[.int .i64 (-1), .int .i64 4294967296, .int .i64 7] 3)
   have bz := UI (w := u3) (.cells #[.int .i64 (-1), .int .i64 4294967296, .int .i64 7] 3)
   replace C := UC ((UB C).later (Ac bz) (by simp))
   replace L := UC ((UB L).later (Ac bz) (by simp))
   replace GG := UC (Ae (UB GG) (Ac bz) (fun j e => by cases e))
   replace KR := UC (UE bz (UB KR))
   replace KQ := UC (UE bz (UB KQ))
   replace DD := UC ((UB DD).below bz)
   have z4 := bz.size
   clear bz
   have HPK := UC (Cj (w := u3.alloc (.cells #[.int .i64 (-1), .int .i64 4294967296, .int .i64 7] 3)) u3.heap.size 3 (fun z => True) (UB C) (UB L) (UB HM) (by omega) (by omega) (VC kz) (by omega) (fun j hj => by
    have hq := VE kz j
    match j, hj with
    | 0, _ => exact ⟨_, hq, trivial⟩
    | 1, _ => exact ⟨_, hq, trivial⟩
    | 2, _ => exact ⟨_, hq, trivial⟩))
   clear kz
   obtain ⟨d0, d1, d2, d3, d4, d5, d6⟩ := UJ (UB KQ)
   obtain ⟨f0, f1, f2, f3, f4, f5, f6⟩ := VI (UB KQ)
   go_wp2_with fail
   clear d0 d1 d2 d3 d4 d5 d6 f0 f1 f2 f3 f4 f5 f6
   generalize u3.alloc (.cells #[.int .i64 (-1), .int .i64 4294967296, .int .i64 7] 3) = W5 at *
   refine (UB HPK).mono ?_
   rintro e u5 ⟨zt, rfl, hzt, c5, g5⟩
   clear HPK
   replace DD := UC ((UB DD).cur (UB C) g5)
   replace C := UC c5
   replace L := UC ((UB L).grown g5)
   replace GG := UC (Ad (UB GG) g5)
   replace KR := UC (Aa g5 (UB KR) (by simp; omega))
   replace KQ := UC (Aa g5 (UB KQ) (by simp; omega))
   have z5 := g5.size
   clear g5 c5
   obtain ⟨p0, p1, p2, p3, p4, p5, p6⟩ := UJ (UB KR)
   obtain ⟨q0, q1, q2, q3, q4, q5, q6⟩ := VI (UB KR)
   obtain ⟨d0, d1, d2, d3, d4, d5, d6⟩ := UJ (UB KQ)
   obtain ⟨f0, f1, f2, f3, f4, f5, f6⟩ := VI (UB KQ)
   go_wp2_with fail
   clear d0 d1 d2 d3 d4 d5 d6 f0 f1 f2 f3 f4 f5 f6
   clear p0 p1 p2 p3 p4 p5 p6 q0 q1 q2 q3 q4 q5 q6
   have gs := Ab u5 ⟨w1.heap.size, 3, none⟩ (.int .i64 zt)
   have KQ2 : Hid ((u5.setCell ⟨w1.heap.size, 3, none⟩ (.int .i64 zt)).heap[w1.heap.size]? = some (.cells #[.slice x1 nm.length y1, .int .i64 ty, .int .i64 tl, .int .i64 zt, .slice x2 to.length y2, .slice x3 tx.length y3, .slice x4 nu.length y4] 39)) := UV (UB KQ) 3 _
   have D2 : Hid (B9 (u5.setCell ⟨w1.heap.size, 3, none⟩ (.int .i64 zt)) (.slice x1 nm.length y1) (.slice x2 to.length y2) (.slice x3 tx.length y3) (.slice x4 nu.length y4) ⟨nm, ty, tl, zt, to, tx, nu⟩) := by
    have q := (UB DD).off (UB KQ) (by decide) (by decide) (by decide) gs
    exact ⟨q.name, q.to, q.text, q.nums⟩
   replace C := UC ((UB C).later gs (fun j e => by cases e; show g < w1.heap.size; omega))
   replace L := UC ((UB L).later gs (fun j e => by cases e; show g ≤ w1.heap.size; omega))
   replace GG := UC (Ae (UB GG) gs (fun j e => by cases e; show w.heap.size ≤ w1.heap.size; omega))
   replace KR := UC (Aa gs (UB KR) (by simp; omega))
   replace KQ := KQ2
   replace DD := D2
   have zs := gs.size
   clear gs KQ2 D2
   obtain ⟨R2, ou2⟩ := set7 (c0 := .slice x1 nm.length y1) (c1 := .int .i64 ty) (c2 := .int .i64 tl) (c3 := .int .i64 zt) (c4 := .slice x2 to.length y2) (c5 := .slice x3 tx.length y3) (c6 := .slice x4 nu.length y4) (UB KR)
   have gF := A8 (u5.setCell ⟨w1.heap.size, 3, none⟩ (.int .i64 zt)) w.heap.size (c0 := .slice x1 nm.length y1) (c1 := .int .i64 ty) (c2 := .int .i64 tl) (c3 := .int .i64 zt) (c4 := .slice x2 to.length y2) (c5 := .slice x3 tx.length y3) (c6 := .slice x4 nu.length y4)
   have DF := UC ((UB DD).off (UB KR) (by decide) (by decide) (by decide) gF)
   have CF := UC ((UB C).later gF (fun j e => by cases e; exact hg))
   have GF := UC (Ae (UB GG) gF (fun j e => by cases e; exact Nat.le_refl _))
   have HR2 := UC R2
   clear R2 ou2 gF
   refine bodyPost_ret (results_cell_row rfl _ _ w.heap.size 39 #[.slice x1 nm.length y1, .int .i64 ty, .int .i64 tl, .int .i64 zt, .slice x2 to.length y2, .slice x3 tx.length y3, .slice x4 nu.length y4] (0, 0) _ rfl (UB HR2) Tryz.underlying39 rfl (by kernel_rfl)) rfl ?_
   exact ⟨_, _, _, _, ⟨nm, ty, tl, zt, to, tx, nu⟩, rfl, ⟨⟨by first | exact Nat.le_trans (UB HN) (by decide) | (have := UB HN; simp; omega), by first | exact UB HN1 | exact UB HNB, by first | exact UB HN2 | exact UB HNB, by first | exact UB HX | simp⟩, by first | exact UB HTX | exact Fa _, fun e => absurd e (by decide)⟩, by first | exact (UB NL) | exact (fun j e => Nat.le_trans (Nat.le_of_lt zr) (UB HVB j e)), UB DF, (fun e => absurd e (by decide)), UB CF, UB GF⟩
  ·have HD := UC (I9 (UB C) (UB L) (UB HM))
   obtain ⟨d0, d1, d2, d3, d4, d5, d6⟩ := UJ (UB KQ)
   obtain ⟨f0, f1, f2, f3, f4, f5, f6⟩ := VI (UB KQ)
   go_wp2_with fail
   clear d0 d1 d2 d3 d4 d5 d6 f0 f1 f2 f3 f4 f5 f6
   refine (UB HD).mono ?_
   rintro e u4 ⟨v4, bn, rfl, bn7, bn16, o4, c4, g4⟩
   obtain ⟨bx, bc, rfl⟩ := o4.form
   have HNB : Hid (Ej bn) := ⟨bn7, bn16⟩
   clear bn7 bn16
   have DT := o4.mono (Nat.zero_le _)
   clear HD o4
   replace DD := UC ((UB DD).cur (UB C) g4)
   replace C := UC c4
   replace L := UC ((UB L).grown g4)
   replace GG := UC (Ad (UB GG) g4)
   replace KR := UC (Aa g4 (UB KR) (by simp; omega))
   replace KQ := UC (Aa g4 (UB KQ) (by simp; omega))
   have z4 := g4.size
   clear g4 c4
   obtain ⟨p0, p1, p2, p3, p4, p5, p6⟩ := UJ (UB KR)
   obtain ⟨q0, q1, q2, q3, q4, q5, q6⟩ := VI (UB KR)
   obtain ⟨d0, d1, d2, d3, d4, d5, d6⟩ := UJ (UB KQ)
   obtain ⟨f0, f1, f2, f3, f4, f5, f6⟩ := VI (UB KQ)
   go_wp2_with fail
   clear d0 d1 d2 d3 d4 d5 d6 f0 f1 f2 f3 f4 f5 f6
   clear p0 p1 p2 p3 p4 p5 p6 q0 q1 q2 q3 q4 q5 q6
   have gs := Ab u4 ⟨w1.heap.size, 4, none⟩ (.slice bx bn.length bc)
   have KQ2 : Hid ((u4.setCell ⟨w1.heap.size, 4, none⟩ (.slice bx bn.length bc)).heap[w1.heap.size]? = some (.cells #[.slice x1 nm.length y1, .int .i64 ty, .int .i64 tl, .int .i64 ad, .slice bx bn.length bc, .slice x3 tx.length y3, .slice x4 nu.length y4] 39)) := UV (UB KQ) 4 _
   have DT2 := OwnT.off DT (UB KQ) (by decide) (by decide) gs
   have D2 : Hid (B9 (u4.setCell ⟨w1.heap.size, 4, none⟩ (.slice bx bn.length bc)) (.slice x1 nm.length y1) (.slice bx bn.length bc) (.slice x3 tx.length y3) (.slice x4 nu.length y4) ⟨nm, ty, tl, ad, bn, tx, nu⟩) := by
    have q := (UB DD).off (UB KQ) (by decide) (by decide) (by decide) gs
    exact ⟨q.name, DT2, q.text, q.nums⟩
   replace C := UC ((UB C).later gs (fun j e => by cases e; show g < w1.heap.size; omega))
   replace L := UC ((UB L).later gs (fun j e => by cases e; show g ≤ w1.heap.size; omega))
   replace GG := UC (Ae (UB GG) gs (fun j e => by cases e; show w.heap.size ≤ w1.heap.size; omega))
   replace KR := UC (Aa gs (UB KR) (by simp; omega))
   replace KQ := KQ2
   replace DD := D2
   have zs := gs.size
   clear gs KQ2 D2
   obtain ⟨R2, ou2⟩ := set7 (c0 := .slice x1 nm.length y1) (c1 := .int .i64 ty) (c2 := .int .i64 tl) (c3 := .int .i64 ad) (c4 := .slice bx bn.length bc) (c5 := .slice x3 tx.length y3) (c6 := .slice x4 nu.length y4) (UB KR)
   have gF := A8 (u4.setCell ⟨w1.heap.size, 4, none⟩ (.slice bx bn.length bc)) w.heap.size (c0 := .slice x1 nm.length y1) (c1 := .int .i64 ty) (c2 := .int .i64 tl) (c3 := .int .i64 ad) (c4 := .slice bx bn.length bc) (c5 := .slice x3 tx.length y3) (c6 := .slice x4 nu.length y4)
   have DF := UC ((UB DD).off (UB KR) (by decide) (by decide) (by decide) gF)
   have CF := UC ((UB C).later gF (fun j e => by cases e; exact hg))
   have GF := UC (Ae (UB GG) gF (fun j e => by cases e; exact Nat.le_refl _))
   have HR2 := UC R2
   clear R2 ou2 gF
   refine bodyPost_ret (results_cell_row rfl _ _ w.heap.size 39 #[.slice x1 nm.length y1, .int .i64 ty, .int .i64 tl, .int .i64 ad, .slice bx bn.length bc, .slice x3 tx.length y3, .slice x4 nu.length y4] (0, 0) _ rfl (UB HR2) Tryz.underlying39 rfl (by kernel_rfl)) rfl ?_
   exact ⟨_, _, _, _, ⟨nm, ty, tl, ad, bn, tx, nu⟩, rfl, ⟨⟨by first | exact Nat.le_trans (UB HN) (by decide) | (have := UB HN; simp; omega), by first | exact UB HN1 | exact UB HNB, by first | exact UB HN2 | exact UB HNB, by first | exact UB HX | simp⟩, by first | exact UB HTX | exact Fa _, fun e => absurd e (by decide)⟩, by first | exact (UB NL) | exact (fun j e => Nat.le_trans (Nat.le_of_lt zr) (UB HVB j e)), UB DF, (fun e => absurd e (by decide)), UB CF, UB GF⟩
  ·have HB := UC (A9 2 (UB C) (UB L) (UB HM) (by omega) (by omega))
   obtain ⟨d0, d1, d2, d3, d4, d5, d6⟩ := UJ (UB KQ)
   obtain ⟨f0, f1, f2, f3, f4, f5, f6⟩ := VI (UB KQ)
   go_wp2_with fail
   clear d0 d1 d2 d3 d4 d5 d6 f0 f1 f2 f3 f4 f5 f6
   refine (UB HB).mono ?_
   rintro e u4 ⟨zz, rfl, k0, k1, c4, g4⟩
   clear HB
   replace DD := UC ((UB DD).cur (UB C) g4)
   replace C := UC c4
   replace L := UC ((UB L).grown g4)
   replace GG := UC (Ad (UB GG) g4)
   replace KR := UC (Aa g4 (UB KR) (by simp; omega))
   replace KQ := UC (Aa g4 (UB KQ) (by simp; omega))
   have z4 := g4.size
   clear g4 c4
   have hz : zz = 0 ∨ zz = 1 := by omega
   clear k0 k1
   rcases hz with rfl | rfl
   ·have MK : (Instr.makeSlice 22 (.int .i64 40) (.int .i64 40)).run Tryz.prog u4 = .ok (.slice (some ⟨u4.heap.size, 0, none⟩) 40 40) (u4.alloc (.cells (madeCells #[.int .u8 0] 40) 5)) := run_make_row' (P := Tryz.prog) 22 5 (.int .u8 0) 1 Tryz.underlying22 VJ rfl .i64 .i64 40 (by decide) (by decide) u4
    have TX := Px u4 40 5 (by decide)
    have bI := UI (w := u4) (.cells (madeCells #[.int .u8 0] 40) 5)
    replace C := UC ((UB C).later (Ac bI) (by simp))
    replace L := UC ((UB L).later (Ac bI) (by simp))
    replace GG := UC (Ae (UB GG) (Ac bI) (fun j e => by cases e))
    replace KR := UC (UE bI (UB KR))
    replace KQ := UC (UE bI (UB KQ))
    replace DD := UC ((UB DD).below bI)
    have z5 := bI.size
    clear bI
    obtain ⟨p0, p1, p2, p3, p4, p5, p6⟩ := UJ (UB KR)
    obtain ⟨q0, q1, q2, q3, q4, q5, q6⟩ := VI (UB KR)
    obtain ⟨d0, d1, d2, d3, d4, d5, d6⟩ := UJ (UB KQ)
    obtain ⟨f0, f1, f2, f3, f4, f5, f6⟩ := VI (UB KQ)
    go_wp2_with fail
    clear d0 d1 d2 d3 d4 d5 d6 f0 f1 f2 f3 f4 f5 f6
    clear p0 p1 p2 p3 p4 p5 p6 q0 q1 q2 q3 q4 q5 q6
    clear MK
    have gs := Ab (u4.alloc (.cells (madeCells #[.int .u8 0] 40) 5)) ⟨w1.heap.size, 5, none⟩ (.slice (some ⟨u4.heap.size, 0, none⟩) 40 40)
    have KQ2 : Hid (((u4.alloc (.cells (madeCells #[.int .u8 0] 40) 5)).setCell ⟨w1.heap.size, 5, none⟩ (.slice (some ⟨u4.heap.size, 0, none⟩) 40 40)).heap[w1.heap.size]? = some (.cells #[.slice x1 nm.length y1, .int .i64 ty, .int .i64 tl, .int .i64 ad, .slice x2 to.length y2, .slice (some ⟨u4.heap.size, 0, none⟩) 40 40, .slice x4 nu.length y4] 39)) := UV (UB KQ) 5 _
    have TX2 := Has.off TX.1 TX.2 (UB KQ) (by decide) gs
    have D2 : Hid (B9 ((u4.alloc (.cells (madeCells #[.int .u8 0] 40) 5)).setCell ⟨w1.heap.size, 5, none⟩ (.slice (some ⟨u4.heap.size, 0, none⟩) 40 40)) (.slice x1 nm.length y1) (.slice x2 to.length y2) (.slice (some ⟨u4.heap.size, 0, none⟩) 40 40) (.slice x4 nu.length y4) ⟨nm, ty, tl, ad, to, List.replicate 40 0, nu⟩) := by
     have q := (UB DD).off (UB KQ) (by decide) (by decide) (by decide) gs
     exact ⟨q.name, q.to, TX2, q.nums⟩
    replace C := UC ((UB C).later gs (fun j e => by cases e; show g < w1.heap.size; omega))
    replace L := UC ((UB L).later gs (fun j e => by cases e; show g ≤ w1.heap.size; omega))
    replace GG := UC (Ae (UB GG) gs (fun j e => by cases e; show w.heap.size ≤ w1.heap.size; omega))
    replace KR := UC (Aa gs (UB KR) (by simp; omega))
    replace KQ := KQ2
    replace DD := D2
    have zs := gs.size
    clear gs KQ2 D2
    obtain ⟨R2, ou2⟩ := set7 (c0 := .slice x1 nm.length y1) (c1 := .int .i64 ty) (c2 := .int .i64 tl) (c3 := .int .i64 ad) (c4 := .slice x2 to.length y2) (c5 := .slice (some ⟨u4.heap.size, 0, none⟩) 40 40) (c6 := .slice x4 nu.length y4) (UB KR)
    have gF := A8 ((u4.alloc (.cells (madeCells #[.int .u8 0] 40) 5)).setCell ⟨w1.heap.size, 5, none⟩ (.slice (some ⟨u4.heap.size, 0, none⟩) 40 40)) w.heap.size (c0 := .slice x1 nm.length y1) (c1 := .int .i64 ty) (c2 := .int .i64 tl) (c3 := .int .i64 ad) (c4 := .slice x2 to.length y2) (c5 := .slice (some ⟨u4.heap.size, 0, none⟩) 40 40) (c6 := .slice x4 nu.length y4)
    have DF := UC ((UB DD).off (UB KR) (by decide) (by decide) (by decide) gF)
    have CF := UC ((UB C).later gF (fun j e => by cases e; exact hg))
    have GF := UC (Ae (UB GG) gF (fun j e => by cases e; exact Nat.le_refl _))
    have HR2 := UC R2
    clear R2 ou2 gF
    refine bodyPost_ret (results_cell_row rfl _ _ w.heap.size 39 #[.slice x1 nm.length y1, .int .i64 ty, .int .i64 tl, .int .i64 ad, .slice x2 to.length y2, .slice (some ⟨u4.heap.size, 0, none⟩) 40 40, .slice x4 nu.length y4] (0, 0) _ rfl (UB HR2) Tryz.underlying39 rfl (by kernel_rfl)) rfl ?_
    exact ⟨_, _, _, _, ⟨nm, ty, tl, ad, to, List.replicate 40 0, nu⟩, rfl, ⟨⟨by first | exact Nat.le_trans (UB HN) (by decide) | (have := UB HN; simp; omega), by first | exact UB HN1 | exact UB HNB, by first | exact UB HN2 | exact UB HNB, by first | exact UB HX | simp⟩, by first | exact UB HTX | exact Fa _, fun e => absurd e (by decide)⟩, by first | exact (UB NL) | exact (fun j e => Nat.le_trans (Nat.le_of_lt zr) (UB HVB j e)), UB DF, (fun e => absurd e (by decide)), UB CF, UB GF⟩
   ·have MK : (Instr.makeSlice 22 (.int .i64 41) (.int .i64 41)).run Tryz.prog u4 = .ok (.slice (some ⟨u4.heap.size, 0, none⟩) 41 41) (u4.alloc (.cells (madeCells #[.int .u8 0] 41) 5)) := run_make_row' (P := Tryz.prog) 22 5 (.int .u8 0) 1 Tryz.underlying22 VJ rfl .i64 .i64 41 (by decide) (by decide) u4
    have TX := Px u4 41 5 (by decide)
    have bI := UI (w := u4) (.cells (madeCells #[.int .u8 0] 41) 5)
    replace C := UC ((UB C).later (Ac bI) (by simp))
    replace L := UC ((UB L).later (Ac bI) (by simp))
    replace GG := UC (Ae (UB GG) (Ac bI) (fun j e => by cases e))
    replace KR := UC (UE bI (UB KR))
    replace KQ := UC (UE bI (UB KQ))
    replace DD := UC ((UB DD).below bI)
    have z5 := bI.size
    clear bI
    obtain ⟨p0, p1, p2, p3, p4, p5, p6⟩ := UJ (UB KR)
    obtain ⟨q0, q1, q2, q3, q4, q5, q6⟩ := VI (UB KR)
    obtain ⟨d0, d1, d2, d3, d4, d5, d6⟩ := UJ (UB KQ)
    obtain ⟨f0, f1, f2, f3, f4, f5, f6⟩ := VI (UB KQ)
    go_wp2_with fail
    clear d0 d1 d2 d3 d4 d5 d6 f0 f1 f2 f3 f4 f5 f6
    clear p0 p1 p2 p3 p4 p5 p6 q0 q1 q2 q3 q4 q5 q6
    clear MK
    have gs := Ab (u4.alloc (.cells (madeCells #[.int .u8 0] 41) 5)) ⟨w1.heap.size, 5, none⟩ (.slice (some ⟨u4.heap.size, 0, none⟩) 41 41)
    have KQ2 : Hid (((u4.alloc (.cells (madeCells #[.int .u8 0] 41) 5)).setCell ⟨w1.heap.size, 5, none⟩ (.slice (some ⟨u4.heap.size, 0, none⟩) 41 41)).heap[w1.heap.size]? = some (.cells #[.slice x1 nm.length y1, .int .i64 ty, .int .i64 tl, .int .i64 ad, .slice x2 to.length y2, .slice (some ⟨u4.heap.size, 0, none⟩) 41 41, .slice x4 nu.length y4] 39)) := UV (UB KQ) 5 _
    have TX2 := Has.off TX.1 TX.2 (UB KQ) (by decide) gs
    have D2 : Hid (B9 ((u4.alloc (.cells (madeCells #[.int .u8 0] 41) 5)).setCell ⟨w1.heap.size, 5, none⟩ (.slice (some ⟨u4.heap.size, 0, none⟩) 41 41)) (.slice x1 nm.length y1) (.slice x2 to.length y2) (.slice (some ⟨u4.heap.size, 0, none⟩) 41 41) (.slice x4 nu.length y4) ⟨nm, ty, tl, ad, to, List.replicate 41 0, nu⟩) := by
     have q := (UB DD).off (UB KQ) (by decide) (by decide) (by decide) gs
     exact ⟨q.name, q.to, TX2, q.nums⟩
    replace C := UC ((UB C).later gs (fun j e => by cases e; show g < w1.heap.size; omega))
    replace L := UC ((UB L).later gs (fun j e => by cases e; show g ≤ w1.heap.size; omega))
    replace GG := UC (Ae (UB GG) gs (fun j e => by cases e; show w.heap.size ≤ w1.heap.size; omega))
    replace KR := UC (Aa gs (UB KR) (by simp; omega))
    replace KQ := KQ2
    replace DD := D2
    have zs := gs.size
    clear gs KQ2 D2
    obtain ⟨R2, ou2⟩ := set7 (c0 := .slice x1 nm.length y1) (c1 := .int .i64 ty) (c2 := .int .i64 tl) (c3 := .int .i64 ad) (c4 := .slice x2 to.length y2) (c5 := .slice (some ⟨u4.heap.size, 0, none⟩) 41 41) (c6 := .slice x4 nu.length y4) (UB KR)
    have gF := A8 ((u4.alloc (.cells (madeCells #[.int .u8 0] 41) 5)).setCell ⟨w1.heap.size, 5, none⟩ (.slice (some ⟨u4.heap.size, 0, none⟩) 41 41)) w.heap.size (c0 := .slice x1 nm.length y1) (c1 := .int .i64 ty) (c2 := .int .i64 tl) (c3 := .int .i64 ad) (c4 := .slice x2 to.length y2) (c5 := .slice (some ⟨u4.heap.size, 0, none⟩) 41 41) (c6 := .slice x4 nu.length y4)
    have DF := UC ((UB DD).off (UB KR) (by decide) (by decide) (by decide) gF)
    have CF := UC ((UB C).later gF (fun j e => by cases e; exact hg))
    have GF := UC (Ae (UB GG) gF (fun j e => by cases e; exact Nat.le_refl _))
    have HR2 := UC R2
    clear R2 ou2 gF
    refine bodyPost_ret (results_cell_row rfl _ _ w.heap.size 39 #[.slice x1 nm.length y1, .int .i64 ty, .int .i64 tl, .int .i64 ad, .slice x2 to.length y2, .slice (some ⟨u4.heap.size, 0, none⟩) 41 41, .slice x4 nu.length y4] (0, 0) _ rfl (UB HR2) Tryz.underlying39 rfl (by kernel_rfl)) rfl ?_
    exact ⟨_, _, _, _, ⟨nm, ty, tl, ad, to, List.replicate 41 0, nu⟩, rfl, ⟨⟨by first | exact Nat.le_trans (UB HN) (by decide) | (have := UB HN; simp; omega), by first | exact UB HN1 | exact UB HNB, by first | exact UB HN2 | exact UB HNB, by first | exact UB HX | simp⟩, by first | exact UB HTX | exact Fa _, fun e => absurd e (by decide)⟩, by first | exact (UB NL) | exact (fun j e => Nat.le_trans (Nat.le_of_lt zr) (UB HVB j e)), UB DF, (fun e => absurd e (by decide)), UB CF, UB GF⟩
  ·have bD := UX (w := u3)
   replace C := UC ((UB C).later (Ac bD) (by simp))
   replace L := UC ((UB L).later (Ac bD) (by simp))
   replace GG := UC (Ae (UB GG) (Ac bD) (fun j e => by cases e))
   replace KR := UC (UE bD (UB KR))
   replace KQ := UC (UE bD (UB KQ))
   replace DD := UC ((UB DD).below bD)
   have z4 := bD.size
   clear bD
   go_wp2_with fail
   refine wp_region_any (by kernel_rfl) ?_
   show wpAny _ _ _ _ _ _ _ u3.drew
   generalize u3.drew = D at *
   obtain ⟨d0, d1, d2, d3, d4, d5, d6⟩ := UJ (UB KQ)
   clear d0 d1 d2 d3 d4 d5
   have HB := UC (A9 5 (UB C) (UB L) (UB HM) (by omega) (by omega))
   refine wpAny_take (i := 0) (oi := _) (v := .pointer (some ⟨w1.heap.size, 6, none⟩)) rfl (by kernel_rfl) (by kernel_rfl) (by kernel_rfl) (fun _ _ _ h => h) (Or.inl ⟨by rfl, fun w => by go_simp⟩) ?_
   try simp only [Act.put, List.setIfInBounds_toArray]
   refine wpAny_take (i := 2) (oi := _) (v := .pointer (some ⟨g, 0, none⟩)) rfl (by kernel_rfl) (by kernel_rfl) (by kernel_rfl) (fun _ _ _ h => h) (Or.inl ⟨by rfl, fun w => by go_simp⟩) ?_
   try simp only [Act.put]
   refine Gg (i := 1) (oi := _) (v := .slice x4 nu.length y4) (fun w' => w'.cell? ⟨w1.heap.size, 6, none⟩ = some (.slice x4 nu.length y4)) rfl (by kernel_rfl) (by kernel_rfl) (by kernel_rfl) (fun _ _ _ h => h) (Or.inl ⟨by rfl, fun w' hw' => by go_simp⟩) d6 ?_
   try simp only [Act.put]
   clear d6
   refine Al (js := [3]) (by kernel_rfl) (by simp) (AllT.cons (o := _) rfl (fun K hK => ?_) AllT.nil)
   have HK := UC hK
   clear hK
   go_simp
   refine (UB HB).mono ?_
   rintro e X ⟨x, rfl, _, _, cX, gX⟩
   clear HB
   replace DD := UC ((UB DD).cur (UB C) gX)
   replace C := UC cX
   replace L := UC ((UB L).grown gX)
   replace GG := UC (Ad (UB GG) gX)
   replace KR := UC (Aa gX (UB KR) (by simp; omega))
   replace KQ := UC (Aa gX (UB KQ) (by simp; omega))
   have z5 := gX.size
   clear gX cX
   have NX := UC (OwnI.up (B := w.heap.size) (UB DD).nums (fun j e => Nat.le_trans (Nat.le_of_lt zr) (UB HVB j e)))
   obtain ⟨d0, d1, d2, d3, d4, d5, d6⟩ := UJ (UB KQ)
   clear d0 d1 d2 d3 d4 d5
   go_simp
   refine UB HK _ _ d6 ?_
   clear HK K
   try simp only [Act.put, List.setIfInBounds_toArray, List.set_cons_zero, List.set_cons_succ]
   clear d6
   have bE := UI (w := X) (.cells #[.int .i64 x] 3)
   replace C := UC ((UB C).later (Ac bE) (by simp))
   replace L := UC ((UB L).later (Ac bE) (by simp))
   replace GG := UC (Ae (UB GG) (Ac bE) (fun j e => by cases e))
   replace KR := UC (UE bE (UB KR))
   replace KQ := UC (UE bE (UB KQ))
   replace DD := UC ((UB DD).below bE)
   have z6 := bE.size
   clear bE
   obtain ⟨d0, d1, d2, d3, d4, d5, d6⟩ := UJ (UB KQ)
   clear d0 d1 d2 d3 d4 d5
   refine Al (js := [4]) (by kernel_rfl) (by simp) (AllT.cons (o := _) rfl (fun K hK => ?_) AllT.nil)
   have HK := UC hK
   clear hK
   go_simp
   refine UB HK _ _ d6 ?_
   clear HK K
   try simp only [Act.put, List.setIfInBounds_toArray, List.set_cons_zero, List.set_cons_succ]
   clear d6
   refine AnyT.over _ _ _ _ (by kernel_rfl) ?_
   refine wpAny_ready (rs := [5]) (by kernel_rfl) (by simp) (AllReady.cons (o := _) rfl (fun K hK => ?_) AllReady.nil)
   have HK := UC hK
   clear hK
   refine L7 rfl (.tmp 11) (.tmp 14) 37 3 rfl Tryz.underlying37 Wm w.heap.size (.slice x4 nu.length y4) nu X x (by simp [Act.eval]) (by simp [Act.eval]) rfl (UB NX) (by have := UB HN; omega) (by omega) ?_
   intro v6 w6 o6 g6
   obtain ⟨v6a, v6c, hv6, _⟩ := o6.lies
   replace hv6 : v6 = .slice v6a (nu.length + 1) v6c := by rw [hv6]; simp
   subst hv6
   obtain ⟨a1, a2, a3⟩ := (UB DD).numsOn (UB KQ) (by decide) (by decide) g6
   have NL := UC (OwnI.low o6)
   have O6 := o6.mono (Nat.zero_le _)
   replace KR := UC (Aa g6 (UB KR) (Cp (UB DD).nums (UB KR) (by decide)))
   replace KQ := UC (Aa g6 (UB KQ) (Cp (UB DD).nums (UB KQ) (by decide)))
   replace C := UC ((UB C).numsOn (UB DD).nums g6)
   replace GG := UC (Ae (UB GG) g6 (fun j e => Nat.le_trans (Nat.le_of_lt zr) (UB HVB j e)))
   clear L
   have L : Hid True := trivial
   replace DD := UC (⟨a1, a2, a3, O6⟩ : B9 w6 (.slice x1 nm.length y1) (.slice x2 to.length y2) (.slice x3 tx.length y3) (.slice v6a (nu.length + 1) v6c) ⟨nm, ty, tl, ad, to, tx, nu ++ [x]⟩)
   have z66 := g6.size
   clear a1 a2 a3 O6 o6 g6 NX HVB
   obtain ⟨d0, d1, d2, d3, d4, d5, d6⟩ := UJ (UB KQ)
   obtain ⟨f0, f1, f2, f3, f4, f5, f6⟩ := VI (UB KQ)
   refine UB HK _ _ ?_
   clear HK K
   try simp only [Act.put, List.setIfInBounds_toArray]
   refine wpAny_ready (rs := [6]) (by kernel_rfl) (by simp) (AllReady.cons (o := _) rfl (fun K hK => ?_) AllReady.nil)
   have HK := UC hK
   clear hK
   go_simp
   refine UB HK _ _ ?_
   clear HK K
   try simp only [Act.put, List.setIfInBounds_toArray, List.set_cons_zero, List.set_cons_succ]
   refine wpAny_ready (rs := [7]) (by kernel_rfl) (by simp) (AllReady.cons (o := _) rfl (fun K hK => ?_) AllReady.nil)
   have HK := UC hK
   clear hK
   go_simp
   refine UB HK _ _ ?_
   clear HK K
   try simp only [Act.put, List.setIfInBounds_toArray, List.set_cons_zero, List.set_cons_succ]
   refine wpAny_done (by kernel_rfl) ?_ _
   clear d0 d1 d2 d3 d4 d5 d6 f0 f1 f2 f3 f4 f5 f6
   have gs := Ab w6 ⟨w1.heap.size, 6, none⟩ (.slice v6a (nu.length + 1) v6c)
   have KQ2 : Hid ((w6.setCell ⟨w1.heap.size, 6, none⟩ (.slice v6a (nu.length + 1) v6c)).heap[w1.heap.size]? = some (.cells #[.slice x1 nm.length y1, .int .i64 ty, .int .i64 tl, .int .i64 ad, .slice x2 to.length y2, .slice x3 tx.length y3, .slice v6a (nu.length + 1) v6c] 39)) := UV (UB KQ) 6 _
   have D2 : Hid (B9 (w6.setCell ⟨w1.heap.size, 6, none⟩ (.slice v6a (nu.length + 1) v6c)) (.slice x1 nm.length y1) (.slice x2 to.length y2) (.slice x3 tx.length y3) (.slice v6a (nu.length + 1) v6c) ⟨nm, ty, tl, ad, to, tx, nu ++ [x]⟩) := by
    have q := (UB DD).off (UB KQ) (by decide) (by decide) (by decide) gs
    exact ⟨q.name, q.to, q.text, q.nums⟩
   replace C := UC ((UB C).later gs (fun j e => by cases e; show g < w1.heap.size; omega))
   replace GG := UC (Ae (UB GG) gs (fun j e => by cases e; show w.heap.size ≤ w1.heap.size; omega))
   replace KR := UC (Aa gs (UB KR) (by simp; omega))
   replace KQ := KQ2
   replace DD := D2
   have zs := gs.size
   clear gs KQ2 D2
   obtain ⟨p0, p1, p2, p3, p4, p5, p6⟩ := UJ (UB KR)
   obtain ⟨q0, q1, q2, q3, q4, q5, q6⟩ := VI (UB KR)
   obtain ⟨d0, d1, d2, d3, d4, d5, d6⟩ := UJ (UB KQ)
   obtain ⟨f0, f1, f2, f3, f4, f5, f6⟩ := VI (UB KQ)
   go_wp2_with fail
   clear d0 d1 d2 d3 d4 d5 d6 f0 f1 f2 f3 f4 f5 f6
   clear p0 p1 p2 p3 p4 p5 p6 q0 q1 q2 q3 q4 q5 q6
   obtain ⟨R2, ou2⟩ := set7 (c0 := .slice x1 nm.length y1) (c1 := .int .i64 ty) (c2 := .int .i64 tl) (c3 := .int .i64 ad) (c4 := .slice x2 to.length y2) (c5 := .slice x3 tx.length y3) (c6 := .slice v6a (nu.length + 1) v6c) (UB KR)
   have gF := A8 (w6.setCell ⟨w1.heap.size, 6, none⟩ (.slice v6a (nu.length + 1) v6c)) w.heap.size (c0 := .slice x1 nm.length y1) (c1 := .int .i64 ty) (c2 := .int .i64 tl) (c3 := .int .i64 ad) (c4 := .slice x2 to.length y2) (c5 := .slice x3 tx.length y3) (c6 := .slice v6a (nu.length + 1) v6c)
   have DF := UC ((UB DD).off (UB KR) (by decide) (by decide) (by decide) gF)
   have CF := UC ((UB C).later gF (fun j e => by cases e; exact hg))
   have GF := UC (Ae (UB GG) gF (fun j e => by cases e; exact Nat.le_refl _))
   have HR2 := UC R2
   clear R2 ou2 gF
   refine bodyPost_ret (results_cell_row rfl _ _ w.heap.size 39 #[.slice x1 nm.length y1, .int .i64 ty, .int .i64 tl, .int .i64 ad, .slice x2 to.length y2, .slice x3 tx.length y3, .slice v6a (nu.length + 1) v6c] (0, 0) _ rfl (UB HR2) Tryz.underlying39 rfl (by kernel_rfl)) rfl ?_
   exact ⟨_, _, _, _, ⟨nm, ty, tl, ad, to, tx, nu ++ [x]⟩, rfl, ⟨⟨by first | exact Nat.le_trans (UB HN) (by decide) | (have := UB HN; simp; omega), by first | exact UB HN1 | exact UB HNB, by first | exact UB HN2 | exact UB HNB, by first | exact UB HX | simp⟩, by first | exact UB HTX | exact Fa _, fun e => absurd e (by decide)⟩, by first | exact (UB NL) | exact (fun j e => Nat.le_trans (Nat.le_of_lt zr) (UB HVB j e)), UB DF, (fun e => absurd e (by decide)), UB CF, UB GF⟩
end Go.Proofs.YtfneahdnpmamkaaGreat
