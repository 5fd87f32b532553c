/-
  Plain facts: a slice of two numbers, laid. Contract of the specification's l3draw: a drawn record.
-/
import Derived.Test.YtfneahdnpmamkaaGreatFnOwnersG13
namespace Go.Proofs.YtfneahdnpmamkaaGreat
open Go.RowKit

theorem Xa (w : World) (B : Nat) (e : TypeId) (x y : Int) (hB : B ≤ w.heap.size) :
  OwnI B e (w.alloc (.cells #[.int .i64 x, .int .i64 y] e)) (.slice (some ⟨w.heap.size, 0, none⟩) 2 2) [x, y] := by
 have h := World.ownsRow_lit (base := B) (e := e) (size := 1) w #[.int .i64 x, .int .i64 y] 2 hB (by unfold maxLen; omega) (by simp)
 simpa [OwnI] using h

end Go.Proofs.YtfneahdnpmamkaaGreat

namespace Go.Proofs.YtfneahdnpmamkaaGreat
open Go.RowKit
set_option linter.unusedVariables false

set_option maxHeartbeats 4000000 in
set_option maxRecDepth 100000 in
theorem Lo {g : Nat} {a : Option Addr} {len cap : Nat} {w : World} (hc : Cur w g a len cap) (hL : Code w g a len) (hm : len ≤ maxLen) :
  Calls Tryz.prog 62 #[.pointer (some ⟨g, 0, none⟩)] w (Va 2 w g a len cap) := by
 have hg := hc.lt
 have HM := UC hm
 have C := UC hc
 have L := UC hL
 have GG : Hid (w.grownBy w (some g)) := ⟨rfl, rfl, rfl, Nat.le_refl _, fun _ _ _ => rfl⟩
 have KR := heap_alloc_new w (.cells #[.slice none 0 0, .int .i64 0, .int .i64 0, .int .i64 0, .slice none 0 0, .slice none 0 0, .slice none 0 0] 39)
 have ba := UI (w := w) (.cells #[.slice none 0 0, .int .i64 0, .int .i64 0, .int .i64 0, .slice none 0 0, .slice none 0 0, .slice none 0 0] 39)
 have zr := VC KR
 replace KR := UC KR
 replace C := UC ((UB C).later (Ac ba) (by simp))
 replace L := UC ((UB L).later (Ac ba) (by simp))
 replace GG := UC (Ae (UB GG) (Ac ba) (fun j e => by cases e))
 have HD := UC (He (UB C) (UB L) (UB HM))
 clear hc hL hm ba
 go_enter Tryz.func62, Tryz.ntmps62
 go_wp2_with fail
 generalize w.alloc (.cells #[.slice none 0 0, .int .i64 0, .int .i64 0, .int .i64 0, .slice none 0 0, .slice none 0 0, .slice none 0 0] 39) = W at *
 refine (UB HD).mono ?_
 rintro e w1 ⟨v1, n1, rfl, dn1, o1, c1, g1⟩
 have HK1 := UC (Hs dn1)
 have HN1 : Hid (Ej n1) := ⟨Nat.le_trans dn1.bound.1 (by decide), fun k hk => Nat.le_trans (dn1.bound.2 k hk) (by decide)⟩
 clear dn1
 obtain ⟨x1, y1, rfl, _⟩ := o1.hasL.form
 have DN := o1.ownT.mono (Nat.zero_le _)
 have NF := UC (o1.ownF.mono (Nat.le_of_lt zr))
 clear HD o1
 replace C := UC c1
 replace L := UC ((UB L).grown g1)
 replace GG := UC (Ad (UB GG) g1)
 replace KR := UC (Aa g1 (UB KR) (by simp; omega))
 have z0 := g1.size
 clear g1 c1
 have DD := UC (⟨DN, Sw _, Xw _, Yc _⟩ : B9 w1 (.slice x1 n1.length y1) (.slice none 0 0) (.slice none 0 0) (.slice none 0 0) ⟨n1, 0, 0, 0, [], [], []⟩)
 clear DN
 have kz := heap_alloc_new w1 (.cells #[.int .i64 1, .int .i64 1, .int .i64 2, .int .i64 5, .int .i64 6, .int .i64 12, .int .i64 16, .int .i64 49] 3)
 have bz := UI (w := w1) (.cells #[.int .i64 1, .int .i64 1, .int .i64 2, .int .i64 5, .int .i64 6, .int .i64 12, .int .i64 16, .int .i64 49] 3)
 replace C := UC ((UB C).later (Ac bz) (by simp))
 replace L := UC ((UB L).later (Ac bz) (by simp))
 replace GG := UC (Ae (UB GG) (Ac bz) (fun j e => by cases e))
 replace KR := UC (UE bz (UB KR))
 replace DD := UC ((UB DD).below bz)
 replace NF := UC ((UB NF).below bz)
 have z1 := bz.size
 clear bz
 have HPK := UC (Cj (w := w1.alloc (.cells #[.int .i64 1, .int .i64 1, .int .i64 2, .int .i64 5, .int .i64 6, .int .i64 12, .int .i64 16, .int .i64 49] 3)) w1.heap.size 8 (fun z => Ax z = true) (UB C) (UB L) (UB HM) (by omega) (by omega) (VC kz) (by omega) (fun j hj => by
  have hq := VE kz j
  match j, hj with
  | 0, _ => exact ⟨_, hq, by decide⟩
  | 1, _ => exact ⟨_, hq, by decide⟩
  | 2, _ => exact ⟨_, hq, by decide⟩
  | 3, _ => exact ⟨_, hq, by decide⟩
  | 4, _ => exact ⟨_, hq, by decide⟩
  | 5, _ => exact ⟨_, hq, by decide⟩
  | 6, _ => exact ⟨_, hq, by decide⟩
  | 7, _ => exact ⟨_, hq, by decide⟩))
 clear kz
 go_wp2_with fail
 generalize w1.alloc (.cells #[.int .i64 1, .int .i64 1, .int .i64 2, .int .i64 5, .int .i64 6, .int .i64 12, .int .i64 16, .int .i64 49] 3) = W2 at *
 refine (UB HPK).mono ?_
 rintro e u2 ⟨t, rfl, ht, c2, g2⟩
 clear HPK
 replace DD := UC ((UB DD).cur (UB C) g2)
 replace NF := UC ((UB NF).cur (UB C) g2)
 replace C := UC c2
 replace L := UC ((UB L).grown g2)
 replace GG := UC (Ad (UB GG) g2)
 replace KR := UC (Aa g2 (UB KR) (by simp; omega))
 have z2 := g2.size
 clear g2 c2
 have kz := heap_alloc_new u2 (.cells #[.int .i64 0, .int .i64 5, .int .i64 60, .int .i64 300, .int .i64 100000] 3)
 have bz := UI (w := u2) (.cells #[.int .i64 0, .int .i64 5, .int .i64 60, .int .i64 300, .int .i64 100000] 3)
 replace C := UC ((UB C).later (Ac bz) (by simp))
 replace L := UC ((UB L).later (Ac bz) (by simp))
 replace GG := UC (Ae (UB GG) (Ac bz) (fun j e => by cases e))
 replace KR := UC (UE bz (UB KR))
 replace DD := UC ((UB DD).below bz)
 replace NF := UC ((UB NF).below bz)
 have z3 := bz.size
 clear bz
 have HPK := UC (Cj (w := u2.alloc (.cells #[.int .i64 0, .int .i64 5, .int .i64 60, .int .i64 300, .int .i64 100000] 3)) u2.heap.size 5 (fun z => 0 ≤ z ∧ z ≤ 100000) (UB C) (UB L) (UB HM) (by omega) (by omega) (VC kz) (by omega) (fun j hj => by
  have hq := VE kz j
  match j, hj with
  | 0, _ => exact ⟨_, hq, by decide⟩
  | 1, _ => exact ⟨_, hq, by decide⟩
  | 2, _ => exact ⟨_, hq, by decide⟩
  | 3, _ => exact ⟨_, hq, by decide⟩
  | 4, _ => exact ⟨_, hq, by decide⟩))
 clear kz
 go_wp2_with fail
 generalize u2.alloc (.cells #[.int .i64 0, .int .i64 5, .int .i64 60, .int .i64 300, .int .i64 100000] 3) = W4 at *
 refine (UB HPK).mono ?_
 rintro e u4 ⟨l, rfl, hl, c4, g4⟩
 clear HPK
 replace DD := UC ((UB DD).cur (UB C) g4)
 replace NF := UC ((UB NF).cur (UB C) g4)
 replace C := UC c4
 replace L := UC ((UB L).grown g4)
 replace GG := UC (Ad (UB GG) g4)
 replace KR := UC (Aa g4 (UB KR) (by simp; omega))
 have z4 := g4.size
 clear g4 c4
 have KQ := heap_alloc_new u4 (.cells #[.slice x1 n1.length y1, .int .i64 t, .int .i64 l, .int .i64 0, .slice none 0 0, .slice none 0 0, .slice none 0 0] 39)
 have ba := UI (w := u4) (.cells #[.slice x1 n1.length y1, .int .i64 t, .int .i64 l, .int .i64 0, .slice none 0 0, .slice none 0 0, .slice none 0 0] 39)
 have zq := VC KQ
 replace KQ := UC KQ
 replace C := UC ((UB C).later (Ac ba) (by simp))
 replace L := UC ((UB L).later (Ac ba) (by simp))
 replace GG := UC (Ae (UB GG) (Ac ba) (fun j e => by cases e))
 replace KR := UC (UE ba (UB KR))
 replace DD := UC ((UB DD).below ba)
 replace NF := UC ((UB NF).below ba)
 have z5 := ba.size
 clear ba
 replace DD : Hid (B9 ((u4.alloc (.cells #[.slice x1 n1.length y1, .int .i64 t, .int .i64 l, .int .i64 0, .slice none 0 0, .slice none 0 0, .slice none 0 0] 39))) (.slice x1 n1.length y1) (.slice none 0 0) (.slice none 0 0) (.slice none 0 0) ⟨n1, t, l, 0, [], [], []⟩) := ⟨(UB DD).name, (UB DD).to, (UB DD).text, (UB DD).nums⟩
 have ht7 := Db t
 have hcs : t = 1 ∨ t = 6 ∨ (t ≠ 1 ∧ t ≠ 6 ∧ named t = true) ∨ (t ≠ 1 ∧ named t = false) := by
  rcases ht7 with rfl | rfl | rfl | rfl | rfl | rfl | rfl | h
  ·exact .inl rfl
  ·exact .inr (.inr (.inl ⟨by omega, by omega, rfl⟩))
  ·exact .inr (.inr (.inl ⟨by omega, by omega, rfl⟩))
  ·exact .inr (.inl rfl)
  ·exact .inr (.inr (.inl ⟨by omega, by omega, rfl⟩))
  ·exact .inr (.inr (.inr ⟨by omega, rfl⟩))
  ·exact .inr (.inr (.inr ⟨by omega, rfl⟩))
  ·rw [ht] at h
   cases h
 have HL := UC hl
 have HTY := UC ht
 clear ht7 hl
 rcases hcs with rfl | rfl | ⟨n11, n16, hnm⟩ | ⟨n11, hnm⟩
 ·have kz := heap_alloc_new (u4.alloc (.cells #[.slice x1 n1.length y1, .int .i64 1, .int .i64 l, .int .i64 0, .slice none 0 0, .slice none 0 0, .slice none 0 0] 39)) (.cells #[.int .i64 1, .int .i64 167772163, .int .i64 167772164, .int .i64 4294967295] 3)
  have bz := UI (w := (u4.alloc (.cells #[.slice x1 n1.length y1, .int .i64 1, .int .i64 l, .int .i64 0, .slice none 0 0, .slice none 0 0, .slice none 0 0] 39))) (.cells #[.int .i64 1, .int .i64 167772163, .int .i64 167772164, .int .i64 4294967295] 3)
  replace C := UC ((UB C).later (Ac bz) (by simp))
  replace L := UC ((UB L).later (Ac bz) (by simp))
  replace GG := UC (Ae (UB GG) (Ac bz) (fun j e => by cases e))
  replace KR := UC (UE bz (UB KR))
  replace KQ := UC (UE bz (UB KQ))
  replace DD := UC ((UB DD).below bz)
  replace NF := UC ((UB NF).below bz)
  have z6 := bz.size
  clear bz
  have HPK := UC (Cj (w := (u4.alloc (.cells #[.slice x1 n1.length y1, .int .i64 1, .int .i64 l, .int .i64 0, .slice none 0 0, .slice none 0 0, .slice none 0 0] 39)).alloc (.cells #[.int .i64 1, .int .i64 167772163, .int .i64 167772164, .int .i64 4294967295] 3)) (u4.alloc (.cells #[.slice x1 n1.length y1, .int .i64 1, .int .i64 l, .int .i64 0, .slice none 0 0, .slice none 0 0, .slice none 0 0] 39)).heap.size 4 (fun z => 0 ≤ z ∧ z ≤ 4294967295) (UB C) (UB L) (UB HM) (by omega) (by omega) (VC kz) (by omega) (fun j hj => by
   have hq := VE kz j
   match j, hj with
   | 0, _ => exact ⟨_, hq, by decide⟩
   | 1, _ => exact ⟨_, hq, by decide⟩
   | 2, _ => exact ⟨_, hq, by decide⟩
   | 3, _ => exact ⟨_, hq, by decide⟩))
  clear kz
  have esz : (u4.alloc (.cells #[.slice x1 n1.length y1, .int .i64 1, .int .i64 l, .int .i64 0, .slice none 0 0, .slice none 0 0, .slice none 0 0] 39)).heap.size = u4.heap.size + 1 := by show (u4.heap.push _).size = _; simp
  rw [esz] at HPK
  clear esz
  obtain ⟨d0, d1, d2, d3, d4, d5, d6⟩ := UJ (UB KQ)
  obtain ⟨f0, f1, f2, f3, f4, f5, f6⟩ := VI (UB KQ)
  go_wp2_with fail
  clear d0 d1 d2 d3 d4 d5 d6 f0 f1 f2 f3 f4 f5 f6
  generalize (u4.alloc (.cells #[.slice x1 n1.length y1, .int .i64 1, .int .i64 l, .int .i64 0, .slice none 0 0, .slice none 0 0, .slice none 0 0] 39)).alloc (.cells #[.int .i64 1, .int .i64 167772163, .int .i64 167772164, .int .i64 4294967295] 3) = W7 at *
  refine (UB HPK).mono ?_
  rintro e u7 ⟨ad, rfl, had, c7, g7⟩
  have HAD := UC had
  clear had
  clear HPK
  replace DD := UC ((UB DD).cur (UB C) g7)
  replace NF := UC ((UB NF).cur (UB C) g7)
  replace C := UC c7
  replace L := UC ((UB L).grown g7)
  replace GG := UC (Ad (UB GG) g7)
  replace KR := UC (Aa g7 (UB KR) (by simp; omega))
  replace KQ := UC (Aa g7 (UB KQ) (by simp; omega))
  have z7 := g7.size
  clear g7 c7
  obtain ⟨p0, p1, p2, p3, p4, p5, p6⟩ := UJ (UB KR)
  obtain ⟨q0, q1, q2, q3, q4, q5, q6⟩ := VI (UB KR)
  obtain ⟨d0, d1, d2, d3, d4, d5, d6⟩ := UJ (UB KQ)
  obtain ⟨f0, f1, f2, f3, f4, f5, f6⟩ := VI (UB KQ)
  go_wp2_with fail
  clear d0 d1 d2 d3 d4 d5 d6 f0 f1 f2 f3 f4 f5 f6
  clear p0 p1 p2 p3 p4 p5 p6 q0 q1 q2 q3 q4 q5 q6
  have gs := Ab u7 ⟨u4.heap.size, 3, none⟩ (.int .i64 ad)
  have KQ2 : Hid ((u7.setCell ⟨u4.heap.size, 3, none⟩ (.int .i64 ad)).heap[u4.heap.size]? = some (.cells #[.slice x1 n1.length y1, .int .i64 1, .int .i64 l, .int .i64 ad, .slice none 0 0, .slice none 0 0, .slice none 0 0] 39)) := UV (UB KQ) 3 _
  have NF2 := UC ((UB NF).off (UB KQ) (by decide) (by decide) gs)
  have D2 : Hid (B9 (u7.setCell ⟨u4.heap.size, 3, none⟩ (.int .i64 ad)) (.slice x1 n1.length y1) (.slice none 0 0) (.slice none 0 0) (.slice none 0 0) ⟨n1, 1, l, ad, [], [], []⟩) := by
   have q := (UB DD).off (UB KQ) (by decide) (by decide) (by decide) gs
   exact ⟨q.name, q.to, q.text, q.nums⟩
  replace C := UC ((UB C).later gs (fun j e => by cases e; show g < u4.heap.size; omega))
  replace L := UC ((UB L).later gs (fun j e => by cases e; show g ≤ u4.heap.size; omega))
  replace GG := UC (Ae (UB GG) gs (fun j e => by cases e; show w.heap.size ≤ u4.heap.size; omega))
  replace KR := UC (Aa gs (UB KR) (by simp; omega))
  replace KQ := KQ2
  replace DD := D2
  replace NF := NF2
  clear NF2
  have zs := gs.size
  clear gs KQ2 D2
  obtain ⟨R2, ou2⟩ := set7 (c0 := .slice x1 n1.length y1) (c1 := .int .i64 1) (c2 := .int .i64 l) (c3 := .int .i64 ad) (c4 := .slice none 0 0) (c5 := .slice none 0 0) (c6 := .slice none 0 0) (UB KR)
  have gF := A8 (u7.setCell ⟨u4.heap.size, 3, none⟩ (.int .i64 ad)) w.heap.size (c0 := .slice x1 n1.length y1) (c1 := .int .i64 1) (c2 := .int .i64 l) (c3 := .int .i64 ad) (c4 := .slice none 0 0) (c5 := .slice none 0 0) (c6 := .slice none 0 0)
  have DF := UC ((UB DD).off (UB KR) (by decide) (by decide) (by decide) gF)
  have NFF := UC ((UB NF).off (UB KR) (by decide) (by decide) gF)
  have CF := UC ((UB C).later gF (fun j e => by cases e; exact hg))
  have GF := UC (Ae (UB GG) gF (fun j e => by cases e; exact Nat.le_refl _))
  have HR2 := UC R2
  clear R2 ou2 gF
  refine bodyPost_ret (results_cell_row rfl _ _ w.heap.size 39 #[.slice x1 n1.length y1, .int .i64 1, .int .i64 l, .int .i64 ad, .slice none 0 0, .slice none 0 0, .slice none 0 0] (0, 0) _ rfl (UB HR2) Tryz.underlying39 rfl (by kernel_rfl)) rfl ?_
  exact ⟨_, _, _, _, ⟨n1, 1, l, ad, [], [], []⟩, rfl, ⟨⟨by simp, UB HN1, by first | exact G8 | exact UB HN2, by first | exact UB HX | simp⟩, Kk, fun _ => okR_A (UB HK1) (UB HL) (UB HAD)⟩, fun j e => by first | (cases e; done) | (have e2 := Option.some.inj e; try dsimp only at e2; omega), UB DF, (fun _ => UB NFF), UB CF, UB GF⟩
 ·have LN := UC (VR 6 (u4.alloc (.cells #[.slice x1 n1.length y1, .int .i64 6, .int .i64 l, .int .i64 0, .slice none 0 0, .slice none 0 0, .slice none 0 0] 39)) (by first | rfl | exact ht))
  obtain ⟨d0, d1, d2, d3, d4, d5, d6⟩ := UJ (UB KQ)
  obtain ⟨f0, f1, f2, f3, f4, f5, f6⟩ := VI (UB KQ)
  go_wp2_with fail
  clear d0 d1 d2 d3 d4 d5 d6 f0 f1 f2 f3 f4 f5 f6
  generalize (u4.alloc (.cells #[.slice x1 n1.length y1, .int .i64 6, .int .i64 l, .int .i64 0, .slice none 0 0, .slice none 0 0, .slice none 0 0] 39)) = W6 at *
  refine (UB LN).mono ?_
  rintro e u ⟨rfl, rfl⟩
  clear LN
  have HD := UC (He (UB C) (UB L) (UB HM))
  obtain ⟨d0, d1, d2, d3, d4, d5, d6⟩ := UJ (UB KQ)
  obtain ⟨f0, f1, f2, f3, f4, f5, f6⟩ := VI (UB KQ)
  go_wp2_with fail
  clear d0 d1 d2 d3 d4 d5 d6 f0 f1 f2 f3 f4 f5 f6
  refine (UB HD).mono ?_
  rintro e u6 ⟨v6, n6, rfl, dn, o6, c6, g6⟩
  have HK2 := UC (Hs dn)
  have HN2 : Hid (Ej n6) := ⟨Nat.le_trans dn.bound.1 (by decide), fun k hk => Nat.le_trans (dn.bound.2 k hk) (by decide)⟩
  clear dn
  obtain ⟨x6, y6, rfl, _⟩ := o6.hasL.form
  have DT := o6.ownT.mono (Nat.zero_le _)
  clear HD o6
  replace DD := UC ((UB DD).cur (UB C) g6)
  replace NF := UC ((UB NF).cur (UB C) g6)
  replace C := UC c6
  replace L := UC ((UB L).grown g6)
  replace GG := UC (Ad (UB GG) g6)
  replace KR := UC (Aa g6 (UB KR) (by simp; omega))
  replace KQ := UC (Aa g6 (UB KQ) (by simp; omega))
  have z6 := g6.size
  clear g6 c6
  obtain ⟨d0, d1, d2, d3, d4, d5, d6⟩ := UJ (UB KQ)
  obtain ⟨f0, f1, f2, f3, f4, f5, f6⟩ := VI (UB KQ)
  have gs := Ab u6 ⟨u4.heap.size, 4, none⟩ (.slice x6 n6.length y6)
  have KQ2 : Hid ((u6.setCell ⟨u4.heap.size, 4, none⟩ (.slice x6 n6.length y6)).heap[u4.heap.size]? = some (.cells #[.slice x1 n1.length y1, .int .i64 6, .int .i64 l, .int .i64 0, .slice x6 n6.length y6, .slice none 0 0, .slice none 0 0] 39)) := UV (UB KQ) 4 _
  have NF2 := UC ((UB NF).off (UB KQ) (by decide) (by decide) gs)
  have DT2 := OwnT.off DT (UB KQ) (by decide) (by decide) gs
  have D2 : Hid (B9 (u6.setCell ⟨u4.heap.size, 4, none⟩ (.slice x6 n6.length y6)) (.slice x1 n1.length y1) (.slice x6 n6.length y6) (.slice none 0 0) (.slice none 0 0) ⟨n1, 6, l, 0, n6, [], []⟩) := by
   have q := (UB DD).off (UB KQ) (by decide) (by decide) (by decide) gs
   exact ⟨q.name, DT2, q.text, q.nums⟩
  replace C := UC ((UB C).later gs (fun j e => by cases e; show g < u4.heap.size; omega))
  replace L := UC ((UB L).later gs (fun j e => by cases e; show g ≤ u4.heap.size; omega))
  replace GG := UC (Ae (UB GG) gs (fun j e => by cases e; show w.heap.size ≤ u4.heap.size; omega))
  replace KR := UC (Aa gs (UB KR) (by simp; omega))
  replace KQ := KQ2
  replace DD := D2
  replace NF := NF2
  clear NF2
  have zs := gs.size
  clear gs KQ2 D2
  clear DT DT2
  have HB := UC (A9 9 (UB C) (UB L) (UB HM) (by omega) (by omega))
  obtain ⟨e0, e1, e2, e3, e4, e5, e6⟩ := UJ (UB KQ)
  go_wp2_with fail
  clear d0 d1 d2 d3 d4 d5 d6 f0 f1 f2 f3 f4 f5 f6 e0 e1 e2 e3 e4 e5 e6
  generalize (u6.setCell ⟨u4.heap.size, 4, none⟩ (.slice x6 n6.length y6)) = W7 at *
  refine (UB HB).mono ?_
  rintro e u7 ⟨sr, rfl, hs0, hs1, c7, g7⟩
  have HSR := UC (And.intro hs0 hs1)
  clear hs0 hs1
  clear HB
  replace DD := UC ((UB DD).cur (UB C) g7)
  replace NF := UC ((UB NF).cur (UB C) g7)
  replace C := UC c7
  replace L := UC ((UB L).grown g7)
  replace GG := UC (Ad (UB GG) g7)
  replace KR := UC (Aa g7 (UB KR) (by simp; omega))
  replace KQ := UC (Aa g7 (UB KQ) (by simp; omega))
  have z7 := g7.size
  clear g7 c7
  have kz := heap_alloc_new u7 (.cells #[.int .i64 0, .int .i64 30, .int .i64 100000] 3)
  have bz := UI (w := u7) (.cells #[.int .i64 0, .int .i64 30, .int .i64 100000] 3)
  replace C := UC ((UB C).later (Ac bz) (by simp))
  replace L := UC ((UB L).later (Ac bz) (by simp))
  replace GG := UC (Ae (UB GG) (Ac bz) (fun j e => by cases e))
  replace KR := UC (UE bz (UB KR))
  replace KQ := UC (UE bz (UB KQ))
  replace DD := UC ((UB DD).below bz)
  replace NF := UC ((UB NF).below bz)
  have z8 := bz.size
  clear bz
  have HPK := UC (Cj (w := u7.alloc (.cells #[.int .i64 0, .int .i64 30, .int .i64 100000] 3)) u7.heap.size 3 (fun z => 0 ≤ z ∧ z ≤ 100000) (UB C) (UB L) (UB HM) (by omega) (by omega) (VC kz) (by omega) (fun j hj => by
   have hq := VE kz j
   match j, hj with
   | 0, _ => exact ⟨_, hq, by decide⟩
   | 1, _ => exact ⟨_, hq, by decide⟩
   | 2, _ => exact ⟨_, hq, by decide⟩))
  clear kz
  obtain ⟨d0, d1, d2, d3, d4, d5, d6⟩ := UJ (UB KQ)
  obtain ⟨f0, f1, f2, f3, f4, f5, f6⟩ := VI (UB KQ)
  go_wp2_with fail
  clear d0 d1 d2 d3 d4 d5 d6 f0 f1 f2 f3 f4 f5 f6
  generalize u7.alloc (.cells #[.int .i64 0, .int .i64 30, .int .i64 100000] 3) = W9 at *
  refine (UB HPK).mono ?_
  rintro e u9 ⟨mn, rfl, hmn, c9, g9⟩
  have HMN := UC hmn
  clear hmn
  clear HPK
  replace DD := UC ((UB DD).cur (UB C) g9)
  replace NF := UC ((UB NF).cur (UB C) g9)
  replace C := UC c9
  replace L := UC ((UB L).grown g9)
  replace GG := UC (Ad (UB GG) g9)
  replace KR := UC (Aa g9 (UB KR) (by simp; omega))
  replace KQ := UC (Aa g9 (UB KQ) (by simp; omega))
  have z9 := g9.size
  clear g9 c9
  have kI := Xa u9 0 3 sr mn (Nat.zero_le _)
  have bI := UI (w := u9) (.cells #[.int .i64 sr, .int .i64 mn] 3)
  replace C := UC ((UB C).later (Ac bI) (by simp))
  replace L := UC ((UB L).later (Ac bI) (by simp))
  replace GG := UC (Ae (UB GG) (Ac bI) (fun j e => by cases e))
  replace KR := UC (UE bI (UB KR))
  replace KQ := UC (UE bI (UB KQ))
  replace DD := UC ((UB DD).below bI)
  replace NF := UC ((UB NF).below bI)
  have z10 := bI.size
  clear bI
  obtain ⟨p0, p1, p2, p3, p4, p5, p6⟩ := UJ (UB KR)
  obtain ⟨q0, q1, q2, q3, q4, q5, q6⟩ := VI (UB KR)
  obtain ⟨d0, d1, d2, d3, d4, d5, d6⟩ := UJ (UB KQ)
  obtain ⟨f0, f1, f2, f3, f4, f5, f6⟩ := VI (UB KQ)
  go_wp2_with fail
  clear d0 d1 d2 d3 d4 d5 d6 f0 f1 f2 f3 f4 f5 f6
  clear p0 p1 p2 p3 p4 p5 p6 q0 q1 q2 q3 q4 q5 q6
  have gs := Ab (u9.alloc (.cells #[.int .i64 sr, .int .i64 mn] 3)) ⟨u4.heap.size, 6, none⟩ (.slice (some ⟨u9.heap.size, 0, none⟩) 2 2)
  have KQ2 : Hid (((u9.alloc (.cells #[.int .i64 sr, .int .i64 mn] 3)).setCell ⟨u4.heap.size, 6, none⟩ (.slice (some ⟨u9.heap.size, 0, none⟩) 2 2)).heap[u4.heap.size]? = some (.cells #[.slice x1 n1.length y1, .int .i64 6, .int .i64 l, .int .i64 0, .slice x6 n6.length y6, .slice none 0 0, .slice (some ⟨u9.heap.size, 0, none⟩) 2 2] 39)) := UV (UB KQ) 6 _
  have NF2 := UC ((UB NF).off (UB KQ) (by decide) (by decide) gs)
  have NI := OwnI.kept kI gs (.inr (Cp kI (UB KQ) (by decide)))
  have D2 : Hid (B9 ((u9.alloc (.cells #[.int .i64 sr, .int .i64 mn] 3)).setCell ⟨u4.heap.size, 6, none⟩ (.slice (some ⟨u9.heap.size, 0, none⟩) 2 2)) (.slice x1 n1.length y1) (.slice x6 n6.length y6) (.slice none 0 0) (.slice (some ⟨u9.heap.size, 0, none⟩) 2 2) ⟨n1, 6, l, 0, n6, [], [sr, mn]⟩) := by
   have q := (UB DD).off (UB KQ) (by decide) (by decide) (by decide) gs
   exact ⟨q.name, q.to, q.text, NI⟩
  replace C := UC ((UB C).later gs (fun j e => by cases e; show g < u4.heap.size; omega))
  replace L := UC ((UB L).later gs (fun j e => by cases e; show g ≤ u4.heap.size; omega))
  replace GG := UC (Ae (UB GG) gs (fun j e => by cases e; show w.heap.size ≤ u4.heap.size; omega))
  replace KR := UC (Aa gs (UB KR) (by simp; omega))
  replace KQ := KQ2
  replace DD := D2
  replace NF := NF2
  clear NF2
  have zs := gs.size
  clear gs KQ2 D2
  clear kI NI
  obtain ⟨R2, ou2⟩ := set7 (c0 := .slice x1 n1.length y1) (c1 := .int .i64 6) (c2 := .int .i64 l) (c3 := .int .i64 0) (c4 := .slice x6 n6.length y6) (c5 := .slice none 0 0) (c6 := .slice (some ⟨u9.heap.size, 0, none⟩) 2 2) (UB KR)
  have gF := A8 ((u9.alloc (.cells #[.int .i64 sr, .int .i64 mn] 3)).setCell ⟨u4.heap.size, 6, none⟩ (.slice (some ⟨u9.heap.size, 0, none⟩) 2 2)) w.heap.size (c0 := .slice x1 n1.length y1) (c1 := .int .i64 6) (c2 := .int .i64 l) (c3 := .int .i64 0) (c4 := .slice x6 n6.length y6) (c5 := .slice none 0 0) (c6 := .slice (some ⟨u9.heap.size, 0, none⟩) 2 2)
  have DF := UC ((UB DD).off (UB KR) (by decide) (by decide) (by decide) gF)
  have NFF := UC ((UB NF).off (UB KR) (by decide) (by decide) gF)
  have CF := UC ((UB C).later gF (fun j e => by cases e; exact hg))
  have GF := UC (Ae (UB GG) gF (fun j e => by cases e; exact Nat.le_refl _))
  have HR2 := UC R2
  clear R2 ou2 gF
  refine bodyPost_ret (results_cell_row rfl _ _ w.heap.size 39 #[.slice x1 n1.length y1, .int .i64 6, .int .i64 l, .int .i64 0, .slice x6 n6.length y6, .slice none 0 0, .slice (some ⟨u9.heap.size, 0, none⟩) 2 2] (0, 0) _ rfl (UB HR2) Tryz.underlying39 rfl (by kernel_rfl)) rfl ?_
  exact ⟨_, _, _, _, ⟨n1, 6, l, 0, n6, [], [sr, mn]⟩, rfl, ⟨⟨by simp, UB HN1, by first | exact G8 | exact UB HN2, by first | exact UB HX | simp⟩, Kk, fun _ => okR_S (UB HK1) (UB HL) (UB HK2) (UB HSR) (UB HMN)⟩, fun j e => by first | (cases e; done) | (have e2 := Option.some.inj e; try dsimp only at e2; omega), UB DF, (fun _ => UB NFF), UB CF, UB GF⟩
 ·have LN := UC (VR t (u4.alloc (.cells #[.slice x1 n1.length y1, .int .i64 t, .int .i64 l, .int .i64 0, .slice none 0 0, .slice none 0 0, .slice none 0 0] 39)) (by first | rfl | exact ht))
  rw [hnm] at LN
  clear ht
  have e1 : (t == 1) = false := by rw [beq_eq_false_iff_ne]; exact n11
  have e6 : (t == 6) = false := by rw [beq_eq_false_iff_ne]; exact n16
  obtain ⟨d0, d1, d2, d3, d4, d5, d6⟩ := UJ (UB KQ)
  obtain ⟨f0, f1, f2, f3, f4, f5, f6⟩ := VI (UB KQ)
  go_wp2_with fail
  clear d0 d1 d2 d3 d4 d5 d6 f0 f1 f2 f3 f4 f5 f6
  generalize (u4.alloc (.cells #[.slice x1 n1.length y1, .int .i64 t, .int .i64 l, .int .i64 0, .slice none 0 0, .slice none 0 0, .slice none 0 0] 39)) = W6 at *
  refine (UB LN).mono ?_
  rintro e u ⟨rfl, rfl⟩
  clear LN
  have HD := UC (He (UB C) (UB L) (UB HM))
  obtain ⟨d0, d1, d2, d3, d4, d5, d6⟩ := UJ (UB KQ)
  obtain ⟨f0, f1, f2, f3, f4, f5, f6⟩ := VI (UB KQ)
  go_wp2_with fail
  clear d0 d1 d2 d3 d4 d5 d6 f0 f1 f2 f3 f4 f5 f6
  refine (UB HD).mono ?_
  rintro e u6 ⟨v6, n6, rfl, dn, o6, c6, g6⟩
  have HK2 := UC (Hs dn)
  have HN2 : Hid (Ej n6) := ⟨Nat.le_trans dn.bound.1 (by decide), fun k hk => Nat.le_trans (dn.bound.2 k hk) (by decide)⟩
  clear dn
  obtain ⟨x6, y6, rfl, _⟩ := o6.hasL.form
  have DT := o6.ownT.mono (Nat.zero_le _)
  clear HD o6
  replace DD := UC ((UB DD).cur (UB C) g6)
  replace NF := UC ((UB NF).cur (UB C) g6)
  replace C := UC c6
  replace L := UC ((UB L).grown g6)
  replace GG := UC (Ad (UB GG) g6)
  replace KR := UC (Aa g6 (UB KR) (by simp; omega))
  replace KQ := UC (Aa g6 (UB KQ) (by simp; omega))
  have z6 := g6.size
  clear g6 c6
  obtain ⟨p0, p1, p2, p3, p4, p5, p6⟩ := UJ (UB KR)
  obtain ⟨q0, q1, q2, q3, q4, q5, q6⟩ := VI (UB KR)
  obtain ⟨d0, d1, d2, d3, d4, d5, d6⟩ := UJ (UB KQ)
  obtain ⟨f0, f1, f2, f3, f4, f5, f6⟩ := VI (UB KQ)
  go_wp2_with fail
  clear d0 d1 d2 d3 d4 d5 d6 f0 f1 f2 f3 f4 f5 f6
  clear p0 p1 p2 p3 p4 p5 p6 q0 q1 q2 q3 q4 q5 q6
  have gs := Ab u6 ⟨u4.heap.size, 4, none⟩ (.slice x6 n6.length y6)
  have KQ2 : Hid ((u6.setCell ⟨u4.heap.size, 4, none⟩ (.slice x6 n6.length y6)).heap[u4.heap.size]? = some (.cells #[.slice x1 n1.length y1, .int .i64 t, .int .i64 l, .int .i64 0, .slice x6 n6.length y6, .slice none 0 0, .slice none 0 0] 39)) := UV (UB KQ) 4 _
  have NF2 := UC ((UB NF).off (UB KQ) (by decide) (by decide) gs)
  have DT2 := OwnT.off DT (UB KQ) (by decide) (by decide) gs
  have D2 : Hid (B9 (u6.setCell ⟨u4.heap.size, 4, none⟩ (.slice x6 n6.length y6)) (.slice x1 n1.length y1) (.slice x6 n6.length y6) (.slice none 0 0) (.slice none 0 0) ⟨n1, t, l, 0, n6, [], []⟩) := by
   have q := (UB DD).off (UB KQ) (by decide) (by decide) (by decide) gs
   exact ⟨q.name, DT2, q.text, q.nums⟩
  replace C := UC ((UB C).later gs (fun j e => by cases e; show g < u4.heap.size; omega))
  replace L := UC ((UB L).later gs (fun j e => by cases e; show g ≤ u4.heap.size; omega))
  replace GG := UC (Ae (UB GG) gs (fun j e => by cases e; show w.heap.size ≤ u4.heap.size; omega))
  replace KR := UC (Aa gs (UB KR) (by simp; omega))
  replace KQ := KQ2
  replace DD := D2
  replace NF := NF2
  clear NF2
  have zs := gs.size
  clear gs KQ2 D2
  obtain ⟨R2, ou2⟩ := set7 (c0 := .slice x1 n1.length y1) (c1 := .int .i64 t) (c2 := .int .i64 l) (c3 := .int .i64 0) (c4 := .slice x6 n6.length y6) (c5 := .slice none 0 0) (c6 := .slice none 0 0) (UB KR)
  have gF := A8 (u6.setCell ⟨u4.heap.size, 4, none⟩ (.slice x6 n6.length y6)) w.heap.size (c0 := .slice x1 n1.length y1) (c1 := .int .i64 t) (c2 := .int .i64 l) (c3 := .int .i64 0) (c4 := .slice x6 n6.length y6) (c5 := .slice none 0 0) (c6 := .slice none 0 0)
  have DF := UC ((UB DD).off (UB KR) (by decide) (by decide) (by decide) gF)
  have NFF := UC ((UB NF).off (UB KR) (by decide) (by decide) gF)
  have CF := UC ((UB C).later gF (fun j e => by cases e; exact hg))
  have GF := UC (Ae (UB GG) gF (fun j e => by cases e; exact Nat.le_refl _))
  have HR2 := UC R2
  clear R2 ou2 gF
  refine bodyPost_ret (results_cell_row rfl _ _ w.heap.size 39 #[.slice x1 n1.length y1, .int .i64 t, .int .i64 l, .int .i64 0, .slice x6 n6.length y6, .slice none 0 0, .slice none 0 0] (0, 0) _ rfl (UB HR2) Tryz.underlying39 rfl (by kernel_rfl)) rfl ?_
  exact ⟨_, _, _, _, ⟨n1, t, l, 0, n6, [], []⟩, rfl, ⟨⟨by simp, UB HN1, by first | exact G8 | exact UB HN2, by first | exact UB HX | simp⟩, Kk, fun _ => okR_N (UB HK1) (UB HL) (UB HK2) n11 n16 hnm⟩, fun j e => by first | (cases e; done) | (have e2 := Option.some.inj e; try dsimp only at e2; omega), UB DF, (fun _ => UB NFF), UB CF, UB GF⟩
 ·have LN := UC (VR t (u4.alloc (.cells #[.slice x1 n1.length y1, .int .i64 t, .int .i64 l, .int .i64 0, .slice none 0 0, .slice none 0 0, .slice none 0 0] 39)) ht)
  rw [hnm] at LN
  clear ht
  have e1 : (t == 1) = false := by rw [beq_eq_false_iff_ne]; exact n11
  obtain ⟨d0, d1, d2, d3, d4, d5, d6⟩ := UJ (UB KQ)
  obtain ⟨f0, f1, f2, f3, f4, f5, f6⟩ := VI (UB KQ)
  go_wp2_with fail
  clear d0 d1 d2 d3 d4 d5 d6 f0 f1 f2 f3 f4 f5 f6
  generalize (u4.alloc (.cells #[.slice x1 n1.length y1, .int .i64 t, .int .i64 l, .int .i64 0, .slice none 0 0, .slice none 0 0, .slice none 0 0] 39)) = W6 at *
  refine (UB LN).mono ?_
  rintro e u ⟨rfl, rfl⟩
  clear LN
  have HT := UC (Ub 5 (UB C) (UB L) (UB HM) (by omega) (by omega))
  obtain ⟨d0, d1, d2, d3, d4, d5, d6⟩ := UJ (UB KQ)
  obtain ⟨f0, f1, f2, f3, f4, f5, f6⟩ := VI (UB KQ)
  go_wp2_with fail
  clear d0 d1 d2 d3 d4 d5 d6 f0 f1 f2 f3 f4 f5 f6
  refine (UB HT).mono ?_
  rintro e u6 ⟨v6, m6, rfl, o6, hm5, hmb, c6, g6⟩
  have HX4 := UC (show m6.length ≤ 40 by omega)
  have HXB : Hid (Byt m6) := UC hmb
  clear hmb
  have HX := UC (show m6.length ≤ 41 by omega)
  clear hm5
  obtain ⟨x6, y6, rfl, _⟩ := o6.lies
  have TX : Has u6 (.slice x6 m6.length y6) m6 ∧ Ci 5 u6 (.slice x6 m6.length y6) := ⟨o6.has, o6.typed⟩
  clear HT o6
  replace DD := UC ((UB DD).cur (UB C) g6)
  replace NF := UC ((UB NF).cur (UB C) g6)
  replace C := UC c6
  replace L := UC ((UB L).grown g6)
  replace GG := UC (Ad (UB GG) g6)
  replace KR := UC (Aa g6 (UB KR) (by simp; omega))
  replace KQ := UC (Aa g6 (UB KQ) (by simp; omega))
  have z6 := g6.size
  clear g6 c6
  obtain ⟨p0, p1, p2, p3, p4, p5, p6⟩ := UJ (UB KR)
  obtain ⟨q0, q1, q2, q3, q4, q5, q6⟩ := VI (UB KR)
  obtain ⟨d0, d1, d2, d3, d4, d5, d6⟩ := UJ (UB KQ)
  obtain ⟨f0, f1, f2, f3, f4, f5, f6⟩ := VI (UB KQ)
  go_wp2_with fail
  clear d0 d1 d2 d3 d4 d5 d6 f0 f1 f2 f3 f4 f5 f6
  clear p0 p1 p2 p3 p4 p5 p6 q0 q1 q2 q3 q4 q5 q6
  have gs := Ab u6 ⟨u4.heap.size, 5, none⟩ (.slice x6 m6.length y6)
  have KQ2 : Hid ((u6.setCell ⟨u4.heap.size, 5, none⟩ (.slice x6 m6.length y6)).heap[u4.heap.size]? = some (.cells #[.slice x1 n1.length y1, .int .i64 t, .int .i64 l, .int .i64 0, .slice none 0 0, .slice x6 m6.length y6, .slice none 0 0] 39)) := UV (UB KQ) 5 _
  have NF2 := UC ((UB NF).off (UB KQ) (by decide) (by decide) gs)
  have TX2 := Has.off TX.1 TX.2 (UB KQ) (by decide) gs
  have D2 : Hid (B9 (u6.setCell ⟨u4.heap.size, 5, none⟩ (.slice x6 m6.length y6)) (.slice x1 n1.length y1) (.slice none 0 0) (.slice x6 m6.length y6) (.slice none 0 0) ⟨n1, t, l, 0, [], m6, []⟩) := by
   have q := (UB DD).off (UB KQ) (by decide) (by decide) (by decide) gs
   exact ⟨q.name, q.to, TX2, q.nums⟩
  replace C := UC ((UB C).later gs (fun j e => by cases e; show g < u4.heap.size; omega))
  replace L := UC ((UB L).later gs (fun j e => by cases e; show g ≤ u4.heap.size; omega))
  replace GG := UC (Ae (UB GG) gs (fun j e => by cases e; show w.heap.size ≤ u4.heap.size; omega))
  replace KR := UC (Aa gs (UB KR) (by simp; omega))
  replace KQ := KQ2
  replace DD := D2
  replace NF := NF2
  clear NF2
  have zs := gs.size
  clear gs KQ2 D2
  obtain ⟨R2, ou2⟩ := set7 (c0 := .slice x1 n1.length y1) (c1 := .int .i64 t) (c2 := .int .i64 l) (c3 := .int .i64 0) (c4 := .slice none 0 0) (c5 := .slice x6 m6.length y6) (c6 := .slice none 0 0) (UB KR)
  have gF := A8 (u6.setCell ⟨u4.heap.size, 5, none⟩ (.slice x6 m6.length y6)) w.heap.size (c0 := .slice x1 n1.length y1) (c1 := .int .i64 t) (c2 := .int .i64 l) (c3 := .int .i64 0) (c4 := .slice none 0 0) (c5 := .slice x6 m6.length y6) (c6 := .slice none 0 0)
  have DF := UC ((UB DD).off (UB KR) (by decide) (by decide) (by decide) gF)
  have NFF := UC ((UB NF).off (UB KR) (by decide) (by decide) gF)
  have CF := UC ((UB C).later gF (fun j e => by cases e; exact hg))
  have GF := UC (Ae (UB GG) gF (fun j e => by cases e; exact Nat.le_refl _))
  have HR2 := UC R2
  clear R2 ou2 gF
  refine bodyPost_ret (results_cell_row rfl _ _ w.heap.size 39 #[.slice x1 n1.length y1, .int .i64 t, .int .i64 l, .int .i64 0, .slice none 0 0, .slice x6 m6.length y6, .slice none 0 0] (0, 0) _ rfl (UB HR2) Tryz.underlying39 rfl (by kernel_rfl)) rfl ?_
  exact ⟨_, _, _, _, ⟨n1, t, l, 0, [], m6, []⟩, rfl, ⟨⟨by simp, UB HN1, by first | exact G8 | exact UB HN2, by first | exact UB HX | simp⟩, UB HXB, fun _ => okR_X (UB HK1) (UB HL) n11 hnm (UB HTY) (UB HX4)⟩, fun j e => by first | (cases e; done) | (have e2 := Option.some.inj e; try dsimp only at e2; omega), UB DF, (fun _ => UB NFF), UB CF, UB GF⟩
end Go.Proofs.YtfneahdnpmamkaaGreat
