/-
  Contracts of the program's classGet and RrGet.
-/
import Derived.Test.YthmihglfffeedaaGreatDoorFnRecordsG24
import Derived.Test.YthmihglfffeedaaGreatDoorFnRecordsG43
import Derived.Test.YthmihglfffeedaaGreatDoorFnRecordsG40
namespace Go.Proofs.YthmihglfffeedaaGreatDoor
open Go.RowKit
set_option linter.unusedVariables false
set_option maxHeartbeats 2000000
set_option maxRecDepth 100000

theorem classGet_own {B : Nat} {v : Value} {l : List Int} (p : Int) {w : World} (h : Own B 5 w v l) (hl : l.length ≤ 1048576) (hp : p ≤ 9223372036854775807) (hb : Bytes8 l) :
  Calls Tryz.prog 34 #[v, .int .i64 p] w (GivesC w (readAt l p).1 (readAt l p).2.1 (readAt l p).2.2) := by
 obtain ⟨a, cap, rfl, _⟩ := h.lies
 obtain ⟨l0, l1, l2, l3, l4⟩ := ends_le l p
 have b0 := UI (w := w) (.cells #[.slice none 0 0, .int .i64 0, .int .i64 0, .int .i64 0, .slice none 0 0, .slice none 0 0, .slice none 0 0] 28)
 have K0 := UC (heap_alloc_new w (.cells #[.slice none 0 0, .int .i64 0, .int .i64 0, .int .i64 0, .slice none 0 0, .slice none 0 0, .slice none 0 0] 28))
 have A0 := UC (h.below b0)
 have C0 := UC (show Calls Tryz.prog 56 #[.slice a l.length cap, .int .i64 p] (w.alloc (.cells #[.slice none 0 0, .int .i64 0, .int .i64 0, .int .i64 0, .slice none 0 0, .slice none 0 0, .slice none 0 0] 28)) fun e w' => ∃ v', e = .returned (.tuple #[.agg #[v'], .int .i64 (e0 l p)]) ∧ OwnL (w.alloc (.cells #[.slice none 0 0, .int .i64 0, .int .i64 0, .int .i64 0, .slice none 0 0, .slice none 0 0, .slice none 0 0] 28)).heap.size 22 5 w' v' (nameGet l p).1 ∧ Below (w.alloc (.cells #[.slice none 0 0, .int .i64 0, .int .i64 0, .int .i64 0, .slice none 0 0, .slice none 0 0, .slice none 0 0] 28)).heap.size (w.alloc (.cells #[.slice none 0 0, .int .i64 0, .int .i64 0, .int .i64 0, .slice none 0 0, .slice none 0 0, .slice none 0 0] 28)) w' from implNameGet_own p (h.below b0) hl hp hb)
 have C1 := UC (show ∀ w : World, Own B 5 w (.slice a l.length cap) l → Calls Tryz.prog 57 #[.slice a l.length cap, .int .i64 (e0 l p)] w fun e w' => e = .returned (.tuple #[.int .i64 (tyAt l p), .int .i64 (e1 l p)]) ∧ Below w.heap.size w w' from fun w h => implGet16_any (e0 l p) h (by omega) (by omega) hb)
 have C2 := UC (show ∀ w : World, Own B 5 w (.slice a l.length cap) l → Calls Tryz.prog 57 #[.slice a l.length cap, .int .i64 (e1 l p)] w fun e w' => e = .returned (.tuple #[.int .i64 (clAt l p), .int .i64 (e2 l p)]) ∧ Below w.heap.size w w' from fun w h => implGet16_any (e1 l p) h (by omega) (by omega) hb)
 have C3 := UC (show ∀ w : World, Own B 5 w (.slice a l.length cap) l → Calls Tryz.prog 58 #[.slice a l.length cap, .int .i64 (e2 l p)] w fun e w' => e = .returned (.tuple #[.int .i64 (ttAt l p), .int .i64 (e3 l p)]) ∧ Below w.heap.size w w' from fun w h => implGet32_any (e2 l p) h (by omega) (by omega) hb)
 have C4 := UC (show ∀ w : World, Own B 5 w (.slice a l.length cap) l → Calls Tryz.prog 57 #[.slice a l.length cap, .int .i64 (e3 l p)] w fun e w' => e = .returned (.tuple #[.int .i64 (szAt l p), .int .i64 (e4 l p)]) ∧ Below w.heap.size w w' from fun w h => implGet16_any (e3 l p) h (by omega) (by omega) hb)
 have C5 := UC (show ∀ w : World, Own B 5 w (.slice a l.length cap) l → Calls Tryz.prog 11 #[.int .i64 (tyAt l p), .slice a l.length cap, .int .i64 (e4 l p), .int .i64 (szAt l p)] w (GivesR w (dtAt l p).1 (dtAt l p).2) from fun w h => implDataGet_own (tyAt l p) (e4 l p) (szAt l p) h (by omega) hb)
 have hy : (dtAt l p).2 = true → 0 ≤ e4 l p + szAt l p ∧ e4 l p + szAt l p ≤ 9223372036854775807 := fun hd => by
  obtain ⟨_, h1, h2, h3, _, h4⟩ := dataGet_yes hd
  omega
 have HY := UC hy
 unfold readAt recAt
 clear h hb hy
 generalize (dtAt l p).1 = D at *
 generalize (dtAt l p).2 = okD at *
 generalize e4 l p = x4 at *
 generalize szAt l p = sz at *
 generalize e3 l p = x3 at *
 generalize ttAt l p = tt at *
 generalize e2 l p = x2 at *
 generalize clAt l p = cl at *
 generalize e1 l p = x1 at *
 generalize tyAt l p = ty at *
 generalize e0 l p = x0 at *
 generalize (nameGet l p).1 = n0 at *
 generalize hRes : (if okD = true ∧ rrOk (named2 D n0 tt) = true then (named2 D n0 tt, cl, x4 + sz) else (emptyR 0, 0, -1)) = Res
 have HRES := UC hRes
 clear hRes
 have zW := b0.size
 have zK := VC (UB K0)
 go_enter Tryz.func34, Tryz.ntmps34
 go_wp2_with fail
 generalize w.alloc (.cells #[.slice none 0 0, .int .i64 0, .int .i64 0, .int .i64 0, .slice none 0 0, .slice none 0 0, .slice none 0 0] 28) = W at *
 refine (UB C0).mono ?_
 rintro e w1 ⟨v1, rfl, o1, b1⟩
 obtain ⟨oa, oc, rfl, _⟩ := o1.hasL.form
 have bm := UI (w := w1) (.cells #[.slice oa n0.length oc] 25)
 have M2 := UC (heap_alloc_new w1 (.cells #[.slice oa n0.length oc] 25))
 have K2 := UC (UE bm (UE b1 (UB K0)))
 have O2 := UC (o1.here.below bm)
 have A2 := UC (((UB A0).below b1).below bm)
 have bb2 := UG (UG b0 b1) bm
 have z1 := b1.size
 have zm := bm.size
 have zM := VC (UB M2)
 clear C0 K0 A0 b0 b1 bm o1
 go_wp2_with fail
 generalize w1.alloc (.cells #[.slice oa n0.length oc] 25) = w2 at *
 refine (UB C1 _ (UB A2)).mono ?_
 rintro e w3 ⟨rfl, b3⟩
 have K3 := UC (UE b3 (UB K2))
 have M3 := UC (UE b3 (UB M2))
 have O3 := UC ((UB O2).below b3)
 have A3 := UC ((UB A2).below b3)
 have bb3 := UG bb2 b3
 have z3 := b3.size
 clear K2 M2 O2 A2 bb2 b3
 go_wp2_with fail
 refine (UB C2 _ (UB A3)).mono ?_
 rintro e w4 ⟨rfl, b4⟩
 have K4 := UC (UE b4 (UB K3))
 have M4 := UC (UE b4 (UB M3))
 have O4 := UC ((UB O3).below b4)
 have A4 := UC ((UB A3).below b4)
 have bb4 := UG bb3 b4
 have z4 := b4.size
 clear K3 M3 O3 A3 bb3 b4
 go_wp2_with fail
 refine (UB C3 _ (UB A4)).mono ?_
 rintro e w5 ⟨rfl, b5⟩
 have K5 := UC (UE b5 (UB K4))
 have M5 := UC (UE b5 (UB M4))
 have O5 := UC ((UB O4).below b5)
 have A5 := UC ((UB A4).below b5)
 have bb5 := UG bb4 b5
 have z5 := b5.size
 clear K4 M4 O4 A4 bb4 b5
 go_wp2_with fail
 refine (UB C4 _ (UB A5)).mono ?_
 rintro e w6 ⟨rfl, b6⟩
 have K6 := UC (UE b6 (UB K5))
 have M6 := UC (UE b6 (UB M5))
 have O6 := UC ((UB O5).below b6)
 have A6 := UC ((UB A5).below b6)
 have bb6 := UG bb5 b6
 have z6 := b6.size
 clear K5 M5 O5 A5 bb5 b6
 go_wp2_with fail
 refine (UB C5 _ (UB A6)).mono ?_
 rintro e w7 ⟨vn, vt, vx, vi, rfl, o7, b7⟩
 obtain ⟨ra, rc, rfl, _⟩ := o7.hasR.name.form
 obtain ⟨ta, tc, rfl, _⟩ := o7.hasR.to.form
 obtain ⟨xa, xc, rfl, _⟩ := o7.hasR.text.form
 obtain ⟨ia, ic, rfl, _⟩ := o7.hasR.nums.form
 have K7 := UC (UE b7 (UB K6))
 have M7 := UC (UE b7 (UB M6))
 have O7 := UC ((UB O6).below b7)
 have D7 := UC o7
 have bb7 := UG bb6 b7
 have z7 := b7.size
 clear C1 C2 C3 C4 C5 K6 M6 O6 A6 bb6 b7 o7
 cases okD with
 | false =>
  have hRes := UB HRES
  rw [if_neg (by simp)] at hRes
  subst hRes
  clear HRES HY
  have b8 := UI (w := w7) (.cells #[.slice ra D.name.length rc, .int .i64 D.type, .int .i64 D.ttl, .int .i64 D.addr, .slice ta D.to.length tc, .slice xa D.text.length xc, .slice ia D.nums.length ic] 28)
  have K8 := UC (UE b8 (UB K7))
  have bb8 := UG bb7 b8
  have z8 := b8.size
  clear K7 M7 O7 D7 bb7 b8
  obtain ⟨f0, f1, f2, f3, f4, f5, f6⟩ := UJ (UB K8)
  obtain ⟨q0, q1, q2, q3, q4, q5, q6⟩ := VI (UB K8)
  go_wp2_with fail
  obtain ⟨R9, u9⟩ := set7 (c0 := .slice none 0 0) (c1 := .int .i64 0) (c2 := .int .i64 0) (c3 := .int .i64 0) (c4 := .slice none 0 0) (c5 := .slice none 0 0) (c6 := .slice none 0 0) (UB K8)
  refine bodyPost_ret (results_cell_tmp2_row rfl _ _ w.heap.size 28 #[.slice none 0 0, .int .i64 0, .int .i64 0, .int .i64 0, .slice none 0 0, .slice none 0 0, .slice none 0 0] (0, 0) _ rfl R9 Tryz.underlying28 rfl (by kernel_rfl)) rfl ?_
  have z9 := u9.size
  exact ⟨_, _, _, _, rfl, ownR_nil (by omega) _ _ _ _ 0, u9.below bb8 (by omega)⟩
 | true =>
  have hY := UB HY rfl
  have b9 := UI (w := w7) (.cells #[.slice oa n0.length oc, .int .i64 D.type, .int .i64 tt, .int .i64 D.addr, .slice ta D.to.length tc, .slice xa D.text.length xc, .slice ia D.nums.length ic] 28)
  have V9 := UC (heap_alloc_new w7 (.cells #[.slice oa n0.length oc, .int .i64 D.type, .int .i64 tt, .int .i64 D.addr, .slice ta D.to.length tc, .slice xa D.text.length xc, .slice ia D.nums.length ic] 28))
  have K9 := UC (UE b9 (UB K7))
  have bb9 := UG bb7 b9
  have z9 := b9.size
  have zV := VC (UB V9)
  have HR9 := UC ((((UB D7).below b9).wide (B' := w2.heap.size) (E' := w7.heap.size) (by omega) (by omega)).named2 tt ((((UB O7).below b9)).wide (C' := W.heap.size) (E' := w2.heap.size) (by omega) (by omega)) (by omega))
  have cm : ∀ o, (w7.alloc o).cell? ⟨w1.heap.size, 0, none⟩ = some (.slice oa n0.length oc) := fun o => US (UE (UI o) (UB M7))
  clear K7 M7 O7 D7 bb7 b9 HY
  go_wp2_with fail
  clear cm
  generalize w7.alloc (.cells #[.slice oa n0.length oc, .int .i64 D.type, .int .i64 tt, .int .i64 D.addr, .slice ta D.to.length tc, .slice xa D.text.length xc, .slice ia D.nums.length ic] 28) = w9 at *
  have HO : Calls Tryz.prog 7 #[.agg #[.slice oa n0.length oc, .int .i64 D.type, .int .i64 tt, .int .i64 D.addr, .slice ta D.to.length tc, .slice xa D.text.length xc, .slice ia D.nums.length ic]] w9 fun e w' => e = .returned (.bool (rrOk (named2 D n0 tt))) ∧ Below w9.heap.size w9 w' := implRrOk_has (UB HR9).hasR
  cases hok : rrOk (named2 D n0 tt) with
  | false =>
   rw [hok] at HO
   have hRes := UB HRES
   rw [if_neg (by rw [hok]; simp)] at hRes
   subst hRes
   refine HO.mono ?_
   rintro e w10 ⟨rfl, b10⟩
   have K10 := UC (UE b10 (UB K9))
   have bb10 := UG bb9 b10
   have z10 := b10.size
   clear HO hok K9 bb9 b10 HRES
   obtain ⟨f0, f1, f2, f3, f4, f5, f6⟩ := UJ (UB K10)
   obtain ⟨q0, q1, q2, q3, q4, q5, q6⟩ := VI (UB K10)
   go_wp2_with fail
   obtain ⟨R9, u9⟩ := set7 (c0 := .slice none 0 0) (c1 := .int .i64 0) (c2 := .int .i64 0) (c3 := .int .i64 0) (c4 := .slice none 0 0) (c5 := .slice none 0 0) (c6 := .slice none 0 0) (UB K10)
   refine bodyPost_ret (results_cell_tmp2_row rfl _ _ w.heap.size 28 #[.slice none 0 0, .int .i64 0, .int .i64 0, .int .i64 0, .slice none 0 0, .slice none 0 0, .slice none 0 0] (0, 0) _ rfl R9 Tryz.underlying28 rfl (by kernel_rfl)) rfl ?_
   have z9 := u9.size
   exact ⟨_, _, _, _, rfl, ownR_nil (by omega) _ _ _ _ 0, u9.below bb10 (by omega)⟩
  | true =>
   rw [hok] at HO
   have hRes := UB HRES
   rw [if_pos ⟨by trivial, hok⟩] at hRes
   subst hRes
   refine HO.mono ?_
   rintro e w10 ⟨rfl, b10⟩
   have K10 := UC (UE b10 (UB K9))
   have V10 := UC (UE b10 (UB V9))
   have HR10 := UC ((UB HR9).below b10)
   have bb10 := UG bb9 b10
   have z10 := b10.size
   clear HO hok K9 V9 HR9 bb9 b10 HRES
   obtain ⟨d0, d1, d2, d3, d4, d5, d6⟩ := UJ (UB V10)
   obtain ⟨f0, f1, f2, f3, f4, f5, f6⟩ := UJ (UB K10)
   obtain ⟨q0, q1, q2, q3, q4, q5, q6⟩ := VI (UB K10)
   go_wp2_with fail
   obtain ⟨R11, u11⟩ := set7 (c0 := .slice oa n0.length oc) (c1 := .int .i64 D.type) (c2 := .int .i64 tt) (c3 := .int .i64 D.addr) (c4 := .slice ta D.to.length tc) (c5 := .slice xa D.text.length xc) (c6 := .slice ia D.nums.length ic) (UB K10)
   refine bodyPost_ret (results_cell_tmp2_row rfl _ _ w.heap.size 28 #[.slice oa n0.length oc, .int .i64 D.type, .int .i64 tt, .int .i64 D.addr, .slice ta D.to.length tc, .slice xa D.text.length xc, .slice ia D.nums.length ic] (0, 0) _ rfl R11 Tryz.underlying28 rfl (by kernel_rfl)) rfl ?_
   have z11 := u11.size
   exact ⟨_, _, _, _, rfl, ((UB HR10).outside u11 (by omega)).wide (by omega) (by omega), u11.below bb10 (by omega)⟩

theorem implRrGet_own {B : Nat} {v : Value} {l : List Int} (p : Int) {w : World} (h : Own B 5 w v l) (hl : l.length ≤ 1048576) (hp : p ≤ 9223372036854775807) (hb : Bytes8 l) :
  Calls Tryz.prog 9 #[v, .int .i64 p] w (GivesN w (rrGet l p).1 (rrGet l p).2) := by
 have b0 := UI (w := w) (.cells #[.slice none 0 0, .int .i64 0, .int .i64 0, .int .i64 0, .slice none 0 0, .slice none 0 0, .slice none 0 0] 28)
 have K0 := UC (heap_alloc_new w (.cells #[.slice none 0 0, .int .i64 0, .int .i64 0, .int .i64 0, .slice none 0 0, .slice none 0 0, .slice none 0 0] 28))
 have HC := UC (classGet_own p (h.below b0) hl hp hb)
 obtain ⟨a, cap, rfl, _⟩ := h.lies
 unfold rrGet
 clear h hb
 generalize (readAt l p).1 = D at *
 generalize (readAt l p).2.1 = cl at *
 generalize (readAt l p).2.2 = x at *
 generalize hRes : (if cl = 1 then (D, x) else (emptyR 0, -1)) = Res
 have HRES := UC hRes
 clear hRes
 have zW := b0.size
 have zK := VC (UB K0)
 go_enter Tryz.func9, Tryz.ntmps9
 go_wp2_with fail
 generalize w.alloc (.cells #[.slice none 0 0, .int .i64 0, .int .i64 0, .int .i64 0, .slice none 0 0, .slice none 0 0, .slice none 0 0] 28) = W at *
 refine (UB HC).mono ?_
 rintro e w7 ⟨vn, vt, vx, vi, rfl, o7, b7⟩
 obtain ⟨ra, rc, rfl, _⟩ := o7.hasR.name.form
 obtain ⟨ta, tc, rfl, _⟩ := o7.hasR.to.form
 obtain ⟨xa, xc, rfl, _⟩ := o7.hasR.text.form
 obtain ⟨ia, ic, rfl, _⟩ := o7.hasR.nums.form
 have b8 := UI (w := w7) (.cells #[.slice ra D.name.length rc, .int .i64 D.type, .int .i64 D.ttl, .int .i64 D.addr, .slice ta D.to.length tc, .slice xa D.text.length xc, .slice ia D.nums.length ic] 28)
 have V8 := UC (heap_alloc_new w7 (.cells #[.slice ra D.name.length rc, .int .i64 D.type, .int .i64 D.ttl, .int .i64 D.addr, .slice ta D.to.length tc, .slice xa D.text.length xc, .slice ia D.nums.length ic] 28))
 have K8 := UC (UE b8 (UE b7 (UB K0)))
 have D8 := UC (o7.below b8)
 have bb8 := UG (UG b0 b7) b8
 have z7 := b7.size
 have z8 := b8.size
 have zV := VC (UB V8)
 clear HC K0 b0 b7 b8 o7
 by_cases hc : cl = 1
 ·have hRes := UB HRES
  rw [if_pos hc] at hRes
  subst hRes
  subst hc
  clear HRES
  obtain ⟨d0, d1, d2, d3, d4, d5, d6⟩ := UJ (UB V8)
  obtain ⟨f0, f1, f2, f3, f4, f5, f6⟩ := UJ (UB K8)
  obtain ⟨q0, q1, q2, q3, q4, q5, q6⟩ := VI (UB K8)
  go_wp2_with fail
  obtain ⟨R11, u11⟩ := set7 (c0 := .slice ra D.name.length rc) (c1 := .int .i64 D.type) (c2 := .int .i64 D.ttl) (c3 := .int .i64 D.addr) (c4 := .slice ta D.to.length tc) (c5 := .slice xa D.text.length xc) (c6 := .slice ia D.nums.length ic) (UB K8)
  refine bodyPost_ret (results_cell_tmp_row rfl _ _ w.heap.size 28 #[.slice ra D.name.length rc, .int .i64 D.type, .int .i64 D.ttl, .int .i64 D.addr, .slice ta D.to.length tc, .slice xa D.text.length xc, .slice ia D.nums.length ic] (0, 0) _ rfl R11 Tryz.underlying28 rfl (by kernel_rfl)) rfl ?_
  have z11 := u11.size
  exact ⟨_, _, _, _, rfl, ((UB D8).outside u11 (by omega)).wide (by omega) (by omega), u11.below bb8 (by omega)⟩
 ·have hRes := UB HRES
  rw [if_neg hc] at hRes
  subst hRes
  clear HRES
  have hc' : (cl != 1) = true := by rw [bne_iff_ne]; exact hc
  clear hc
  obtain ⟨f0, f1, f2, f3, f4, f5, f6⟩ := UJ (UB K8)
  obtain ⟨q0, q1, q2, q3, q4, q5, q6⟩ := VI (UB K8)
  go_wp2_with fail
  obtain ⟨R9, u9⟩ := set7 (c0 := .slice none 0 0) (c1 := .int .i64 0) (c2 := .int .i64 0) (c3 := .int .i64 0) (c4 := .slice none 0 0) (c5 := .slice none 0 0) (c6 := .slice none 0 0) (UB K8)
  refine bodyPost_ret (results_cell_tmp_row rfl _ _ w.heap.size 28 #[.slice none 0 0, .int .i64 0, .int .i64 0, .int .i64 0, .slice none 0 0, .slice none 0 0, .slice none 0 0] (0, 0) _ rfl R9 Tryz.underlying28 rfl (by kernel_rfl)) rfl ?_
  have z9 := u9.size
  exact ⟨_, _, _, _, rfl, ownR_nil (by omega) _ _ _ _ 0, u9.below bb8 (by omega)⟩
end Go.Proofs.YthmihglfffeedaaGreatDoor
