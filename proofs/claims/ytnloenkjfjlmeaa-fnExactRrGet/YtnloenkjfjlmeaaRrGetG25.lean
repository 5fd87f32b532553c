/-
  Contracts of the program's classGet and RrGet. Contracts of the specification's LabelOk.
-/
import Derived.Test.YtnloenkjfjlmeaaRrGetG11
import Derived.Test.YtnloenkjfjlmeaaRrGetG24
import Derived.Test.YtnloenkjfjlmeaaRrGetG12
import Derived.Test.YtnloenkjfjlmeaaRrGetG04
import Derived.Test.YtnloenkjfjlmeaaRrGetG00
namespace Go.Proofs.Ytnloenkjfjlmeaa
open Go.RowKit
set_option linter.unusedVariables false

set_option maxHeartbeats 2000000 in
set_option maxRecDepth 100000 in
theorem classGet_own {B : Nat} {v : Value} {l : List Int} (p : Int) {w : World} (h : Own B 5 w v l) (hl : l.length ≤ 1048576) (hp : p ≤ 9223372036854775807) (hb : Bytes8 l) :
    Calls Try.prog 102 #[v, .int .i64 p] w (GivesC w (readAt l p).1 (readAt l p).2.1 (readAt l p).2.2) := by
  obtain ⟨a, cap, rfl, _⟩ := h.lies
  obtain ⟨l0, l1, l2, l3, l4⟩ := ends_le l p
  have b0 := below_alloc (w := w) (.cells #[.slice none 0 0, .int .i64 0, .int .i64 0, .int .i64 0, .slice none 0 0, .slice none 0 0, .slice none 0 0] 50)
  have K0 := hide (heap_alloc_new w (.cells #[.slice none 0 0, .int .i64 0, .int .i64 0, .int .i64 0, .slice none 0 0, .slice none 0 0, .slice none 0 0] 50))
  have A0 := hide (h.below b0)
  have C0 := hide (show Calls Try.prog 27 #[.slice a l.length cap, .int .i64 p] (w.alloc (.cells #[.slice none 0 0, .int .i64 0, .int .i64 0, .int .i64 0, .slice none 0 0, .slice none 0 0, .slice none 0 0] 50)) fun e w' => ∃ v', e = .returned (.tuple #[.agg #[v'], .int .i64 (e0 l p)]) ∧ OwnL (w.alloc (.cells #[.slice none 0 0, .int .i64 0, .int .i64 0, .int .i64 0, .slice none 0 0, .slice none 0 0, .slice none 0 0] 50)).heap.size 22 5 w' v' (nameGet l p).1 ∧ Below (w.alloc (.cells #[.slice none 0 0, .int .i64 0, .int .i64 0, .int .i64 0, .slice none 0 0, .slice none 0 0, .slice none 0 0] 50)).heap.size (w.alloc (.cells #[.slice none 0 0, .int .i64 0, .int .i64 0, .int .i64 0, .slice none 0 0, .slice none 0 0, .slice none 0 0] 50)) w' from implNameGet_own p (h.below b0) hl hp hb)
  have C1 := hide (show ∀ w : World, Own B 5 w (.slice a l.length cap) l → Calls Try.prog 110 #[.slice a l.length cap, .int .i64 (e0 l p)] w fun e w' => e = .returned (.tuple #[.int .i64 (tyAt l p), .int .i64 (e1 l p)]) ∧ Below w.heap.size w w' from fun w h => implGet16_any (e0 l p) h (by omega) (by omega) hb)
  have C2 := hide (show ∀ w : World, Own B 5 w (.slice a l.length cap) l → Calls Try.prog 110 #[.slice a l.length cap, .int .i64 (e1 l p)] w fun e w' => e = .returned (.tuple #[.int .i64 (clAt l p), .int .i64 (e2 l p)]) ∧ Below w.heap.size w w' from fun w h => implGet16_any (e1 l p) h (by omega) (by omega) hb)
  have C3 := hide (show ∀ w : World, Own B 5 w (.slice a l.length cap) l → Calls Try.prog 128 #[.slice a l.length cap, .int .i64 (e2 l p)] w fun e w' => e = .returned (.tuple #[.int .i64 (ttAt l p), .int .i64 (e3 l p)]) ∧ Below w.heap.size w w' from fun w h => implGet32_any (e2 l p) h (by omega) (by omega) hb)
  have C4 := hide (show ∀ w : World, Own B 5 w (.slice a l.length cap) l → Calls Try.prog 110 #[.slice a l.length cap, .int .i64 (e3 l p)] w fun e w' => e = .returned (.tuple #[.int .i64 (szAt l p), .int .i64 (e4 l p)]) ∧ Below w.heap.size w w' from fun w h => implGet16_any (e3 l p) h (by omega) (by omega) hb)
  have C5 := hide (show ∀ w : World, Own B 5 w (.slice a l.length cap) l → Calls Try.prog 41 #[.int .i64 (tyAt l p), .slice a l.length cap, .int .i64 (e4 l p), .int .i64 (szAt l p)] w (GivesR w (dtAt l p).1 (dtAt l p).2) from fun w h => implDataGet_own (tyAt l p) (e4 l p) (szAt l p) h (by omega) hb)
  have hy : (dtAt l p).2 = true → 0 ≤ e4 l p + szAt l p ∧ e4 l p + szAt l p ≤ 9223372036854775807 := fun hd => by
    obtain ⟨_, h1, h2, h3, _, h4⟩ := dataGet_yes hd
    omega
  have HY := hide hy
  unfold readAt recAt
  clear h hb hy
  generalize (dtAt l p).1 = D at *
  generalize (dtAt l p).2 = okD at *
  generalize e4 l p = x4 at *
  generalize szAt l p = sz at *
  generalize e3 l p = x3 at *
  generalize ttAt l p = tt at *
  generalize e2 l p = x2 at *
  generalize clAt l p = cl at *
  generalize e1 l p = x1 at *
  generalize tyAt l p = ty at *
  generalize e0 l p = x0 at *
  generalize (nameGet l p).1 = n0 at *
  generalize hRes : (if okD = true ∧ rrOk (named2 D n0 tt) = true then (named2 D n0 tt, cl, x4 + sz) else (emptyR 0, 0, -1)) = Res
  have HRES := hide hRes
  clear hRes
  have zW := b0.size
  have zK := block_lt (unhide K0)
  go_enter Try.func102, Try.ntmps102
  go_wp2_with fail
  generalize w.alloc (.cells #[.slice none 0 0, .int .i64 0, .int .i64 0, .int .i64 0, .slice none 0 0, .slice none 0 0, .slice none 0 0] 50) = W at *
  refine (unhide C0).mono ?_
  rintro e w1 ⟨v1, rfl, o1, b1⟩
  obtain ⟨oa, oc, rfl, _⟩ := o1.hasL.form
  have bm := below_alloc (w := w1) (.cells #[.slice oa n0.length oc] 25)
  have M2 := hide (heap_alloc_new w1 (.cells #[.slice oa n0.length oc] 25))
  have K2 := hide (block_kept bm (block_kept b1 (unhide K0)))
  have O2 := hide (o1.here.below bm)
  have A2 := hide (((unhide A0).below b1).below bm)
  have bb2 := below_next (below_next b0 b1) bm
  have z1 := b1.size
  have zm := bm.size
  have zM := block_lt (unhide M2)
  clear C0 K0 A0 b0 b1 bm o1
  go_wp2_with fail
  generalize w1.alloc (.cells #[.slice oa n0.length oc] 25) = w2 at *
  refine (unhide C1 _ (unhide A2)).mono ?_
  rintro e w3 ⟨rfl, b3⟩
  have K3 := hide (block_kept b3 (unhide K2))
  have M3 := hide (block_kept b3 (unhide M2))
  have O3 := hide ((unhide O2).below b3)
  have A3 := hide ((unhide A2).below b3)
  have bb3 := below_next bb2 b3
  have z3 := b3.size
  clear K2 M2 O2 A2 bb2 b3
  go_wp2_with fail
  refine (unhide C2 _ (unhide A3)).mono ?_
  rintro e w4 ⟨rfl, b4⟩
  have K4 := hide (block_kept b4 (unhide K3))
  have M4 := hide (block_kept b4 (unhide M3))
  have O4 := hide ((unhide O3).below b4)
  have A4 := hide ((unhide A3).below b4)
  have bb4 := below_next bb3 b4
  have z4 := b4.size
  clear K3 M3 O3 A3 bb3 b4
  go_wp2_with fail
  refine (unhide C3 _ (unhide A4)).mono ?_
  rintro e w5 ⟨rfl, b5⟩
  have K5 := hide (block_kept b5 (unhide K4))
  have M5 := hide (block_kept b5 (unhide M4))
  have O5 := hide ((unhide O4).below b5)
  have A5 := hide ((unhide A4).below b5)
  have bb5 := below_next bb4 b5
  have z5 := b5.size
  clear K4 M4 O4 A4 bb4 b5
  go_wp2_with fail
  refine (unhide C4 _ (unhide A5)).mono ?_
  rintro e w6 ⟨rfl, b6⟩
  have K6 := hide (block_kept b6 (unhide K5))
  have M6 := hide (block_kept b6 (unhide M5))
  have O6 := hide ((unhide O5).below b6)
  have A6 := hide ((unhide A5).below b6)
  have bb6 := below_next bb5 b6
  have z6 := b6.size
  clear K5 M5 O5 A5 bb5 b6
  go_wp2_with fail
  refine (unhide C5 _ (unhide A6)).mono ?_
  rintro e w7 ⟨vn, vt, vx, vi, rfl, o7, b7⟩
  obtain ⟨ra, rc, rfl, _⟩ := o7.hasR.name.form
  obtain ⟨ta, tc, rfl, _⟩ := o7.hasR.to.form
  obtain ⟨xa, xc, rfl, _⟩ := o7.hasR.text.form
  obtain ⟨ia, ic, rfl, _⟩ := o7.hasR.nums.form
  have K7 := hide (block_kept b7 (unhide K6))
  have M7 := hide (block_kept b7 (unhide M6))
  have O7 := hide ((unhide O6).below b7)
  have D7 := hide o7
  have bb7 := below_next bb6 b7
  have z7 := b7.size
  clear C1 C2 C3 C4 C5 K6 M6 O6 A6 bb6 b7 o7
  cases okD with
  | false =>
    have hRes := unhide HRES
    rw [if_neg (by simp)] at hRes
    subst hRes
    clear HRES HY
    have b8 := below_alloc (w := w7) (.cells #[.slice ra D.name.length rc, .int .i64 D.type, .int .i64 D.ttl, .int .i64 D.addr, .slice ta D.to.length tc, .slice xa D.text.length xc, .slice ia D.nums.length ic] 50)
    have K8 := hide (block_kept b8 (unhide K7))
    have bb8 := below_next bb7 b8
    have z8 := b8.size
    clear K7 M7 O7 D7 bb7 b8
    obtain ⟨f0, f1, f2, f3, f4, f5, f6⟩ := cells7 (unhide K8)
    obtain ⟨q0, q1, q2, q3, q4, q5, q6⟩ := frozen7 (unhide K8)
    go_wp2_with fail
    obtain ⟨R9, u9⟩ := set7 (c0 := .slice none 0 0) (c1 := .int .i64 0) (c2 := .int .i64 0) (c3 := .int .i64 0) (c4 := .slice none 0 0) (c5 := .slice none 0 0) (c6 := .slice none 0 0) (unhide K8)
    refine bodyPost_ret (results_cell_tmp2_row rfl _ _ w.heap.size 50 #[.slice none 0 0, .int .i64 0, .int .i64 0, .int .i64 0, .slice none 0 0, .slice none 0 0, .slice none 0 0] (0, 0) _ rfl R9 Try.underlying50 rfl (by kernel_rfl)) rfl ?_
    have z9 := u9.size
    exact ⟨_, _, _, _, rfl, ownR_nil (by omega) _ _ _ _ 0, u9.below bb8 (by omega)⟩
  | true =>
    have hY := unhide HY rfl
    have b9 := below_alloc (w := w7) (.cells #[.slice oa n0.length oc, .int .i64 D.type, .int .i64 tt, .int .i64 D.addr, .slice ta D.to.length tc, .slice xa D.text.length xc, .slice ia D.nums.length ic] 50)
    have V9 := hide (heap_alloc_new w7 (.cells #[.slice oa n0.length oc, .int .i64 D.type, .int .i64 tt, .int .i64 D.addr, .slice ta D.to.length tc, .slice xa D.text.length xc, .slice ia D.nums.length ic] 50))
    have K9 := hide (block_kept b9 (unhide K7))
    have bb9 := below_next bb7 b9
    have z9 := b9.size
    have zV := block_lt (unhide V9)
    have HR9 := hide ((((unhide D7).below b9).wide (B' := w2.heap.size) (E' := w7.heap.size) (by omega) (by omega)).named2 tt ((((unhide O7).below b9)).wide (C' := W.heap.size) (E' := w2.heap.size) (by omega) (by omega)) (by omega))
    have cm : ∀ o, (w7.alloc o).cell? ⟨w1.heap.size, 0, none⟩ = some (.slice oa n0.length oc) := fun o => block_one (block_kept (below_alloc o) (unhide M7))
    clear K7 M7 O7 D7 bb7 b9 HY
    go_wp2_with fail
    clear cm
    generalize w7.alloc (.cells #[.slice oa n0.length oc, .int .i64 D.type, .int .i64 tt, .int .i64 D.addr, .slice ta D.to.length tc, .slice xa D.text.length xc, .slice ia D.nums.length ic] 50) = w9 at *
    have HO : Calls Try.prog 77 #[.agg #[.slice oa n0.length oc, .int .i64 D.type, .int .i64 tt, .int .i64 D.addr, .slice ta D.to.length tc, .slice xa D.text.length xc, .slice ia D.nums.length ic]] w9 fun e w' => e = .returned (.bool (rrOk (named2 D n0 tt))) ∧ Below w9.heap.size w9 w' := implRrOk_has (unhide HR9).hasR
    cases hok : rrOk (named2 D n0 tt) with
    | false =>
      rw [hok] at HO
      have hRes := unhide HRES
      rw [if_neg (by rw [hok]; simp)] at hRes
      subst hRes
      refine HO.mono ?_
      rintro e w10 ⟨rfl, b10⟩
      have K10 := hide (block_kept b10 (unhide K9))
      have bb10 := below_next bb9 b10
      have z10 := b10.size
      clear HO hok K9 bb9 b10 HRES
      obtain ⟨f0, f1, f2, f3, f4, f5, f6⟩ := cells7 (unhide K10)
      obtain ⟨q0, q1, q2, q3, q4, q5, q6⟩ := frozen7 (unhide K10)
      go_wp2_with fail
      obtain ⟨R9, u9⟩ := set7 (c0 := .slice none 0 0) (c1 := .int .i64 0) (c2 := .int .i64 0) (c3 := .int .i64 0) (c4 := .slice none 0 0) (c5 := .slice none 0 0) (c6 := .slice none 0 0) (unhide K10)
      refine bodyPost_ret (results_cell_tmp2_row rfl _ _ w.heap.size 50 #[.slice none 0 0, .int .i64 0, .int .i64 0, .int .i64 0, .slice none 0 0, .slice none 0 0, .slice none 0 0] (0, 0) _ rfl R9 Try.underlying50 rfl (by kernel_rfl)) rfl ?_
      have z9 := u9.size
      exact ⟨_, _, _, _, rfl, ownR_nil (by omega) _ _ _ _ 0, u9.below bb10 (by omega)⟩
    | true =>
      rw [hok] at HO
      have hRes := unhide HRES
      rw [if_pos ⟨by trivial, hok⟩] at hRes
      subst hRes
      refine HO.mono ?_
      rintro e w10 ⟨rfl, b10⟩
      have K10 := hide (block_kept b10 (unhide K9))
      have V10 := hide (block_kept b10 (unhide V9))
      have HR10 := hide ((unhide HR9).below b10)
      have bb10 := below_next bb9 b10
      have z10 := b10.size
      clear HO hok K9 V9 HR9 bb9 b10 HRES
      obtain ⟨d0, d1, d2, d3, d4, d5, d6⟩ := cells7 (unhide V10)
      obtain ⟨f0, f1, f2, f3, f4, f5, f6⟩ := cells7 (unhide K10)
      obtain ⟨q0, q1, q2, q3, q4, q5, q6⟩ := frozen7 (unhide K10)
      go_wp2_with fail
      obtain ⟨R11, u11⟩ := set7 (c0 := .slice oa n0.length oc) (c1 := .int .i64 D.type) (c2 := .int .i64 tt) (c3 := .int .i64 D.addr) (c4 := .slice ta D.to.length tc) (c5 := .slice xa D.text.length xc) (c6 := .slice ia D.nums.length ic) (unhide K10)
      refine bodyPost_ret (results_cell_tmp2_row rfl _ _ w.heap.size 50 #[.slice oa n0.length oc, .int .i64 D.type, .int .i64 tt, .int .i64 D.addr, .slice ta D.to.length tc, .slice xa D.text.length xc, .slice ia D.nums.length ic] (0, 0) _ rfl R11 Try.underlying50 rfl (by kernel_rfl)) rfl ?_
      have z11 := u11.size
      exact ⟨_, _, _, _, rfl, ((unhide HR10).outside u11 (by omega)).wide (by omega) (by omega), u11.below bb10 (by omega)⟩

set_option maxHeartbeats 1000000 in
set_option maxRecDepth 100000 in
theorem implRrGet_own {B : Nat} {v : Value} {l : List Int} (p : Int) {w : World} (h : Own B 5 w v l) (hl : l.length ≤ 1048576) (hp : p ≤ 9223372036854775807) (hb : Bytes8 l) :
    Calls Try.prog 51 #[v, .int .i64 p] w (GivesN w (rrGet l p).1 (rrGet l p).2) := by
  have b0 := below_alloc (w := w) (.cells #[.slice none 0 0, .int .i64 0, .int .i64 0, .int .i64 0, .slice none 0 0, .slice none 0 0, .slice none 0 0] 50)
  have K0 := hide (heap_alloc_new w (.cells #[.slice none 0 0, .int .i64 0, .int .i64 0, .int .i64 0, .slice none 0 0, .slice none 0 0, .slice none 0 0] 50))
  have HC := hide (classGet_own p (h.below b0) hl hp hb)
  obtain ⟨a, cap, rfl, _⟩ := h.lies
  unfold rrGet
  clear h hb
  generalize (readAt l p).1 = D at *
  generalize (readAt l p).2.1 = cl at *
  generalize (readAt l p).2.2 = x at *
  generalize hRes : (if cl = 1 then (D, x) else (emptyR 0, -1)) = Res
  have HRES := hide hRes
  clear hRes
  have zW := b0.size
  have zK := block_lt (unhide K0)
  go_enter Try.func51, Try.ntmps51
  go_wp2_with fail
  generalize w.alloc (.cells #[.slice none 0 0, .int .i64 0, .int .i64 0, .int .i64 0, .slice none 0 0, .slice none 0 0, .slice none 0 0] 50) = W at *
  refine (unhide HC).mono ?_
  rintro e w7 ⟨vn, vt, vx, vi, rfl, o7, b7⟩
  obtain ⟨ra, rc, rfl, _⟩ := o7.hasR.name.form
  obtain ⟨ta, tc, rfl, _⟩ := o7.hasR.to.form
  obtain ⟨xa, xc, rfl, _⟩ := o7.hasR.text.form
  obtain ⟨ia, ic, rfl, _⟩ := o7.hasR.nums.form
  have b8 := below_alloc (w := w7) (.cells #[.slice ra D.name.length rc, .int .i64 D.type, .int .i64 D.ttl, .int .i64 D.addr, .slice ta D.to.length tc, .slice xa D.text.length xc, .slice ia D.nums.length ic] 50)
  have V8 := hide (heap_alloc_new w7 (.cells #[.slice ra D.name.length rc, .int .i64 D.type, .int .i64 D.ttl, .int .i64 D.addr, .slice ta D.to.length tc, .slice xa D.text.length xc, .slice ia D.nums.length ic] 50))
  have K8 := hide (block_kept b8 (block_kept b7 (unhide K0)))
  have D8 := hide (o7.below b8)
  have bb8 := below_next (below_next b0 b7) b8
  have z7 := b7.size
  have z8 := b8.size
  have zV := block_lt (unhide V8)
  clear HC K0 b0 b7 b8 o7
  by_cases hc : cl = 1
  · have hRes := unhide HRES
    rw [if_pos hc] at hRes
    subst hRes
    subst hc
    clear HRES
    obtain ⟨d0, d1, d2, d3, d4, d5, d6⟩ := cells7 (unhide V8)
    obtain ⟨f0, f1, f2, f3, f4, f5, f6⟩ := cells7 (unhide K8)
    obtain ⟨q0, q1, q2, q3, q4, q5, q6⟩ := frozen7 (unhide K8)
    go_wp2_with fail
    obtain ⟨R11, u11⟩ := set7 (c0 := .slice ra D.name.length rc) (c1 := .int .i64 D.type) (c2 := .int .i64 D.ttl) (c3 := .int .i64 D.addr) (c4 := .slice ta D.to.length tc) (c5 := .slice xa D.text.length xc) (c6 := .slice ia D.nums.length ic) (unhide K8)
    refine bodyPost_ret (results_cell_tmp_row rfl _ _ w.heap.size 50 #[.slice ra D.name.length rc, .int .i64 D.type, .int .i64 D.ttl, .int .i64 D.addr, .slice ta D.to.length tc, .slice xa D.text.length xc, .slice ia D.nums.length ic] (0, 0) _ rfl R11 Try.underlying50 rfl (by kernel_rfl)) rfl ?_
    have z11 := u11.size
    exact ⟨_, _, _, _, rfl, ((unhide D8).outside u11 (by omega)).wide (by omega) (by omega), u11.below bb8 (by omega)⟩
  · have hRes := unhide HRES
    rw [if_neg hc] at hRes
    subst hRes
    clear HRES
    have hc' : (cl != 1) = true := by rw [bne_iff_ne]; exact hc
    clear hc
    obtain ⟨f0, f1, f2, f3, f4, f5, f6⟩ := cells7 (unhide K8)
    obtain ⟨q0, q1, q2, q3, q4, q5, q6⟩ := frozen7 (unhide K8)
    go_wp2_with fail
    obtain ⟨R9, u9⟩ := set7 (c0 := .slice none 0 0) (c1 := .int .i64 0) (c2 := .int .i64 0) (c3 := .int .i64 0) (c4 := .slice none 0 0) (c5 := .slice none 0 0) (c6 := .slice none 0 0) (unhide K8)
    refine bodyPost_ret (results_cell_tmp_row rfl _ _ w.heap.size 50 #[.slice none 0 0, .int .i64 0, .int .i64 0, .int .i64 0, .slice none 0 0, .slice none 0 0, .slice none 0 0] (0, 0) _ rfl R9 Try.underlying50 rfl (by kernel_rfl)) rfl ?_
    have z9 := u9.size
    exact ⟨_, _, _, _, rfl, ownR_nil (by omega) _ _ _ _ 0, u9.below bb8 (by omega)⟩
end Go.Proofs.Ytnloenkjfjlmeaa

namespace Go.Proofs.Ytnloenkjfjlmeaa
open Go.RowKit
set_option linter.unusedVariables false

theorem ssign_cases (c : Int) : (97 ≤ c ∧ c ≤ 122) ∨ (97 ≤ c ∧ 122 < c) ∨ (c < 97 ∧ 48 ≤ c ∧ c ≤ 57) ∨ (c < 97 ∧ 48 ≤ c ∧ 57 < c ∧ c ≠ 45) ∨ (c < 97 ∧ c < 48 ∧ c = 45) ∨ (c < 97 ∧ c < 48 ∧ c ≠ 45) := by omega

set_option maxHeartbeats 1600000 in
set_option maxRecDepth 100000 in
theorem specLabelOk_has {v : Value} {l : List Int} {w : World} (h : Has w v l) :
    Calls Try.prog 54 #[v] w fun e w' => e = .returned (.bool (labelOk l)) ∧ w = w' := by
  have hbd := h.bound
  unfold maxLen at hbd
  obtain ⟨a, cap, rfl, hL⟩ := h.form
  by_cases h0 : l.length = 0
  · rw [labelOk_short (by omega), h0]
    go_enter Try.func54, Try.ntmps54
    go_wp2
    go_ret
    exact ⟨rfl, rfl⟩
  · by_cases h1 : 15 < l.length
    · rw [labelOk_short (by omega)]
      generalize hn : l.length = n at *
      go_enter Try.func54, Try.ntmps54
      go_wp2
      go_ret
      exact ⟨rfl, rfl⟩
    · have h2 : l.length ≤ 15 := by omega
      have hyes := hide (fun (hs : ∀ j, j < l.length → signOk (l.getD j 0) = true) => labelOk_yes (l := l) (by omega) h2 hs)
      have hno := hide (fun (j : Nat) (hj : j < l.length) (hs : signOk (l.getD j 0) = false) => labelOk_sign hj hs)
      generalize hok : labelOk l = ok at *
      clear hok
      generalize hn : l.length = n at *
      have HN := hide hn
      clear hn
      have hn1 : (1 : Int) ≤ n := by omega
      go_enter Try.func54, Try.ntmps54
      go_wp2
      go_loop [3] (fun i => ∃ k : Nat, k ≤ n ∧ i = .int .i64 k ∧ Hid (∀ j, j < k → signOk (l.getD j 0) = true)) (fun i => n - (intOf i).toNat)
      case atStart => exact ⟨0, Nat.zero_le _, rfl, hide (fun j hj => absurd hj (Nat.not_lt_zero _))⟩
      case round =>
        obtain ⟨k, hk, rfl, hall⟩ := hrel
        by_cases hlt : k < n
        · obtain ⟨b, off, rfl, hbl, hc⟩ := hL.here (k := k) (by rw [unhide HN]; exact hlt)
          have hone := hide (fun (hs : signOk (l.getD k 0) = true) => (show ∀ j, j < k + 1 → signOk (l.getD j 0) = true from fun j hj => by
            by_cases e : j = k
            · subst e; exact hs
            · exact unhide hall j (by omega)))
          have hnok := hide (fun (hs : signOk (l.getD k 0) = false) => unhide hno k hlt hs)
          generalize hx : l.getD k 0 = x at *
          rcases ssign_cases x with ⟨h1, h2⟩ | ⟨h1, h2⟩ | ⟨h1, h2, h3⟩ | ⟨h1, h2, h3, h4⟩ | ⟨h1, h2, rfl⟩ | ⟨h1, h2, h3⟩
          · have hs : signOk x = true := decide_eq_true (by omega)
            go_wp2
            exact ⟨⟨k + 1, by omega, by go_num, hide (unhide hone hs)⟩, by simp [intOf]; omega⟩
          · have hs : signOk x = false := decide_eq_false (by omega)
            have hq := unhide hnok hs
            subst hq
            have h8 : (x == 45) = false := by simp; omega
            have h5 : 48 ≤ x := by omega
            have h6 : ¬ x ≤ 57 := by omega
            have h7 : ¬ x ≤ 122 := by omega
            go_wp2
            go_ret
            exact ⟨rfl, rfl⟩
          · have hs : signOk x = true := decide_eq_true (by omega)
            have h5 : ¬ 97 ≤ x := by omega
            go_wp2
            exact ⟨⟨k + 1, by omega, by go_num, hide (unhide hone hs)⟩, by simp [intOf]; omega⟩
          · have hs : signOk x = false := decide_eq_false (by omega)
            have hq := unhide hnok hs
            subst hq
            have h8 : (x == 45) = false := by simp; omega
            have h5 : ¬ 97 ≤ x := by omega
            have h6 : ¬ x ≤ 57 := by omega
            go_wp2
            go_ret
            exact ⟨rfl, rfl⟩
          · have hs : signOk 45 = true := rfl
            go_wp2
            exact ⟨⟨k + 1, by omega, by go_num, hide (unhide hone hs)⟩, by simp [intOf]; omega⟩
          · have hs : signOk x = false := decide_eq_false (by omega)
            have hq := unhide hnok hs
            subst hq
            have h8 : (x == 45) = false := by simp; omega
            have h5 : ¬ 97 ≤ x := by omega
            have h6 : ¬ 48 ≤ x := by omega
            go_wp2
            go_ret
            exact ⟨rfl, rfl⟩
        · obtain rfl : k = n := by omega
          have hq := unhide hyes (unhide hall)
          subst hq
          go_wp2
          go_ret
          exact ⟨rfl, rfl⟩
end Go.Proofs.Ytnloenkjfjlmeaa
