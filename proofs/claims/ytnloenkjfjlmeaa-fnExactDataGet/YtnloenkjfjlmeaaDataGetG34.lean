/-
  Contracts of the helpers of the laws for records that are answers (markRr once more, heldRr). The walk of laws.FnExactDataGet.
-/
import Derived.Test.YtnloenkjfjlmeaaDataGetG33
import Derived.Test.YtnloenkjfjlmeaaDataGetG07
import Derived.Test.YtnloenkjfjlmeaaDataGetG08
import Derived.Test.YtnloenkjfjlmeaaDataGetG03
import Derived.Test.YtnloenkjfjlmeaaDataGetG24
import Derived.Test.YtnloenkjfjlmeaaDataGetG32
import Derived.Deep.RegionHeld3
import Derived.Deep.RegionWith
namespace Go.Proofs.Ytnloenkjfjlmeaa
open Go.RowKit
set_option linter.unusedVariables false

def posR (r : Rec) (k : Int) : Int := pos r.to (pos r.name k r.name.length) r.to.length + r.text.length + r.nums.length
def markR (r : Rec) (k : Int) : Rec :=
  ⟨markL r.name k, r.type, r.ttl, r.addr, markL r.to (pos r.name k r.name.length), marks (pos r.to (pos r.name k r.name.length) r.to.length) r.text.length, marksI (pos r.to (pos r.name k r.name.length) r.to.length + r.text.length) r.nums.length⟩

theorem posR_bound {r : Rec} (hs : SizeR 1048576 r) (k : Int) : k ≤ posR r k ∧ posR r k ≤ k + 4398046511104 := by
  have p1 := pos_bound r.name k hs.name hs.names
  have p2 := pos_bound r.to (pos r.name k r.name.length) hs.to hs.tos
  have := hs.text
  have := hs.nums
  unfold posR
  omega
theorem has_lies {w : World} {a : Option Addr} {n cap : Nat} {l : List Int} (h : Has w (.slice a n cap) l) (hn : l.length = n) : Lies w a l := by
  obtain ⟨a', cap', e, hl⟩ := h.form
  injection e with e1 e2 e3
  subst e1
  exact hl
theorem hasI_lies {w : World} {a : Option Addr} {n cap : Nat} {l : List Int} (h : HasI w (.slice a n cap) l) (hn : l.length = n) : LiesI w a l := by
  obtain ⟨a', cap', e, hl⟩ := h.form
  injection e with e1 e2 e3
  subst e1
  exact hl

set_option maxHeartbeats 1000000 in
set_option maxRecDepth 100000 in
theorem markRr_own {r : Rec} (hs : SizeR 1048576 r) (k0 : Int) (hk0 : 0 ≤ k0) (hk1 : k0 ≤ 4294967296) (B E : Nat) (vn vt vx vi : Value) (w : World) (hEw : E ≤ w.heap.size) (h : OwnR B E 22 5 3 w vn vt vx vi r) :
      Calls Try.prog 43 #[.agg #[vn, .int .i64 r.type, .int .i64 r.ttl, .int .i64 r.addr, vt, vx, vi], .int .i64 k0] w fun e w' => e = .returned (.int .i64 (posR r k0)) ∧ OwnR B E 22 5 3 w' vn vt vx vi (markR r k0) ∧ Outside B E w w' := by
  have p1 := pos_bound r.name k0 hs.name hs.names
  have p2 := pos_bound r.to (pos r.name k0 r.name.length) hs.to hs.tos
  unfold posR markR
  obtain ⟨na, nc, rfl, _⟩ := h.hasR.name.form
  obtain ⟨ta, tc, rfl, _⟩ := h.hasR.to.form
  obtain ⟨xa, xc, rfl, _⟩ := h.hasR.text.form
  obtain ⟨ia, ic, rfl, _⟩ := h.hasR.nums.form
  have b0 := below_alloc (w := w) (.cells #[.slice na r.name.length nc, .int .i64 r.type, .int .i64 r.ttl, .int .i64 r.addr, .slice ta r.to.length tc, .slice xa r.text.length xc, .slice ia r.nums.length ic] 50)
  have k0' := heap_alloc_new w (.cells #[.slice na r.name.length nc, .int .i64 r.type, .int .i64 r.ttl, .int .i64 r.addr, .slice ta r.to.length tc, .slice xa r.text.length xc, .slice ia r.nums.length ic] 50)
  obtain ⟨s1, s2, s3, a1, a2, a3, a4, h1, h2, h3, h4⟩ := h.below b0
  have HT := hs.text
  have HN := hs.nums
  have M1 := hide (fun (w : World) (v : Value) (hh : OwnN B s1 22 5 w v r.name) => markName_any k0 hh hs.name hs.names hk0 (by omega))
  have M2 := hide (fun (w : World) (v : Value) (hh : OwnN s1 s2 22 5 w v r.to) => markName_any (pos r.name k0 r.name.length) hh hs.to hs.tos (by omega) (by omega))
  have e1 : ∀ w v, OwnN B s1 22 5 w v (markL r.name k0) → OwnN B s1 22 5 w v (markL r.name k0) := fun w v h => h
  generalize hMT : markL r.to (pos r.name k0 r.name.length) = MT at *
  generalize hMN : markL r.name k0 = MN at *
  generalize pos r.to (pos r.name k0 r.name.length) r.to.length = P2 at *
  generalize pos r.name k0 r.name.length = P1 at *
  clear hMT hMN e1
  have K0 := hide k0'
  have H1 := hide h1
  have H2 := hide h2
  have H3 := hide h3
  have H4 := hide h4
  clear h k0' h1 h2 h3 h4 hs
  go_enter Try.func43, Try.ntmps43
  go_wp2_with fail
  have u0 : Outside B E w (w.alloc (.cells #[.slice na r.name.length nc, .int .i64 r.type, .int .i64 r.ttl, .int .i64 r.addr, .slice ta r.to.length tc, .slice xa r.text.length xc, .slice ia r.nums.length ic] 50)) := Below.outside b0
  generalize w.alloc (.cells #[.slice na r.name.length nc, .int .i64 r.type, .int .i64 r.ttl, .int .i64 r.addr, .slice ta r.to.length tc, .slice xa r.text.length xc, .slice ia r.nums.length ic] 50) = W at *
  refine (unhide M1 _ _ (unhide H1)).mono ?_
  rintro e w1 ⟨rfl, n1, u1⟩
  have N1 := hide n1
  have U1 := u0.trans (u1.wide (B' := B) (E' := E) (by omega) (by omega))
  have K1 := hide (u1.kept (unhide K0) (by omega))
  have T1 := hide ((unhide H2).outside u1 (by omega))
  have X1 := hide ((unhide H3).outside u1 (by omega))
  have Y1 := hide ((unhide H4).outside u1 (by omega))
  obtain ⟨d0, d1, d2, d3, d4, d5, d6⟩ := cells7 (unhide K1)
  clear u0 u1 n1 K0 H1 H2 H3 H4
  go_wp2_with fail
  clear d0 d1 d2 d3 d4 d5 d6
  refine (unhide M2 _ _ (unhide T1)).mono ?_
  rintro e w2 ⟨rfl, t2, u2⟩
  have N2 := hide ((unhide N1).outside u2 (by omega))
  have TT2 := hide t2
  have U2 := U1.trans (u2.wide (B' := B) (E' := E) (by omega) (by omega))
  have K2 := hide (u2.kept (unhide K1) (by omega))
  have X2 := hide ((unhide X1).outside u2 (by omega))
  have Y2 := hide ((unhide Y1).outside u2 (by omega))
  obtain ⟨d0, d1, d2, d3, d4, d5, d6⟩ := cells7 (unhide K2)
  clear U1 u2 t2 N1 K1 T1 X1 Y1
  go_wp2_with fail
  clear d0 d1 d2 d3 d4 d5 d6
  refine (markByteS_any P2 (unhide X2).1 (by omega) (by omega) (by omega)).mono ?_
  rintro e w3 ⟨rfl, o3, g3⟩
  obtain ⟨x3, u3⟩ := (unhide X2).marks o3 g3
  have N3 := hide ((unhide N2).outside u3 (by omega))
  have TT3 := hide ((unhide TT2).outside u3 (by omega))
  have XX3 := hide x3
  have U3 := U2.trans (u3.wide (B' := B) (E' := E) (by omega) (by omega))
  have K3 := hide (u3.kept (unhide K2) (by omega))
  have Y3 := hide ((unhide Y2).outside u3 (by omega))
  obtain ⟨d0, d1, d2, d3, d4, d5, d6⟩ := cells7 (unhide K3)
  clear U2 u3 x3 N2 TT2 K2 X2 Y2 o3 g3
  go_wp2_with fail
  clear d0 d1 d2 d3 d4 d5 d6
  refine (markIntS_any (P2 + r.text.length) (unhide Y3).1 (by omega) (by omega) (by omega)).mono ?_
  rintro e w4 ⟨rfl, o4, g4⟩
  obtain ⟨y4, u4⟩ := (unhide Y3).marks o4 g4
  have N4 := hide ((unhide N3).outside u4 (by omega))
  have TT4 := hide ((unhide TT3).outside u4 (by omega))
  have XX4 := hide ((unhide XX3).outside u4 (by omega))
  have YY4 := hide y4
  clear y4
  have U4 := U3.trans (u4.wide (B' := B) (E' := E) (by omega) (by omega))
  go_wp2_with fail
  go_ret
  exact ⟨rfl, ⟨s1, s2, s3, a1, a2, a3, a4, unhide N4, unhide TT4, unhide XX4, unhide YY4⟩, U4⟩

set_option maxHeartbeats 1000000 in
set_option maxRecDepth 100000 in
theorem heldRr_has {r : Rec} (hs : SizeR 1048576 r) (k0 : Int) (hk0 : 0 ≤ k0) (hk1 : k0 ≤ 4294967296) {vn vt vx vi : Value} {w : World} (h : HasR w vn vt vx vi (markR r k0)) :
      Calls Try.prog 44 #[.agg #[vn, .int .i64 r.type, .int .i64 r.ttl, .int .i64 r.addr, vt, vx, vi], .int .i64 k0] w fun e w' => e = .returned (.int .i64 (posR r k0)) ∧ Below w.heap.size w w' := by
  have p1 := pos_bound r.name k0 hs.name hs.names
  have p2 := pos_bound r.to (pos r.name k0 r.name.length) hs.to hs.tos
  have q1 : (markR r k0).name.length = r.name.length := markL_length _ _
  have q2 : (markR r k0).to.length = r.to.length := markL_length _ _
  have q3 : (markR r k0).text.length = r.text.length := marks_length _ _
  have q4 : (markR r k0).nums.length = r.nums.length := marks_lengthI _ _
  obtain ⟨na, nc, rfl, _⟩ := h.name.form
  obtain ⟨ta, tc, rfl, _⟩ := h.to.form
  obtain ⟨xa, xc, rfl, _⟩ := h.text.form
  obtain ⟨ia, ic, rfl, _⟩ := h.nums.form
  rw [q1, q2, q3, q4] at *
  have b0 := below_alloc (w := w) (.cells #[.slice na r.name.length nc, .int .i64 r.type, .int .i64 r.ttl, .int .i64 r.addr, .slice ta r.to.length tc, .slice xa r.text.length xc, .slice ia r.nums.length ic] 50)
  have K0 := hide (heap_alloc_new w (.cells #[.slice na r.name.length nc, .int .i64 r.type, .int .i64 r.ttl, .int .i64 r.addr, .slice ta r.to.length tc, .slice xa r.text.length xc, .slice ia r.nums.length ic] 50))
  have H0 := h.below b0
  have H1 := hide H0.name
  have H2 := hide H0.to
  have H3 := hide H0.text
  have H4 := hide H0.nums
  have hT := hs.text
  have hN := hs.nums
  unfold markR at H1 H2 H3 H4
  unfold posR
  have M1 := hide (fun (w : World) (v : Value) (hh : HasL w v (markL r.name k0)) => heldName_has k0 hh hs.name hs.names hk0 (by omega))
  have M2 := hide (fun (w : World) (v : Value) (hh : HasL w v (markL r.to (pos r.name k0 r.name.length))) => heldName_has (pos r.name k0 r.name.length) hh hs.to hs.tos (by omega) (by omega))
  clear h H0 q1 q2 q3 q4 hs
  dsimp only at H1 H2 H3 H4
  generalize markL r.to (pos r.name k0 r.name.length) = MT at *
  generalize markL r.name k0 = MN at *
  generalize pos r.to (pos r.name k0 r.name.length) r.to.length = P2 at *
  generalize pos r.name k0 r.name.length = P1 at *
  have n1 : ¬ P1 < 0 := by omega
  have n2 : ¬ P2 < 0 := by omega
  have n3 : ¬ P2 + (r.text.length : Int) < 0 := by omega
  have n4 : ¬ P2 + (r.text.length : Int) + (r.nums.length : Int) < 0 := by omega
  go_enter Try.func44, Try.ntmps44
  go_wp2_with fail
  generalize w.alloc (.cells #[.slice na r.name.length nc, .int .i64 r.type, .int .i64 r.ttl, .int .i64 r.addr, .slice ta r.to.length tc, .slice xa r.text.length xc, .slice ia r.nums.length ic] 50) = W at *
  refine (unhide M1 _ _ (unhide H1)).mono ?_
  rintro e w1 ⟨rfl, b1⟩
  have bb1 := below_next b0 b1
  have K1 := hide (block_kept b1 (unhide K0))
  have T1 := hide ((unhide H2).below b1)
  have X1 := hide ((unhide H3).below b1)
  have Y1 := hide ((unhide H4).below b1)
  obtain ⟨d0, d1, d2, d3, d4, d5, d6⟩ := cells7 (unhide K1)
  clear b0 b1 K0 H1 H2 H3 H4
  go_wp2_with fail
  clear d0 d1 d2 d3 d4 d5 d6
  refine (unhide M2 _ _ (unhide T1)).mono ?_
  rintro e w2 ⟨rfl, b2⟩
  have bb2 := below_next bb1 b2
  have K2 := hide (block_kept b2 (unhide K1))
  have X2 := hide ((unhide X1).below b2)
  have Y2 := hide ((unhide Y1).below b2)
  obtain ⟨d0, d1, d2, d3, d4, d5, d6⟩ := cells7 (unhide K2)
  clear bb1 b2 K1 T1 X1 Y1
  go_wp2_with fail
  refine (heldByteS_marks xa xc r.text.length P2 w2 (by have := (unhide X2); exact has_lies this (by rw [marks_length])) (by omega) (by omega) (by omega)).mono ?_
  rintro e w3 ⟨rfl, rfl⟩
  go_wp2_with fail
  refine (heldIntS_marks ia ic r.nums.length (P2 + r.text.length) w2 (by have := (unhide Y2); exact hasI_lies this (by rw [marks_lengthI])) (by omega) (by omega) (by omega)).mono ?_
  rintro e w4 ⟨rfl, rfl⟩
  go_wp2_with fail
  go_ret
  exact ⟨rfl, bb2⟩
end Go.Proofs.Ytnloenkjfjlmeaa

namespace Go.Proofs.Ytnloenkjfjlmeaa
open Go.RowKit
set_option linter.unusedVariables false

set_option maxHeartbeats 4000000 in
set_option maxRecDepth 100000 in
theorem lawDataGet (p0 : Int) (a1 : Option Addr) (cap1 : Nat) (l1 : List Int) (p2 : Int) (p3 : Int) (w : World) (hp0 : (Lit.int .i64 p0).wf = true) (h1 : Lies w a1 l1) (hm1 : l1.length ≤ maxLen) (hb1 : Bytes8 l1) (hp2 : (Lit.int .i64 p2).wf = true) (hp3 : (Lit.int .i64 p3).wf = true) :
    Calls Try.prog 8 #[.int .i64 p0, .slice a1 l1.length cap1, .int .i64 p2, .int .i64 p3] w fun e w' => e = .returned (.bool true) ∧ Below w.heap.size w w' := by
  have bb := Below.refl w.heap.size w
  by_cases hbig1 : 1048576 < l1.length
  · unfold maxLen at hm1
    clear h1 
    go_enter Try.func8, Try.ntmps8
    go_wp2_with fail
    go_ret
    exact ⟨rfl, bb⟩
  have hl1 : l1.length ≤ 1048576 := by omega
  have hq0 : p0 ≤ 9223372036854775807 := by
    have := (i64_bounds hp0).2
    omega
  have L1 := hide h1
  clear h1 hbig1 hm1
  have HB1 := hide hb1
  clear hb1
  have hq2 : p2 ≤ 9223372036854775807 := by
    have := (i64_bounds hp2).2
    omega
  have hq3 : p3 ≤ 9223372036854775807 := by
    have := (i64_bounds hp3).2
    omega
  go_enter Try.func8, Try.ntmps8
  go_wp2_with fail
  have hS0 := dataGet_size p0 l1 p2 p3
  have SP := fun (w : World) (x1 : Value) (h1 : Row8 w x1 l1) => specDataGet_own p0 p2 p3 (Classical.choose_spec h1) hq2 (unhide HB1)
  have IM := fun (w : World) (x1 : Value) (h1 : Row8 w x1 l1) => implDataGet_own p0 p2 p3 (Classical.choose_spec h1) hq2 (unhide HB1)
  generalize (dataGet p0 l1 p2 p3).1 = G0 at *
  generalize (dataGet p0 l1 p2 p3).2 = G1 at *
  have HS0g := hide (hS0.mono (m' := 1048576) (by omega))
  have HSS0g := hide (hS0.mono (m' := 2097152) (by omega))
  clear hS0
  have hPG0 := (posR_bound (unhide HS0g) 1).1
  have MKG0 := fun (B E : Nat) (vn vt vx vi : Value) (w : World) (hE : E ≤ w.heap.size) (h : OwnR B E 22 5 3 w vn vt vx vi G0) => markRr_own (unhide HS0g) 1 (by omega) (by omega) B E vn vt vx vi w hE h
  have HDG0 := fun (vn vt vx vi : Value) (w : World) (h : HasR w vn vt vx vi (markR G0 1)) => heldRr_has (unhide HS0g) 1 (by omega) (by omega) h
  generalize posR G0 1 = PG0 at *
  generalize markR G0 1 = MG0 at *
  replace MKG0 := hide MKG0
  replace HDG0 := hide HDG0
  have hPGn0 : ¬ PG0 < 0 := by omega
  replace SP := hide SP
  replace IM := hide IM
  go_wp2_with fail
  refine (toByteS_any a1 cap1 l1 _ ((unhide L1).below bb) hl1).mono ?_
  rintro e w1 ⟨x1, rfl, o1, b1⟩
  have A1 := hide (o1.row8)
  clear o1
  replace bb := below_next bb b1
  have z1 := b1.size
  clear b1
  go_wp2_with fail
  refine (unhide SP _ _ (unhide A1)).mono ?_
  rintro e w2 ⟨yn2, yt2, yx2, yi2, rfl, o2, b2⟩
  clear A1
  replace bb := below_next bb b2
  have z2 := b2.size
  clear b2
  obtain ⟨yna2, ync2, rfl, _⟩ := o2.hasR.name.form
  obtain ⟨yta2, ytc2, rfl, _⟩ := o2.hasR.to.form
  obtain ⟨yxa2, yxc2, rfl, _⟩ := o2.hasR.text.form
  obtain ⟨yia2, yic2, rfl, _⟩ := o2.hasR.nums.form
  have W0 := hide o2
  clear o2
  have b3 := below_alloc (w := w2) (.cells #[.slice yna2 G0.name.length ync2, .int .i64 G0.type, .int .i64 G0.ttl, .int .i64 G0.addr, .slice yta2 G0.to.length ytc2, .slice yxa2 G0.text.length yxc2, .slice yia2 G0.nums.length yic2] 50)
  have VW0 := hide (heap_alloc_new w2 (.cells #[.slice yna2 G0.name.length ync2, .int .i64 G0.type, .int .i64 G0.ttl, .int .i64 G0.addr, .slice yta2 G0.to.length ytc2, .slice yxa2 G0.text.length yxc2, .slice yia2 G0.nums.length yic2] 50))
  go_wp2_with fail
  generalize w2.alloc (.cells #[.slice yna2 G0.name.length ync2, .int .i64 G0.type, .int .i64 G0.ttl, .int .i64 G0.addr, .slice yta2 G0.to.length ytc2, .slice yxa2 G0.text.length yxc2, .slice yia2 G0.nums.length yic2] 50) = w3 at *
  replace bb := below_next bb b3
  replace W0 := hide ((unhide W0).below b3)
  have z3 := b3.size
  clear b3
  have zz3 := block_lt (unhide VW0)
  obtain ⟨c_VW00, c_VW01, c_VW02, c_VW03, c_VW04, c_VW05, c_VW06⟩ := cells7 (unhide VW0)
  go_wp2_with fail
  clear c_VW00 c_VW01 c_VW02 c_VW03 c_VW04 c_VW05 c_VW06
  refine (toByteS_any a1 cap1 l1 _ ((unhide L1).below bb) hl1).mono ?_
  rintro e w4 ⟨x4, rfl, o4, b4⟩
  have X1 := hide o4.here
  clear o4
  replace bb := below_next bb b4
  replace W0 := hide ((unhide W0).below b4)
  replace VW0 := hide (block_kept b4 (unhide VW0))
  have z4 := b4.size
  clear b4
  obtain ⟨c_VW00, c_VW01, c_VW02, c_VW03, c_VW04, c_VW05, c_VW06⟩ := cells7 (unhide VW0)
  go_wp2_with fail
  clear c_VW00 c_VW01 c_VW02 c_VW03 c_VW04 c_VW05 c_VW06
  refine (unhide IM _ _ (unhide X1).row8).mono ?_
  rintro e w5 ⟨yn5, yt5, yx5, yi5, rfl, o5, b5⟩
  replace bb := below_next bb b5
  replace W0 := hide ((unhide W0).below b5)
  replace VW0 := hide (block_kept b5 (unhide VW0))
  replace X1 := hide ((unhide X1).below b5)
  have z5 := b5.size
  clear b5
  obtain ⟨yna5, ync5, rfl, _⟩ := o5.hasR.name.form
  obtain ⟨yta5, ytc5, rfl, _⟩ := o5.hasR.to.form
  obtain ⟨yxa5, yxc5, rfl, _⟩ := o5.hasR.text.form
  obtain ⟨yia5, yic5, rfl, _⟩ := o5.hasR.nums.form
  have GG := hide o5
  clear o5
  have b6 := below_alloc (w := w5) (.cells #[.slice yna5 G0.name.length ync5, .int .i64 G0.type, .int .i64 G0.ttl, .int .i64 G0.addr, .slice yta5 G0.to.length ytc5, .slice yxa5 G0.text.length yxc5, .slice yia5 G0.nums.length yic5] 50)
  have VGG := hide (heap_alloc_new w5 (.cells #[.slice yna5 G0.name.length ync5, .int .i64 G0.type, .int .i64 G0.ttl, .int .i64 G0.addr, .slice yta5 G0.to.length ytc5, .slice yxa5 G0.text.length yxc5, .slice yia5 G0.nums.length yic5] 50))
  obtain ⟨c_VW00, c_VW01, c_VW02, c_VW03, c_VW04, c_VW05, c_VW06⟩ := cells7 (block_kept b6 (unhide VW0))
  go_wp2_with fail
  clear c_VW00 c_VW01 c_VW02 c_VW03 c_VW04 c_VW05 c_VW06
  generalize w5.alloc (.cells #[.slice yna5 G0.name.length ync5, .int .i64 G0.type, .int .i64 G0.ttl, .int .i64 G0.addr, .slice yta5 G0.to.length ytc5, .slice yxa5 G0.text.length yxc5, .slice yia5 G0.nums.length yic5] 50) = w6 at *
  replace bb := below_next bb b6
  replace W0 := hide ((unhide W0).below b6)
  replace VW0 := hide (block_kept b6 (unhide VW0))
  replace X1 := hide ((unhide X1).below b6)
  replace GG := hide ((unhide GG).below b6)
  have z6 := b6.size
  clear b6
  have zz6 := block_lt (unhide VGG)
  obtain ⟨c_VW00, c_VW01, c_VW02, c_VW03, c_VW04, c_VW05, c_VW06⟩ := cells7 (unhide VW0)
  obtain ⟨c_VGG0, c_VGG1, c_VGG2, c_VGG3, c_VGG4, c_VGG5, c_VGG6⟩ := cells7 (unhide VGG)
  go_wp2_with fail
  clear c_VW00 c_VW01 c_VW02 c_VW03 c_VW04 c_VW05 c_VW06
  clear c_VGG0 c_VGG1 c_VGG2 c_VGG3 c_VGG4 c_VGG5 c_VGG6
  refine (eqRr_has (unhide GG).hasR (unhide W0).hasR (unhide HSS0g)).mono ?_
  rintro e w7 ⟨rfl, b7⟩
  replace bb := below_next bb b7
  replace W0 := hide ((unhide W0).below b7)
  replace VW0 := hide (block_kept b7 (unhide VW0))
  replace X1 := hide ((unhide X1).below b7)
  replace GG := hide ((unhide GG).below b7)
  replace VGG := hide (block_kept b7 (unhide VGG))
  have z7 := b7.size
  clear b7
  obtain ⟨c_VW00, c_VW01, c_VW02, c_VW03, c_VW04, c_VW05, c_VW06⟩ := cells7 (unhide VW0)
  obtain ⟨c_VGG0, c_VGG1, c_VGG2, c_VGG3, c_VGG4, c_VGG5, c_VGG6⟩ := cells7 (unhide VGG)
  go_wp2_with fail
  clear c_VW00 c_VW01 c_VW02 c_VW03 c_VW04 c_VW05 c_VW06
  clear c_VGG0 c_VGG1 c_VGG2 c_VGG3 c_VGG4 c_VGG5 c_VGG6
  refine (toByteS_any a1 cap1 l1 _ ((unhide L1).below bb) hl1).mono ?_
  rintro e w8 ⟨x8, rfl, o8, b8⟩
  have A8 := hide o8.has
  clear o8
  replace bb := below_next bb b8
  replace W0 := hide ((unhide W0).below b8)
  replace VW0 := hide (block_kept b8 (unhide VW0))
  replace X1 := hide ((unhide X1).below b8)
  replace GG := hide ((unhide GG).below b8)
  replace VGG := hide (block_kept b8 (unhide VGG))
  have z8 := b8.size
  clear b8
  obtain ⟨c_VW00, c_VW01, c_VW02, c_VW03, c_VW04, c_VW05, c_VW06⟩ := cells7 (unhide VW0)
  obtain ⟨c_VGG0, c_VGG1, c_VGG2, c_VGG3, c_VGG4, c_VGG5, c_VGG6⟩ := cells7 (unhide VGG)
  go_wp2_with fail
  clear c_VW00 c_VW01 c_VW02 c_VW03 c_VW04 c_VW05 c_VW06
  clear c_VGG0 c_VGG1 c_VGG2 c_VGG3 c_VGG4 c_VGG5 c_VGG6
  refine (eqByteS_has (unhide X1).has (unhide A8) (by omega)).mono ?_
  rintro e w9 ⟨rfl, m9, hm9⟩
  have b9 : Below w8.heap.size w8 w9 := by rw [hm9]; exact below_draws m9
  clear hm9 A8
  replace bb := below_next bb b9
  replace W0 := hide ((unhide W0).below b9)
  replace VW0 := hide (block_kept b9 (unhide VW0))
  replace X1 := hide ((unhide X1).below b9)
  replace GG := hide ((unhide GG).below b9)
  replace VGG := hide (block_kept b9 (unhide VGG))
  have z9 := b9.size
  clear b9
  obtain ⟨c_VW00, c_VW01, c_VW02, c_VW03, c_VW04, c_VW05, c_VW06⟩ := cells7 (unhide VW0)
  obtain ⟨c_VGG0, c_VGG1, c_VGG2, c_VGG3, c_VGG4, c_VGG5, c_VGG6⟩ := cells7 (unhide VGG)
  go_wp2_with fail
  clear c_VW00 c_VW01 c_VW02 c_VW03 c_VW04 c_VW05 c_VW06
  clear c_VGG0 c_VGG1 c_VGG2 c_VGG3 c_VGG4 c_VGG5 c_VGG6
  refine (markByteS_any 1 (unhide X1).1 (by omega) (by omega) (by omega)).mono ?_
  rintro e w10 ⟨rfl, o10, g10⟩
  obtain ⟨_, u10⟩ := (unhide X1).marks o10 g10
  clear o10 g10 X1
  replace bb := u10.below bb (by omega)
  replace W0 := hide ((unhide W0).outside u10 (by omega))
  replace VW0 := hide (u10.kept (unhide VW0) (by omega))
  replace GG := hide ((unhide GG).outside u10 (by omega))
  replace VGG := hide (u10.kept (unhide VGG) (by omega))
  have z10 := u10.size
  clear u10
  obtain ⟨c_VW00, c_VW01, c_VW02, c_VW03, c_VW04, c_VW05, c_VW06⟩ := cells7 (unhide VW0)
  obtain ⟨c_VGG0, c_VGG1, c_VGG2, c_VGG3, c_VGG4, c_VGG5, c_VGG6⟩ := cells7 (unhide VGG)
  go_wp2_with fail
  clear c_VW00 c_VW01 c_VW02 c_VW03 c_VW04 c_VW05 c_VW06
  clear c_VGG0 c_VGG1 c_VGG2 c_VGG3 c_VGG4 c_VGG5 c_VGG6
  refine (eqRr_has (unhide GG).hasR (unhide W0).hasR (unhide HSS0g)).mono ?_
  rintro e w11 ⟨rfl, b11⟩
  replace bb := below_next bb b11
  replace W0 := hide ((unhide W0).below b11)
  replace VW0 := hide (block_kept b11 (unhide VW0))
  replace GG := hide ((unhide GG).below b11)
  replace VGG := hide (block_kept b11 (unhide VGG))
  have z11 := b11.size
  clear b11
  obtain ⟨c_VW00, c_VW01, c_VW02, c_VW03, c_VW04, c_VW05, c_VW06⟩ := cells7 (unhide VW0)
  obtain ⟨c_VGG0, c_VGG1, c_VGG2, c_VGG3, c_VGG4, c_VGG5, c_VGG6⟩ := cells7 (unhide VGG)
  go_wp2_with fail
  clear c_VW00 c_VW01 c_VW02 c_VW03 c_VW04 c_VW05 c_VW06
  clear c_VGG0 c_VGG1 c_VGG2 c_VGG3 c_VGG4 c_VGG5 c_VGG6
  refine (unhide MKG0 _ _ _ _ _ _ _ (by omega) (unhide GG)).mono ?_
  rintro e w12 ⟨rfl, GM, u12⟩
  clear GG
  replace bb := u12.below bb (by omega)
  replace W0 := hide ((unhide W0).outside u12 (by omega))
  replace VW0 := hide (u12.kept (unhide VW0) (by omega))
  replace VGG := hide (u12.kept (unhide VGG) (by omega))
  have z12 := u12.size
  clear u12
  replace GM := hide GM
  obtain ⟨c_VW00, c_VW01, c_VW02, c_VW03, c_VW04, c_VW05, c_VW06⟩ := cells7 (unhide VW0)
  obtain ⟨c_VGG0, c_VGG1, c_VGG2, c_VGG3, c_VGG4, c_VGG5, c_VGG6⟩ := cells7 (unhide VGG)
  go_wp2_with fail
  clear c_VW00 c_VW01 c_VW02 c_VW03 c_VW04 c_VW05 c_VW06
  clear c_VGG0 c_VGG1 c_VGG2 c_VGG3 c_VGG4 c_VGG5 c_VGG6
  refine (unhide HDG0 _ _ _ _ _ (unhide GM).hasR).mono ?_
  rintro e w13 ⟨rfl, b13⟩
  replace bb := below_next bb b13
  replace W0 := hide ((unhide W0).below b13)
  replace VW0 := hide (block_kept b13 (unhide VW0))
  replace VGG := hide (block_kept b13 (unhide VGG))
  replace GM := hide ((unhide GM).below b13)
  have z13 := b13.size
  clear b13
  obtain ⟨c_VW00, c_VW01, c_VW02, c_VW03, c_VW04, c_VW05, c_VW06⟩ := cells7 (unhide VW0)
  obtain ⟨c_VGG0, c_VGG1, c_VGG2, c_VGG3, c_VGG4, c_VGG5, c_VGG6⟩ := cells7 (unhide VGG)
  go_wp2_with fail
  clear c_VW00 c_VW01 c_VW02 c_VW03 c_VW04 c_VW05 c_VW06
  clear c_VGG0 c_VGG1 c_VGG2 c_VGG3 c_VGG4 c_VGG5 c_VGG6
  refine (toByteS_any a1 cap1 l1 _ ((unhide L1).below bb) hl1).mono ?_
  rintro e w14 ⟨x14, rfl, o14, b14⟩
  have A14 := hide (o14.row8)
  clear o14
  replace bb := below_next bb b14
  replace W0 := hide ((unhide W0).below b14)
  replace VW0 := hide (block_kept b14 (unhide VW0))
  replace VGG := hide (block_kept b14 (unhide VGG))
  replace GM := hide ((unhide GM).below b14)
  have z14 := b14.size
  clear b14
  obtain ⟨c_VW00, c_VW01, c_VW02, c_VW03, c_VW04, c_VW05, c_VW06⟩ := cells7 (unhide VW0)
  obtain ⟨c_VGG0, c_VGG1, c_VGG2, c_VGG3, c_VGG4, c_VGG5, c_VGG6⟩ := cells7 (unhide VGG)
  go_wp2_with fail
  clear c_VW00 c_VW01 c_VW02 c_VW03 c_VW04 c_VW05 c_VW06
  clear c_VGG0 c_VGG1 c_VGG2 c_VGG3 c_VGG4 c_VGG5 c_VGG6
  refine (unhide IM _ _ (unhide A14)).mono ?_
  rintro e w15 ⟨yn15, yt15, yx15, yi15, rfl, o15, b15⟩
  clear A14
  replace bb := below_next bb b15
  replace W0 := hide ((unhide W0).below b15)
  replace VW0 := hide (block_kept b15 (unhide VW0))
  replace VGG := hide (block_kept b15 (unhide VGG))
  replace GM := hide ((unhide GM).below b15)
  have z15 := b15.size
  clear b15
  obtain ⟨yna15, ync15, rfl, _⟩ := o15.hasR.name.form
  obtain ⟨yta15, ytc15, rfl, _⟩ := o15.hasR.to.form
  obtain ⟨yxa15, yxc15, rfl, _⟩ := o15.hasR.text.form
  obtain ⟨yia15, yic15, rfl, _⟩ := o15.hasR.nums.form
  have H0 := hide o15
  clear o15
  have b16 := below_alloc (w := w15) (.cells #[.slice yna15 G0.name.length ync15, .int .i64 G0.type, .int .i64 G0.ttl, .int .i64 G0.addr, .slice yta15 G0.to.length ytc15, .slice yxa15 G0.text.length yxc15, .slice yia15 G0.nums.length yic15] 50)
  have VH0 := hide (heap_alloc_new w15 (.cells #[.slice yna15 G0.name.length ync15, .int .i64 G0.type, .int .i64 G0.ttl, .int .i64 G0.addr, .slice yta15 G0.to.length ytc15, .slice yxa15 G0.text.length yxc15, .slice yia15 G0.nums.length yic15] 50))
  obtain ⟨c_VW00, c_VW01, c_VW02, c_VW03, c_VW04, c_VW05, c_VW06⟩ := cells7 (block_kept b16 (unhide VW0))
  obtain ⟨c_VGG0, c_VGG1, c_VGG2, c_VGG3, c_VGG4, c_VGG5, c_VGG6⟩ := cells7 (block_kept b16 (unhide VGG))
  go_wp2_with fail
  clear c_VW00 c_VW01 c_VW02 c_VW03 c_VW04 c_VW05 c_VW06
  clear c_VGG0 c_VGG1 c_VGG2 c_VGG3 c_VGG4 c_VGG5 c_VGG6
  generalize w15.alloc (.cells #[.slice yna15 G0.name.length ync15, .int .i64 G0.type, .int .i64 G0.ttl, .int .i64 G0.addr, .slice yta15 G0.to.length ytc15, .slice yxa15 G0.text.length yxc15, .slice yia15 G0.nums.length yic15] 50) = w16 at *
  replace bb := below_next bb b16
  replace W0 := hide ((unhide W0).below b16)
  replace VW0 := hide (block_kept b16 (unhide VW0))
  replace VGG := hide (block_kept b16 (unhide VGG))
  replace GM := hide ((unhide GM).below b16)
  replace H0 := hide ((unhide H0).below b16)
  have z16 := b16.size
  clear b16
  have zz16 := block_lt (unhide VH0)
  obtain ⟨c_VW00, c_VW01, c_VW02, c_VW03, c_VW04, c_VW05, c_VW06⟩ := cells7 (unhide VW0)
  obtain ⟨c_VGG0, c_VGG1, c_VGG2, c_VGG3, c_VGG4, c_VGG5, c_VGG6⟩ := cells7 (unhide VGG)
  obtain ⟨c_VH00, c_VH01, c_VH02, c_VH03, c_VH04, c_VH05, c_VH06⟩ := cells7 (unhide VH0)
  go_wp2_with fail
  clear c_VW00 c_VW01 c_VW02 c_VW03 c_VW04 c_VW05 c_VW06
  clear c_VGG0 c_VGG1 c_VGG2 c_VGG3 c_VGG4 c_VGG5 c_VGG6
  clear c_VH00 c_VH01 c_VH02 c_VH03 c_VH04 c_VH05 c_VH06
  refine (eqRr_has (unhide H0).hasR (unhide W0).hasR (unhide HSS0g)).mono ?_
  rintro e w17 ⟨rfl, b17⟩
  replace bb := below_next bb b17
  replace W0 := hide ((unhide W0).below b17)
  replace VW0 := hide (block_kept b17 (unhide VW0))
  replace VGG := hide (block_kept b17 (unhide VGG))
  replace GM := hide ((unhide GM).below b17)
  replace H0 := hide ((unhide H0).below b17)
  replace VH0 := hide (block_kept b17 (unhide VH0))
  have z17 := b17.size
  clear b17
  obtain ⟨c_VW00, c_VW01, c_VW02, c_VW03, c_VW04, c_VW05, c_VW06⟩ := cells7 (unhide VW0)
  obtain ⟨c_VGG0, c_VGG1, c_VGG2, c_VGG3, c_VGG4, c_VGG5, c_VGG6⟩ := cells7 (unhide VGG)
  obtain ⟨c_VH00, c_VH01, c_VH02, c_VH03, c_VH04, c_VH05, c_VH06⟩ := cells7 (unhide VH0)
  go_wp2_with fail
  clear c_VW00 c_VW01 c_VW02 c_VW03 c_VW04 c_VW05 c_VW06
  clear c_VGG0 c_VGG1 c_VGG2 c_VGG3 c_VGG4 c_VGG5 c_VGG6
  clear c_VH00 c_VH01 c_VH02 c_VH03 c_VH04 c_VH05 c_VH06
  refine (unhide HDG0 _ _ _ _ _ (unhide GM).hasR).mono ?_
  rintro e w18 ⟨rfl, b18⟩
  replace bb := below_next bb b18
  replace W0 := hide ((unhide W0).below b18)
  replace VW0 := hide (block_kept b18 (unhide VW0))
  replace VGG := hide (block_kept b18 (unhide VGG))
  replace GM := hide ((unhide GM).below b18)
  replace H0 := hide ((unhide H0).below b18)
  replace VH0 := hide (block_kept b18 (unhide VH0))
  have z18 := b18.size
  clear b18
  go_wp2_with fail
  go_ret
  exact ⟨rfl, bb⟩
end Go.Proofs.Ytnloenkjfjlmeaa
