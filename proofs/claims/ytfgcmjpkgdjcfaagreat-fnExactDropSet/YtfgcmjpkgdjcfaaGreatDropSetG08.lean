/-
  Contract of a helper of the laws for rows of records that are answers (heldRrS). Contracts of the helpers of the laws for zones that are answers (markZone, heldZone). Contracts of helpers of the laws: zones that are made of what came in, and own their memory (toRrS, toZone); their marks (markZone). Plain facts: what holds cells holds them still. No program is named here.
-/
import Derived.Test.YtfgcmjpkgdjcfaaGreatDropSetG06
import Derived.Test.YtfgcmjpkgdjcfaaGreatDropSetG07
import Derived.Test.YtfgcmjpkgdjcfaaGreatDropSetG05
import Derived.Test.YtfgcmjpkgdjcfaaGreatDropSetG04
import Derived.Test.YtfgcmjpkgdjcfaaGreatDropSetG03
import Derived.RangeFuncNested
namespace Go.Proofs.YtfgcmjpkgdjcfaaGreat
open Go.RowKit
set_option linter.unusedVariables false

theorem wrap_intH (x : Int) (h0 : 0 ≤ x) (h1 : x < 9223372036854775808) : IntKind.i64.wrap x = x := by
 have := wrap_small x.toNat (by omega)
 rwa [Int.toNat_of_nonneg h0] at this
set_option maxHeartbeats 4000000 in
set_option maxRecDepth 100000 in
theorem heldRrS_has {rs : List Rec} (hs : ∀ i, i < rs.length → SizeR 1048576 (rs.getD i recZ)) (hl : rs.length ≤ 1048576) (k0 : Int) (hk0 : 0 ≤ k0) (hk1 : k0 ≤ 4620000000000000000) {v : Value} {w : World}
  (h : HasRs w v (markRs rs k0 rs.length)) :
  Calls Tryz.prog 43 #[v, .int .i64 k0] w fun e w' => e = .returned (.int .i64 (posRs rs k0 rs.length)) ∧ w = w' := by
 obtain ⟨a, cap, rfl, _⟩ := h.form
 rw [markRs_length] at *
 have HP := hide (fun i (hi : i ≤ rs.length) => (show k0 ≤ posRs rs k0 i ∧ posRs rs k0 i ≤ 6930000000000000000 from by
  have q := posRs_bound hs k0 i hi
  have : i * 2199025352707 ≤ 1048576 * 2199025352707 := Nat.mul_le_mul_right _ (by omega)
  omega))
 have HS := hide hs
 have HPS := hide (fun i => (show posRs rs k0 (i + 1) = posQ (rs.getD i recZ) (posRs rs k0 i) from rfl))
 have HMG := hide (fun j (hj : j < rs.length) => (show (markRs rs k0 rs.length).getD j recZ = markQ (rs.getD j recZ) (posRs rs k0 j) by rw [markRs_getD rs k0 rs.length j hj, if_pos hj]))
 have HML := hide (markRs_length rs k0 rs.length)
 have H0 := hide h
 have HZ := hide (show posRs rs k0 0 = k0 from rfl)
 clear h hs
 generalize markRs rs k0 rs.length = M at *
 generalize posRs rs k0 = P at *
 generalize hn : rs.length = m at *
 have HN := hide hn
 clear hn
 go_enter Tryz.func43, Tryz.ntmps43
 go_wp2
 go_loopw [1, 5] (fun kk i wr => ∃ k : Nat, k ≤ m ∧ i = .int .i64 k ∧ kk = .int .i64 (P k) ∧ wr = w) (fun _ i _ => m - (intOf i).toNat)
 case atStart => exact ⟨0, Nat.zero_le _, rfl, by rw [unhide HZ], rfl⟩
 case round =>
  obtain ⟨k, hk, rfl, rfl, rfl⟩ := hrel
  by_cases hlt : k < m
  ·have hmk := unhide HMG k hlt
   obtain ⟨b, off, na, nc, ta, tc, xa, xc, ia, ic, rfl, hbl, hc, hR⟩ := (unhide H0).here (k := k) (by rw [unhide HML]; exact hlt)
   have hps := unhide HPS k
   have hpk := unhide HP k (by omega)
   have hsk := unhide HS k hlt
   rw [hmk] at hc hR
   generalize rs.getD k recZ = r at *
   have hpb := posQ_bound hsk (P k)
   have q1 : (markQ r (P k)).name.length = r.name.length := markL_length _ _
   have q2 : (markQ r (P k)).to.length = r.to.length := markL_length _ _
   have q3 : (markQ r (P k)).text.length = r.text.length := marks_length _ _
   have q4 : (markQ r (P k)).nums.length = r.nums.length := marks_lengthI _ _
   rw [q1, q2, q3, q4] at hc hR
   have c0 := (range7 hc).1
   have c1 : wr.cell? ⟨b, off + k * 7 + 1, none⟩ = some (.int .i64 (posN r (P k))) := (range7 hc).2.1
   have c2 : wr.cell? ⟨b, off + k * 7 + 2, none⟩ = some (.int .i64 (posN r (P k) + 1)) := (range7 hc).2.2.1
   have c3 : wr.cell? ⟨b, off + k * 7 + 3, none⟩ = some (.int .i64 (posN r (P k) + 2)) := (range7 hc).2.2.2.1
   have c4 := (range7 hc).2.2.2.2.1
   have c5 := (range7 hc).2.2.2.2.2.1
   have c6 := (range7 hc).2.2.2.2.2.2
   have R1 : HasL wr (.slice na r.name.length nc) (markL r.name (P k)) := hR.name
   have R2 : HasL wr (.slice ta r.to.length tc) (markL r.to (posN r (P k) + 3)) := hR.to
   have R3 : Has wr (.slice xa r.text.length xc) (marks (posT r (P k)) r.text.length) := hR.text
   have R4 : HasI wr (.slice ia r.nums.length ic) (marksI (posT r (P k) + r.text.length) r.nums.length) := hR.nums
   have M1 := hide (heldByteSS_has (P k) R1 hsk.name hsk.names (by omega) (by omega))
   have M2 := hide (heldByteSS_has (posN r (P k) + 3) R2 hsk.to hsk.tos (by omega) (by omega))
   have hXl := hsk.text
   have hIl := hsk.nums
   have M3 := hide (heldByteS_marks xa xc r.text.length (posT r (P k)) wr (has_lies R3 (by rw [marks_length])) (by omega) (by omega) (by omega))
   have M4 := hide (heldIntS_marks ia ic r.nums.length (posT r (P k) + r.text.length) wr (hasI_lies R4 (by rw [marks_lengthI])) (by omega) (by omega) (by omega))
   have eP1 : pos r.name (P k) r.name.length = posN r (P k) := rfl
   have eP2 : pos r.to (posN r (P k) + 3) r.to.length = posT r (P k) := rfl
   rw [eP1] at M1
   rw [eP2] at M2
   have hpq : posQ r (P k) = posT r (P k) + r.text.length + r.nums.length := rfl
   rw [hpq] at hps hpb
   have HPSK := hide hps
   clear hps hpq eP1 eP2 R1 R2 R3 R4 hR hc q1 q2 q3 q4 hmk hsk
   generalize posT r (P k) = P2 at *
   generalize posN r (P k) = P1 at *
   have hw1 := wrap_intH (P1 + 1) (by omega) (by omega)
   have hw2 : IntKind.i64.wrap (P1 + 1 + 1) = P1 + 2 := by rw [show P1 + 1 + 1 = P1 + 2 by omega]; exact wrap_intH _ (by omega) (by omega)
   have hw3 : IntKind.i64.wrap (P1 + 2 + 1) = P1 + 3 := by rw [show P1 + 2 + 1 = P1 + 3 by omega]; exact wrap_intH _ (by omega) (by omega)
   have n1 : ¬ P1 < 0 := by omega
   have n2 : ¬ P2 < 0 := by omega
   have n3 : ¬ P2 + (r.text.length : Int) < 0 := by omega
   have n4 : ¬ P2 + (r.text.length : Int) + (r.nums.length : Int) < 0 := by omega
   go_wp2_with fail
   refine (unhide M1).mono ?_
   rintro e w1 ⟨rfl, rfl⟩
   go_wp2_with fail
   refine (unhide M2).mono ?_
   rintro e w2 ⟨rfl, rfl⟩
   go_wp2_with fail
   refine (unhide M3).mono ?_
   rintro e w3 ⟨rfl, rfl⟩
   go_wp2_with fail
   refine (unhide M4).mono ?_
   rintro e w4 ⟨rfl, rfl⟩
   have hps := unhide HPSK
   go_wp2_with fail
   exact ⟨⟨k + 1, by omega, by go_num, by rw [hps], by first | rfl | trivial⟩, by simp [intOf]; omega⟩
  ·obtain rfl : k = m := by omega
   go_wp2
   go_ret
   exact ⟨rfl, rfl⟩
end Go.Proofs.YtfgcmjpkgdjcfaaGreat

namespace Go.Proofs.YtfgcmjpkgdjcfaaGreat
open Go.RowKit
set_option linter.unusedVariables false

set_option maxHeartbeats 2000000 in
set_option maxRecDepth 100000 in
theorem markZone_own {o : List (List Int)} {rs : List Rec} (hs : SizeZ 1048576 o rs) (k0 : Int) (hk0 : 0 ≤ k0) (hk1 : k0 ≤ 4610000000000000000) {B s E : Nat} {vo vr : Value} {w : World} (hB : B ≤ s) (hsE : s ≤ E) (hEw : E ≤ w.heap.size)
  (h1 : OwnN B s 56 5 w vo o) (h2 : RowO s E 59 56 5 3 w vr rs) :
  Calls Tryz.prog 13 #[.agg #[vo, vr], .int .i64 k0] w fun e w' => e = .returned (.int .i64 (posRs rs (pos o k0 o.length) rs.length)) ∧ OwnN B s 56 5 w' vo (markL o k0) ∧ RowO s E 59 56 5 3 w' vr (markRs rs (pos o k0 o.length) rs.length) ∧ Outside B E w w' := by
 have p1 := pos_bound' o k0 hs.name hs.names
 obtain ⟨oa, oc, rfl, _⟩ := h1.hasL.form
 obtain ⟨ra, rc, rfl, _⟩ := h2.form
 have b0 := below_alloc (w := w) (.cells #[.slice oa o.length oc, .slice ra rs.length rc] 33)
 have K0 := hide (heap_alloc_new w (.cells #[.slice oa o.length oc, .slice ra rs.length rc] 33))
 have M1 := hide (markName_any k0 (h1.below b0) hs.name hs.names hk0 (by omega))
 have R0 := hide (h2.below b0)
 have HR := hide (fun (w : World) (hh : RowO s E 59 56 5 3 w (.slice ra rs.length rc) rs) (hE : E ≤ w.heap.size) => markRrS_own hs.recs hs.count (pos o k0 o.length) (by omega) (by omega) hE hh)
 have u0 : Outside B E w (w.alloc (.cells #[.slice oa o.length oc, .slice ra rs.length rc] 33)) := Below.outside b0
 have z0 := b0.size
 clear h1 h2 b0 hs
 generalize hMR : markRs rs (pos o k0 o.length) rs.length = MR at *
 generalize hPR : posRs rs (pos o k0 o.length) rs.length = PR at *
 generalize hMO : markL o k0 = MO at *
 clear hMR hPR hMO
 generalize pos o k0 o.length = P1 at *
 go_enter Tryz.func13, Tryz.ntmps13
 obtain ⟨c0, c1⟩ := cells2 (unhide K0)
 go_wp2_with fail
 clear c0 c1
 generalize w.alloc (.cells #[.slice oa o.length oc, .slice ra rs.length rc] 33) = W at *
 refine (unhide M1).mono ?_
 rintro e w1 ⟨rfl, n1, u1⟩
 have zw := block_lt (unhide K0)
 have z1 := u1.size
 have N1 := hide n1
 have R1 := hide ((unhide R0).outside u1 (by omega))
 have K1 := hide (u1.kept (unhide K0) (by omega))
 have U1 := u0.trans (u1.wide (B' := B) (E' := E) (by omega) (by omega))
 have HR1 := hide (unhide HR _ (unhide R1) (by omega))
 obtain ⟨c0, c1⟩ := cells2 (unhide K1)
 clear n1 u1 u0 K0 R0 M1 HR
 go_wp2_with fail
 clear c0 c1
 refine (unhide HR1).mono ?_
 rintro e w2 ⟨rfl, r2, u2⟩
 have N2 := hide ((unhide N1).outside u2 (by omega))
 have R2 := hide r2
 have U2 := U1.trans (u2.wide (B' := B) (E' := E) (by omega) (by omega))
 clear r2 u2 HR1 N1
 go_wp2_with fail
 go_ret
 exact ⟨rfl, unhide N2, unhide R2, U2⟩

set_option maxHeartbeats 2000000 in
set_option maxRecDepth 100000 in
theorem heldZone_has {o : List (List Int)} {rs : List Rec} (hs : SizeZ 1048576 o rs) (k0 : Int) (hk0 : 0 ≤ k0) (hk1 : k0 ≤ 4610000000000000000) {vo vr : Value} {w : World}
  (h1 : HasL w vo (markL o k0)) (h2 : HasRs w vr (markRs rs (pos o k0 o.length) rs.length)) :
  Calls Tryz.prog 15 #[.agg #[vo, vr], .int .i64 k0] w fun e w' => e = .returned (.int .i64 (posRs rs (pos o k0 o.length) rs.length)) ∧ Below w.heap.size w w' := by
 have p1 := pos_bound' o k0 hs.name hs.names
 have p2 := posRs_bound hs.recs (pos o k0 o.length) rs.length (Nat.le_refl _)
 have hz : ((rs.length : Int)) * 2199025352707 ≤ 1048576 * 2199025352707 := by have := hs.count; omega
 obtain ⟨oa, oc, rfl, _⟩ := h1.form
 obtain ⟨ra, rc, rfl, _⟩ := h2.form
 rw [markL_length, markRs_length] at *
 have b0 := below_alloc (w := w) (.cells #[.slice oa o.length oc, .slice ra rs.length rc] 33)
 have K0 := hide (heap_alloc_new w (.cells #[.slice oa o.length oc, .slice ra rs.length rc] 33))
 have M1 := hide (heldName_has k0 (h1.below b0) hs.name hs.names hk0 (by omega))
 have R0 := hide (h2.below b0)
 have HR := hide (fun (w : World) (hh : HasRs w (.slice ra rs.length rc) (markRs rs (pos o k0 o.length) rs.length)) => heldRrS_has hs.recs hs.count (pos o k0 o.length) (by omega) (by omega) hh)
 have n1 : ¬ pos o k0 o.length < 0 := by omega
 have n2 : ¬ posRs rs (pos o k0 o.length) rs.length < 0 := by omega
 clear h1 h2 hs p1 p2 hz
 generalize markRs rs (pos o k0 o.length) rs.length = MR at *
 generalize posRs rs (pos o k0 o.length) rs.length = PR at *
 generalize pos o k0 o.length = P1 at *
 go_enter Tryz.func15, Tryz.ntmps15
 obtain ⟨c0, c1⟩ := cells2 (unhide K0)
 go_wp2_with fail
 clear c0 c1
 generalize w.alloc (.cells #[.slice oa o.length oc, .slice ra rs.length rc] 33) = W at *
 refine (unhide M1).mono ?_
 rintro e w1 ⟨rfl, b1⟩
 have bb := below_next b0 b1
 have R1 := hide ((unhide R0).below b1)
 have K1 := hide (block_kept b1 (unhide K0))
 obtain ⟨c0, c1⟩ := cells2 (unhide K1)
 clear b0 b1 R0 M1 K0
 go_wp2_with fail
 refine (unhide HR _ (unhide R1)).mono ?_
 rintro e w2 ⟨rfl, rfl⟩
 go_wp2_with fail
 go_ret
 exact ⟨rfl, bb⟩
end Go.Proofs.YtfgcmjpkgdjcfaaGreat

namespace Go.Proofs.YtfgcmjpkgdjcfaaGreat
open Go.RowKit
set_option linter.unusedVariables false

set_option maxHeartbeats 1000000 in
set_option maxRecDepth 100000 in
theorem toRrS_own (a : Option Addr) (cap : Nat) (rs : List Rec) (w : World) (h : LiesRs w a rs) (hl : rs.length ≤ 1048576) (hl2 : ∀ i, i < rs.length → SizeR 1048576 (rs.getD i recZ)) :
  Calls Tryz.prog 28 #[.slice a rs.length cap] w fun e w' => ∃ v, e = .returned v ∧ RowO w.heap.size w'.heap.size 59 56 5 3 w' v rs ∧ Below w.heap.size w w' := by
 have hmk := run_make7 (P := Tryz.prog) 31 59 _ 120 Tryz.underlying31 info_rr .i64 .i64 rs.length (by omega) (by omega)
 generalize hn : rs.length = m at *
 have HN := hide hn
 clear hn
 have HL := hide hl2
 clear hl2
 have F0 := hide (fillO_none w m #[.slice none 0 0, .int .i64 0, .int .i64 0, .int .i64 0, .slice none 0 0, .slice none 0 0, .slice none 0 0] 59 56 5 3 rs)
 have B0 := hide (below_alloc (w := w) (.cells (madeCells #[.slice none 0 0, .int .i64 0, .int .i64 0, .int .i64 0, .slice none 0 0, .slice none 0 0, .slice none 0 0] (m * 7)) 59))
 go_enter Tryz.func28, Tryz.ntmps28
 go_wp2
 go_loopw [4] (fun i wr => ∃ (k : Nat), k ≤ m ∧ i = .int .i64 k ∧ FillO w.heap.size m k 59 56 5 3 wr rs ∧ Below w.heap.size w wr) (fun i _ => m - (intOf i).toNat)
 case atStart => exact ⟨0, Nat.zero_le _, rfl, unhide F0, unhide B0⟩
 case round =>
  clear F0 B0
  obtain ⟨k, hk, rfl, hf, hb⟩ := hrel
  by_cases hlt : k < m
  ·obtain ⟨b, off, an, cn, ato, ct, ax, cx, ai, ci, rfl, hbl, hc, hIn⟩ := (h.below hb).here (k := k) (by rw [unhide HN]; exact hlt)
   have HF := hide hf
   have HI := hide hIn
   have HLK := hide (unhide HL k hlt)
   obtain ⟨c0, c1, c2, c3, c4, c5, c6⟩ := range7 hc
   have zf := hf.lt
   generalize hrk : rs.getD k recZ = rk at *
   have HRK := hide hrk
   clear hf hIn hc hrk
   go_wp2_with fail
   refine (toRr_any an cn ato ct ax cx ai ci rk _ (unhide HI) (unhide HLK)).mono ?_
   rintro e w1 ⟨vn, vt, vx, vi, rfl, o1, b1⟩
   clear c0 c1 c2 c3 c4 c5 c6
   have hb1 := below_next hb b1
   have ht := ((unhide HF).below b1).here hlt
   have hst := (unhide HF).step b1 hlt (vn := vn) (vt := vt) (vx := vx) (vi := vi) (by rw [unhide HRK]; exact o1)
   rw [unhide HRK] at hst
   have HST := hide hst
   have hbs := (outside_sets w.heap.size (cellsR vn vt vx vi rk) (k * 7) w1).below hb1 (Nat.le_refl _)
   have HBS := hide hbs
   have HT := hide ht
   obtain ⟨na, nc, rfl, _⟩ := o1.hasR.name.form
   obtain ⟨ta, tc, rfl, _⟩ := o1.hasR.to.form
   obtain ⟨xa, xc, rfl, _⟩ := o1.hasR.text.form
   obtain ⟨ia, ic, rfl, _⟩ := o1.hasR.nums.form
   clear hb1 hst hbs ht o1 b1 hb
   obtain ⟨y0, y1, y2, y3, y4, y5, y6, ⟨d0, d1, d2, d3, d4, d5, d6⟩, f0, f1, f2, f3, f4, f5, f6⟩ := there_cells (unhide HT)
   clear HT
   go_wp2
   exact ⟨⟨k + 1, by omega, by go_num, unhide HST, unhide HBS⟩, by simp [intOf]; omega⟩
  ·obtain rfl : k = m := by omega
   go_wp2
   go_ret
   have hN := unhide HN
   subst hN
   exact ⟨_, rfl, hf.row rfl (by unfold maxLen; omega), hb⟩

set_option maxHeartbeats 1000000 in
set_option maxRecDepth 100000 in
theorem toZone_own (ao : Option Addr) (co : Nat) (ar : Option Addr) (cr : Nat) (o : List (List Int)) (rs : List Rec) (w : World) (h : InZ w ao ar o rs) (hs : SizeZ 1048576 o rs) :
  Calls Tryz.prog 8 #[.agg #[.slice ao o.length co, .slice ar rs.length cr]] w fun e w' => ∃ vo vr, e = .returned (.agg #[vo, vr]) ∧ OwnZ w.heap.size w'.heap.size w' vo vr o rs ∧ Below w.heap.size w w' := by
 obtain ⟨hsz, r0, v0⟩ := box3 w (.cells #[.slice ao o.length co, .slice ar rs.length cr] 27) #[.slice none 0 0, .slice none 0 0] #[.slice none 0 0, .slice none 0 0] 33 33
 have b0 : Below w.heap.size w (((w.alloc (.cells #[.slice ao o.length co, .slice ar rs.length cr] 27)).alloc (.cells #[.slice none 0 0, .slice none 0 0] 33)).alloc (.cells #[.slice none 0 0, .slice none 0 0] 33)) := ((below_alloc _).alloc (below_alloc _).size _).alloc ((below_alloc _).alloc (below_alloc _).size _).size _
 have k0 : (((w.alloc (.cells #[.slice ao o.length co, .slice ar rs.length cr] 27)).alloc (.cells #[.slice none 0 0, .slice none 0 0] 33)).alloc (.cells #[.slice none 0 0, .slice none 0 0] 33)).heap[w.heap.size]? = some (.cells #[.slice ao o.length co, .slice ar rs.length cr] 27) := block_kept (below_alloc _) (block_kept (below_alloc _) (heap_alloc_new w _))
 have I0 := hide (h.below b0)
 have HS := hide hs
 have K0 := hide k0
 have R0 := hide r0
 have V0 := hide v0
 have HI := hide h
 have zv := block_lt v0
 clear h hs k0 r0 v0 hsz
 go_enter Tryz.func8, Tryz.ntmps8
 go_wp2_with fail
 generalize (((w.alloc (.cells #[.slice ao o.length co, .slice ar rs.length cr] 27)).alloc (.cells #[.slice none 0 0, .slice none 0 0] 33)).alloc (.cells #[.slice none 0 0, .slice none 0 0] 33)) = W at *
 refine (toName_any ao co o _ (unhide I0).name (unhide HS).name (unhide HS).names).mono ?_
 rintro e w1 ⟨v1, rfl, o1, b1⟩
 obtain ⟨n1, m1, rfl, _⟩ := o1.hasL.form
 have bb1 := below_next b0 b1
 have K1 := hide (block_kept b1 (unhide K0))
 have R1 := hide (block_kept b1 (unhide R0))
 have V1 := block_kept b1 (unhide V0)
 have O1 := hide o1.here
 have z1 := b1.size
 obtain ⟨d0, d1⟩ := cells2 (unhide K1)
 obtain ⟨f0, f1⟩ := cells2 V1
 obtain ⟨g0, g1⟩ := frozen2 V1
 clear b0 K0 R0 V0 b1 o1 I0
 go_wp2_with fail
 clear d0 d1 f0 f1 g0 g1
 have u2 := outside_set w1 (w.heap.size + 1 + 1) 0 (.slice n1 o.length m1)
 have V2 : (w1.setCell ⟨w.heap.size + 1 + 1, 0, none⟩ (.slice n1 o.length m1)).heap[w.heap.size + 1 + 1]? = some (.cells #[.slice n1 o.length m1, .slice none 0 0] 33) := block_setAt V1 0 _
 generalize (w1.setCell ⟨w.heap.size + 1 + 1, 0, none⟩ (.slice n1 o.length m1)) = w2 at *
 have bb2 := u2.below bb1 (by omega)
 have R2 := hide (u2.kept (unhide R1) (by omega))
 have O2 := hide ((unhide O1).outside u2 (by omega))
 have z2 := u2.size
 clear bb1 K1 R1 O1 u2 V1
 refine (toRrS_own ar cr rs _ ((unhide HI).below bb2).recs (unhide HS).count (unhide HS).recs).mono ?_
 rintro e w3 ⟨v3, rfl, o3, b3⟩
 obtain ⟨n2, m2, rfl, _⟩ := o3.form
 have bb3 := below_next bb2 b3
 have R3 := block_kept b3 (unhide R2)
 have V3 := block_kept b3 V2
 have O3 := hide ((unhide O2).below b3)
 have T3 := hide o3
 have z3 := b3.size
 obtain ⟨f0, f1⟩ := cells2 V3
 obtain ⟨g0, g1⟩ := frozen2 V3
 obtain ⟨p0, p1⟩ := cells2 R3
 obtain ⟨q0, q1⟩ := frozen2 R3
 clear bb2 R2 V2 b3 o3 O2
 go_wp2_with fail
 clear f0 f1 g0 g1 p0 p1 q0 q1
 have u4 := (outside_set w3 (w.heap.size + 1 + 1) 1 (.slice n2 rs.length m2)).wide (B' := w.heap.size + 1) (E' := w.heap.size + 3) (by omega) (by omega)
 have R4 := block_other R3 (b' := w.heap.size + 1 + 1) (by omega) 1 (.slice n2 rs.length m2)
 generalize w3.setCell ⟨w.heap.size + 1 + 1, 1, none⟩ (.slice n2 rs.length m2) = w4 at *
 have R5 : ((w4.setCell ⟨w.heap.size + 1, 0, none⟩ (.slice n1 o.length m1)).setCell ⟨w.heap.size + 1, 1, none⟩ (.slice n2 rs.length m2)).heap[w.heap.size + 1]? = some (.cells #[.slice n1 o.length m1, .slice n2 rs.length m2] 33) := block_setAt (block_setAt R4 0 _) 1 _
 have u5 := ((outside_set w4 (w.heap.size + 1) 0 (.slice n1 o.length m1)).trans (outside_set _ (w.heap.size + 1) 1 (.slice n2 rs.length m2))).wide (B' := w.heap.size + 1) (E' := w.heap.size + 3) (by omega) (by omega)
 refine bodyPost_ret (results_cell_row rfl _ _ (w.heap.size + 1) 33 #[.slice n1 o.length m1, .slice n2 rs.length m2] (0, 0) _ rfl R5 Tryz.underlying33 rfl (by kernel_rfl)) rfl ?_
 have u6 := u4.trans u5
 have z6 := u6.size
 exact ⟨_, _, rfl, ⟨w2.heap.size, by omega, by omega, ((unhide O3).outside u6 (by omega)).wide (by omega) (by omega), ((unhide T3).outside u6 (by omega)).wide (Nat.le_refl _) (by omega)⟩, u6.below bb3 (by omega)⟩
theorem markZone_z {o : List (List Int)} {rs : List Rec} (hs : SizeZ 1048576 o rs) (k0 : Int) (hk0 : 0 ≤ k0) (hk1 : k0 ≤ 4610000000000000000) {B E : Nat} {vo vr : Value} {w : World} (hEw : E ≤ w.heap.size) (h : OwnZ B E w vo vr o rs) :
  Calls Tryz.prog 13 #[.agg #[vo, vr], .int .i64 k0] w fun e w' => e = .returned (.int .i64 (posRs rs (pos o k0 o.length) rs.length)) ∧ Outside B E w w' := by
 obtain ⟨s, h1, h2, h3, h4⟩ := h
 exact (markZone_own hs k0 hk0 hk1 h1 h2 hEw h3 h4).mono fun e w' ⟨q1, _, _, q2⟩ => ⟨q1, q2⟩
end Go.Proofs.YtfgcmjpkgdjcfaaGreat

namespace Go.Proofs.YtfgcmjpkgdjcfaaGreat
open Go.RowKit
set_option linter.unusedVariables false

/-- What holds cells holds them. -/
def KeptC (W W' : World) : Prop := ∀ (g : Nat) (c : Array Value) (t : TypeId), W.heap[g]? = some (.cells c t) → W'.heap[g]? = some (.cells c t)
theorem keptC_of {W W' : World} {row : Option Nat} (hg : W.grownBy W' row) (hr : ∀ r, row = some r → ∃ o : Obj, W.heap[r]? = some o ∧ o.isCells = false) : KeptC W W' := by
 intro g c t h
 have hlt : g < W.heap.size := (Array.getElem?_eq_some_iff.1 h).1
 refine (hg.block g hlt ?_).trans h
 intro e
 obtain ⟨o, h1, h2⟩ := hr g e.symm
 rw [h] at h1
 cases h1
 cases h2
end Go.Proofs.YtfgcmjpkgdjcfaaGreat
