/-
  Contract of the specification's HouseNew. The walk of laws.FnExactHouseNew.
-/
import Derived.Test.YtfgcmjpkgdjcfaaGreatHouseNewG34
import Derived.Test.YtfgcmjpkgdjcfaaGreatHouseNewG39
import Derived.Test.YtfgcmjpkgdjcfaaGreatHouseNewG28
import Derived.Test.YtfgcmjpkgdjcfaaGreatHouseNewG31
import Derived.Test.YtfgcmjpkgdjcfaaGreatHouseNewG32
namespace Go.Proofs.YtfgcmjpkgdjcfaaGreat
open Go.RowKit
set_option linter.unusedVariables false
set_option linter.unusedSimpArgs false

set_option maxHeartbeats 400000 in
set_option maxRecDepth 100000 in
theorem l8home_any (w : World) : Calls Tryz.prog 45 #[] w fun e w' => ∃ v', e = .returned (.agg #[v']) ∧ OwnL w.heap.size 56 5 w' v' (nameRead (numsOf homeT)).1 ∧ Below w.heap.size w w' := by
  have b0 := below_alloc (w := w) (.cells #[.slice none 0 0] 30)
  have K0 := hide (heap_alloc_new w (.cells #[.slice none 0 0] 30))
  have HO := hide (l2of_any ⟨#[104, 111, 109, 101, 46]⟩ (w.alloc (.cells #[.slice none 0 0] 30)) (by decide))
  have zz := block_lt (unhide K0)
  obtain ⟨R, HR⟩ : ∃ R, Hid ((nameRead (numsOf ⟨#[104, 111, 109, 101, 46]⟩)).1 = R) := ⟨_, hide rfl⟩
  have HRR := hide (show (nameRead (numsOf homeT)).1 = R from unhide HR)
  rw [unhide HR] at HO
  rw [unhide HRR]
  go_enter Tryz.func45, Tryz.ntmps45
  go_wp2_with fail
  generalize w.alloc (.cells #[.slice none 0 0] 30) = W at *
  refine (unhide HO).mono ?_
  rintro e w1 ⟨v1, rfl, o1, b1⟩
  obtain ⟨oa, oc, rfl, _⟩ := o1.hasL.form
  have k1 := block_kept b1 (unhide K0)
  have c1 := block_one k1
  have f1 := block_frozen k1 0
  have K1 := hide (block_set k1 (.slice oa R.length oc))
  have O1 := hide o1
  have z1 := b1.size
  have bb1 := below_next b0 b1
  clear HO o1 b1 k1 b0 HR
  go_wp2_with fail
  refine bodyPost_ret (results_cell_row rfl _ _ w.heap.size 30 #[.slice oa R.length oc] (0, 0) _ rfl (unhide K1) Tryz.underlying30 rfl (by kernel_rfl)) rfl ?_
  exact ⟨_, rfl, ((unhide O1).kept (grown_setCell _ _ _) (by show w.heap.size < _; omega)).mono (by omega), bb1.setCell (Nat.le_refl _) _⟩
set_option maxHeartbeats 400000 in
set_option maxRecDepth 100000 in
theorem l8rev_any (w : World) : Calls Tryz.prog 46 #[] w fun e w' => ∃ v', e = .returned (.agg #[v']) ∧ OwnL w.heap.size 56 5 w' v' (nameRead (numsOf backT)).1 ∧ Below w.heap.size w w' := by
  have b0 := below_alloc (w := w) (.cells #[.slice none 0 0] 30)
  have K0 := hide (heap_alloc_new w (.cells #[.slice none 0 0] 30))
  have HO := hide (l2of_any ⟨#[48, 46, 48, 46, 49, 48, 46, 105, 110, 45, 97, 100, 100, 114, 46, 97, 114, 112, 97, 46]⟩ (w.alloc (.cells #[.slice none 0 0] 30)) (by decide))
  have zz := block_lt (unhide K0)
  obtain ⟨R, HR⟩ : ∃ R, Hid ((nameRead (numsOf ⟨#[48, 46, 48, 46, 49, 48, 46, 105, 110, 45, 97, 100, 100, 114, 46, 97, 114, 112, 97, 46]⟩)).1 = R) := ⟨_, hide rfl⟩
  have HRR := hide (show (nameRead (numsOf backT)).1 = R from unhide HR)
  rw [unhide HR] at HO
  rw [unhide HRR]
  go_enter Tryz.func46, Tryz.ntmps46
  go_wp2_with fail
  generalize w.alloc (.cells #[.slice none 0 0] 30) = W at *
  refine (unhide HO).mono ?_
  rintro e w1 ⟨v1, rfl, o1, b1⟩
  obtain ⟨oa, oc, rfl, _⟩ := o1.hasL.form
  have k1 := block_kept b1 (unhide K0)
  have c1 := block_one k1
  have f1 := block_frozen k1 0
  have K1 := hide (block_set k1 (.slice oa R.length oc))
  have O1 := hide o1
  have z1 := b1.size
  have bb1 := below_next b0 b1
  clear HO o1 b1 k1 b0 HR
  go_wp2_with fail
  refine bodyPost_ret (results_cell_row rfl _ _ w.heap.size 30 #[.slice oa R.length oc] (0, 0) _ rfl (unhide K1) Tryz.underlying30 rfl (by kernel_rfl)) rfl ?_
  exact ⟨_, rfl, ((unhide O1).kept (grown_setCell _ _ _) (by show w.heap.size < _; omega)).mono (by omega), bb1.setCell (Nat.le_refl _) _⟩
set_option maxHeartbeats 1000000 in
set_option maxRecDepth 100000 in
theorem specHouseNew_has (s : Int) (w : World) :
    Calls Tryz.prog 16 #[.int .i64 s] w fun e w' => ∃ uo ur up uq, e = .returned (.tuple #[.agg #[.int .i64 0, uo, ur, up, uq, .slice none 0 0], .bool (newOk s)]) ∧ HasZ w' uo ur (newO s) (newR s) ∧ HasZ w' up uq (newP s) (newQ s) ∧ Below w.heap.size w w' := by
  have b0 := below_alloc (w := w) (.cells #[.int .i64 0, .slice none 0 0, .slice none 0 0, .slice none 0 0, .slice none 0 0, .slice none 0 0] 45)
  have K0 := hide (heap_alloc_new w (.cells #[.int .i64 0, .slice none 0 0, .slice none 0 0, .slice none 0 0, .slice none 0 0, .slice none 0 0] 45))
  have HN1 := hide (show homeN.length ≤ 1048576 by decide +kernel)
  have HN2 := hide (show backN.length ≤ 1048576 by decide +kernel)
  have Z1 := hide (show (nameRead (numsOf ⟨#[104, 111, 109, 101, 46]⟩)).1 = homeN from rfl)
  have Z2 := hide (show (nameRead (numsOf ⟨#[48, 46, 48, 46, 49, 48, 46, 105, 110, 45, 97, 100, 100, 114, 46, 97, 114, 112, 97, 46]⟩)).1 = backN from rfl)
  obtain ⟨hn, HHN⟩ : ∃ hn, Hid (homeN = hn) := ⟨_, hide rfl⟩
  obtain ⟨bn, HBN⟩ : ∃ bn, Hid (backN = bn) := ⟨_, hide rfl⟩
  have HOK := hide (show newOk s = ((zoneNewOf hn s).2 && (zoneNewOf bn s).2) by rw [← unhide HHN, ← unhide HBN]; rfl)
  have HO := hide (show newO s = if newOk s = true then (zoneNewOf hn s).1.1 else [] by rw [← unhide HHN]; rfl)
  have HR := hide (show newR s = if newOk s = true then (zoneNewOf hn s).1.2 else [] by rw [← unhide HHN]; rfl)
  have HP := hide (show newP s = if newOk s = true then (zoneNewOf bn s).1.1 else [] by rw [← unhide HBN]; rfl)
  have HQ := hide (show newQ s = if newOk s = true then (zoneNewOf bn s).1.2 else [] by rw [← unhide HBN]; rfl)
  rw [unhide HHN] at Z1 HN1
  rw [unhide HBN] at Z2 HN2
  clear HHN HBN
  have zz := block_lt (unhide K0)
  generalize newO s = NO at *
  generalize newR s = NR at *
  generalize newP s = NP at *
  generalize newQ s = NQ at *
  generalize newOk s = OK at *
  go_enter Tryz.func16, Tryz.ntmps16
  go_wp2_with fail
  generalize w.alloc (.cells #[.int .i64 0, .slice none 0 0, .slice none 0 0, .slice none 0 0, .slice none 0 0, .slice none 0 0] 45) = W at *
  refine (l8home_any _).mono ?_
  rw [show (nameRead (numsOf homeT)).1 = hn from unhide Z1]
  rintro e w1 ⟨v1, rfl, o1, b1⟩
  have bb1 := below_next b0 b1
  have K1 := hide (block_kept b1 (unhide K0))
  have z1 := b1.size
  have C1 := hide (specZoneNew_q (s := s) o1.hasL (unhide HN1))
  clear b0 b1 K0 o1
  go_wp2_with fail
  refine (unhide C1).mono ?_
  rintro e w2 ⟨zo, zr, rfl, oz, b2⟩
  have bb2 := below_next bb1 b2
  have K2 := hide (block_kept b2 (unhide K1))
  have OZ := hide oz
  have z2 := b2.size
  obtain ⟨oa, oc, rfl, _⟩ := ((⟨oz.1.hasL, oz.2.has⟩ : HasZ _ _ _ _ _)).name.form
  obtain ⟨ra, rc, rfl, _⟩ := ((⟨oz.1.hasL, oz.2.has⟩ : HasZ _ _ _ _ _)).recs.form
  clear C1 b2 K1 bb1 oz
  generalize hA : (zoneNewOf hn s).1.1 = A at *
  generalize hB : (zoneNewOf hn s).1.2 = B at *
  generalize hC : (zoneNewOf hn s).2 = C at *
  clear hA hB hC
  have b3 := below_alloc (w := w2) (.cells #[.slice oa A.length oc, .slice ra B.length rc] 33)
  have KZ := hide (heap_alloc_new w2 (.cells #[.slice oa A.length oc, .slice ra B.length rc] 33))
  have bb3 := below_next bb2 b3
  have K3 := hide (block_kept b3 (unhide K2))
  have OZ3 := hide (And.intro ((unhide OZ).1.below b3) ((unhide OZ).2.below b3))
  have z3 := b3.size
  have zk3 := block_lt (unhide KZ)
  clear bb2 b3 K2 OZ
  go_wp2_with fail
  generalize w2.alloc (.cells #[.slice oa A.length oc, .slice ra B.length rc] 33) = w3 at *
  refine (l8rev_any _).mono ?_
  rw [show (nameRead (numsOf backT)).1 = bn from unhide Z2]
  rintro e w4 ⟨v4, rfl, o3, b4⟩
  have bb4 := below_next bb3 b4
  have K4 := hide (block_kept b4 (unhide K3))
  have KZ4 := hide (block_kept b4 (unhide KZ))
  have OZ4 := hide (And.intro ((unhide OZ3).1.below b4) ((unhide OZ3).2.below b4))
  have z4 := b4.size
  have C2 := hide (specZoneNew_q (s := s) o3.hasL (unhide HN2))
  clear bb3 b4 K3 KZ OZ3 o3
  go_wp2_with fail
  refine (unhide C2).mono ?_
  rintro e w5 ⟨yo, yr, rfl, oy, b5⟩
  have bb5 := below_next bb4 b5
  have K5 := hide (block_kept b5 (unhide K4))
  have KZ5 := hide (block_kept b5 (unhide KZ4))
  have OZ5 := hide (And.intro ((unhide OZ4).1.below b5) ((unhide OZ4).2.below b5))
  have OY := hide oy
  have z5 := b5.size
  obtain ⟨pa, pc, rfl, _⟩ := ((⟨oy.1.hasL, oy.2.has⟩ : HasZ _ _ _ _ _)).name.form
  obtain ⟨qa, qc, rfl, _⟩ := ((⟨oy.1.hasL, oy.2.has⟩ : HasZ _ _ _ _ _)).recs.form
  clear C2 b5 K4 KZ4 OZ4 bb4 oy
  generalize hA : (zoneNewOf bn s).1.1 = A2 at *
  generalize hB : (zoneNewOf bn s).1.2 = B2 at *
  generalize hC : (zoneNewOf bn s).2 = D at *
  clear hA hB hC
  have b6 := below_alloc (w := w5) (.cells #[.slice pa A2.length pc, .slice qa B2.length qc] 33)
  have KY := hide (heap_alloc_new w5 (.cells #[.slice pa A2.length pc, .slice qa B2.length qc] 33))
  have bb6 := below_next bb5 b6
  have K6 := hide (block_kept b6 (unhide K5))
  have KZ6 := hide (block_kept b6 (unhide KZ5))
  have OZ6 := hide (And.intro ((unhide OZ5).1.below b6) ((unhide OZ5).2.below b6))
  have OY6 := hide (And.intro ((unhide OY).1.below b6) ((unhide OY).2.below b6))
  have z6 := b6.size
  have zk6 := block_lt (unhide KY)
  clear bb5 b6 K5 KZ5 OZ5 OY
  have hok : OK = (C && D) := unhide HOK
  obtain ⟨c0, c1⟩ := cells2 (unhide KZ6)
  obtain ⟨e0, e1⟩ := cells2 (unhide KY)
  obtain ⟨d0, d1, d2, d3, d4, d5⟩ := cells6 (unhide K6)
  obtain ⟨g0, g1, g2, g3, g4, g5⟩ := frozen6 (unhide K6)
  cases hc : C && D with
  | false =>
    rw [hc] at hok
    subst hok
    have hO := unhide HO
    have hR := unhide HR
    have hP := unhide HP
    have hQ := unhide HQ
    simp only [Bool.false_eq_true, if_false] at hO hR hP hQ
    subst hO hR hP hQ
    clear HO HR HP HQ HOK
    have KF := hide (sets6 (unhide K6) (.int .i64 0) (.slice none 0 0) (.slice none 0 0) (.slice none 0 0) (.slice none 0 0) (.slice none 0 0))
    have UF := hide (outside_set6 (w5.alloc (.cells #[.slice pa A2.length pc, .slice qa B2.length qc] 33)) w.heap.size (.int .i64 0) (.slice none 0 0) (.slice none 0 0) (.slice none 0 0) (.slice none 0 0) (.slice none 0 0))
    cases C with
    | false =>
      go_wp2_with fail
      refine bodyPost_ret (results_cell_tmp_row rfl _ _ w.heap.size 45 #[.int .i64 0, .slice none 0 0, .slice none 0 0, .slice none 0 0, .slice none 0 0, .slice none 0 0] (0, 0) _ rfl (unhide KF) Tryz.underlying45 rfl (by kernel_rfl)) rfl ?_
      have zu := (unhide UF).size
      exact ⟨_, _, _, _, rfl, hasZ_nil _, hasZ_nil _, (unhide UF).below bb6 (Nat.le_refl _)⟩
    | true =>
      obtain rfl : D = false := by simpa using hc
     
      go_wp2_with fail
      refine bodyPost_ret (results_cell_tmp_row rfl _ _ w.heap.size 45 #[.int .i64 0, .slice none 0 0, .slice none 0 0, .slice none 0 0, .slice none 0 0, .slice none 0 0] (0, 0) _ rfl (unhide KF) Tryz.underlying45 rfl (by kernel_rfl)) rfl ?_
      have zu := (unhide UF).size
      exact ⟨_, _, _, _, rfl, hasZ_nil _, hasZ_nil _, (unhide UF).below bb6 (Nat.le_refl _)⟩
  | true =>
    obtain ⟨rfl, rfl⟩ : C = true ∧ D = true := by simpa using hc
    rw [hc] at hok
    subst hok
    have hO := unhide HO
    have hR := unhide HR
    have hP := unhide HP
    have hQ := unhide HQ
    simp only [if_true] at hO hR hP hQ
    subst hO hR hP hQ
    clear HO HR HP HQ HOK
    have KF := hide (sets6 (unhide K6) (.int .i64 0) (.slice oa NO.length oc) (.slice ra NR.length rc) (.slice pa NP.length pc) (.slice qa NQ.length qc) (.slice none 0 0))
    have UF := hide (outside_set6 (w5.alloc (.cells #[.slice pa NP.length pc, .slice qa NQ.length qc] 33)) w.heap.size (.int .i64 0) (.slice oa NO.length oc) (.slice ra NR.length rc) (.slice pa NP.length pc) (.slice qa NQ.length qc) (.slice none 0 0))
    go_wp2_with fail
    have GF := hide (grown_set6 (w5.alloc (.cells #[.slice pa NP.length pc, .slice qa NQ.length qc] 33)) w.heap.size (.int .i64 0) (.slice oa NO.length oc) (.slice ra NR.length rc) (.slice pa NP.length pc) (.slice qa NQ.length qc) (.slice none 0 0))
    refine bodyPost_ret (results_cell_tmp_row rfl _ _ w.heap.size 45 #[.int .i64 0, .slice oa NO.length oc, .slice ra NR.length rc, .slice pa NP.length pc, .slice qa NQ.length qc, .slice none 0 0] (0, 0) _ rfl (unhide KF) Tryz.underlying45 rfl (by kernel_rfl)) rfl ?_
    have zu := (unhide UF).size
    exact ⟨_, _, _, _, rfl, ⟨((unhide OZ6).1.here.outside (unhide UF) (.inr (by omega))).hasL, ((unhide OZ6).2.off (unhide K6) (by decide) (by decide) (by decide) (by decide) (unhide GF)).has⟩, ⟨((unhide OY6).1.here.outside (unhide UF) (.inr (by omega))).hasL, ((unhide OY6).2.off (unhide K6) (by decide) (by decide) (by decide) (by decide) (unhide GF)).has⟩, (unhide UF).below bb6 (Nat.le_refl _)⟩
end Go.Proofs.YtfgcmjpkgdjcfaaGreat

namespace Go.Proofs.YtfgcmjpkgdjcfaaGreat
open Go.RowKit
set_option linter.unusedVariables false
set_option linter.unusedSimpArgs false

set_option maxHeartbeats 4000000 in
set_option maxRecDepth 100000 in
theorem lawHouseNew (s : Int) (w : World) : Calls Tryz.prog 4 #[.int .i64 s] w fun e w' => e = .returned (.bool true) ∧ Below w.heap.size w w' := by
 have SZ := hide (newZ_size s)
 have SB := hide (newB_size s)
 have SP := hide (specHouseNew_has s)
 have IM := hide (implHouseNew_own s)
 generalize newO s = NO at *
 generalize newR s = NR at *
 generalize newP s = NP at *
 generalize newQ s = NQ at *
 generalize newOk s = OK at *
 have EQ := hide (fun (w : World) (vo vr vp vq uo ur up uq : Value) (a : HasZ w vo vr NO NR) (b : HasZ w uo ur NO NR) (c : HasZ w vp vq NP NQ) (d : HasZ w up uq NP NQ) => eqHouse_nil a b ((unhide SZ).mono (by omega)) c d ((unhide SB).mono (by omega)))
 have MK := hide (fun (w : World) (B s c t E : Nat) (vo vr vp vq : Value) (hB : B ≤ s) (hsc : s ≤ c) (hct : c ≤ t) (htE : t ≤ E) (hEw : E ≤ w.heap.size) (h1 : OwnN B s 56 5 w vo NO) (h2 : RowO s c 59 56 5 3 w vr NR) (h3 : OwnN c t 56 5 w vp NP) (h4 : RowO t E 59 56 5 3 w vq NQ) => markHouse_nil (unhide SZ) (unhide SB) 1 (by omega) (by omega) hB hsc hct htE hEw h1 h2 h3 h4)
 have HD := hide (fun (w : World) (vo vr vp vq : Value) (h1 : HasL w vo (markL NO 1)) (h2 : HasRs w vr (markRs NR (pos NO 1 NO.length) NR.length)) (h3 : HasL w vp (markL NP (posRs NR (pos NO 1 NO.length) NR.length))) (h4 : HasRs w vq (markRs NQ (pos NP (posRs NR (pos NO 1 NO.length) NR.length) NP.length) NQ.length)) => heldHouse_nil (unhide SZ) (unhide SB) 1 (by omega) (by omega) h1 h2 h3 h4)
 have q1 := posZ_bound (unhide SZ) 1
 have q2 := posZ_bound (unhide SB) (posRs NR (pos NO 1 NO.length) NR.length)
 generalize markL NO 1 = N1 at *
 generalize markRs NR (pos NO 1 NO.length) NR.length = R1 at *
 generalize posRs NR (pos NO 1 NO.length) NR.length = P1 at *
 generalize markL NP P1 = N2 at *
 generalize markRs NQ (pos NP P1 NP.length) NQ.length = R2 at *
 generalize posRs NQ (pos NP P1 NP.length) NQ.length = P2 at *
 have n2 : ¬ P2 < 0 := by omega
 have hgg : (OK != OK) = false := by simp
 clear q1 q2 SZ SB
 go_enter Tryz.func4, Tryz.ntmps4
 go_wp2_with fail
 refine (unhide SP w).mono ?_
 rintro e w1 ⟨yo, yr, yp, yq, rfl, oz, ob, b1⟩
 obtain ⟨xo0, xc0, rfl, _⟩ := oz.name.form
 obtain ⟨xo1, xc1, rfl, _⟩ := oz.recs.form
 obtain ⟨xo2, xc2, rfl, _⟩ := ob.name.form
 obtain ⟨xo3, xc3, rfl, _⟩ := ob.recs.form
 have b2 := below_alloc (w := w1) (.cells #[.int .i64 0, .slice xo0 NO.length xc0, .slice xo1 NR.length xc1, .slice xo2 NP.length xc2, .slice xo3 NQ.length xc3, .slice none 0 0] 45)
 have KW := hide (heap_alloc_new w1 (.cells #[.int .i64 0, .slice xo0 NO.length xc0, .slice xo1 NR.length xc1, .slice xo2 NP.length xc2, .slice xo3 NQ.length xc3, .slice none 0 0] 45))
 have WZ := hide (oz.below b2)
 have WB := hide (ob.below b2)
 have bb := below_next b1 b2
 have zw := block_lt (unhide KW)
 have z1 := b1.size
 clear oz ob b1 b2 SP
 go_wp2_with fail
 generalize w1.alloc (.cells #[.int .i64 0, .slice xo0 NO.length xc0, .slice xo1 NR.length xc1, .slice xo2 NP.length xc2, .slice xo3 NQ.length xc3, .slice none 0 0] 45) = w2 at *
 refine (unhide IM w2).mono ?_
 rintro e w3 ⟨yo, yr, yp, yq, rfl, ⟨c, hc0, ⟨s1, s11, s12, g1, g2⟩, ⟨s2, s21, s22, g3, g4⟩⟩, b3⟩
 replace KW := hide (block_kept b3 (unhide KW))
 replace bb := below_next bb b3
 have z3 := b3.size
 obtain ⟨go0, gc0, rfl, _⟩ := g1.hasL.form
 obtain ⟨go1, gc1, rfl, _⟩ := g2.form
 obtain ⟨go2, gc2, rfl, _⟩ := g3.hasL.form
 obtain ⟨go3, gc3, rfl, _⟩ := g4.form
 have b4 := below_alloc (w := w3) (.cells #[.int .i64 0, .slice go0 NO.length gc0, .slice go1 NR.length gc1, .slice go2 NP.length gc2, .slice go3 NQ.length gc3, .slice none 0 0] 45)
 have KG := hide (heap_alloc_new w3 (.cells #[.int .i64 0, .slice go0 NO.length gc0, .slice go1 NR.length gc1, .slice go2 NP.length gc2, .slice go3 NQ.length gc3, .slice none 0 0] 45))
 replace KW := hide (block_kept b4 (unhide KW))
 have BW := hide (b3.trans (b4.mono z3))
 replace bb := below_next bb b4
 have M1 := hide (g1.below b4)
 have M2 := hide (g2.below b4)
 have M3 := hide (g3.below b4)
 have M4 := hide (g4.below b4)
 have z4 := b4.size
 have zg := block_lt (unhide KG)
 clear b3 b4 g1 g2 g3 g4
 obtain ⟨d0, d1, d2, d3, d4, d5⟩ := cells6 (unhide KW)
 obtain ⟨f0, f1, f2, f3, f4, f5⟩ := cells6 (unhide KG)
 go_wp2_with fail
 clear d0 d1 d2 d3 d4 d5 f0 f1 f2 f3 f4 f5
 generalize w3.alloc (.cells #[.int .i64 0, .slice go0 NO.length gc0, .slice go1 NR.length gc1, .slice go2 NP.length gc2, .slice go3 NQ.length gc3, .slice none 0 0] 45) = w4 at *
 refine (unhide EQ _ _ _ _ _ _ _ _ _ ⟨(unhide M1).hasL, (unhide M2).has⟩ ((unhide WZ).below (unhide BW)) ⟨(unhide M3).hasL, (unhide M4).has⟩ ((unhide WB).below (unhide BW))).mono ?_
 rintro e w5 ⟨rfl, b5⟩
 replace KW := hide (block_kept b5 (unhide KW))
 replace KG := hide (block_kept b5 (unhide KG))
 replace BW := hide ((unhide BW).trans (b5.mono (unhide BW).size))
 replace bb := below_next bb b5
 replace M1 := hide ((unhide M1).below b5)
 replace M2 := hide ((unhide M2).below b5)
 replace M3 := hide ((unhide M3).below b5)
 replace M4 := hide ((unhide M4).below b5)
 have z5 := b5.size
 clear b5
 obtain ⟨d0, d1, d2, d3, d4, d5⟩ := cells6 (unhide KW)
 obtain ⟨f0, f1, f2, f3, f4, f5⟩ := cells6 (unhide KG)
 go_wp2_with fail
 clear d0 d1 d2 d3 d4 d5 f0 f1 f2 f3 f4 f5
 refine (unhide MK _ _ _ _ _ _ _ _ _ _ s11 s12 s21 s22 (by omega) (unhide M1) (unhide M2) (unhide M3) (unhide M4)).mono ?_
 rintro e w6 ⟨rfl, a1, a2, a3, a4, u6⟩
 have A1 := hide a1
 have A2 := hide a2
 have A3 := hide a3
 have A4 := hide a4
 replace KW := hide (u6.kept (unhide KW) (by omega))
 replace KG := hide (u6.kept (unhide KG) (by omega))
 replace BW := hide (u6.belowAt (unhide BW) (Nat.le_refl _) (Nat.le_refl _))
 replace bb := u6.below bb (by omega)
 have z6 := u6.size
 clear a1 a2 a3 a4 u6 M1 M2 M3 M4
 obtain ⟨d0, d1, d2, d3, d4, d5⟩ := cells6 (unhide KW)
 obtain ⟨f0, f1, f2, f3, f4, f5⟩ := cells6 (unhide KG)
 go_wp2_with fail
 clear d0 d1 d2 d3 d4 d5 f0 f1 f2 f3 f4 f5
 refine (unhide HD _ _ _ _ _ (unhide A1).hasL (unhide A2).has (unhide A3).hasL (unhide A4).has).mono ?_
 rintro e w7 ⟨rfl, b7⟩
 replace KW := hide (block_kept b7 (unhide KW))
 replace KG := hide (block_kept b7 (unhide KG))
 replace BW := hide ((unhide BW).trans (b7.mono (unhide BW).size))
 replace bb := below_next bb b7
 replace A1 := hide ((unhide A1).below b7)
 replace A2 := hide ((unhide A2).below b7)
 replace A3 := hide ((unhide A3).below b7)
 replace A4 := hide ((unhide A4).below b7)
 have z7 := b7.size
 clear b7
 obtain ⟨d0, d1, d2, d3, d4, d5⟩ := cells6 (unhide KW)
 obtain ⟨f0, f1, f2, f3, f4, f5⟩ := cells6 (unhide KG)
 go_wp2_with fail
 clear d0 d1 d2 d3 d4 d5 f0 f1 f2 f3 f4 f5
 refine (unhide IM w7).mono ?_
 rintro e w8 ⟨yo, yr, yp, yq, rfl, ⟨c2, hc2, h1, h2⟩, b8⟩
 replace KW := hide (block_kept b8 (unhide KW))
 replace KG := hide (block_kept b8 (unhide KG))
 replace BW := hide ((unhide BW).trans (b8.mono (unhide BW).size))
 replace bb := below_next bb b8
 replace A1 := hide ((unhide A1).below b8)
 replace A2 := hide ((unhide A2).below b8)
 replace A3 := hide ((unhide A3).below b8)
 replace A4 := hide ((unhide A4).below b8)
 have z8 := b8.size
 obtain ⟨ho0, hc0, rfl, _⟩ := h1.hasZ.name.form
 obtain ⟨ho1, hc1, rfl, _⟩ := h1.hasZ.recs.form
 obtain ⟨ho2, hc2, rfl, _⟩ := h2.hasZ.name.form
 obtain ⟨ho3, hc3, rfl, _⟩ := h2.hasZ.recs.form
 have b9 := below_alloc (w := w8) (.cells #[.int .i64 0, .slice ho0 NO.length hc0, .slice ho1 NR.length hc1, .slice ho2 NP.length hc2, .slice ho3 NQ.length hc3, .slice none 0 0] 45)
 have KH := hide (heap_alloc_new w8 (.cells #[.int .i64 0, .slice ho0 NO.length hc0, .slice ho1 NR.length hc1, .slice ho2 NP.length hc2, .slice ho3 NQ.length hc3, .slice none 0 0] 45))
 replace KW := hide (block_kept b9 (unhide KW))
 replace KG := hide (block_kept b9 (unhide KG))
 replace BW := hide ((unhide BW).trans (b9.mono (unhide BW).size))
 replace bb := below_next bb b9
 replace A1 := hide ((unhide A1).below b9)
 replace A2 := hide ((unhide A2).below b9)
 replace A3 := hide ((unhide A3).below b9)
 replace A4 := hide ((unhide A4).below b9)
 have H1 := hide (h1.hasZ.below b9)
 have H2 := hide (h2.hasZ.below b9)
 have z9 := b9.size
 clear b8 b9 h1 h2
 obtain ⟨d0, d1, d2, d3, d4, d5⟩ := cells6 (unhide KW)
 obtain ⟨f0, f1, f2, f3, f4, f5⟩ := cells6 (unhide KG)
 obtain ⟨r0, r1, r2, r3, r4, r5⟩ := cells6 (unhide KH)
 go_wp2_with fail
 clear d0 d1 d2 d3 d4 d5 f0 f1 f2 f3 f4 f5
 clear r0 r1 r2 r3 r4 r5
 generalize w8.alloc (.cells #[.int .i64 0, .slice ho0 NO.length hc0, .slice ho1 NR.length hc1, .slice ho2 NP.length hc2, .slice ho3 NQ.length hc3, .slice none 0 0] 45) = w9 at *
 refine (unhide EQ _ _ _ _ _ _ _ _ _ (unhide H1) ((unhide WZ).below (unhide BW)) (unhide H2) ((unhide WB).below (unhide BW))).mono ?_
 rintro e w10 ⟨rfl, b10⟩
 replace KW := hide (block_kept b10 (unhide KW))
 replace KG := hide (block_kept b10 (unhide KG))
 replace BW := hide ((unhide BW).trans (b10.mono (unhide BW).size))
 replace bb := below_next bb b10
 replace A1 := hide ((unhide A1).below b10)
 replace A2 := hide ((unhide A2).below b10)
 replace A3 := hide ((unhide A3).below b10)
 replace A4 := hide ((unhide A4).below b10)
 clear b10
 obtain ⟨d0, d1, d2, d3, d4, d5⟩ := cells6 (unhide KW)
 obtain ⟨f0, f1, f2, f3, f4, f5⟩ := cells6 (unhide KG)
 go_wp2_with fail
 clear d0 d1 d2 d3 d4 d5 f0 f1 f2 f3 f4 f5
 refine (unhide HD _ _ _ _ _ (unhide A1).hasL (unhide A2).has (unhide A3).hasL (unhide A4).has).mono ?_
 rintro e w11 ⟨rfl, b11⟩
 replace bb := below_next bb b11
 go_wp2_with fail
 go_ret
 exact ⟨rfl, bb⟩
end Go.Proofs.YtfgcmjpkgdjcfaaGreat
