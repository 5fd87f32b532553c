/-
  Contracts of the helpers of the laws for zones that are answers (markZone, heldZone). Contracts of helpers of the laws: zones that are made of what came in, and own their memory (toRrS, toZone); their marks (markZone). Contracts of the laws' helpers at houses without leases.
-/
import Derived.Test.YtfgcmjpkgdjcfaaGreatHouseNewG30
import Derived.Test.YtfgcmjpkgdjcfaaGreatHouseNewG16
import Derived.Test.YtfgcmjpkgdjcfaaGreatHouseNewG29
import Derived.Test.YtfgcmjpkgdjcfaaGreatHouseNewG14
namespace Go.Proofs.YtfgcmjpkgdjcfaaGreat
open Go.RowKit
set_option linter.unusedVariables false

set_option maxHeartbeats 2000000 in
set_option maxRecDepth 100000 in
theorem markZone_own {o : List (List Int)} {rs : List Rec} (hs : SizeZ 1048576 o rs) (k0 : Int) (hk0 : 0 ≤ k0) (hk1 : k0 ≤ 4610000000000000000) {B s E : Nat} {vo vr : Value} {w : World} (hB : B ≤ s) (hsE : s ≤ E) (hEw : E ≤ w.heap.size)
  (h1 : OwnN B s 56 5 w vo o) (h2 : RowO s E 59 56 5 3 w vr rs) :
  Calls Tryz.prog 13 #[.agg #[vo, vr], .int .i64 k0] w fun e w' => e = .returned (.int .i64 (posRs rs (pos o k0 o.length) rs.length)) ∧ OwnN B s 56 5 w' vo (markL o k0) ∧ RowO s E 59 56 5 3 w' vr (markRs rs (pos o k0 o.length) rs.length) ∧ Outside B E w w' := by
 have p1 := pos_bound' o k0 hs.name hs.names
 obtain ⟨oa, oc, rfl, _⟩ := h1.hasL.form
 obtain ⟨ra, rc, rfl, _⟩ := h2.form
 have b0 := below_alloc (w := w) (.cells #[.slice oa o.length oc, .slice ra rs.length rc] 33)
 have K0 := hide (heap_alloc_new w (.cells #[.slice oa o.length oc, .slice ra rs.length rc] 33))
 have M1 := hide (markName_any k0 (h1.below b0) hs.name hs.names hk0 (by omega))
 have R0 := hide (h2.below b0)
 have HR := hide (fun (w : World) (hh : RowO s E 59 56 5 3 w (.slice ra rs.length rc) rs) (hE : E ≤ w.heap.size) => markRrS_own hs.recs hs.count (pos o k0 o.length) (by omega) (by omega) hE hh)
 have u0 : Outside B E w (w.alloc (.cells #[.slice oa o.length oc, .slice ra rs.length rc] 33)) := Below.outside b0
 have z0 := b0.size
 clear h1 h2 b0 hs
 generalize hMR : markRs rs (pos o k0 o.length) rs.length = MR at *
 generalize hPR : posRs rs (pos o k0 o.length) rs.length = PR at *
 generalize hMO : markL o k0 = MO at *
 clear hMR hPR hMO
 generalize pos o k0 o.length = P1 at *
 go_enter Tryz.func13, Tryz.ntmps13
 obtain ⟨c0, c1⟩ := cells2 (unhide K0)
 go_wp2_with fail
 clear c0 c1
 generalize w.alloc (.cells #[.slice oa o.length oc, .slice ra rs.length rc] 33) = W at *
 refine (unhide M1).mono ?_
 rintro e w1 ⟨rfl, n1, u1⟩
 have zw := block_lt (unhide K0)
 have z1 := u1.size
 have N1 := hide n1
 have R1 := hide ((unhide R0).outside u1 (by omega))
 have K1 := hide (u1.kept (unhide K0) (by omega))
 have U1 := u0.trans (u1.wide (B' := B) (E' := E) (by omega) (by omega))
 have HR1 := hide (unhide HR _ (unhide R1) (by omega))
 obtain ⟨c0, c1⟩ := cells2 (unhide K1)
 clear n1 u1 u0 K0 R0 M1 HR
 go_wp2_with fail
 clear c0 c1
 refine (unhide HR1).mono ?_
 rintro e w2 ⟨rfl, r2, u2⟩
 have N2 := hide ((unhide N1).outside u2 (by omega))
 have R2 := hide r2
 have U2 := U1.trans (u2.wide (B' := B) (E' := E) (by omega) (by omega))
 clear r2 u2 HR1 N1
 go_wp2_with fail
 go_ret
 exact ⟨rfl, unhide N2, unhide R2, U2⟩

set_option maxHeartbeats 2000000 in
set_option maxRecDepth 100000 in
theorem heldZone_has {o : List (List Int)} {rs : List Rec} (hs : SizeZ 1048576 o rs) (k0 : Int) (hk0 : 0 ≤ k0) (hk1 : k0 ≤ 4610000000000000000) {vo vr : Value} {w : World}
  (h1 : HasL w vo (markL o k0)) (h2 : HasRs w vr (markRs rs (pos o k0 o.length) rs.length)) :
  Calls Tryz.prog 15 #[.agg #[vo, vr], .int .i64 k0] w fun e w' => e = .returned (.int .i64 (posRs rs (pos o k0 o.length) rs.length)) ∧ Below w.heap.size w w' := by
 have p1 := pos_bound' o k0 hs.name hs.names
 have p2 := posRs_bound hs.recs (pos o k0 o.length) rs.length (Nat.le_refl _)
 have hz : ((rs.length : Int)) * 2199025352707 ≤ 1048576 * 2199025352707 := by have := hs.count; omega
 obtain ⟨oa, oc, rfl, _⟩ := h1.form
 obtain ⟨ra, rc, rfl, _⟩ := h2.form
 rw [markL_length, markRs_length] at *
 have b0 := below_alloc (w := w) (.cells #[.slice oa o.length oc, .slice ra rs.length rc] 33)
 have K0 := hide (heap_alloc_new w (.cells #[.slice oa o.length oc, .slice ra rs.length rc] 33))
 have M1 := hide (heldName_has k0 (h1.below b0) hs.name hs.names hk0 (by omega))
 have R0 := hide (h2.below b0)
 have HR := hide (fun (w : World) (hh : HasRs w (.slice ra rs.length rc) (markRs rs (pos o k0 o.length) rs.length)) => heldRrS_has hs.recs hs.count (pos o k0 o.length) (by omega) (by omega) hh)
 have n1 : ¬ pos o k0 o.length < 0 := by omega
 have n2 : ¬ posRs rs (pos o k0 o.length) rs.length < 0 := by omega
 clear h1 h2 hs p1 p2 hz
 generalize markRs rs (pos o k0 o.length) rs.length = MR at *
 generalize posRs rs (pos o k0 o.length) rs.length = PR at *
 generalize pos o k0 o.length = P1 at *
 go_enter Tryz.func15, Tryz.ntmps15
 obtain ⟨c0, c1⟩ := cells2 (unhide K0)
 go_wp2_with fail
 clear c0 c1
 generalize w.alloc (.cells #[.slice oa o.length oc, .slice ra rs.length rc] 33) = W at *
 refine (unhide M1).mono ?_
 rintro e w1 ⟨rfl, b1⟩
 have bb := below_next b0 b1
 have R1 := hide ((unhide R0).below b1)
 have K1 := hide (block_kept b1 (unhide K0))
 obtain ⟨c0, c1⟩ := cells2 (unhide K1)
 clear b0 b1 R0 M1 K0
 go_wp2_with fail
 refine (unhide HR _ (unhide R1)).mono ?_
 rintro e w2 ⟨rfl, rfl⟩
 go_wp2_with fail
 go_ret
 exact ⟨rfl, bb⟩
end Go.Proofs.YtfgcmjpkgdjcfaaGreat

namespace Go.Proofs.YtfgcmjpkgdjcfaaGreat
open Go.RowKit
set_option linter.unusedVariables false

end Go.Proofs.YtfgcmjpkgdjcfaaGreat

namespace Go.Proofs.YtfgcmjpkgdjcfaaGreat
open Go.RowKit
set_option linter.unusedVariables false
set_option linter.unusedSimpArgs false

theorem cells6 {w : World} {b : Nat} {c0 c1 c2 c3 c4 c5 : Value} {t : TypeId} (h : w.heap[b]? = some (.cells #[c0, c1, c2, c3, c4, c5] t)) :
  w.cell? ⟨b, 0, none⟩ = some c0 ∧ w.cell? ⟨b, 1, none⟩ = some c1 ∧ w.cell? ⟨b, 2, none⟩ = some c2 ∧ w.cell? ⟨b, 3, none⟩ = some c3 ∧ w.cell? ⟨b, 4, none⟩ = some c4 ∧ w.cell? ⟨b, 5, none⟩ = some c5 := ⟨block_cell h 0, block_cell h 1, block_cell h 2, block_cell h 3, block_cell h 4, block_cell h 5⟩

theorem frozen6 {w : World} {b : Nat} {c : Array Value} {t : TypeId} (h : w.heap[b]? = some (.cells c t)) : w.frozen? ⟨b, 0, none⟩ = false ∧ w.frozen? ⟨b, 1, none⟩ = false ∧ w.frozen? ⟨b, 2, none⟩ = false ∧ w.frozen? ⟨b, 3, none⟩ = false ∧ w.frozen? ⟨b, 4, none⟩ = false ∧ w.frozen? ⟨b, 5, none⟩ = false := ⟨block_frozen h 0, block_frozen h 1, block_frozen h 2, block_frozen h 3, block_frozen h 4, block_frozen h 5⟩
theorem sets6 {w : World} {b : Nat} {c0 c1 c2 c3 c4 c5 : Value} {t : TypeId} (h : w.heap[b]? = some (.cells #[c0, c1, c2, c3, c4, c5] t)) (d0 d1 d2 d3 d4 d5 : Value) :
  ((((((w.setCell ⟨b, 0, none⟩ d0).setCell ⟨b, 1, none⟩ d1).setCell ⟨b, 2, none⟩ d2).setCell ⟨b, 3, none⟩ d3).setCell ⟨b, 4, none⟩ d4).setCell ⟨b, 5, none⟩ d5).heap[b]? = some (.cells #[d0, d1, d2, d3, d4, d5] t) := block_setAt (block_setAt (block_setAt (block_setAt (block_setAt (block_setAt h 0 d0) 1 d1) 2 d2) 3 d3) 4 d4) 5 d5
theorem outside_set6 (w : World) (b : Nat) (d0 d1 d2 d3 d4 d5 : Value) : Outside b (b + 1) w ((((((w.setCell ⟨b, 0, none⟩ d0).setCell ⟨b, 1, none⟩ d1).setCell ⟨b, 2, none⟩ d2).setCell ⟨b, 3, none⟩ d3).setCell ⟨b, 4, none⟩ d4).setCell ⟨b, 5, none⟩ d5) :=
 (((((outside_set w b 0 d0).trans (outside_set _ b 1 d1)).trans (outside_set _ b 2 d2)).trans (outside_set _ b 3 d3)).trans (outside_set _ b 4 d4)).trans (outside_set _ b 5 d5)
theorem ownN_nilH (B E : Nat) (el eb : TypeId) (w : World) : OwnN B E el eb w (.slice none 0 0) [] := ⟨[], World.ownsRow_nil _ _ _ _, (fun i hi => absurd hi (by simp)), by simp, (fun q hq => by cases hq), by simp⟩
theorem grown_set6 (w : World) (b : Nat) (d0 d1 d2 d3 d4 d5 : Value) : w.grownBy ((((((w.setCell ⟨b, 0, none⟩ d0).setCell ⟨b, 1, none⟩ d1).setCell ⟨b, 2, none⟩ d2).setCell ⟨b, 3, none⟩ d3).setCell ⟨b, 4, none⟩ d4).setCell ⟨b, 5, none⟩ d5) (some b) :=
 grown_trans (grown_trans (grown_trans (grown_trans (grown_trans (grown_setCell w ⟨b, 0, none⟩ d0) (grown_setCell _ ⟨b, 1, none⟩ d1)) (grown_setCell _ ⟨b, 2, none⟩ d2)) (grown_setCell _ ⟨b, 3, none⟩ d3)) (grown_setCell _ ⟨b, 4, none⟩ d4)) (grown_setCell _ ⟨b, 5, none⟩ d5)
theorem OwnZ.wide {B E B' E' : Nat} {w : World} {uo ur : Value} {o : List (List Int)} {rs : List Rec} (h : OwnZ B E w uo ur o rs) (hB : B' ≤ B) (hE : E ≤ E') : OwnZ B' E' w uo ur o rs := by
 obtain ⟨s, h1, h2, h3, h4⟩ := h
 exact ⟨s, by omega, by omega, h3.wide hB (Nat.le_refl _), h4.wide (Nat.le_refl _) hE⟩
theorem ownZ_nil (B E : Nat) (w : World) (h : B ≤ E) : OwnZ B E w (.slice none 0 0) (.slice none 0 0) [] [] := ⟨B, Nat.le_refl _, h, ownN_nilH _ _ _ _ _, RowO.nil _ _ _ _ _ _ _⟩
theorem hasZ_nil (w : World) : HasZ w (.slice none 0 0) (.slice none 0 0) [] [] := (ownZ_nil 0 0 w (Nat.le_refl _)).hasZ

set_option maxHeartbeats 400000 in
set_option maxRecDepth 100000 in
theorem eqLeaseS_nil (w : World) : Calls Tryz.prog 49 #[.slice none 0 0, .slice none 0 0] w fun e w' => e = .returned (.bool true) ∧ Below w.heap.size w w' := by
 go_enter Tryz.func49, Tryz.ntmps49
 go_wp2
 go_loopw [5] (fun i wr => i = .int .i64 0 ∧ wr = w) (fun _ _ => 0)
 case atStart => exact ⟨rfl, rfl⟩
 case round =>
  obtain ⟨rfl, rfl⟩ := hrel
  go_wp2
  go_ret
  exact ⟨rfl, Below.refl _ _⟩
set_option maxHeartbeats 400000 in
set_option maxRecDepth 100000 in
theorem markLeaseS_nil (k : Int) (w : World) : Calls Tryz.prog 50 #[.slice none 0 0, .int .i64 k] w fun e w' => e = .returned (.int .i64 k) ∧ w' = w := by
 go_enter Tryz.func50, Tryz.ntmps50
 go_wp2
 go_loopw [1, 5] (fun q i wr => q = .int .i64 k ∧ i = .int .i64 0 ∧ wr = w) (fun _ _ _ => 0)
 case atStart => exact ⟨rfl, rfl, rfl⟩
 case round =>
  obtain ⟨rfl, rfl, rfl⟩ := hrel
  go_wp2
  go_ret
  exact ⟨rfl, rfl⟩
set_option maxHeartbeats 400000 in
set_option maxRecDepth 100000 in
theorem heldLeaseS_nil (k : Int) (w : World) : Calls Tryz.prog 51 #[.slice none 0 0, .int .i64 k] w fun e w' => e = .returned (.int .i64 k) ∧ w' = w := by
 go_enter Tryz.func51, Tryz.ntmps51
 go_wp2
 go_loopw [1, 5] (fun q i wr => q = .int .i64 k ∧ i = .int .i64 0 ∧ wr = w) (fun _ _ _ => 0)
 case atStart => exact ⟨rfl, rfl, rfl⟩
 case round =>
  obtain ⟨rfl, rfl, rfl⟩ := hrel
  go_wp2
  go_ret
  exact ⟨rfl, rfl⟩

set_option maxHeartbeats 1000000 in
set_option maxRecDepth 100000 in
theorem eqHouse_nil {vo vr vp vq uo ur up uq : Value} {o p : List (List Int)} {rs qs : List Rec} {w : World} (h : HasZ w vo vr o rs) (h' : HasZ w uo ur o rs) (hs : SizeZ 2097152 o rs) (k : HasZ w vp vq p qs) (k' : HasZ w up uq p qs) (ks : SizeZ 2097152 p qs) :
  Calls Tryz.prog 18 #[.agg #[.int .i64 0, vo, vr, vp, vq, .slice none 0 0], .agg #[.int .i64 0, uo, ur, up, uq, .slice none 0 0]] w fun e w' => e = .returned (.bool true) ∧ Below w.heap.size w w' := by
 obtain ⟨oa, oc, rfl, _⟩ := h.name.form
 obtain ⟨ra, rc, rfl, _⟩ := h.recs.form
 obtain ⟨oa', oc', rfl, _⟩ := h'.name.form
 obtain ⟨ra', rc', rfl, _⟩ := h'.recs.form
 obtain ⟨pa, pc, rfl, _⟩ := k.name.form
 obtain ⟨qa, qc, rfl, _⟩ := k.recs.form
 obtain ⟨pa', pc', rfl, _⟩ := k'.name.form
 obtain ⟨qa', qc', rfl, _⟩ := k'.recs.form
 have b0 := below2 w (.cells #[.int .i64 0, .slice oa o.length oc, .slice ra rs.length rc, .slice pa p.length pc, .slice qa qs.length qc, .slice none 0 0] 45) (.cells #[.int .i64 0, .slice oa' o.length oc', .slice ra' rs.length rc', .slice pa' p.length pc', .slice qa' qs.length qc', .slice none 0 0] 45)
 obtain ⟨hsz, k0, x0⟩ := box2 w (.cells #[.int .i64 0, .slice oa o.length oc, .slice ra rs.length rc, .slice pa p.length pc, .slice qa qs.length qc, .slice none 0 0] 45) #[.int .i64 0, .slice oa' o.length oc', .slice ra' rs.length rc', .slice pa' p.length pc', .slice qa' qs.length qc', .slice none 0 0] 45
 have H0 := hide (h.below b0)
 have H0' := hide (h'.below b0)
 have G0 := hide (k.below b0)
 have G0' := hide (k'.below b0)
 have HS := hide hs
 have KS := hide ks
 have K0 := hide k0
 have X0 := hide x0
 clear h h' hs k k' ks k0 x0 hsz
 obtain ⟨d0, d1, d2, d3, d4, d5⟩ := cells6 (unhide K0)
 obtain ⟨f0, f1, f2, f3, f4, f5⟩ := cells6 (unhide X0)
 go_enter Tryz.func18, Tryz.ntmps18
 go_wp2_with fail
 clear d0 d1 d2 d3 d4 d5 f0 f1 f2 f3 f4 f5
 generalize (w.alloc (.cells #[.int .i64 0, .slice oa o.length oc, .slice ra rs.length rc, .slice pa p.length pc, .slice qa qs.length qc, .slice none 0 0] 45)).alloc (.cells #[.int .i64 0, .slice oa' o.length oc', .slice ra' rs.length rc', .slice pa' p.length pc', .slice qa' qs.length qc', .slice none 0 0] 45) = W at *
 refine (eqZone_has (unhide H0) (unhide H0') (unhide HS)).mono ?_
 rintro e w1 ⟨rfl, b1⟩
 have bb1 := below_next b0 b1
 replace G0 := hide ((unhide G0).below b1)
 replace G0' := hide ((unhide G0').below b1)
 replace K0 := hide (block_kept b1 (unhide K0))
 replace X0 := hide (block_kept b1 (unhide X0))
 obtain ⟨d0, d1, d2, d3, d4, d5⟩ := cells6 (unhide K0)
 obtain ⟨f0, f1, f2, f3, f4, f5⟩ := cells6 (unhide X0)
 clear b0 b1 H0 H0'
 go_wp2_with fail
 clear d0 d1 d2 d3 d4 d5 f0 f1 f2 f3 f4 f5
 refine (eqZone_has (unhide G0) (unhide G0') (unhide KS)).mono ?_
 rintro e w2 ⟨rfl, b2⟩
 have bb2 := below_next bb1 b2
 replace K0 := hide (block_kept b2 (unhide K0))
 replace X0 := hide (block_kept b2 (unhide X0))
 obtain ⟨d0, d1, d2, d3, d4, d5⟩ := cells6 (unhide K0)
 obtain ⟨f0, f1, f2, f3, f4, f5⟩ := cells6 (unhide X0)
 clear bb1 b2
 go_wp2_with fail
 clear d0 d1 d2 d3 d4 d5 f0 f1 f2 f3 f4 f5
 refine (eqLeaseS_nil _).mono ?_
 rintro e w3 ⟨rfl, b3⟩
 go_wp2_with fail
 go_ret
 exact ⟨rfl, below_next bb2 b3⟩

set_option maxHeartbeats 1000000 in
set_option maxRecDepth 100000 in
theorem markHouse_nil {o p : List (List Int)} {rs qs : List Rec} (hs : SizeZ 1048576 o rs) (ks : SizeZ 1048576 p qs) (k0 : Int) (hk0 : 0 ≤ k0) (hk1 : k0 ≤ 1000000000000000000) {B s c t E : Nat} {vo vr vp vq : Value} {w : World} (hB : B ≤ s) (hsc : s ≤ c) (hct : c ≤ t) (htE : t ≤ E) (hEw : E ≤ w.heap.size)
  (h1 : OwnN B s 56 5 w vo o) (h2 : RowO s c 59 56 5 3 w vr rs) (h3 : OwnN c t 56 5 w vp p) (h4 : RowO t E 59 56 5 3 w vq qs) :
  Calls Tryz.prog 19 #[.agg #[.int .i64 0, vo, vr, vp, vq, .slice none 0 0], .int .i64 k0] w fun e w' => e = .returned (.int .i64 (posRs qs (pos p (posRs rs (pos o k0 o.length) rs.length) p.length) qs.length)) ∧
   OwnN B s 56 5 w' vo (markL o k0) ∧ RowO s c 59 56 5 3 w' vr (markRs rs (pos o k0 o.length) rs.length) ∧
   OwnN c t 56 5 w' vp (markL p (posRs rs (pos o k0 o.length) rs.length)) ∧ RowO t E 59 56 5 3 w' vq (markRs qs (pos p (posRs rs (pos o k0 o.length) rs.length) p.length) qs.length) ∧ Outside B E w w' := by
 have q1 := posZ_bound hs k0
 obtain ⟨oa, oc, rfl, _⟩ := h1.hasL.form
 obtain ⟨ra, rc, rfl, _⟩ := h2.form
 obtain ⟨pa, pc, rfl, _⟩ := h3.hasL.form
 obtain ⟨qa, qc, rfl, _⟩ := h4.form
 have ba := below_alloc (w := w) (.cells #[.int .i64 0, .slice oa o.length oc, .slice ra rs.length rc, .slice pa p.length pc, .slice qa qs.length qc, .slice none 0 0] 45)
 have K0 := hide (heap_alloc_new w (.cells #[.int .i64 0, .slice oa o.length oc, .slice ra rs.length rc, .slice pa p.length pc, .slice qa qs.length qc, .slice none 0 0] 45))
 have O1 := hide (h1.below ba)
 have O2 := hide (h2.below ba)
 have O3 := hide (h3.below ba)
 have O4 := hide (h4.below ba)
 have za := ba.size
 have zk := block_lt (unhide K0)
 clear h1 h2 h3 h4
 have M1 := hide (fun (w : World) (hE : c ≤ w.heap.size) (a : OwnN B s 56 5 w (.slice oa o.length oc) o) (b : RowO s c 59 56 5 3 w (.slice ra rs.length rc) rs) => markZone_own hs k0 hk0 (by omega) hB hsc hE a b)
 have M2 := hide (fun (w : World) (hE : E ≤ w.heap.size) (a : OwnN c t 56 5 w (.slice pa p.length pc) p) (b : RowO t E 59 56 5 3 w (.slice qa qs.length qc) qs) => markZone_own ks (posRs rs (pos o k0 o.length) rs.length) (by omega) (by omega) hct htE hE a b)
 generalize posRs rs (pos o k0 o.length) rs.length = P1 at *
 generalize posRs qs (pos p P1 p.length) qs.length = P2 at *
 generalize markRs rs (pos o k0 o.length) rs.length = R1 at *
 generalize markRs qs (pos p P1 p.length) qs.length = R2 at *
 generalize markL o k0 = N1 at *
 generalize markL p P1 = N2 at *
 obtain ⟨d0, d1, d2, d3, d4, d5⟩ := cells6 (unhide K0)
 go_enter Tryz.func19, Tryz.ntmps19
 go_wp2_with fail
 clear d0 d1 d2 d3 d4 d5
 generalize w.alloc (.cells #[.int .i64 0, .slice oa o.length oc, .slice ra rs.length rc, .slice pa p.length pc, .slice qa qs.length qc, .slice none 0 0] 45) = W at *
 refine (unhide M1 _ (by omega) (unhide O1) (unhide O2)).mono ?_
 rintro e w1 ⟨rfl, a1, a2, u1⟩
 have A1 := hide a1
 have A2 := hide a2
 replace O3 := hide ((unhide O3).outside u1 (by omega))
 replace O4 := hide ((unhide O4).outside u1 (by omega))
 replace K0 := hide (u1.kept (unhide K0) (by omega))
 have U1 := hide u1
 have z1 := u1.size
 clear a1 a2 u1 O1 O2 M1
 obtain ⟨d0, d1, d2, d3, d4, d5⟩ := cells6 (unhide K0)
 go_wp2_with fail
 clear d0 d1 d2 d3 d4 d5
 refine (unhide M2 _ (by omega) (unhide O3) (unhide O4)).mono ?_
 rintro e w2 ⟨rfl, a3, a4, u2⟩
 have A3 := hide a3
 have A4 := hide a4
 replace A1 := hide ((unhide A1).outside u2 (by omega))
 replace A2 := hide ((unhide A2).outside u2 (by omega))
 replace K0 := hide (u2.kept (unhide K0) (by omega))
 have UU : Hid (Outside B E w w2) := hide (((Below.outside ba).trans ((unhide U1).wide (by omega) (by omega))).trans (u2.wide (by omega) (by omega)))
 have z2 := u2.size
 clear a3 a4 u2 O3 O4 M2 U1
 obtain ⟨d0, d1, d2, d3, d4, d5⟩ := cells6 (unhide K0)
 go_wp2_with fail
 clear d0 d1 d2 d3 d4 d5
 refine (markLeaseS_nil _ _).mono ?_
 rintro e w3 ⟨rfl, rfl⟩
 go_wp2_with fail
 go_ret
 exact ⟨rfl, unhide A1, unhide A2, unhide A3, unhide A4, unhide UU⟩

set_option maxHeartbeats 1000000 in
set_option maxRecDepth 100000 in
theorem heldHouse_nil {o p : List (List Int)} {rs qs : List Rec} (hs : SizeZ 1048576 o rs) (ks : SizeZ 1048576 p qs) (k0 : Int) (hk0 : 0 ≤ k0) (hk1 : k0 ≤ 1000000000000000000) {vo vr vp vq : Value} {w : World}
  (h1 : HasL w vo (markL o k0)) (h2 : HasRs w vr (markRs rs (pos o k0 o.length) rs.length)) (h3 : HasL w vp (markL p (posRs rs (pos o k0 o.length) rs.length))) (h4 : HasRs w vq (markRs qs (pos p (posRs rs (pos o k0 o.length) rs.length) p.length) qs.length)) :
  Calls Tryz.prog 20 #[.agg #[.int .i64 0, vo, vr, vp, vq, .slice none 0 0], .int .i64 k0] w fun e w' => e = .returned (.int .i64 (posRs qs (pos p (posRs rs (pos o k0 o.length) rs.length) p.length) qs.length)) ∧ Below w.heap.size w w' := by
 have q1 := posZ_bound hs k0
 have q2 := posZ_bound ks (posRs rs (pos o k0 o.length) rs.length)
 obtain ⟨oa, oc, rfl, _⟩ := h1.form
 obtain ⟨ra, rc, rfl, _⟩ := h2.form
 obtain ⟨pa, pc, rfl, _⟩ := h3.form
 obtain ⟨qa, qc, rfl, _⟩ := h4.form
 simp only [markL_length, markRs_length] at *
 have ba := below_alloc (w := w) (.cells #[.int .i64 0, .slice oa o.length oc, .slice ra rs.length rc, .slice pa p.length pc, .slice qa qs.length qc, .slice none 0 0] 45)
 have K0 := hide (heap_alloc_new w (.cells #[.int .i64 0, .slice oa o.length oc, .slice ra rs.length rc, .slice pa p.length pc, .slice qa qs.length qc, .slice none 0 0] 45))
 have O1 := hide (h1.below ba)
 have O2 := hide (h2.below ba)
 have O3 := hide (h3.below ba)
 have O4 := hide (h4.below ba)
 clear h1 h2 h3 h4
 have M1 := hide (fun (w : World) (a : HasL w (.slice oa o.length oc) (markL o k0)) (b : HasRs w (.slice ra rs.length rc) (markRs rs (pos o k0 o.length) rs.length)) => heldZone_has hs k0 hk0 (by omega) a b)
 have M2 := hide (fun (w : World) (a : HasL w (.slice pa p.length pc) (markL p (posRs rs (pos o k0 o.length) rs.length))) (b : HasRs w (.slice qa qs.length qc) (markRs qs (pos p (posRs rs (pos o k0 o.length) rs.length) p.length) qs.length)) => heldZone_has ks (posRs rs (pos o k0 o.length) rs.length) (by omega) (by omega) a b)
 generalize markL o k0 = N1 at *
 generalize markRs rs (pos o k0 o.length) rs.length = R1 at *
 generalize posRs rs (pos o k0 o.length) rs.length = P1 at *
 generalize markL p P1 = N2 at *
 generalize markRs qs (pos p P1 p.length) qs.length = R2 at *
 generalize posRs qs (pos p P1 p.length) qs.length = P2 at *
 have n1 : ¬ P1 < 0 := by omega
 have n2 : ¬ P2 < 0 := by omega
 obtain ⟨d0, d1, d2, d3, d4, d5⟩ := cells6 (unhide K0)
 go_enter Tryz.func20, Tryz.ntmps20
 go_wp2_with fail
 clear d0 d1 d2 d3 d4 d5
 generalize w.alloc (.cells #[.int .i64 0, .slice oa o.length oc, .slice ra rs.length rc, .slice pa p.length pc, .slice qa qs.length qc, .slice none 0 0] 45) = W at *
 refine (unhide M1 _ (unhide O1) (unhide O2)).mono ?_
 rintro e w1 ⟨rfl, b1⟩
 replace O3 := hide ((unhide O3).below b1)
 replace O4 := hide ((unhide O4).below b1)
 replace K0 := hide (block_kept b1 (unhide K0))
 have bb1 := below_next ba b1
 clear b1 O1 O2 M1 ba
 obtain ⟨d0, d1, d2, d3, d4, d5⟩ := cells6 (unhide K0)
 go_wp2_with fail
 clear d0 d1 d2 d3 d4 d5
 refine (unhide M2 _ (unhide O3) (unhide O4)).mono ?_
 rintro e w2 ⟨rfl, b2⟩
 replace K0 := hide (block_kept b2 (unhide K0))
 have bb2 := below_next bb1 b2
 clear b2 O3 O4 M2 bb1
 obtain ⟨d0, d1, d2, d3, d4, d5⟩ := cells6 (unhide K0)
 go_wp2_with fail
 clear d0 d1 d2 d3 d4 d5
 refine (heldLeaseS_nil _ _).mono ?_
 rintro e w3 ⟨rfl, rfl⟩
 go_wp2_with fail
 go_ret
 exact ⟨rfl, bb2⟩
end Go.Proofs.YtfgcmjpkgdjcfaaGreat
