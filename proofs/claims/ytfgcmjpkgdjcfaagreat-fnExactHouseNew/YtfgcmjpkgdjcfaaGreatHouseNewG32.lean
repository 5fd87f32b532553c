/-
  Plain facts: three results of a function. No program is named here. Contract of the program's HouseNew. Contracts of the specification's Lower.
-/
import Derived.Test.YtfgcmjpkgdjcfaaGreatHouseNewG00
import Derived.Test.YtfgcmjpkgdjcfaaGreatHouseNewG10
import Derived.Test.YtfgcmjpkgdjcfaaGreatHouseNewG28
import Derived.Test.YtfgcmjpkgdjcfaaGreatHouseNewG31
import Derived.Test.YtfgcmjpkgdjcfaaGreatHouseNewG02
import Derived.Test.YtfgcmjpkgdjcfaaGreatHouseNewG01
namespace Go.Proofs.YtfgcmjpkgdjcfaaGreat
open Go.RowKit

end Go.Proofs.YtfgcmjpkgdjcfaaGreat

namespace Go.Proofs.YtfgcmjpkgdjcfaaGreat
open Go.RowKit
set_option linter.unusedVariables false
set_option linter.unusedSimpArgs false

set_option maxHeartbeats 1000000 in
set_option maxRecDepth 100000 in
theorem implHouseNew_own (s : Int) (w : World) :
    Calls Tryz.prog 17 #[.int .i64 s] w fun e w' => ∃ uo ur up uq, e = .returned (.tuple #[.agg #[.int .i64 0, uo, ur, up, uq, .slice none 0 0], .bool (newOk s)]) ∧ (∃ c, w.heap.size ≤ c ∧ OwnZ w.heap.size c w' uo ur (newO s) (newR s) ∧ OwnZ c w'.heap.size w' up uq (newP s) (newQ s)) ∧ Below w.heap.size w w' := by
  have b0 := below_alloc (w := w) (.cells #[.int .i64 0, .slice none 0 0, .slice none 0 0, .slice none 0 0, .slice none 0 0, .slice none 0 0] 45)
  have K0 := hide (heap_alloc_new w (.cells #[.int .i64 0, .slice none 0 0, .slice none 0 0, .slice none 0 0, .slice none 0 0, .slice none 0 0] 45))
  have HN1 := hide (show homeN.length ≤ 1048576 by decide +kernel)
  have HN2 := hide (show backN.length ≤ 1048576 by decide +kernel)
  have Z1 := hide (show (nameRead (numsOf ⟨#[104, 111, 109, 101, 46]⟩)).1 = homeN from rfl)
  have Z2 := hide (show (nameRead (numsOf ⟨#[48, 46, 48, 46, 49, 48, 46, 105, 110, 45, 97, 100, 100, 114, 46, 97, 114, 112, 97, 46]⟩)).1 = backN from rfl)
  obtain ⟨hn, HHN⟩ : ∃ hn, Hid (homeN = hn) := ⟨_, hide rfl⟩
  obtain ⟨bn, HBN⟩ : ∃ bn, Hid (backN = bn) := ⟨_, hide rfl⟩
  have HOK := hide (show newOk s = ((zoneNewOf hn s).2 && (zoneNewOf bn s).2) by rw [← unhide HHN, ← unhide HBN]; rfl)
  have HO := hide (show newO s = if newOk s = true then (zoneNewOf hn s).1.1 else [] by rw [← unhide HHN]; rfl)
  have HR := hide (show newR s = if newOk s = true then (zoneNewOf hn s).1.2 else [] by rw [← unhide HHN]; rfl)
  have HP := hide (show newP s = if newOk s = true then (zoneNewOf bn s).1.1 else [] by rw [← unhide HBN]; rfl)
  have HQ := hide (show newQ s = if newOk s = true then (zoneNewOf bn s).1.2 else [] by rw [← unhide HBN]; rfl)
  rw [unhide HHN] at Z1 HN1
  rw [unhide HBN] at Z2 HN2
  clear HHN HBN
  have zz := block_lt (unhide K0)
  generalize newO s = NO at *
  generalize newR s = NR at *
  generalize newP s = NP at *
  generalize newQ s = NQ at *
  generalize newOk s = OK at *
  go_enter Tryz.func17, Tryz.ntmps17
  go_wp2_with fail
  generalize w.alloc (.cells #[.int .i64 0, .slice none 0 0, .slice none 0 0, .slice none 0 0, .slice none 0 0, .slice none 0 0] 45) = W at *
  refine (nameOf_any ⟨#[104, 111, 109, 101, 46]⟩ _ (by decide)).mono ?_
  rw [unhide Z1]
  rintro e w1 ⟨v1, rfl, o1, b1⟩
  have bb1 := below_next b0 b1
  have K1 := hide (block_kept b1 (unhide K0))
  have z1 := b1.size
  have C1 := hide (implZoneNew_own (s := s) o1.hasL)
  clear b0 b1 K0 o1
  go_wp2_with fail
  refine (unhide C1).mono ?_
  rintro e w2 ⟨zo, zr, rfl, oz, b2⟩
  have bb2 := below_next bb1 b2
  have K2 := hide (block_kept b2 (unhide K1))
  have OZ := hide oz
  have z2 := b2.size
  obtain ⟨oa, oc, rfl, _⟩ := (oz.hasZ).name.form
  obtain ⟨ra, rc, rfl, _⟩ := (oz.hasZ).recs.form
  clear C1 b2 K1 bb1 oz
  generalize hA : (zoneNewOf hn s).1.1 = A at *
  generalize hB : (zoneNewOf hn s).1.2 = B at *
  generalize hC : (zoneNewOf hn s).2 = C at *
  clear hA hB hC
  have b3 := below_alloc (w := w2) (.cells #[.slice oa A.length oc, .slice ra B.length rc] 33)
  have KZ := hide (heap_alloc_new w2 (.cells #[.slice oa A.length oc, .slice ra B.length rc] 33))
  have bb3 := below_next bb2 b3
  have K3 := hide (block_kept b3 (unhide K2))
  have OZ3 := hide ((unhide OZ).below b3)
  have z3 := b3.size
  have zk3 := block_lt (unhide KZ)
  clear bb2 b3 K2 OZ
  go_wp2_with fail
  generalize w2.alloc (.cells #[.slice oa A.length oc, .slice ra B.length rc] 33) = w3 at *
  refine (nameOf_any ⟨#[48, 46, 48, 46, 49, 48, 46, 105, 110, 45, 97, 100, 100, 114, 46, 97, 114, 112, 97, 46]⟩ _ (by decide)).mono ?_
  rw [unhide Z2]
  rintro e w4 ⟨v4, rfl, o3, b4⟩
  have bb4 := below_next bb3 b4
  have K4 := hide (block_kept b4 (unhide K3))
  have KZ4 := hide (block_kept b4 (unhide KZ))
  have OZ4 := hide ((unhide OZ3).below b4)
  have z4 := b4.size
  have C2 := hide (implZoneNew_own (s := s) o3.hasL)
  clear bb3 b4 K3 KZ OZ3 o3
  go_wp2_with fail
  refine (unhide C2).mono ?_
  rintro e w5 ⟨yo, yr, rfl, oy, b5⟩
  have bb5 := below_next bb4 b5
  have K5 := hide (block_kept b5 (unhide K4))
  have KZ5 := hide (block_kept b5 (unhide KZ4))
  have OZ5 := hide ((unhide OZ4).below b5)
  have OY := hide oy
  have z5 := b5.size
  obtain ⟨pa, pc, rfl, _⟩ := (oy.hasZ).name.form
  obtain ⟨qa, qc, rfl, _⟩ := (oy.hasZ).recs.form
  clear C2 b5 K4 KZ4 OZ4 bb4 oy
  generalize hA : (zoneNewOf bn s).1.1 = A2 at *
  generalize hB : (zoneNewOf bn s).1.2 = B2 at *
  generalize hC : (zoneNewOf bn s).2 = D at *
  clear hA hB hC
  have b6 := below_alloc (w := w5) (.cells #[.slice pa A2.length pc, .slice qa B2.length qc] 33)
  have KY := hide (heap_alloc_new w5 (.cells #[.slice pa A2.length pc, .slice qa B2.length qc] 33))
  have bb6 := below_next bb5 b6
  have K6 := hide (block_kept b6 (unhide K5))
  have KZ6 := hide (block_kept b6 (unhide KZ5))
  have OZ6 := hide ((unhide OZ5).below b6)
  have OY6 := hide ((unhide OY).below b6)
  have z6 := b6.size
  have zk6 := block_lt (unhide KY)
  clear bb5 b6 K5 KZ5 OZ5 OY
  have hok : OK = (C && D) := unhide HOK
  obtain ⟨c0, c1⟩ := cells2 (unhide KZ6)
  obtain ⟨e0, e1⟩ := cells2 (unhide KY)
  obtain ⟨d0, d1, d2, d3, d4, d5⟩ := cells6 (unhide K6)
  obtain ⟨g0, g1, g2, g3, g4, g5⟩ := frozen6 (unhide K6)
  cases hc : C && D with
  | false =>
    rw [hc] at hok
    subst hok
    have hO := unhide HO
    have hR := unhide HR
    have hP := unhide HP
    have hQ := unhide HQ
    simp only [Bool.false_eq_true, if_false] at hO hR hP hQ
    subst hO hR hP hQ
    clear HO HR HP HQ HOK
    have KF := hide (sets6 (unhide K6) (.int .i64 0) (.slice none 0 0) (.slice none 0 0) (.slice none 0 0) (.slice none 0 0) (.slice none 0 0))
    have UF := hide (outside_set6 (w5.alloc (.cells #[.slice pa A2.length pc, .slice qa B2.length qc] 33)) w.heap.size (.int .i64 0) (.slice none 0 0) (.slice none 0 0) (.slice none 0 0) (.slice none 0 0) (.slice none 0 0))
    cases C with
    | false =>
      go_wp2_with fail
      refine bodyPost_ret (results_cell_tmp_row rfl _ _ w.heap.size 45 #[.int .i64 0, .slice none 0 0, .slice none 0 0, .slice none 0 0, .slice none 0 0, .slice none 0 0] (0, 0) _ rfl (unhide KF) Tryz.underlying45 rfl (by kernel_rfl)) rfl ?_
      have zu := (unhide UF).size
      exact ⟨_, _, _, _, rfl, ⟨w.heap.size, Nat.le_refl _, ownZ_nil _ _ _ (Nat.le_refl _), ownZ_nil _ _ _ (by omega)⟩, (unhide UF).below bb6 (Nat.le_refl _)⟩
    | true =>
      obtain rfl : D = false := by simpa using hc
     
      go_wp2_with fail
      refine bodyPost_ret (results_cell_tmp_row rfl _ _ w.heap.size 45 #[.int .i64 0, .slice none 0 0, .slice none 0 0, .slice none 0 0, .slice none 0 0, .slice none 0 0] (0, 0) _ rfl (unhide KF) Tryz.underlying45 rfl (by kernel_rfl)) rfl ?_
      have zu := (unhide UF).size
      exact ⟨_, _, _, _, rfl, ⟨w.heap.size, Nat.le_refl _, ownZ_nil _ _ _ (Nat.le_refl _), ownZ_nil _ _ _ (by omega)⟩, (unhide UF).below bb6 (Nat.le_refl _)⟩
  | true =>
    obtain ⟨rfl, rfl⟩ : C = true ∧ D = true := by simpa using hc
    rw [hc] at hok
    subst hok
    have hO := unhide HO
    have hR := unhide HR
    have hP := unhide HP
    have hQ := unhide HQ
    simp only [if_true] at hO hR hP hQ
    subst hO hR hP hQ
    clear HO HR HP HQ HOK
    have KF := hide (sets6 (unhide K6) (.int .i64 0) (.slice oa NO.length oc) (.slice ra NR.length rc) (.slice pa NP.length pc) (.slice qa NQ.length qc) (.slice none 0 0))
    have UF := hide (outside_set6 (w5.alloc (.cells #[.slice pa NP.length pc, .slice qa NQ.length qc] 33)) w.heap.size (.int .i64 0) (.slice oa NO.length oc) (.slice ra NR.length rc) (.slice pa NP.length pc) (.slice qa NQ.length qc) (.slice none 0 0))
    go_wp2_with fail
    have GF := hide (grown_set6 (w5.alloc (.cells #[.slice pa NP.length pc, .slice qa NQ.length qc] 33)) w.heap.size (.int .i64 0) (.slice oa NO.length oc) (.slice ra NR.length rc) (.slice pa NP.length pc) (.slice qa NQ.length qc) (.slice none 0 0))
    refine bodyPost_ret (results_cell_tmp_row rfl _ _ w.heap.size 45 #[.int .i64 0, .slice oa NO.length oc, .slice ra NR.length rc, .slice pa NP.length pc, .slice qa NQ.length qc, .slice none 0 0] (0, 0) _ rfl (unhide KF) Tryz.underlying45 rfl (by kernel_rfl)) rfl ?_
    have zu := (unhide UF).size
    exact ⟨_, _, _, _, rfl, ⟨w2.heap.size, by omega, ((unhide OZ6).outside (unhide UF) (.inr (by omega))).wide (by omega) (Nat.le_refl _), ((unhide OY6).outside (unhide UF) (.inr (by omega))).wide (by omega) (by omega)⟩, (unhide UF).below bb6 (Nat.le_refl _)⟩
end Go.Proofs.YtfgcmjpkgdjcfaaGreat

namespace Go.Proofs.YtfgcmjpkgdjcfaaGreat
open Go.RowKit
set_option linter.unusedVariables false

set_option maxHeartbeats 400000 in
set_option maxRecDepth 100000 in
theorem specLower_some (B g cap : Nat) (l : List Int) (w : World) (h : Own B 5 w (.slice (some ⟨g, 0, none⟩) l.length cap) l) (hl : l.length ≤ 1048576) (hb : ∀ k, 0 ≤ l.getD k 0 ∧ l.getD k 0 ≤ 255) :
  Calls Tryz.prog 130 #[.slice (some ⟨g, 0, none⟩) l.length cap] w fun e w' => ∃ v, e = .returned v ∧ Own w.heap.size 5 w' v (lowered l l.length) ∧ Below w.heap.size w w' := by
 have hR := (h.alloc (.cells (([] : List Int).map (Value.int .u8)).toArray 5)).reads
 have HB := hide hb
 clear hb
 generalize hn : l.length = n at *
 have HN := hide hn
 clear hn
 go_enter Tryz.func130, Tryz.ntmps130
 go_wp2_with (at_builtin; refine append_bytes rfl _ _ 56 5 rfl Tryz.underlying56 info_u8 w.heap.size _ _ [] l rfl rfl (own_lit w w.heap.size 5 [] (Nat.le_refl _) (by simp)) hR (by rw [unhide HN]; simp; omega) (by simp) ?_)
 intro v1 w1 o1 hgrow
 have b1 : Below w.heap.size w w1 := ((Below.refl _ _).alloc (Nat.le_refl _) _).grown hgrow (by simp) (fun k hk => by simp [Value.ownBlock] at hk; omega)
 clear hgrow hR
 by_cases h0 : n = 0
 ·subst h0
  obtain rfl : l = [] := List.eq_nil_of_length_eq_zero (unhide HN)
  obtain ⟨a1, cap1, rfl, _⟩ := o1.lies
  go_wp2
  go_loop [4] (fun i => i = .int .i64 0) (fun i => 0)
  case atStart => rfl
  case round =>
   subst hrel
   go_wp2
   go_ret
   exact ⟨_, rfl, o1, b1⟩
 rcases o1.form with ⟨rfl, rfl⟩ | ⟨g1, cap1, hv1, hB1, hlt1, _⟩
 ·exact absurd (unhide HN).symm (by simpa using h0)
 ·rw [unhide HN] at hv1
  subst hv1
  clear h0
  go_wp2
  go_loopw [4] (fun i wr => ∃ k : Nat, k ≤ n ∧ i = .int .i64 k ∧ wr.ownsRow w.heap.size 5 1 (.slice (some ⟨g1, 0, none⟩) n cap1) n ((lowered l k).map (Value.int .u8)) ∧ Below w.heap.size w wr) (fun i _ => n - (intOf i).toNat)
  case atStart => exact ⟨0, Nat.zero_le _, rfl, by rw [lowered_zero]; have o2 := o1; unfold Own at o2; rw [unhide HN] at o2; exact o2, b1⟩
  case round =>
   obtain ⟨k, hk, rfl, ho, hbw⟩ := hrel
   by_cases hlt : k < n
   ·have hc := World.ownsRow.cellAt ho k (by omega)
    rw [map_at _ _ (by rw [lowered_length, unhide HN]; exact hlt), lowered_getD _ _ _ (Nat.le_refl _)] at hc
    have hf := World.ownsRow.frozenAt ho k
    have hx := (unhide HB) k
    have hst := hide (World.ownsRow.stored ho k (.int .u8 (low (l.getD k 0))))
    have HO := hide ho
    clear ho
    have hsucc := hide (lowered_succ l k)
    have hsame := hide (lowered_same l k (k + 1) (by omega))
    generalize hxe : l.getD k 0 = x at *
    have HX := hide hxe
    clear hxe
    by_cases h65 : 65 ≤ x
    ·by_cases h90 : x ≤ 90
     ·go_wp2
      refine ⟨⟨k + 1, by omega, by go_num, ?_, hbw.setCell hB1 _⟩, by simp [intOf]; omega⟩
      have := (unhide hst).1
      rw [← List.map_set, unhide hsucc, low_great x h65 h90] at this
      exact this
     ·go_wp2
      refine ⟨⟨k + 1, by omega, by go_num, ?_, hbw⟩, by simp [intOf]; omega⟩
      rw [unhide hsame (fun j h1 h2 => by (obtain rfl : j = k := by omega); (rw [unhide HX]; omega))]
      exact unhide HO
    ·go_wp2
     refine ⟨⟨k + 1, by omega, by go_num, ?_, hbw⟩, by simp [intOf]; omega⟩
     rw [unhide hsame (fun j h1 h2 => by (obtain rfl : j = k := by omega); (rw [unhide HX]; omega))]
     exact unhide HO
   ·go_wp2
    go_ret
    obtain rfl : k = n := by omega
    refine ⟨_, rfl, ?_, hbw⟩
    unfold Own
    rw [lowered_length, unhide HN]
    exact ho

set_option maxHeartbeats 400000 in
set_option maxRecDepth 100000 in
theorem specLower_nil (w : World) :
  Calls Tryz.prog 130 #[.slice none 0 0] w fun e w' => ∃ v, e = .returned v ∧ Own w.heap.size 5 w' v [] ∧ Below w.heap.size w w' := by
 go_enter Tryz.func130, Tryz.ntmps130
 go_wp2_with (at_builtin; refine append_bytes rfl _ _ 56 5 rfl Tryz.underlying56 info_u8 w.heap.size _ _ [] [] rfl rfl (own_lit w w.heap.size 5 [] (Nat.le_refl _) (by simp)) (.inl ⟨rfl, rfl⟩) (by simp) (by simp) ?_)
 intro v1 w1 o1 hgrow
 have b1 : Below w.heap.size w w1 := ((Below.refl _ _).alloc (Nat.le_refl _) _).grown hgrow (by simp) (fun k hk => by simp [Value.ownBlock] at hk; omega)
 clear hgrow
 obtain ⟨a1, cap1, rfl, _⟩ := o1.lies
 go_wp2
 go_loop [4] (fun i => i = .int .i64 0) (fun i => 0)
 case atStart => rfl
 case round =>
  subst hrel
  go_wp2
  go_ret
  exact ⟨_, rfl, o1, b1⟩

theorem specLower_any {B : Nat} {v : Value} {l : List Int} {w : World} (h : Own B 5 w v l) (hl : l.length ≤ 1048576) (hb : ∀ k, 0 ≤ l.getD k 0 ∧ l.getD k 0 ≤ 255) :
  Calls Tryz.prog 130 #[v] w fun e w' => ∃ v', e = .returned v' ∧ Own w.heap.size 5 w' v' (lowered l l.length) ∧ Below w.heap.size w w' := by
 rcases h.form with ⟨rfl, rfl⟩ | ⟨g, cap, rfl, _⟩
 ·exact specLower_nil w
 ·exact specLower_some B g cap l w h hl hb
end Go.Proofs.YtfgcmjpkgdjcfaaGreat
