/-
  Contracts of the helpers of the laws for records (szRr, eqRr). Contracts of the helpers of the laws for records (toRr). Contracts of the helpers of the laws for rows of records (szRrS, toRrS, eqRrS).
-/
import Derived.Test.YtfgcmjpkgdjcfaaGreatHouseNewG10
import Derived.Test.YtfgcmjpkgdjcfaaGreatHouseNewG14
import Derived.Test.YtfgcmjpkgdjcfaaGreatHouseNewG03
import Derived.Test.YtfgcmjpkgdjcfaaGreatHouseNewG07
import Derived.Test.YtfgcmjpkgdjcfaaGreatHouseNewG11
import Derived.Deep.RegionHeld3
namespace Go.Proofs.YtfgcmjpkgdjcfaaGreat
open Go.RowKit
set_option linter.unusedVariables false

theorem HasI.draws {w : World} {v : Value} {l : List Int} (h : HasI w v l) (n : Nat) : HasI (w.drewN n) v l := h.below (below_draws n)
theorem eqIntS_has {v v' : Value} {l : List Int} {w : World} (h : HasI w v l) (h' : HasI w v' l) (hl : l.length ≤ 2097152) :
  Calls Tryz.prog 111 #[v, v'] w fun e w' => e = .returned (.bool true) ∧ ∃ n, w' = w.drewN n := by
 obtain ⟨a, cap, rfl, hL⟩ := h.form
 obtain ⟨a', cap', rfl, hL'⟩ := h'.form
 exact eqIntS_eq a a' cap cap' l w hL hL' hl

set_option maxHeartbeats 1000000 in
set_option maxRecDepth 100000 in
theorem eqRr_has {vn vt vx vi un ut ux ui : Value} {r : Rec} {w : World} (h : HasR w vn vt vx vi r) (h' : HasR w un ut ux ui r) (hs : SizeR 2097152 r) :
  Calls Tryz.prog 78 #[.agg #[vn, .int .i64 r.type, .int .i64 r.ttl, .int .i64 r.addr, vt, vx, vi], .agg #[un, .int .i64 r.type, .int .i64 r.ttl, .int .i64 r.addr, ut, ux, ui]] w fun e w' => e = .returned (.bool true) ∧ Below w.heap.size w w' := by
 obtain ⟨na, nc, rfl, _⟩ := h.name.form
 obtain ⟨ta, tc, rfl, _⟩ := h.to.form
 obtain ⟨xa, xc, rfl, _⟩ := h.text.form
 obtain ⟨ia, ic, rfl, _⟩ := h.nums.form
 obtain ⟨na', nc', rfl, _⟩ := h'.name.form
 obtain ⟨ta', tc', rfl, _⟩ := h'.to.form
 obtain ⟨xa', xc', rfl, _⟩ := h'.text.form
 obtain ⟨ia', ic', rfl, _⟩ := h'.nums.form
 have b0 := below2 w (.cells #[.slice na r.name.length nc, .int .i64 r.type, .int .i64 r.ttl, .int .i64 r.addr, .slice ta r.to.length tc, .slice xa r.text.length xc, .slice ia r.nums.length ic] 59) (.cells #[.slice na' r.name.length nc', .int .i64 r.type, .int .i64 r.ttl, .int .i64 r.addr, .slice ta' r.to.length tc', .slice xa' r.text.length xc', .slice ia' r.nums.length ic'] 59)
 obtain ⟨hsz, k0, x0⟩ := box2 w (.cells #[.slice na r.name.length nc, .int .i64 r.type, .int .i64 r.ttl, .int .i64 r.addr, .slice ta r.to.length tc, .slice xa r.text.length xc, .slice ia r.nums.length ic] 59) #[.slice na' r.name.length nc', .int .i64 r.type, .int .i64 r.ttl, .int .i64 r.addr, .slice ta' r.to.length tc', .slice xa' r.text.length xc', .slice ia' r.nums.length ic'] 59
 have H0 := hide (h.below b0)
 have H0' := hide (h'.below b0)
 have HS := hide hs
 have K0 := hide k0
 have X0 := hide x0
 clear h h' hs k0 x0
 have e1 : (r.type != r.type) = false := by simp
 have e2 : (r.ttl != r.ttl) = false := by simp
 have e3 : (r.addr != r.addr) = false := by simp
 go_enter Tryz.func78, Tryz.ntmps78
 go_wp2_with fail
 generalize (w.alloc (.cells #[.slice na r.name.length nc, .int .i64 r.type, .int .i64 r.ttl, .int .i64 r.addr, .slice ta r.to.length tc, .slice xa r.text.length xc, .slice ia r.nums.length ic] 59)).alloc (.cells #[.slice na' r.name.length nc', .int .i64 r.type, .int .i64 r.ttl, .int .i64 r.addr, .slice ta' r.to.length tc', .slice xa' r.text.length xc', .slice ia' r.nums.length ic'] 59) = W at *
 refine (eqName_has (unhide H0).name (unhide H0').name (unhide HS).names).mono ?_
 rintro e w1 ⟨rfl, b1⟩
 have bb1 := below_next b0 b1
 have K1 := hide (block_kept b1 (unhide K0))
 have X1 := hide (block_kept b1 (unhide X0))
 have H1 := hide ((unhide H0).below b1)
 have H1' := hide ((unhide H0').below b1)
 obtain ⟨d0, d1, d2, d3, d4, d5, d6⟩ := cells7 (unhide K1)
 obtain ⟨f0, f1, f2, f3, f4, f5, f6⟩ := cells7 (unhide X1)
 clear b0 K0 X0 H0 H0' b1
 go_wp2_with fail
 clear d0 d1 d2 d3 d4 d5 d6 f0 f1 f2 f3 f4 f5 f6
 refine (eqName_has (unhide H1).to (unhide H1').to (unhide HS).tos).mono ?_
 rintro e w2 ⟨rfl, b2⟩
 have bb2 := below_next bb1 b2
 have K2 := hide (block_kept b2 (unhide K1))
 have X2 := hide (block_kept b2 (unhide X1))
 have H2 := hide ((unhide H1).below b2)
 have H2' := hide ((unhide H1').below b2)
 obtain ⟨d0, d1, d2, d3, d4, d5, d6⟩ := cells7 (unhide K2)
 obtain ⟨f0, f1, f2, f3, f4, f5, f6⟩ := cells7 (unhide X2)
 clear bb1 K1 X1 H1 H1' b2
 go_wp2_with fail
 clear d0 d1 d2 d3 d4 d5 d6 f0 f1 f2 f3 f4 f5 f6
 refine (eqByteS_has (unhide H2).text (unhide H2').text (unhide HS).text).mono ?_
 rintro e w3 ⟨rfl, q3, hq3⟩
 have b3 : Below w2.heap.size w2 w3 := by rw [hq3]; exact below_draws q3
 clear hq3
 have bb3 := below_next bb2 b3
 have K3 := hide (block_kept b3 (unhide K2))
 have X3 := hide (block_kept b3 (unhide X2))
 have H3 := hide ((unhide H2).below b3)
 have H3' := hide ((unhide H2').below b3)
 obtain ⟨d0, d1, d2, d3, d4, d5, d6⟩ := cells7 (unhide K3)
 obtain ⟨f0, f1, f2, f3, f4, f5, f6⟩ := cells7 (unhide X3)
 clear bb2 K2 X2 H2 H2' b3
 go_wp2_with fail
 clear d0 d1 d2 d3 d4 d5 d6 f0 f1 f2 f3 f4 f5 f6
 refine (eqIntS_has (unhide H3).nums (unhide H3').nums (unhide HS).nums).mono ?_
 rintro e w4 ⟨rfl, q4, hq4⟩
 have b4 : Below w3.heap.size w3 w4 := by rw [hq4]; exact below_draws q4
 clear hq4
 go_wp2_with fail
 go_ret
 exact ⟨rfl, below_next bb3 b4⟩
end Go.Proofs.YtfgcmjpkgdjcfaaGreat

namespace Go.Proofs.YtfgcmjpkgdjcfaaGreat
open Go.RowKit
set_option linter.unusedVariables false

end Go.Proofs.YtfgcmjpkgdjcfaaGreat

namespace Go.Proofs.YtfgcmjpkgdjcfaaGreat
open Go.RowKit
set_option linter.unusedVariables false

set_option maxHeartbeats 1000000 in
set_option maxRecDepth 100000 in
theorem eqRrS_has {v v' : Value} {rs : List Rec} {w : World} (h : HasRs w v rs) (h' : HasRs w v' rs) (hl2 : ∀ i, i < rs.length → SizeR 2097152 (rs.getD i recZ)) :
  Calls Tryz.prog 38 #[v, v'] w fun e w' => e = .returned (.bool true) ∧ Below w.heap.size w w' := by
 obtain ⟨a, cap, rfl, hl, hm⟩ := h.form
 obtain ⟨a', cap', rfl, hl', hm'⟩ := h'.form
 unfold maxLen at hm hm'
 have HL := hide hl2
 clear hl2
 generalize hn : rs.length = m at *
 have HN := hide hn
 clear hn
 go_enter Tryz.func38, Tryz.ntmps38
 go_wp2
 go_loopw [5] (fun i wr => ∃ k : Nat, k ≤ m ∧ i = .int .i64 k ∧ Below w.heap.size w wr) (fun i _ => m - (intOf i).toNat)
 case atStart => exact ⟨0, Nat.zero_le _, rfl, Below.refl _ _⟩
 case round =>
  obtain ⟨k, hk, rfl, hb⟩ := hrel
  by_cases hlt : k < m
  ·obtain ⟨b, off, na, nc, ta, tc, xa, xc, ia, ic, rfl, hbl, hc, hu⟩ := (h.below hb).here (k := k) (by rw [unhide HN]; exact hlt)
   obtain ⟨b', off', na', nc', ta', tc', xa', xc', ia', ic', rfl, hbl', hc', hu'⟩ := (h'.below hb).here (k := k) (by rw [unhide HN]; exact hlt)
   have HLK := hide (unhide HL k hlt)
   generalize rs.getD k recZ = rk at *
   have bd := below_drew (w := wr)
   have HU := hide (hu.below bd)
   have HU' := hide (hu'.below bd)
   have hbd := below_next hb bd
   have HC := hide (range_below hc hbl bd)
   have HC' := hide (range_below hc' hbl' bd)
   have hbld : b < wr.drew.heap.size := hbl
   have hbld' : b' < wr.drew.heap.size := hbl'
   clear hu hu' hc hc' hb
   go_wp2_with fail
   go_region_held3 (fun w' => (w'.cell? ⟨b, off + k * 7, none⟩ = some (.slice na rk.name.length nc) ∧ w'.cell? ⟨b, off + k * 7 + 1, none⟩ = some (.int .i64 rk.type) ∧ w'.cell? ⟨b, off + k * 7 + 2, none⟩ = some (.int .i64 rk.ttl) ∧ w'.cell? ⟨b, off + k * 7 + 3, none⟩ = some (.int .i64 rk.addr) ∧ w'.cell? ⟨b, off + k * 7 + 4, none⟩ = some (.slice ta rk.to.length tc) ∧ w'.cell? ⟨b, off + k * 7 + 5, none⟩ = some (.slice xa rk.text.length xc) ∧ w'.cell? ⟨b, off + k * 7 + 6, none⟩ = some (.slice ia rk.nums.length ic)) ∧ (w'.cell? ⟨b', off' + k * 7, none⟩ = some (.slice na' rk.name.length nc') ∧ w'.cell? ⟨b', off' + k * 7 + 1, none⟩ = some (.int .i64 rk.type) ∧ w'.cell? ⟨b', off' + k * 7 + 2, none⟩ = some (.int .i64 rk.ttl) ∧ w'.cell? ⟨b', off' + k * 7 + 3, none⟩ = some (.int .i64 rk.addr) ∧ w'.cell? ⟨b', off' + k * 7 + 4, none⟩ = some (.slice ta' rk.to.length tc') ∧ w'.cell? ⟨b', off' + k * 7 + 5, none⟩ = some (.slice xa' rk.text.length xc') ∧ w'.cell? ⟨b', off' + k * 7 + 6, none⟩ = some (.slice ia' rk.nums.length ic')))
    (first | exact ⟨range7 (unhide HC), range7 (unhide HC')⟩ | exact ⟨range7 (range_below (unhide HC) hbld b2), range7 (range_below (unhide HC') hbld' b2)⟩)
    (first
    | (go_at_call 78; refine (eqRr_has (unhide HU) (unhide HU') (unhide HLK)).mono ?_; rintro e w2 ⟨rfl, b2⟩))
   go_wp2
   exact ⟨⟨k + 1, by omega, by go_num, below_next hbd b2⟩, by simp [intOf]; omega⟩
  ·go_wp2
   go_ret
   exact ⟨rfl, hb⟩
end Go.Proofs.YtfgcmjpkgdjcfaaGreat
