/-
  Contracts of the helpers of the laws for records (szRr, eqRr).
-/
import Derived.Test.YtpolekinfobecaaGreatCacheOkG04
import Derived.Test.YtpolekinfobecaaGreatCacheOkG10
import Derived.Test.YtpolekinfobecaaGreatCacheOkG11
namespace Go.Proofs.YtpolekinfobecaaGreat
open Go.RowKit
set_option linter.unusedVariables false

set_option maxHeartbeats 400000 in
set_option maxRecDepth 100000 in
theorem szIntS_any (a : Option Addr) (len cap : Nat) (left : Int) (w : World) (hm : len ≤ maxLen) (h0 : 0 ≤ left) (h1 : left ≤ 1048576) :
  Calls Tryz.prog 111 #[.slice a len cap, .int .i64 left] w fun e w' => e = .returned (.int .i64 (if (len : Int) ≤ left then left - len else -1)) ∧ w = w' := by
 unfold maxLen at hm
 by_cases h : (len : Int) ≤ left
 ·rw [if_pos h]
  have hy : 0 ≤ left - len := by omega
  go_enter Tryz.func111, Tryz.ntmps111
  go_wp2
  go_ret
  exact ⟨rfl, rfl⟩
 ·rw [if_neg h]
  have hy : left - len < 0 := by omega
  go_enter Tryz.func111, Tryz.ntmps111
  go_wp2
  go_ret
  exact ⟨rfl, rfl⟩

set_option maxHeartbeats 1000000 in
set_option maxRecDepth 100000 in
theorem szRr_any (an : Option Addr) (cn : Nat) (ato : Option Addr) (ct : Nat) (ax : Option Addr) (cx : Nat) (ai : Option Addr) (ci : Nat) (r : Rec) (left : Int) (w : World) (h : InR w an ato ax ai r) (hm : SizeR maxLen r) (h0 : 0 ≤ left) (h1 : left ≤ 1048576) :
  Calls Tryz.prog 86 #[(.agg #[.slice an r.name.length cn, .int .i64 r.type, .int .i64 r.ttl, .int .i64 r.addr, .slice ato r.to.length ct, .slice ax r.text.length cx, .slice ai r.nums.length ci]), .int .i64 left] w fun e w' => (∃ y : Int, e = .returned (.int .i64 y) ∧ -1 ≤ y ∧ y ≤ left ∧ (0 ≤ y → SizeR left.toNat r)) ∧ Below w.heap.size w w' := by
 have b0 := below_alloc (w := w) (.cells #[.slice an r.name.length cn, .int .i64 r.type, .int .i64 r.ttl, .int .i64 r.addr, .slice ato r.to.length ct, .slice ax r.text.length cx, .slice ai r.nums.length ci] 108)
 have k0 := heap_alloc_new w (.cells #[.slice an r.name.length cn, .int .i64 r.type, .int .i64 r.ttl, .int .i64 r.addr, .slice ato r.to.length ct, .slice ax r.text.length cx, .slice ai r.nums.length ci] 108)
 have I0 := hide (h.below b0)
 have HM := hide hm
 clear h hm
 have k0' := hide k0
 go_enter Tryz.func86, Tryz.ntmps86
 go_wp2_with fail
 generalize w.alloc (.cells #[.slice an r.name.length cn, .int .i64 r.type, .int .i64 r.ttl, .int .i64 r.addr, .slice ato r.to.length ct, .slice ax r.text.length cx, .slice ai r.nums.length ci] 108) = W at *
 refine (szName_any an cn r.name left _ (unhide I0).name (unhide HM).name (unhide HM).names h0 h1).mono ?_
 rintro e w1 ⟨⟨y1, rfl, ya1, yb1, yc1⟩, b1⟩
 have bb1 := below_next b0 b1
 by_cases n1 : y1 < 0
 ·clear yc1 k0 b0 b1
  go_wp2
  go_ret
  exact ⟨⟨-1, rfl, by omega, by omega, fun q => by omega⟩, bb1⟩
 have Y1 := hide (yc1 (by omega))
 have k1 := hide (block_kept b1 k0)
 have I1 := hide ((unhide I0).below b1)
 obtain ⟨d0, d1, d2, d3, d4, d5, d6⟩ := cells7 (unhide k1)
 clear yc1 k0 b0 b1 I0 k0'
 go_wp2_with fail
 clear d0 d1 d2 d3 d4 d5 d6
 refine (szName_any ato ct r.to y1 _ (unhide I1).to (unhide HM).to (unhide HM).tos (by omega) (by omega)).mono ?_
 rintro e w2 ⟨⟨y2, rfl, ya2, yb2, yc2⟩, b2⟩
 have bb2 := below_next bb1 b2
 by_cases n2 : y2 < 0
 ·clear yc2 b2
  go_wp2
  go_ret
  exact ⟨⟨-1, rfl, by omega, by omega, fun q => by omega⟩, bb2⟩
 have Y2 := hide (yc2 (by omega))
 have k2 := hide (block_kept b2 (unhide k1))
 obtain ⟨d0, d1, d2, d3, d4, d5, d6⟩ := cells7 (unhide k2)
 clear yc2 b2 I1 k1
 have hx := (unhide HM).text
 have hi := (unhide HM).nums
 go_wp2_with fail
 refine (szByteS_any ax r.text.length cx y2 _ hx (by omega) (by omega)).mono ?_
 rintro e w3 ⟨rfl, rfl⟩
 by_cases n3 : (r.text.length : Int) ≤ y2
 ·rw [if_pos n3]
  have hy3 : 0 ≤ y2 - r.text.length := by omega
  have hy3' : y2 - r.text.length ≤ 1048576 := by omega
  generalize hy : y2 - (r.text.length : Int) = y3 at *
  go_wp2_with fail
  refine (szIntS_any ai r.nums.length ci y3 _ hi (by omega) (by omega)).mono ?_
  rintro e w4 ⟨rfl, rfl⟩
  by_cases n4 : (r.nums.length : Int) ≤ y3
  ·rw [if_pos n4]
   have hy4 : 0 ≤ y3 - r.nums.length := by omega
   go_wp2
   go_ret
   refine ⟨⟨y3 - r.nums.length, rfl, by omega, by omega, fun _ => ?_⟩, bb2⟩
   have p1 := unhide Y1
   have p2 := unhide Y2
   exact ⟨by omega, fun i hi => by have := p1.2 i hi; omega, by omega, fun i hi => by have := p2.2 i hi; omega, by omega, by omega⟩
  ·rw [if_neg n4]
   go_wp2
   go_ret
   exact ⟨⟨-1, rfl, by omega, by omega, fun q => by omega⟩, bb2⟩
 ·rw [if_neg n3]
  go_wp2
  go_ret
  exact ⟨⟨-1, rfl, by omega, by omega, fun q => by omega⟩, bb2⟩

theorem HasI.draws {w : World} {v : Value} {l : List Int} (h : HasI w v l) (n : Nat) : HasI (w.drewN n) v l := h.below (below_draws n)
theorem eqIntS_has {v v' : Value} {l : List Int} {w : World} (h : HasI w v l) (h' : HasI w v' l) (hl : l.length ≤ 2097152) :
  Calls Tryz.prog 122 #[v, v'] w fun e w' => e = .returned (.bool true) ∧ ∃ n, w' = w.drewN n := by
 obtain ⟨a, cap, rfl, hL⟩ := h.form
 obtain ⟨a', cap', rfl, hL'⟩ := h'.form
 exact eqIntS_eq a a' cap cap' l w hL hL' hl

set_option maxHeartbeats 1000000 in
set_option maxRecDepth 100000 in
theorem eqRr_has {vn vt vx vi un ut ux ui : Value} {r : Rec} {w : World} (h : HasR w vn vt vx vi r) (h' : HasR w un ut ux ui r) (hs : SizeR 2097152 r) :
  Calls Tryz.prog 109 #[.agg #[vn, .int .i64 r.type, .int .i64 r.ttl, .int .i64 r.addr, vt, vx, vi], .agg #[un, .int .i64 r.type, .int .i64 r.ttl, .int .i64 r.addr, ut, ux, ui]] w fun e w' => e = .returned (.bool true) ∧ Below w.heap.size w w' := by
 obtain ⟨na, nc, rfl, _⟩ := h.name.form
 obtain ⟨ta, tc, rfl, _⟩ := h.to.form
 obtain ⟨xa, xc, rfl, _⟩ := h.text.form
 obtain ⟨ia, ic, rfl, _⟩ := h.nums.form
 obtain ⟨na', nc', rfl, _⟩ := h'.name.form
 obtain ⟨ta', tc', rfl, _⟩ := h'.to.form
 obtain ⟨xa', xc', rfl, _⟩ := h'.text.form
 obtain ⟨ia', ic', rfl, _⟩ := h'.nums.form
 have b0 := below2 w (.cells #[.slice na r.name.length nc, .int .i64 r.type, .int .i64 r.ttl, .int .i64 r.addr, .slice ta r.to.length tc, .slice xa r.text.length xc, .slice ia r.nums.length ic] 56) (.cells #[.slice na' r.name.length nc', .int .i64 r.type, .int .i64 r.ttl, .int .i64 r.addr, .slice ta' r.to.length tc', .slice xa' r.text.length xc', .slice ia' r.nums.length ic'] 56)
 obtain ⟨hsz, k0, x0⟩ := box2 w (.cells #[.slice na r.name.length nc, .int .i64 r.type, .int .i64 r.ttl, .int .i64 r.addr, .slice ta r.to.length tc, .slice xa r.text.length xc, .slice ia r.nums.length ic] 56) #[.slice na' r.name.length nc', .int .i64 r.type, .int .i64 r.ttl, .int .i64 r.addr, .slice ta' r.to.length tc', .slice xa' r.text.length xc', .slice ia' r.nums.length ic'] 56
 have H0 := hide (h.below b0)
 have H0' := hide (h'.below b0)
 have HS := hide hs
 have K0 := hide k0
 have X0 := hide x0
 clear h h' hs k0 x0
 have e1 : (r.type != r.type) = false := by simp
 have e2 : (r.ttl != r.ttl) = false := by simp
 have e3 : (r.addr != r.addr) = false := by simp
 go_enter Tryz.func109, Tryz.ntmps109
 go_wp2_with fail
 generalize (w.alloc (.cells #[.slice na r.name.length nc, .int .i64 r.type, .int .i64 r.ttl, .int .i64 r.addr, .slice ta r.to.length tc, .slice xa r.text.length xc, .slice ia r.nums.length ic] 56)).alloc (.cells #[.slice na' r.name.length nc', .int .i64 r.type, .int .i64 r.ttl, .int .i64 r.addr, .slice ta' r.to.length tc', .slice xa' r.text.length xc', .slice ia' r.nums.length ic'] 56) = W at *
 refine (eqName_has (unhide H0).name (unhide H0').name (unhide HS).names).mono ?_
 rintro e w1 ⟨rfl, b1⟩
 have bb1 := below_next b0 b1
 have K1 := hide (block_kept b1 (unhide K0))
 have X1 := hide (block_kept b1 (unhide X0))
 have H1 := hide ((unhide H0).below b1)
 have H1' := hide ((unhide H0').below b1)
 obtain ⟨d0, d1, d2, d3, d4, d5, d6⟩ := cells7 (unhide K1)
 obtain ⟨f0, f1, f2, f3, f4, f5, f6⟩ := cells7 (unhide X1)
 clear b0 K0 X0 H0 H0' b1
 go_wp2_with fail
 clear d0 d1 d2 d3 d4 d5 d6 f0 f1 f2 f3 f4 f5 f6
 refine (eqName_has (unhide H1).to (unhide H1').to (unhide HS).tos).mono ?_
 rintro e w2 ⟨rfl, b2⟩
 have bb2 := below_next bb1 b2
 have K2 := hide (block_kept b2 (unhide K1))
 have X2 := hide (block_kept b2 (unhide X1))
 have H2 := hide ((unhide H1).below b2)
 have H2' := hide ((unhide H1').below b2)
 obtain ⟨d0, d1, d2, d3, d4, d5, d6⟩ := cells7 (unhide K2)
 obtain ⟨f0, f1, f2, f3, f4, f5, f6⟩ := cells7 (unhide X2)
 clear bb1 K1 X1 H1 H1' b2
 go_wp2_with fail
 clear d0 d1 d2 d3 d4 d5 d6 f0 f1 f2 f3 f4 f5 f6
 refine (eqByteS_has (unhide H2).text (unhide H2').text (unhide HS).text).mono ?_
 rintro e w3 ⟨rfl, q3, hq3⟩
 have b3 : Below w2.heap.size w2 w3 := by rw [hq3]; exact below_draws q3
 clear hq3
 have bb3 := below_next bb2 b3
 have K3 := hide (block_kept b3 (unhide K2))
 have X3 := hide (block_kept b3 (unhide X2))
 have H3 := hide ((unhide H2).below b3)
 have H3' := hide ((unhide H2').below b3)
 obtain ⟨d0, d1, d2, d3, d4, d5, d6⟩ := cells7 (unhide K3)
 obtain ⟨f0, f1, f2, f3, f4, f5, f6⟩ := cells7 (unhide X3)
 clear bb2 K2 X2 H2 H2' b3
 go_wp2_with fail
 clear d0 d1 d2 d3 d4 d5 d6 f0 f1 f2 f3 f4 f5 f6
 refine (eqIntS_has (unhide H3).nums (unhide H3').nums (unhide HS).nums).mono ?_
 rintro e w4 ⟨rfl, q4, hq4⟩
 have b4 : Below w3.heap.size w3 w4 := by rw [hq4]; exact below_draws q4
 clear hq4
 go_wp2_with fail
 go_ret
 exact ⟨rfl, below_next bb3 b4⟩
end Go.Proofs.YtpolekinfobecaaGreat
