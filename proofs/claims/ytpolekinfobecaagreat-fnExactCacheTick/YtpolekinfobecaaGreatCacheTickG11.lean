/-
  Contracts of the helpers of the laws for records (szRr, eqRr). Contracts of the helpers of the laws for records (toRr).
-/
import Derived.Test.YtpolekinfobecaaGreatCacheTickG03
import Derived.Test.YtpolekinfobecaaGreatCacheTickG09
import Derived.Test.YtpolekinfobecaaGreatCacheTickG10
namespace Go.Proofs.YtpolekinfobecaaGreat
open Go.RowKit
set_option linter.unusedVariables false

set_option maxHeartbeats 400000 in
set_option maxRecDepth 100000 in
theorem szIntS_any (a : Option Addr) (len cap : Nat) (left : Int) (w : World) (hm : len ≤ maxLen) (h0 : 0 ≤ left) (h1 : left ≤ 1048576) :
  Calls Tryz.prog 111 #[.slice a len cap, .int .i64 left] w fun e w' => e = .returned (.int .i64 (if (len : Int) ≤ left then left - len else -1)) ∧ w = w' := by
 unfold maxLen at hm
 by_cases h : (len : Int) ≤ left
 ·rw [if_pos h]
  have hy : 0 ≤ left - len := by omega
  go_enter Tryz.func111, Tryz.ntmps111
  go_wp2
  go_ret
  exact ⟨rfl, rfl⟩
 ·rw [if_neg h]
  have hy : left - len < 0 := by omega
  go_enter Tryz.func111, Tryz.ntmps111
  go_wp2
  go_ret
  exact ⟨rfl, rfl⟩

set_option maxHeartbeats 1000000 in
set_option maxRecDepth 100000 in
theorem szRr_any (an : Option Addr) (cn : Nat) (ato : Option Addr) (ct : Nat) (ax : Option Addr) (cx : Nat) (ai : Option Addr) (ci : Nat) (r : Rec) (left : Int) (w : World) (h : InR w an ato ax ai r) (hm : SizeR maxLen r) (h0 : 0 ≤ left) (h1 : left ≤ 1048576) :
  Calls Tryz.prog 86 #[(.agg #[.slice an r.name.length cn, .int .i64 r.type, .int .i64 r.ttl, .int .i64 r.addr, .slice ato r.to.length ct, .slice ax r.text.length cx, .slice ai r.nums.length ci]), .int .i64 left] w fun e w' => (∃ y : Int, e = .returned (.int .i64 y) ∧ -1 ≤ y ∧ y ≤ left ∧ (0 ≤ y → SizeR left.toNat r)) ∧ Below w.heap.size w w' := by
 have b0 := below_alloc (w := w) (.cells #[.slice an r.name.length cn, .int .i64 r.type, .int .i64 r.ttl, .int .i64 r.addr, .slice ato r.to.length ct, .slice ax r.text.length cx, .slice ai r.nums.length ci] 108)
 have k0 := heap_alloc_new w (.cells #[.slice an r.name.length cn, .int .i64 r.type, .int .i64 r.ttl, .int .i64 r.addr, .slice ato r.to.length ct, .slice ax r.text.length cx, .slice ai r.nums.length ci] 108)
 have I0 := hide (h.below b0)
 have HM := hide hm
 clear h hm
 have k0' := hide k0
 go_enter Tryz.func86, Tryz.ntmps86
 go_wp2_with fail
 generalize w.alloc (.cells #[.slice an r.name.length cn, .int .i64 r.type, .int .i64 r.ttl, .int .i64 r.addr, .slice ato r.to.length ct, .slice ax r.text.length cx, .slice ai r.nums.length ci] 108) = W at *
 refine (szName_any an cn r.name left _ (unhide I0).name (unhide HM).name (unhide HM).names h0 h1).mono ?_
 rintro e w1 ⟨⟨y1, rfl, ya1, yb1, yc1⟩, b1⟩
 have bb1 := below_next b0 b1
 by_cases n1 : y1 < 0
 ·clear yc1 k0 b0 b1
  go_wp2
  go_ret
  exact ⟨⟨-1, rfl, by omega, by omega, fun q => by omega⟩, bb1⟩
 have Y1 := hide (yc1 (by omega))
 have k1 := hide (block_kept b1 k0)
 have I1 := hide ((unhide I0).below b1)
 obtain ⟨d0, d1, d2, d3, d4, d5, d6⟩ := cells7 (unhide k1)
 clear yc1 k0 b0 b1 I0 k0'
 go_wp2_with fail
 clear d0 d1 d2 d3 d4 d5 d6
 refine (szName_any ato ct r.to y1 _ (unhide I1).to (unhide HM).to (unhide HM).tos (by omega) (by omega)).mono ?_
 rintro e w2 ⟨⟨y2, rfl, ya2, yb2, yc2⟩, b2⟩
 have bb2 := below_next bb1 b2
 by_cases n2 : y2 < 0
 ·clear yc2 b2
  go_wp2
  go_ret
  exact ⟨⟨-1, rfl, by omega, by omega, fun q => by omega⟩, bb2⟩
 have Y2 := hide (yc2 (by omega))
 have k2 := hide (block_kept b2 (unhide k1))
 obtain ⟨d0, d1, d2, d3, d4, d5, d6⟩ := cells7 (unhide k2)
 clear yc2 b2 I1 k1
 have hx := (unhide HM).text
 have hi := (unhide HM).nums
 go_wp2_with fail
 refine (szByteS_any ax r.text.length cx y2 _ hx (by omega) (by omega)).mono ?_
 rintro e w3 ⟨rfl, rfl⟩
 by_cases n3 : (r.text.length : Int) ≤ y2
 ·rw [if_pos n3]
  have hy3 : 0 ≤ y2 - r.text.length := by omega
  have hy3' : y2 - r.text.length ≤ 1048576 := by omega
  generalize hy : y2 - (r.text.length : Int) = y3 at *
  go_wp2_with fail
  refine (szIntS_any ai r.nums.length ci y3 _ hi (by omega) (by omega)).mono ?_
  rintro e w4 ⟨rfl, rfl⟩
  by_cases n4 : (r.nums.length : Int) ≤ y3
  ·rw [if_pos n4]
   have hy4 : 0 ≤ y3 - r.nums.length := by omega
   go_wp2
   go_ret
   refine ⟨⟨y3 - r.nums.length, rfl, by omega, by omega, fun _ => ?_⟩, bb2⟩
   have p1 := unhide Y1
   have p2 := unhide Y2
   exact ⟨by omega, fun i hi => by have := p1.2 i hi; omega, by omega, fun i hi => by have := p2.2 i hi; omega, by omega, by omega⟩
  ·rw [if_neg n4]
   go_wp2
   go_ret
   exact ⟨⟨-1, rfl, by omega, by omega, fun q => by omega⟩, bb2⟩
 ·rw [if_neg n3]
  go_wp2
  go_ret
  exact ⟨⟨-1, rfl, by omega, by omega, fun q => by omega⟩, bb2⟩

theorem HasI.draws {w : World} {v : Value} {l : List Int} (h : HasI w v l) (n : Nat) : HasI (w.drewN n) v l := h.below (below_draws n)
theorem eqIntS_has {v v' : Value} {l : List Int} {w : World} (h : HasI w v l) (h' : HasI w v' l) (hl : l.length ≤ 2097152) :
  Calls Tryz.prog 122 #[v, v'] w fun e w' => e = .returned (.bool true) ∧ ∃ n, w' = w.drewN n := by
 obtain ⟨a, cap, rfl, hL⟩ := h.form
 obtain ⟨a', cap', rfl, hL'⟩ := h'.form
 exact eqIntS_eq a a' cap cap' l w hL hL' hl

set_option maxHeartbeats 1000000 in
set_option maxRecDepth 100000 in
theorem eqRr_has {vn vt vx vi un ut ux ui : Value} {r : Rec} {w : World} (h : HasR w vn vt vx vi r) (h' : HasR w un ut ux ui r) (hs : SizeR 2097152 r) :
  Calls Tryz.prog 109 #[.agg #[vn, .int .i64 r.type, .int .i64 r.ttl, .int .i64 r.addr, vt, vx, vi], .agg #[un, .int .i64 r.type, .int .i64 r.ttl, .int .i64 r.addr, ut, ux, ui]] w fun e w' => e = .returned (.bool true) ∧ Below w.heap.size w w' := by
 obtain ⟨na, nc, rfl, _⟩ := h.name.form
 obtain ⟨ta, tc, rfl, _⟩ := h.to.form
 obtain ⟨xa, xc, rfl, _⟩ := h.text.form
 obtain ⟨ia, ic, rfl, _⟩ := h.nums.form
 obtain ⟨na', nc', rfl, _⟩ := h'.name.form
 obtain ⟨ta', tc', rfl, _⟩ := h'.to.form
 obtain ⟨xa', xc', rfl, _⟩ := h'.text.form
 obtain ⟨ia', ic', rfl, _⟩ := h'.nums.form
 have b0 := below2 w (.cells #[.slice na r.name.length nc, .int .i64 r.type, .int .i64 r.ttl, .int .i64 r.addr, .slice ta r.to.length tc, .slice xa r.text.length xc, .slice ia r.nums.length ic] 56) (.cells #[.slice na' r.name.length nc', .int .i64 r.type, .int .i64 r.ttl, .int .i64 r.addr, .slice ta' r.to.length tc', .slice xa' r.text.length xc', .slice ia' r.nums.length ic'] 56)
 obtain ⟨hsz, k0, x0⟩ := box2 w (.cells #[.slice na r.name.length nc, .int .i64 r.type, .int .i64 r.ttl, .int .i64 r.addr, .slice ta r.to.length tc, .slice xa r.text.length xc, .slice ia r.nums.length ic] 56) #[.slice na' r.name.length nc', .int .i64 r.type, .int .i64 r.ttl, .int .i64 r.addr, .slice ta' r.to.length tc', .slice xa' r.text.length xc', .slice ia' r.nums.length ic'] 56
 have H0 := hide (h.below b0)
 have H0' := hide (h'.below b0)
 have HS := hide hs
 have K0 := hide k0
 have X0 := hide x0
 clear h h' hs k0 x0
 have e1 : (r.type != r.type) = false := by simp
 have e2 : (r.ttl != r.ttl) = false := by simp
 have e3 : (r.addr != r.addr) = false := by simp
 go_enter Tryz.func109, Tryz.ntmps109
 go_wp2_with fail
 generalize (w.alloc (.cells #[.slice na r.name.length nc, .int .i64 r.type, .int .i64 r.ttl, .int .i64 r.addr, .slice ta r.to.length tc, .slice xa r.text.length xc, .slice ia r.nums.length ic] 56)).alloc (.cells #[.slice na' r.name.length nc', .int .i64 r.type, .int .i64 r.ttl, .int .i64 r.addr, .slice ta' r.to.length tc', .slice xa' r.text.length xc', .slice ia' r.nums.length ic'] 56) = W at *
 refine (eqName_has (unhide H0).name (unhide H0').name (unhide HS).names).mono ?_
 rintro e w1 ⟨rfl, b1⟩
 have bb1 := below_next b0 b1
 have K1 := hide (block_kept b1 (unhide K0))
 have X1 := hide (block_kept b1 (unhide X0))
 have H1 := hide ((unhide H0).below b1)
 have H1' := hide ((unhide H0').below b1)
 obtain ⟨d0, d1, d2, d3, d4, d5, d6⟩ := cells7 (unhide K1)
 obtain ⟨f0, f1, f2, f3, f4, f5, f6⟩ := cells7 (unhide X1)
 clear b0 K0 X0 H0 H0' b1
 go_wp2_with fail
 clear d0 d1 d2 d3 d4 d5 d6 f0 f1 f2 f3 f4 f5 f6
 refine (eqName_has (unhide H1).to (unhide H1').to (unhide HS).tos).mono ?_
 rintro e w2 ⟨rfl, b2⟩
 have bb2 := below_next bb1 b2
 have K2 := hide (block_kept b2 (unhide K1))
 have X2 := hide (block_kept b2 (unhide X1))
 have H2 := hide ((unhide H1).below b2)
 have H2' := hide ((unhide H1').below b2)
 obtain ⟨d0, d1, d2, d3, d4, d5, d6⟩ := cells7 (unhide K2)
 obtain ⟨f0, f1, f2, f3, f4, f5, f6⟩ := cells7 (unhide X2)
 clear bb1 K1 X1 H1 H1' b2
 go_wp2_with fail
 clear d0 d1 d2 d3 d4 d5 d6 f0 f1 f2 f3 f4 f5 f6
 refine (eqByteS_has (unhide H2).text (unhide H2').text (unhide HS).text).mono ?_
 rintro e w3 ⟨rfl, q3, hq3⟩
 have b3 : Below w2.heap.size w2 w3 := by rw [hq3]; exact below_draws q3
 clear hq3
 have bb3 := below_next bb2 b3
 have K3 := hide (block_kept b3 (unhide K2))
 have X3 := hide (block_kept b3 (unhide X2))
 have H3 := hide ((unhide H2).below b3)
 have H3' := hide ((unhide H2').below b3)
 obtain ⟨d0, d1, d2, d3, d4, d5, d6⟩ := cells7 (unhide K3)
 obtain ⟨f0, f1, f2, f3, f4, f5, f6⟩ := cells7 (unhide X3)
 clear bb2 K2 X2 H2 H2' b3
 go_wp2_with fail
 clear d0 d1 d2 d3 d4 d5 d6 f0 f1 f2 f3 f4 f5 f6
 refine (eqIntS_has (unhide H3).nums (unhide H3').nums (unhide HS).nums).mono ?_
 rintro e w4 ⟨rfl, q4, hq4⟩
 have b4 : Below w3.heap.size w3 w4 := by rw [hq4]; exact below_draws q4
 clear hq4
 go_wp2_with fail
 go_ret
 exact ⟨rfl, below_next bb3 b4⟩
end Go.Proofs.YtpolekinfobecaaGreat

namespace Go.Proofs.YtpolekinfobecaaGreat
open Go.RowKit
set_option linter.unusedVariables false

set_option maxHeartbeats 1000000 in
set_option maxRecDepth 100000 in
theorem toRr_any (an : Option Addr) (cn : Nat) (ato : Option Addr) (ct : Nat) (ax : Option Addr) (cx : Nat) (ai : Option Addr) (ci : Nat) (r : Rec) (w : World) (h : InR w an ato ax ai r) (hs : SizeR 1048576 r) :
  Calls Tryz.prog 92 #[(.agg #[.slice an r.name.length cn, .int .i64 r.type, .int .i64 r.ttl, .int .i64 r.addr, .slice ato r.to.length ct, .slice ax r.text.length cx, .slice ai r.nums.length ci])] w fun e w' => ∃ vn vt vx vi, e = .returned (.agg #[vn, .int .i64 r.type, .int .i64 r.ttl, .int .i64 r.addr, vt, vx, vi]) ∧ OwnR w.heap.size w'.heap.size 53 5 3 w' vn vt vx vi r ∧ Below w.heap.size w w' := by
 obtain ⟨hsz, r0, v0⟩ := box3 w (.cells #[.slice an r.name.length cn, .int .i64 r.type, .int .i64 r.ttl, .int .i64 r.addr, .slice ato r.to.length ct, .slice ax r.text.length cx, .slice ai r.nums.length ci] 108) #[.slice none 0 0, .int .i64 0, .int .i64 0, .int .i64 0, .slice none 0 0, .slice none 0 0, .slice none 0 0] #[.slice none 0 0, .int .i64 0, .int .i64 0, .int .i64 0, .slice none 0 0, .slice none 0 0, .slice none 0 0] 56 56
 have b0 : Below w.heap.size w (((w.alloc (.cells #[.slice an r.name.length cn, .int .i64 r.type, .int .i64 r.ttl, .int .i64 r.addr, .slice ato r.to.length ct, .slice ax r.text.length cx, .slice ai r.nums.length ci] 108)).alloc (.cells #[.slice none 0 0, .int .i64 0, .int .i64 0, .int .i64 0, .slice none 0 0, .slice none 0 0, .slice none 0 0] 56)).alloc (.cells #[.slice none 0 0, .int .i64 0, .int .i64 0, .int .i64 0, .slice none 0 0, .slice none 0 0, .slice none 0 0] 56)) := ((below_alloc _).alloc (below_alloc _).size _).alloc ((below_alloc _).alloc (below_alloc _).size _).size _
 have k0 : (((w.alloc (.cells #[.slice an r.name.length cn, .int .i64 r.type, .int .i64 r.ttl, .int .i64 r.addr, .slice ato r.to.length ct, .slice ax r.text.length cx, .slice ai r.nums.length ci] 108)).alloc (.cells #[.slice none 0 0, .int .i64 0, .int .i64 0, .int .i64 0, .slice none 0 0, .slice none 0 0, .slice none 0 0] 56)).alloc (.cells #[.slice none 0 0, .int .i64 0, .int .i64 0, .int .i64 0, .slice none 0 0, .slice none 0 0, .slice none 0 0] 56)).heap[w.heap.size]? = some (.cells #[.slice an r.name.length cn, .int .i64 r.type, .int .i64 r.ttl, .int .i64 r.addr, .slice ato r.to.length ct, .slice ax r.text.length cx, .slice ai r.nums.length ci] 108) := block_kept (below_alloc _) (block_kept (below_alloc _) (heap_alloc_new w _))
 have I0 := hide (h.below b0)
 have HS := hide hs
 have K0 := hide k0
 have R0 := hide r0
 have V0 := hide v0
 have HI := hide h
 clear h hs k0 r0 v0
 go_enter Tryz.func92, Tryz.ntmps92
 go_wp2_with fail
 generalize (((w.alloc (.cells #[.slice an r.name.length cn, .int .i64 r.type, .int .i64 r.ttl, .int .i64 r.addr, .slice ato r.to.length ct, .slice ax r.text.length cx, .slice ai r.nums.length ci] 108)).alloc (.cells #[.slice none 0 0, .int .i64 0, .int .i64 0, .int .i64 0, .slice none 0 0, .slice none 0 0, .slice none 0 0] 56)).alloc (.cells #[.slice none 0 0, .int .i64 0, .int .i64 0, .int .i64 0, .slice none 0 0, .slice none 0 0, .slice none 0 0] 56)) = W at *
 refine (toName_any an cn r.name _ (unhide I0).name (unhide HS).name (unhide HS).names).mono ?_
 rintro e w1 ⟨v1, rfl, o1, b1⟩
 obtain ⟨n1, m1, rfl, _⟩ := o1.hasL.form
 have bb1 := below_next b0 b1
 have K1 := hide (block_kept b1 (unhide K0))
 have R1 := hide (block_kept b1 (unhide R0))
 have V1 := block_kept b1 (unhide V0)
 have O1 := hide o1.here
 have z1 := b1.size
 obtain ⟨d0, d1, d2, d3, d4, d5, d6⟩ := cells7 (unhide K1)
 obtain ⟨f0, f1, f2, f3, f4, f5, f6⟩ := cells7 V1
 obtain ⟨g0, g1, g2, g3, g4, g5, g6⟩ := frozen7 V1
 clear b0 K0 R0 V0 b1 o1 I0
 go_wp2_with fail
 clear d0 d1 d2 d3 d4 d5 d6 f0 f1 f2 f3 f4 f5 f6 g0 g1 g2 g3 g4 g5 g6
 have u2 : Outside (w.heap.size + 1 + 1) (w.heap.size + 1 + 1 + 1) w1 ((((w1.setCell ⟨w.heap.size + 1 + 1, 0, none⟩ (.slice n1 r.name.length m1)).setCell ⟨w.heap.size + 1 + 1, 1, none⟩ (.int .i64 r.type)).setCell ⟨w.heap.size + 1 + 1, 2, none⟩ (.int .i64 r.ttl)).setCell ⟨w.heap.size + 1 + 1, 3, none⟩ (.int .i64 r.addr)) := (((outside_set _ _ _ _).trans (outside_set _ _ _ _)).trans (outside_set _ _ _ _)).trans (outside_set _ _ _ _)
 have V2 : ((((w1.setCell ⟨w.heap.size + 1 + 1, 0, none⟩ (.slice n1 r.name.length m1)).setCell ⟨w.heap.size + 1 + 1, 1, none⟩ (.int .i64 r.type)).setCell ⟨w.heap.size + 1 + 1, 2, none⟩ (.int .i64 r.ttl)).setCell ⟨w.heap.size + 1 + 1, 3, none⟩ (.int .i64 r.addr)).heap[w.heap.size + 1 + 1]? = some (.cells #[.slice n1 r.name.length m1, .int .i64 r.type, .int .i64 r.ttl, .int .i64 r.addr, .slice none 0 0, .slice none 0 0, .slice none 0 0] 56) := block_setAt (block_setAt (block_setAt (block_setAt V1 0 _) 1 _) 2 _) 3 _
 generalize ((((w1.setCell ⟨w.heap.size + 1 + 1, 0, none⟩ (.slice n1 r.name.length m1)).setCell ⟨w.heap.size + 1 + 1, 1, none⟩ (.int .i64 r.type)).setCell ⟨w.heap.size + 1 + 1, 2, none⟩ (.int .i64 r.ttl)).setCell ⟨w.heap.size + 1 + 1, 3, none⟩ (.int .i64 r.addr)) = w2 at *
 have bb2 := u2.below bb1 (by omega)
 have K2 := hide (u2.kept (unhide K1) (by omega))
 have R2 := hide (u2.kept (unhide R1) (by omega))
 have O2 := hide ((unhide O1).outside u2 (by omega))
 have z2 := u2.size
 clear bb1 K1 R1 O1 u2 V1
 refine (toName_any ato ct r.to _ ((unhide HI).below bb2).to (unhide HS).to (unhide HS).tos).mono ?_
 rintro e w3 ⟨v3, rfl, o3, b3⟩
 obtain ⟨n2, m2, rfl, _⟩ := o3.hasL.form
 have bb3 := below_next bb2 b3
 have K3 := hide (block_kept b3 (unhide K2))
 have R3 := hide (block_kept b3 (unhide R2))
 have V3 := block_kept b3 V2
 have O3 := hide ((unhide O2).below b3)
 have T3 := hide o3.here
 have z3 := b3.size
 obtain ⟨d0, d1, d2, d3, d4, d5, d6⟩ := cells7 (unhide K3)
 obtain ⟨f0, f1, f2, f3, f4, f5, f6⟩ := cells7 V3
 obtain ⟨g0, g1, g2, g3, g4, g5, g6⟩ := frozen7 V3
 clear bb2 K2 R2 V2 b3 o3 O2
 go_wp2_with fail
 clear d0 d1 d2 d3 d4 d5 d6 f0 f1 f2 f3 f4 f5 f6 g0 g1 g2 g3 g4 g5 g6
 have u4 := outside_set w3 (w.heap.size + 1 + 1) 4 (.slice n2 r.to.length m2)
 have V4 : (w3.setCell ⟨w.heap.size + 1 + 1, 4, none⟩ (.slice n2 r.to.length m2)).heap[w.heap.size + 1 + 1]? = some (.cells #[.slice n1 r.name.length m1, .int .i64 r.type, .int .i64 r.ttl, .int .i64 r.addr, .slice n2 r.to.length m2, .slice none 0 0, .slice none 0 0] 56) := block_setAt V3 4 _
 generalize (w3.setCell ⟨w.heap.size + 1 + 1, 4, none⟩ (.slice n2 r.to.length m2)) = w4 at *
 have bb4 := u4.below bb3 (by omega)
 have K4 := hide (u4.kept (unhide K3) (by omega))
 have R4 := hide (u4.kept (unhide R3) (by omega))
 have O4 := hide ((unhide O3).outside u4 (by omega))
 have T4 := hide ((unhide T3).outside u4 (by omega))
 have z4 := u4.size
 clear bb3 K3 R3 O3 T3 u4 V3
 refine (toByteS_any ax cx r.text _ ((unhide HI).below bb4).text (unhide HS).text).mono ?_
 rintro e w5 ⟨v5, rfl, o5, b5⟩
 obtain ⟨n3, m3, rfl, _⟩ := o5.lies
 have bb5 := below_next bb4 b5
 have K5 := hide (block_kept b5 (unhide K4))
 have R5 := hide (block_kept b5 (unhide R4))
 have V5 := block_kept b5 V4
 have O5 := hide ((unhide O4).below b5)
 have T5 := hide ((unhide T4).below b5)
 have X5 := hide o5.here
 have z5 := b5.size
 obtain ⟨d0, d1, d2, d3, d4, d5, d6⟩ := cells7 (unhide K5)
 obtain ⟨f0, f1, f2, f3, f4, f5, f6⟩ := cells7 V5
 obtain ⟨g0, g1, g2, g3, g4, g5, g6⟩ := frozen7 V5
 clear bb4 K4 R4 V4 b5 o5 O4 T4
 go_wp2_with fail
 clear d0 d1 d2 d3 d4 d5 d6 f0 f1 f2 f3 f4 f5 f6 g0 g1 g2 g3 g4 g5 g6
 have u6 := outside_set w5 (w.heap.size + 1 + 1) 5 (.slice n3 r.text.length m3)
 have V6 : (w5.setCell ⟨w.heap.size + 1 + 1, 5, none⟩ (.slice n3 r.text.length m3)).heap[w.heap.size + 1 + 1]? = some (.cells #[.slice n1 r.name.length m1, .int .i64 r.type, .int .i64 r.ttl, .int .i64 r.addr, .slice n2 r.to.length m2, .slice n3 r.text.length m3, .slice none 0 0] 56) := block_setAt V5 5 _
 generalize (w5.setCell ⟨w.heap.size + 1 + 1, 5, none⟩ (.slice n3 r.text.length m3)) = w6 at *
 have bb6 := u6.below bb5 (by omega)
 have R6 := hide (u6.kept (unhide R5) (by omega))
 have O6 := hide ((unhide O5).outside u6 (by omega))
 have T6 := hide ((unhide T5).outside u6 (by omega))
 have X6 := hide ((unhide X5).outside u6 (by omega))
 have z6 := u6.size
 clear bb5 K5 R5 O5 T5 X5 u6 V5
 refine (toIntS_any ai ci r.nums _ ((unhide HI).below bb6).nums (unhide HS).nums).mono ?_
 rintro e w7 ⟨v7, rfl, o7, b7⟩
 obtain ⟨n4, m4, rfl, _⟩ := o7.lies
 have bb7 := below_next bb6 b7
 have R7 := block_kept b7 (unhide R6)
 have V7 := block_kept b7 V6
 have O7 := hide ((unhide O6).below b7)
 have T7 := hide ((unhide T6).below b7)
 have X7 := hide ((unhide X6).below b7)
 have Y7 := hide o7.here
 have z7 := b7.size
 obtain ⟨f0, f1, f2, f3, f4, f5, f6⟩ := cells7 V7
 obtain ⟨g0, g1, g2, g3, g4, g5, g6⟩ := frozen7 V7
 obtain ⟨p0, p1, p2, p3, p4, p5, p6⟩ := cells7 R7
 obtain ⟨q0, q1, q2, q3, q4, q5, q6⟩ := frozen7 R7
 clear bb6 R6 V6 b7 o7 O6 T6 X6
 go_wp2_with fail
 clear f0 f1 f2 f3 f4 f5 f6 g0 g1 g2 g3 g4 g5 g6 p0 p1 p2 p3 p4 p5 p6 q0 q1 q2 q3 q4 q5 q6
 have u8 := (outside_set w7 (w.heap.size + 1 + 1) 6 (.slice n4 r.nums.length m4)).wide (B' := w.heap.size + 1) (E' := w.heap.size + 3) (by omega) (by omega)
 have R8 := block_other R7 (b' := w.heap.size + 1 + 1) (by omega) 6 (.slice n4 r.nums.length m4)
 generalize w7.setCell ⟨w.heap.size + 1 + 1, 6, none⟩ (.slice n4 r.nums.length m4) = w8 at *
 obtain ⟨R9, u9⟩ := set7 (c0 := .slice n1 r.name.length m1) (c1 := .int .i64 r.type) (c2 := .int .i64 r.ttl) (c3 := .int .i64 r.addr) (c4 := .slice n2 r.to.length m2) (c5 := .slice n3 r.text.length m3) (c6 := .slice n4 r.nums.length m4) R8
 refine bodyPost_ret (results_cell_row rfl _ _ (w.heap.size + 1) 56 #[.slice n1 r.name.length m1, .int .i64 r.type, .int .i64 r.ttl, .int .i64 r.addr, .slice n2 r.to.length m2, .slice n3 r.text.length m3, .slice n4 r.nums.length m4] (0, 0) _ rfl R9 Tryz.underlying56 rfl (by kernel_rfl)) rfl ?_
 have u10 := u8.trans (u9.wide (B' := w.heap.size + 1) (E' := w.heap.size + 3) (by omega) (by omega))
 have z10 := u10.size
 exact ⟨_, _, _, _, rfl, ⟨w1.heap.size, w3.heap.size, w5.heap.size, by omega, by omega, by omega, by omega, ((unhide O7).outside u10 (by omega)).wide (by omega) (by omega), ((unhide T7).outside u10 (by omega)).wide (by omega) (by omega), ((unhide X7).outside u10 (by omega)).wide (by omega) (by omega), ((unhide Y7).outside u10 (by omega)).wide (by omega) (by omega)⟩, u10.below bb7 (by omega)⟩
end Go.Proofs.YtpolekinfobecaaGreat
