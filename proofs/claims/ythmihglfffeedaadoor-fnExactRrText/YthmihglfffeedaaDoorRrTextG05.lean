/-
  Contracts of the helpers of the laws for records (szRr, eqRr). Contracts of the helpers of the laws for records (toRr).
-/
import Derived.Test.YthmihglfffeedaaDoorRrTextG03
import Derived.Test.YthmihglfffeedaaDoorRrTextG04
namespace Go.Proofs.YthmihglfffeedaaDoor
open Go.RowKit
set_option linter.unusedVariables false
set_option maxHeartbeats 1000000
set_option maxRecDepth 100000

theorem szIntS_any (a : Option Addr) (len cap : Nat) (left : Int) (w : World) (hm : len ≤ maxLen) (h0 : 0 ≤ left) (h1 : left ≤ 1048576) :
  Calls Tryd.prog 15 #[.slice a len cap, .int .i64 left] w fun e w' => e = .returned (.int .i64 (if (len : Int) ≤ left then left - len else -1)) ∧ w = w' := by
 unfold maxLen at hm
 by_cases h : (len : Int) ≤ left
 ·rw [if_pos h]
  have hy : 0 ≤ left - len := by omega
  go_enter Tryd.func15, Tryd.ntmps15
  go_wp2
  go_ret
  exact ⟨rfl, rfl⟩
 ·rw [if_neg h]
  have hy : left - len < 0 := by omega
  go_enter Tryd.func15, Tryd.ntmps15
  go_wp2
  go_ret
  exact ⟨rfl, rfl⟩

theorem szRr_any (an : Option Addr) (cn : Nat) (ato : Option Addr) (ct : Nat) (ax : Option Addr) (cx : Nat) (ai : Option Addr) (ci : Nat) (r : Rec) (left : Int) (w : World) (h : InR w an ato ax ai r) (hm : SizeR maxLen r) (h0 : 0 ≤ left) (h1 : left ≤ 1048576) :
  Calls Tryd.prog 4 #[(.agg #[.slice an r.name.length cn, .int .i64 r.type, .int .i64 r.ttl, .int .i64 r.addr, .slice ato r.to.length ct, .slice ax r.text.length cx, .slice ai r.nums.length ci]), .int .i64 left] w fun e w' => (∃ y : Int, e = .returned (.int .i64 y) ∧ -1 ≤ y ∧ y ≤ left ∧ (0 ≤ y → SizeR left.toNat r)) ∧ Below w.heap.size w w' := by
 have b0 := UI (w := w) (.cells #[.slice an r.name.length cn, .int .i64 r.type, .int .i64 r.ttl, .int .i64 r.addr, .slice ato r.to.length ct, .slice ax r.text.length cx, .slice ai r.nums.length ci] 28)
 have k0 := heap_alloc_new w (.cells #[.slice an r.name.length cn, .int .i64 r.type, .int .i64 r.ttl, .int .i64 r.addr, .slice ato r.to.length ct, .slice ax r.text.length cx, .slice ai r.nums.length ci] 28)
 have I0 := UC (h.below b0)
 have HM := UC hm
 clear h hm
 have k0' := UC k0
 go_enter Tryd.func4, Tryd.ntmps4
 go_wp2_with fail
 generalize w.alloc (.cells #[.slice an r.name.length cn, .int .i64 r.type, .int .i64 r.ttl, .int .i64 r.addr, .slice ato r.to.length ct, .slice ax r.text.length cx, .slice ai r.nums.length ci] 28) = W at *
 refine (szName_any an cn r.name left _ (UB I0).name (UB HM).name (UB HM).names h0 h1).mono ?_
 rintro e w1 ⟨⟨y1, rfl, ya1, yb1, yc1⟩, b1⟩
 have bb1 := UG b0 b1
 by_cases n1 : y1 < 0
 ·clear yc1 k0 b0 b1
  go_wp2
  go_ret
  exact ⟨⟨-1, rfl, by omega, by omega, fun q => by omega⟩, bb1⟩
 have Y1 := UC (yc1 (by omega))
 have k1 := UC (UE b1 k0)
 have I1 := UC ((UB I0).below b1)
 obtain ⟨d0, d1, d2, d3, d4, d5, d6⟩ := UJ (UB k1)
 clear yc1 k0 b0 b1 I0 k0'
 go_wp2_with fail
 clear d0 d1 d2 d3 d4 d5 d6
 refine (szName_any ato ct r.to y1 _ (UB I1).to (UB HM).to (UB HM).tos (by omega) (by omega)).mono ?_
 rintro e w2 ⟨⟨y2, rfl, ya2, yb2, yc2⟩, b2⟩
 have bb2 := UG bb1 b2
 by_cases n2 : y2 < 0
 ·clear yc2 b2
  go_wp2
  go_ret
  exact ⟨⟨-1, rfl, by omega, by omega, fun q => by omega⟩, bb2⟩
 have Y2 := UC (yc2 (by omega))
 have k2 := UC (UE b2 (UB k1))
 obtain ⟨d0, d1, d2, d3, d4, d5, d6⟩ := UJ (UB k2)
 clear yc2 b2 I1 k1
 have hx := (UB HM).text
 have hi := (UB HM).nums
 go_wp2_with fail
 refine (szByteS_any ax r.text.length cx y2 _ hx (by omega) (by omega)).mono ?_
 rintro e w3 ⟨rfl, rfl⟩
 by_cases n3 : (r.text.length : Int) ≤ y2
 ·rw [if_pos n3]
  have hy3 : 0 ≤ y2 - r.text.length := by omega
  have hy3' : y2 - r.text.length ≤ 1048576 := by omega
  generalize hy : y2 - (r.text.length : Int) = y3 at *
  go_wp2_with fail
  refine (szIntS_any ai r.nums.length ci y3 _ hi (by omega) (by omega)).mono ?_
  rintro e w4 ⟨rfl, rfl⟩
  by_cases n4 : (r.nums.length : Int) ≤ y3
  ·rw [if_pos n4]
   have hy4 : 0 ≤ y3 - r.nums.length := by omega
   go_wp2
   go_ret
   refine ⟨⟨y3 - r.nums.length, rfl, by omega, by omega, fun _ => ?_⟩, bb2⟩
   have p1 := UB Y1
   have p2 := UB Y2
   exact ⟨by omega, fun i hi => by have := p1.2 i hi; omega, by omega, fun i hi => by have := p2.2 i hi; omega, by omega, by omega⟩
  ·rw [if_neg n4]
   go_wp2
   go_ret
   exact ⟨⟨-1, rfl, by omega, by omega, fun q => by omega⟩, bb2⟩
 ·rw [if_neg n3]
  go_wp2
  go_ret
  exact ⟨⟨-1, rfl, by omega, by omega, fun q => by omega⟩, bb2⟩

theorem HasI.draws {w : World} {v : Value} {l : List Int} (h : HasI w v l) (n : Nat) : HasI (w.drewN n) v l := h.below (below_draws n)
theorem eqIntS_has {v v' : Value} {l : List Int} {w : World} (h : HasI w v l) (h' : HasI w v' l) (hl : l.length ≤ 2097152) :
  Calls Tryd.prog 28 #[v, v'] w fun e w' => e = .returned (.bool true) ∧ ∃ n, w' = w.drewN n := by
 obtain ⟨a, cap, rfl, hL⟩ := h.form
 obtain ⟨a', cap', rfl, hL'⟩ := h'.form
 exact eqIntS_eq a a' cap cap' l w hL hL' hl

theorem eqRr_has {vn vt vx vi un ut ux ui : Value} {r : Rec} {w : World} (h : HasR w vn vt vx vi r) (h' : HasR w un ut ux ui r) (hs : SizeR 2097152 r) :
  Calls Tryd.prog 9 #[.agg #[vn, .int .i64 r.type, .int .i64 r.ttl, .int .i64 r.addr, vt, vx, vi], .agg #[un, .int .i64 r.type, .int .i64 r.ttl, .int .i64 r.addr, ut, ux, ui]] w fun e w' => e = .returned (.bool true) ∧ Below w.heap.size w w' := by
 obtain ⟨na, nc, rfl, _⟩ := h.name.form
 obtain ⟨ta, tc, rfl, _⟩ := h.to.form
 obtain ⟨xa, xc, rfl, _⟩ := h.text.form
 obtain ⟨ia, ic, rfl, _⟩ := h.nums.form
 obtain ⟨na', nc', rfl, _⟩ := h'.name.form
 obtain ⟨ta', tc', rfl, _⟩ := h'.to.form
 obtain ⟨xa', xc', rfl, _⟩ := h'.text.form
 obtain ⟨ia', ic', rfl, _⟩ := h'.nums.form
 have b0 := below2 w (.cells #[.slice na r.name.length nc, .int .i64 r.type, .int .i64 r.ttl, .int .i64 r.addr, .slice ta r.to.length tc, .slice xa r.text.length xc, .slice ia r.nums.length ic] 33) (.cells #[.slice na' r.name.length nc', .int .i64 r.type, .int .i64 r.ttl, .int .i64 r.addr, .slice ta' r.to.length tc', .slice xa' r.text.length xc', .slice ia' r.nums.length ic'] 33)
 obtain ⟨hsz, k0, x0⟩ := box2 w (.cells #[.slice na r.name.length nc, .int .i64 r.type, .int .i64 r.ttl, .int .i64 r.addr, .slice ta r.to.length tc, .slice xa r.text.length xc, .slice ia r.nums.length ic] 33) #[.slice na' r.name.length nc', .int .i64 r.type, .int .i64 r.ttl, .int .i64 r.addr, .slice ta' r.to.length tc', .slice xa' r.text.length xc', .slice ia' r.nums.length ic'] 33
 have H0 := UC (h.below b0)
 have H0' := UC (h'.below b0)
 have HS := UC hs
 have K0 := UC k0
 have X0 := UC x0
 clear h h' hs k0 x0
 have e1 : (r.type != r.type) = false := by simp
 have e2 : (r.ttl != r.ttl) = false := by simp
 have e3 : (r.addr != r.addr) = false := by simp
 go_enter Tryd.func9, Tryd.ntmps9
 go_wp2_with fail
 generalize (w.alloc (.cells #[.slice na r.name.length nc, .int .i64 r.type, .int .i64 r.ttl, .int .i64 r.addr, .slice ta r.to.length tc, .slice xa r.text.length xc, .slice ia r.nums.length ic] 33)).alloc (.cells #[.slice na' r.name.length nc', .int .i64 r.type, .int .i64 r.ttl, .int .i64 r.addr, .slice ta' r.to.length tc', .slice xa' r.text.length xc', .slice ia' r.nums.length ic'] 33) = W at *
 refine (eqName_has (UB H0).name (UB H0').name (UB HS).names).mono ?_
 rintro e w1 ⟨rfl, b1⟩
 have bb1 := UG b0 b1
 have K1 := UC (UE b1 (UB K0))
 have X1 := UC (UE b1 (UB X0))
 have H1 := UC ((UB H0).below b1)
 have H1' := UC ((UB H0').below b1)
 obtain ⟨d0, d1, d2, d3, d4, d5, d6⟩ := UJ (UB K1)
 obtain ⟨f0, f1, f2, f3, f4, f5, f6⟩ := UJ (UB X1)
 clear b0 K0 X0 H0 H0' b1
 go_wp2_with fail
 clear d0 d1 d2 d3 d4 d5 d6 f0 f1 f2 f3 f4 f5 f6
 refine (eqName_has (UB H1).to (UB H1').to (UB HS).tos).mono ?_
 rintro e w2 ⟨rfl, b2⟩
 have bb2 := UG bb1 b2
 have K2 := UC (UE b2 (UB K1))
 have X2 := UC (UE b2 (UB X1))
 have H2 := UC ((UB H1).below b2)
 have H2' := UC ((UB H1').below b2)
 obtain ⟨d0, d1, d2, d3, d4, d5, d6⟩ := UJ (UB K2)
 obtain ⟨f0, f1, f2, f3, f4, f5, f6⟩ := UJ (UB X2)
 clear bb1 K1 X1 H1 H1' b2
 go_wp2_with fail
 clear d0 d1 d2 d3 d4 d5 d6 f0 f1 f2 f3 f4 f5 f6
 refine (eqByteS_has (UB H2).text (UB H2').text (UB HS).text).mono ?_
 rintro e w3 ⟨rfl, q3, hq3⟩
 have b3 : Below w2.heap.size w2 w3 := by rw [hq3]; exact below_draws q3
 clear hq3
 have bb3 := UG bb2 b3
 have K3 := UC (UE b3 (UB K2))
 have X3 := UC (UE b3 (UB X2))
 have H3 := UC ((UB H2).below b3)
 have H3' := UC ((UB H2').below b3)
 obtain ⟨d0, d1, d2, d3, d4, d5, d6⟩ := UJ (UB K3)
 obtain ⟨f0, f1, f2, f3, f4, f5, f6⟩ := UJ (UB X3)
 clear bb2 K2 X2 H2 H2' b3
 go_wp2_with fail
 clear d0 d1 d2 d3 d4 d5 d6 f0 f1 f2 f3 f4 f5 f6
 refine (eqIntS_has (UB H3).nums (UB H3').nums (UB HS).nums).mono ?_
 rintro e w4 ⟨rfl, q4, hq4⟩
 have b4 : Below w3.heap.size w3 w4 := by rw [hq4]; exact below_draws q4
 clear hq4
 go_wp2_with fail
 go_ret
 exact ⟨rfl, UG bb3 b4⟩
set_option maxHeartbeats 1000000 in
set_option maxRecDepth 100000 in
theorem toRr_any (an : Option Addr) (cn : Nat) (ato : Option Addr) (ct : Nat) (ax : Option Addr) (cx : Nat) (ai : Option Addr) (ci : Nat) (r : Rec) (w : World) (h : InR w an ato ax ai r) (hs : SizeR 1048576 r) :
  Calls Tryd.prog 6 #[(.agg #[.slice an r.name.length cn, .int .i64 r.type, .int .i64 r.ttl, .int .i64 r.addr, .slice ato r.to.length ct, .slice ax r.text.length cx, .slice ai r.nums.length ci])] w fun e w' => ∃ vn vt vx vi, e = .returned (.agg #[vn, .int .i64 r.type, .int .i64 r.ttl, .int .i64 r.addr, vt, vx, vi]) ∧ OwnR w.heap.size w'.heap.size 25 5 3 w' vn vt vx vi r ∧ Below w.heap.size w w' := by
 obtain ⟨hsz, r0, v0⟩ := box3 w (.cells #[.slice an r.name.length cn, .int .i64 r.type, .int .i64 r.ttl, .int .i64 r.addr, .slice ato r.to.length ct, .slice ax r.text.length cx, .slice ai r.nums.length ci] 28) #[.slice none 0 0, .int .i64 0, .int .i64 0, .int .i64 0, .slice none 0 0, .slice none 0 0, .slice none 0 0] #[.slice none 0 0, .int .i64 0, .int .i64 0, .int .i64 0, .slice none 0 0, .slice none 0 0, .slice none 0 0] 33 33
 have b0 : Below w.heap.size w (((w.alloc (.cells #[.slice an r.name.length cn, .int .i64 r.type, .int .i64 r.ttl, .int .i64 r.addr, .slice ato r.to.length ct, .slice ax r.text.length cx, .slice ai r.nums.length ci] 28)).alloc (.cells #[.slice none 0 0, .int .i64 0, .int .i64 0, .int .i64 0, .slice none 0 0, .slice none 0 0, .slice none 0 0] 33)).alloc (.cells #[.slice none 0 0, .int .i64 0, .int .i64 0, .int .i64 0, .slice none 0 0, .slice none 0 0, .slice none 0 0] 33)) := ((UI _).alloc (UI _).size _).alloc ((UI _).alloc (UI _).size _).size _
 have k0 : (((w.alloc (.cells #[.slice an r.name.length cn, .int .i64 r.type, .int .i64 r.ttl, .int .i64 r.addr, .slice ato r.to.length ct, .slice ax r.text.length cx, .slice ai r.nums.length ci] 28)).alloc (.cells #[.slice none 0 0, .int .i64 0, .int .i64 0, .int .i64 0, .slice none 0 0, .slice none 0 0, .slice none 0 0] 33)).alloc (.cells #[.slice none 0 0, .int .i64 0, .int .i64 0, .int .i64 0, .slice none 0 0, .slice none 0 0, .slice none 0 0] 33)).heap[w.heap.size]? = some (.cells #[.slice an r.name.length cn, .int .i64 r.type, .int .i64 r.ttl, .int .i64 r.addr, .slice ato r.to.length ct, .slice ax r.text.length cx, .slice ai r.nums.length ci] 28) := UE (UI _) (UE (UI _) (heap_alloc_new w _))
 have I0 := UC (h.below b0)
 have HS := UC hs
 have K0 := UC k0
 have R0 := UC r0
 have V0 := UC v0
 have HI := UC h
 clear h hs k0 r0 v0
 go_enter Tryd.func6, Tryd.ntmps6
 go_wp2_with fail
 generalize (((w.alloc (.cells #[.slice an r.name.length cn, .int .i64 r.type, .int .i64 r.ttl, .int .i64 r.addr, .slice ato r.to.length ct, .slice ax r.text.length cx, .slice ai r.nums.length ci] 28)).alloc (.cells #[.slice none 0 0, .int .i64 0, .int .i64 0, .int .i64 0, .slice none 0 0, .slice none 0 0, .slice none 0 0] 33)).alloc (.cells #[.slice none 0 0, .int .i64 0, .int .i64 0, .int .i64 0, .slice none 0 0, .slice none 0 0, .slice none 0 0] 33)) = W at *
 refine (toName_any an cn r.name _ (UB I0).name (UB HS).name (UB HS).names).mono ?_
 rintro e w1 ⟨v1, rfl, o1, b1⟩
 obtain ⟨n1, m1, rfl, _⟩ := o1.hasL.form
 have bb1 := UG b0 b1
 have K1 := UC (UE b1 (UB K0))
 have R1 := UC (UE b1 (UB R0))
 have V1 := UE b1 (UB V0)
 have O1 := UC o1.here
 have z1 := b1.size
 obtain ⟨d0, d1, d2, d3, d4, d5, d6⟩ := UJ (UB K1)
 obtain ⟨f0, f1, f2, f3, f4, f5, f6⟩ := UJ V1
 obtain ⟨g0, g1, g2, g3, g4, g5, g6⟩ := VI V1
 clear b0 K0 R0 V0 b1 o1 I0
 go_wp2_with fail
 clear d0 d1 d2 d3 d4 d5 d6 f0 f1 f2 f3 f4 f5 f6 g0 g1 g2 g3 g4 g5 g6
 have u2 : Outside (w.heap.size + 1 + 1) (w.heap.size + 1 + 1 + 1) w1 ((((w1.setCell ⟨w.heap.size + 1 + 1, 0, none⟩ (.slice n1 r.name.length m1)).setCell ⟨w.heap.size + 1 + 1, 1, none⟩ (.int .i64 r.type)).setCell ⟨w.heap.size + 1 + 1, 2, none⟩ (.int .i64 r.ttl)).setCell ⟨w.heap.size + 1 + 1, 3, none⟩ (.int .i64 r.addr)) := (((UT _ _ _ _).trans (UT _ _ _ _)).trans (UT _ _ _ _)).trans (UT _ _ _ _)
 have V2 : ((((w1.setCell ⟨w.heap.size + 1 + 1, 0, none⟩ (.slice n1 r.name.length m1)).setCell ⟨w.heap.size + 1 + 1, 1, none⟩ (.int .i64 r.type)).setCell ⟨w.heap.size + 1 + 1, 2, none⟩ (.int .i64 r.ttl)).setCell ⟨w.heap.size + 1 + 1, 3, none⟩ (.int .i64 r.addr)).heap[w.heap.size + 1 + 1]? = some (.cells #[.slice n1 r.name.length m1, .int .i64 r.type, .int .i64 r.ttl, .int .i64 r.addr, .slice none 0 0, .slice none 0 0, .slice none 0 0] 33) := UV (UV (UV (UV V1 0 _) 1 _) 2 _) 3 _
 generalize ((((w1.setCell ⟨w.heap.size + 1 + 1, 0, none⟩ (.slice n1 r.name.length m1)).setCell ⟨w.heap.size + 1 + 1, 1, none⟩ (.int .i64 r.type)).setCell ⟨w.heap.size + 1 + 1, 2, none⟩ (.int .i64 r.ttl)).setCell ⟨w.heap.size + 1 + 1, 3, none⟩ (.int .i64 r.addr)) = w2 at *
 have bb2 := u2.below bb1 (by omega)
 have K2 := UC (u2.kept (UB K1) (by omega))
 have R2 := UC (u2.kept (UB R1) (by omega))
 have O2 := UC ((UB O1).outside u2 (by omega))
 have z2 := u2.size
 clear bb1 K1 R1 O1 u2 V1
 refine (toName_any ato ct r.to _ ((UB HI).below bb2).to (UB HS).to (UB HS).tos).mono ?_
 rintro e w3 ⟨v3, rfl, o3, b3⟩
 obtain ⟨n2, m2, rfl, _⟩ := o3.hasL.form
 have bb3 := UG bb2 b3
 have K3 := UC (UE b3 (UB K2))
 have R3 := UC (UE b3 (UB R2))
 have V3 := UE b3 V2
 have O3 := UC ((UB O2).below b3)
 have T3 := UC o3.here
 have z3 := b3.size
 obtain ⟨d0, d1, d2, d3, d4, d5, d6⟩ := UJ (UB K3)
 obtain ⟨f0, f1, f2, f3, f4, f5, f6⟩ := UJ V3
 obtain ⟨g0, g1, g2, g3, g4, g5, g6⟩ := VI V3
 clear bb2 K2 R2 V2 b3 o3 O2
 go_wp2_with fail
 clear d0 d1 d2 d3 d4 d5 d6 f0 f1 f2 f3 f4 f5 f6 g0 g1 g2 g3 g4 g5 g6
 have u4 := UT w3 (w.heap.size + 1 + 1) 4 (.slice n2 r.to.length m2)
 have V4 : (w3.setCell ⟨w.heap.size + 1 + 1, 4, none⟩ (.slice n2 r.to.length m2)).heap[w.heap.size + 1 + 1]? = some (.cells #[.slice n1 r.name.length m1, .int .i64 r.type, .int .i64 r.ttl, .int .i64 r.addr, .slice n2 r.to.length m2, .slice none 0 0, .slice none 0 0] 33) := UV V3 4 _
 generalize (w3.setCell ⟨w.heap.size + 1 + 1, 4, none⟩ (.slice n2 r.to.length m2)) = w4 at *
 have bb4 := u4.below bb3 (by omega)
 have K4 := UC (u4.kept (UB K3) (by omega))
 have R4 := UC (u4.kept (UB R3) (by omega))
 have O4 := UC ((UB O3).outside u4 (by omega))
 have T4 := UC ((UB T3).outside u4 (by omega))
 have z4 := u4.size
 clear bb3 K3 R3 O3 T3 u4 V3
 refine (toByteS_any ax cx r.text _ ((UB HI).below bb4).text (UB HS).text).mono ?_
 rintro e w5 ⟨v5, rfl, o5, b5⟩
 obtain ⟨n3, m3, rfl, _⟩ := o5.lies
 have bb5 := UG bb4 b5
 have K5 := UC (UE b5 (UB K4))
 have R5 := UC (UE b5 (UB R4))
 have V5 := UE b5 V4
 have O5 := UC ((UB O4).below b5)
 have T5 := UC ((UB T4).below b5)
 have X5 := UC o5.here
 have z5 := b5.size
 obtain ⟨d0, d1, d2, d3, d4, d5, d6⟩ := UJ (UB K5)
 obtain ⟨f0, f1, f2, f3, f4, f5, f6⟩ := UJ V5
 obtain ⟨g0, g1, g2, g3, g4, g5, g6⟩ := VI V5
 clear bb4 K4 R4 V4 b5 o5 O4 T4
 go_wp2_with fail
 clear d0 d1 d2 d3 d4 d5 d6 f0 f1 f2 f3 f4 f5 f6 g0 g1 g2 g3 g4 g5 g6
 have u6 := UT w5 (w.heap.size + 1 + 1) 5 (.slice n3 r.text.length m3)
 have V6 : (w5.setCell ⟨w.heap.size + 1 + 1, 5, none⟩ (.slice n3 r.text.length m3)).heap[w.heap.size + 1 + 1]? = some (.cells #[.slice n1 r.name.length m1, .int .i64 r.type, .int .i64 r.ttl, .int .i64 r.addr, .slice n2 r.to.length m2, .slice n3 r.text.length m3, .slice none 0 0] 33) := UV V5 5 _
 generalize (w5.setCell ⟨w.heap.size + 1 + 1, 5, none⟩ (.slice n3 r.text.length m3)) = w6 at *
 have bb6 := u6.below bb5 (by omega)
 have R6 := UC (u6.kept (UB R5) (by omega))
 have O6 := UC ((UB O5).outside u6 (by omega))
 have T6 := UC ((UB T5).outside u6 (by omega))
 have X6 := UC ((UB X5).outside u6 (by omega))
 have z6 := u6.size
 clear bb5 K5 R5 O5 T5 X5 u6 V5
 refine (toIntS_any ai ci r.nums _ ((UB HI).below bb6).nums (UB HS).nums).mono ?_
 rintro e w7 ⟨v7, rfl, o7, b7⟩
 obtain ⟨n4, m4, rfl, _⟩ := o7.lies
 have bb7 := UG bb6 b7
 have R7 := UE b7 (UB R6)
 have V7 := UE b7 V6
 have O7 := UC ((UB O6).below b7)
 have T7 := UC ((UB T6).below b7)
 have X7 := UC ((UB X6).below b7)
 have Y7 := UC o7.here
 have z7 := b7.size
 obtain ⟨f0, f1, f2, f3, f4, f5, f6⟩ := UJ V7
 obtain ⟨g0, g1, g2, g3, g4, g5, g6⟩ := VI V7
 obtain ⟨p0, p1, p2, p3, p4, p5, p6⟩ := UJ R7
 obtain ⟨q0, q1, q2, q3, q4, q5, q6⟩ := VI R7
 clear bb6 R6 V6 b7 o7 O6 T6 X6
 go_wp2_with fail
 clear f0 f1 f2 f3 f4 f5 f6 g0 g1 g2 g3 g4 g5 g6 p0 p1 p2 p3 p4 p5 p6 q0 q1 q2 q3 q4 q5 q6
 have u8 := (UT w7 (w.heap.size + 1 + 1) 6 (.slice n4 r.nums.length m4)).wide (B' := w.heap.size + 1) (E' := w.heap.size + 3) (by omega) (by omega)
 have R8 := block_other R7 (b' := w.heap.size + 1 + 1) (by omega) 6 (.slice n4 r.nums.length m4)
 generalize w7.setCell ⟨w.heap.size + 1 + 1, 6, none⟩ (.slice n4 r.nums.length m4) = w8 at *
 obtain ⟨R9, u9⟩ := set7 (c0 := .slice n1 r.name.length m1) (c1 := .int .i64 r.type) (c2 := .int .i64 r.ttl) (c3 := .int .i64 r.addr) (c4 := .slice n2 r.to.length m2) (c5 := .slice n3 r.text.length m3) (c6 := .slice n4 r.nums.length m4) R8
 refine bodyPost_ret (results_cell_row rfl _ _ (w.heap.size + 1) 33 #[.slice n1 r.name.length m1, .int .i64 r.type, .int .i64 r.ttl, .int .i64 r.addr, .slice n2 r.to.length m2, .slice n3 r.text.length m3, .slice n4 r.nums.length m4] (0, 0) _ rfl R9 Tryd.underlying33 rfl (by kernel_rfl)) rfl ?_
 have u10 := u8.trans (u9.wide (B' := w.heap.size + 1) (E' := w.heap.size + 3) (by omega) (by omega))
 have z10 := u10.size
 exact ⟨_, _, _, _, rfl, ⟨w1.heap.size, w3.heap.size, w5.heap.size, by omega, by omega, by omega, by omega, ((UB O7).outside u10 (by omega)).wide (by omega) (by omega), ((UB T7).outside u10 (by omega)).wide (by omega) (by omega), ((UB X7).outside u10 (by omega)).wide (by omega) (by omega), ((UB Y7).outside u10 (by omega)).wide (by omega) (by omega)⟩, u10.below bb7 (by omega)⟩
end Go.Proofs.YthmihglfffeedaaDoor
