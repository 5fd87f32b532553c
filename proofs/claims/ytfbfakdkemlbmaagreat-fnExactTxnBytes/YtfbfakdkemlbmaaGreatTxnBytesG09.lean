/-
  Contracts of the helpers of the laws for Want (szWant, toWant, eqWant).
-/
import Derived.Test.YtfbfakdkemlbmaaGreatTxnBytesG05
import Derived.Test.YtfbfakdkemlbmaaGreatTxnBytesG08
namespace Go.Proofs.YtfbfakdkemlbmaaGreat
open Go.RowKit
set_option linter.unusedVariables false

theorem OwnR.wider {B E B' E' : Nat} {el eb ei : TypeId} {w : World} {vn vt vx vi : Value} {r : Rec} (h : OwnR B E el eb ei w vn vt vx vi r) (hB : B' ≤ B) (hE : E ≤ E') : OwnR B' E' el eb ei w vn vt vx vi r := by
 obtain ⟨s1, s2, s3, a1, a2, a3, a4, h1, h2, h3, h4⟩ := h
 exact ⟨s1, s2, s3, by omega, a2, a3, by omega, h1.wide hB (Nat.le_refl _), h2, h3, h4.wide (Nat.le_refl _) hE⟩

set_option maxHeartbeats 1000000 in
set_option maxRecDepth 100000 in
theorem szWant_any (an : Option Addr) (cn : Nat) (ato : Option Addr) (ct : Nat) (ax : Option Addr) (cx : Nat) (ai : Option Addr) (ci : Nat) (r : Rec) (c : Int) (b : Bool) (left : Int) (w : World) (h : InR w an ato ax ai r) (hm : SizeR maxLen r) (h0 : 0 ≤ left) (h1 : left ≤ 1048576) :
  Calls Tryz.prog 46 #[.agg #[.slice an r.name.length cn, .int .i64 r.type, .int .i64 r.ttl, .int .i64 r.addr, .slice ato r.to.length ct, .slice ax r.text.length cx, .slice ai r.nums.length ci, .int .i64 c, .bool b], .int .i64 left] w fun e w' => (∃ y : Int, e = .returned (.int .i64 y) ∧ -1 ≤ y ∧ y ≤ left ∧ (0 ≤ y → SizeR left.toNat r)) ∧ Below w.heap.size w w' := by
 have b0 := below_alloc (w := w) (.cells #[.slice an r.name.length cn, .int .i64 r.type, .int .i64 r.ttl, .int .i64 r.addr, .slice ato r.to.length ct, .slice ax r.text.length cx, .slice ai r.nums.length ci, .int .i64 c, .bool b] 97)
 have K0 := hide (heap_alloc_new w (.cells #[.slice an r.name.length cn, .int .i64 r.type, .int .i64 r.ttl, .int .i64 r.addr, .slice ato r.to.length ct, .slice ax r.text.length cx, .slice ai r.nums.length ci, .int .i64 c, .bool b] 97))
 have HZ := hide (szRr_any an cn ato ct ax cx ai ci r left _ (h.below b0) hm h0 h1)
 clear h hm
 obtain ⟨d0, d1, d2, d3, d4, d5, d6, d7, d8⟩ := cells9 (unhide K0)
 go_enter Tryz.func46, Tryz.ntmps46
 go_wp2_with fail
 refine (unhide HZ).mono ?_
 rintro e w1 ⟨⟨y, rfl, hr0, hr1, hr2⟩, b1⟩
 have HR := hide hr2
 clear hr2
 by_cases hneg : y < 0
 ·go_wp2_with fail
  go_ret
  exact ⟨⟨-1, rfl, by omega, by omega, fun hneg => by omega⟩, below_next b0 b1⟩
 ·go_wp2_with fail
  go_ret
  exact ⟨⟨y, rfl, hr0, hr1, unhide HR⟩, below_next b0 b1⟩

set_option maxHeartbeats 1000000 in
set_option maxRecDepth 100000 in
theorem toWant_any (an : Option Addr) (cn : Nat) (ato : Option Addr) (ct : Nat) (ax : Option Addr) (cx : Nat) (ai : Option Addr) (ci : Nat) (r : Rec) (c : Int) (b : Bool) (w : World) (h : InR w an ato ax ai r) (hs : SizeR 1048576 r) :
  Calls Tryz.prog 54 #[.agg #[.slice an r.name.length cn, .int .i64 r.type, .int .i64 r.ttl, .int .i64 r.addr, .slice ato r.to.length ct, .slice ax r.text.length cx, .slice ai r.nums.length ci, .int .i64 c, .bool b]] w fun e w' => ∃ vn vt vx vi, e = .returned (.agg #[vn, .int .i64 r.type, .int .i64 r.ttl, .int .i64 r.addr, vt, vx, vi, .int .i64 c, .bool b]) ∧ OwnR w.heap.size w'.heap.size 27 5 3 w' vn vt vx vi r ∧ Below w.heap.size w w' := by
 obtain ⟨hsz, r0, v0⟩ := box3 w (.cells #[.slice an r.name.length cn, .int .i64 r.type, .int .i64 r.ttl, .int .i64 r.addr, .slice ato r.to.length ct, .slice ax r.text.length cx, .slice ai r.nums.length ci, .int .i64 c, .bool b] 97) #[.slice none 0 0, .int .i64 0, .int .i64 0, .int .i64 0, .slice none 0 0, .slice none 0 0, .slice none 0 0, .int .i64 0, .bool false] #[.slice none 0 0, .int .i64 0, .int .i64 0, .int .i64 0, .slice none 0 0, .slice none 0 0, .slice none 0 0, .int .i64 0, .bool false] 107 107
 have b0 : Below w.heap.size w (((w.alloc (.cells #[.slice an r.name.length cn, .int .i64 r.type, .int .i64 r.ttl, .int .i64 r.addr, .slice ato r.to.length ct, .slice ax r.text.length cx, .slice ai r.nums.length ci, .int .i64 c, .bool b] 97)).alloc (.cells #[.slice none 0 0, .int .i64 0, .int .i64 0, .int .i64 0, .slice none 0 0, .slice none 0 0, .slice none 0 0, .int .i64 0, .bool false] 107)).alloc (.cells #[.slice none 0 0, .int .i64 0, .int .i64 0, .int .i64 0, .slice none 0 0, .slice none 0 0, .slice none 0 0, .int .i64 0, .bool false] 107)) := ((below_alloc _).alloc (below_alloc _).size _).alloc ((below_alloc _).alloc (below_alloc _).size _).size _
 have k0 : (((w.alloc (.cells #[.slice an r.name.length cn, .int .i64 r.type, .int .i64 r.ttl, .int .i64 r.addr, .slice ato r.to.length ct, .slice ax r.text.length cx, .slice ai r.nums.length ci, .int .i64 c, .bool b] 97)).alloc (.cells #[.slice none 0 0, .int .i64 0, .int .i64 0, .int .i64 0, .slice none 0 0, .slice none 0 0, .slice none 0 0, .int .i64 0, .bool false] 107)).alloc (.cells #[.slice none 0 0, .int .i64 0, .int .i64 0, .int .i64 0, .slice none 0 0, .slice none 0 0, .slice none 0 0, .int .i64 0, .bool false] 107)).heap[w.heap.size]? = some (.cells #[.slice an r.name.length cn, .int .i64 r.type, .int .i64 r.ttl, .int .i64 r.addr, .slice ato r.to.length ct, .slice ax r.text.length cx, .slice ai r.nums.length ci, .int .i64 c, .bool b] 97) := block_kept (below_alloc _) (block_kept (below_alloc _) (heap_alloc_new w _))
 have HT := hide (toRr_any an cn ato ct ax cx ai ci r _ (h.below b0) hs)
 have K0 := hide k0
 have R0 := hide r0
 have V0 := hide v0
 clear h hs k0 r0 v0
 obtain ⟨d0, d1, d2, d3, d4, d5, d6, d7, d8⟩ := cells9 (unhide K0)
 go_enter Tryz.func54, Tryz.ntmps54
 go_wp2_with fail
 generalize ((w.alloc (.cells #[.slice an r.name.length cn, .int .i64 r.type, .int .i64 r.ttl, .int .i64 r.addr, .slice ato r.to.length ct, .slice ax r.text.length cx, .slice ai r.nums.length ci, .int .i64 c, .bool b] 97)).alloc (.cells #[.slice none 0 0, .int .i64 0, .int .i64 0, .int .i64 0, .slice none 0 0, .slice none 0 0, .slice none 0 0, .int .i64 0, .bool false] 107)).alloc (.cells #[.slice none 0 0, .int .i64 0, .int .i64 0, .int .i64 0, .slice none 0 0, .slice none 0 0, .slice none 0 0, .int .i64 0, .bool false] 107) = W at *
 refine (unhide HT).mono ?_
 rintro e w1 ⟨vn, vt, vx, vi, rfl, o1, b1⟩
 obtain ⟨n1, m1, rfl, _⟩ := o1.hasR.name.form
 obtain ⟨n2, m2, rfl, _⟩ := o1.hasR.to.form
 obtain ⟨n3, m3, rfl, _⟩ := o1.hasR.text.form
 obtain ⟨n4, m4, rfl, _⟩ := o1.hasR.nums.form
 have K1 := hide (block_kept b1 (unhide K0))
 have R1 := block_kept b1 (unhide R0)
 have V1 := block_kept b1 (unhide V0)
 have O1 := hide o1
 have bb1 := below_next b0 b1
 have z1 := b1.size
 clear d0 d1 d2 d3 d4 d5 d6 d7 d8 HT K0 R0 V0 o1 b0 b1
 obtain ⟨d0, d1, d2, d3, d4, d5, d6, d7, d8⟩ := cells9 (unhide K1)
 obtain ⟨f0, f1, f2, f3, f4, f5, f6, f7, f8⟩ := cells9 V1
 obtain ⟨g0, g1, g2, g3, g4, g5, g6, g7, g8⟩ := frozen9 V1
 obtain ⟨p0, p1, p2, p3, p4, p5, p6, p7, p8⟩ := cells9 R1
 obtain ⟨q0, q1, q2, q3, q4, q5, q6, q7, q8⟩ := frozen9 R1
 go_wp2_with fail
 clear d0 d1 d2 d3 d4 d5 d6 d7 d8 f0 f1 f2 f3 f4 f5 f6 f7 f8 g0 g1 g2 g3 g4 g5 g6 g7 g8 p0 p1 p2 p3 p4 p5 p6 p7 p8 q0 q1 q2 q3 q4 q5 q6 q7 q8
 obtain ⟨V2, u2⟩ := set9_is (c0 := .slice n1 r.name.length m1) (c1 := .int .i64 r.type) (c2 := .int .i64 r.ttl) (c3 := .int .i64 r.addr) (c4 := .slice n2 r.to.length m2) (c5 := .slice n3 r.text.length m3) (c6 := .slice n4 r.nums.length m4) (c7 := .int .i64 c) (c8 := .bool b) V1
 have R2 := u2.kept R1 (by omega)
 obtain ⟨R3, u3⟩ := set9_is (c0 := .slice n1 r.name.length m1) (c1 := .int .i64 r.type) (c2 := .int .i64 r.ttl) (c3 := .int .i64 r.addr) (c4 := .slice n2 r.to.length m2) (c5 := .slice n3 r.text.length m3) (c6 := .slice n4 r.nums.length m4) (c7 := .int .i64 c) (c8 := .bool b) R2
 have u4 := (u2.wide (B' := w.heap.size + 1) (E' := w.heap.size + 3) (by omega) (by omega)).trans (u3.wide (B' := w.heap.size + 1) (E' := w.heap.size + 3) (by omega) (by omega))
 have z4 := u4.size
 unfold set9 at R3 u4 z4
 refine bodyPost_ret (results_cell_row rfl _ _ (w.heap.size + 1) 107 #[.slice n1 r.name.length m1, .int .i64 r.type, .int .i64 r.ttl, .int .i64 r.addr, .slice n2 r.to.length m2, .slice n3 r.text.length m3, .slice n4 r.nums.length m4, .int .i64 c, .bool b] (0, 0) _ rfl R3 Tryz.underlying107 rfl (by kernel_rfl)) rfl ?_
 exact ⟨_, _, _, _, rfl, ((unhide O1).outside u4 (by omega)).wider (by omega) (by omega), u4.below bb1 (by omega)⟩

set_option maxHeartbeats 1000000 in
set_option maxRecDepth 100000 in
theorem eqWant_has {vn vt vx vi un ut ux ui : Value} {r : Rec} (c : Int) (b : Bool) {w : World} (h : HasR w vn vt vx vi r) (h' : HasR w un ut ux ui r) (hs : SizeR 2097152 r) :
  Calls Tryz.prog 58 #[.agg #[vn, .int .i64 r.type, .int .i64 r.ttl, .int .i64 r.addr, vt, vx, vi, .int .i64 c, .bool b], .agg #[un, .int .i64 r.type, .int .i64 r.ttl, .int .i64 r.addr, ut, ux, ui, .int .i64 c, .bool b]] w fun e w' => e = .returned (.bool true) ∧ Below w.heap.size w w' := by
 obtain ⟨na, nc, rfl, _⟩ := h.name.form
 obtain ⟨ta, tc, rfl, _⟩ := h.to.form
 obtain ⟨xa, xc, rfl, _⟩ := h.text.form
 obtain ⟨ia, ic, rfl, _⟩ := h.nums.form
 obtain ⟨na2, nc2, rfl, _⟩ := h'.name.form
 obtain ⟨ta2, tc2, rfl, _⟩ := h'.to.form
 obtain ⟨xa2, xc2, rfl, _⟩ := h'.text.form
 obtain ⟨ia2, ic2, rfl, _⟩ := h'.nums.form
 obtain ⟨hsz, k0, r0⟩ := box2 w (.cells #[.slice na r.name.length nc, .int .i64 r.type, .int .i64 r.ttl, .int .i64 r.addr, .slice ta r.to.length tc, .slice xa r.text.length xc, .slice ia r.nums.length ic, .int .i64 c, .bool b] 107) #[.slice na2 r.name.length nc2, .int .i64 r.type, .int .i64 r.ttl, .int .i64 r.addr, .slice ta2 r.to.length tc2, .slice xa2 r.text.length xc2, .slice ia2 r.nums.length ic2, .int .i64 c, .bool b] 107
 have b0 := below2 w (.cells #[.slice na r.name.length nc, .int .i64 r.type, .int .i64 r.ttl, .int .i64 r.addr, .slice ta r.to.length tc, .slice xa r.text.length xc, .slice ia r.nums.length ic, .int .i64 c, .bool b] 107) (.cells #[.slice na2 r.name.length nc2, .int .i64 r.type, .int .i64 r.ttl, .int .i64 r.addr, .slice ta2 r.to.length tc2, .slice xa2 r.text.length xc2, .slice ia2 r.nums.length ic2, .int .i64 c, .bool b] 107)
 have HE := hide (eqRr_has (h.below b0) (h'.below b0) hs)
 have K0 := hide k0
 have R0 := hide r0
 clear h h' hs k0 r0
 obtain ⟨d0, d1, d2, d3, d4, d5, d6, d7, d8⟩ := cells9 (unhide K0)
 obtain ⟨f0, f1, f2, f3, f4, f5, f6, f7, f8⟩ := cells9 (unhide R0)
 have dr : ∀ m : Nat, True := fun _ => trivial
 go_enter Tryz.func58, Tryz.ntmps58
 go_wp2_with fail
 generalize (w.alloc (.cells #[.slice na r.name.length nc, .int .i64 r.type, .int .i64 r.ttl, .int .i64 r.addr, .slice ta r.to.length tc, .slice xa r.text.length xc, .slice ia r.nums.length ic, .int .i64 c, .bool b] 107)).alloc (.cells #[.slice na2 r.name.length nc2, .int .i64 r.type, .int .i64 r.ttl, .int .i64 r.addr, .slice ta2 r.to.length tc2, .slice xa2 r.text.length xc2, .slice ia2 r.nums.length ic2, .int .i64 c, .bool b] 107) = W at *
 refine (unhide HE).mono ?_
 rintro e w1 ⟨rfl, b1⟩
 have K1 := hide (block_kept b1 (unhide K0))
 have R1 := hide (block_kept b1 (unhide R0))
 have bb1 := below_next b0 b1
 clear d0 d1 d2 d3 d4 d5 d6 d7 d8 f0 f1 f2 f3 f4 f5 f6 f7 f8 dr K0 R0 b0 b1 HE
 obtain ⟨d0, d1, d2, d3, d4, d5, d6, d7, d8⟩ := cells9 (unhide K1)
 obtain ⟨f0, f1, f2, f3, f4, f5, f6, f7, f8⟩ := cells9 (unhide R1)
 go_wp2_with fail
 go_ret
 exact ⟨rfl, bb1⟩
end Go.Proofs.YtfbfakdkemlbmaaGreat
