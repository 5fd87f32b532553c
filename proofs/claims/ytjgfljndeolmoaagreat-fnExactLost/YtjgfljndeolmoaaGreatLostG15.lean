/-
  Contracts of the helpers of the laws for questions. Contract of a helper of the laws: rows of records that are made of what came in, and own their memory (toRrS).
-/
import Derived.Test.YtjgfljndeolmoaaGreatLostG11
import Derived.Test.YtjgfljndeolmoaaGreatLostG10
import Derived.Test.YtjgfljndeolmoaaGreatLostG14
import Derived.Test.YtjgfljndeolmoaaGreatLostG12
import Derived.Test.YtjgfljndeolmoaaGreatLostG13
import Derived.Test.YtjgfljndeolmoaaGreatLostG03
import Derived.Test.YtjgfljndeolmoaaGreatLostG08
namespace Go.Proofs.YtjgfljndeolmoaaGreat
open Go.RowKit
set_option linter.unusedVariables false


set_option maxHeartbeats 1000000 in
set_option maxRecDepth 100000 in
theorem szQuestion_any (a : Option Addr) (c : Nat) (q : Que) (left : Int) (w : World) (h : LiesL w a q.name) (hm : SizeQu maxLen q) (h0 : 0 ≤ left) (h1 : left ≤ 1048576) :
  Calls Tryz.prog 35 #[.agg #[.slice a q.name.length c, .int .i64 q.type], .int .i64 left] w fun e w' => (∃ y : Int, e = .returned (.int .i64 y) ∧ -1 ≤ y ∧ y ≤ left ∧ (0 ≤ y → SizeQu left.toNat q)) ∧ Below w.heap.size w w' := by
 have b0 := below_alloc (w := w) (.cells #[.slice a q.name.length c, .int .i64 q.type] 50)
 have HC := hide (szName_any a c q.name left _ (h.below b0) hm.name hm.names h0 h1)
 clear h hm
 go_enter Tryz.func35, Tryz.ntmps35
 go_wp2_with fail
 generalize w.alloc (.cells #[.slice a q.name.length c, .int .i64 q.type] 50) = W at *
 refine (unhide HC).mono ?_
 rintro e w1 ⟨⟨y1, rfl, ya1, yb1, yc1⟩, b1⟩
 have bb1 := below_next b0 b1
 have Y1 := hide yc1
 clear yc1 b0 b1 HC
 by_cases n1 : y1 < 0
 ·go_wp2
  go_ret
  exact ⟨⟨-1, rfl, by omega, by omega, fun q => by omega⟩, bb1⟩
 go_wp2
 go_ret
 have p1 := unhide Y1 (by omega)
 exact ⟨⟨y1, rfl, by omega, by omega, fun _ => ⟨by omega, fun i hi => by have := p1.2 i hi; omega⟩⟩, bb1⟩

set_option maxHeartbeats 1000000 in
set_option maxRecDepth 100000 in
theorem toQuestion_any (a : Option Addr) (c : Nat) (q : Que) (w : World) (h : LiesL w a q.name) (hs : SizeQu 1048576 q) :
  Calls Tryz.prog 41 #[.agg #[.slice a q.name.length c, .int .i64 q.type]] w fun e w' => ∃ v, e = .returned (.agg #[v, .int .i64 q.type]) ∧ OwnN w.heap.size w'.heap.size 27 5 w' v q.name ∧ Below w.heap.size w w' := by
 obtain ⟨hsz, r0, v0⟩ := box3 w (.cells #[.slice a q.name.length c, .int .i64 q.type] 50) #[.slice none 0 0, .int .i64 0] #[.slice none 0 0, .int .i64 0] 59 59
 have b0 : Below w.heap.size w (((w.alloc (.cells #[.slice a q.name.length c, .int .i64 q.type] 50)).alloc (.cells #[.slice none 0 0, .int .i64 0] 59)).alloc (.cells #[.slice none 0 0, .int .i64 0] 59)) := ((below_alloc _).alloc (below_alloc _).size _).alloc ((below_alloc _).alloc (below_alloc _).size _).size _
 have k0 : (((w.alloc (.cells #[.slice a q.name.length c, .int .i64 q.type] 50)).alloc (.cells #[.slice none 0 0, .int .i64 0] 59)).alloc (.cells #[.slice none 0 0, .int .i64 0] 59)).heap[w.heap.size]? = some (.cells #[.slice a q.name.length c, .int .i64 q.type] 50) := block_kept (below_alloc _) (block_kept (below_alloc _) (heap_alloc_new w _))
 have HC := hide (toName_any a c q.name _ (h.below b0) hs.name hs.names)
 have K0 := hide k0
 have R0 := hide r0
 have V0 := hide v0
 have zv := block_lt v0
 clear h hs k0 r0 v0 hsz
 go_enter Tryz.func41, Tryz.ntmps41
 go_wp2_with fail
 generalize (((w.alloc (.cells #[.slice a q.name.length c, .int .i64 q.type] 50)).alloc (.cells #[.slice none 0 0, .int .i64 0] 59)).alloc (.cells #[.slice none 0 0, .int .i64 0] 59)) = W at *
 refine (unhide HC).mono ?_
 rintro e w1 ⟨v1, rfl, o1, b1⟩
 obtain ⟨n1, m1, rfl, _⟩ := o1.hasL.form
 have bb1 := below_next b0 b1
 have K1 := block_kept b1 (unhide K0)
 have R1 := block_kept b1 (unhide R0)
 have V1 := block_kept b1 (unhide V0)
 have O1 := hide o1.here
 have z1 := b1.size
 obtain ⟨d0, d1⟩ := cells2 K1
 obtain ⟨f0, f1⟩ := cells2 V1
 obtain ⟨g0, g1⟩ := frozen2 V1
 obtain ⟨p0, p1⟩ := cells2 R1
 obtain ⟨q0, q1⟩ := frozen2 R1
 clear b0 K0 R0 V0 b1 o1 HC
 go_wp2_with fail
 clear d0 d1 f0 f1 g0 g1 p0 p1 q0 q1
 have V2 : ((w1.setCell ⟨w.heap.size + 1 + 1, 0, none⟩ (.slice n1 q.name.length m1)).setCell ⟨w.heap.size + 1 + 1, 1, none⟩ (.int .i64 q.type)).heap[w.heap.size + 1 + 1]? = some (.cells #[.slice n1 q.name.length m1, .int .i64 q.type] 59) := block_setAt (block_setAt V1 0 _) 1 _
 have u2 := ((outside_set w1 (w.heap.size + 1 + 1) 0 (.slice n1 q.name.length m1)).trans (outside_set _ (w.heap.size + 1 + 1) 1 (.int .i64 q.type))).wide (B' := w.heap.size + 1) (E' := w.heap.size + 3) (by omega) (by omega)
 have R2 := block_other (block_other R1 (b' := w.heap.size + 1 + 1) (by omega) 0 (.slice n1 q.name.length m1)) (b' := w.heap.size + 1 + 1) (by omega) 1 (.int .i64 q.type)
 generalize (w1.setCell ⟨w.heap.size + 1 + 1, 0, none⟩ (.slice n1 q.name.length m1)).setCell ⟨w.heap.size + 1 + 1, 1, none⟩ (.int .i64 q.type) = w4 at *
 have R5 : ((w4.setCell ⟨w.heap.size + 1, 0, none⟩ (.slice n1 q.name.length m1)).setCell ⟨w.heap.size + 1, 1, none⟩ (.int .i64 q.type)).heap[w.heap.size + 1]? = some (.cells #[.slice n1 q.name.length m1, .int .i64 q.type] 59) := block_setAt (block_setAt R2 0 _) 1 _
 have u5 := ((outside_set w4 (w.heap.size + 1) 0 (.slice n1 q.name.length m1)).trans (outside_set _ (w.heap.size + 1) 1 (.int .i64 q.type))).wide (B' := w.heap.size + 1) (E' := w.heap.size + 3) (by omega) (by omega)
 refine bodyPost_ret (results_cell_row rfl _ _ (w.heap.size + 1) 59 #[.slice n1 q.name.length m1, .int .i64 q.type] (0, 0) _ rfl R5 Tryz.underlying59 rfl (by kernel_rfl)) rfl ?_
 have u6 := u2.trans u5
 have z6 := u6.size
 exact ⟨_, rfl, ((unhide O1).outside u6 (by omega)).wide (by omega) (by omega), u6.below bb1 (by omega)⟩

set_option maxHeartbeats 1000000 in
set_option maxRecDepth 100000 in
theorem eqQuestion_has {v v' : Value} {q : Que} {w : World} (h : HasL w v q.name) (h' : HasL w v' q.name) (hs : SizeQu 2097152 q) :
  Calls Tryz.prog 51 #[.agg #[v, .int .i64 q.type], .agg #[v', .int .i64 q.type]] w fun e w' => e = .returned (.bool true) ∧ Below w.heap.size w w' := by
 obtain ⟨oa, oc, rfl, _⟩ := h.form
 obtain ⟨oa', oc', rfl, _⟩ := h'.form
 have b0 := below2 w (.cells #[.slice oa q.name.length oc, .int .i64 q.type] 59) (.cells #[.slice oa' q.name.length oc', .int .i64 q.type] 59)
 obtain ⟨hsz, k0, x0⟩ := box2 w (.cells #[.slice oa q.name.length oc, .int .i64 q.type] 59) #[.slice oa' q.name.length oc', .int .i64 q.type] 59
 have HC := hide (eqName_has (h.below b0) (h'.below b0) hs.names)
 have K0 := hide k0
 have X0 := hide x0
 clear h h' hs k0 x0 hsz
 go_enter Tryz.func51, Tryz.ntmps51
 go_wp2_with fail
 generalize (w.alloc (.cells #[.slice oa q.name.length oc, .int .i64 q.type] 59)).alloc (.cells #[.slice oa' q.name.length oc', .int .i64 q.type] 59) = W at *
 refine (unhide HC).mono ?_
 rintro e w1 ⟨rfl, b1⟩
 have bb1 := below_next b0 b1
 obtain ⟨d0, d1⟩ := cells2 (block_kept b1 (unhide K0))
 obtain ⟨f0, f1⟩ := cells2 (block_kept b1 (unhide X0))
 clear b0 K0 X0 b1 HC
 go_wp2_with fail
 go_ret
 exact ⟨rfl, bb1⟩
end Go.Proofs.YtjgfljndeolmoaaGreat

namespace Go.Proofs.YtjgfljndeolmoaaGreat
open Go.RowKit
set_option linter.unusedVariables false

set_option maxHeartbeats 1000000 in
set_option maxRecDepth 100000 in
theorem toRrS_own (a : Option Addr) (cap : Nat) (rs : List Rec) (w : World) (h : LiesRs w a rs) (hl : rs.length ≤ 1048576) (hl2 : ∀ i, i < rs.length → SizeR 1048576 (rs.getD i recZ)) :
  Calls Tryz.prog 44 #[.slice a rs.length cap] w fun e w' => ∃ v, e = .returned v ∧ RowO w.heap.size w'.heap.size 137 27 5 3 w' v rs ∧ Below w.heap.size w w' := by
 have hmk := run_make7 (P := Tryz.prog) 34 137 _ 120 Tryz.underlying34 info_rr .i64 .i64 rs.length (by omega) (by omega)
 generalize hn : rs.length = m at *
 have HN := hide hn
 clear hn
 have HL := hide hl2
 clear hl2
 have F0 := hide (fillO_none w m #[.slice none 0 0, .int .i64 0, .int .i64 0, .int .i64 0, .slice none 0 0, .slice none 0 0, .slice none 0 0] 137 27 5 3 rs)
 have B0 := hide (below_alloc (w := w) (.cells (madeCells #[.slice none 0 0, .int .i64 0, .int .i64 0, .int .i64 0, .slice none 0 0, .slice none 0 0, .slice none 0 0] (m * 7)) 137))
 go_enter Tryz.func44, Tryz.ntmps44
 go_wp2
 go_loopw [4] (fun i wr => ∃ (k : Nat), k ≤ m ∧ i = .int .i64 k ∧ FillO w.heap.size m k 137 27 5 3 wr rs ∧ Below w.heap.size w wr) (fun i _ => m - (intOf i).toNat)
 case atStart => exact ⟨0, Nat.zero_le _, rfl, unhide F0, unhide B0⟩
 case round =>
  clear F0 B0
  obtain ⟨k, hk, rfl, hf, hb⟩ := hrel
  by_cases hlt : k < m
  ·obtain ⟨b, off, an, cn, ato, ct, ax, cx, ai, ci, rfl, hbl, hc, hIn⟩ := (h.below hb).here (k := k) (by rw [unhide HN]; exact hlt)
   have HF := hide hf
   have HI := hide hIn
   have HLK := hide (unhide HL k hlt)
   obtain ⟨c0, c1, c2, c3, c4, c5, c6⟩ := range7 hc
   have zf := hf.lt
   generalize hrk : rs.getD k recZ = rk at *
   have HRK := hide hrk
   clear hf hIn hc hrk
   go_wp2_with fail
   refine (toRr_any an cn ato ct ax cx ai ci rk _ (unhide HI) (unhide HLK)).mono ?_
   rintro e w1 ⟨vn, vt, vx, vi, rfl, o1, b1⟩
   clear c0 c1 c2 c3 c4 c5 c6
   have hb1 := below_next hb b1
   have ht := ((unhide HF).below b1).here hlt
   have hst := (unhide HF).step b1 hlt (vn := vn) (vt := vt) (vx := vx) (vi := vi) (by rw [unhide HRK]; exact o1)
   rw [unhide HRK] at hst
   have HST := hide hst
   have hbs := (outside_sets w.heap.size (cellsR vn vt vx vi rk) (k * 7) w1).below hb1 (Nat.le_refl _)
   have HBS := hide hbs
   have HT := hide ht
   obtain ⟨na, nc, rfl, _⟩ := o1.hasR.name.form
   obtain ⟨ta, tc, rfl, _⟩ := o1.hasR.to.form
   obtain ⟨xa, xc, rfl, _⟩ := o1.hasR.text.form
   obtain ⟨ia, ic, rfl, _⟩ := o1.hasR.nums.form
   clear hb1 hst hbs ht o1 b1 hb
   obtain ⟨y0, y1, y2, y3, y4, y5, y6, ⟨d0, d1, d2, d3, d4, d5, d6⟩, f0, f1, f2, f3, f4, f5, f6⟩ := there_cells (unhide HT)
   clear HT
   go_wp2
   exact ⟨⟨k + 1, by omega, by go_num, unhide HST, unhide HBS⟩, by simp [intOf]; omega⟩
  ·obtain rfl : k = m := by omega
   go_wp2
   go_ret
   have hN := unhide HN
   subst hN
   exact ⟨_, rfl, hf.row rfl (by unfold maxLen; omega), hb⟩
end Go.Proofs.YtjgfljndeolmoaaGreat
