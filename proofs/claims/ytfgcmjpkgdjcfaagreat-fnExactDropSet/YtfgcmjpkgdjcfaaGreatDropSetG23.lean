/-
  Contract of the program's copyRr: a record of its own with the same fields, each list in a stretch of blocks of its own. slices.Values of the library at rows of records, as what a loop ranges over. The program's ascending, at pages, as what a loop ranges over: the records by ascending keys. Plain facts: a text of bytes gone through rune by rune, and great letters turned into small ones. No program is named here.
-/
import Derived.Test.YtfgcmjpkgdjcfaaGreatDropSetG22
import Derived.Test.YtfgcmjpkgdjcfaaGreatDropSetG11
import Derived.Test.YtfgcmjpkgdjcfaaGreatDropSetG02
import Derived.Test.YtfgcmjpkgdjcfaaGreatDropSetG18
import Derived.Test.YtfgcmjpkgdjcfaaGreatDropSetG04
import Derived.Test.YtfgcmjpkgdjcfaaGreatDropSetG09
import Derived.RangeFuncNested
import Derived.RangeFuncBound
import Derived.RangeFuncCalls
import Derived.RangeFuncLeaves
import Derived.Shelf.Abstract
import Derived.Shelf.RegionOpen
import Derived.WalkKit
import Derived.OwnWalkIn
import Derived.TacticsInMore
import Derived.LoopNIn
import Derived.LoopIn
import Derived.Test.YtfgcmjpkgdjcfaaGreatDropSetG00
import Derived.Lib.OthersKept
namespace Go.Proofs.YtfgcmjpkgdjcfaaGreat
open Go.RowKit
set_option linter.unusedVariables false

theorem info_intC : (Tryz.prog.info? 3).map (fun i => (i.zero, i.size, i.bytes)) = some (some (.int .i64 0), 1, 8) := by kernel_rfl
/-- 'append([]int(nil), x...)' where no order is drawn. -/
theorem append_nums {P : Program} {w : World} {ops : Array Oper} {rest : List Oper} {o : Oper} {a : Act} {Q : Exit → Act → World → Prop} (hgd : o.guard = none) (s x : Operand) (t e : TypeId)
  (ho : o.op = .call { callee := .builtin .append, args := #[s, x], argTypes := #[t, t] }) (ht : P.underlying t = some (.slice e))
  (hinfo : (P.info? e).map (fun i => (i.zero, i.size, i.bytes)) = some (some (.int .i64 0), 1, 8))
  (vx : Value) (l : List Int) (hs : a.eval s = .slice none 0 0) (hx : a.eval x = vx) (hr : HasI w vx l) (hlen : l.length ≤ 1099511627776)
  (h : ∀ v' w', OwnI w.heap.size e w' v' l → Below w.heap.size w w' → wpList P ops Q rest (a.put o.dst v') w') : wpList P ops Q (o :: rest) a w := by
 obtain ⟨i0, hi, hz0, hz1, hz2⟩ := info_parts hinfo
 have hown := World.ownsRow_nil w w.heap.size e 1
 rcases hr.readsV with ⟨rfl, h0⟩ | ⟨ad, cap, hv, hc⟩
 ·obtain rfl : l = [] := by simpa using h0
  refine wpList_append_own_none hgd s x t ho w.heap.size e i0 1 ht hi _ 0 [] hs hown hx ?_
  exact h _ w hown (Below.refl _ _)
 ·subst hv
  rw [List.length_map] at hx
  refine wpList_append_own w hgd s x t ho w.heap.size e i0 (.int .i64 0) 1 8 ht hi hz0 hz1 hz2 rfl (by decide) _ 0 [] hs hown ad l.length cap (l.map (Value.int .i64)) hx (by simp) hc (one_ofI l) (by unfold maxLen; omega) (by omega) (Nat.le_refl _) ?_
  intro v' w' ho' hg _
  exact h v' w' (by simpa [OwnI] using ho') (below_of_grown hg)

set_option maxHeartbeats 4000000 in
set_option maxRecDepth 100000 in
theorem copyRr_own {vn vt vx vi : Value} {r : Rec} {w : World} (h : HasR w vn vt vx vi r) (hs : ShortR r) :
  Calls Tryz.prog 72 #[.agg #[vn, .int .i64 r.type, .int .i64 r.ttl, .int .i64 r.addr, vt, vx, vi]] w fun e w' => ∃ un ut ux ui, e = .returned (.agg #[un, .int .i64 r.type, .int .i64 r.ttl, .int .i64 r.addr, ut, ux, ui]) ∧
   OwnR w.heap.size w'.heap.size 56 5 3 w' un ut ux ui r ∧ Below w.heap.size w w' := by
 obtain ⟨⟨n1, n2⟩, ⟨t1, t2⟩, hx, hi⟩ := hs
 obtain ⟨na, nc, rfl, _⟩ := h.name.form
 obtain ⟨ta, tc, rfl, _⟩ := h.to.form
 obtain ⟨xa, xc, rfl, _⟩ := h.text.form
 obtain ⟨ia, ic, rfl, _⟩ := h.nums.form
 obtain ⟨hsz, k0, r0⟩ := box2 w (.cells #[.slice na r.name.length nc, .int .i64 r.type, .int .i64 r.ttl, .int .i64 r.addr, .slice ta r.to.length tc, .slice xa r.text.length xc, .slice ia r.nums.length ic] 59) #[.slice none 0 0, .int .i64 0, .int .i64 0, .int .i64 0, .slice none 0 0, .slice none 0 0, .slice none 0 0] 59
 have b0 := below2 w (.cells #[.slice na r.name.length nc, .int .i64 r.type, .int .i64 r.ttl, .int .i64 r.addr, .slice ta r.to.length tc, .slice xa r.text.length xc, .slice ia r.nums.length ic] 59) (.cells #[.slice none 0 0, .int .i64 0, .int .i64 0, .int .i64 0, .slice none 0 0, .slice none 0 0, .slice none 0 0] 59)
 have h0 := h.below b0
 have HN := hide (fun (w : World) (hh : HasL w (.slice na r.name.length nc) r.name) => copyName_has hh n1 n2)
 have HT := hide (fun (w : World) (hh : HasL w (.slice ta r.to.length tc) r.to) => copyName_has hh t1 t2)
 have zz := block_lt r0
 have KB := hide k0
 have KR := hide r0
 have F1 := hide h0.name
 have F2 := hide h0.to
 have HX := hide h.text
 have HI := hide h.nums
 clear hsz k0 r0 h h0 n1 n2 t1 t2
 go_enter Tryz.func72, Tryz.ntmps72
 go_wp2_with fail
 generalize (w.alloc (.cells #[.slice na r.name.length nc, .int .i64 r.type, .int .i64 r.ttl, .int .i64 r.addr, .slice ta r.to.length tc, .slice xa r.text.length xc, .slice ia r.nums.length ic] 59)).alloc (.cells #[.slice none 0 0, .int .i64 0, .int .i64 0, .int .i64 0, .slice none 0 0, .slice none 0 0, .slice none 0 0] 59) = W at *
 have bd := below_drew (w := W)
 have bb := below_next b0 bd
 replace KB := hide (block_kept bd (unhide KB))
 replace KR := hide (block_kept bd (unhide KR))
 replace F1 := hide ((unhide F1).below bd)
 replace F2 := hide ((unhide F2).below bd)
 have z0 := bd.size
 clear bd b0
 have cz := cells7 (unhide KB)
 have c0 := cz.1
 have c4 := cz.2.2.2.2.1
 clear cz
 go_region_law (first
  | (go_simp; go_at_call_of 75 (Value.slice na r.name.length nc); refine (unhide HN _ (unhide F1)).mono ?_; rintro e w1 ⟨v1, rfl, o1, b1⟩; obtain ⟨p1, q1, rfl, _⟩ := o1.hasL.form; have N1 := hide o1.here; have KB1 := hide (block_kept b1 (unhide KB)); have KR1 := hide (block_kept b1 (unhide KR)); have F21 := hide ((unhide F2).below b1); have bb1 := below_next bb b1; have z1 := b1.size; have cz := cells7 (unhide KB1); have c41 := cz.2.2.2.2.1; clear cz b1 o1)
  | (go_simp; go_at_call_of 75 (Value.slice ta r.to.length tc); refine (unhide HT _ (unhide F21)).mono ?_; rintro e w2 ⟨v2, rfl, o2, b2⟩; obtain ⟨p2, q2, rfl, _⟩ := o2.hasL.form; have N2 := hide o2.here; have N12 := hide ((unhide N1).below b2); have KB2 := hide (block_kept b2 (unhide KB1)); have KR2 := hide (block_kept b2 (unhide KR1)); have bb2 := below_next bb1 b2; have z2 := b2.size; obtain ⟨d0, d1, d2, d3, d4, d5, d6⟩ := cells7 (unhide KB2); obtain ⟨f0, f1, f2, f3, f4, f5, f6⟩ := frozen7 (unhide KB2); clear b2 o2))
 all_goals
  clear d0 d1 d2 d3 d4 d5 d6 f0 f1 f2 f3 f4 f5 f6 c0 c4 c41
  have KB3 : Hid (((w2.setCell ⟨w.heap.size, 0, none⟩ (.slice p1 r.name.length q1)).setCell ⟨w.heap.size, 4, none⟩ (.slice p2 r.to.length q2)).heap[w.heap.size]? = some (.cells #[.slice p1 r.name.length q1, .int .i64 r.type, .int .i64 r.ttl, .int .i64 r.addr, .slice p2 r.to.length q2, .slice xa r.text.length xc, .slice ia r.nums.length ic] 59)) := block_setAt (block_setAt (unhide KB2) 0 _) 4 _
  have u3 := (outside_set w2 w.heap.size 0 (.slice p1 r.name.length q1)).trans (outside_set _ w.heap.size 4 (.slice p2 r.to.length q2))
  generalize (w2.setCell ⟨w.heap.size, 0, none⟩ (.slice p1 r.name.length q1)).setCell ⟨w.heap.size, 4, none⟩ (.slice p2 r.to.length q2) = w3 at *
  have M1 := hide ((unhide N12).outside u3 (.inr (by omega)))
  have M2 := hide ((unhide N2).outside u3 (.inr (by omega)))
  have KR3 := hide (u3.kept (unhide KR2) (by omega))
  have bb3 := u3.below bb2 (Nat.le_refl _)
  have z3 := u3.size
  have HC := hide (copyBytes_reads ((unhide HX).below bb3).reads (by omega))
  obtain ⟨d0, d1, d2, d3, d4, d5, d6⟩ := cells7 (unhide KB3)
  clear N1 N12 N2 u3 bb bb1 bb2 KB KB1 KB2 KR KR1 KR2 HN HT F1 F2 F21
  go_wp2_with fail
  clear d0 d1 d2 d3 d4 d5 d6
  refine (unhide HC).mono ?_
  rintro e w4 ⟨v4, rfl, o4, b4⟩
  obtain ⟨p3, q3, rfl, _⟩ := o4.lies
  replace M1 := hide ((unhide M1).below b4)
  replace M2 := hide ((unhide M2).below b4)
  have KR4 := hide (block_kept b4 (unhide KR3))
  have k4 := block_kept b4 (unhide KB3)
  have bb4 := below_next bb3 b4
  have z4 := b4.size
  have X4 := hide o4.here
  have u5 := outside_set w4 w.heap.size 5 (.slice p3 r.text.length q3)
  have KB5 : Hid ((w4.setCell ⟨w.heap.size, 5, none⟩ (.slice p3 r.text.length q3)).heap[w.heap.size]? = some (.cells #[.slice p1 r.name.length q1, .int .i64 r.type, .int .i64 r.ttl, .int .i64 r.addr, .slice p2 r.to.length q2, .slice p3 r.text.length q3, .slice ia r.nums.length ic] 59)) := block_setAt k4 5 _
  have bb5 := u5.below bb4 (Nat.le_refl _)
  have HI5 := hide ((unhide HI).below bb5)
  replace M1 := hide ((unhide M1).outside u5 (.inr (by omega)))
  replace M2 := hide ((unhide M2).outside u5 (.inr (by omega)))
  replace X4 := hide ((unhide X4).outside u5 (.inr (by omega)))
  have KR5 := hide (u5.kept (unhide KR4) (by omega))
  have z5 := u5.size
  obtain ⟨d0, d1, d2, d3, d4, d5, d6⟩ := cells7 k4
  obtain ⟨f0, f1, f2, f3, f4, f5, f6⟩ := frozen7 k4
  clear KB3 KR3 KR4 bb3 bb4 o4 b4 HC u5 k4
  go_wp2_with (at_builtin; refine append_nums rfl _ _ 57 3 rfl Tryz.underlying57 info_intC _ r.nums rfl rfl (unhide HI5) (by omega) ?_)
  intro v6 w6 o6 b6
  have e5 : (w4.setCell ⟨w.heap.size, 5, none⟩ (.slice p3 r.text.length q3)).heap.size = w4.heap.size := by simp [World.setCell]
  replace b6 : Below (w4.setCell ⟨w.heap.size, 5, none⟩ (.slice p3 r.text.length q3)).heap.size (w4.setCell ⟨w.heap.size, 5, none⟩ (.slice p3 r.text.length q3)) w6 := by rw [e5]; exact b6
  replace o6 : OwnI (w4.setCell ⟨w.heap.size, 5, none⟩ (.slice p3 r.text.length q3)).heap.size 3 w6 v6 r.nums := by rw [e5]; exact o6
  clear e5
  clear d0 d1 d2 d3 d4 d5 d6 f0 f1 f2 f3 f4 f5 f6
  generalize w4.setCell ⟨w.heap.size, 5, none⟩ (.slice p3 r.text.length q3) = w5 at *
  obtain ⟨p4, q4, rfl, _⟩ := o6.lies
  replace M1 := hide ((unhide M1).below b6)
  replace M2 := hide ((unhide M2).below b6)
  replace X4 := hide ((unhide X4).below b6)
  have Y6 := hide o6.here
  have k6 := block_kept b6 (unhide KB5)
  have r6 := block_kept b6 (unhide KR5)
  have bb6 := below_next bb5 b6
  have z6 := b6.size
  have u7 := outside_set w6 w.heap.size 6 (.slice p4 r.nums.length q4)
  have R7 := hide (u7.kept r6 (by omega))
  replace M1 := hide ((unhide M1).outside u7 (.inr (by omega)))
  replace M2 := hide ((unhide M2).outside u7 (.inr (by omega)))
  replace X4 := hide ((unhide X4).outside u7 (.inr (by omega)))
  replace Y6 := hide ((unhide Y6).outside u7 (.inr (by omega)))
  have bb7 := u7.below bb6 (Nat.le_refl _)
  have z7 := u7.size
  obtain ⟨d0, d1, d2, d3, d4, d5, d6⟩ := cells7 k6
  obtain ⟨f0, f1, f2, f3, f4, f5, f6⟩ := frozen7 k6
  obtain ⟨g0, g1, g2, g3, g4, g5, g6⟩ := cells7 r6
  obtain ⟨y0, y1, y2, y3, y4, y5, y6⟩ := frozen7 r6
  clear KB5 KR5 bb5 bb6 o6 b6 HI5 u7 k6 r6 HX HI
  go_wp2_with fail
  clear d0 d1 d2 d3 d4 d5 d6 f0 f1 f2 f3 f4 f5 f6 g0 g1 g2 g3 g4 g5 g6 y0 y1 y2 y3 y4 y5 y6
  generalize w6.setCell ⟨w.heap.size, 6, none⟩ (.slice p4 r.nums.length q4) = w7 at *
  obtain ⟨R8, u8⟩ := set7 (c0 := .slice p1 r.name.length q1) (c1 := .int .i64 r.type) (c2 := .int .i64 r.ttl) (c3 := .int .i64 r.addr) (c4 := .slice p2 r.to.length q2) (c5 := .slice p3 r.text.length q3) (c6 := .slice p4 r.nums.length q4) (unhide R7)
  have z8 := u8.size
  refine bodyPost_ret (results_cell_row rfl _ _ (w.heap.size + 1) 59 #[.slice p1 r.name.length q1, .int .i64 r.type, .int .i64 r.ttl, .int .i64 r.addr, .slice p2 r.to.length q2, .slice p3 r.text.length q3, .slice p4 r.nums.length q4] (0, 0) _ rfl R8 Tryz.underlying59 rfl (by kernel_rfl)) rfl ?_
  exact ⟨_, _, _, _, rfl, ⟨w1.heap.size, w2.heap.size, w4.heap.size, by omega, by omega, by omega, by omega, ((unhide M1).outside u8 (.inr (by omega))).wide (by omega) (by omega), ((unhide M2).outside u8 (.inr (by omega))).wide (by omega) (by omega), ((unhide X4).outside u8 (.inr (by omega))).wide (by omega) (by omega), ((unhide Y6).outside u8 (.inr (by omega))).wide (by omega) (by omega)⟩, u8.below bb7 (by omega)⟩
end Go.Proofs.YtfgcmjpkgdjcfaaGreat

namespace Go.Proofs.YtfgcmjpkgdjcfaaGreat
open Go.RowKit Go.Shelf
set_option linter.unusedVariables false

/-- A record, with the slices that have its lists. -/
abbrev RecV (w : World) := { p : (Value × Value × Value × Value) × Rec // HasR w p.1.1 p.1.2.1 p.1.2.2.1 p.1.2.2.2 p.2 ∧ ShortR p.2 }
def encV {w : World} (x : RecV w) : Array Value := #[.agg #[x.1.1.1, .int .i64 x.1.2.type, .int .i64 x.1.2.ttl, .int .i64 x.1.2.addr, x.1.1.2.1, x.1.1.2.2.1, x.1.1.2.2.2]]

end Go.Proofs.YtfgcmjpkgdjcfaaGreat

namespace Go.Proofs.YtfgcmjpkgdjcfaaGreat
open Go.RowKit Go.Shelf
set_option linter.unusedVariables false

/-- What a round keeps: what lay below n0, the iterator's own box, and texts' rows. -/
def KpS (n0 Bt : Nat) (W W' : World) : Prop := KpB n0 Bt W W' ∧ ∀ (g : Nat) c, W.heap[g]? = some (Obj.cells c 9) → W'.heap[g]? = some (Obj.cells c 9)
theorem kpS_t {n0 Bt : Nat} {A B C : World} (h : KpS n0 Bt A B) (k : KpS n0 Bt B C) : KpS n0 Bt A C := ⟨kpB_t h.1 k.1, fun g c q => k.2 g c (h.2 g c q)⟩
theorem kpS_b {n0 Bt : Nat} {w : World} (hn : n0 ≤ w.heap.size) (W : World) (l : Nat) (o o' : Obj) (hl : w.heap.size ≤ l) (h : W.heap[l]? = some o) (h1 : o.isCells = false) (h2 : o.isWalk = false) : KpS n0 Bt W (W.putObj l o') :=
 ⟨kpB_b hn W l o o' hl h h1 h2, fun g c q => keptC_of (grownBy_putObj' W l o') (fun r e => by cases e; exact ⟨_, h, h1⟩) _ _ _ q⟩
theorem row_keptS {W W' : World} {B n s : Nat} {v : Value} {xs : List Value} (h : W.ownsRow B 9 s v n xs) (hk : ∀ (g : Nat) c, W.heap[g]? = some (Obj.cells c 9) → W'.heap[g]? = some (Obj.cells c 9)) : W'.ownsRow B 9 s v n xs := by
 obtain ⟨h1, h2⟩ := h
 rcases h2 with h2 | ⟨g, cap, c, h3, h4, h5, h6⟩
 ·exact ⟨h1, .inl h2⟩
 ·exact ⟨h1, .inr ⟨g, cap, c, h3, h4, hk _ _ h5, h6⟩⟩
theorem row_slice {W : World} {B n s : Nat} {e : TypeId} {v : Value} {xs : List Value} (h : W.ownsRow B e s v n xs) : ∃ (a : Option Addr) (c : Nat), v = .slice a n c := by
 obtain ⟨_, h2⟩ := h
 rcases h2 with ⟨rfl, rfl⟩ | ⟨g, cap, c, rfl, _⟩
 ·exact ⟨none, 0, rfl⟩
 ·exact ⟨_, cap, rfl⟩
theorem zero_rrV (w : World) : (zeroValue 59).run Tryz.prog w = .ok (.agg #[.slice none 0 0, .int .i64 0, .int .i64 0, .int .i64 0, .slice none 0 0, .slice none 0 0, .slice none 0 0]) w := by
 have h : (Tryz.prog.info? 59).map (fun i => i.zero) = some (some (.agg #[.slice none 0 0, .int .i64 0, .int .i64 0, .int .i64 0, .slice none 0 0, .slice none 0 0, .slice none 0 0])) := by kernel_rfl
 obtain ⟨i, h1, h2⟩ := Option.map_eq_some_iff.1 h
 simp [zeroValue, typeInfo, h1, h2, go_sem]
theorem sortedOpt_in {w : World} {mb : Option Nat} {P : Pg} (h : OptPage w mb P) (hl : P.length ≤ 1000) :
  CallsIn Fence.wide 5 Tryz.prog 103 #[.func (.func 127) #[] #[.pointer (some ⟨w.heap.size, 0, none⟩)]] (w.alloc (.cells #[.map mb] 97)) fun e w' => ∃ v, e = .returned v ∧
   w'.ownsRow (w.heap.size + 1) 9 1 v (keysP P).length ((keysP P).map encStr) ∧ Below w.heap.size w w' := by
 rcases h with ⟨rfl, rfl⟩ | ⟨p, rfl, ps, hM, hT⟩
 ·refine (sortedNil_in w).mono ?_
  rintro e w' ⟨v, he, hr, hb⟩
  exact ⟨v, he, by simpa [keysP] using hr, hb⟩
 ·have e1 := two_keysP hT
  have e2 : ps.length = P.length := by rw [← keysP_length ps, e1, keysP_length]
  refine (sortedOf_in hM (by omega)).mono ?_
  rintro e w' ⟨v, he, hr, hb⟩
  rw [e1, e2, ← keysP_length P] at hr
  exact ⟨v, he, hr, hb⟩
/-- The record at a key, and its value. -/
theorem at_key {w : World} {mb : Option Nat} {P : Pg} (h : OptPage w mb P) {k : List UInt8} (hk : k ∈ keysP P) : ∃ p ps vn vt vx vi u, mb = some p ∧ MapV w p ps ∧ lookA ⟨k.toArray⟩ ps = some (.agg #[vn, .int .i64 u.type, .int .i64 u.ttl, .int .i64 u.addr, vt, vx, vi]) ∧ lookA ⟨k.toArray⟩ P = some u ∧ HasR w vn vt vx vi u := by
 rcases h with ⟨rfl, rfl⟩ | ⟨p, rfl, ps, hM, hT⟩
 ·simp [keysP] at hk
 ·rw [← two_keysP hT] at hk
  obtain ⟨v, hv⟩ := keysP_mem hk
  obtain ⟨u, h1, vn, vt, vx, vi, rfl, h2⟩ := two_mem hT hM.apart hv
  exact ⟨p, ps, vn, vt, vx, vi, u, rfl, hM, lookA_mem hM.apart hv, h1, h2⟩
theorem key_size {w : World} {p : Nat} {ps : List (ByteArray × Value)} (h : MapV w p ps) {k : ByteArray} {v : Value} (hk : lookA k ps = some v) : k.size ≤ maxLen := by
 obtain ⟨es, clock, _, _, hK, rfl⟩ := h
 obtain ⟨x, hx, he⟩ := List.mem_map.1 (lookA_in hk)
 obtain ⟨s, h1, h2⟩ := hK x hx
 simp only [toPV, h1, keyE, Prod.mk.injEq] at he
 rw [← he.1]
 exact h2

set_option maxHeartbeats 4000000 in
set_option maxRecDepth 100000 in
theorem asc1_in (l Bt n0 : Nat) (w0 : World) (mb : Option Nat) (P : Pg) (hn0 : n0 = w0.heap.size) (hP : OptPage w0 mb P) (hl : P.length ≤ 1000) (hsh : ∀ x ∈ P, ShortR x.2)
  (J Jx : List (RecV w0) → World → Prop) (W : World) (hW : Below n0 w0 W) (hJ : AbidesFrom W.heap.size J)
  (hY : ∀ pre x W1, J pre W1 → pre.length < (keysP P).length → YieldAt Fence.wide 5 Tryz.prog l (encV x) W1 fun e W' => (e = .returned (.bool true) ∧ J (pre ++ [x]) W' ∧ KpS n0 Bt W1 W') ∨ (e = .returned (.bool false) ∧ Jx (pre ++ [x]) W'))
  (hBt : W.heap[Bt]? = some (.cells #[.map mb] 97)) (h0 : J [] W) :
  CallsIn Fence.wide 6 Tryz.prog 102 #[.func (.yield l) #[] #[], .pointer (some ⟨Bt, 0, none⟩)] W fun e W' => (∃ v, e = .returned v) ∧
   ((∃ xs, xs.map (·.1.2) = sortP P ∧ J xs W') ∨ (∃ pre, True ∧ Jx pre W')) := by
 subst hn0
 have hPW : OptPage W mb P := by
  rcases hP with hP | ⟨p, h1, h2⟩
  ·exact .inl hP
  ·exact .inr ⟨p, h1, h2.kept (hW.block p h2.lt) (keptX_below (hW.mono (Nat.le_refl _)))⟩
 have HSO := hide (sortedOpt_in hPW hl)
 have HP := hide hP
 have HS := hide hsh
 have HJ := hide hJ
 have HY := hide hY
 have B0 := hide hW
 have H0 := hide h0
 have KB := hide hBt
 have cB := block_one hBt
 have zB := block_lt hBt
 clear hP hPW hsh hJ hY hW h0 hBt
 refine callsIn_of_wp Tryz.func102 rfl trivial ?_ rfl
 simp only [Tryz.ntmps102, List.size_toArray, List.length_cons, List.length_nil, Nat.reduceAdd, Nat.reduceSub, Array.replicate_succ, Array.replicate_zero, List.push_toArray, List.append_toArray, List.nil_append, List.cons_append]
 gi_wp2_with (first
  | (refine ⟨trivial, ?_⟩; gi_at_call 104; refine (keysOf_in _ _).mono ?_; rintro e w' ⟨rfl, rfl⟩)
  | (refine ⟨trivial, ?_⟩; gi_at_call 103; refine (unhide HSO).mono ?_; rintro e w2 ⟨v2, rfl, hrow, b2⟩; have hrow' := hrow; obtain ⟨g2, c2, rfl⟩ := row_slice hrow'))
 clear cB HSO hrow'
 have hj2 : J [] w2 := unhide HJ [] W w2 none (unhide H0) ⟨b2.os, b2.tape, b2.output, b2.size, fun k hk _ => b2.block k hk⟩ (fun r e => by cases e)
 have kb2 := block_kept b2 (unhide KB)
 have bb2 := (unhide B0).trans (b2.mono (unhide B0).size)
 have ROW := hide hrow
 have hkl : (keysP P).length ≤ 1000 := by rw [keysP_length]; exact hl
 generalize hks : keysP P = ks at *
 have HKS := hide hks
 clear hrow hks H0 KB
 generalize hm : ks.length = m at *
 have HM := hide hm
 clear hm
 gi_loopw [9] (fun i wr => ∃ (k : Nat) (pre : List (RecV w0)), k ≤ m ∧ i = .int .i64 k ∧ pre.length = k ∧ pre.map (·.1.2) = (ks.take k).map (atKey P) ∧ J pre wr ∧ Below w0.heap.size w0 wr ∧ wr.heap[Bt]? = some (.cells #[.map mb] 97) ∧ wr.ownsRow (W.heap.size + 1) 9 1 (.slice g2 m c2) m (ks.map encStr)) (fun i _ => m - (intOf i).toNat)
 case atStart => exact ⟨0, [], Nat.zero_le _, rfl, rfl, by simp, hj2, bb2, kb2, unhide ROW⟩
 case round =>
  obtain ⟨k, pre, hk, rfl, hpl, hp, hj, hbl, hkb, hrw⟩ := hrel
  by_cases hlt : k < m
  ·have hkk : k < ks.length := by rw [unhide HM]; exact hlt
   obtain ⟨p, ps, vn, vt, vx, vi, u, rfl, hMp, hlk, hlu, hR⟩ := at_key (k := ks[k]) (unhide HP) (by rw [unhide HKS]; exact List.getElem_mem hkk)
   have hs := unhide HS _ (lookA_in hlu)
   simp only at hs
   obtain ⟨na, nc, rfl, _⟩ := hR.name.form
   obtain ⟨ta, tc, rfl, _⟩ := hR.to.form
   obtain ⟨xa, xc, rfl, _⟩ := hR.text.form
   obtain ⟨ia, ic, rfl, _⟩ := hR.nums.form
   have htk := hide (show (ks.take (k + 1)).map (atKey P) = (ks.take k).map (atKey P) ++ [u] by rw [List.take_succ_eq_append_getElem hkk, List.map_append, List.map_cons, List.map_nil]; simp only [atKey, hlu, Option.getD_some])
   have hlook := mapV_look (t := 97) Tryz.underlying97 Tryz.underlying9 (zero_rrV wr) (hMp.kept (hbl.block p hMp.lt)) ⟨ks[k].toArray⟩ (key_size hMp hlk)
   rw [hlk] at hlook
   simp only [Option.getD_some] at hlook
   have hgs : ∃ gg, g2 = some ⟨gg, 0, none⟩ := by
    rcases hrw.2 with ⟨h1, h2⟩ | ⟨gg, cap, cc, h1, _⟩
    ·omega
    ·simp only [Value.slice.injEq] at h1
     exact ⟨gg, h1.1⟩
   obtain ⟨gg, rfl⟩ := hgs
   have ck := World.ownsRow.cellAt hrw k (by omega)
   rw [List.getElem?_map, List.getElem?_eq_getElem hkk] at ck
   simp only [Option.map_some] at ck
   have cB := block_one hkb
   obtain ⟨x, hx1, hx2⟩ : ∃ x : RecV w0, encV x = #[.agg #[.slice na u.name.length nc, .int .i64 u.type, .int .i64 u.ttl, .int .i64 u.addr, .slice ta u.to.length tc, .slice xa u.text.length xc, .slice ia u.nums.length ic]] ∧ x.1.2 = u := ⟨⟨((.slice na u.name.length nc, .slice ta u.to.length tc, .slice xa u.text.length xc, .slice ia u.nums.length ic), u), hR, hs⟩, rfl, rfl⟩
   obtain ⟨fn, tmps, assign, body, hy, hRd⟩ := unhide HY pre x wr hj (by omega)
   rw [hx1] at hy
   have HB := hide hbl
   have HRW := hide hrw
   have KBB := hide hkb
   generalize ks[k] = kk at *
   clear hR hs hbl hrw hkb hMp hlk hlu hj
   gi_wp2
   refine hRd.mono ?_
   rintro e W3 (⟨rfl, hJ3, hk3⟩ | ⟨rfl, hJx3⟩)
   ·have hb3 := (unhide HB).trans hk3.1.1
    have hkb3 := hk3.1.2 _ _ (unhide KBB)
    have hrw3 := row_keptS (unhide HRW) hk3.2
    clear hy hRd hk3 HB ck cB hlook KBB HRW
    gi_wp2
    go_roundw
    case rel => exact ⟨k + 1, pre ++ [x], by omega, by go_num, by simp [hpl], by rw [unhide htk, ← hp]; simp [hx2], hJ3, hb3, hkb3, hrw3⟩
    case measure => simp [intOf]; omega
   ·clear hy hRd HB ck cB hlook KBB HRW
    gi_wp2
    refine bodyPost_ret (results_none rfl _ _ _) rfl ?_
    exact ⟨⟨_, rfl⟩, .inr ⟨pre ++ [x], trivial, hJx3⟩⟩
  ·obtain rfl : k = m := by omega
   have hall : ks.take k = ks := List.take_of_length_le (by rw [unhide HM]; exact Nat.le_refl _)
   rw [hall] at hp
   clear hall
   gi_wp2
   go_end0
   exact ⟨⟨_, rfl⟩, .inl ⟨pre, by rw [hp]; unfold sortP; rw [unhide HKS], hj⟩⟩
theorem asc_stops (Bt : Nat) (w0 w : World) (mb : Option Nat) (P : Pg) (hP : OptPage w0 mb P) (hl : P.length ≤ 1000) (hsh : ∀ x ∈ P, ShortR x.2) (hb : Below w0.heap.size w0 w) (hBt : w.heap[Bt]? = some (.cells #[.map mb] 97)) :
  SeqStopsK Fence.wide 6 Tryz.prog 102 #[.pointer (some ⟨Bt, 0, none⟩)] (fun x : RecV w0 => encV x) (KpS w0.heap.size Bt) (fun xs => xs.map (·.1.2) = sortP P) (fun _ => True) (keysP P).length w :=
 fun l J Jx W hW hJ hJx hY h0 => asc1_in l Bt _ w0 mb P rfl hP hl hsh J Jx W (hb.trans (hW.mono hb.size)) hJ hY (block_kept hW hBt) h0
set_option maxHeartbeats 400000 in
set_option maxRecDepth 100000 in
theorem asc_any (mb : Option Nat) (w : World) : Calls Tryz.prog 70 #[.map mb] w fun e w' => e = .returned (.func (.func 102) #[] #[.pointer (some ⟨w.heap.size, 0, none⟩)]) ∧ w' = w.alloc (.cells #[.map mb] 97) := by
 go_enter Tryz.func70, Tryz.ntmps70
 go_wp2
 go_ret
 exact ⟨rfl, rfl⟩
end Go.Proofs.YtfgcmjpkgdjcfaaGreat

namespace Go.Proofs.YtfgcmjpkgdjcfaaGreat
open Go.RowKit

/-- One byte, a great letter as a small one. -/
def low (x : Int) : Int := if 65 ≤ x ∧ x ≤ 90 then x + 32 else x
/-- The first k bytes lowered. -/
def lowered (l : List Int) (k : Nat) : List Int := (List.range l.length).map fun (j : Nat) => if j < k then low (l.getD j 0) else l.getD j 0

end Go.Proofs.YtfgcmjpkgdjcfaaGreat
