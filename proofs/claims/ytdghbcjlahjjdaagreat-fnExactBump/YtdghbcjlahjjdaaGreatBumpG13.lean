/-
  Contract of the program's copyRr: a record of its own with the same fields, each list in a stretch of blocks of its own. Plain facts: what holds cells holds them still: names, records and rows of them that are owned. No program is named here. slices.Values of the library at rows of records, as what a loop ranges over.
-/
import Derived.Test.YtdghbcjlahjjdaaGreatBumpG12
import Derived.Test.YtdghbcjlahjjdaaGreatBumpG11
import Derived.Test.YtdghbcjlahjjdaaGreatBumpG02
import Derived.Test.YtdghbcjlahjjdaaGreatBumpG05
import Derived.Test.YtdghbcjlahjjdaaGreatBumpG07
import Derived.RangeFuncNested
import Derived.Test.YtdghbcjlahjjdaaGreatBumpG03
import Derived.RangeFuncBound
import Derived.RangeFuncCalls
import Derived.RangeFuncLeaves
import Derived.Shelf.Abstract
import Derived.Shelf.RegionOpen
import Derived.WalkKit
import Derived.OwnWalkIn
import Derived.TacticsInMore
import Derived.LoopNIn
import Derived.LoopIn
namespace Go.Proofs.YtdghbcjlahjjdaaGreat
open Go.RowKit
set_option linter.unusedVariables false

theorem info_intC : (Tryz.prog.info? 3).map (fun i => (i.zero, i.size, i.bytes)) = some (some (.int .i64 0), 1, 8) := by kernel_rfl
/-- 'append([]int(nil), x...)' where no order is drawn. -/
theorem append_nums {P : Program} {w : World} {ops : Array Oper} {rest : List Oper} {o : Oper} {a : Act} {Q : Exit → Act → World → Prop} (hgd : o.guard = none) (s x : Operand) (t e : TypeId)
    (ho : o.op = .call { callee := .builtin .append, args := #[s, x], argTypes := #[t, t] }) (ht : P.underlying t = some (.slice e))
    (hinfo : (P.info? e).map (fun i => (i.zero, i.size, i.bytes)) = some (some (.int .i64 0), 1, 8))
    (vx : Value) (l : List Int) (hs : a.eval s = .slice none 0 0) (hx : a.eval x = vx) (hr : HasI w vx l) (hlen : l.length ≤ 1099511627776)
    (h : ∀ v' w', OwnI w.heap.size e w' v' l → Below w.heap.size w w' → wpList P ops Q rest (a.put o.dst v') w') : wpList P ops Q (o :: rest) a w := by
  obtain ⟨i0, hi, hz0, hz1, hz2⟩ := info_parts hinfo
  have hown := World.ownsRow_nil w w.heap.size e 1
  rcases hr.readsV with ⟨rfl, h0⟩ | ⟨ad, cap, hv, hc⟩
  · obtain rfl : l = [] := by simpa using h0
    refine wpList_append_own_none hgd s x t ho w.heap.size e i0 1 ht hi _ 0 [] hs hown hx ?_
    exact h _ w hown (Below.refl _ _)
  · subst hv
    rw [List.length_map] at hx
    refine wpList_append_own w hgd s x t ho w.heap.size e i0 (.int .i64 0) 1 8 ht hi hz0 hz1 hz2 rfl (by decide) _ 0 [] hs hown ad l.length cap (l.map (Value.int .i64)) hx (by simp) hc (one_ofI l) (by unfold maxLen; omega) (by omega) (Nat.le_refl _) ?_
    intro v' w' ho' hg _
    exact h v' w' (by simpa [OwnI] using ho') (below_of_grown hg)

set_option maxHeartbeats 4000000 in
set_option maxRecDepth 100000 in
theorem copyRr_own {vn vt vx vi : Value} {r : Rec} {w : World} (h : HasR w vn vt vx vi r) (hs : ShortR r) :
    Calls Tryz.prog 125 #[.agg #[vn, .int .i64 r.type, .int .i64 r.ttl, .int .i64 r.addr, vt, vx, vi]] w fun e w' => ∃ un ut ux ui, e = .returned (.agg #[un, .int .i64 r.type, .int .i64 r.ttl, .int .i64 r.addr, ut, ux, ui]) ∧
      OwnR w.heap.size w'.heap.size 37 5 3 w' un ut ux ui r ∧ Below w.heap.size w w' := by
  obtain ⟨⟨n1, n2⟩, ⟨t1, t2⟩, hx, hi⟩ := hs
  obtain ⟨na, nc, rfl, _⟩ := h.name.form
  obtain ⟨ta, tc, rfl, _⟩ := h.to.form
  obtain ⟨xa, xc, rfl, _⟩ := h.text.form
  obtain ⟨ia, ic, rfl, _⟩ := h.nums.form
  obtain ⟨hsz, k0, r0⟩ := box2 w (.cells #[.slice na r.name.length nc, .int .i64 r.type, .int .i64 r.ttl, .int .i64 r.addr, .slice ta r.to.length tc, .slice xa r.text.length xc, .slice ia r.nums.length ic] 101) #[.slice none 0 0, .int .i64 0, .int .i64 0, .int .i64 0, .slice none 0 0, .slice none 0 0, .slice none 0 0] 101
  have b0 := below2 w (.cells #[.slice na r.name.length nc, .int .i64 r.type, .int .i64 r.ttl, .int .i64 r.addr, .slice ta r.to.length tc, .slice xa r.text.length xc, .slice ia r.nums.length ic] 101) (.cells #[.slice none 0 0, .int .i64 0, .int .i64 0, .int .i64 0, .slice none 0 0, .slice none 0 0, .slice none 0 0] 101)
  have h0 := h.below b0
  have HN := hide (fun (w : World) (hh : HasL w (.slice na r.name.length nc) r.name) => copyName_has hh n1 n2)
  have HT := hide (fun (w : World) (hh : HasL w (.slice ta r.to.length tc) r.to) => copyName_has hh t1 t2)
  have zz := block_lt r0
  have KB := hide k0
  have KR := hide r0
  have F1 := hide h0.name
  have F2 := hide h0.to
  have HX := hide h.text
  have HI := hide h.nums
  clear hsz k0 r0 h h0 n1 n2 t1 t2
  go_enter Tryz.func125, Tryz.ntmps125
  go_wp2_with fail
  generalize (w.alloc (.cells #[.slice na r.name.length nc, .int .i64 r.type, .int .i64 r.ttl, .int .i64 r.addr, .slice ta r.to.length tc, .slice xa r.text.length xc, .slice ia r.nums.length ic] 101)).alloc (.cells #[.slice none 0 0, .int .i64 0, .int .i64 0, .int .i64 0, .slice none 0 0, .slice none 0 0, .slice none 0 0] 101) = W at *
  have bd := below_drew (w := W)
  have bb := below_next b0 bd
  replace KB := hide (block_kept bd (unhide KB))
  replace KR := hide (block_kept bd (unhide KR))
  replace F1 := hide ((unhide F1).below bd)
  replace F2 := hide ((unhide F2).below bd)
  have z0 := bd.size
  clear bd b0
  have cz := cells7 (unhide KB)
  have c0 := cz.1
  have c4 := cz.2.2.2.2.1
  clear cz
  go_region_law (first
    | (go_simp; go_at_call_of 60 (Value.slice na r.name.length nc); refine (unhide HN _ (unhide F1)).mono ?_; rintro e w1 ⟨v1, rfl, o1, b1⟩; obtain ⟨p1, q1, rfl, _⟩ := o1.hasL.form; have N1 := hide o1.here; have KB1 := hide (block_kept b1 (unhide KB)); have KR1 := hide (block_kept b1 (unhide KR)); have F21 := hide ((unhide F2).below b1); have bb1 := below_next bb b1; have z1 := b1.size; have cz := cells7 (unhide KB1); have c41 := cz.2.2.2.2.1; clear cz b1 o1)
    | (go_simp; go_at_call_of 60 (Value.slice ta r.to.length tc); refine (unhide HT _ (unhide F21)).mono ?_; rintro e w2 ⟨v2, rfl, o2, b2⟩; obtain ⟨p2, q2, rfl, _⟩ := o2.hasL.form; have N2 := hide o2.here; have N12 := hide ((unhide N1).below b2); have KB2 := hide (block_kept b2 (unhide KB1)); have KR2 := hide (block_kept b2 (unhide KR1)); have bb2 := below_next bb1 b2; have z2 := b2.size; obtain ⟨d0, d1, d2, d3, d4, d5, d6⟩ := cells7 (unhide KB2); obtain ⟨f0, f1, f2, f3, f4, f5, f6⟩ := frozen7 (unhide KB2); clear b2 o2))
  all_goals
    clear d0 d1 d2 d3 d4 d5 d6 f0 f1 f2 f3 f4 f5 f6 c0 c4 c41
    have KB3 : Hid (((w2.setCell ⟨w.heap.size, 0, none⟩ (.slice p1 r.name.length q1)).setCell ⟨w.heap.size, 4, none⟩ (.slice p2 r.to.length q2)).heap[w.heap.size]? = some (.cells #[.slice p1 r.name.length q1, .int .i64 r.type, .int .i64 r.ttl, .int .i64 r.addr, .slice p2 r.to.length q2, .slice xa r.text.length xc, .slice ia r.nums.length ic] 101)) := block_setAt (block_setAt (unhide KB2) 0 _) 4 _
    have u3 := (outside_set w2 w.heap.size 0 (.slice p1 r.name.length q1)).trans (outside_set _ w.heap.size 4 (.slice p2 r.to.length q2))
    generalize (w2.setCell ⟨w.heap.size, 0, none⟩ (.slice p1 r.name.length q1)).setCell ⟨w.heap.size, 4, none⟩ (.slice p2 r.to.length q2) = w3 at *
    have M1 := hide ((unhide N12).outside u3 (.inr (by omega)))
    have M2 := hide ((unhide N2).outside u3 (.inr (by omega)))
    have KR3 := hide (u3.kept (unhide KR2) (by omega))
    have bb3 := u3.below bb2 (Nat.le_refl _)
    have z3 := u3.size
    have HC := hide (copyBytes_reads ((unhide HX).below bb3).reads (by omega))
    obtain ⟨d0, d1, d2, d3, d4, d5, d6⟩ := cells7 (unhide KB3)
    clear N1 N12 N2 u3 bb bb1 bb2 KB KB1 KB2 KR KR1 KR2 HN HT F1 F2 F21
    go_wp2_with fail
    clear d0 d1 d2 d3 d4 d5 d6
    refine (unhide HC).mono ?_
    rintro e w4 ⟨v4, rfl, o4, b4⟩
    obtain ⟨p3, q3, rfl, _⟩ := o4.lies
    replace M1 := hide ((unhide M1).below b4)
    replace M2 := hide ((unhide M2).below b4)
    have KR4 := hide (block_kept b4 (unhide KR3))
    have k4 := block_kept b4 (unhide KB3)
    have bb4 := below_next bb3 b4
    have z4 := b4.size
    have X4 := hide o4.here
    have u5 := outside_set w4 w.heap.size 5 (.slice p3 r.text.length q3)
    have KB5 : Hid ((w4.setCell ⟨w.heap.size, 5, none⟩ (.slice p3 r.text.length q3)).heap[w.heap.size]? = some (.cells #[.slice p1 r.name.length q1, .int .i64 r.type, .int .i64 r.ttl, .int .i64 r.addr, .slice p2 r.to.length q2, .slice p3 r.text.length q3, .slice ia r.nums.length ic] 101)) := block_setAt k4 5 _
    have bb5 := u5.below bb4 (Nat.le_refl _)
    have HI5 := hide ((unhide HI).below bb5)
    replace M1 := hide ((unhide M1).outside u5 (.inr (by omega)))
    replace M2 := hide ((unhide M2).outside u5 (.inr (by omega)))
    replace X4 := hide ((unhide X4).outside u5 (.inr (by omega)))
    have KR5 := hide (u5.kept (unhide KR4) (by omega))
    have z5 := u5.size
    obtain ⟨d0, d1, d2, d3, d4, d5, d6⟩ := cells7 k4
    obtain ⟨f0, f1, f2, f3, f4, f5, f6⟩ := frozen7 k4
    clear KB3 KR3 KR4 bb3 bb4 o4 b4 HC u5 k4
    go_wp2_with (at_builtin; refine append_nums rfl _ _ 99 3 rfl Tryz.underlying99 info_intC _ r.nums rfl rfl (unhide HI5) (by omega) ?_)
    intro v6 w6 o6 b6
    have e5 : (w4.setCell ⟨w.heap.size, 5, none⟩ (.slice p3 r.text.length q3)).heap.size = w4.heap.size := by simp [World.setCell]
    replace b6 : Below (w4.setCell ⟨w.heap.size, 5, none⟩ (.slice p3 r.text.length q3)).heap.size (w4.setCell ⟨w.heap.size, 5, none⟩ (.slice p3 r.text.length q3)) w6 := by rw [e5]; exact b6
    replace o6 : OwnI (w4.setCell ⟨w.heap.size, 5, none⟩ (.slice p3 r.text.length q3)).heap.size 3 w6 v6 r.nums := by rw [e5]; exact o6
    clear e5
    clear d0 d1 d2 d3 d4 d5 d6 f0 f1 f2 f3 f4 f5 f6
    generalize w4.setCell ⟨w.heap.size, 5, none⟩ (.slice p3 r.text.length q3) = w5 at *
    obtain ⟨p4, q4, rfl, _⟩ := o6.lies
    replace M1 := hide ((unhide M1).below b6)
    replace M2 := hide ((unhide M2).below b6)
    replace X4 := hide ((unhide X4).below b6)
    have Y6 := hide o6.here
    have k6 := block_kept b6 (unhide KB5)
    have r6 := block_kept b6 (unhide KR5)
    have bb6 := below_next bb5 b6
    have z6 := b6.size
    have u7 := outside_set w6 w.heap.size 6 (.slice p4 r.nums.length q4)
    have R7 := hide (u7.kept r6 (by omega))
    replace M1 := hide ((unhide M1).outside u7 (.inr (by omega)))
    replace M2 := hide ((unhide M2).outside u7 (.inr (by omega)))
    replace X4 := hide ((unhide X4).outside u7 (.inr (by omega)))
    replace Y6 := hide ((unhide Y6).outside u7 (.inr (by omega)))
    have bb7 := u7.below bb6 (Nat.le_refl _)
    have z7 := u7.size
    obtain ⟨d0, d1, d2, d3, d4, d5, d6⟩ := cells7 k6
    obtain ⟨f0, f1, f2, f3, f4, f5, f6⟩ := frozen7 k6
    obtain ⟨g0, g1, g2, g3, g4, g5, g6⟩ := cells7 r6
    obtain ⟨y0, y1, y2, y3, y4, y5, y6⟩ := frozen7 r6
    clear KB5 KR5 bb5 bb6 o6 b6 HI5 u7 k6 r6 HX HI
    go_wp2_with fail
    clear d0 d1 d2 d3 d4 d5 d6 f0 f1 f2 f3 f4 f5 f6 g0 g1 g2 g3 g4 g5 g6 y0 y1 y2 y3 y4 y5 y6
    generalize w6.setCell ⟨w.heap.size, 6, none⟩ (.slice p4 r.nums.length q4) = w7 at *
    obtain ⟨R8, u8⟩ := set7 (c0 := .slice p1 r.name.length q1) (c1 := .int .i64 r.type) (c2 := .int .i64 r.ttl) (c3 := .int .i64 r.addr) (c4 := .slice p2 r.to.length q2) (c5 := .slice p3 r.text.length q3) (c6 := .slice p4 r.nums.length q4) (unhide R7)
    have z8 := u8.size
    refine bodyPost_ret (results_cell_row rfl _ _ (w.heap.size + 1) 101 #[.slice p1 r.name.length q1, .int .i64 r.type, .int .i64 r.ttl, .int .i64 r.addr, .slice p2 r.to.length q2, .slice p3 r.text.length q3, .slice p4 r.nums.length q4] (0, 0) _ rfl R8 Tryz.underlying101 rfl (by kernel_rfl)) rfl ?_
    exact ⟨_, _, _, _, rfl, ⟨w1.heap.size, w2.heap.size, w4.heap.size, by omega, by omega, by omega, by omega, ((unhide M1).outside u8 (.inr (by omega))).wide (by omega) (by omega), ((unhide M2).outside u8 (.inr (by omega))).wide (by omega) (by omega), ((unhide X4).outside u8 (.inr (by omega))).wide (by omega) (by omega), ((unhide Y6).outside u8 (.inr (by omega))).wide (by omega) (by omega)⟩, u8.below bb7 (by omega)⟩
end Go.Proofs.YtdghbcjlahjjdaaGreat

namespace Go.Proofs.YtdghbcjlahjjdaaGreat
open Go.RowKit
set_option linter.unusedVariables false

/-- What holds cells holds them. -/
def KeptC (W W' : World) : Prop := ∀ (g : Nat) (c : Array Value) (t : TypeId), W.heap[g]? = some (.cells c t) → W'.heap[g]? = some (.cells c t)
theorem keptC_of {W W' : World} {row : Option Nat} (hg : W.grownBy W' row) (hr : ∀ r, row = some r → ∃ o : Obj, W.heap[r]? = some o ∧ o.isCells = false) : KeptC W W' := by
  intro g c t h
  have hlt : g < W.heap.size := (Array.getElem?_eq_some_iff.1 h).1
  refine (hg.block g hlt ?_).trans h
  intro e
  obtain ⟨o, h1, h2⟩ := hr g e.symm
  rw [h] at h1
  cases h1
  cases h2
theorem row_keptC {W W' : World} {B n s : Nat} {e : TypeId} {v : Value} {xs : List Value} (h : W.ownsRow B e s v n xs) (hk : KeptC W W') : W'.ownsRow B e s v n xs := by
  obtain ⟨h1, h2⟩ := h
  rcases h2 with h2 | ⟨g, cap, c, h3, h4, h5, h6⟩
  · exact ⟨h1, .inl h2⟩
  · exact ⟨h1, .inr ⟨g, cap, c, h3, h4, hk _ _ _ h5, h6⟩⟩
theorem OwnN.keptC {C E : Nat} {el eb : TypeId} {W W' : World} {v : Value} {n : List (List Int)} (h : OwnN C E el eb W v n) (hk : KeptC W W') : OwnN C E el eb W' v n := by
  obtain ⟨vs, ho, hu, hd, hv, he⟩ := h
  refine ⟨vs, row_keptC ho hk, fun i hi => ?_, hd, hv, he⟩
  obtain ⟨x, h1, h2⟩ := hu i hi
  exact ⟨x, h1, row_keptC h2 hk⟩
theorem OwnB.keptC {C E : Nat} {e : TypeId} {W W' : World} {v : Value} {l : List Int} (h : OwnB C E e W v l) (hk : KeptC W W') : OwnB C E e W' v l := ⟨row_keptC h.1 hk, h.2⟩
theorem OwnBI.keptC {C E : Nat} {e : TypeId} {W W' : World} {v : Value} {l : List Int} (h : OwnBI C E e W v l) (hk : KeptC W W') : OwnBI C E e W' v l := ⟨row_keptC h.1 hk, h.2⟩
theorem OwnR.keptC {B E : Nat} {el eb ei : TypeId} {W W' : World} {vn vt vx vi : Value} {r : Rec} (h : OwnR B E el eb ei W vn vt vx vi r) (hk : KeptC W W') : OwnR B E el eb ei W' vn vt vx vi r := by
  obtain ⟨s1, s2, s3, a1, a2, a3, a4, h1, h2, h3, h4⟩ := h
  exact ⟨s1, s2, s3, a1, a2, a3, a4, h1.keptC hk, h2.keptC hk, h3.keptC hk, h4.keptC hk⟩
theorem RowO.keptC {B E : Nat} {er el eb ei : TypeId} {W W' : World} {v : Value} {rs : List Rec} (h : RowO B E er el eb ei W v rs) (hk : KeptC W W') : RowO B E er el eb ei W' v rs := by
  obtain ⟨xs, f, g, ho, hq, hx⟩ := h
  refine ⟨xs, f, g, row_keptC ho hk, hq, fun i hi => ?_⟩
  obtain ⟨h1, h2, h3, h4, vn, vt, vx, vi, q1, q2⟩ := hx i hi
  exact ⟨h1, h2, h3, h4, vn, vt, vx, vi, q1, q2.keptC hk⟩
/-- A row isn't a block that holds no cells. -/
theorem row_notC {B b n s : Nat} {e : TypeId} {w : World} {v : Value} {xs : List Value} {o : Obj} (h : w.ownsRow B e s v n xs) (hb : w.heap[b]? = some o) (ho : o.isCells = false) : v.ownBlock ≠ some b := by
  intro hq
  rcases h.2 with ⟨rfl, _⟩ | ⟨g, cap, cur, rfl, _, hg, _⟩
  · simp [Value.ownBlock] at hq
  · simp [Value.ownBlock] at hq
    subst hq
    rw [hg] at hb
    cases hb
    cases ho
theorem row_type {B b n s : Nat} {e t : TypeId} {w : World} {v : Value} {xs : List Value} {c : Array Value} (h : w.ownsRow B e s v n xs) (hb : w.heap[b]? = some (.cells c t)) (hne : t ≠ e) : v.ownBlock ≠ some b := by
  intro hq
  rcases h.2 with ⟨rfl, _⟩ | ⟨g, cap, cur, rfl, _, hg, _⟩
  · simp [Value.ownBlock] at hq
  · simp [Value.ownBlock] at hq
    subst hq
    rw [hg] at hb
    cases hb
    exact hne rfl
end Go.Proofs.YtdghbcjlahjjdaaGreat

namespace Go.Proofs.YtdghbcjlahjjdaaGreat
open Go.RowKit Go.Shelf
set_option linter.unusedVariables false

/-- A record, with the slices that have its lists. -/
abbrev RecV (w : World) := { p : (Value × Value × Value × Value) × Rec // HasR w p.1.1 p.1.2.1 p.1.2.2.1 p.1.2.2.2 p.2 ∧ ShortR p.2 }
def encV {w : World} (x : RecV w) : Array Value := #[.agg #[x.1.1.1, .int .i64 x.1.2.type, .int .i64 x.1.2.ttl, .int .i64 x.1.2.addr, x.1.1.2.1, x.1.1.2.2.1, x.1.1.2.2.2]]

set_option maxHeartbeats 4000000 in
set_option maxRecDepth 100000 in
theorem values1_in (n : Nat) (hn : 1 ≤ n) (l Bt n0 : Nat) (w0 : World) (a : Option Addr) (cap : Nat) (rs : List Rec) (hn0 : n0 = w0.heap.size) (hT : HasRs w0 (.slice a rs.length cap) rs) (hsh : ∀ i, i < rs.length → ShortR (rs.getD i recZ)) (hl : rs.length ≤ 1048576)
    (J Jx : List (RecV w0) → World → Prop) (W : World) (hW : Below n0 w0 W) (hJ : AbidesFrom W.heap.size J)
    (hY : ∀ pre x W1, J pre W1 → pre.length < rs.length → YieldAt Fence.wide (n - 1) Tryz.prog l (encV x) W1 fun e W' => (e = .returned (.bool true) ∧ J (pre ++ [x]) W' ∧ Below n0 W1 W') ∨ (e = .returned (.bool false) ∧ Jx (pre ++ [x]) W'))
    (hBt : W.cell? ⟨Bt, 0, none⟩ = some (.slice a rs.length cap)) (h0 : J [] W) :
    CallsIn Fence.wide n Tryz.prog 161 #[.func (.yield l) #[] #[], .pointer (some ⟨Bt, 0, none⟩)] W fun e W' => (∃ v, e = .returned v) ∧
      ((∃ xs, xs.map (·.1.2) = rs ∧ J xs W') ∨ (∃ pre, True ∧ Jx pre W')) := by
  subst hn0
  have HT := hide hT
  have HS := hide hsh
  have HJ := hide hJ
  have HY := hide hY
  have B0 := hide hW
  have H0 := hide h0
  clear hT hsh hJ hY hW h0
  generalize hm : rs.length = m at *
  have HM := hide hm
  clear hm
  refine callsIn_of_wp Tryz.func161 rfl trivial ?_ rfl
  simp only [Tryz.ntmps161, List.size_toArray, List.length_cons, List.length_nil, Nat.reduceAdd, Nat.reduceSub, Array.replicate_succ, Array.replicate_zero, List.push_toArray, List.append_toArray, List.nil_append, List.cons_append]
  gi_wp2
  gi_loopw [7] (fun i wr => ∃ (k : Nat) (pre : List (RecV w0)), k ≤ m ∧ i = .int .i64 k ∧ pre.length = k ∧ pre.map (·.1.2) = rs.take k ∧ J pre wr ∧ Below w0.heap.size w0 wr) (fun i _ => m - (intOf i).toNat)
  case atStart => exact ⟨0, [], Nat.zero_le _, rfl, rfl, by simp, unhide H0, unhide B0⟩
  case round =>
    obtain ⟨k, pre, hk, rfl, hpl, hp, hj, hbl⟩ := hrel
    by_cases hlt : k < m
    · obtain ⟨b, off, na, nc, ta, tc, xa, xc, ia, ic, rfl, hb1, hc, hR⟩ := (unhide HT).here (k := k) (by rw [unhide HM]; exact hlt)
      have hsk := unhide HS k hlt
      have htk := hide (show rs.take (k + 1) = rs.take k ++ [rs.getD k recZ] by rw [List.take_succ_eq_append_getElem (by rw [unhide HM]; exact hlt)]; simp [show k < rs.length by rw [unhide HM]; exact hlt])
      obtain ⟨c0, c1, c2, c3, c4, c5, c6⟩ := range7 (range_below hc hb1 hbl)
      generalize rs.getD k recZ = r at *
      obtain ⟨x, hx1, hx2⟩ : ∃ x : RecV w0, encV x = #[.agg #[.slice na r.name.length nc, .int .i64 r.type, .int .i64 r.ttl, .int .i64 r.addr, .slice ta r.to.length tc, .slice xa r.text.length xc, .slice ia r.nums.length ic]] ∧ x.1.2 = r := ⟨⟨((.slice na r.name.length nc, .slice ta r.to.length tc, .slice xa r.text.length xc, .slice ia r.nums.length ic), r), hR, hsk⟩, rfl, rfl⟩
      have ba := below_alloc (w := wr) (.cells #[.slice na r.name.length nc, .int .i64 r.type, .int .i64 r.ttl, .int .i64 r.addr, .slice ta r.to.length tc, .slice xa r.text.length xc, .slice ia r.nums.length ic] 101)
      obtain ⟨d0, d1, d2, d3, d4, d5, d6⟩ := cells7 (heap_alloc_new wr (.cells #[.slice na r.name.length nc, .int .i64 r.type, .int .i64 r.ttl, .int .i64 r.addr, .slice ta r.to.length tc, .slice xa r.text.length xc, .slice ia r.nums.length ic] 101))
      obtain ⟨fn, tmps, assign, body, hy, hRd⟩ := unhide HY pre x (wr.alloc (.cells #[.slice na r.name.length nc, .int .i64 r.type, .int .i64 r.ttl, .int .i64 r.addr, .slice ta r.to.length tc, .slice xa r.text.length xc, .slice ia r.nums.length ic] 101)) (unhide HJ pre wr _ none hj (World.grownBy_alloc wr _ none) (fun r e => by cases e)) (by omega)
      rw [hx1] at hy
      have hb2 : Below w0.heap.size w0 (wr.alloc (.cells #[.slice na r.name.length nc, .int .i64 r.type, .int .i64 r.ttl, .int .i64 r.addr, .slice ta r.to.length tc, .slice xa r.text.length xc, .slice ia r.nums.length ic] 101)) := below_next hbl ba
      have HB := hide hb2
      clear hb2 ba hc hR hsk hbl hj
      gi_wp2
      refine hRd.mono ?_
      rintro e W3 (⟨rfl, hJ3, hk3⟩ | ⟨rfl, hJx3⟩)
      · have hb3 := (unhide HB).trans hk3
        clear hy hRd hk3 HB d0 d1 d2 d3 d4 d5 d6 c0 c1 c2 c3 c4 c5 c6
        gi_wp2
        go_roundw
        case rel => exact ⟨k + 1, pre ++ [x], by omega, by go_num, by simp [hpl], by rw [unhide htk, ← hp]; simp [hx2], hJ3, hb3⟩
        case measure => simp [intOf]; omega
      · clear hy hRd HB d0 d1 d2 d3 d4 d5 d6 c0 c1 c2 c3 c4 c5 c6
        gi_wp2
        refine bodyPost_ret (results_none rfl _ _ _) rfl ?_
        exact ⟨⟨_, rfl⟩, .inr ⟨pre ++ [x], trivial, hJx3⟩⟩
    · obtain rfl : k = m := by omega
      have hall : rs.take k = rs := List.take_of_length_le (by rw [unhide HM]; exact Nat.le_refl _)
      rw [hall] at hp
      clear hall
      gi_wp2
      go_end0
      exact ⟨⟨_, rfl⟩, .inl ⟨pre, hp, hj⟩⟩
end Go.Proofs.YtdghbcjlahjjdaaGreat
