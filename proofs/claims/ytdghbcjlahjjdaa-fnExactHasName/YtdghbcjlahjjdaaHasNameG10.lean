/-
  Contracts of the helpers of the laws for zones (szZone, toZone, eqZone). Steps of a region that draws its order: an append to a row of the call's own. No program is named here.
-/
import Derived.Test.YtdghbcjlahjjdaaHasNameG09
import Derived.Test.YtdghbcjlahjjdaaHasNameG00
import Derived.Deep.RegionLaw
namespace Go.Proofs.Ytdghbcjlahjjdaa
open Go.RowKit
set_option linter.unusedVariables false

/-- A block of two cells. -/
theorem cells2 {w : World} {b : Nat} {c0 c1 : Value} {t : TypeId} (h : w.heap[b]? = some (.cells #[c0, c1] t)) : w.cell? ⟨b, 0, none⟩ = some c0 ∧ w.cell? ⟨b, 1, none⟩ = some c1 := ⟨block_cell h 0, block_cell h 1⟩
theorem frozen2 {w : World} {b : Nat} {c : Array Value} {t : TypeId} (h : w.heap[b]? = some (.cells c t)) : w.frozen? ⟨b, 0, none⟩ = false ∧ w.frozen? ⟨b, 1, none⟩ = false := ⟨block_frozen h 0, block_frozen h 1⟩

/-- A zone that came in. -/
structure InZ (w : World) (ao ar : Option Addr) (o : List (List Int)) (rs : List Rec) : Prop where
  name : LiesL w ao o
  recs : LiesRs w ar rs
theorem InZ.below {w w' : World} {ao ar : Option Addr} {o : List (List Int)} {rs : List Rec} (h : InZ w ao ar o rs) (hb : Below w.heap.size w w') : InZ w' ao ar o rs := ⟨h.name.below hb, h.recs.below hb⟩
structure SizeZ (m : Nat) (o : List (List Int)) (rs : List Rec) : Prop where
  name : o.length ≤ m
  names : ∀ i, i < o.length → (o.getD i []).length ≤ m
  count : rs.length ≤ m
  recs : ∀ i, i < rs.length → SizeR m (rs.getD i recZ)
theorem SizeZ.mono {m m' : Nat} {o : List (List Int)} {rs : List Rec} (h : SizeZ m o rs) (hm : m ≤ m') : SizeZ m' o rs := ⟨Nat.le_trans h.name hm, fun i hi => Nat.le_trans (h.names i hi) hm, Nat.le_trans h.count hm, fun i hi => (h.recs i hi).mono hm⟩
/-- The slices of a zone have its name and its records. -/
structure HasZ (w : World) (vo vr : Value) (o : List (List Int)) (rs : List Rec) : Prop where
  name : HasL w vo o
  recs : HasRs w vr rs
theorem HasZ.below {w w' : World} {vo vr : Value} {o : List (List Int)} {rs : List Rec} (h : HasZ w vo vr o rs) (hb : Below w.heap.size w w') : HasZ w' vo vr o rs := ⟨h.name.below hb, h.recs.below hb⟩

set_option maxHeartbeats 1000000 in
set_option maxRecDepth 100000 in
theorem szZone_any (ao : Option Addr) (co : Nat) (ar : Option Addr) (cr : Nat) (o : List (List Int)) (rs : List Rec) (left : Int) (w : World) (h : InZ w ao ar o rs) (hm : SizeZ maxLen o rs) (h0 : 0 ≤ left) (h1 : left ≤ 1048576) :
    Calls Try.prog 20 #[.agg #[.slice ao o.length co, .slice ar rs.length cr], .int .i64 left] w fun e w' => (∃ y : Int, e = .returned (.int .i64 y) ∧ -1 ≤ y ∧ y ≤ left ∧ (0 ≤ y → SizeZ left.toNat o rs)) ∧ Below w.heap.size w w' := by
  have b0 := below_alloc (w := w) (.cells #[.slice ao o.length co, .slice ar rs.length cr] 51)
  have k0 := heap_alloc_new w (.cells #[.slice ao o.length co, .slice ar rs.length cr] 51)
  have I0 := hide (h.below b0)
  have HM := hide hm
  have K0 := hide k0
  clear h hm k0
  go_enter Try.func20, Try.ntmps20
  go_wp2_with fail
  generalize w.alloc (.cells #[.slice ao o.length co, .slice ar rs.length cr] 51) = W at *
  refine (szName_any ao co o left _ (unhide I0).name (unhide HM).name (unhide HM).names h0 h1).mono ?_
  rintro e w1 ⟨⟨y1, rfl, ya1, yb1, yc1⟩, b1⟩
  have bb1 := below_next b0 b1
  by_cases n1 : y1 < 0
  · clear yc1 b0 b1
    go_wp2
    go_ret
    exact ⟨⟨-1, rfl, by omega, by omega, fun q => by omega⟩, bb1⟩
  have Y1 := hide (yc1 (by omega))
  have K1 := hide (block_kept b1 (unhide K0))
  have I1 := hide ((unhide I0).below b1)
  obtain ⟨d0, d1⟩ := cells2 (unhide K1)
  clear yc1 b0 b1 I0 K0
  go_wp2_with fail
  clear d0 d1
  refine (szRrS_any ar cr rs y1 _ (unhide I1).recs (unhide HM).count (unhide HM).recs (by omega) (by omega)).mono ?_
  rintro e w2 ⟨⟨y2, rfl, ya2, yb2, yc2⟩, b2⟩
  have bb2 := below_next bb1 b2
  by_cases n2 : y2 < 0
  · clear yc2 b2
    go_wp2
    go_ret
    exact ⟨⟨-1, rfl, by omega, by omega, fun q => by omega⟩, bb2⟩
  have Y2 := hide (yc2 (by omega))
  clear yc2 b2
  go_wp2
  go_ret
  have p1 := unhide Y1
  have p2 := unhide Y2
  exact ⟨⟨y2, rfl, by omega, by omega, fun _ => ⟨by omega, fun i hi => by have := p1.2 i hi; omega, by omega, fun i hi => (p2.2 i hi).mono (by omega)⟩⟩, bb2⟩

set_option maxHeartbeats 1000000 in
set_option maxRecDepth 100000 in
theorem toZone_any (ao : Option Addr) (co : Nat) (ar : Option Addr) (cr : Nat) (o : List (List Int)) (rs : List Rec) (w : World) (h : InZ w ao ar o rs) (hs : SizeZ 1048576 o rs) :
    Calls Try.prog 22 #[.agg #[.slice ao o.length co, .slice ar rs.length cr]] w fun e w' => ∃ vo vr, e = .returned (.agg #[vo, vr]) ∧ HasZ w' vo vr o rs ∧ Below w.heap.size w w' := by
  obtain ⟨hsz, r0, v0⟩ := box3 w (.cells #[.slice ao o.length co, .slice ar rs.length cr] 51) #[.slice none 0 0, .slice none 0 0] #[.slice none 0 0, .slice none 0 0] 40 40
  have b0 : Below w.heap.size w (((w.alloc (.cells #[.slice ao o.length co, .slice ar rs.length cr] 51)).alloc (.cells #[.slice none 0 0, .slice none 0 0] 40)).alloc (.cells #[.slice none 0 0, .slice none 0 0] 40)) := ((below_alloc _).alloc (below_alloc _).size _).alloc ((below_alloc _).alloc (below_alloc _).size _).size _
  have k0 : (((w.alloc (.cells #[.slice ao o.length co, .slice ar rs.length cr] 51)).alloc (.cells #[.slice none 0 0, .slice none 0 0] 40)).alloc (.cells #[.slice none 0 0, .slice none 0 0] 40)).heap[w.heap.size]? = some (.cells #[.slice ao o.length co, .slice ar rs.length cr] 51) := block_kept (below_alloc _) (block_kept (below_alloc _) (heap_alloc_new w _))
  have I0 := hide (h.below b0)
  have HS := hide hs
  have K0 := hide k0
  have R0 := hide r0
  have V0 := hide v0
  have HI := hide h
  have zv := block_lt v0
  clear h hs k0 r0 v0 hsz
  go_enter Try.func22, Try.ntmps22
  go_wp2_with fail
  generalize (((w.alloc (.cells #[.slice ao o.length co, .slice ar rs.length cr] 51)).alloc (.cells #[.slice none 0 0, .slice none 0 0] 40)).alloc (.cells #[.slice none 0 0, .slice none 0 0] 40)) = W at *
  refine (toName_any ao co o _ (unhide I0).name (unhide HS).name (unhide HS).names).mono ?_
  rintro e w1 ⟨v1, rfl, o1, b1⟩
  obtain ⟨n1, m1, rfl, _⟩ := o1.hasL.form
  have bb1 := below_next b0 b1
  have K1 := hide (block_kept b1 (unhide K0))
  have R1 := hide (block_kept b1 (unhide R0))
  have V1 := block_kept b1 (unhide V0)
  have O1 := hide o1.here
  have z1 := b1.size
  obtain ⟨d0, d1⟩ := cells2 (unhide K1)
  obtain ⟨f0, f1⟩ := cells2 V1
  obtain ⟨g0, g1⟩ := frozen2 V1
  clear b0 K0 R0 V0 b1 o1 I0
  go_wp2_with fail
  clear d0 d1 f0 f1 g0 g1
  have u2 := outside_set w1 (w.heap.size + 1 + 1) 0 (.slice n1 o.length m1)
  have V2 : (w1.setCell ⟨w.heap.size + 1 + 1, 0, none⟩ (.slice n1 o.length m1)).heap[w.heap.size + 1 + 1]? = some (.cells #[.slice n1 o.length m1, .slice none 0 0] 40) := block_setAt V1 0 _
  generalize (w1.setCell ⟨w.heap.size + 1 + 1, 0, none⟩ (.slice n1 o.length m1)) = w2 at *
  have bb2 := u2.below bb1 (by omega)
  have R2 := hide (u2.kept (unhide R1) (by omega))
  have O2 := hide ((unhide O1).outside u2 (by omega))
  have z2 := u2.size
  clear bb1 K1 R1 O1 u2 V1
  refine (toRrS_any ar cr rs _ ((unhide HI).below bb2).recs (unhide HS).count (unhide HS).recs).mono ?_
  rintro e w3 ⟨v3, rfl, o3, b3⟩
  obtain ⟨n2, m2, rfl, _⟩ := o3.has.form
  have bb3 := below_next bb2 b3
  have R3 := block_kept b3 (unhide R2)
  have V3 := block_kept b3 V2
  have O3 := hide ((unhide O2).below b3)
  have T3 := hide o3
  have z3 := b3.size
  obtain ⟨f0, f1⟩ := cells2 V3
  obtain ⟨g0, g1⟩ := frozen2 V3
  obtain ⟨p0, p1⟩ := cells2 R3
  obtain ⟨q0, q1⟩ := frozen2 R3
  clear bb2 R2 V2 b3 o3 O2
  go_wp2_with fail
  clear f0 f1 g0 g1 p0 p1 q0 q1
  have u4 := (outside_set w3 (w.heap.size + 1 + 1) 1 (.slice n2 rs.length m2)).wide (B' := w.heap.size + 1) (E' := w.heap.size + 3) (by omega) (by omega)
  have R4 := block_other R3 (b' := w.heap.size + 1 + 1) (by omega) 1 (.slice n2 rs.length m2)
  generalize w3.setCell ⟨w.heap.size + 1 + 1, 1, none⟩ (.slice n2 rs.length m2) = w4 at *
  have R5 : ((w4.setCell ⟨w.heap.size + 1, 0, none⟩ (.slice n1 o.length m1)).setCell ⟨w.heap.size + 1, 1, none⟩ (.slice n2 rs.length m2)).heap[w.heap.size + 1]? = some (.cells #[.slice n1 o.length m1, .slice n2 rs.length m2] 40) := block_setAt (block_setAt R4 0 _) 1 _
  have u5 := ((outside_set w4 (w.heap.size + 1) 0 (.slice n1 o.length m1)).trans (outside_set _ (w.heap.size + 1) 1 (.slice n2 rs.length m2))).wide (B' := w.heap.size + 1) (E' := w.heap.size + 3) (by omega) (by omega)
  refine bodyPost_ret (results_cell_row rfl _ _ (w.heap.size + 1) 40 #[.slice n1 o.length m1, .slice n2 rs.length m2] (0, 0) _ rfl R5 Try.underlying40 rfl (by kernel_rfl)) rfl ?_
  have u6 := u4.trans u5
  exact ⟨_, _, rfl, ⟨((unhide O3).outside u6 (by omega)).hasL, ((unhide T3).outside u6 (by omega)).has⟩, u6.below bb3 (by omega)⟩

set_option maxHeartbeats 1000000 in
set_option maxRecDepth 100000 in
theorem eqZone_has {vo vr uo ur : Value} {o : List (List Int)} {rs : List Rec} {w : World} (h : HasZ w vo vr o rs) (h' : HasZ w uo ur o rs) (hs : SizeZ 2097152 o rs) :
    Calls Try.prog 15 #[.agg #[vo, vr], .agg #[uo, ur]] w fun e w' => e = .returned (.bool true) ∧ Below w.heap.size w w' := by
  obtain ⟨oa, oc, rfl, _⟩ := h.name.form
  obtain ⟨ra, rc, rfl, _⟩ := h.recs.form
  obtain ⟨oa', oc', rfl, _⟩ := h'.name.form
  obtain ⟨ra', rc', rfl, _⟩ := h'.recs.form
  have b0 := below2 w (.cells #[.slice oa o.length oc, .slice ra rs.length rc] 40) (.cells #[.slice oa' o.length oc', .slice ra' rs.length rc'] 40)
  obtain ⟨hsz, k0, x0⟩ := box2 w (.cells #[.slice oa o.length oc, .slice ra rs.length rc] 40) #[.slice oa' o.length oc', .slice ra' rs.length rc'] 40
  have H0 := hide (h.below b0)
  have H0' := hide (h'.below b0)
  have HS := hide hs
  have K0 := hide k0
  have X0 := hide x0
  clear h h' hs k0 x0 hsz
  go_enter Try.func15, Try.ntmps15
  go_wp2_with fail
  generalize (w.alloc (.cells #[.slice oa o.length oc, .slice ra rs.length rc] 40)).alloc (.cells #[.slice oa' o.length oc', .slice ra' rs.length rc'] 40) = W at *
  refine (eqName_has (unhide H0).name (unhide H0').name (unhide HS).names).mono ?_
  rintro e w1 ⟨rfl, b1⟩
  have bb1 := below_next b0 b1
  have H1 := hide ((unhide H0).below b1)
  have H1' := hide ((unhide H0').below b1)
  obtain ⟨d0, d1⟩ := cells2 (block_kept b1 (unhide K0))
  obtain ⟨f0, f1⟩ := cells2 (block_kept b1 (unhide X0))
  clear b0 K0 X0 H0 H0' b1
  go_wp2_with fail
  clear d0 d1 f0 f1
  refine (eqRrS_has (unhide H1).recs (unhide H1').recs (unhide HS).recs).mono ?_
  rintro e w2 ⟨rfl, b2⟩
  go_wp2_with fail
  go_ret
  exact ⟨rfl, below_next bb1 b2⟩
end Go.Proofs.Ytdghbcjlahjjdaa

namespace Go.Proofs.Ytdghbcjlahjjdaa
open Go.RowKit

section
variable {P : Program} {w : World}

theorem run_append_bytes (t ty e : TypeId) (ht : P.underlying t = some (.slice e)) (hinfo : (P.info? e).map (fun i => (i.zero, i.size, i.bytes)) = some (some (.int .u8 0), 1, 1))
    (base : Nat) (v vx : Value) (l m : List Int) (hown : Own base e w v l) (hr : Reads w vx m) (hlen : l.length + m.length ≤ 1099511627776) (hbase : base ≤ w.heap.size) :
    ∃ v' w', (Builtin.append_ #[t, t] ty #[v, vx]).run P w = .ok v' w' ∧ Own base e w' v' (l ++ m) ∧ w.grownBy w' v.ownBlock := by
  obtain ⟨i0, hi, hz0, hz1, hz2⟩ := info_parts hinfo
  rcases hr with ⟨rfl, rfl⟩ | ⟨ad, cap, rfl, hc⟩
  · exact ⟨v, w, run_append_owned_none w base t ty e i0 1 ht hi v l.length (l.map (Value.int .u8)) hown, by simpa using hown, ⟨rfl, rfl, rfl, Nat.le_refl _, fun _ _ _ => rfl⟩⟩
  · obtain ⟨v', w', h1, h2, h3, _⟩ := run_append_own (P := P) w base t ty e i0 (.int .u8 0) 1 1 ht hi hz0 hz1 hz2 rfl (by decide) v l.length (l.map (Value.int .u8)) hown ad m.length cap (m.map (Value.int .u8)) (by simp) (news_of hc) (one_of m) (by unfold maxLen; omega) (by omega) hbase
    exact ⟨v', w', h1, by simpa [Own] using h2, h3⟩

/-- 'append(s, x...)' of bytes, as a step of a region. -/
theorem step_append_bytes {ops : Array Oper} {o : Oper} {a : Act} {K : Act → World → Prop} {Q : Exit → Act → World → Prop} {E : Prop} (hgd : o.guard = none) (s x : Operand) (t e : TypeId)
    (ho : o.op = .call { callee := .builtin .append, args := #[s, x], argTypes := #[t, t] }) (ht : P.underlying t = some (.slice e))
    (hinfo : (P.info? e).map (fun i => (i.zero, i.size, i.bytes)) = some (some (.int .u8 0), 1, 1))
    (base : Nat) (v vx : Value) (l m : List Int) (hs : a.eval s = v) (hx : a.eval x = vx) (hown : Own base e w v l) (hr : Reads w vx m) (hlen : l.length + m.length ≤ 1099511627776) (hbase : base ≤ w.heap.size)
    (h : ∀ v' w', Own base e w' v' (l ++ m) → w.grownBy w' v.ownBlock → K (a.put o.dst v') w') : if Region.wanted o (yielded ops a.tmps) = true then Oper.wp P o a w K Q else E := by
  have hw : Region.wanted o (yielded ops a.tmps) = true := by simp [Region.wanted, hgd]
  rw [if_pos hw]
  obtain ⟨v', w', hr', h2, h3⟩ := run_append_bytes (P := P) t o.type e ht hinfo base v vx l m hown hr hlen hbase
  unfold Oper.wp execOp
  simp only [ho, resolve, invoke, builtin, Sem.run_bind, Sem.run_pure, Result.andThen_ok, List.map_toArray, List.map_cons, List.map_nil, hs, hx, hr']
  exact h v' w' h2 h3

/-- Some values more behind an own row of values of one cell each. -/
theorem run_append_row (t ty e : TypeId) (ht : P.underlying t = some (.slice e)) (hinfo : (P.info? e).map (fun i => (i.zero, i.size, i.bytes)) = some (some (.slice none 0 0), 1, 24))
    (base : Nat) (v vx : Value) (xs us : List Value) (hown : w.ownsRow base e 1 v xs.length xs)
    (hr : (vx = .slice none 0 0 ∧ us = []) ∨ ∃ ad cap, vx = .slice (some ad) us.length cap ∧ ∀ j y, us[j]? = some y → w.cell? (ad.add j) = some y) (hu : ∀ y ∈ us, y.oneCell' = true)
    (hlen : xs.length + us.length ≤ 1099511627776) (hbase : base ≤ w.heap.size) :
    ∃ v' w', (Builtin.append_ #[t, t] ty #[v, vx]).run P w = .ok v' w' ∧ w'.ownsRow base e 1 v' (xs.length + us.length) (xs ++ us) ∧ w.grownBy w' v.ownBlock := by
  obtain ⟨i0, hi, hz0, hz1, hz2⟩ := info_parts hinfo
  rcases hr with ⟨rfl, rfl⟩ | ⟨ad, cap, rfl, hc⟩
  · exact ⟨v, w, run_append_owned_none w base t ty e i0 1 ht hi v xs.length xs hown, by simpa using hown, ⟨rfl, rfl, rfl, Nat.le_refl _, fun _ _ _ => rfl⟩⟩
  · obtain ⟨v', w', h1, h2, h3, _⟩ := run_append_own (P := P) w base t ty e i0 (.slice none 0 0) 1 24 ht hi hz0 hz1 hz2 rfl (by decide) v xs.length xs hown ad us.length cap us (by simp) hc hu (by unfold maxLen; omega) (by omega) hbase
    exact ⟨v', w', h1, h2, h3⟩

/-- 'append(s, x...)' of slices, as a step of a region. -/
theorem step_append_row {ops : Array Oper} {o : Oper} {a : Act} {K : Act → World → Prop} {Q : Exit → Act → World → Prop} {E : Prop} (hgd : o.guard = none) (s x : Operand) (t e : TypeId)
    (ho : o.op = .call { callee := .builtin .append, args := #[s, x], argTypes := #[t, t] }) (ht : P.underlying t = some (.slice e))
    (hinfo : (P.info? e).map (fun i => (i.zero, i.size, i.bytes)) = some (some (.slice none 0 0), 1, 24))
    (base : Nat) (v vx : Value) (xs us : List Value) (hs : a.eval s = v) (hx : a.eval x = vx) (hown : w.ownsRow base e 1 v xs.length xs)
    (hr : (vx = .slice none 0 0 ∧ us = []) ∨ ∃ ad cap, vx = .slice (some ad) us.length cap ∧ ∀ j y, us[j]? = some y → w.cell? (ad.add j) = some y) (hu : ∀ y ∈ us, y.oneCell' = true)
    (hlen : xs.length + us.length ≤ 1099511627776) (hbase : base ≤ w.heap.size)
    (h : ∀ v' w', w'.ownsRow base e 1 v' (xs.length + us.length) (xs ++ us) → w.grownBy w' v.ownBlock → K (a.put o.dst v') w') : if Region.wanted o (yielded ops a.tmps) = true then Oper.wp P o a w K Q else E := by
  have hw : Region.wanted o (yielded ops a.tmps) = true := by simp [Region.wanted, hgd]
  rw [if_pos hw]
  obtain ⟨v', w', hr', h2, h3⟩ := run_append_row (P := P) t o.type e ht hinfo base v vx xs us hown hr hu hlen hbase
  unfold Oper.wp execOp
  simp only [ho, resolve, invoke, builtin, Sem.run_bind, Sem.run_pure, Result.andThen_ok, List.map_toArray, List.map_cons, List.map_nil, hs, hx, hr']
  exact h v' w' h2 h3

/-- One value more: what the row of the append's second argument is, in a world that has just been given it. -/
theorem one_more (w : World) (e : TypeId) (u : Value) : (Value.slice (some ⟨w.heap.size, 0, none⟩) 1 1 = .slice none 0 0 ∧ [u] = []) ∨ ∃ ad cap, Value.slice (some ⟨w.heap.size, 0, none⟩) 1 1 = .slice (some ad) [u].length cap ∧ ∀ j y, [u][j]? = some y → (w.alloc (.cells #[u] e)).cell? (ad.add j) = some y := by
  refine .inr ⟨_, 1, rfl, fun j y hj => ?_⟩
  have hj0 : j = 0 := by
    have := (List.getElem?_eq_some_iff.1 hj).1
    simp at this
    exact this
  subst hj0
  have hh : (w.alloc (.cells #[u] e)).heap[w.heap.size]? = some (.cells #[u] e) := by
    show (w.heap.push _)[w.heap.size]? = _
    simp
  rw [Addr.add_lit]
  unfold World.cell?
  simp only [hh]
  simpa using hj
end
end Go.Proofs.Ytdghbcjlahjjdaa
