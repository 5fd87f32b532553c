/-
  Plain facts: an append to a literal without elements turns nothing that was there. No program is named here. Contract of the program's copyRr: a record of its own with the same fields, each list in a stretch of blocks of its own. Plain facts: a row of records that a slice owns, each with lists of its own in a stretch of blocks of its own. No program is named here.
-/
import Derived.Test.YtfgcmjpkgdjcfaaGreatHouseNewG07
import Derived.Test.YtfgcmjpkgdjcfaaGreatHouseNewG10
import Derived.Test.YtfgcmjpkgdjcfaaGreatHouseNewG11
import Derived.Test.YtfgcmjpkgdjcfaaGreatHouseNewG05
namespace Go.Proofs.YtfgcmjpkgdjcfaaGreat
open Go.RowKit

section
variable {P : Program} {w : World}

theorem row_empty (B p : Nat) (e : TypeId) (hB : B ≤ p) (hp : w.heap[p]? = some (.cells #[] e)) : w.ownsRow B e 1 (.slice (some ⟨p, 0, none⟩) 0 0) 0 [] :=
 ⟨rfl, .inr ⟨p, 0, #[], rfl, hB, hp, Nat.le_refl _, Nat.zero_le _, rfl, rfl⟩⟩

theorem run_append_fresh (t ty e : TypeId) (z : Value) (bytes : Nat) (ht : P.underlying t = some (.slice e)) (hinfo : (P.info? e).map (fun i => (i.zero, i.size, i.bytes)) = some (some z, 1, bytes))
  (hzs : z.cells.size = 1) (hby : bytes ≤ 100) (B p : Nat) (hB : B ≤ p) (hp : w.heap[p]? = some (.cells #[] e)) (vx : Value) (us : List Value)
  (hr : (vx = .slice none 0 0 ∧ us = []) ∨ ∃ ad cap, vx = .slice (some ad) us.length cap ∧ ∀ j y, us[j]? = some y → w.cell? (ad.add j) = some y) (hu : ∀ y ∈ us, y.oneCell' = true)
  (hlen : us.length ≤ 1099511627776) :
  ∃ v' w', (Builtin.append_ #[t, t] ty #[.slice (some ⟨p, 0, none⟩) 0 0, vx]).run P w = .ok v' w' ∧ w'.ownsRow B e 1 v' us.length us ∧ Below w.heap.size w w' := by
 obtain ⟨i0, hi, hz0, hz1, hz2⟩ := info_parts hinfo
 have hown := row_empty B p e hB hp
 have hpl := block_lt hp
 rcases hr with ⟨rfl, rfl⟩ | ⟨ad, cap, rfl, hc⟩
 ·exact ⟨_, w, run_append_owned_none w B t ty e i0 1 ht hi _ 0 [] hown, hown, Below.refl _ _⟩
 ·have hbb : us.length * bytes ≤ 1099511627776 * 100 := Nat.mul_le_mul hlen hby
  obtain ⟨v', w', h1, h2, h3, _⟩ := run_append_own (P := P) w B t ty e i0 z 1 bytes ht hi hz0 hz1 hz2 hzs (by decide) _ 0 [] hown ad us.length cap us (by simp) hc hu (by unfold maxLen; omega) (by rw [Nat.zero_add]; omega) (by omega)
  refine ⟨v', w', h1, by simpa using h2, ⟨h3.os, h3.tape, h3.output, h3.size, fun k hk => ?_⟩⟩
  by_cases e1 : k = p
  ·subst e1
   by_cases h0 : us.length = 0
   ·have hus : us = [] := List.eq_nil_of_length_eq_zero h0
    subst hus
    rw [run_append_room (P := P) w t ty e i0 ht hi k 0 0 #[] hp ad ([] : List Value).length cap [] (by simp) (by simp) (by simp) (by simp) (by simp)] at h1
    simp only [Result.ok.injEq] at h1
    rw [← h1.2, hp]
    simpa using setRow_heap w k #[] #[] e _ hp
   ·rw [run_append_grow (P := P) w t ty e i0 z ht hi hz0 ⟨k, 0, none⟩ 0 0 [] (by simp) (by simp) ad us.length cap us (by simp [hz1]) hc (by omega) (by omega) (growslice_fits (by omega) (by rw [hz2, Nat.zero_add]; omega))] at h1
    simp only [Result.ok.injEq] at h1
    rw [← h1.2]
    exact heap_alloc_old w.drew _ hk
  ·exact h3.block k hk (by simp [Value.ownBlock]; omega)

/-- 'append([]T{}, x...)' as a step of a region, with the literal at p. -/
theorem step_fresh {ops : Array Oper} {o : Oper} {a : Act} {K : Act → World → Prop} {Q : Exit → Act → World → Prop} {E : Prop} (hgd : o.guard = none) (s x : Operand) (t e : TypeId)
  (ho : o.op = .call { callee := .builtin .append, args := #[s, x], argTypes := #[t, t] }) (ht : P.underlying t = some (.slice e)) (z : Value) (bytes : Nat)
  (hinfo : (P.info? e).map (fun i => (i.zero, i.size, i.bytes)) = some (some z, 1, bytes)) (hzs : z.cells.size = 1) (hby : bytes ≤ 100) (B p : Nat) (hB : B ≤ p) (hp : w.heap[p]? = some (.cells #[] e)) (vx : Value) (us : List Value)
  (hs : a.eval s = .slice (some ⟨p, 0, none⟩) 0 0) (hx : a.eval x = vx)
  (hr : (vx = .slice none 0 0 ∧ us = []) ∨ ∃ ad cap, vx = .slice (some ad) us.length cap ∧ ∀ j y, us[j]? = some y → w.cell? (ad.add j) = some y) (hu : ∀ y ∈ us, y.oneCell' = true)
  (hlen : us.length ≤ 1099511627776)
  (h : ∀ v' w', w'.ownsRow B e 1 v' us.length us → Below w.heap.size w w' → K (a.put o.dst v') w') : if Region.wanted o (yielded ops a.tmps) = true then Oper.wp P o a w K Q else E := by
 have hw : Region.wanted o (yielded ops a.tmps) = true := by simp [Region.wanted, hgd]
 rw [if_pos hw]
 obtain ⟨v', w', hr', h2, h3⟩ := run_append_fresh (P := P) t o.type e z bytes ht hinfo hzs hby B p hB hp vx us hr hu hlen
 unfold Oper.wp execOp
 simp only [ho, resolve, invoke, builtin, Sem.run_bind, Sem.run_pure, Result.andThen_ok, List.map_toArray, List.map_cons, List.map_nil, hs, hx, hr']
 exact h v' w' h2 h3
end
theorem Has.readsV {w : World} {v : Value} {l : List Int} (h : Has w v l) : (v = .slice none 0 0 ∧ l.map (Value.int .u8) = []) ∨ ∃ ad cap, v = .slice (some ad) (l.map (Value.int .u8)).length cap ∧ ∀ j y, (l.map (Value.int .u8))[j]? = some y → w.cell? (ad.add j) = some y := by
 rcases h.reads with ⟨h1, h2⟩ | ⟨ad, cap, h1, h2⟩
 ·exact .inl ⟨h1, by rw [h2]; rfl⟩
 ·exact .inr ⟨ad, cap, by rw [List.length_map]; exact h1, news_of h2⟩
theorem HasI.readsV {w : World} {v : Value} {l : List Int} (h : HasI w v l) : (v = .slice none 0 0 ∧ l.map (Value.int .i64) = []) ∨ ∃ ad cap, v = .slice (some ad) (l.map (Value.int .i64)).length cap ∧ ∀ j y, (l.map (Value.int .i64))[j]? = some y → w.cell? (ad.add j) = some y := by
 rcases h with ⟨h1, h2⟩ | ⟨g, off, cap, h1, _, _, _, h2⟩
 ·exact .inl ⟨h1, by rw [h2]; rfl⟩
 ·refine .inr ⟨⟨g, off, none⟩, cap, by rw [List.length_map]; exact h1, fun j y hj => ?_⟩
  have hj2 : j < l.length := by
   have := (List.getElem?_eq_some_iff.1 hj).1
   simpa using this
  rw [map_atI l j hj2] at hj
  rw [← hj, Addr.add_lit]
  exact h2 j hj2
theorem one_ofI (l : List Int) : ∀ u ∈ l.map (Value.int .i64), u.oneCell' = true := by
 intro u hu
 obtain ⟨x, _, rfl⟩ := List.mem_map.1 hu
 rfl
end Go.Proofs.YtfgcmjpkgdjcfaaGreat

namespace Go.Proofs.YtfgcmjpkgdjcfaaGreat
open Go.RowKit
set_option linter.unusedVariables false

theorem info_intC : (Tryz.prog.info? 3).map (fun i => (i.zero, i.size, i.bytes)) = some (some (.int .i64 0), 1, 8) := by kernel_rfl
/-- 'append([]int(nil), x...)' where no order is drawn. -/
theorem append_nums {P : Program} {w : World} {ops : Array Oper} {rest : List Oper} {o : Oper} {a : Act} {Q : Exit → Act → World → Prop} (hgd : o.guard = none) (s x : Operand) (t e : TypeId)
  (ho : o.op = .call { callee := .builtin .append, args := #[s, x], argTypes := #[t, t] }) (ht : P.underlying t = some (.slice e))
  (hinfo : (P.info? e).map (fun i => (i.zero, i.size, i.bytes)) = some (some (.int .i64 0), 1, 8))
  (vx : Value) (l : List Int) (hs : a.eval s = .slice none 0 0) (hx : a.eval x = vx) (hr : HasI w vx l) (hlen : l.length ≤ 1099511627776)
  (h : ∀ v' w', OwnI w.heap.size e w' v' l → Below w.heap.size w w' → wpList P ops Q rest (a.put o.dst v') w') : wpList P ops Q (o :: rest) a w := by
 obtain ⟨i0, hi, hz0, hz1, hz2⟩ := info_parts hinfo
 have hown := World.ownsRow_nil w w.heap.size e 1
 rcases hr.readsV with ⟨rfl, h0⟩ | ⟨ad, cap, hv, hc⟩
 ·obtain rfl : l = [] := by simpa using h0
  refine wpList_append_own_none hgd s x t ho w.heap.size e i0 1 ht hi _ 0 [] hs hown hx ?_
  exact h _ w hown (Below.refl _ _)
 ·subst hv
  rw [List.length_map] at hx
  refine wpList_append_own w hgd s x t ho w.heap.size e i0 (.int .i64 0) 1 8 ht hi hz0 hz1 hz2 rfl (by decide) _ 0 [] hs hown ad l.length cap (l.map (Value.int .i64)) hx (by simp) hc (one_ofI l) (by unfold maxLen; omega) (by omega) (Nat.le_refl _) ?_
  intro v' w' ho' hg _
  exact h v' w' (by simpa [OwnI] using ho') (below_of_grown hg)

set_option maxHeartbeats 4000000 in
set_option maxRecDepth 100000 in
theorem copyRr_own {vn vt vx vi : Value} {r : Rec} {w : World} (h : HasR w vn vt vx vi r) (hs : ShortR r) :
  Calls Tryz.prog 72 #[.agg #[vn, .int .i64 r.type, .int .i64 r.ttl, .int .i64 r.addr, vt, vx, vi]] w fun e w' => ∃ un ut ux ui, e = .returned (.agg #[un, .int .i64 r.type, .int .i64 r.ttl, .int .i64 r.addr, ut, ux, ui]) ∧
   OwnR w.heap.size w'.heap.size 56 5 3 w' un ut ux ui r ∧ Below w.heap.size w w' := by
 obtain ⟨⟨n1, n2⟩, ⟨t1, t2⟩, hx, hi⟩ := hs
 obtain ⟨na, nc, rfl, _⟩ := h.name.form
 obtain ⟨ta, tc, rfl, _⟩ := h.to.form
 obtain ⟨xa, xc, rfl, _⟩ := h.text.form
 obtain ⟨ia, ic, rfl, _⟩ := h.nums.form
 obtain ⟨hsz, k0, r0⟩ := box2 w (.cells #[.slice na r.name.length nc, .int .i64 r.type, .int .i64 r.ttl, .int .i64 r.addr, .slice ta r.to.length tc, .slice xa r.text.length xc, .slice ia r.nums.length ic] 59) #[.slice none 0 0, .int .i64 0, .int .i64 0, .int .i64 0, .slice none 0 0, .slice none 0 0, .slice none 0 0] 59
 have b0 := below2 w (.cells #[.slice na r.name.length nc, .int .i64 r.type, .int .i64 r.ttl, .int .i64 r.addr, .slice ta r.to.length tc, .slice xa r.text.length xc, .slice ia r.nums.length ic] 59) (.cells #[.slice none 0 0, .int .i64 0, .int .i64 0, .int .i64 0, .slice none 0 0, .slice none 0 0, .slice none 0 0] 59)
 have h0 := h.below b0
 have HN := hide (fun (w : World) (hh : HasL w (.slice na r.name.length nc) r.name) => copyName_has hh n1 n2)
 have HT := hide (fun (w : World) (hh : HasL w (.slice ta r.to.length tc) r.to) => copyName_has hh t1 t2)
 have zz := block_lt r0
 have KB := hide k0
 have KR := hide r0
 have F1 := hide h0.name
 have F2 := hide h0.to
 have HX := hide h.text
 have HI := hide h.nums
 clear hsz k0 r0 h h0 n1 n2 t1 t2
 go_enter Tryz.func72, Tryz.ntmps72
 go_wp2_with fail
 generalize (w.alloc (.cells #[.slice na r.name.length nc, .int .i64 r.type, .int .i64 r.ttl, .int .i64 r.addr, .slice ta r.to.length tc, .slice xa r.text.length xc, .slice ia r.nums.length ic] 59)).alloc (.cells #[.slice none 0 0, .int .i64 0, .int .i64 0, .int .i64 0, .slice none 0 0, .slice none 0 0, .slice none 0 0] 59) = W at *
 have bd := below_drew (w := W)
 have bb := below_next b0 bd
 replace KB := hide (block_kept bd (unhide KB))
 replace KR := hide (block_kept bd (unhide KR))
 replace F1 := hide ((unhide F1).below bd)
 replace F2 := hide ((unhide F2).below bd)
 have z0 := bd.size
 clear bd b0
 have cz := cells7 (unhide KB)
 have c0 := cz.1
 have c4 := cz.2.2.2.2.1
 clear cz
 go_region_law (first
  | (go_simp; go_at_call_of 75 (Value.slice na r.name.length nc); refine (unhide HN _ (unhide F1)).mono ?_; rintro e w1 ⟨v1, rfl, o1, b1⟩; obtain ⟨p1, q1, rfl, _⟩ := o1.hasL.form; have N1 := hide o1.here; have KB1 := hide (block_kept b1 (unhide KB)); have KR1 := hide (block_kept b1 (unhide KR)); have F21 := hide ((unhide F2).below b1); have bb1 := below_next bb b1; have z1 := b1.size; have cz := cells7 (unhide KB1); have c41 := cz.2.2.2.2.1; clear cz b1 o1)
  | (go_simp; go_at_call_of 75 (Value.slice ta r.to.length tc); refine (unhide HT _ (unhide F21)).mono ?_; rintro e w2 ⟨v2, rfl, o2, b2⟩; obtain ⟨p2, q2, rfl, _⟩ := o2.hasL.form; have N2 := hide o2.here; have N12 := hide ((unhide N1).below b2); have KB2 := hide (block_kept b2 (unhide KB1)); have KR2 := hide (block_kept b2 (unhide KR1)); have bb2 := below_next bb1 b2; have z2 := b2.size; obtain ⟨d0, d1, d2, d3, d4, d5, d6⟩ := cells7 (unhide KB2); obtain ⟨f0, f1, f2, f3, f4, f5, f6⟩ := frozen7 (unhide KB2); clear b2 o2))
 all_goals
  clear d0 d1 d2 d3 d4 d5 d6 f0 f1 f2 f3 f4 f5 f6 c0 c4 c41
  have KB3 : Hid (((w2.setCell ⟨w.heap.size, 0, none⟩ (.slice p1 r.name.length q1)).setCell ⟨w.heap.size, 4, none⟩ (.slice p2 r.to.length q2)).heap[w.heap.size]? = some (.cells #[.slice p1 r.name.length q1, .int .i64 r.type, .int .i64 r.ttl, .int .i64 r.addr, .slice p2 r.to.length q2, .slice xa r.text.length xc, .slice ia r.nums.length ic] 59)) := block_setAt (block_setAt (unhide KB2) 0 _) 4 _
  have u3 := (outside_set w2 w.heap.size 0 (.slice p1 r.name.length q1)).trans (outside_set _ w.heap.size 4 (.slice p2 r.to.length q2))
  generalize (w2.setCell ⟨w.heap.size, 0, none⟩ (.slice p1 r.name.length q1)).setCell ⟨w.heap.size, 4, none⟩ (.slice p2 r.to.length q2) = w3 at *
  have M1 := hide ((unhide N12).outside u3 (.inr (by omega)))
  have M2 := hide ((unhide N2).outside u3 (.inr (by omega)))
  have KR3 := hide (u3.kept (unhide KR2) (by omega))
  have bb3 := u3.below bb2 (Nat.le_refl _)
  have z3 := u3.size
  have HC := hide (copyBytes_reads ((unhide HX).below bb3).reads (by omega))
  obtain ⟨d0, d1, d2, d3, d4, d5, d6⟩ := cells7 (unhide KB3)
  clear N1 N12 N2 u3 bb bb1 bb2 KB KB1 KB2 KR KR1 KR2 HN HT F1 F2 F21
  go_wp2_with fail
  clear d0 d1 d2 d3 d4 d5 d6
  refine (unhide HC).mono ?_
  rintro e w4 ⟨v4, rfl, o4, b4⟩
  obtain ⟨p3, q3, rfl, _⟩ := o4.lies
  replace M1 := hide ((unhide M1).below b4)
  replace M2 := hide ((unhide M2).below b4)
  have KR4 := hide (block_kept b4 (unhide KR3))
  have k4 := block_kept b4 (unhide KB3)
  have bb4 := below_next bb3 b4
  have z4 := b4.size
  have X4 := hide o4.here
  have u5 := outside_set w4 w.heap.size 5 (.slice p3 r.text.length q3)
  have KB5 : Hid ((w4.setCell ⟨w.heap.size, 5, none⟩ (.slice p3 r.text.length q3)).heap[w.heap.size]? = some (.cells #[.slice p1 r.name.length q1, .int .i64 r.type, .int .i64 r.ttl, .int .i64 r.addr, .slice p2 r.to.length q2, .slice p3 r.text.length q3, .slice ia r.nums.length ic] 59)) := block_setAt k4 5 _
  have bb5 := u5.below bb4 (Nat.le_refl _)
  have HI5 := hide ((unhide HI).below bb5)
  replace M1 := hide ((unhide M1).outside u5 (.inr (by omega)))
  replace M2 := hide ((unhide M2).outside u5 (.inr (by omega)))
  replace X4 := hide ((unhide X4).outside u5 (.inr (by omega)))
  have KR5 := hide (u5.kept (unhide KR4) (by omega))
  have z5 := u5.size
  obtain ⟨d0, d1, d2, d3, d4, d5, d6⟩ := cells7 k4
  obtain ⟨f0, f1, f2, f3, f4, f5, f6⟩ := frozen7 k4
  clear KB3 KR3 KR4 bb3 bb4 o4 b4 HC u5 k4
  go_wp2_with (at_builtin; refine append_nums rfl _ _ 57 3 rfl Tryz.underlying57 info_intC _ r.nums rfl rfl (unhide HI5) (by omega) ?_)
  intro v6 w6 o6 b6
  have e5 : (w4.setCell ⟨w.heap.size, 5, none⟩ (.slice p3 r.text.length q3)).heap.size = w4.heap.size := by simp [World.setCell]
  replace b6 : Below (w4.setCell ⟨w.heap.size, 5, none⟩ (.slice p3 r.text.length q3)).heap.size (w4.setCell ⟨w.heap.size, 5, none⟩ (.slice p3 r.text.length q3)) w6 := by rw [e5]; exact b6
  replace o6 : OwnI (w4.setCell ⟨w.heap.size, 5, none⟩ (.slice p3 r.text.length q3)).heap.size 3 w6 v6 r.nums := by rw [e5]; exact o6
  clear e5
  clear d0 d1 d2 d3 d4 d5 d6 f0 f1 f2 f3 f4 f5 f6
  generalize w4.setCell ⟨w.heap.size, 5, none⟩ (.slice p3 r.text.length q3) = w5 at *
  obtain ⟨p4, q4, rfl, _⟩ := o6.lies
  replace M1 := hide ((unhide M1).below b6)
  replace M2 := hide ((unhide M2).below b6)
  replace X4 := hide ((unhide X4).below b6)
  have Y6 := hide o6.here
  have k6 := block_kept b6 (unhide KB5)
  have r6 := block_kept b6 (unhide KR5)
  have bb6 := below_next bb5 b6
  have z6 := b6.size
  have u7 := outside_set w6 w.heap.size 6 (.slice p4 r.nums.length q4)
  have R7 := hide (u7.kept r6 (by omega))
  replace M1 := hide ((unhide M1).outside u7 (.inr (by omega)))
  replace M2 := hide ((unhide M2).outside u7 (.inr (by omega)))
  replace X4 := hide ((unhide X4).outside u7 (.inr (by omega)))
  replace Y6 := hide ((unhide Y6).outside u7 (.inr (by omega)))
  have bb7 := u7.below bb6 (Nat.le_refl _)
  have z7 := u7.size
  obtain ⟨d0, d1, d2, d3, d4, d5, d6⟩ := cells7 k6
  obtain ⟨f0, f1, f2, f3, f4, f5, f6⟩ := frozen7 k6
  obtain ⟨g0, g1, g2, g3, g4, g5, g6⟩ := cells7 r6
  obtain ⟨y0, y1, y2, y3, y4, y5, y6⟩ := frozen7 r6
  clear KB5 KR5 bb5 bb6 o6 b6 HI5 u7 k6 r6 HX HI
  go_wp2_with fail
  clear d0 d1 d2 d3 d4 d5 d6 f0 f1 f2 f3 f4 f5 f6 g0 g1 g2 g3 g4 g5 g6 y0 y1 y2 y3 y4 y5 y6
  generalize w6.setCell ⟨w.heap.size, 6, none⟩ (.slice p4 r.nums.length q4) = w7 at *
  obtain ⟨R8, u8⟩ := set7 (c0 := .slice p1 r.name.length q1) (c1 := .int .i64 r.type) (c2 := .int .i64 r.ttl) (c3 := .int .i64 r.addr) (c4 := .slice p2 r.to.length q2) (c5 := .slice p3 r.text.length q3) (c6 := .slice p4 r.nums.length q4) (unhide R7)
  have z8 := u8.size
  refine bodyPost_ret (results_cell_row rfl _ _ (w.heap.size + 1) 59 #[.slice p1 r.name.length q1, .int .i64 r.type, .int .i64 r.ttl, .int .i64 r.addr, .slice p2 r.to.length q2, .slice p3 r.text.length q3, .slice p4 r.nums.length q4] (0, 0) _ rfl R8 Tryz.underlying59 rfl (by kernel_rfl)) rfl ?_
  exact ⟨_, _, _, _, rfl, ⟨w1.heap.size, w2.heap.size, w4.heap.size, by omega, by omega, by omega, by omega, ((unhide M1).outside u8 (.inr (by omega))).wide (by omega) (by omega), ((unhide M2).outside u8 (.inr (by omega))).wide (by omega) (by omega), ((unhide X4).outside u8 (.inr (by omega))).wide (by omega) (by omega), ((unhide Y6).outside u8 (.inr (by omega))).wide (by omega) (by omega)⟩, u8.below bb7 (by omega)⟩
end Go.Proofs.YtfgcmjpkgdjcfaaGreat

namespace Go.Proofs.YtfgcmjpkgdjcfaaGreat
open Go.RowKit
set_option linter.unusedVariables false

theorem row_later {B n size : Nat} {e : TypeId} {w w' : World} {v : Value} {xs : List Value} (h : w.ownsRow B e size v n xs) (hb : Below w.heap.size w w') : w'.ownsRow B e size v n xs :=
 World.ownsRow.kept h (grown_of_below hb) (by cases hv : v.ownBlock with | none => exact .inl rfl | some k => exact .inr (by simp))
/-- The slice v owns a row of these records; all blocks lie in B .. E - 1. -/
def RowO (B E : Nat) (er el eb ei : TypeId) (w : World) (v : Value) (rs : List Rec) : Prop :=
 ∃ (xs : List Value) (f g : Nat → Nat), w.ownsRow B er 7 v rs.length xs ∧ (∀ q, v.ownBlock = some q → q < E) ∧
  ∀ i, i < rs.length → B ≤ f i ∧ g i ≤ E ∧ (∀ k, k < i → g k ≤ f i) ∧ (∀ q, v.ownBlock = some q → q < f i ∨ g i ≤ q) ∧
   ∃ vn vt vx vi, (∀ j u, (cellsR vn vt vx vi (rs.getD i recZ))[j]? = some u → xs[i * 7 + j]? = some u) ∧ OwnR (f i) (g i) el eb ei w vn vt vx vi (rs.getD i recZ)

theorem RowO.nil (B E : Nat) (er el eb ei : TypeId) (w : World) : RowO B E er el eb ei w (.slice none 0 0) [] :=
 ⟨[], fun _ => 0, fun _ => 0, World.ownsRow_nil _ _ _ _, (fun q hq => by cases hq), fun i hi => absurd hi (by simp)⟩

theorem cells_lt {vn vt vx vi : Value} {r : Rec} {j : Nat} {u : Value} (h : (cellsR vn vt vx vi r)[j]? = some u) : j < 7 := by
 have := (List.getElem?_eq_some_iff.1 h).1
 simpa [cellsR] using this

theorem RowO.has {B E : Nat} {er el eb ei : TypeId} {w : World} {v : Value} {rs : List Rec} (h : RowO B E er el eb ei w v rs) : HasRs w v rs := by
 obtain ⟨xs, f, g, ho, _, hx⟩ := h
 have ho' := ho
 rcases ho.2 with ⟨rfl, hn⟩ | ⟨b, cap, cur, rfl, hB, hg, hn, hm, hs, ht⟩
 ·exact .inl ⟨rfl, List.eq_nil_of_length_eq_zero hn⟩
 ·refine .inr ⟨b, 0, cap, rfl, block_lt hg, hn, hm, fun i hi => ?_⟩
  obtain ⟨_, _, _, _, vn, vt, vx, vi, q1, q2⟩ := hx i hi
  refine ⟨vn, vt, vx, vi, fun j u hj => ?_, q2.hasR⟩
  have hj7 := cells_lt hj
  rw [Nat.zero_add, World.ownsRow.cellAt ho' (i * 7 + j) (by omega)]
  exact q1 j u hj

theorem RowO.form {B E : Nat} {er el eb ei : TypeId} {w : World} {v : Value} {rs : List Rec} (h : RowO B E er el eb ei w v rs) : ∃ a cap, v = .slice a rs.length cap ∧ rs.length ≤ cap ∧ cap ≤ maxLen := h.has.form

theorem RowO.wide {B E B' E' : Nat} {er el eb ei : TypeId} {w : World} {v : Value} {rs : List Rec} (h : RowO B E er el eb ei w v rs) (hB : B' ≤ B) (hE : E ≤ E') : RowO B' E' er el eb ei w v rs := by
 obtain ⟨xs, f, g, ho, hq, hx⟩ := h
 refine ⟨xs, f, g, ?_, fun q e => Nat.lt_of_lt_of_le (hq q e) hE, fun i hi => ?_⟩
 ·refine ⟨ho.1, ?_⟩
  rcases ho.2 with hn | ⟨b, cap, cur, hv, hb, rest⟩
  ·exact .inl hn
  ·exact .inr ⟨b, cap, cur, hv, Nat.le_trans hB hb, rest⟩
 ·obtain ⟨h1, h2, h3⟩ := hx i hi
  exact ⟨Nat.le_trans hB h1, Nat.le_trans h2 hE, h3⟩

theorem ownsRow_out {C B D n size : Nat} {e : TypeId} {w w' : World} {v : Value} {xs : List Value} (h : w.ownsRow C e size v n xs) (u : Outside B D w w') (hq : ∀ q, v.ownBlock = some q → q < B ∨ D ≤ q) : w'.ownsRow C e size v n xs := by
 have h' := h
 refine ⟨h.1, ?_⟩
 rcases h.2 with hn | ⟨g, cap, cur, hv, hb, hg, rest⟩
 ·exact .inl hn
 ·refine .inr ⟨g, cap, cur, hv, hb, ?_, rest⟩
  rw [u.block g (block_lt hg) (hq g (by rw [hv]; rfl))]
  exact hg

theorem RowO.outside {B E C D : Nat} {er el eb ei : TypeId} {w w' : World} {v : Value} {rs : List Rec} (h : RowO B E er el eb ei w v rs) (u : Outside C D w w') (hd : E ≤ C ∨ D ≤ B) : RowO B E er el eb ei w' v rs := by
 obtain ⟨xs, f, g, ho, hq, hx⟩ := h
 refine ⟨xs, f, g, ownsRow_out ho u (fun q e => ?_), hq, fun i hi => ?_⟩
 ·have h1 := hq q e
  have h2 := (World.ownsRow.lt ho q e).1
  omega
 ·obtain ⟨h1, h2, h3, h4, vn, vt, vx, vi, q1, q2⟩ := hx i hi
  exact ⟨h1, h2, h3, h4, vn, vt, vx, vi, q1, q2.outside u (by omega)⟩

theorem RowO.below {B E : Nat} {er el eb ei : TypeId} {w w' : World} {v : Value} {rs : List Rec} (h : RowO B E er el eb ei w v rs) (hb : Below w.heap.size w w') : RowO B E er el eb ei w' v rs := by
 obtain ⟨xs, f, g, ho, hq, hx⟩ := h
 refine ⟨xs, f, g, row_later ho hb, hq, fun i hi => ?_⟩
 obtain ⟨h1, h2, h3, h4, vn, vt, vx, vi, q1, q2⟩ := hx i hi
 exact ⟨h1, h2, h3, h4, vn, vt, vx, vi, q1, q2.below hb⟩

theorem OwnR.le {B E : Nat} {el eb ei : TypeId} {w : World} {vn vt vx vi : Value} {r : Rec} (h : OwnR B E el eb ei w vn vt vx vi r) : B ≤ E := by
 obtain ⟨s1, s2, s3, a1, a2, a3, a4, _⟩ := h
 omega

/-- Where the row's own block is written, its records' lists stay. -/
theorem OwnR.grown {B E : Nat} {el eb ei : TypeId} {w w' : World} {vn vt vx vi : Value} {r : Rec} {row : Option Nat} (h : OwnR B E el eb ei w vn vt vx vi r) (hg : w.grownBy w' row) (hr : ∀ q, row = some q → q < B ∨ E ≤ q) : OwnR B E el eb ei w' vn vt vx vi r := by
 cases row with
 | none => exact h.below (below_of_grown hg)
 | some q =>
  refine h.outside (outside_grown (B := q) (E := q + 1) hg (fun k hk => by simp at hk; omega)) ?_
  have := hr q rfl
  omega

/-- One record more. -/
theorem RowO.snoc {B E C D : Nat} {er el eb ei : TypeId} {W w' : World} {v v' : Value} {rs : List Rec} {r : Rec} {vn vt vx vi : Value} (h : RowO B E er el eb ei W v rs) (hE : E ≤ C) (hD : D ≤ W.heap.size)
  (hr : OwnR C D el eb ei W vn vt vx vi r) (hB : B ≤ C) (hg : W.grownBy w' v.ownBlock) (hw : v'.ownBlock = v.ownBlock ∨ v'.ownBlock = some W.heap.size)
  (ho : ∀ xs, W.ownsRow B er 7 v rs.length xs → w'.ownsRow B er 7 v' (rs.length + 1) (xs ++ cellsR vn vt vx vi r)) : RowO B w'.heap.size er el eb ei w' v' (rs ++ [r]) := by
 obtain ⟨xs, f, g, h0, hq, hx⟩ := h
 have ho' := ho xs h0
 have hCD := hr.le
 have hlen : xs.length = rs.length * 7 := h0.1
 have hz := hg.size
 have hvq : ∀ q, v.ownBlock = some q → q < C ∨ D ≤ q := fun q e => by have := hq q e; omega
 refine ⟨xs ++ cellsR vn vt vx vi r, fun i => if i < rs.length then f i else C, fun i => if i < rs.length then g i else D, by rw [List.length_append]; exact ho', fun q e => (World.ownsRow.lt ho' q e).2, fun i hi => ?_⟩
 rw [List.length_append] at hi
 simp only [List.length_cons, List.length_nil] at hi
 by_cases hlt : i < rs.length
 ·obtain ⟨h1, h2, h3, h4, un, ut, ux, ui, q1, q2⟩ := hx i hlt
  simp only [hlt, if_true]
  have e1 : (rs ++ [r]).getD i recZ = rs.getD i recZ := by rw [List.getD_eq_getElem?_getD, List.getElem?_append_left hlt, ← List.getD_eq_getElem?_getD]
  rw [e1]
  refine ⟨h1, by omega, fun k hk => ?_, fun q e => ?_, un, ut, ux, ui, fun j u hj => ?_, q2.grown hg h4⟩
  ·rw [if_pos (by omega)]
   exact h3 k hk
  ·rcases hw with hw | hw
   ·rw [hw] at e
    exact h4 q e
   ·rw [hw] at e
    injection e with e
    omega
  ·have hj7 := cells_lt hj
   rw [List.getElem?_append_left (by omega)]
   exact q1 j u hj
 ·obtain rfl : i = rs.length := by omega
  simp only [Nat.lt_irrefl, if_false]
  have e1 : (rs ++ [r]).getD rs.length recZ = r := by rw [List.getD_eq_getElem?_getD]; simp
  rw [e1]
  refine ⟨hB, by omega, fun k hk => ?_, fun q e => ?_, vn, vt, vx, vi, fun j u hj => ?_, hr.grown hg hvq⟩
  ·rw [if_pos hk]
   have := (hx k hk).2.1
   omega
  ·rcases hw with hw | hw
   ·rw [hw] at e
    exact hvq q e
   ·rw [hw] at e
    injection e with e
    omega
  ·rw [List.getElem?_append_right (by omega), hlen, Nat.add_sub_cancel_left]
   exact hj

section
variable {P : Program} {w : World}
/-- Where an append to a row of records leaves it. -/
theorem where_recs {t ty e : TypeId} (ht : P.underlying t = some (.slice e)) {zs : Array Value} (hinfo : (P.info? e).map (fun i => (i.zero, i.size, i.bytes)) = some (some (.agg zs), 7, 120)) (hzs : zs.size = 7)
  {base : Nat} {v : Value} {n : Nat} {xs : List Value} (hown : w.ownsRow base e 7 v n xs) {ad : Addr} {m cap : Nat} {news : List Value} (hl : news.length = m * 7) (hc : ∀ j u, news[j]? = some u → w.cell? (ad.add j) = some u) (h1 : ∀ u ∈ news, u.oneCell' = true)
  (hm : 0 < m) (hlen : n + m ≤ 1000000) {v' : Value} {w' : World}
  (hrun : (Builtin.append_ #[t, t] ty #[v, .slice (some ad) m cap]).run P w = .ok v' w') : v'.ownBlock = v.ownBlock ∨ v'.ownBlock = some w.heap.size := by
 obtain ⟨i0, hi, hz0, hz1, hz2⟩ := info_parts hinfo
 rcases hown.2 with ⟨rfl, h0⟩ | ⟨g, cp, cur, rfl, hbg, hg, hnc, hcm, hcs, htake⟩
 ·rw [run_append_nil (P := P) w t ty e i0 (.agg zs) ht hi hz0 ad m cap news (by rw [hz1]; exact hl) hc hm (by omega) (by rw [hz2]; omega)] at hrun
  simp only [Result.ok.injEq] at hrun
  right; rw [← hrun.1]; rfl
 ·by_cases hroom : n + m ≤ cp
  ·rw [run_append_room (P := P) w t ty e i0 ht hi g n cp cur hg ad m cap news (by rw [hz1]; exact hl) hc h1 hroom (by rw [hz1, hcs, hl]; omega)] at hrun
   simp only [Result.ok.injEq] at hrun
   left; rw [← hrun.1]; rfl
  ·have holds : ∀ j u, xs[j]? = some u → w.cell? ((⟨g, 0, none⟩ : Addr).add j) = some u := World.ownsRow.cells hown (g := g) rfl
   rw [run_append_grow (P := P) w t ty e i0 (.agg zs) ht hi hz0 ⟨g, 0, none⟩ n cp xs (by rw [hz1]; exact hown.1) holds ad m cap news (by rw [hz1]; exact hl) hc (by omega) (by omega) (growslice_fits (by omega) (by rw [hz2]; omega))] at hrun
   simp only [Result.ok.injEq] at hrun
   right; rw [← hrun.1]; rfl

/-- 'append(s, r)' of one record whose cells lie in block g. -/
theorem run_append_rec {t ty e : TypeId} (ht : P.underlying t = some (.slice e)) {zs : Array Value} (hinfo : (P.info? e).map (fun i => (i.zero, i.size, i.bytes)) = some (some (.agg zs), 7, 120)) (hzs : zs.size = 7)
  {base : Nat} {v : Value} {n : Nat} {xs : List Value} (hown : w.ownsRow base e 7 v n xs) {g : Nat} {cs : List Value} (hg : w.heap[g]? = some (.cells cs.toArray e)) (hcl : cs.length = 7) (h1 : ∀ u ∈ cs, u.oneCell' = true) (hlen : n ≤ 1000) (hbase : base ≤ w.heap.size) :
  ∃ v' w', (Builtin.append_ #[t, t] ty #[v, .slice (some ⟨g, 0, none⟩) 1 1]).run P w = .ok v' w' ∧ w'.ownsRow base e 7 v' (n + 1) (xs ++ cs) ∧ w.grownBy w' v.ownBlock ∧ (v'.ownBlock = v.ownBlock ∨ v'.ownBlock = some w.heap.size) := by
 obtain ⟨i0, hi, hz0, hz1, hz2⟩ := info_parts hinfo
 have hc : ∀ j u, cs[j]? = some u → w.cell? ((⟨g, 0, none⟩ : Addr).add j) = some u := fun j u hj => by
  rw [Addr.add_lit, Nat.zero_add, block_cell hg]
  simpa using hj
 obtain ⟨v', w', h2, h3, h4, _⟩ := run_append_own (P := P) w base t ty e i0 (.agg zs) 7 120 ht hi hz0 hz1 hz2 hzs (by decide) v n xs hown ⟨g, 0, none⟩ 1 1 cs (by rw [hcl]) hc h1 (by unfold maxLen; omega) (by omega) hbase
 exact ⟨v', w', h2, h3, h4, where_recs ht hinfo hzs hown (by rw [hcl]) hc h1 (by decide) (by omega) h2⟩

/-- The same as a step of a region whose order is open. -/
theorem step_append_rec {ops : Array Oper} {o : Oper} {a : Act} {K : Act → World → Prop} {Q : Exit → Act → World → Prop} {E : Prop} (hgd : o.guard = none) (s x : Operand) (t e : TypeId)
  (ho : o.op = .call { callee := .builtin .append, args := #[s, x], argTypes := #[t, t] }) (ht : P.underlying t = some (.slice e)) (zs : Array Value)
  (hinfo : (P.info? e).map (fun i => (i.zero, i.size, i.bytes)) = some (some (.agg zs), 7, 120)) (hzs : zs.size = 7)
  (base : Nat) (v : Value) (n : Nat) (hs : a.eval s = v) (g : Nat) (cs : List Value) (hx : a.eval x = .slice (some ⟨g, 0, none⟩) 1 1) (hown : ∃ xs, w.ownsRow base e 7 v n xs)
  (hg : w.heap[g]? = some (.cells cs.toArray e)) (hcl : cs.length = 7) (h1 : ∀ u ∈ cs, u.oneCell' = true) (hlen : n ≤ 1000) (hbase : base ≤ w.heap.size)
  (h : ∀ v' w', (∀ xs, w.ownsRow base e 7 v n xs → w'.ownsRow base e 7 v' (n + 1) (xs ++ cs)) → w.grownBy w' v.ownBlock → (v'.ownBlock = v.ownBlock ∨ v'.ownBlock = some w.heap.size) → K (a.put o.dst v') w') : if Region.wanted o (yielded ops a.tmps) = true then Oper.wp P o a w K Q else E := by
 have hw : Region.wanted o (yielded ops a.tmps) = true := by simp [Region.wanted, hgd]
 rw [if_pos hw]
 obtain ⟨xs0, hx0⟩ := hown
 obtain ⟨v', w', hr', h2, h3, h4⟩ := run_append_rec (P := P) (ty := o.type) ht hinfo hzs hx0 hg hcl h1 hlen hbase
 have hall : ∀ xs, w.ownsRow base e 7 v n xs → w'.ownsRow base e 7 v' (n + 1) (xs ++ cs) := fun xs hxs => by
  obtain ⟨v2, w2, hr2, h22, _, _⟩ := run_append_rec (P := P) (ty := o.type) ht hinfo hzs hxs hg hcl h1 hlen hbase
  rw [hr'] at hr2
  simp only [Result.ok.injEq] at hr2
  rw [hr2.1, hr2.2]
  exact h22
 unfold Oper.wp execOp
 simp only [ho, resolve, invoke, builtin, Sem.run_bind, Sem.run_pure, Result.andThen_ok, List.map_toArray, List.map_cons, List.map_nil, hs, hx, hr']
 exact h v' w' hall h3 h4
/-- The same where no order is drawn. -/
theorem append_rec' {ops : Array Oper} {rest : List Oper} {o : Oper} {a : Act} {Q : Exit → Act → World → Prop} (hgd : o.guard = none) (s x : Operand) (t e : TypeId)
  (ho : o.op = .call { callee := .builtin .append, args := #[s, x], argTypes := #[t, t] }) (ht : P.underlying t = some (.slice e)) (zs : Array Value)
  (hinfo : (P.info? e).map (fun i => (i.zero, i.size, i.bytes)) = some (some (.agg zs), 7, 120)) (hzs : zs.size = 7)
  (base : Nat) (v : Value) (n : Nat) (hs : a.eval s = v) (g : Nat) (cs : List Value) (hx : a.eval x = .slice (some ⟨g, 0, none⟩) 1 1) (hown : ∃ xs, w.ownsRow base e 7 v n xs)
  (hg : w.heap[g]? = some (.cells cs.toArray e)) (hcl : cs.length = 7) (h1 : ∀ u ∈ cs, u.oneCell' = true) (hlen : n ≤ 1000) (hbase : base ≤ w.heap.size)
  (h : ∀ v' w', (∀ xs, w.ownsRow base e 7 v n xs → w'.ownsRow base e 7 v' (n + 1) (xs ++ cs)) → w.grownBy w' v.ownBlock → (v'.ownBlock = v.ownBlock ∨ v'.ownBlock = some w.heap.size) → wpList P ops Q rest (a.put o.dst v') w') : wpList P ops Q (o :: rest) a w := by
 refine wpList_plain hgd fun _ hK => ?_
 obtain ⟨xs0, hx0⟩ := hown
 obtain ⟨v', w', hr', h2, h3, h4⟩ := run_append_rec (P := P) (ty := o.type) ht hinfo hzs hx0 hg hcl h1 hlen hbase
 have hall : ∀ xs, w.ownsRow base e 7 v n xs → w'.ownsRow base e 7 v' (n + 1) (xs ++ cs) := fun xs hxs => by
  obtain ⟨v2, w2, hr2, h22, _, _⟩ := run_append_rec (P := P) (ty := o.type) ht hinfo hzs hxs hg hcl h1 hlen hbase
  rw [hr'] at hr2
  simp only [Result.ok.injEq] at hr2
  rw [hr2.1, hr2.2]
  exact h22
 unfold Oper.wp execOp
 simp only [ho, resolve, invoke, builtin, Sem.run_bind, Sem.run_pure, Result.andThen_ok, List.map_toArray, List.map_cons, List.map_nil, hs, hx, hr']
 exact hK _ _ (h v' w' hall h3 h4)
end
end Go.Proofs.YtfgcmjpkgdjcfaaGreat
