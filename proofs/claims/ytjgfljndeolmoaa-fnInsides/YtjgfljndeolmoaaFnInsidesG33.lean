/-
  Contract of the program's copyRr: a record of its own with the same fields, each list in a stretch of blocks of its own. Plain facts: one operation by what its run comes to; a block whose cells are stored whole. No program is named here. Plain facts: append([]int{}, x...) where no order is drawn. No program is named here. Plain facts: three results of a function. No program is named here.
-/
import Derived.Test.YtjgfljndeolmoaaFnInsidesG32
import Derived.Test.YtjgfljndeolmoaaFnInsidesG05
import Derived.Test.YtjgfljndeolmoaaFnInsidesG25
import Derived.Test.YtjgfljndeolmoaaFnInsidesG03
import Derived.Deep.MidRow
import Derived.Test.YtjgfljndeolmoaaFnInsidesG00
namespace Go.Proofs.Ytjgfljndeolmoaa
open Go.RowKit
set_option linter.unusedVariables false

theorem info_intC : (Try.prog.info? 3).map (fun i => (i.zero, i.size, i.bytes)) = some (some (.int .i64 0), 1, 8) := by kernel_rfl
/-- 'append([]int(nil), x...)' where no order is drawn. -/
theorem append_nums {P : Program} {w : World} {ops : Array Oper} {rest : List Oper} {o : Oper} {a : Act} {Q : Exit → Act → World → Prop} (hgd : o.guard = none) (s x : Operand) (t e : TypeId)
  (ho : o.op = .call { callee := .builtin .append, args := #[s, x], argTypes := #[t, t] }) (ht : P.underlying t = some (.slice e))
  (hinfo : (P.info? e).map (fun i => (i.zero, i.size, i.bytes)) = some (some (.int .i64 0), 1, 8))
  (vx : Value) (l : List Int) (hs : a.eval s = .slice none 0 0) (hx : a.eval x = vx) (hr : HasI w vx l) (hlen : l.length ≤ 1099511627776)
  (h : ∀ v' w', OwnI w.heap.size e w' v' l → Below w.heap.size w w' → wpList P ops Q rest (a.put o.dst v') w') : wpList P ops Q (o :: rest) a w := by
 obtain ⟨i0, hi, hz0, hz1, hz2⟩ := info_parts hinfo
 have hown := World.ownsRow_nil w w.heap.size e 1
 rcases hr.readsV with ⟨rfl, h0⟩ | ⟨ad, cap, hv, hc⟩
 ·obtain rfl : l = [] := by simpa using h0
  refine wpList_append_own_none hgd s x t ho w.heap.size e i0 1 ht hi _ 0 [] hs hown hx ?_
  exact h _ w hown (Below.refl _ _)
 ·subst hv
  rw [List.length_map] at hx
  refine wpList_append_own w hgd s x t ho w.heap.size e i0 (.int .i64 0) 1 8 ht hi hz0 hz1 hz2 rfl (by decide) _ 0 [] hs hown ad l.length cap (l.map (Value.int .i64)) hx (by simp) hc (one_ofI l) (by unfold maxLen; omega) (by omega) (Nat.le_refl _) ?_
  intro v' w' ho' hg _
  exact h v' w' (by simpa [OwnI] using ho') (below_of_grown hg)

set_option maxHeartbeats 4000000 in
set_option maxRecDepth 100000 in
theorem copyRr_own {vn vt vx vi : Value} {r : Rec} {w : World} (h : HasR w vn vt vx vi r) (hs : ShortR r) :
  Calls Try.prog 47 #[.agg #[vn, .int .i64 r.type, .int .i64 r.ttl, .int .i64 r.addr, vt, vx, vi]] w fun e w' => ∃ un ut ux ui, e = .returned (.agg #[un, .int .i64 r.type, .int .i64 r.ttl, .int .i64 r.addr, ut, ux, ui]) ∧
   OwnR w.heap.size w'.heap.size 22 5 3 w' un ut ux ui r ∧ Below w.heap.size w w' := by
 obtain ⟨⟨n1, n2⟩, ⟨t1, t2⟩, hx, hi⟩ := hs
 obtain ⟨na, nc, rfl, _⟩ := h.name.form
 obtain ⟨ta, tc, rfl, _⟩ := h.to.form
 obtain ⟨xa, xc, rfl, _⟩ := h.text.form
 obtain ⟨ia, ic, rfl, _⟩ := h.nums.form
 obtain ⟨hsz, k0, r0⟩ := box2 w (.cells #[.slice na r.name.length nc, .int .i64 r.type, .int .i64 r.ttl, .int .i64 r.addr, .slice ta r.to.length tc, .slice xa r.text.length xc, .slice ia r.nums.length ic] 34) #[.slice none 0 0, .int .i64 0, .int .i64 0, .int .i64 0, .slice none 0 0, .slice none 0 0, .slice none 0 0] 34
 have b0 := below2 w (.cells #[.slice na r.name.length nc, .int .i64 r.type, .int .i64 r.ttl, .int .i64 r.addr, .slice ta r.to.length tc, .slice xa r.text.length xc, .slice ia r.nums.length ic] 34) (.cells #[.slice none 0 0, .int .i64 0, .int .i64 0, .int .i64 0, .slice none 0 0, .slice none 0 0, .slice none 0 0] 34)
 have h0 := h.below b0
 have HN := hide (fun (w : World) (hh : HasL w (.slice na r.name.length nc) r.name) => copyName_has hh n1 n2)
 have HT := hide (fun (w : World) (hh : HasL w (.slice ta r.to.length tc) r.to) => copyName_has hh t1 t2)
 have zz := block_lt r0
 have KB := hide k0
 have KR := hide r0
 have F1 := hide h0.name
 have F2 := hide h0.to
 have HX := hide h.text
 have HI := hide h.nums
 clear hsz k0 r0 h h0 n1 n2 t1 t2
 go_enter Try.func47, Try.ntmps47
 go_wp2_with fail
 generalize (w.alloc (.cells #[.slice na r.name.length nc, .int .i64 r.type, .int .i64 r.ttl, .int .i64 r.addr, .slice ta r.to.length tc, .slice xa r.text.length xc, .slice ia r.nums.length ic] 34)).alloc (.cells #[.slice none 0 0, .int .i64 0, .int .i64 0, .int .i64 0, .slice none 0 0, .slice none 0 0, .slice none 0 0] 34) = W at *
 have bd := below_drew (w := W)
 have bb := below_next b0 bd
 replace KB := hide (block_kept bd (unhide KB))
 replace KR := hide (block_kept bd (unhide KR))
 replace F1 := hide ((unhide F1).below bd)
 replace F2 := hide ((unhide F2).below bd)
 have z0 := bd.size
 clear bd b0
 have cz := cells7 (unhide KB)
 have c0 := cz.1
 have c4 := cz.2.2.2.2.1
 clear cz
 go_region_law (first
  | (go_simp; go_at_call_of 90 (Value.slice na r.name.length nc); refine (unhide HN _ (unhide F1)).mono ?_; rintro e w1 ⟨v1, rfl, o1, b1⟩; obtain ⟨p1, q1, rfl, _⟩ := o1.hasL.form; have N1 := hide o1.here; have KB1 := hide (block_kept b1 (unhide KB)); have KR1 := hide (block_kept b1 (unhide KR)); have F21 := hide ((unhide F2).below b1); have bb1 := below_next bb b1; have z1 := b1.size; have cz := cells7 (unhide KB1); have c41 := cz.2.2.2.2.1; clear cz b1 o1)
  | (go_simp; go_at_call_of 90 (Value.slice ta r.to.length tc); refine (unhide HT _ (unhide F21)).mono ?_; rintro e w2 ⟨v2, rfl, o2, b2⟩; obtain ⟨p2, q2, rfl, _⟩ := o2.hasL.form; have N2 := hide o2.here; have N12 := hide ((unhide N1).below b2); have KB2 := hide (block_kept b2 (unhide KB1)); have KR2 := hide (block_kept b2 (unhide KR1)); have bb2 := below_next bb1 b2; have z2 := b2.size; obtain ⟨d0, d1, d2, d3, d4, d5, d6⟩ := cells7 (unhide KB2); obtain ⟨f0, f1, f2, f3, f4, f5, f6⟩ := frozen7 (unhide KB2); clear b2 o2))
 all_goals
  clear d0 d1 d2 d3 d4 d5 d6 f0 f1 f2 f3 f4 f5 f6 c0 c4 c41
  have KB3 : Hid (((w2.setCell ⟨w.heap.size, 0, none⟩ (.slice p1 r.name.length q1)).setCell ⟨w.heap.size, 4, none⟩ (.slice p2 r.to.length q2)).heap[w.heap.size]? = some (.cells #[.slice p1 r.name.length q1, .int .i64 r.type, .int .i64 r.ttl, .int .i64 r.addr, .slice p2 r.to.length q2, .slice xa r.text.length xc, .slice ia r.nums.length ic] 34)) := block_setAt (block_setAt (unhide KB2) 0 _) 4 _
  have u3 := (outside_set w2 w.heap.size 0 (.slice p1 r.name.length q1)).trans (outside_set _ w.heap.size 4 (.slice p2 r.to.length q2))
  generalize (w2.setCell ⟨w.heap.size, 0, none⟩ (.slice p1 r.name.length q1)).setCell ⟨w.heap.size, 4, none⟩ (.slice p2 r.to.length q2) = w3 at *
  have M1 := hide ((unhide N12).outside u3 (.inr (by omega)))
  have M2 := hide ((unhide N2).outside u3 (.inr (by omega)))
  have KR3 := hide (u3.kept (unhide KR2) (by omega))
  have bb3 := u3.below bb2 (Nat.le_refl _)
  have z3 := u3.size
  have HC := hide (copyBytes_reads ((unhide HX).below bb3).reads (by omega))
  obtain ⟨d0, d1, d2, d3, d4, d5, d6⟩ := cells7 (unhide KB3)
  clear N1 N12 N2 u3 bb bb1 bb2 KB KB1 KB2 KR KR1 KR2 HN HT F1 F2 F21
  go_wp2_with fail
  clear d0 d1 d2 d3 d4 d5 d6
  refine (unhide HC).mono ?_
  rintro e w4 ⟨v4, rfl, o4, b4⟩
  obtain ⟨p3, q3, rfl, _⟩ := o4.lies
  replace M1 := hide ((unhide M1).below b4)
  replace M2 := hide ((unhide M2).below b4)
  have KR4 := hide (block_kept b4 (unhide KR3))
  have k4 := block_kept b4 (unhide KB3)
  have bb4 := below_next bb3 b4
  have z4 := b4.size
  have X4 := hide o4.here
  have u5 := outside_set w4 w.heap.size 5 (.slice p3 r.text.length q3)
  have KB5 : Hid ((w4.setCell ⟨w.heap.size, 5, none⟩ (.slice p3 r.text.length q3)).heap[w.heap.size]? = some (.cells #[.slice p1 r.name.length q1, .int .i64 r.type, .int .i64 r.ttl, .int .i64 r.addr, .slice p2 r.to.length q2, .slice p3 r.text.length q3, .slice ia r.nums.length ic] 34)) := block_setAt k4 5 _
  have bb5 := u5.below bb4 (Nat.le_refl _)
  have HI5 := hide ((unhide HI).below bb5)
  replace M1 := hide ((unhide M1).outside u5 (.inr (by omega)))
  replace M2 := hide ((unhide M2).outside u5 (.inr (by omega)))
  replace X4 := hide ((unhide X4).outside u5 (.inr (by omega)))
  have KR5 := hide (u5.kept (unhide KR4) (by omega))
  have z5 := u5.size
  obtain ⟨d0, d1, d2, d3, d4, d5, d6⟩ := cells7 k4
  obtain ⟨f0, f1, f2, f3, f4, f5, f6⟩ := frozen7 k4
  clear KB3 KR3 KR4 bb3 bb4 o4 b4 HC u5 k4
  go_wp2_with (at_builtin; refine append_nums rfl _ _ 32 3 rfl Try.underlying32 info_intC _ r.nums rfl rfl (unhide HI5) (by omega) ?_)
  intro v6 w6 o6 b6
  have e5 : (w4.setCell ⟨w.heap.size, 5, none⟩ (.slice p3 r.text.length q3)).heap.size = w4.heap.size := by simp [World.setCell]
  replace b6 : Below (w4.setCell ⟨w.heap.size, 5, none⟩ (.slice p3 r.text.length q3)).heap.size (w4.setCell ⟨w.heap.size, 5, none⟩ (.slice p3 r.text.length q3)) w6 := by rw [e5]; exact b6
  replace o6 : OwnI (w4.setCell ⟨w.heap.size, 5, none⟩ (.slice p3 r.text.length q3)).heap.size 3 w6 v6 r.nums := by rw [e5]; exact o6
  clear e5
  clear d0 d1 d2 d3 d4 d5 d6 f0 f1 f2 f3 f4 f5 f6
  generalize w4.setCell ⟨w.heap.size, 5, none⟩ (.slice p3 r.text.length q3) = w5 at *
  obtain ⟨p4, q4, rfl, _⟩ := o6.lies
  replace M1 := hide ((unhide M1).below b6)
  replace M2 := hide ((unhide M2).below b6)
  replace X4 := hide ((unhide X4).below b6)
  have Y6 := hide o6.here
  have k6 := block_kept b6 (unhide KB5)
  have r6 := block_kept b6 (unhide KR5)
  have bb6 := below_next bb5 b6
  have z6 := b6.size
  have u7 := outside_set w6 w.heap.size 6 (.slice p4 r.nums.length q4)
  have R7 := hide (u7.kept r6 (by omega))
  replace M1 := hide ((unhide M1).outside u7 (.inr (by omega)))
  replace M2 := hide ((unhide M2).outside u7 (.inr (by omega)))
  replace X4 := hide ((unhide X4).outside u7 (.inr (by omega)))
  replace Y6 := hide ((unhide Y6).outside u7 (.inr (by omega)))
  have bb7 := u7.below bb6 (Nat.le_refl _)
  have z7 := u7.size
  obtain ⟨d0, d1, d2, d3, d4, d5, d6⟩ := cells7 k6
  obtain ⟨f0, f1, f2, f3, f4, f5, f6⟩ := frozen7 k6
  obtain ⟨g0, g1, g2, g3, g4, g5, g6⟩ := cells7 r6
  obtain ⟨y0, y1, y2, y3, y4, y5, y6⟩ := frozen7 r6
  clear KB5 KR5 bb5 bb6 o6 b6 HI5 u7 k6 r6 HX HI
  go_wp2_with fail
  clear d0 d1 d2 d3 d4 d5 d6 f0 f1 f2 f3 f4 f5 f6 g0 g1 g2 g3 g4 g5 g6 y0 y1 y2 y3 y4 y5 y6
  generalize w6.setCell ⟨w.heap.size, 6, none⟩ (.slice p4 r.nums.length q4) = w7 at *
  obtain ⟨R8, u8⟩ := set7 (c0 := .slice p1 r.name.length q1) (c1 := .int .i64 r.type) (c2 := .int .i64 r.ttl) (c3 := .int .i64 r.addr) (c4 := .slice p2 r.to.length q2) (c5 := .slice p3 r.text.length q3) (c6 := .slice p4 r.nums.length q4) (unhide R7)
  have z8 := u8.size
  refine bodyPost_ret (results_cell_row rfl _ _ (w.heap.size + 1) 34 #[.slice p1 r.name.length q1, .int .i64 r.type, .int .i64 r.ttl, .int .i64 r.addr, .slice p2 r.to.length q2, .slice p3 r.text.length q3, .slice p4 r.nums.length q4] (0, 0) _ rfl R8 Try.underlying34 rfl (by kernel_rfl)) rfl ?_
  exact ⟨_, _, _, _, rfl, ⟨w1.heap.size, w2.heap.size, w4.heap.size, by omega, by omega, by omega, by omega, ((unhide M1).outside u8 (.inr (by omega))).wide (by omega) (by omega), ((unhide M2).outside u8 (.inr (by omega))).wide (by omega) (by omega), ((unhide X4).outside u8 (.inr (by omega))).wide (by omega) (by omega), ((unhide Y6).outside u8 (.inr (by omega))).wide (by omega) (by omega)⟩, u8.below bb7 (by omega)⟩
end Go.Proofs.Ytjgfljndeolmoaa

namespace Go.Proofs.Ytjgfljndeolmoaa
open Go.RowKit
set_option linter.unusedVariables false

theorem list_run {P : Program} {w w' : World} {ops : Array Oper} {rest : List Oper} {o : Oper} {a : Act} {Q : Exit → Act → World → Prop} {v : Value} (hgd : o.guard = none)
  (hrun : (execOp a.eval o).run P w = .ok (.value v) w') (h : wpList P ops Q rest (a.put o.dst v) w') : wpList P ops Q (o :: rest) a w := by
 refine wpList_plain hgd fun K' hK' => ?_
 unfold Oper.wp
 rw [hrun]
 exact hK' _ _ h
end Go.Proofs.Ytjgfljndeolmoaa

namespace Go.Proofs.Ytjgfljndeolmoaa
open Go.RowKit
set_option linter.unusedVariables false

theorem append_freshI {P : Program} {w : World} {ops : Array Oper} {rest : List Oper} {o : Oper} {a : Act} {Q : Exit → Act → World → Prop} (hgd : o.guard = none) (s x : Operand) (t e : TypeId)
  (ho : o.op = .call { callee := .builtin .append, args := #[s, x], argTypes := #[t, t] }) (ht : P.underlying t = some (.slice e))
  (hinfo : (P.info? e).map (fun i => (i.zero, i.size, i.bytes)) = some (some (.int .i64 0), 1, 8)) (B p : Nat) (hB : B ≤ p) (hp : w.heap[p]? = some (.cells #[] e))
  (vx : Value) (l : List Int) (hs : a.eval s = .slice (some ⟨p, 0, none⟩) 0 0) (hx : a.eval x = vx) (hr : HasI w vx l) (hlen : l.length ≤ 1099511627776)
  (h : ∀ v' w', OwnI B e w' v' l → Below w.heap.size w w' → wpList P ops Q rest (a.put o.dst v') w') : wpList P ops Q (o :: rest) a w := by
 obtain ⟨v', w', hr', h2, h3⟩ := run_append_fresh (P := P) t o.type e (.int .i64 0) 8 ht hinfo (by decide) (by decide) B p hB hp vx (l.map (Value.int .i64)) hr.readsV (one_ofI l) (by rw [List.length_map]; exact hlen)
 rw [List.length_map] at h2
 refine list_run hgd (v := v') (w' := w') ?_ (h v' w' h2 h3)
 unfold execOp
 simp only [ho, resolve, invoke, builtin, Sem.run_bind, Sem.run_pure, Result.andThen_ok, List.map_toArray, List.map_cons, List.map_nil, hs, hx, hr']
end Go.Proofs.Ytjgfljndeolmoaa

namespace Go.Proofs.Ytjgfljndeolmoaa
open Go.RowKit

end Go.Proofs.Ytjgfljndeolmoaa
