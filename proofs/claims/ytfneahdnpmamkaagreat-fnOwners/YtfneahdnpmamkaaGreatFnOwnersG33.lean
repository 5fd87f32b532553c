/-
  Contracts of the program's copyName: a name of its own with the same labels. Contract of the program's copyRr: a record of its own with the same fields, each list in a stretch of blocks of its own. slices.Values of the library at rows of records, as what a loop ranges over. Plain facts: a region whose order is open, inside a round of a range over a function, by the laws for one outside. Plain facts: how far the marks of a row of records go. Facts on zones that are owned; how far the marks of a zone go.
-/
import Derived.Test.YtfneahdnpmamkaaGreatFnOwnersG32
import Derived.RangeFuncBound
import Derived.RangeFuncCalls
import Derived.RangeFuncLeaves
import Derived.Shelf.Abstract
import Derived.Shelf.RegionOpen
import Derived.TacticsInMore
import Derived.LoopNIn
import Derived.LoopIn
import Derived.OrdersIn
import Derived.TacticsIn
namespace Go.Proofs.YtfneahdnpmamkaaGreat
open Go.RowKit
set_option linter.unusedVariables false

theorem Z9 : (Tryz.prog.info? 22).map (fun i => (i.zero, i.size, i.bytes)) = some (some (.slice none 0 0), 1, 24) := by kernel_rfl

set_option maxHeartbeats 2000000 in
set_option maxRecDepth 100000 in
theorem Hd {v : Value} {n : List (List Int)} {w : World} (h : HasL w v n) (hs : n.length ≤ 6) (hs2 : ∀ k, k < n.length → (n.getD k []).length ≤ 15) :
  Calls Tryz.prog 77 #[.agg #[v]] w fun e w' => ∃ v', e = .returned (.agg #[v']) ∧ OwnL w.heap.size 22 5 w' v' n ∧ Below w.heap.size w w' := by
 obtain ⟨a, cap, rfl, hcl, hcm⟩ := h.form
 unfold maxLen at hcm
 obtain ⟨hsz, h1, h2⟩ := box3 w (.cells #[.slice a n.length cap] 25) #[.slice none 0 0] #[.slice none 0 0] 25 25
 have bb : Below w.heap.size w (((w.alloc (.cells #[.slice a n.length cap] 25)).alloc (.cells #[.slice none 0 0] 25)).alloc (.cells #[.slice none 0 0] 25)) :=
  ((UI _).alloc (UI _).size _).alloc ((UI _).alloc (UI _).size _).size _
 have H := UC h
 clear h
 have HS2 := UC hs2
 clear hs2
 generalize hn : n.length = m at *
 have HN := UC hn
 clear hn
 go_enter Tryz.func77, Tryz.ntmps77
 go_wp2
 generalize ((w.alloc (.cells #[.slice a m cap] 25)).alloc (.cells #[.slice none 0 0] 25)).alloc (.cells #[.slice none 0 0] 25) = W at *
 go_loopw [9] (fun i wr => ∃ (k : Nat) (o : Value), k ≤ m ∧ i = .int .i64 k ∧ wr.heap[w.heap.size + 1]? = some (.cells #[.slice none 0 0] 25) ∧ wr.heap[w.heap.size + 1 + 1]? = some (.cells #[o] 25) ∧ OwnL (w.heap.size + 3) 22 5 wr o (n.take k) ∧ Below w.heap.size w wr) (fun i _ => m - (intOf i).toNat)
 case atStart => exact ⟨0, .slice none 0 0, Nat.zero_le _, rfl, h1, h2, ⟨[], by simpa using World.ownsRow_nil _ _ _ _, by simp, by simp⟩, bb⟩
 case round =>
  obtain ⟨k, o, hk, rfl, hr1, hr2, ho, hb⟩ := hrel
  by_cases hlt : k < m
  ·obtain ⟨b, off, u, rfl, hbl, hc, hu⟩ := ((UB H).below hb).here (k := k) (by rw [UB HN]; exact hlt)
   have hlk := UB HS2 k hlt
   have htk := UC (show n.take (k + 1) = n.take k ++ [n.getD k []] by rw [List.take_succ_eq_append_getElem (by rw [UB HN]; exact hlt)]; simp [show k < n.length by rw [UB HN]; exact hlt])
   have htl : (n.take k).length = k := by rw [List.length_take, UB HN]; omega
   generalize n.getD k [] = lab at *
   generalize n.take k = nk at *
   subst htl
   have HU := UC hu
   obtain ⟨ua, uc, rfl, _⟩ := hu.form
   clear hu
   obtain ⟨oa, oc, rfl, _⟩ := ho.hasL.form
   have hod := ho.below (UX (w := wr))
   clear ho
   have HO := UC hod
   obtain ⟨vs, hvs, hva, hvd⟩ := hod
   have hvl : vs.length = nk.length := by have := hvs.1; simpa using this
   have kd2 := UE (UX (w := wr)) hr2
   have kd1 := UE (UX (w := wr)) hr1
   have bd := UG hb (UX (w := wr))
   have cod := US kd2
   have HUd := UC ((UB HU).below UX)
   have HVS := UC hvs
   have HVA := UC hva
   have HVD := UC hvd
   have z3 := VC hr2
   have zb : w.heap.size + 3 ≤ wr.drew.heap.size := by show w.heap.size + 3 ≤ wr.heap.size; omega
   clear hva hvd hvs
   have KD2 := UC kd2
   have KD1 := UC kd1
   clear kd2 kd1
   go_wp2_with fail
   go_region_law (first
    | (refine Bj rfl (.tmp 14) (.tmp 17) 23 22 rfl Tryz.underlying23 Z9 (w.heap.size + 3) (.slice oa nk.length oc) _ vs [.slice u1a lab.length u1c] (by simp [Act.eval]) (by simp [Act.eval]) (by rw [hvl]; exact World.ownsRow.alloc (Ay (UB HVS) (UB B1)) _) (Cn w1 22 _) (by intro y hy; simp at hy; subst hy; rfl) (by rw [hvl]; simp; omega) (by have := (UB B1).size; simp; omega) ?_; intro v2 w2 o2 g2; obtain ⟨p2, k2, y2⟩ := Gh g2 o2 rfl (UB HVS) (UB HVA) (UB HVD) ((UB B1).alloc (UB B1).size _) ((UB OU).alloc _) zb (by decide) (UE (UI _) (UE (UB B1) (UB KD2))) (by decide); obtain ⟨v2a, v2c, rfl, _⟩ := p2.hasL.form; have co2 := US k2; have fo2 := VG k2 0)
    | (go_simp; go_at_call 78; refine (Dl (UB HUd).reads (by omega)).mono ?_; rintro e w1 ⟨u1, rfl, ou, b1⟩; obtain ⟨u1a, u1c, rfl, _⟩ := ou.lies; have OU := UC ou; have B1 := UC b1; have co1 := US (UE b1 (UB KD2)); have ca1 : ∀ o, (w1.alloc o).cell? ⟨w.heap.size + 1 + 1, 0, none⟩ = some (.slice oa nk.length oc) := (fun o => US (UE (UI o) (UE b1 (UB KD2)))); clear ou b1))
   all_goals
    go_wp2_with fail
    have k1 := (y2.block (w.heap.size + 1) (by omega)).trans (UB KD1)
    refine ⟨⟨nk.length + 1, _, by omega, by go_num, Dy k1 (by omega) 0 _, Av k2 _, ?_, (bd.trans (y2.mono (by omega))).setCell (by show w.heap.size ≤ w.heap.size + 1 + 1; omega) _⟩, by simp [intOf]; omega⟩
    rw [UB htk]
    simp only [List.length_append, List.length_cons, List.length_nil] at p2
    exact p2.kept (Ab _ _ _) (by show w.heap.size + 1 + 1 < _; omega)
  ·obtain rfl : k = m := by omega
   obtain ⟨oa, oc, rfl, _⟩ := ho.hasL.form
   have htk : n.take k = n := List.take_of_length_le (by rw [UB HN]; omega)
   rw [htk] at ho
   have HLK := UC (show (n.take k).length = n.length by rw [htk])
   rw [UB HLK] at hr2
   have HO := UC ho
   have c2 := US hr2
   have c1 := US hr1
   have f1 := VG hr1 0
   have M1 := UC (Av hr1 (.slice oa n.length oc))
   clear ho htk hr1 hr2 HLK
   go_wp2
   refine bodyPost_ret (results_cell_row rfl _ _ (w.heap.size + 1) 25 #[.slice oa n.length oc] (0, 0) _ rfl (UB M1) Tryz.underlying25 rfl (by kernel_rfl)) rfl ?_
   exact ⟨_, rfl, ((UB HO).kept (Ab _ _ _) (by show w.heap.size + 1 < _; omega)).mono (by omega), hb.setCell (by show w.heap.size ≤ w.heap.size + 1; omega) _⟩
theorem Wq : (Tryz.prog.info? 3).map (fun i => (i.zero, i.size, i.bytes)) = some (some (.int .i64 0), 1, 8) := by kernel_rfl
theorem S3 {P : Program} {w : World} {ops : Array Oper} {rest : List Oper} {o : Oper} {a : Act} {Q : Exit → Act → World → Prop} (hgd : o.guard = none) (s x : Operand) (t e : TypeId)
  (ho : o.op = .call { callee := .builtin .append, args := #[s, x], argTypes := #[t, t] }) (ht : P.underlying t = some (.slice e))
  (hinfo : (P.info? e).map (fun i => (i.zero, i.size, i.bytes)) = some (some (.int .i64 0), 1, 8))
  (vx : Value) (l : List Int) (hs : a.eval s = .slice none 0 0) (hx : a.eval x = vx) (hr : HasI w vx l) (hlen : l.length ≤ 1099511627776)
  (h : ∀ v' w', OwnI w.heap.size e w' v' l → Below w.heap.size w w' → wpList P ops Q rest (a.put o.dst v') w') : wpList P ops Q (o :: rest) a w := by
 obtain ⟨i0, hi, hz0, hz1, hz2⟩ := info_parts hinfo
 have hown := World.ownsRow_nil w w.heap.size e 1
 rcases hr.readsV with ⟨rfl, h0⟩ | ⟨ad, cap, hv, hc⟩
 ·obtain rfl : l = [] := by simpa using h0
  refine wpList_append_own_none hgd s x t ho w.heap.size e i0 1 ht hi _ 0 [] hs hown hx ?_
  exact h _ w hown (Below.refl _ _)
 ·subst hv
  rw [List.length_map] at hx
  refine wpList_append_own w hgd s x t ho w.heap.size e i0 (.int .i64 0) 1 8 ht hi hz0 hz1 hz2 rfl (by decide) _ 0 [] hs hown ad l.length cap (l.map (Value.int .i64)) hx (by simp) hc (Uq l) (by unfold maxLen; omega) (by omega) (Nat.le_refl _) ?_
  intro v' w' ho' hg _
  exact h v' w' (by simpa [OwnI] using ho') (Ch hg)

set_option maxHeartbeats 4000000 in
set_option maxRecDepth 100000 in
theorem I7 {vn vt vx vi : Value} {r : Rec} {w : World} (h : HasR w vn vt vx vi r) (hs : Em r) :
  Calls Tryz.prog 46 #[.agg #[vn, .int .i64 r.type, .int .i64 r.ttl, .int .i64 r.addr, vt, vx, vi]] w fun e w' => ∃ un ut ux ui, e = .returned (.agg #[un, .int .i64 r.type, .int .i64 r.ttl, .int .i64 r.addr, ut, ux, ui]) ∧
   OwnR w.heap.size w'.heap.size 22 5 3 w' un ut ux ui r ∧ Below w.heap.size w w' := by
 obtain ⟨⟨n1, n2⟩, ⟨t1, t2⟩, hx, hi⟩ := hs
 obtain ⟨na, nc, rfl, _⟩ := h.name.form
 obtain ⟨ta, tc, rfl, _⟩ := h.to.form
 obtain ⟨xa, xc, rfl, _⟩ := h.text.form
 obtain ⟨ia, ic, rfl, _⟩ := h.nums.form
 obtain ⟨hsz, k0, r0⟩ := box2 w (.cells #[.slice na r.name.length nc, .int .i64 r.type, .int .i64 r.ttl, .int .i64 r.addr, .slice ta r.to.length tc, .slice xa r.text.length xc, .slice ia r.nums.length ic] 39) #[.slice none 0 0, .int .i64 0, .int .i64 0, .int .i64 0, .slice none 0 0, .slice none 0 0, .slice none 0 0] 39
 have b0 := Bl w (.cells #[.slice na r.name.length nc, .int .i64 r.type, .int .i64 r.ttl, .int .i64 r.addr, .slice ta r.to.length tc, .slice xa r.text.length xc, .slice ia r.nums.length ic] 39) (.cells #[.slice none 0 0, .int .i64 0, .int .i64 0, .int .i64 0, .slice none 0 0, .slice none 0 0, .slice none 0 0] 39)
 have h0 := h.below b0
 have HN := UC (fun (w : World) (hh : HasL w (.slice na r.name.length nc) r.name) => Hd hh n1 n2)
 have HT := UC (fun (w : World) (hh : HasL w (.slice ta r.to.length tc) r.to) => Hd hh t1 t2)
 have zz := VC r0
 have KB := UC k0
 have KR := UC r0
 have F1 := UC h0.name
 have F2 := UC h0.to
 have HX := UC h.text
 have HI := UC h.nums
 clear hsz k0 r0 h h0 n1 n2 t1 t2
 go_enter Tryz.func46, Tryz.ntmps46
 go_wp2_with fail
 generalize (w.alloc (.cells #[.slice na r.name.length nc, .int .i64 r.type, .int .i64 r.ttl, .int .i64 r.addr, .slice ta r.to.length tc, .slice xa r.text.length xc, .slice ia r.nums.length ic] 39)).alloc (.cells #[.slice none 0 0, .int .i64 0, .int .i64 0, .int .i64 0, .slice none 0 0, .slice none 0 0, .slice none 0 0] 39) = W at *
 have bd := UX (w := W)
 have bb := UG b0 bd
 replace KB := UC (UE bd (UB KB))
 replace KR := UC (UE bd (UB KR))
 replace F1 := UC ((UB F1).below bd)
 replace F2 := UC ((UB F2).below bd)
 have z0 := bd.size
 clear bd b0
 have cz := UJ (UB KB)
 have c0 := cz.1
 have c4 := cz.2.2.2.2.1
 clear cz
 go_region_law (first
  | (go_simp; go_at_call_of 77 (Value.slice na r.name.length nc); refine (UB HN _ (UB F1)).mono ?_; rintro e w1 ⟨v1, rfl, o1, b1⟩; obtain ⟨p1, q1, rfl, _⟩ := o1.hasL.form; have N1 := UC o1.here; have KB1 := UC (UE b1 (UB KB)); have KR1 := UC (UE b1 (UB KR)); have F21 := UC ((UB F2).below b1); have bb1 := UG bb b1; have z1 := b1.size; have cz := UJ (UB KB1); have c41 := cz.2.2.2.2.1; clear cz b1 o1)
  | (go_simp; go_at_call_of 77 (Value.slice ta r.to.length tc); refine (UB HT _ (UB F21)).mono ?_; rintro e w2 ⟨v2, rfl, o2, b2⟩; obtain ⟨p2, q2, rfl, _⟩ := o2.hasL.form; have N2 := UC o2.here; have N12 := UC ((UB N1).below b2); have KB2 := UC (UE b2 (UB KB1)); have KR2 := UC (UE b2 (UB KR1)); have bb2 := UG bb1 b2; have z2 := b2.size; obtain ⟨d0, d1, d2, d3, d4, d5, d6⟩ := UJ (UB KB2); obtain ⟨f0, f1, f2, f3, f4, f5, f6⟩ := VI (UB KB2); clear b2 o2))
 all_goals
  clear d0 d1 d2 d3 d4 d5 d6 f0 f1 f2 f3 f4 f5 f6 c0 c4 c41
  have KB3 : Hid (((w2.setCell ⟨w.heap.size, 0, none⟩ (.slice p1 r.name.length q1)).setCell ⟨w.heap.size, 4, none⟩ (.slice p2 r.to.length q2)).heap[w.heap.size]? = some (.cells #[.slice p1 r.name.length q1, .int .i64 r.type, .int .i64 r.ttl, .int .i64 r.addr, .slice p2 r.to.length q2, .slice xa r.text.length xc, .slice ia r.nums.length ic] 39)) := UV (UV (UB KB2) 0 _) 4 _
  have u3 := (UT w2 w.heap.size 0 (.slice p1 r.name.length q1)).trans (UT _ w.heap.size 4 (.slice p2 r.to.length q2))
  generalize (w2.setCell ⟨w.heap.size, 0, none⟩ (.slice p1 r.name.length q1)).setCell ⟨w.heap.size, 4, none⟩ (.slice p2 r.to.length q2) = w3 at *
  have M1 := UC ((UB N12).outside u3 (.inr (by omega)))
  have M2 := UC ((UB N2).outside u3 (.inr (by omega)))
  have KR3 := UC (u3.kept (UB KR2) (by omega))
  have bb3 := u3.below bb2 (Nat.le_refl _)
  have z3 := u3.size
  have HC := UC (Dl ((UB HX).below bb3).reads (by omega))
  obtain ⟨d0, d1, d2, d3, d4, d5, d6⟩ := UJ (UB KB3)
  clear N1 N12 N2 u3 bb bb1 bb2 KB KB1 KB2 KR KR1 KR2 HN HT F1 F2 F21
  go_wp2_with fail
  clear d0 d1 d2 d3 d4 d5 d6
  refine (UB HC).mono ?_
  rintro e w4 ⟨v4, rfl, o4, b4⟩
  obtain ⟨p3, q3, rfl, _⟩ := o4.lies
  replace M1 := UC ((UB M1).below b4)
  replace M2 := UC ((UB M2).below b4)
  have KR4 := UC (UE b4 (UB KR3))
  have k4 := UE b4 (UB KB3)
  have bb4 := UG bb3 b4
  have z4 := b4.size
  have X4 := UC o4.here
  have u5 := UT w4 w.heap.size 5 (.slice p3 r.text.length q3)
  have KB5 : Hid ((w4.setCell ⟨w.heap.size, 5, none⟩ (.slice p3 r.text.length q3)).heap[w.heap.size]? = some (.cells #[.slice p1 r.name.length q1, .int .i64 r.type, .int .i64 r.ttl, .int .i64 r.addr, .slice p2 r.to.length q2, .slice p3 r.text.length q3, .slice ia r.nums.length ic] 39)) := UV k4 5 _
  have bb5 := u5.below bb4 (Nat.le_refl _)
  have HI5 := UC ((UB HI).below bb5)
  replace M1 := UC ((UB M1).outside u5 (.inr (by omega)))
  replace M2 := UC ((UB M2).outside u5 (.inr (by omega)))
  replace X4 := UC ((UB X4).outside u5 (.inr (by omega)))
  have KR5 := UC (u5.kept (UB KR4) (by omega))
  have z5 := u5.size
  obtain ⟨d0, d1, d2, d3, d4, d5, d6⟩ := UJ k4
  obtain ⟨f0, f1, f2, f3, f4, f5, f6⟩ := VI k4
  clear KB3 KR3 KR4 bb3 bb4 o4 b4 HC u5 k4
  go_wp2_with (at_builtin; refine S3 rfl _ _ 37 3 rfl Tryz.underlying37 Wq _ r.nums rfl rfl (UB HI5) (by omega) ?_)
  intro v6 w6 o6 b6
  have e5 : (w4.setCell ⟨w.heap.size, 5, none⟩ (.slice p3 r.text.length q3)).heap.size = w4.heap.size := by simp [World.setCell]
  replace b6 : Below (w4.setCell ⟨w.heap.size, 5, none⟩ (.slice p3 r.text.length q3)).heap.size (w4.setCell ⟨w.heap.size, 5, none⟩ (.slice p3 r.text.length q3)) w6 := by rw [e5]; exact b6
  replace o6 : OwnI (w4.setCell ⟨w.heap.size, 5, none⟩ (.slice p3 r.text.length q3)).heap.size 3 w6 v6 r.nums := by rw [e5]; exact o6
  clear e5
  clear d0 d1 d2 d3 d4 d5 d6 f0 f1 f2 f3 f4 f5 f6
  generalize w4.setCell ⟨w.heap.size, 5, none⟩ (.slice p3 r.text.length q3) = w5 at *
  obtain ⟨p4, q4, rfl, _⟩ := o6.lies
  replace M1 := UC ((UB M1).below b6)
  replace M2 := UC ((UB M2).below b6)
  replace X4 := UC ((UB X4).below b6)
  have Y6 := UC o6.here
  have k6 := UE b6 (UB KB5)
  have r6 := UE b6 (UB KR5)
  have bb6 := UG bb5 b6
  have z6 := b6.size
  have u7 := UT w6 w.heap.size 6 (.slice p4 r.nums.length q4)
  have R7 := UC (u7.kept r6 (by omega))
  replace M1 := UC ((UB M1).outside u7 (.inr (by omega)))
  replace M2 := UC ((UB M2).outside u7 (.inr (by omega)))
  replace X4 := UC ((UB X4).outside u7 (.inr (by omega)))
  replace Y6 := UC ((UB Y6).outside u7 (.inr (by omega)))
  have bb7 := u7.below bb6 (Nat.le_refl _)
  have z7 := u7.size
  obtain ⟨d0, d1, d2, d3, d4, d5, d6⟩ := UJ k6
  obtain ⟨f0, f1, f2, f3, f4, f5, f6⟩ := VI k6
  obtain ⟨g0, g1, g2, g3, g4, g5, g6⟩ := UJ r6
  obtain ⟨y0, y1, y2, y3, y4, y5, y6⟩ := VI r6
  clear KB5 KR5 bb5 bb6 o6 b6 HI5 u7 k6 r6 HX HI
  go_wp2_with fail
  clear d0 d1 d2 d3 d4 d5 d6 f0 f1 f2 f3 f4 f5 f6 g0 g1 g2 g3 g4 g5 g6 y0 y1 y2 y3 y4 y5 y6
  generalize w6.setCell ⟨w.heap.size, 6, none⟩ (.slice p4 r.nums.length q4) = w7 at *
  obtain ⟨R8, u8⟩ := set7 (c0 := .slice p1 r.name.length q1) (c1 := .int .i64 r.type) (c2 := .int .i64 r.ttl) (c3 := .int .i64 r.addr) (c4 := .slice p2 r.to.length q2) (c5 := .slice p3 r.text.length q3) (c6 := .slice p4 r.nums.length q4) (UB R7)
  have z8 := u8.size
  refine bodyPost_ret (results_cell_row rfl _ _ (w.heap.size + 1) 39 #[.slice p1 r.name.length q1, .int .i64 r.type, .int .i64 r.ttl, .int .i64 r.addr, .slice p2 r.to.length q2, .slice p3 r.text.length q3, .slice p4 r.nums.length q4] (0, 0) _ rfl R8 Tryz.underlying39 rfl (by kernel_rfl)) rfl ?_
  exact ⟨_, _, _, _, rfl, ⟨w1.heap.size, w2.heap.size, w4.heap.size, by omega, by omega, by omega, by omega, ((UB M1).outside u8 (.inr (by omega))).wide (by omega) (by omega), ((UB M2).outside u8 (.inr (by omega))).wide (by omega) (by omega), ((UB X4).outside u8 (.inr (by omega))).wide (by omega) (by omega), ((UB Y6).outside u8 (.inr (by omega))).wide (by omega) (by omega)⟩, u8.below bb7 (by omega)⟩
end Go.Proofs.YtfneahdnpmamkaaGreat

namespace Go.Proofs.YtfneahdnpmamkaaGreat
open Go.RowKit Go.Shelf
set_option linter.unusedVariables false

abbrev RecV (w : World) := { p : (Value × Value × Value × Value) × Rec // HasR w p.1.1 p.1.2.1 p.1.2.2.1 p.1.2.2.2 p.2 ∧ Em p.2 }
def encV {w : World} (x : RecV w) : Array Value := #[.agg #[x.1.1.1, .int .i64 x.1.2.type, .int .i64 x.1.2.ttl, .int .i64 x.1.2.addr, x.1.1.2.1, x.1.1.2.2.1, x.1.1.2.2.2]]

set_option maxHeartbeats 4000000 in
set_option maxRecDepth 100000 in
theorem Tu (n : Nat) (hn : 1 ≤ n) (l Bt n0 : Nat) (w0 : World) (a : Option Addr) (cap : Nat) (rs : List Rec) (hn0 : n0 = w0.heap.size) (hT : Cl w0 (.slice a rs.length cap) rs) (hsh : ∀ i, i < rs.length → Em (rs.getD i recZ)) (hl : rs.length ≤ 1048576)
  (J Jx : List (RecV w0) → World → Prop) (W : World) (hW : Below n0 w0 W) (hJ : AbidesFrom W.heap.size J)
  (hY : ∀ pre x W1, J pre W1 → pre.length < rs.length → YieldAt Fence.wide (n - 1) Tryz.prog l (encV x) W1 fun e W' => (e = .returned (.bool true) ∧ J (pre ++ [x]) W' ∧ Below n0 W1 W') ∨ (e = .returned (.bool false) ∧ Jx (pre ++ [x]) W'))
  (hBt : W.cell? ⟨Bt, 0, none⟩ = some (.slice a rs.length cap)) (h0 : J [] W) :
  CallsIn Fence.wide n Tryz.prog 103 #[.func (.yield l) #[] #[], .pointer (some ⟨Bt, 0, none⟩)] W fun e W' => (∃ v, e = .returned v) ∧
   ((∃ xs, xs.map (·.1.2) = rs ∧ J xs W') ∨ (∃ pre, True ∧ Jx pre W')) := by
 subst hn0
 have HT := UC hT
 have HS := UC hsh
 have HJ := UC hJ
 have HY := UC hY
 have B0 := UC hW
 have H0 := UC h0
 clear hT hsh hJ hY hW h0
 generalize hm : rs.length = m at *
 have HM := UC hm
 clear hm
 refine callsIn_of_wp Tryz.func103 rfl trivial ?_ rfl
 simp only [Tryz.ntmps103, List.size_toArray, List.length_cons, List.length_nil, Nat.reduceAdd, Nat.reduceSub, Array.replicate_succ, Array.replicate_zero, List.push_toArray, List.append_toArray, List.nil_append, List.cons_append]
 gi_wp2
 gi_loopw [7] (fun i wr => ∃ (k : Nat) (pre : List (RecV w0)), k ≤ m ∧ i = .int .i64 k ∧ pre.length = k ∧ pre.map (·.1.2) = rs.take k ∧ J pre wr ∧ Below w0.heap.size w0 wr) (fun i _ => m - (intOf i).toNat)
 case atStart => exact ⟨0, [], Nat.zero_le _, rfl, rfl, by simp, UB H0, UB B0⟩
 case round =>
  obtain ⟨k, pre, hk, rfl, hpl, hp, hj, hbl⟩ := hrel
  by_cases hlt : k < m
  ·obtain ⟨b, off, na, nc, ta, tc, xa, xc, ia, ic, rfl, hb1, hc, hR⟩ := (UB HT).here (k := k) (by rw [UB HM]; exact hlt)
   have hsk := UB HS k hlt
   have htk := UC (show rs.take (k + 1) = rs.take k ++ [rs.getD k recZ] by rw [List.take_succ_eq_append_getElem (by rw [UB HM]; exact hlt)]; simp [show k < rs.length by rw [UB HM]; exact hlt])
   obtain ⟨c0, c1, c2, c3, c4, c5, c6⟩ := VH (UW hc hb1 hbl)
   generalize rs.getD k recZ = r at *
   obtain ⟨x, hx1, hx2⟩ : ∃ x : RecV w0, encV x = #[.agg #[.slice na r.name.length nc, .int .i64 r.type, .int .i64 r.ttl, .int .i64 r.addr, .slice ta r.to.length tc, .slice xa r.text.length xc, .slice ia r.nums.length ic]] ∧ x.1.2 = r := ⟨⟨((.slice na r.name.length nc, .slice ta r.to.length tc, .slice xa r.text.length xc, .slice ia r.nums.length ic), r), hR, hsk⟩, rfl, rfl⟩
   have ba := UI (w := wr) (.cells #[.slice na r.name.length nc, .int .i64 r.type, .int .i64 r.ttl, .int .i64 r.addr, .slice ta r.to.length tc, .slice xa r.text.length xc, .slice ia r.nums.length ic] 39)
   obtain ⟨d0, d1, d2, d3, d4, d5, d6⟩ := UJ (heap_alloc_new wr (.cells #[.slice na r.name.length nc, .int .i64 r.type, .int .i64 r.ttl, .int .i64 r.addr, .slice ta r.to.length tc, .slice xa r.text.length xc, .slice ia r.nums.length ic] 39))
   obtain ⟨fn, tmps, assign, body, hy, hRd⟩ := UB HY pre x (wr.alloc (.cells #[.slice na r.name.length nc, .int .i64 r.type, .int .i64 r.ttl, .int .i64 r.addr, .slice ta r.to.length tc, .slice xa r.text.length xc, .slice ia r.nums.length ic] 39)) (UB HJ pre wr _ none hj (World.grownBy_alloc wr _ none) (fun r e => by cases e)) (by omega)
   rw [hx1] at hy
   have hb2 : Below w0.heap.size w0 (wr.alloc (.cells #[.slice na r.name.length nc, .int .i64 r.type, .int .i64 r.ttl, .int .i64 r.addr, .slice ta r.to.length tc, .slice xa r.text.length xc, .slice ia r.nums.length ic] 39)) := UG hbl ba
   have HB := UC hb2
   clear hb2 ba hc hR hsk hbl hj
   gi_wp2
   refine hRd.mono ?_
   rintro e W3 (⟨rfl, hJ3, hk3⟩ | ⟨rfl, hJx3⟩)
   ·have hb3 := (UB HB).trans hk3
    clear hy hRd hk3 HB d0 d1 d2 d3 d4 d5 d6 c0 c1 c2 c3 c4 c5 c6
    gi_wp2
    go_roundw
    case rel => exact ⟨k + 1, pre ++ [x], by omega, by go_num, by simp [hpl], by rw [UB htk, ← hp]; simp [hx2], hJ3, hb3⟩
    case measure => simp [intOf]; omega
   ·clear hy hRd HB d0 d1 d2 d3 d4 d5 d6 c0 c1 c2 c3 c4 c5 c6
    gi_wp2
    refine bodyPost_ret (results_none rfl _ _ _) rfl ?_
    exact ⟨⟨_, rfl⟩, .inr ⟨pre ++ [x], trivial, hJx3⟩⟩
  ·obtain rfl : k = m := by omega
   have hall : rs.take k = rs := List.take_of_length_le (by rw [UB HM]; exact Nat.le_refl _)
   rw [hall] at hp
   clear hall
   gi_wp2
   go_end0
   exact ⟨⟨_, rfl⟩, .inl ⟨pre, hp, hj⟩⟩
end Go.Proofs.YtfneahdnpmamkaaGreat

namespace Go.Proofs.YtfneahdnpmamkaaGreat
open Go.RowKit
set_option linter.unusedVariables false

theorem Wt {l n : Nat} {P : Program} {o : Oper} {a : Act} {w : World} {K K' : Act → World → Prop} {Q : Exit → Act → World → Prop} (hnd : ∀ c, o.op ≠ .defer c) (hk : ∀ a w, K a w → K' a w) (h : o.wp P a w K Q) :
  o.wpIn (Fence.wide.inRound l) n P a w K' Q := by
 refine ⟨fun f _ => trivial, ?_⟩
 rw [Fence.inRound_round, Oper.semAt_some l _ o hnd]
 unfold Oper.wp at h
 generalize (execOp a.eval o).run P w = r at *
 cases r with
 | ok x w' =>
  cases x with
  | value v => exact hk _ _ h
  | skip => exact hk _ _ h
  | defer d => exact hk _ _ h
  | enter f args => exact ⟨fun q => by simp [Fence.inRound, Fence.wide] at q, CallsIn.inRound l (callsIn_wide.2 (Calls.mono h (fun e w'' he => by cases e <;> first | exact hk _ _ he | exact he)))⟩
  | row row args => exact ⟨fun q => by simp [Fence.inRound, Fence.wide] at q, fun c cs _ => let ⟨v, w'', r, s⟩ := h c cs; ⟨v, w'', hk _ _ r, stepsIn_wide.2 s⟩⟩
  | _ => exact False.elim h
 | halt x w' => cases x <;> first | exact h | exact False.elim h

theorem J6 {l n : Nat} {P : Program} {md : Region.Mode} {ops : Array Oper} {Q : Exit → Act → World → Prop} (hL : ¬ LetsOut Q) (hnd : ∀ (i : Nat) (o : Oper), ops[i]? = some o → ∀ c, o.op ≠ .defer c) :
  ∀ (fuel : Nat) (listed : Array Bool) (a : Act) (w : World), wpAny P md ops Q fuel listed a w → wpAnyIn (Fence.wide.inRound l) n P md ops Q fuel listed a w
 | 0, _, _, _, h => h
 | fuel + 1, listed, a, w, h => by
  refine ⟨h.1, fun i hi => ?_⟩
  have hop := h.2 i hi
  unfold wpOp at hop
  unfold wpOpIn
  cases ho : ops[i]? with
  | none =>
   rw [ho] at hop
   exact J6 hL hnd fuel _ _ _ hop
  | some o =>
   rw [ho] at hop
   dsimp only at hop ⊢
   by_cases hw : Region.wanted o (yielded ops a.tmps) = true
   ·rw [if_pos hw] at hop ⊢
    rcases hop with hop | hop
    ·exact Wt (hnd i o ho) (fun a w q => J6 hL hnd fuel _ a w q) hop
    ·exact absurd hop.2 hL
   ·rw [if_neg hw] at hop ⊢
    exact ⟨fun f _ => trivial, J6 hL hnd fuel _ _ _ hop⟩
theorem Hg {l n : Nat} {P : Program} {id : Nat} {ops : Array Oper} {Q : Exit → Act → World → Prop} {a : Act} {w : World} (hL : ¬ LetsOut Q) (hnd : ops.all (fun o => match o.op with | .defer _ => false | _ => true) = true) (hm : P.follows .mixedOrders = true)
  (h : wpAny P .any ops Q ops.size (Array.replicate ops.size false) a w.drew) : (Code.region id ops true).wpIn (Fence.wide.inRound l) n P Q a w := by
 refine wpIn_region_any hm (J6 hL ?_ _ _ _ _ h)
 intro i o ho c hc
 have := Array.all_eq_true.1 hnd i (Array.getElem?_eq_some_iff.1 ho).1
 rw [(Array.getElem?_eq_some_iff.1 ho).2] at this
 simp [hc] at this
end Go.Proofs.YtfneahdnpmamkaaGreat

namespace Go.Proofs.YtfneahdnpmamkaaGreat
open Go.RowKit

end Go.Proofs.YtfneahdnpmamkaaGreat

namespace Go.Proofs.YtfneahdnpmamkaaGreat
open Go.RowKit
set_option linter.unusedVariables false

def OwnZ (B E : Nat) (w : World) (uo ur : Value) (o : List (List Int)) (rs : List Rec) : Prop := ∃ s, B ≤ s ∧ s ≤ E ∧ OwnN B s 22 5 w uo o ∧ RowO s E 39 22 5 3 w ur rs
theorem OwnZ.hasZ {B E : Nat} {w : World} {uo ur : Value} {o : List (List Int)} {rs : List Rec} (h : OwnZ B E w uo ur o rs) : HasZ w uo ur o rs := by
 obtain ⟨s, _, _, h1, h2⟩ := h
 exact ⟨h1.hasL, h2.has⟩
theorem OwnZ.below {B E : Nat} {w w' : World} {uo ur : Value} {o : List (List Int)} {rs : List Rec} (h : OwnZ B E w uo ur o rs) (hb : Below w.heap.size w w') : OwnZ B E w' uo ur o rs := by
 obtain ⟨s, h1, h2, h3, h4⟩ := h
 exact ⟨s, h1, h2, h3.below hb, h4.below hb⟩
theorem OwnZ.outside {B E C D : Nat} {w w' : World} {uo ur : Value} {o : List (List Int)} {rs : List Rec} (h : OwnZ B E w uo ur o rs) (u : Ap C D w w') (hd : E ≤ C ∨ D ≤ B) : OwnZ B E w' uo ur o rs := by
 obtain ⟨s, h1, h2, h3, h4⟩ := h
 exact ⟨s, h1, h2, h3.outside u (by omega), h4.outside u (by omega)⟩
end Go.Proofs.YtfneahdnpmamkaaGreat
