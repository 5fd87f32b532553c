/-
  Contracts of the program's copyName: a name of its own with the same labels. Plain facts: an append to a literal without elements turns nothing that was there. No program is named here. Contract of the program's copyRr: a record of its own with the same fields, each list in a stretch of blocks of its own. Plain facts: three results of a function. No program is named here. Contract of the program's copyAll at records.
-/
import Derived.Test.YtaehfeobfkaicaaGreatCacheGetG18
import Derived.Test.YtaehfeobfkaicaaGreatCacheGetG08
import Derived.Test.YtaehfeobfkaicaaGreatCacheGetG04
import Derived.Test.YtaehfeobfkaicaaGreatCacheGetG02
import Derived.Test.YtaehfeobfkaicaaGreatCacheGetG12
import Derived.Test.YtaehfeobfkaicaaGreatCacheGetG00
import Derived.Test.YtaehfeobfkaicaaGreatCacheGetG09
namespace Go.Proofs.YtaehfeobfkaicaaGreat
open Go.RowKit
set_option linter.unusedVariables false

theorem info_sl : (Tryz.prog.info? 56).map (fun i => (i.zero, i.size, i.bytes)) = some (some (.slice none 0 0), 1, 24) := by kernel_rfl

set_option maxHeartbeats 2000000 in
set_option maxRecDepth 100000 in
theorem copyName_has {v : Value} {n : List (List Int)} {w : World} (h : HasL w v n) (hs : n.length ≤ 6) (hs2 : ∀ k, k < n.length → (n.getD k []).length ≤ 15) :
  Calls Tryz.prog 119 #[.agg #[v]] w fun e w' => ∃ v', e = .returned (.agg #[v']) ∧ OwnL w.heap.size 56 5 w' v' n ∧ Below w.heap.size w w' := by
 obtain ⟨a, cap, rfl, hcl, hcm⟩ := h.form
 unfold maxLen at hcm
 obtain ⟨hsz, h1, h2⟩ := box3 w (.cells #[.slice a n.length cap] 46) #[.slice none 0 0] #[.slice none 0 0] 46 46
 have bb : Below w.heap.size w (((w.alloc (.cells #[.slice a n.length cap] 46)).alloc (.cells #[.slice none 0 0] 46)).alloc (.cells #[.slice none 0 0] 46)) :=
  ((UI _).alloc (UI _).size _).alloc ((UI _).alloc (UI _).size _).size _
 have H := UC h
 clear h
 have HS2 := UC hs2
 clear hs2
 generalize hn : n.length = m at *
 have HN := UC hn
 clear hn
 go_enter Tryz.func119, Tryz.ntmps119
 go_wp2
 generalize ((w.alloc (.cells #[.slice a m cap] 46)).alloc (.cells #[.slice none 0 0] 46)).alloc (.cells #[.slice none 0 0] 46) = W at *
 go_loopw [9] (fun i wr => ∃ (k : Nat) (o : Value), k ≤ m ∧ i = .int .i64 k ∧ wr.heap[w.heap.size + 1]? = some (.cells #[.slice none 0 0] 46) ∧ wr.heap[w.heap.size + 1 + 1]? = some (.cells #[o] 46) ∧ OwnL (w.heap.size + 3) 56 5 wr o (n.take k) ∧ Below w.heap.size w wr) (fun i _ => m - (intOf i).toNat)
 case atStart => exact ⟨0, .slice none 0 0, Nat.zero_le _, rfl, h1, h2, ⟨[], by simpa using World.ownsRow_nil _ _ _ _, by simp, by simp⟩, bb⟩
 case round =>
  obtain ⟨k, o, hk, rfl, hr1, hr2, ho, hb⟩ := hrel
  by_cases hlt : k < m
  ·obtain ⟨b, off, u, rfl, hbl, hc, hu⟩ := ((UB H).below hb).here (k := k) (by rw [UB HN]; exact hlt)
   have hlk := UB HS2 k hlt
   have htk := UC (show n.take (k + 1) = n.take k ++ [n.getD k []] by rw [List.take_succ_eq_append_getElem (by rw [UB HN]; exact hlt)]; simp [show k < n.length by rw [UB HN]; exact hlt])
   have htl : (n.take k).length = k := by rw [List.length_take, UB HN]; omega
   generalize n.getD k [] = lab at *
   generalize n.take k = nk at *
   subst htl
   have HU := UC hu
   obtain ⟨ua, uc, rfl, _⟩ := hu.form
   clear hu
   obtain ⟨oa, oc, rfl, _⟩ := ho.hasL.form
   have hod := ho.below (UX (w := wr))
   clear ho
   have HO := UC hod
   obtain ⟨vs, hvs, hva, hvd⟩ := hod
   have hvl : vs.length = nk.length := by have := hvs.1; simpa using this
   have kd2 := UE (UX (w := wr)) hr2
   have kd1 := UE (UX (w := wr)) hr1
   have bd := UG hb (UX (w := wr))
   have cod := US kd2
   have HUd := UC ((UB HU).below UX)
   have HVS := UC hvs
   have HVA := UC hva
   have HVD := UC hvd
   have z3 := VC hr2
   have zb : w.heap.size + 3 ≤ wr.drew.heap.size := by show w.heap.size + 3 ≤ wr.heap.size; omega
   clear hva hvd hvs
   have KD2 := UC kd2
   have KD1 := UC kd1
   clear kd2 kd1
   go_wp2_with fail
   go_region_law (first
    | (refine step_append_row rfl (.tmp 14) (.tmp 17) 41 56 rfl Tryz.underlying41 info_sl (w.heap.size + 3) (.slice oa nk.length oc) _ vs [.slice u1a lab.length u1c] (by simp [Act.eval]) (by simp [Act.eval]) (by rw [hvl]; exact World.ownsRow.alloc (ownsRow_kept' (UB HVS) (UB B1)) _) (one_more w1 56 _) (by intro y hy; simp at hy; subst hy; rfl) (by rw [hvl]; simp; omega) (by have := (UB B1).size; simp; omega) ?_; intro v2 w2 o2 g2; obtain ⟨p2, k2, y2⟩ := snoc_step g2 o2 rfl (UB HVS) (UB HVA) (UB HVD) ((UB B1).alloc (UB B1).size _) ((UB OU).alloc _) zb (by decide) (UE (UI _) (UE (UB B1) (UB KD2))) (by decide); obtain ⟨v2a, v2c, rfl, _⟩ := p2.hasL.form; have co2 := US k2; have fo2 := VG k2 0)
    | (go_simp; go_at_call 118; refine (copyBytes_reads (UB HUd).reads (by omega)).mono ?_; rintro e w1 ⟨u1, rfl, ou, b1⟩; obtain ⟨u1a, u1c, rfl, _⟩ := ou.lies; have OU := UC ou; have B1 := UC b1; have co1 := US (UE b1 (UB KD2)); have ca1 : ∀ o, (w1.alloc o).cell? ⟨w.heap.size + 1 + 1, 0, none⟩ = some (.slice oa nk.length oc) := (fun o => US (UE (UI o) (UE b1 (UB KD2)))); clear ou b1))
   all_goals
    go_wp2_with fail
    have k1 := (y2.block (w.heap.size + 1) (by omega)).trans (UB KD1)
    refine ⟨⟨nk.length + 1, _, by omega, by go_num, block_other k1 (by omega) 0 _, block_set k2 _, ?_, (bd.trans (y2.mono (by omega))).setCell (by show w.heap.size ≤ w.heap.size + 1 + 1; omega) _⟩, by simp [intOf]; omega⟩
    rw [UB htk]
    simp only [List.length_append, List.length_cons, List.length_nil] at p2
    exact p2.kept (grown_setCell _ _ _) (by show w.heap.size + 1 + 1 < _; omega)
  ·obtain rfl : k = m := by omega
   obtain ⟨oa, oc, rfl, _⟩ := ho.hasL.form
   have htk : n.take k = n := List.take_of_length_le (by rw [UB HN]; omega)
   rw [htk] at ho
   have HLK := UC (show (n.take k).length = n.length by rw [htk])
   rw [UB HLK] at hr2
   have HO := UC ho
   have c2 := US hr2
   have c1 := US hr1
   have f1 := VG hr1 0
   have M1 := UC (block_set hr1 (.slice oa n.length oc))
   clear ho htk hr1 hr2 HLK
   go_wp2
   refine bodyPost_ret (results_cell_row rfl _ _ (w.heap.size + 1) 46 #[.slice oa n.length oc] (0, 0) _ rfl (UB M1) Tryz.underlying46 rfl (by kernel_rfl)) rfl ?_
   exact ⟨_, rfl, ((UB HO).kept (grown_setCell _ _ _) (by show w.heap.size + 1 < _; omega)).mono (by omega), hb.setCell (by show w.heap.size ≤ w.heap.size + 1; omega) _⟩
end Go.Proofs.YtaehfeobfkaicaaGreat

namespace Go.Proofs.YtaehfeobfkaicaaGreat
open Go.RowKit

section
variable {P : Program} {w : World}

theorem row_empty (B p : Nat) (e : TypeId) (hB : B ≤ p) (hp : w.heap[p]? = some (.cells #[] e)) : w.ownsRow B e 1 (.slice (some ⟨p, 0, none⟩) 0 0) 0 [] :=
 ⟨rfl, .inr ⟨p, 0, #[], rfl, hB, hp, Nat.le_refl _, Nat.zero_le _, rfl, rfl⟩⟩

theorem run_append_fresh (t ty e : TypeId) (z : Value) (bytes : Nat) (ht : P.underlying t = some (.slice e)) (hinfo : (P.info? e).map (fun i => (i.zero, i.size, i.bytes)) = some (some z, 1, bytes))
  (hzs : z.cells.size = 1) (hby : bytes ≤ 100) (B p : Nat) (hB : B ≤ p) (hp : w.heap[p]? = some (.cells #[] e)) (vx : Value) (us : List Value)
  (hr : (vx = .slice none 0 0 ∧ us = []) ∨ ∃ ad cap, vx = .slice (some ad) us.length cap ∧ ∀ j y, us[j]? = some y → w.cell? (ad.add j) = some y) (hu : ∀ y ∈ us, y.oneCell' = true)
  (hlen : us.length ≤ 1099511627776) :
  ∃ v' w', (Builtin.append_ #[t, t] ty #[.slice (some ⟨p, 0, none⟩) 0 0, vx]).run P w = .ok v' w' ∧ w'.ownsRow B e 1 v' us.length us ∧ Below w.heap.size w w' := by
 obtain ⟨i0, hi, hz0, hz1, hz2⟩ := info_parts hinfo
 have hown := row_empty B p e hB hp
 have hpl := VC hp
 rcases hr with ⟨rfl, rfl⟩ | ⟨ad, cap, rfl, hc⟩
 ·exact ⟨_, w, run_append_owned_none w B t ty e i0 1 ht hi _ 0 [] hown, hown, Below.refl _ _⟩
 ·have hbb : us.length * bytes ≤ 1099511627776 * 100 := Nat.mul_le_mul hlen hby
  obtain ⟨v', w', h1, h2, h3, _⟩ := run_append_own (P := P) w B t ty e i0 z 1 bytes ht hi hz0 hz1 hz2 hzs (by decide) _ 0 [] hown ad us.length cap us (by simp) hc hu (by unfold maxLen; omega) (by rw [Nat.zero_add]; omega) (by omega)
  refine ⟨v', w', h1, by simpa using h2, ⟨h3.os, h3.tape, h3.output, h3.size, fun k hk => ?_⟩⟩
  by_cases e1 : k = p
  ·subst e1
   by_cases h0 : us.length = 0
   ·have hus : us = [] := List.eq_nil_of_length_eq_zero h0
    subst hus
    rw [run_append_room (P := P) w t ty e i0 ht hi k 0 0 #[] hp ad ([] : List Value).length cap [] (by simp) (by simp) (by simp) (by simp) (by simp)] at h1
    simp only [Result.ok.injEq] at h1
    rw [← h1.2, hp]
    simpa using setRow_heap w k #[] #[] e _ hp
   ·rw [run_append_grow (P := P) w t ty e i0 z ht hi hz0 ⟨k, 0, none⟩ 0 0 [] (by simp) (by simp) ad us.length cap us (by simp [hz1]) hc (by omega) (by omega) (growslice_fits (by omega) (by rw [hz2, Nat.zero_add]; omega))] at h1
    simp only [Result.ok.injEq] at h1
    rw [← h1.2]
    exact heap_alloc_old w.drew _ hk
  ·exact h3.block k hk (by simp [Value.ownBlock]; omega)

theorem VU {ops : Array Oper} {o : Oper} {a : Act} {K : Act → World → Prop} {Q : Exit → Act → World → Prop} {E : Prop} (hgd : o.guard = none) (s x : Operand) (t e : TypeId)
  (ho : o.op = .call { callee := .builtin .append, args := #[s, x], argTypes := #[t, t] }) (ht : P.underlying t = some (.slice e)) (z : Value) (bytes : Nat)
  (hinfo : (P.info? e).map (fun i => (i.zero, i.size, i.bytes)) = some (some z, 1, bytes)) (hzs : z.cells.size = 1) (hby : bytes ≤ 100) (B p : Nat) (hB : B ≤ p) (hp : w.heap[p]? = some (.cells #[] e)) (vx : Value) (us : List Value)
  (hs : a.eval s = .slice (some ⟨p, 0, none⟩) 0 0) (hx : a.eval x = vx)
  (hr : (vx = .slice none 0 0 ∧ us = []) ∨ ∃ ad cap, vx = .slice (some ad) us.length cap ∧ ∀ j y, us[j]? = some y → w.cell? (ad.add j) = some y) (hu : ∀ y ∈ us, y.oneCell' = true)
  (hlen : us.length ≤ 1099511627776)
  (h : ∀ v' w', w'.ownsRow B e 1 v' us.length us → Below w.heap.size w w' → K (a.put o.dst v') w') : if Region.wanted o (yielded ops a.tmps) = true then Oper.wp P o a w K Q else E := by
 have hw : Region.wanted o (yielded ops a.tmps) = true := by simp [Region.wanted, hgd]
 rw [if_pos hw]
 obtain ⟨v', w', hr', h2, h3⟩ := run_append_fresh (P := P) t o.type e z bytes ht hinfo hzs hby B p hB hp vx us hr hu hlen
 unfold Oper.wp execOp
 simp only [ho, resolve, invoke, builtin, Sem.run_bind, Sem.run_pure, Result.andThen_ok, List.map_toArray, List.map_cons, List.map_nil, hs, hx, hr']
 exact h v' w' h2 h3
end
theorem Has.readsV {w : World} {v : Value} {l : List Int} (h : Has w v l) : (v = .slice none 0 0 ∧ l.map (Value.int .u8) = []) ∨ ∃ ad cap, v = .slice (some ad) (l.map (Value.int .u8)).length cap ∧ ∀ j y, (l.map (Value.int .u8))[j]? = some y → w.cell? (ad.add j) = some y := by
 rcases h.reads with ⟨h1, h2⟩ | ⟨ad, cap, h1, h2⟩
 ·exact .inl ⟨h1, by rw [h2]; rfl⟩
 ·exact .inr ⟨ad, cap, by rw [List.length_map]; exact h1, news_of h2⟩
theorem HasI.readsV {w : World} {v : Value} {l : List Int} (h : HasI w v l) : (v = .slice none 0 0 ∧ l.map (Value.int .i64) = []) ∨ ∃ ad cap, v = .slice (some ad) (l.map (Value.int .i64)).length cap ∧ ∀ j y, (l.map (Value.int .i64))[j]? = some y → w.cell? (ad.add j) = some y := by
 rcases h with ⟨h1, h2⟩ | ⟨g, off, cap, h1, _, _, _, h2⟩
 ·exact .inl ⟨h1, by rw [h2]; rfl⟩
 ·refine .inr ⟨⟨g, off, none⟩, cap, by rw [List.length_map]; exact h1, fun j y hj => ?_⟩
  have hj2 : j < l.length := by
   have := (List.getElem?_eq_some_iff.1 hj).1
   simpa using this
  rw [map_atI l j hj2] at hj
  rw [← hj, Addr.add_lit]
  exact h2 j hj2
theorem one_ofI (l : List Int) : ∀ u ∈ l.map (Value.int .i64), u.oneCell' = true := by
 intro u hu
 obtain ⟨x, _, rfl⟩ := List.mem_map.1 hu
 rfl
end Go.Proofs.YtaehfeobfkaicaaGreat

namespace Go.Proofs.YtaehfeobfkaicaaGreat
open Go.RowKit
set_option linter.unusedVariables false

theorem info_intC : (Tryz.prog.info? 3).map (fun i => (i.zero, i.size, i.bytes)) = some (some (.int .i64 0), 1, 8) := by kernel_rfl
theorem append_nums {P : Program} {w : World} {ops : Array Oper} {rest : List Oper} {o : Oper} {a : Act} {Q : Exit → Act → World → Prop} (hgd : o.guard = none) (s x : Operand) (t e : TypeId)
  (ho : o.op = .call { callee := .builtin .append, args := #[s, x], argTypes := #[t, t] }) (ht : P.underlying t = some (.slice e))
  (hinfo : (P.info? e).map (fun i => (i.zero, i.size, i.bytes)) = some (some (.int .i64 0), 1, 8))
  (vx : Value) (l : List Int) (hs : a.eval s = .slice none 0 0) (hx : a.eval x = vx) (hr : HasI w vx l) (hlen : l.length ≤ 1099511627776)
  (h : ∀ v' w', OwnI w.heap.size e w' v' l → Below w.heap.size w w' → wpList P ops Q rest (a.put o.dst v') w') : wpList P ops Q (o :: rest) a w := by
 obtain ⟨i0, hi, hz0, hz1, hz2⟩ := info_parts hinfo
 have hown := World.ownsRow_nil w w.heap.size e 1
 rcases hr.readsV with ⟨rfl, h0⟩ | ⟨ad, cap, hv, hc⟩
 ·obtain rfl : l = [] := by simpa using h0
  refine wpList_append_own_none hgd s x t ho w.heap.size e i0 1 ht hi _ 0 [] hs hown hx ?_
  exact h _ w hown (Below.refl _ _)
 ·subst hv
  rw [List.length_map] at hx
  refine wpList_append_own w hgd s x t ho w.heap.size e i0 (.int .i64 0) 1 8 ht hi hz0 hz1 hz2 rfl (by decide) _ 0 [] hs hown ad l.length cap (l.map (Value.int .i64)) hx (by simp) hc (one_ofI l) (by unfold maxLen; omega) (by omega) (Nat.le_refl _) ?_
  intro v' w' ho' hg _
  exact h v' w' (by simpa [OwnI] using ho') (below_of_grown hg)

set_option maxHeartbeats 4000000 in
set_option maxRecDepth 100000 in
theorem copyRr_own {vn vt vx vi : Value} {r : Rec} {w : World} (h : HasR w vn vt vx vi r) (hs : ShortR r) :
  Calls Tryz.prog 100 #[.agg #[vn, .int .i64 r.type, .int .i64 r.ttl, .int .i64 r.addr, vt, vx, vi]] w fun e w' => ∃ un ut ux ui, e = .returned (.agg #[un, .int .i64 r.type, .int .i64 r.ttl, .int .i64 r.addr, ut, ux, ui]) ∧
   OwnR w.heap.size w'.heap.size 56 5 3 w' un ut ux ui r ∧ Below w.heap.size w w' := by
 obtain ⟨⟨n1, n2⟩, ⟨t1, t2⟩, hx, hi⟩ := hs
 obtain ⟨na, nc, rfl, _⟩ := h.name.form
 obtain ⟨ta, tc, rfl, _⟩ := h.to.form
 obtain ⟨xa, xc, rfl, _⟩ := h.text.form
 obtain ⟨ia, ic, rfl, _⟩ := h.nums.form
 obtain ⟨hsz, k0, r0⟩ := box2 w (.cells #[.slice na r.name.length nc, .int .i64 r.type, .int .i64 r.ttl, .int .i64 r.addr, .slice ta r.to.length tc, .slice xa r.text.length xc, .slice ia r.nums.length ic] 67) #[.slice none 0 0, .int .i64 0, .int .i64 0, .int .i64 0, .slice none 0 0, .slice none 0 0, .slice none 0 0] 67
 have b0 := below2 w (.cells #[.slice na r.name.length nc, .int .i64 r.type, .int .i64 r.ttl, .int .i64 r.addr, .slice ta r.to.length tc, .slice xa r.text.length xc, .slice ia r.nums.length ic] 67) (.cells #[.slice none 0 0, .int .i64 0, .int .i64 0, .int .i64 0, .slice none 0 0, .slice none 0 0, .slice none 0 0] 67)
 have h0 := h.below b0
 have HN := UC (fun (w : World) (hh : HasL w (.slice na r.name.length nc) r.name) => copyName_has hh n1 n2)
 have HT := UC (fun (w : World) (hh : HasL w (.slice ta r.to.length tc) r.to) => copyName_has hh t1 t2)
 have zz := VC r0
 have KB := UC k0
 have KR := UC r0
 have F1 := UC h0.name
 have F2 := UC h0.to
 have HX := UC h.text
 have HI := UC h.nums
 clear hsz k0 r0 h h0 n1 n2 t1 t2
 go_enter Tryz.func100, Tryz.ntmps100
 go_wp2_with fail
 generalize (w.alloc (.cells #[.slice na r.name.length nc, .int .i64 r.type, .int .i64 r.ttl, .int .i64 r.addr, .slice ta r.to.length tc, .slice xa r.text.length xc, .slice ia r.nums.length ic] 67)).alloc (.cells #[.slice none 0 0, .int .i64 0, .int .i64 0, .int .i64 0, .slice none 0 0, .slice none 0 0, .slice none 0 0] 67) = W at *
 have bd := UX (w := W)
 have bb := UG b0 bd
 replace KB := UC (UE bd (UB KB))
 replace KR := UC (UE bd (UB KR))
 replace F1 := UC ((UB F1).below bd)
 replace F2 := UC ((UB F2).below bd)
 have z0 := bd.size
 clear bd b0
 have cz := UJ (UB KB)
 have c0 := cz.1
 have c4 := cz.2.2.2.2.1
 clear cz
 go_region_law (first
  | (go_simp; go_at_call_of 119 (Value.slice na r.name.length nc); refine (UB HN _ (UB F1)).mono ?_; rintro e w1 ⟨v1, rfl, o1, b1⟩; obtain ⟨p1, q1, rfl, _⟩ := o1.hasL.form; have N1 := UC o1.here; have KB1 := UC (UE b1 (UB KB)); have KR1 := UC (UE b1 (UB KR)); have F21 := UC ((UB F2).below b1); have bb1 := UG bb b1; have z1 := b1.size; have cz := UJ (UB KB1); have c41 := cz.2.2.2.2.1; clear cz b1 o1)
  | (go_simp; go_at_call_of 119 (Value.slice ta r.to.length tc); refine (UB HT _ (UB F21)).mono ?_; rintro e w2 ⟨v2, rfl, o2, b2⟩; obtain ⟨p2, q2, rfl, _⟩ := o2.hasL.form; have N2 := UC o2.here; have N12 := UC ((UB N1).below b2); have KB2 := UC (UE b2 (UB KB1)); have KR2 := UC (UE b2 (UB KR1)); have bb2 := UG bb1 b2; have z2 := b2.size; obtain ⟨d0, d1, d2, d3, d4, d5, d6⟩ := UJ (UB KB2); obtain ⟨f0, f1, f2, f3, f4, f5, f6⟩ := VI (UB KB2); clear b2 o2))
 all_goals
  clear d0 d1 d2 d3 d4 d5 d6 f0 f1 f2 f3 f4 f5 f6 c0 c4 c41
  have KB3 : Hid (((w2.setCell ⟨w.heap.size, 0, none⟩ (.slice p1 r.name.length q1)).setCell ⟨w.heap.size, 4, none⟩ (.slice p2 r.to.length q2)).heap[w.heap.size]? = some (.cells #[.slice p1 r.name.length q1, .int .i64 r.type, .int .i64 r.ttl, .int .i64 r.addr, .slice p2 r.to.length q2, .slice xa r.text.length xc, .slice ia r.nums.length ic] 67)) := UV (UV (UB KB2) 0 _) 4 _
  have u3 := (UT w2 w.heap.size 0 (.slice p1 r.name.length q1)).trans (UT _ w.heap.size 4 (.slice p2 r.to.length q2))
  generalize (w2.setCell ⟨w.heap.size, 0, none⟩ (.slice p1 r.name.length q1)).setCell ⟨w.heap.size, 4, none⟩ (.slice p2 r.to.length q2) = w3 at *
  have M1 := UC ((UB N12).outside u3 (.inr (by omega)))
  have M2 := UC ((UB N2).outside u3 (.inr (by omega)))
  have KR3 := UC (u3.kept (UB KR2) (by omega))
  have bb3 := u3.below bb2 (Nat.le_refl _)
  have z3 := u3.size
  have HC := UC (copyBytes_reads ((UB HX).below bb3).reads (by omega))
  obtain ⟨d0, d1, d2, d3, d4, d5, d6⟩ := UJ (UB KB3)
  clear N1 N12 N2 u3 bb bb1 bb2 KB KB1 KB2 KR KR1 KR2 HN HT F1 F2 F21
  go_wp2_with fail
  clear d0 d1 d2 d3 d4 d5 d6
  refine (UB HC).mono ?_
  rintro e w4 ⟨v4, rfl, o4, b4⟩
  obtain ⟨p3, q3, rfl, _⟩ := o4.lies
  replace M1 := UC ((UB M1).below b4)
  replace M2 := UC ((UB M2).below b4)
  have KR4 := UC (UE b4 (UB KR3))
  have k4 := UE b4 (UB KB3)
  have bb4 := UG bb3 b4
  have z4 := b4.size
  have X4 := UC o4.here
  have u5 := UT w4 w.heap.size 5 (.slice p3 r.text.length q3)
  have KB5 : Hid ((w4.setCell ⟨w.heap.size, 5, none⟩ (.slice p3 r.text.length q3)).heap[w.heap.size]? = some (.cells #[.slice p1 r.name.length q1, .int .i64 r.type, .int .i64 r.ttl, .int .i64 r.addr, .slice p2 r.to.length q2, .slice p3 r.text.length q3, .slice ia r.nums.length ic] 67)) := UV k4 5 _
  have bb5 := u5.below bb4 (Nat.le_refl _)
  have HI5 := UC ((UB HI).below bb5)
  replace M1 := UC ((UB M1).outside u5 (.inr (by omega)))
  replace M2 := UC ((UB M2).outside u5 (.inr (by omega)))
  replace X4 := UC ((UB X4).outside u5 (.inr (by omega)))
  have KR5 := UC (u5.kept (UB KR4) (by omega))
  have z5 := u5.size
  obtain ⟨d0, d1, d2, d3, d4, d5, d6⟩ := UJ k4
  obtain ⟨f0, f1, f2, f3, f4, f5, f6⟩ := VI k4
  clear KB3 KR3 KR4 bb3 bb4 o4 b4 HC u5 k4
  go_wp2_with (at_builtin; refine append_nums rfl _ _ 57 3 rfl Tryz.underlying57 info_intC _ r.nums rfl rfl (UB HI5) (by omega) ?_)
  intro v6 w6 o6 b6
  have e5 : (w4.setCell ⟨w.heap.size, 5, none⟩ (.slice p3 r.text.length q3)).heap.size = w4.heap.size := by simp [World.setCell]
  replace b6 : Below (w4.setCell ⟨w.heap.size, 5, none⟩ (.slice p3 r.text.length q3)).heap.size (w4.setCell ⟨w.heap.size, 5, none⟩ (.slice p3 r.text.length q3)) w6 := by rw [e5]; exact b6
  replace o6 : OwnI (w4.setCell ⟨w.heap.size, 5, none⟩ (.slice p3 r.text.length q3)).heap.size 3 w6 v6 r.nums := by rw [e5]; exact o6
  clear e5
  clear d0 d1 d2 d3 d4 d5 d6 f0 f1 f2 f3 f4 f5 f6
  generalize w4.setCell ⟨w.heap.size, 5, none⟩ (.slice p3 r.text.length q3) = w5 at *
  obtain ⟨p4, q4, rfl, _⟩ := o6.lies
  replace M1 := UC ((UB M1).below b6)
  replace M2 := UC ((UB M2).below b6)
  replace X4 := UC ((UB X4).below b6)
  have Y6 := UC o6.here
  have k6 := UE b6 (UB KB5)
  have r6 := UE b6 (UB KR5)
  have bb6 := UG bb5 b6
  have z6 := b6.size
  have u7 := UT w6 w.heap.size 6 (.slice p4 r.nums.length q4)
  have R7 := UC (u7.kept r6 (by omega))
  replace M1 := UC ((UB M1).outside u7 (.inr (by omega)))
  replace M2 := UC ((UB M2).outside u7 (.inr (by omega)))
  replace X4 := UC ((UB X4).outside u7 (.inr (by omega)))
  replace Y6 := UC ((UB Y6).outside u7 (.inr (by omega)))
  have bb7 := u7.below bb6 (Nat.le_refl _)
  have z7 := u7.size
  obtain ⟨d0, d1, d2, d3, d4, d5, d6⟩ := UJ k6
  obtain ⟨f0, f1, f2, f3, f4, f5, f6⟩ := VI k6
  obtain ⟨g0, g1, g2, g3, g4, g5, g6⟩ := UJ r6
  obtain ⟨y0, y1, y2, y3, y4, y5, y6⟩ := VI r6
  clear KB5 KR5 bb5 bb6 o6 b6 HI5 u7 k6 r6 HX HI
  go_wp2_with fail
  clear d0 d1 d2 d3 d4 d5 d6 f0 f1 f2 f3 f4 f5 f6 g0 g1 g2 g3 g4 g5 g6 y0 y1 y2 y3 y4 y5 y6
  generalize w6.setCell ⟨w.heap.size, 6, none⟩ (.slice p4 r.nums.length q4) = w7 at *
  obtain ⟨R8, u8⟩ := set7 (c0 := .slice p1 r.name.length q1) (c1 := .int .i64 r.type) (c2 := .int .i64 r.ttl) (c3 := .int .i64 r.addr) (c4 := .slice p2 r.to.length q2) (c5 := .slice p3 r.text.length q3) (c6 := .slice p4 r.nums.length q4) (UB R7)
  have z8 := u8.size
  refine bodyPost_ret (results_cell_row rfl _ _ (w.heap.size + 1) 67 #[.slice p1 r.name.length q1, .int .i64 r.type, .int .i64 r.ttl, .int .i64 r.addr, .slice p2 r.to.length q2, .slice p3 r.text.length q3, .slice p4 r.nums.length q4] (0, 0) _ rfl R8 Tryz.underlying67 rfl (by kernel_rfl)) rfl ?_
  exact ⟨_, _, _, _, rfl, ⟨w1.heap.size, w2.heap.size, w4.heap.size, by omega, by omega, by omega, by omega, ((UB M1).outside u8 (.inr (by omega))).wide (by omega) (by omega), ((UB M2).outside u8 (.inr (by omega))).wide (by omega) (by omega), ((UB X4).outside u8 (.inr (by omega))).wide (by omega) (by omega), ((UB Y6).outside u8 (.inr (by omega))).wide (by omega) (by omega)⟩, u8.below bb7 (by omega)⟩
end Go.Proofs.YtaehfeobfkaicaaGreat

namespace Go.Proofs.YtaehfeobfkaicaaGreat
open Go.RowKit

end Go.Proofs.YtaehfeobfkaicaaGreat

namespace Go.Proofs.YtaehfeobfkaicaaGreat
open Go.RowKit
set_option linter.unusedVariables false

theorem info_rrA : (Tryz.prog.info? 67).map (fun i => (i.zero, i.size, i.bytes)) = some (some (.agg #[.slice none 0 0, .int .i64 0, .int .i64 0, .int .i64 0, .slice none 0 0, .slice none 0 0, .slice none 0 0]), 7, 120) := by kernel_rfl
set_option maxHeartbeats 4000000 in
set_option maxRecDepth 100000 in
theorem copyAllR_own {v : Value} {l : List Rec} {w : World} (h : HasRs w v l) (h12 : l.length ≤ 1000) (hoks : ∀ i, i < l.length → ShortR (l.getD i recZ)) :
  Calls Tryz.prog 99 #[v, .func (Fn.func 100) #[] #[]] w fun e w' => ∃ x, e = .returned x ∧ RowO w.heap.size w'.heap.size 67 56 5 3 w' x l ∧ Below w.heap.size w w' := by
 obtain ⟨a, cap, rfl, _⟩ := h.form
 have HL := UC h
 have HOK := UC hoks
 have hT0 : l.take l.length = l := List.take_length
 clear h hoks
 generalize hm : l.length = m at *
 have HN := UC hm
 have HT := UC hT0
 clear hm hT0
 go_enter Tryz.func99, Tryz.ntmps99
 go_wp2_with fail
 go_loopw [5, 10] (fun v i wr => ∃ k : Nat, k ≤ m ∧ i = .int .i64 k ∧ RowO w.heap.size wr.heap.size 67 56 5 3 wr v (l.take k) ∧ Below w.heap.size w wr) (fun _ i _ => m - (intOf i).toNat)
 case atStart => exact ⟨0, Nat.zero_le _, rfl, by simpa using RowO.nil _ _ _ _ _ _ _, Below.refl _ _⟩
 case round =>
  obtain ⟨k, hk, rfl, hrow, hbw⟩ := hrel
  by_cases hlt : k < m
  ·have hkm : (k : Int) < m := by omega
   obtain ⟨g, off, rna, rnc, rta, rtc, rxa, rxc, ria, ric, rfl, hbl, hc, hu⟩ := ((UB HL).below hbw).here (k := k) (by rw [UB HN]; exact hlt)
   have hsh := UB HOK k hlt
   have HST2 := UC (show l.take (k + 1) = l.take k ++ [l.getD k recZ] by rw [List.take_succ_eq_append_getElem (by rw [UB HN]; exact hlt)]; simp [show k < l.length by rw [UB HN]; exact hlt])
   have hlen : (l.take k).length ≤ k := by rw [List.length_take]; omega
   generalize l.getD k recZ = r at *
   generalize l.take k = lk at *
   obtain ⟨va, vc, rfl, _⟩ := hrow.form
   have ba := UI (w := wr) (.cells #[.slice rna r.name.length rnc, .int .i64 r.type, .int .i64 r.ttl, .int .i64 r.addr, .slice rta r.to.length rtc, .slice rxa r.text.length rxc, .slice ria r.nums.length ric] 67)
   have kx := heap_alloc_new wr (.cells #[.slice rna r.name.length rnc, .int .i64 r.type, .int .i64 r.ttl, .int .i64 r.addr, .slice rta r.to.length rtc, .slice rxa r.text.length rxc, .slice ria r.nums.length ric] 67)
   have R2 := UC ((hrow.below ba).wide (Nat.le_refl _) ba.size)
   have HC := UC (copyRr_own (hu.below ba) hsh)
   have bb2 := UG hbw ba
   obtain ⟨c0, c1, c2, c3, c4, c5, c6⟩ := VH hc
   obtain ⟨x0, x1, x2, x3, x4, x5, x6⟩ := UJ kx
   have z1 := hbw.size
   have z2 := ba.size
   clear hrow hu hc ba kx hbw hsh
   go_wp2_with fail
   clear c0 c1 c2 c3 c4 c5 c6 x0 x1 x2 x3 x4 x5 x6
   generalize wr.alloc (.cells #[.slice rna r.name.length rnc, .int .i64 r.type, .int .i64 r.ttl, .int .i64 r.addr, .slice rta r.to.length rtc, .slice rxa r.text.length rxc, .slice ria r.nums.length ric] 67) = w2 at *
   refine (UB HC).mono ?_
   rintro e w3 ⟨un, ut, ux, ui, rfl, oR, b3⟩
   obtain ⟨una, unc, rfl, _⟩ := oR.hasR.name.form
   obtain ⟨uta, utc, rfl, _⟩ := oR.hasR.to.form
   obtain ⟨uxa, uxc, rfl, _⟩ := oR.hasR.text.form
   obtain ⟨uia, uic, rfl, _⟩ := oR.hasR.nums.form
   have b4 := UI (w := w3) (.cells #[.slice una r.name.length unc, .int .i64 r.type, .int .i64 r.ttl, .int .i64 r.addr, .slice uta r.to.length utc, .slice uxa r.text.length uxc, .slice uia r.nums.length uic] 67)
   have g4 := heap_alloc_new w3 (.cells #[.slice una r.name.length unc, .int .i64 r.type, .int .i64 r.ttl, .int .i64 r.addr, .slice uta r.to.length utc, .slice uxa r.text.length uxc, .slice uia r.nums.length uic] 67)
   have row4 := ((UB R2).below b3).below b4
   have OR4 := UC (oR.below b4)
   have bb4 := UG (UG bb2 b3) b4
   have z4 := b3.size
   have z5 := b4.size
   have ROW4 := UC row4
   obtain ⟨xs0, f0, g0, hx0, hq0, hh0⟩ := row4
   have zB := bb4.size
   clear oR b3 b4 HC R2 bb2 hq0 hh0
   go_wp2_with (at_builtin; refine append_rec' rfl _ _ 34 67 rfl Tryz.underlying34 _ info_rrA rfl w.heap.size (.slice va lk.length vc) lk.length rfl w3.heap.size [.slice una r.name.length unc, .int .i64 r.type, .int .i64 r.ttl, .int .i64 r.addr, .slice uta r.to.length utc, .slice uxa r.text.length uxc, .slice uia r.nums.length uic] rfl ⟨xs0, hx0⟩ g4 rfl (by simp [Value.oneCell']) (by omega) (by simp; omega) ?_)
   intro v5 w5 h5 g5 hw5
   have row5 := RowO.snoc (UB ROW4) (C := w2.heap.size) (D := w3.heap.size) (by omega) z5 (UB OR4) (by omega) g5 (by rw [World.size_alloc]; exact hw5) h5
   rw [← UB HST2] at row5
   have bb5 := bb4.grown g5 bb4.size (fun j e => (World.ownsRow.lt hx0 j e).1)
   clear hx0 h5 g5 hw5 OR4 ROW4 g4 bb4
   go_wp2
   exact ⟨⟨k + 1, by omega, by go_num, row5, bb5⟩, by simp [intOf]; omega⟩
  ·obtain rfl : k = m := by omega
   have hT := UB HT
   rw [hT] at hrow
   clear hT
   go_wp2
   go_ret
   exact ⟨_, rfl, hrow, hbw⟩
end Go.Proofs.YtaehfeobfkaicaaGreat
