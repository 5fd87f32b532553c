/-
  Contracts of the program's copyBytes: new memory with the same bytes. Contracts of the program's copyName: a name of its own with the same labels. Contract of the program's copyQuestion. Plain facts: an append to a literal without elements turns nothing that was there. No program is named here.
-/
import Derived.Test.YtjgfljndeolmoaaFnInsidesG02
import Derived.Test.YtjgfljndeolmoaaFnInsidesG03
import Derived.Test.YtjgfljndeolmoaaFnInsidesG25
import Derived.Test.YtjgfljndeolmoaaFnInsidesG05
namespace Go.Proofs.Ytjgfljndeolmoaa
open Go.RowKit
set_option linter.unusedVariables false

set_option maxHeartbeats 400000 in
set_option maxRecDepth 100000 in
theorem copyBytes_reads {v : Value} {l : List Int} {w : World} (h : Reads w v l) (hl : l.length ≤ 2097152) :
  Calls Try.prog 91 #[v] w fun e w' => ∃ v', e = .returned v' ∧ Own w.heap.size 5 w' v' l ∧ Below w.heap.size w w' := by
 go_enter Try.func91, Try.ntmps91
 go_wp2_with (at_builtin; refine append_bytes rfl _ _ 22 5 rfl Try.underlying22 info_u8 w.heap.size (.slice none 0 0) v [] l rfl rfl (World.ownsRow_nil _ _ _ _) h ?c1 (Nat.le_refl _) ?_)
 case c1 => simp; omega
 intro v' w1 hown hgrow
 go_wp2
 go_ret
 exact ⟨v', rfl, hown, below_of_grown hgrow⟩

end Go.Proofs.Ytjgfljndeolmoaa

namespace Go.Proofs.Ytjgfljndeolmoaa
open Go.RowKit
set_option linter.unusedVariables false

theorem info_sl : (Try.prog.info? 22).map (fun i => (i.zero, i.size, i.bytes)) = some (some (.slice none 0 0), 1, 24) := by kernel_rfl

set_option maxHeartbeats 2000000 in
set_option maxRecDepth 100000 in
theorem copyName_has {v : Value} {n : List (List Int)} {w : World} (h : HasL w v n) (hs : n.length ≤ 6) (hs2 : ∀ k, k < n.length → (n.getD k []).length ≤ 15) :
  Calls Try.prog 90 #[.agg #[v]] w fun e w' => ∃ v', e = .returned (.agg #[v']) ∧ OwnL w.heap.size 22 5 w' v' n ∧ Below w.heap.size w w' := by
 obtain ⟨a, cap, rfl, hcl, hcm⟩ := h.form
 unfold maxLen at hcm
 obtain ⟨hsz, h1, h2⟩ := box3 w (.cells #[.slice a n.length cap] 26) #[.slice none 0 0] #[.slice none 0 0] 26 26
 have bb : Below w.heap.size w (((w.alloc (.cells #[.slice a n.length cap] 26)).alloc (.cells #[.slice none 0 0] 26)).alloc (.cells #[.slice none 0 0] 26)) :=
  ((below_alloc _).alloc (below_alloc _).size _).alloc ((below_alloc _).alloc (below_alloc _).size _).size _
 have H := hide h
 clear h
 have HS2 := hide hs2
 clear hs2
 generalize hn : n.length = m at *
 have HN := hide hn
 clear hn
 go_enter Try.func90, Try.ntmps90
 go_wp2
 generalize ((w.alloc (.cells #[.slice a m cap] 26)).alloc (.cells #[.slice none 0 0] 26)).alloc (.cells #[.slice none 0 0] 26) = W at *
 go_loopw [9] (fun i wr => ∃ (k : Nat) (o : Value), k ≤ m ∧ i = .int .i64 k ∧ wr.heap[w.heap.size + 1]? = some (.cells #[.slice none 0 0] 26) ∧ wr.heap[w.heap.size + 1 + 1]? = some (.cells #[o] 26) ∧ OwnL (w.heap.size + 3) 22 5 wr o (n.take k) ∧ Below w.heap.size w wr) (fun i _ => m - (intOf i).toNat)
 case atStart => exact ⟨0, .slice none 0 0, Nat.zero_le _, rfl, h1, h2, ⟨[], by simpa using World.ownsRow_nil _ _ _ _, by simp, by simp⟩, bb⟩
 case round =>
  obtain ⟨k, o, hk, rfl, hr1, hr2, ho, hb⟩ := hrel
  by_cases hlt : k < m
  ·obtain ⟨b, off, u, rfl, hbl, hc, hu⟩ := ((unhide H).below hb).here (k := k) (by rw [unhide HN]; exact hlt)
   have hlk := unhide HS2 k hlt
   have htk := hide (show n.take (k + 1) = n.take k ++ [n.getD k []] by rw [List.take_succ_eq_append_getElem (by rw [unhide HN]; exact hlt)]; simp [show k < n.length by rw [unhide HN]; exact hlt])
   have htl : (n.take k).length = k := by rw [List.length_take, unhide HN]; omega
   generalize n.getD k [] = lab at *
   generalize n.take k = nk at *
   subst htl
   have HU := hide hu
   obtain ⟨ua, uc, rfl, _⟩ := hu.form
   clear hu
   obtain ⟨oa, oc, rfl, _⟩ := ho.hasL.form
   have hod := ho.below (below_drew (w := wr))
   clear ho
   have HO := hide hod
   obtain ⟨vs, hvs, hva, hvd⟩ := hod
   have hvl : vs.length = nk.length := by have := hvs.1; simpa using this
   have kd2 := block_kept (below_drew (w := wr)) hr2
   have kd1 := block_kept (below_drew (w := wr)) hr1
   have bd := below_next hb (below_drew (w := wr))
   have cod := block_one kd2
   have HUd := hide ((unhide HU).below below_drew)
   have HVS := hide hvs
   have HVA := hide hva
   have HVD := hide hvd
   have z3 := block_lt hr2
   have zb : w.heap.size + 3 ≤ wr.drew.heap.size := by show w.heap.size + 3 ≤ wr.heap.size; omega
   clear hva hvd hvs
   have KD2 := hide kd2
   have KD1 := hide kd1
   clear kd2 kd1
   go_wp2_with fail
   go_region_law (first
    | (refine step_append_row rfl (.tmp 14) (.tmp 17) 24 22 rfl Try.underlying24 info_sl (w.heap.size + 3) (.slice oa nk.length oc) _ vs [.slice u1a lab.length u1c] (by simp [Act.eval]) (by simp [Act.eval]) (by rw [hvl]; exact World.ownsRow.alloc (ownsRow_kept' (unhide HVS) (unhide B1)) _) (one_more w1 22 _) (by intro y hy; simp at hy; subst hy; rfl) (by rw [hvl]; simp; omega) (by have := (unhide B1).size; simp; omega) ?_; intro v2 w2 o2 g2; obtain ⟨p2, k2, y2⟩ := snoc_step g2 o2 rfl (unhide HVS) (unhide HVA) (unhide HVD) ((unhide B1).alloc (unhide B1).size _) ((unhide OU).alloc _) zb (by decide) (block_kept (below_alloc _) (block_kept (unhide B1) (unhide KD2))) (by decide); obtain ⟨v2a, v2c, rfl, _⟩ := p2.hasL.form; have co2 := block_one k2; have fo2 := block_frozen k2 0)
    | (go_simp; go_at_call 91; refine (copyBytes_reads (unhide HUd).reads (by omega)).mono ?_; rintro e w1 ⟨u1, rfl, ou, b1⟩; obtain ⟨u1a, u1c, rfl, _⟩ := ou.lies; have OU := hide ou; have B1 := hide b1; have co1 := block_one (block_kept b1 (unhide KD2)); have ca1 : ∀ o, (w1.alloc o).cell? ⟨w.heap.size + 1 + 1, 0, none⟩ = some (.slice oa nk.length oc) := (fun o => block_one (block_kept (below_alloc o) (block_kept b1 (unhide KD2)))); clear ou b1))
   all_goals
    go_wp2_with fail
    have k1 := (y2.block (w.heap.size + 1) (by omega)).trans (unhide KD1)
    refine ⟨⟨nk.length + 1, _, by omega, by go_num, block_other k1 (by omega) 0 _, block_set k2 _, ?_, (bd.trans (y2.mono (by omega))).setCell (by show w.heap.size ≤ w.heap.size + 1 + 1; omega) _⟩, by simp [intOf]; omega⟩
    rw [unhide htk]
    simp only [List.length_append, List.length_cons, List.length_nil] at p2
    exact p2.kept (grown_setCell _ _ _) (by show w.heap.size + 1 + 1 < _; omega)
  ·obtain rfl : k = m := by omega
   obtain ⟨oa, oc, rfl, _⟩ := ho.hasL.form
   have htk : n.take k = n := List.take_of_length_le (by rw [unhide HN]; omega)
   rw [htk] at ho
   have HLK := hide (show (n.take k).length = n.length by rw [htk])
   rw [unhide HLK] at hr2
   have HO := hide ho
   have c2 := block_one hr2
   have c1 := block_one hr1
   have f1 := block_frozen hr1 0
   have M1 := hide (block_set hr1 (.slice oa n.length oc))
   clear ho htk hr1 hr2 HLK
   go_wp2
   refine bodyPost_ret (results_cell_row rfl _ _ (w.heap.size + 1) 26 #[.slice oa n.length oc] (0, 0) _ rfl (unhide M1) Try.underlying26 rfl (by kernel_rfl)) rfl ?_
   exact ⟨_, rfl, ((unhide HO).kept (grown_setCell _ _ _) (by show w.heap.size + 1 < _; omega)).mono (by omega), hb.setCell (by show w.heap.size ≤ w.heap.size + 1; omega) _⟩
end Go.Proofs.Ytjgfljndeolmoaa

namespace Go.Proofs.Ytjgfljndeolmoaa
open Go.RowKit
set_option linter.unusedVariables false

set_option maxHeartbeats 1000000 in
set_option maxRecDepth 100000 in
theorem copyQuestion_has {v : Value} {q : Que} {w : World} (h : HasL w v q.name) (hok : nameOk q.name = true) :
  Calls Try.prog 114 #[.agg #[v, .int .i64 q.type]] w fun e w' => ∃ v', e = .returned (.agg #[v', .int .i64 q.type]) ∧ OwnN w.heap.size w'.heap.size 22 5 w' v' q.name ∧ Below w.heap.size w w' := by
 obtain ⟨na, nc, rfl, _⟩ := h.form
 obtain ⟨hsz, k0, r0⟩ := box2 w (.cells #[.slice na q.name.length nc, .int .i64 q.type] 46) #[.slice none 0 0, .int .i64 0] 46
 have b0 := below2 w (.cells #[.slice na q.name.length nc, .int .i64 q.type] 46) (.cells #[.slice none 0 0, .int .i64 0] 46)
 have HC := hide (copyName_has (h.below b0) (nameOk_parts hok).1 (fun k hk => (labelOk_length ((nameOk_parts hok).2 k hk)).2))
 have K0 := hide k0
 have R0 := hide r0
 have zr := block_lt r0
 obtain ⟨d0, d1⟩ := cells2 k0
 clear h k0 r0 hsz hok
 go_enter Try.func114, Try.ntmps114
 go_wp2_with fail
 clear d0 d1
 generalize (w.alloc (.cells #[.slice na q.name.length nc, .int .i64 q.type] 46)).alloc (.cells #[.slice none 0 0, .int .i64 0] 46) = W at *
 refine (unhide HC).mono ?_
 rintro e w1 ⟨v1, rfl, o1, b1⟩
 obtain ⟨n1, m1, rfl, _⟩ := o1.hasL.form
 replace b0 := below_next b0 b1
 have K1 := block_kept b1 (unhide K0)
 have R1 := block_kept b1 (unhide R0)
 have O1 := hide o1.here
 have z1 := b1.size
 obtain ⟨d0, d1⟩ := cells2 K1
 obtain ⟨f0, f1⟩ := frozen2 K1
 obtain ⟨p0, p1⟩ := cells2 R1
 obtain ⟨q0, q1⟩ := frozen2 R1
 clear K0 R0 b1 o1 HC
 go_wp2_with fail
 clear d0 d1 f0 f1 p0 p1 q0 q1
 have u2 := (outside_set w1 w.heap.size 0 (.slice n1 q.name.length m1)).wide (B' := w.heap.size) (E' := w.heap.size + 2) (by omega) (by omega)
 have R2 := block_other R1 (b' := w.heap.size) (by omega) 0 (.slice n1 q.name.length m1)
 generalize w1.setCell ⟨w.heap.size, 0, none⟩ (.slice n1 q.name.length m1) = w4 at *
 have R5 : ((w4.setCell ⟨w.heap.size + 1, 0, none⟩ (.slice n1 q.name.length m1)).setCell ⟨w.heap.size + 1, 1, none⟩ (.int .i64 q.type)).heap[w.heap.size + 1]? = some (.cells #[.slice n1 q.name.length m1, .int .i64 q.type] 46) := block_setAt (block_setAt R2 0 _) 1 _
 have u5 := ((outside_set w4 (w.heap.size + 1) 0 (.slice n1 q.name.length m1)).trans (outside_set _ (w.heap.size + 1) 1 (.int .i64 q.type))).wide (B' := w.heap.size) (E' := w.heap.size + 2) (by omega) (by omega)
 refine bodyPost_ret (results_cell_row rfl _ _ (w.heap.size + 1) 46 #[.slice n1 q.name.length m1, .int .i64 q.type] (0, 0) _ rfl R5 Try.underlying46 rfl (by kernel_rfl)) rfl ?_
 have u6 := u2.trans u5
 have z6 := u6.size
 exact ⟨_, rfl, ((unhide O1).outside u6 (by omega)).wide (by omega) (by omega), u6.below b0 (by omega)⟩
end Go.Proofs.Ytjgfljndeolmoaa

namespace Go.Proofs.Ytjgfljndeolmoaa
open Go.RowKit

section
variable {P : Program} {w : World}

theorem row_empty (B p : Nat) (e : TypeId) (hB : B ≤ p) (hp : w.heap[p]? = some (.cells #[] e)) : w.ownsRow B e 1 (.slice (some ⟨p, 0, none⟩) 0 0) 0 [] :=
 ⟨rfl, .inr ⟨p, 0, #[], rfl, hB, hp, Nat.le_refl _, Nat.zero_le _, rfl, rfl⟩⟩

theorem run_append_fresh (t ty e : TypeId) (z : Value) (bytes : Nat) (ht : P.underlying t = some (.slice e)) (hinfo : (P.info? e).map (fun i => (i.zero, i.size, i.bytes)) = some (some z, 1, bytes))
  (hzs : z.cells.size = 1) (hby : bytes ≤ 100) (B p : Nat) (hB : B ≤ p) (hp : w.heap[p]? = some (.cells #[] e)) (vx : Value) (us : List Value)
  (hr : (vx = .slice none 0 0 ∧ us = []) ∨ ∃ ad cap, vx = .slice (some ad) us.length cap ∧ ∀ j y, us[j]? = some y → w.cell? (ad.add j) = some y) (hu : ∀ y ∈ us, y.oneCell' = true)
  (hlen : us.length ≤ 1099511627776) :
  ∃ v' w', (Builtin.append_ #[t, t] ty #[.slice (some ⟨p, 0, none⟩) 0 0, vx]).run P w = .ok v' w' ∧ w'.ownsRow B e 1 v' us.length us ∧ Below w.heap.size w w' := by
 obtain ⟨i0, hi, hz0, hz1, hz2⟩ := info_parts hinfo
 have hown := row_empty B p e hB hp
 have hpl := block_lt hp
 rcases hr with ⟨rfl, rfl⟩ | ⟨ad, cap, rfl, hc⟩
 ·exact ⟨_, w, run_append_owned_none w B t ty e i0 1 ht hi _ 0 [] hown, hown, Below.refl _ _⟩
 ·have hbb : us.length * bytes ≤ 1099511627776 * 100 := Nat.mul_le_mul hlen hby
  obtain ⟨v', w', h1, h2, h3, _⟩ := run_append_own (P := P) w B t ty e i0 z 1 bytes ht hi hz0 hz1 hz2 hzs (by decide) _ 0 [] hown ad us.length cap us (by simp) hc hu (by unfold maxLen; omega) (by rw [Nat.zero_add]; omega) (by omega)
  refine ⟨v', w', h1, by simpa using h2, ⟨h3.os, h3.tape, h3.output, h3.size, fun k hk => ?_⟩⟩
  by_cases e1 : k = p
  ·subst e1
   by_cases h0 : us.length = 0
   ·have hus : us = [] := List.eq_nil_of_length_eq_zero h0
    subst hus
    rw [run_append_room (P := P) w t ty e i0 ht hi k 0 0 #[] hp ad ([] : List Value).length cap [] (by simp) (by simp) (by simp) (by simp) (by simp)] at h1
    simp only [Result.ok.injEq] at h1
    rw [← h1.2, hp]
    simpa using setRow_heap w k #[] #[] e _ hp
   ·rw [run_append_grow (P := P) w t ty e i0 z ht hi hz0 ⟨k, 0, none⟩ 0 0 [] (by simp) (by simp) ad us.length cap us (by simp [hz1]) hc (by omega) (by omega) (growslice_fits (by omega) (by rw [hz2, Nat.zero_add]; omega))] at h1
    simp only [Result.ok.injEq] at h1
    rw [← h1.2]
    exact heap_alloc_old w.drew _ hk
  ·exact h3.block k hk (by simp [Value.ownBlock]; omega)

end
theorem Has.readsV {w : World} {v : Value} {l : List Int} (h : Has w v l) : (v = .slice none 0 0 ∧ l.map (Value.int .u8) = []) ∨ ∃ ad cap, v = .slice (some ad) (l.map (Value.int .u8)).length cap ∧ ∀ j y, (l.map (Value.int .u8))[j]? = some y → w.cell? (ad.add j) = some y := by
 rcases h.reads with ⟨h1, h2⟩ | ⟨ad, cap, h1, h2⟩
 ·exact .inl ⟨h1, by rw [h2]; rfl⟩
 ·exact .inr ⟨ad, cap, by rw [List.length_map]; exact h1, news_of h2⟩
theorem HasI.readsV {w : World} {v : Value} {l : List Int} (h : HasI w v l) : (v = .slice none 0 0 ∧ l.map (Value.int .i64) = []) ∨ ∃ ad cap, v = .slice (some ad) (l.map (Value.int .i64)).length cap ∧ ∀ j y, (l.map (Value.int .i64))[j]? = some y → w.cell? (ad.add j) = some y := by
 rcases h with ⟨h1, h2⟩ | ⟨g, off, cap, h1, _, _, _, h2⟩
 ·exact .inl ⟨h1, by rw [h2]; rfl⟩
 ·refine .inr ⟨⟨g, off, none⟩, cap, by rw [List.length_map]; exact h1, fun j y hj => ?_⟩
  have hj2 : j < l.length := by
   have := (List.getElem?_eq_some_iff.1 hj).1
   simpa using this
  rw [map_atI l j hj2] at hj
  rw [← hj, Addr.add_lit]
  exact h2 j hj2
theorem one_ofI (l : List Int) : ∀ u ∈ l.map (Value.int .i64), u.oneCell' = true := by
 intro u hu
 obtain ⟨x, _, rfl⟩ := List.mem_map.1 hu
 rfl
end Go.Proofs.Ytjgfljndeolmoaa
