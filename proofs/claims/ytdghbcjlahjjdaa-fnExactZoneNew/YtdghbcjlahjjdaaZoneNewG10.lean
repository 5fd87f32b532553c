/-
  Contracts of the helpers of the laws for zones that are answers (markZone, heldZone). Contracts of the program's copyBytes: new memory with the same bytes. Contracts of the program's copyName: a name of its own with the same labels.
-/
import Derived.Test.YtdghbcjlahjjdaaZoneNewG07
import Derived.Test.YtdghbcjlahjjdaaZoneNewG08
import Derived.Test.YtdghbcjlahjjdaaZoneNewG09
import Derived.Test.YtdghbcjlahjjdaaZoneNewG04
import Derived.Test.YtdghbcjlahjjdaaZoneNewG02
import Derived.Test.YtdghbcjlahjjdaaZoneNewG05
namespace Go.Proofs.Ytdghbcjlahjjdaa
open Go.RowKit
set_option linter.unusedVariables false

set_option maxHeartbeats 2000000 in
set_option maxRecDepth 100000 in
theorem markZone_own {o : List (List Int)} {rs : List Rec} (hs : SizeZ 1048576 o rs) (k0 : Int) (hk0 : 0 ≤ k0) (hk1 : k0 ≤ 4294967296) {B s E : Nat} {vo vr : Value} {w : World} (hB : B ≤ s) (hsE : s ≤ E) (hEw : E ≤ w.heap.size)
    (h1 : OwnN B s 22 5 w vo o) (h2 : RowO s E 28 22 5 3 w vr rs) :
    Calls Try.prog 18 #[.agg #[vo, vr], .int .i64 k0] w fun e w' => e = .returned (.int .i64 (posRs rs (pos o k0 o.length) rs.length)) ∧ OwnN B s 22 5 w' vo (markL o k0) ∧ RowO s E 28 22 5 3 w' vr (markRs rs (pos o k0 o.length) rs.length) ∧ Outside B E w w' := by
  have p1 := pos_bound' o k0 hs.name hs.names
  obtain ⟨oa, oc, rfl, _⟩ := h1.hasL.form
  obtain ⟨ra, rc, rfl, _⟩ := h2.form
  have b0 := below_alloc (w := w) (.cells #[.slice oa o.length oc, .slice ra rs.length rc] 40)
  have K0 := hide (heap_alloc_new w (.cells #[.slice oa o.length oc, .slice ra rs.length rc] 40))
  have M1 := hide (markName_any k0 (h1.below b0) hs.name hs.names hk0 (by omega))
  have R0 := hide (h2.below b0)
  have HR := hide (fun (w : World) (hh : RowO s E 28 22 5 3 w (.slice ra rs.length rc) rs) (hE : E ≤ w.heap.size) => markRrS_own hs.recs hs.count (pos o k0 o.length) (by omega) (by omega) hE hh)
  have u0 : Outside B E w (w.alloc (.cells #[.slice oa o.length oc, .slice ra rs.length rc] 40)) := Below.outside b0
  have z0 := b0.size
  clear h1 h2 b0 hs
  generalize hMR : markRs rs (pos o k0 o.length) rs.length = MR at *
  generalize hPR : posRs rs (pos o k0 o.length) rs.length = PR at *
  generalize hMO : markL o k0 = MO at *
  clear hMR hPR hMO
  generalize pos o k0 o.length = P1 at *
  go_enter Try.func18, Try.ntmps18
  obtain ⟨c0, c1⟩ := cells2 (unhide K0)
  go_wp2_with fail
  clear c0 c1
  generalize w.alloc (.cells #[.slice oa o.length oc, .slice ra rs.length rc] 40) = W at *
  refine (unhide M1).mono ?_
  rintro e w1 ⟨rfl, n1, u1⟩
  have zw := block_lt (unhide K0)
  have z1 := u1.size
  have N1 := hide n1
  have R1 := hide ((unhide R0).outside u1 (by omega))
  have K1 := hide (u1.kept (unhide K0) (by omega))
  have U1 := u0.trans (u1.wide (B' := B) (E' := E) (by omega) (by omega))
  have HR1 := hide (unhide HR _ (unhide R1) (by omega))
  obtain ⟨c0, c1⟩ := cells2 (unhide K1)
  clear n1 u1 u0 K0 R0 M1 HR
  go_wp2_with fail
  clear c0 c1
  refine (unhide HR1).mono ?_
  rintro e w2 ⟨rfl, r2, u2⟩
  have N2 := hide ((unhide N1).outside u2 (by omega))
  have R2 := hide r2
  have U2 := U1.trans (u2.wide (B' := B) (E' := E) (by omega) (by omega))
  clear r2 u2 HR1 N1
  go_wp2_with fail
  go_ret
  exact ⟨rfl, unhide N2, unhide R2, U2⟩

set_option maxHeartbeats 2000000 in
set_option maxRecDepth 100000 in
theorem heldZone_has {o : List (List Int)} {rs : List Rec} (hs : SizeZ 1048576 o rs) (k0 : Int) (hk0 : 0 ≤ k0) (hk1 : k0 ≤ 4294967296) {vo vr : Value} {w : World}
    (h1 : HasL w vo (markL o k0)) (h2 : HasRs w vr (markRs rs (pos o k0 o.length) rs.length)) :
    Calls Try.prog 19 #[.agg #[vo, vr], .int .i64 k0] w fun e w' => e = .returned (.int .i64 (posRs rs (pos o k0 o.length) rs.length)) ∧ Below w.heap.size w w' := by
  have p1 := pos_bound' o k0 hs.name hs.names
  have p2 := posRs_bound hs.recs (pos o k0 o.length) rs.length (Nat.le_refl _)
  have hz : ((rs.length : Int)) * 2199025352707 ≤ 1048576 * 2199025352707 := by have := hs.count; omega
  obtain ⟨oa, oc, rfl, _⟩ := h1.form
  obtain ⟨ra, rc, rfl, _⟩ := h2.form
  rw [markL_length, markRs_length] at *
  have b0 := below_alloc (w := w) (.cells #[.slice oa o.length oc, .slice ra rs.length rc] 40)
  have K0 := hide (heap_alloc_new w (.cells #[.slice oa o.length oc, .slice ra rs.length rc] 40))
  have M1 := hide (heldName_has k0 (h1.below b0) hs.name hs.names hk0 (by omega))
  have R0 := hide (h2.below b0)
  have HR := hide (fun (w : World) (hh : HasRs w (.slice ra rs.length rc) (markRs rs (pos o k0 o.length) rs.length)) => heldRrS_has hs.recs hs.count (pos o k0 o.length) (by omega) (by omega) hh)
  have n1 : ¬ pos o k0 o.length < 0 := by omega
  have n2 : ¬ posRs rs (pos o k0 o.length) rs.length < 0 := by omega
  clear h1 h2 hs p1 p2 hz
  generalize markRs rs (pos o k0 o.length) rs.length = MR at *
  generalize posRs rs (pos o k0 o.length) rs.length = PR at *
  generalize pos o k0 o.length = P1 at *
  go_enter Try.func19, Try.ntmps19
  obtain ⟨c0, c1⟩ := cells2 (unhide K0)
  go_wp2_with fail
  clear c0 c1
  generalize w.alloc (.cells #[.slice oa o.length oc, .slice ra rs.length rc] 40) = W at *
  refine (unhide M1).mono ?_
  rintro e w1 ⟨rfl, b1⟩
  have bb := below_next b0 b1
  have R1 := hide ((unhide R0).below b1)
  have K1 := hide (block_kept b1 (unhide K0))
  obtain ⟨c0, c1⟩ := cells2 (unhide K1)
  clear b0 b1 R0 M1 K0
  go_wp2_with fail
  refine (unhide HR _ (unhide R1)).mono ?_
  rintro e w2 ⟨rfl, rfl⟩
  go_wp2_with fail
  go_ret
  exact ⟨rfl, bb⟩
end Go.Proofs.Ytdghbcjlahjjdaa

namespace Go.Proofs.Ytdghbcjlahjjdaa
open Go.RowKit
set_option linter.unusedVariables false

set_option maxHeartbeats 400000 in
set_option maxRecDepth 100000 in
theorem copyBytes_reads {v : Value} {l : List Int} {w : World} (h : Reads w v l) (hl : l.length ≤ 2097152) :
    Calls Try.prog 102 #[v] w fun e w' => ∃ v', e = .returned v' ∧ Own w.heap.size 5 w' v' l ∧ Below w.heap.size w w' := by
  go_enter Try.func102, Try.ntmps102
  go_wp2_with (at_builtin; refine append_bytes rfl _ _ 22 5 rfl Try.underlying22 info_u8 w.heap.size (.slice none 0 0) v [] l rfl rfl (World.ownsRow_nil _ _ _ _) h ?c1 (Nat.le_refl _) ?_)
  case c1 => simp; omega
  intro v' w1 hown hgrow
  go_wp2
  go_ret
  exact ⟨v', rfl, hown, below_of_grown hgrow⟩

theorem copyBytes_own {B : Nat} {v : Value} {l : List Int} {w : World} (h : Own B 5 w v l) (hl : l.length ≤ 2097152) :
    Calls Try.prog 102 #[v] w fun e w' => ∃ v', e = .returned v' ∧ Own w.heap.size 5 w' v' l ∧ Below w.heap.size w w' := copyBytes_reads h.reads hl
end Go.Proofs.Ytdghbcjlahjjdaa

namespace Go.Proofs.Ytdghbcjlahjjdaa
open Go.RowKit
set_option linter.unusedVariables false

theorem info_sl : (Try.prog.info? 22).map (fun i => (i.zero, i.size, i.bytes)) = some (some (.slice none 0 0), 1, 24) := by kernel_rfl

set_option maxHeartbeats 2000000 in
set_option maxRecDepth 100000 in
theorem copyName_has {v : Value} {n : List (List Int)} {w : World} (h : HasL w v n) (hs : n.length ≤ 6) (hs2 : ∀ k, k < n.length → (n.getD k []).length ≤ 15) :
    Calls Try.prog 106 #[.agg #[v]] w fun e w' => ∃ v', e = .returned (.agg #[v']) ∧ OwnL w.heap.size 22 5 w' v' n ∧ Below w.heap.size w w' := by
  obtain ⟨a, cap, rfl, hcl, hcm⟩ := h.form
  unfold maxLen at hcm
  obtain ⟨hsz, h1, h2⟩ := box3 w (.cells #[.slice a n.length cap] 25) #[.slice none 0 0] #[.slice none 0 0] 25 25
  have bb : Below w.heap.size w (((w.alloc (.cells #[.slice a n.length cap] 25)).alloc (.cells #[.slice none 0 0] 25)).alloc (.cells #[.slice none 0 0] 25)) :=
    ((below_alloc _).alloc (below_alloc _).size _).alloc ((below_alloc _).alloc (below_alloc _).size _).size _
  have H := hide h
  clear h
  have HS2 := hide hs2
  clear hs2
  generalize hn : n.length = m at *
  have HN := hide hn
  clear hn
  go_enter Try.func106, Try.ntmps106
  go_wp2
  generalize ((w.alloc (.cells #[.slice a m cap] 25)).alloc (.cells #[.slice none 0 0] 25)).alloc (.cells #[.slice none 0 0] 25) = W at *
  go_loopw [9] (fun i wr => ∃ (k : Nat) (o : Value), k ≤ m ∧ i = .int .i64 k ∧ wr.heap[w.heap.size + 1]? = some (.cells #[.slice none 0 0] 25) ∧ wr.heap[w.heap.size + 1 + 1]? = some (.cells #[o] 25) ∧ OwnL (w.heap.size + 3) 22 5 wr o (n.take k) ∧ Below w.heap.size w wr) (fun i _ => m - (intOf i).toNat)
  case atStart => exact ⟨0, .slice none 0 0, Nat.zero_le _, rfl, h1, h2, ⟨[], by simpa using World.ownsRow_nil _ _ _ _, by simp, by simp⟩, bb⟩
  case round =>
    obtain ⟨k, o, hk, rfl, hr1, hr2, ho, hb⟩ := hrel
    by_cases hlt : k < m
    · obtain ⟨b, off, u, rfl, hbl, hc, hu⟩ := ((unhide H).below hb).here (k := k) (by rw [unhide HN]; exact hlt)
      have hlk := unhide HS2 k hlt
      have htk := hide (show n.take (k + 1) = n.take k ++ [n.getD k []] by rw [List.take_succ_eq_append_getElem (by rw [unhide HN]; exact hlt)]; simp [show k < n.length by rw [unhide HN]; exact hlt])
      have htl : (n.take k).length = k := by rw [List.length_take, unhide HN]; omega
      generalize n.getD k [] = lab at *
      generalize n.take k = nk at *
      subst htl
      have HU := hide hu
      obtain ⟨ua, uc, rfl, _⟩ := hu.form
      clear hu
      obtain ⟨oa, oc, rfl, _⟩ := ho.hasL.form
      have hod := ho.below (below_drew (w := wr))
      clear ho
      have HO := hide hod
      obtain ⟨vs, hvs, hva, hvd⟩ := hod
      have hvl : vs.length = nk.length := by have := hvs.1; simpa using this
      have kd2 := block_kept (below_drew (w := wr)) hr2
      have kd1 := block_kept (below_drew (w := wr)) hr1
      have bd := below_next hb (below_drew (w := wr))
      have cod := block_one kd2
      have HUd := hide ((unhide HU).below below_drew)
      have HVS := hide hvs
      have HVA := hide hva
      have HVD := hide hvd
      have z3 := block_lt hr2
      have zb : w.heap.size + 3 ≤ wr.drew.heap.size := by show w.heap.size + 3 ≤ wr.heap.size; omega
      clear hva hvd hvs
      have KD2 := hide kd2
      have KD1 := hide kd1
      clear kd2 kd1
      go_wp2_with fail
      go_region_law (first
        | (refine step_append_row rfl (.tmp 14) (.tmp 17) 23 22 rfl Try.underlying23 info_sl (w.heap.size + 3) (.slice oa nk.length oc) _ vs [.slice u1a lab.length u1c] (by simp [Act.eval]) (by simp [Act.eval]) (by rw [hvl]; exact World.ownsRow.alloc (ownsRow_kept' (unhide HVS) (unhide B1)) _) (one_more w1 22 _) (by intro y hy; simp at hy; subst hy; rfl) (by rw [hvl]; simp; omega) (by have := (unhide B1).size; simp; omega) ?_; intro v2 w2 o2 g2; obtain ⟨p2, k2, y2⟩ := snoc_step g2 o2 rfl (unhide HVS) (unhide HVA) (unhide HVD) ((unhide B1).alloc (unhide B1).size _) ((unhide OU).alloc _) zb (by decide) (block_kept (below_alloc _) (block_kept (unhide B1) (unhide KD2))) (by decide); obtain ⟨v2a, v2c, rfl, _⟩ := p2.hasL.form; have co2 := block_one k2; have fo2 := block_frozen k2 0)
        | (go_simp; go_at_call 102; refine (copyBytes_reads (unhide HUd).reads (by omega)).mono ?_; rintro e w1 ⟨u1, rfl, ou, b1⟩; obtain ⟨u1a, u1c, rfl, _⟩ := ou.lies; have OU := hide ou; have B1 := hide b1; have co1 := block_one (block_kept b1 (unhide KD2)); have ca1 : ∀ o, (w1.alloc o).cell? ⟨w.heap.size + 1 + 1, 0, none⟩ = some (.slice oa nk.length oc) := (fun o => block_one (block_kept (below_alloc o) (block_kept b1 (unhide KD2)))); clear ou b1))
      all_goals
        go_wp2_with fail
        have k1 := (y2.block (w.heap.size + 1) (by omega)).trans (unhide KD1)
        refine ⟨⟨nk.length + 1, _, by omega, by go_num, block_other k1 (by omega) 0 _, block_set k2 _, ?_, (bd.trans (y2.mono (by omega))).setCell (by show w.heap.size ≤ w.heap.size + 1 + 1; omega) _⟩, by simp [intOf]; omega⟩
        rw [unhide htk]
        simp only [List.length_append, List.length_cons, List.length_nil] at p2
        exact p2.kept (grown_setCell _ _ _) (by show w.heap.size + 1 + 1 < _; omega)
    · obtain rfl : k = m := by omega
      obtain ⟨oa, oc, rfl, _⟩ := ho.hasL.form
      have htk : n.take k = n := List.take_of_length_le (by rw [unhide HN]; omega)
      rw [htk] at ho
      have HLK := hide (show (n.take k).length = n.length by rw [htk])
      rw [unhide HLK] at hr2
      have HO := hide ho
      have c2 := block_one hr2
      have c1 := block_one hr1
      have f1 := block_frozen hr1 0
      have M1 := hide (block_set hr1 (.slice oa n.length oc))
      clear ho htk hr1 hr2 HLK
      go_wp2
      refine bodyPost_ret (results_cell_row rfl _ _ (w.heap.size + 1) 25 #[.slice oa n.length oc] (0, 0) _ rfl (unhide M1) Try.underlying25 rfl (by kernel_rfl)) rfl ?_
      exact ⟨_, rfl, ((unhide HO).kept (grown_setCell _ _ _) (by show w.heap.size + 1 < _; omega)).mono (by omega), hb.setCell (by show w.heap.size ≤ w.heap.size + 1; omega) _⟩
end Go.Proofs.Ytdghbcjlahjjdaa
