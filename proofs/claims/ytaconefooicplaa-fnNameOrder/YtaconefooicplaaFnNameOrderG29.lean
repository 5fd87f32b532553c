/-
  Contracts of the program's copyName: a name of its own with the same labels. Contracts of the program's Parent.
-/
import Derived.Test.YtaconefooicplaaFnNameOrderG21
import Derived.Test.YtaconefooicplaaFnNameOrderG08
import Derived.Test.YtaconefooicplaaFnNameOrderG23
import Derived.Test.YtaconefooicplaaFnNameOrderG25
namespace Go.Proofs.Ytaconefooicplaa
open Go.RowKit
set_option linter.unusedVariables false

theorem info_sl : (Try.prog.info? 22).map (fun i => (i.zero, i.size, i.bytes)) = some (some (.slice none 0 0), 1, 24) := by kernel_rfl

set_option maxHeartbeats 2000000 in
set_option maxRecDepth 100000 in
theorem copyName_has {v : Value} {n : List (List Int)} {w : World} (h : HasL w v n) (hs : n.length ≤ 6) (hs2 : ∀ k, k < n.length → (n.getD k []).length ≤ 15) :
    Calls Try.prog 51 #[.agg #[v]] w fun e w' => ∃ v', e = .returned (.agg #[v']) ∧ OwnL w.heap.size 22 5 w' v' n ∧ Below w.heap.size w w' := by
  obtain ⟨a, cap, rfl, hcl, hcm⟩ := h.form
  unfold maxLen at hcm
  obtain ⟨hsz, h1, h2⟩ := box3 w (.cells #[.slice a n.length cap] 25) #[.slice none 0 0] #[.slice none 0 0] 25 25
  have bb : Below w.heap.size w (((w.alloc (.cells #[.slice a n.length cap] 25)).alloc (.cells #[.slice none 0 0] 25)).alloc (.cells #[.slice none 0 0] 25)) :=
    ((below_alloc _).alloc (below_alloc _).size _).alloc ((below_alloc _).alloc (below_alloc _).size _).size _
  have H := hide h
  clear h
  have HS2 := hide hs2
  clear hs2
  generalize hn : n.length = m at *
  have HN := hide hn
  clear hn
  go_enter Try.func51, Try.ntmps51
  go_wp2
  generalize ((w.alloc (.cells #[.slice a m cap] 25)).alloc (.cells #[.slice none 0 0] 25)).alloc (.cells #[.slice none 0 0] 25) = W at *
  go_loopw [9] (fun i wr => ∃ (k : Nat) (o : Value), k ≤ m ∧ i = .int .i64 k ∧ wr.heap[w.heap.size + 1]? = some (.cells #[.slice none 0 0] 25) ∧ wr.heap[w.heap.size + 1 + 1]? = some (.cells #[o] 25) ∧ OwnL (w.heap.size + 3) 22 5 wr o (n.take k) ∧ Below w.heap.size w wr) (fun i _ => m - (intOf i).toNat)
  case atStart => exact ⟨0, .slice none 0 0, Nat.zero_le _, rfl, h1, h2, ⟨[], by simpa using World.ownsRow_nil _ _ _ _, by simp, by simp⟩, bb⟩
  case round =>
    obtain ⟨k, o, hk, rfl, hr1, hr2, ho, hb⟩ := hrel
    by_cases hlt : k < m
    · obtain ⟨b, off, u, rfl, hbl, hc, hu⟩ := ((unhide H).below hb).here (k := k) (by rw [unhide HN]; exact hlt)
      have hlk := unhide HS2 k hlt
      have htk := hide (show n.take (k + 1) = n.take k ++ [n.getD k []] by rw [List.take_succ_eq_append_getElem (by rw [unhide HN]; exact hlt)]; simp [show k < n.length by rw [unhide HN]; exact hlt])
      have htl : (n.take k).length = k := by rw [List.length_take, unhide HN]; omega
      generalize n.getD k [] = lab at *
      generalize n.take k = nk at *
      subst htl
      have HU := hide hu
      obtain ⟨ua, uc, rfl, _⟩ := hu.form
      clear hu
      obtain ⟨oa, oc, rfl, _⟩ := ho.hasL.form
      have hod := ho.below (below_drew (w := wr))
      clear ho
      have HO := hide hod
      obtain ⟨vs, hvs, hva, hvd⟩ := hod
      have hvl : vs.length = nk.length := by have := hvs.1; simpa using this
      have kd2 := block_kept (below_drew (w := wr)) hr2
      have kd1 := block_kept (below_drew (w := wr)) hr1
      have bd := below_next hb (below_drew (w := wr))
      have cod := block_one kd2
      have HUd := hide ((unhide HU).below below_drew)
      have HVS := hide hvs
      have HVA := hide hva
      have HVD := hide hvd
      have z3 := block_lt hr2
      have zb : w.heap.size + 3 ≤ wr.drew.heap.size := by show w.heap.size + 3 ≤ wr.heap.size; omega
      clear hva hvd hvs
      have KD2 := hide kd2
      have KD1 := hide kd1
      clear kd2 kd1
      go_wp2_with fail
      go_region_law (first
        | (refine step_append_row rfl (.tmp 14) (.tmp 17) 23 22 rfl Try.underlying23 info_sl (w.heap.size + 3) (.slice oa nk.length oc) _ vs [.slice u1a lab.length u1c] (by simp [Act.eval]) (by simp [Act.eval]) (by rw [hvl]; exact World.ownsRow.alloc (ownsRow_kept' (unhide HVS) (unhide B1)) _) (one_more w1 22 _) (by intro y hy; simp at hy; subst hy; rfl) (by rw [hvl]; simp; omega) (by have := (unhide B1).size; simp; omega) ?_; intro v2 w2 o2 g2; obtain ⟨p2, k2, y2⟩ := snoc_step g2 o2 rfl (unhide HVS) (unhide HVA) (unhide HVD) ((unhide B1).alloc (unhide B1).size _) ((unhide OU).alloc _) zb (by decide) (block_kept (below_alloc _) (block_kept (unhide B1) (unhide KD2))) (by decide); obtain ⟨v2a, v2c, rfl, _⟩ := p2.hasL.form; have co2 := block_one k2; have fo2 := block_frozen k2 0)
        | (go_simp; go_at_call 52; refine (copyBytes_reads (unhide HUd).reads (by omega)).mono ?_; rintro e w1 ⟨u1, rfl, ou, b1⟩; obtain ⟨u1a, u1c, rfl, _⟩ := ou.lies; have OU := hide ou; have B1 := hide b1; have co1 := block_one (block_kept b1 (unhide KD2)); have ca1 : ∀ o, (w1.alloc o).cell? ⟨w.heap.size + 1 + 1, 0, none⟩ = some (.slice oa nk.length oc) := (fun o => block_one (block_kept (below_alloc o) (block_kept b1 (unhide KD2)))); clear ou b1))
      all_goals
        go_wp2_with fail
        have k1 := (y2.block (w.heap.size + 1) (by omega)).trans (unhide KD1)
        refine ⟨⟨nk.length + 1, _, by omega, by go_num, block_other k1 (by omega) 0 _, block_set k2 _, ?_, (bd.trans (y2.mono (by omega))).setCell (by show w.heap.size ≤ w.heap.size + 1 + 1; omega) _⟩, by simp [intOf]; omega⟩
        rw [unhide htk]
        simp only [List.length_append, List.length_cons, List.length_nil] at p2
        exact p2.kept (grown_setCell _ _ _) (by show w.heap.size + 1 + 1 < _; omega)
    · obtain rfl : k = m := by omega
      obtain ⟨oa, oc, rfl, _⟩ := ho.hasL.form
      have htk : n.take k = n := List.take_of_length_le (by rw [unhide HN]; omega)
      rw [htk] at ho
      have HLK := hide (show (n.take k).length = n.length by rw [htk])
      rw [unhide HLK] at hr2
      have HO := hide ho
      have c2 := block_one hr2
      have c1 := block_one hr1
      have f1 := block_frozen hr1 0
      have M1 := hide (block_set hr1 (.slice oa n.length oc))
      clear ho htk hr1 hr2 HLK
      go_wp2
      refine bodyPost_ret (results_cell_row rfl _ _ (w.heap.size + 1) 25 #[.slice oa n.length oc] (0, 0) _ rfl (unhide M1) Try.underlying25 rfl (by kernel_rfl)) rfl ?_
      exact ⟨_, rfl, ((unhide HO).kept (grown_setCell _ _ _) (by show w.heap.size + 1 < _; omega)).mono (by omega), hb.setCell (by show w.heap.size ≤ w.heap.size + 1; omega) _⟩
end Go.Proofs.Ytaconefooicplaa

namespace Go.Proofs.Ytaconefooicplaa
open Go.RowKit
set_option linter.unusedVariables false

set_option maxHeartbeats 800000 in
set_option maxRecDepth 100000 in
theorem implParent_has {v : Value} {n : List (List Int)} {w : World} (h : HasL w v n) :
    Calls Try.prog 20 #[.agg #[v]] w fun e w' => ∃ v', e = .returned (.tuple #[.agg #[v'], .bool (parentOf n).2]) ∧ OwnL w.heap.size 22 5 w' v' (parentOf n).1 ∧ Below w.heap.size w w' := by
  obtain ⟨a, cap, rfl, hcl, hm⟩ := h.form
  unfold maxLen at hm
  obtain ⟨hsz, k0, r0⟩ := box2 w (.cells #[.slice a n.length cap] 25) #[.slice none 0 0] 25
  have b0 := below2 w (.cells #[.slice a n.length cap] 25) (.cells #[.slice none 0 0] 25)
  have h0 := hide (h.below b0)
  clear h
  cases hok : nameOk n with
  | false =>
    rw [parentOf_no hok]
    have HOK := hide hok
    clear hok
    go_enter Try.func20, Try.ntmps20
    go_wp2_with fail
    generalize (w.alloc (.cells #[.slice a n.length cap] 25)).alloc (.cells #[.slice none 0 0] 25) = W0 at *
    refine (implNameOk_has (unhide h0)).mono ?_
    rw [unhide HOK]
    rintro e w1 ⟨rfl, b1⟩
    have bb1 := below_next b0 b1
    have r1 := block_kept b1 r0
    have c1 := block_one r1
    have f1 := block_frozen r1 0
    have M1 := hide (block_set r1 (.slice none 0 0))
    clear b0 k0 h0 b1 r0 r1
    go_wp2_with fail
    refine bodyPost_ret (results_cell_tmp_row rfl _ _ (w.heap.size + 1) 25 #[.slice none 0 0] (0, 0) _ rfl (unhide M1) Try.underlying25 rfl (by kernel_rfl)) rfl ?_
    exact ⟨_, rfl, ⟨[], by simpa using World.ownsRow_nil _ _ _ _, by simp, by simp⟩, bb1.setCell (by show w.heap.size ≤ w.heap.size + 1; omega) _⟩
  | true =>
    have HOK := hide hok
    by_cases hn0 : n.length = 0
    · rw [parentOf_root hn0]
      clear hok
      obtain rfl : n = [] := List.eq_nil_of_length_eq_zero hn0
      simp only [List.length_nil] at *
      clear hn0
      go_enter Try.func20, Try.ntmps20
      go_wp2_with fail
      generalize (w.alloc (.cells #[.slice a 0 cap] 25)).alloc (.cells #[.slice none 0 0] 25) = W0 at *
      refine (implNameOk_has (unhide h0)).mono ?_
      rw [unhide HOK]
      rintro e w1 ⟨rfl, b1⟩
      have bb1 := below_next b0 b1
      have r1 := block_kept b1 r0
      have k1 := block_one (block_kept b1 k0)
      have c1 := block_one r1
      have f1 := block_frozen r1 0
      have M1 := hide (block_set r1 (.slice none 0 0))
      clear b0 k0 h0 b1 r0 r1
      go_wp2_with fail
      refine bodyPost_ret (results_cell_tmp_row rfl _ _ (w.heap.size + 1) 25 #[.slice none 0 0] (0, 0) _ rfl (unhide M1) Try.underlying25 rfl (by kernel_rfl)) rfl ?_
      exact ⟨_, rfl, ⟨[], by simpa using World.ownsRow_nil _ _ _ _, by simp, by simp⟩, bb1.setCell (by show w.heap.size ≤ w.heap.size + 1; omega) _⟩
    · rw [parentOf_yes hok hn0]
      have h6 := (nameOk_parts (nameOk_drop hok 1)).1
      have HLEN := hide (show ∀ k, k < (n.drop 1).length → ((n.drop 1).getD k []).length ≤ 15 from fun k hk => (labelOk_length ((nameOk_parts (nameOk_drop hok 1)).2 k hk)).2)
      clear hok
      have hn1 : ((n.length : Int) == 0) = false := by rw [beq_eq_false_iff_ne]; omega
      have hdrop := hide (fun (W : World) (hW : HasL W (.slice a n.length cap) n) => HasL.drop (k := 1) hW rfl (by omega))
      have hle : (1 : Int) ≤ (n.length : Int) := by omega
      go_enter Try.func20, Try.ntmps20
      go_wp2_with fail
      generalize (w.alloc (.cells #[.slice a n.length cap] 25)).alloc (.cells #[.slice none 0 0] 25) = W0 at *
      refine (implNameOk_has (unhide h0)).mono ?_
      rw [unhide HOK]
      rintro e w1 ⟨rfl, b1⟩
      have bb1 := below_next b0 b1
      have r1 := hide (block_kept b1 r0)
      have k1 := block_one (block_kept b1 k0)
      have h1 := (unhide h0).below b1
      have z1 := block_lt (unhide r1)
      clear b0 k0 h0 b1 r0
      rcases unhide hdrop w1 h1 with ⟨_, hz, _⟩ | ⟨g, off, rfl, hd⟩
      · exact absurd hz hn0
      clear hdrop h1
      rcases hd.drop_cases with ⟨hcap, hd⟩ | ⟨hcap, hd⟩
      all_goals
        have HD := hide hd
        clear hd
        go_wp2_with fail
        refine (copyName_has (unhide HD) h6 (unhide HLEN)).mono ?_
        rintro e w2 ⟨v2, rfl, o2, b2⟩
        obtain ⟨va, vc, rfl, _⟩ := o2.hasL.form
        have r2 := block_kept b2 (unhide r1)
        have c2 := block_one r2
        have f2 := block_frozen r2 0
        have M2 := hide (block_set r2 (.slice va (n.drop 1).length vc))
        have O2 := hide o2
        clear r1 r2 o2 HD
        generalize hnd : n.drop 1 = nd at *
        have HND := hide hnd
        clear hnd
        go_wp2_with fail
        refine bodyPost_ret (results_cell_tmp_row rfl _ _ (w.heap.size + 1) 25 #[.slice va nd.length vc] (0, 0) _ rfl (unhide M2) Try.underlying25 rfl (by kernel_rfl)) rfl ?_
        have O3 := OwnL.kept (unhide O2) (grown_setCell w2 ⟨w.heap.size + 1, 0, none⟩ (.slice va nd.length vc)) (by show w.heap.size + 1 < w1.heap.size; omega)
        have hnd := unhide HND
        subst hnd
        exact ⟨_, rfl, O3.mono (Nat.le_of_lt (Nat.lt_of_succ_lt z1)), (below_next bb1 b2).setCell (by show w.heap.size ≤ w.heap.size + 1; omega) _⟩
end Go.Proofs.Ytaconefooicplaa
