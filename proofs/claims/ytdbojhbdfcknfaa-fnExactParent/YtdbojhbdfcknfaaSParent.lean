/-
  Contracts of the specification's Parent.
-/
import Derived.Test.YtdbojhbdfcknfaaSNameOk
import Derived.Test.YtdbojhbdfcknfaaSOwn
import Derived.Test.YtdbojhbdfcknfaaUnderOf
namespace Go.Proofs.Ytdbojhbdfcknfaa
open Go.RowKit
set_option linter.unusedVariables false

set_option maxHeartbeats 800000 in
set_option maxRecDepth 100000 in
theorem specParent_has {v : Value} {n : List (List Int)} {w : World} (h : HasL w v n) :
    Calls Try.prog 57 #[.agg #[v]] w fun e w' => ∃ v', e = .returned (.tuple #[.agg #[v'], .bool (parentOf n).2]) ∧ OwnL w.heap.size 22 5 w' v' (parentOf n).1 ∧ Below w.heap.size w w' := by
  obtain ⟨a, cap, rfl, hcl, hm⟩ := h.form
  unfold maxLen at hm
  obtain ⟨hsz, k0, r0⟩ := box2 w (.cells #[.slice a n.length cap] 25) #[.slice none 0 0] 25
  have b0 := below2 w (.cells #[.slice a n.length cap] 25) (.cells #[.slice none 0 0] 25)
  have h0 := hide (h.below b0)
  clear h
  cases hok : nameOk n with
  | false =>
    rw [parentOf_no hok]
    have HOK := hide hok
    clear hok
    go_enter Try.func57, Try.ntmps57
    go_wp2_with fail
    generalize (w.alloc (.cells #[.slice a n.length cap] 25)).alloc (.cells #[.slice none 0 0] 25) = W0 at *
    refine (specNameOk_has (unhide h0)).mono ?_
    rw [unhide HOK]
    rintro e w1 ⟨rfl, b1⟩
    have bb1 := below_next b0 b1
    have r1 := block_kept b1 r0
    have c1 := block_one r1
    have f1 := block_frozen r1 0
    have M1 := hide (block_set r1 (.slice none 0 0))
    clear b0 k0 h0 b1 r0 r1
    go_wp2_with fail
    refine bodyPost_ret (results_cell_tmp_row rfl _ _ (w.heap.size + 1) 25 #[.slice none 0 0] (0, 0) _ rfl (unhide M1) Try.underlying25 rfl (by kernel_rfl)) rfl ?_
    exact ⟨_, rfl, ⟨[], by simpa using World.ownsRow_nil _ _ _ _, by simp, by simp⟩, bb1.setCell (by show w.heap.size ≤ w.heap.size + 1; omega) _⟩
  | true =>
    have HOK := hide hok
    by_cases hn0 : n.length = 0
    · rw [parentOf_root hn0]
      clear hok
      obtain rfl : n = [] := List.eq_nil_of_length_eq_zero hn0
      simp only [List.length_nil] at *
      clear hn0
      go_enter Try.func57, Try.ntmps57
      go_wp2_with fail
      generalize (w.alloc (.cells #[.slice a 0 cap] 25)).alloc (.cells #[.slice none 0 0] 25) = W0 at *
      refine (specNameOk_has (unhide h0)).mono ?_
      rw [unhide HOK]
      rintro e w1 ⟨rfl, b1⟩
      have bb1 := below_next b0 b1
      have r1 := block_kept b1 r0
      have k1 := block_one (block_kept b1 k0)
      have c1 := block_one r1
      have f1 := block_frozen r1 0
      have M1 := hide (block_set r1 (.slice none 0 0))
      clear b0 k0 h0 b1 r0 r1
      go_wp2_with fail
      refine bodyPost_ret (results_cell_tmp_row rfl _ _ (w.heap.size + 1) 25 #[.slice none 0 0] (0, 0) _ rfl (unhide M1) Try.underlying25 rfl (by kernel_rfl)) rfl ?_
      exact ⟨_, rfl, ⟨[], by simpa using World.ownsRow_nil _ _ _ _, by simp, by simp⟩, bb1.setCell (by show w.heap.size ≤ w.heap.size + 1; omega) _⟩
    · rw [parentOf_yes hok hn0]
      have h6 := (nameOk_parts (nameOk_drop hok 1)).1
      have HLEN := hide (show ∀ k, k < (n.drop 1).length → ((n.drop 1).getD k []).length ≤ 15 from fun k hk => (labelOk_length ((nameOk_parts (nameOk_drop hok 1)).2 k hk)).2)
      clear hok
      have hn1 : ((n.length : Int) == 0) = false := by rw [beq_eq_false_iff_ne]; omega
      have hdrop := hide (fun (W : World) (hW : HasL W (.slice a n.length cap) n) => HasL.drop (k := 1) hW rfl (by omega))
      have hle : (1 : Int) ≤ (n.length : Int) := by omega
      go_enter Try.func57, Try.ntmps57
      go_wp2_with fail
      generalize (w.alloc (.cells #[.slice a n.length cap] 25)).alloc (.cells #[.slice none 0 0] 25) = W0 at *
      refine (specNameOk_has (unhide h0)).mono ?_
      rw [unhide HOK]
      rintro e w1 ⟨rfl, b1⟩
      have bb1 := below_next b0 b1
      have r1 := hide (block_kept b1 r0)
      have k1 := block_one (block_kept b1 k0)
      have h1 := (unhide h0).below b1
      have z1 := block_lt (unhide r1)
      clear b0 k0 h0 b1 r0
      rcases unhide hdrop w1 h1 with ⟨_, hz, _⟩ | ⟨g, off, rfl, hd⟩
      · exact absurd hz hn0
      clear hdrop h1
      rcases hd.drop_cases with ⟨hcap, hd⟩ | ⟨hcap, hd⟩
      all_goals
        have HD := hide hd
        clear hd
        go_wp2_with fail
        refine (l2own_has (unhide HD) h6 (unhide HLEN)).mono ?_
        rintro e w2 ⟨v2, rfl, o2, b2⟩
        obtain ⟨va, vc, rfl, _⟩ := o2.hasL.form
        have r2 := block_kept b2 (unhide r1)
        have c2 := block_one r2
        have f2 := block_frozen r2 0
        have M2 := hide (block_set r2 (.slice va (n.drop 1).length vc))
        have O2 := hide o2
        clear r1 r2 o2 HD
        generalize hnd : n.drop 1 = nd at *
        have HND := hide hnd
        clear hnd
        go_wp2_with fail
        refine bodyPost_ret (results_cell_tmp_row rfl _ _ (w.heap.size + 1) 25 #[.slice va nd.length vc] (0, 0) _ rfl (unhide M2) Try.underlying25 rfl (by kernel_rfl)) rfl ?_
        have O3 := OwnL.kept (unhide O2) (grown_setCell w2 ⟨w.heap.size + 1, 0, none⟩ (.slice va nd.length vc)) (by show w.heap.size + 1 < w1.heap.size; omega)
        have hnd := unhide HND
        subst hnd
        exact ⟨_, rfl, O3.mono (Nat.le_of_lt (Nat.lt_of_succ_lt z1)), (below_next bb1 b2).setCell (by show w.heap.size ≤ w.heap.size + 1; omega) _⟩
end Go.Proofs.Ytdbojhbdfcknfaa
