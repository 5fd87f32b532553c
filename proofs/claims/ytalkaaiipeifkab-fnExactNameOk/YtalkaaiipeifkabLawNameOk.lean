/-
  The walk of laws.FnExactNameOk.
-/
import Derived.Test.YtalkaaiipeifkabNames
import Derived.Test.YtalkaaiipeifkabINameOk
import Derived.Test.YtalkaaiipeifkabSNameOk
import Derived.Deep.RegionWith
namespace Go.Proofs.Ytalkaaiipeifkab
open Go.RowKit
set_option linter.unusedVariables false

set_option maxHeartbeats 1000000 in
set_option maxRecDepth 100000 in
theorem lawNameOk (a : Option Addr) (cap : Nat) (n : List (List Int)) (w : World) (h : LiesL w a n) (hm : n.length ≤ maxLen) (hm2 : ∀ i, i < n.length → (n.getD i []).length ≤ maxLen) :
    Calls Try.prog 3 #[.agg #[.slice a n.length cap]] w fun e w' => e = .returned (.bool true) ∧ Below w.heap.size w w' := by
  generalize hg : nameOk n = g
  have HG := hide hg
  clear hg
  have hb0 := below_alloc (w := w) (.cells #[.slice a n.length cap] 24)
  have hA := hide (h.below hb0)
  clear h
  have hk0 : (w.alloc (.cells #[.slice a n.length cap] 24)).heap[w.heap.size]? = some (.cells #[.slice a n.length cap] 24) := heap_alloc_new _ _
  have hz0 : (w.alloc (.cells #[.slice a n.length cap] 24)).heap.size = w.heap.size + 1 := by simp
  have hsz := hide (szName_any a cap n 1048576 _ (unhide hA) hm hm2 (by omega) (by omega))
  clear hm hm2
  go_enter Try.func3, Try.ntmps3
  go_wp2_with fail
  generalize w.alloc (.cells #[.slice a n.length cap] 24) = W at *
  refine (unhide hsz).mono ?_
  rintro e w1 ⟨⟨r, rfl, hr0, hr1, hr2⟩, b1⟩
  have hk1 := (b1.block w.heap.size (by omega)).trans hk0
  have hL1 := hide ((unhide hA).below b1)
  have b1 := below_next hb0 b1
  have z1 : w.heap.size < w1.heap.size := by have := (b1).size; have : w1.heap[w.heap.size]? ≠ none := by rw [hk1]; simp
                                             simpa using this
  clear hsz hA hb0 hk0 hz0
  by_cases hneg : r < 0
  · clear hr2
    go_wp2_with fail
    go_ret
    exact ⟨rfl, b1⟩
  · obtain ⟨hn1, hn2⟩ := hr2 (by omega)
    have hl : n.length ≤ 1048576 := by omega
    have HL2 := hide (show ∀ i, i < n.length → (n.getD i []).length ≤ 1048576 from fun i hi => by have := hn2 i hi; omega)
    have HL3 := hide (show ∀ i, i < n.length → (n.getD i []).length ≤ 1048580 from fun i hi => by have := hn2 i hi; omega)
    clear hr2 hn1 hn2
    have hc1 := block_cell hk1 0
    simp only [List.getElem?_toArray, List.getElem?_cons_zero] at hc1
    go_wp2_with fail
    refine (toName_any a cap n _ (unhide hL1) hl (unhide HL2)).mono ?_
    rintro e w2 ⟨v2, rfl, o2, b2⟩
    go_wp2_with fail
    refine (specNameOk_has o2.hasL).mono ?_
    rw [unhide HG]
    rintro e w3 ⟨rfl, b3⟩
    have b13 := below_next b2 b3
    have hk3 := (b13.block w.heap.size z1).trans hk1
    have hL3 := hide ((unhide hL1).below b13)
    have bb3 := below_next b1 b13
    have z3 := Nat.lt_of_lt_of_le z1 b13.size
    clear hc1 b2 b3 b13 hk1 hL1 b1 z1 o2
    have hc3 := block_cell hk3 0
    simp only [List.getElem?_toArray, List.getElem?_cons_zero] at hc3
    go_wp2_with fail
    refine (toName_any a cap n _ (unhide hL3) hl (unhide HL2)).mono ?_
    rintro e w4 ⟨v4, rfl, o4, b4⟩
    obtain ⟨va, vc, rfl, _⟩ := o4.hasL.form
    have b5 := below_alloc (w := w4) (.cells #[.slice va n.length vc] 27)
    have k5 := heap_alloc_new w4 (.cells #[.slice va n.length vc] 27)
    have hk4 := block_kept b4 hk3
    have hL4 := hide ((unhide hL3).below b4)
    have bb4 := below_next bb3 b4
    clear hc3 hk3 hL3 bb3 b4 z3
    go_wp2_with fail
    generalize w4.alloc (.cells #[.slice va n.length vc] 27) = w5 at *
    have hk5 := block_kept b5 hk4
    have o5 := o4.below b5
    have hL5 := hide ((unhide hL4).below b5)
    have bb5 := below_next bb4 b5
    clear hk4 hL4 bb4 b5 o4
    refine (implNameOk_has o5.hasL).mono ?_
    rw [unhide HG]
    rintro e w6 ⟨rfl, b6⟩
    have k6 := block_kept b6 k5
    have hk6 := block_kept b6 hk5
    have o6 := o5.below b6
    have hL6 := hide ((unhide hL5).below b6)
    have bb6 := below_next bb5 b6
    clear k5 hk5 o5 hL5 bb5 b6
    have c6 := block_one k6
    have ca6 := block_one hk6
    have O6 := hide o6
    clear o6
    go_wp2_with fail
    have bd6 := below_next bb6 below_drew
    have hLd := hide ((unhide hL6).below below_drew)
    have od := hide ((unhide O6).below below_drew)
    have kd := block_kept below_drew k6
    have cd6 := block_one kd
    have cad6 := block_one (block_kept below_drew hk6)
    have HK := hide kd
    clear k6 hk6 kd hL6 O6 bb6 c6 ca6
    go_region_with (first
      | (go_at_call 11; refine (toName_any a cap n _ (unhide hLd) hl (unhide HL2)).mono ?_; rintro e w7 ⟨v7, rfl, o7, b7⟩; have c7 := block_one (block_kept b7 (unhide HK)); obtain ⟨va7, vc7, rfl, _⟩ := o7.hasL.form)
      | (go_at_call 13; refine (eqName_has ((unhide od).below b7).hasL o7.hasL (unhide HL3)).mono ?_; rintro e w8 ⟨rfl, b8⟩))
    all_goals
      go_wp2_with fail
      go_ret
      exact ⟨rfl, below_next (below_next bd6 b7) b8⟩
end Go.Proofs.Ytalkaaiipeifkab
