/-
  Contracts of the program's Under.
-/
import Derived.Test.YtalkaaiipeifkabINameCmp
import Derived.Test.YtalkaaiipeifkabUnderOf
namespace Go.Proofs.Ytalkaaiipeifkab
open Go.RowKit
set_option linter.unusedVariables false

set_option maxHeartbeats 2000000 in
set_option maxRecDepth 100000 in
theorem implUnder_has {v v' : Value} {n n' : List (List Int)} {w : World} (h : HasL w v n) (h' : HasL w v' n') :
    Calls Try.prog 27 #[.agg #[v], .agg #[v']] w fun e w' => e = .returned (.bool (under n n')) ∧ Below w.heap.size w w' := by
  obtain ⟨a, cap, rfl, hcl, hcm⟩ := h.form
  obtain ⟨a', cap', rfl, _⟩ := h'.form
  unfold maxLen at hcm
  have b1 := below_alloc (w := w) (.cells #[.slice a n.length cap] 27)
  have k1 := heap_alloc_new w (.cells #[.slice a n.length cap] 27)
  have e1 : (w.alloc (.cells #[.slice a n.length cap] 27)).heap.size = w.heap.size + 1 := by show (w.heap.push _).size = _; simp
  have b2 := below_alloc (w := w.alloc (.cells #[.slice a n.length cap] 27)) (.cells #[.slice a' n'.length cap'] 27)
  have x2 := heap_alloc_new (w.alloc (.cells #[.slice a n.length cap] 27)) (.cells #[.slice a' n'.length cap'] 27)
  have k2 := block_kept b2 k1
  rw [e1] at x2
  have bb2 := below_next b1 b2
  have h2 := hide (h.below bb2)
  have h2' := hide (h'.below bb2)
  clear h h' b1 b2 k1 e1
  unfold under
  cases hok : nameOk n with
  | false =>
    rw [Bool.false_and]
    have HOK := hide hok
    clear hok
    go_enter Try.func27, Try.ntmps27
    go_wp2_with fail
    generalize (w.alloc (.cells #[.slice a n.length cap] 27)).alloc (.cells #[.slice a' n'.length cap'] 27) = W at *
    refine (implNameOk_has (unhide h2)).mono ?_
    rw [unhide HOK]
    rintro e w3 ⟨rfl, b3⟩
    go_wp2_with fail
    go_ret
    exact ⟨rfl, below_next bb2 b3⟩
  | true =>
    cases hok' : nameOk n' with
    | false =>
      rw [Bool.true_and, Bool.false_and]
      have HOK := hide hok
      have HOK' := hide hok'
      clear hok hok'
      go_enter Try.func27, Try.ntmps27
      go_wp2_with fail
      generalize (w.alloc (.cells #[.slice a n.length cap] 27)).alloc (.cells #[.slice a' n'.length cap'] 27) = W at *
      refine (implNameOk_has (unhide h2)).mono ?_
      rw [unhide HOK]
      rintro e w3 ⟨rfl, b3⟩
      have x3 := block_one (block_kept b3 x2)
      go_wp2_with fail
      refine (implNameOk_has ((unhide h2').below b3)).mono ?_
      rw [unhide HOK']
      rintro e w4 ⟨rfl, b4⟩
      go_wp2_with fail
      go_ret
      exact ⟨rfl, below_next bb2 (below_next b3 b4)⟩
    | true =>
      rw [Bool.true_and, Bool.true_and]
      have hs := (nameOk_parts hok).1
      have hs' := (nameOk_parts hok').1
      have hno := hide (fun (hlt : n.length < n'.length) => endsWith_no hlt)
      have hyes := hide (fun (hle : n'.length ≤ n.length) => (show endsWith n n' = (nameCmp (n.drop (n.length - n'.length)) n' == 0) by
        rw [endsWith_yes hle]; unfold nameCmp; rw [if_pos ⟨nameOk_drop hok _, hok'⟩]))
      have HOK := hide hok
      have HOK' := hide hok'
      clear hok hok'
      generalize endsWith n n' = R at *
      have hdrop := hide (fun (W : World) (hW : HasL W (.slice a n.length cap) n) (k : Nat) (hk : k ≤ n.length) => HasL.drop hW rfl hk)
      go_enter Try.func27, Try.ntmps27
      go_wp2_with fail
      generalize (w.alloc (.cells #[.slice a n.length cap] 27)).alloc (.cells #[.slice a' n'.length cap'] 27) = W0 at *
      refine (implNameOk_has (unhide h2)).mono ?_
      rw [unhide HOK]
      rintro e w3 ⟨rfl, b3⟩
      have x3 := block_one (block_kept b3 x2)
      go_wp2_with fail
      refine (implNameOk_has ((unhide h2').below b3)).mono ?_
      rw [unhide HOK']
      rintro e W ⟨rfl, b4⟩
      have b4 := below_next b3 b4
      have cx := block_one (block_kept b4 x2)
      have ck := block_one (block_kept b4 k2)
      have h4 := hide ((unhide h2).below b4)
      have h4' := hide ((unhide h2').below b4)
      have bb4 := below_next bb2 b4
      clear x3 x2 k2 h2 h2' b3 b4 bb2 HOK HOK'
      by_cases hle : n'.length ≤ n.length
      · have hr := unhide hyes hle
        have hd := unhide hdrop W (unhide h4) (n.length - n'.length) (by omega)
        clear hyes hno hdrop
        generalize hj : n.length - n'.length = j at *
        have hlen : (n.drop j).length = n.length - j := by simp
        generalize n.drop j = nd at *
        have i0 : ¬ (n.length : Int) < n'.length := by omega
        have s1 : (n.length : Int) - n'.length = j := by omega
        have wj : IntKind.i64.wrap (j : Int) = j := wrap_small j (by omega)
        have jl : j ≤ n.length := by omega
        have jc : j ≤ cap := by omega
        rcases hd with ⟨ha, hm0, hc0⟩ | ⟨g, off, ha, hd⟩
        · have hz' : n'.length = 0 := by omega
          have hz : j = 0 := by omega
          obtain rfl : nd = [] := List.eq_nil_of_length_eq_zero (by omega)
          obtain rfl : n' = [] := List.eq_nil_of_length_eq_zero hz'
          obtain rfl : n = [] := List.eq_nil_of_length_eq_zero hm0
          subst ha hc0 hz
          clear hj hlen i0 s1 wj jl jc hz' hm0 hle hs hs' hcl
          simp only [List.length_nil] at *
          have HD := hide (show HasL W (.slice none 0 0) [] from .inl ⟨rfl, rfl⟩)
          go_wp2_with fail
          refine (implNameCmp_has (unhide HD) (unhide h4')).mono ?_
          generalize nameCmp [] [] = c at *
          subst hr
          rintro e w5 ⟨rfl, b5⟩
          go_wp2_with fail
          go_ret
          exact ⟨rfl, below_next bb4 b5⟩
        · subst ha
          by_cases hcj : cap = j
          · have e2 : j = n.length := by omega
            have e1 : cap = n.length := by omega
            obtain rfl : n' = [] := List.eq_nil_of_length_eq_zero (by omega)
            obtain rfl : nd = [] := List.eq_nil_of_length_eq_zero (by omega)
            rw [if_pos hcj, e1, e2, Nat.sub_self] at hd
            have HD := hide hd
            subst e1 e2
            clear hd hj hlen hcj hle hs' jl jc s1 i0 hcl
            simp only [List.length_nil] at *
            generalize hn : n.length = m at *
            go_wp2_with fail
            refine (implNameCmp_has (unhide HD) (unhide h4')).mono ?_
            generalize nameCmp [] [] = c at *
            subst hr
            rintro e w5 ⟨rfl, b5⟩
            go_wp2_with fail
            go_ret
            exact ⟨rfl, below_next bb4 b5⟩
          · rw [if_neg hcj] at hd
            have HD := hide hd
            clear hd
            generalize hn : n.length = m at *
            generalize hn' : n'.length = m' at *
            go_wp2_with fail
            refine (implNameCmp_has (unhide HD) (unhide h4')).mono ?_
            generalize nameCmp nd n' = c at *
            subst hr
            rintro e w5 ⟨rfl, b5⟩
            go_wp2_with fail
            go_ret
            exact ⟨rfl, below_next bb4 b5⟩
      · have hr := unhide hno (by omega)
        subst hr
        have i0 : (n.length : Int) < n'.length := by omega
        go_wp2_with fail
        go_ret
        exact ⟨rfl, bb4⟩
end Go.Proofs.Ytalkaaiipeifkab
