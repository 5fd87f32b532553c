/-
  Contract of the specification's l2under.
-/
import Derived.Test.YtjgfljndeolmoaaGreatAskOfG30
import Derived.Test.YtjgfljndeolmoaaGreatAskOfG19
import Derived.Deep.RegionHeld3
namespace Go.Proofs.YtjgfljndeolmoaaGreat
open Go.RowKit
set_option linter.unusedVariables false

set_option maxHeartbeats 2000000 in
set_option maxRecDepth 100000 in
theorem l2under_has {v v' : Value} {n n' : List (List Int)} {w : World} (h : HasL w v n) (h' : HasL w v' n') (hs : n.length ≤ 6) (hs' : n'.length ≤ 6) :
  Calls Tryz.prog 90 #[.agg #[v], .agg #[v']] w fun e w' => e = .returned (.bool (endsWith n n')) ∧ Below w.heap.size w w' := by
 obtain ⟨a, cap, rfl, hcl, hcm⟩ := h.form
 obtain ⟨a', cap', rfl, _⟩ := h'.form
 unfold maxLen at hcm
 have b1 := below_alloc (w := w) (.cells #[.slice a n.length cap] 57)
 have k1 := heap_alloc_new w (.cells #[.slice a n.length cap] 57)
 have e1 : (w.alloc (.cells #[.slice a n.length cap] 57)).heap.size = w.heap.size + 1 := by show (w.heap.push _).size = _; simp
 have b2 := below_alloc (w := w.alloc (.cells #[.slice a n.length cap] 57)) (.cells #[.slice a' n'.length cap'] 57)
 have x2 := heap_alloc_new (w.alloc (.cells #[.slice a n.length cap] 57)) (.cells #[.slice a' n'.length cap'] 57)
 have k2 := block_kept b2 k1
 rw [e1] at x2
 have bb2 := below_next b1 b2
 have h2 := hide (h.below bb2)
 have h2' := hide (h'.below bb2)
 clear h h' b1 b2 k1 e1
 have hno := hide (fun (hlt : n.length < n'.length) => endsWith_no hlt)
 have hyes := hide (fun (hle : n'.length ≤ n.length) => endsWith_yes hle)
 generalize endsWith n n' = R at *
 have hdrop := hide (fun (W : World) (hW : HasL W (.slice a n.length cap) n) (k : Nat) (hk : k ≤ n.length) => HasL.drop hW rfl hk)
 by_cases hle : n'.length ≤ n.length
 ·have hr := unhide hyes hle
  have HDR := hide (unhide hdrop _ ((unhide h2).below below_drew) (n.length - n'.length) (by omega))
  clear hyes hno hdrop
  generalize hj : n.length - n'.length = j at *
  have hlen : (n.drop j).length = n.length - j := by simp
  generalize n.drop j = nd at *
  have s1 : (n.length : Int) - n'.length = j := by omega
  have wj : IntKind.i64.wrap (j : Int) = j := wrap_small j (by omega)
  have jl : j ≤ n.length := by omega
  have jc : j ≤ cap := by omega
  have j0 : (0 : Int) ≤ j := by omega
  go_enter Tryz.func90, Tryz.ntmps90
  go_wp2_with fail
  generalize (w.alloc (.cells #[.slice a n.length cap] 57)).alloc (.cells #[.slice a' n'.length cap'] 57) = W at *
  have kd := block_kept (below_drew (w := W)) k2
  have xd := block_kept (below_drew (w := W)) x2
  have ck := block_one kd
  have cx := block_one xd
  have KD := hide kd
  have XD := hide xd
  clear kd xd k2 x2
  rcases unhide HDR with ⟨ha, hm0, hc0⟩ | ⟨g, off, ha, hd⟩
  ·clear HDR
   have hz' : n'.length = 0 := by omega
   have hz : j = 0 := by omega
   obtain rfl : nd = [] := List.eq_nil_of_length_eq_zero (by omega)
   obtain rfl : n' = [] := List.eq_nil_of_length_eq_zero hz'
   obtain rfl : n = [] := List.eq_nil_of_length_eq_zero hm0
   subst ha hc0 hz
   clear hj hlen s1 wj jl jc hz' hm0 hle hs hs' hcl j0
   simp only [List.length_nil] at *
   have HD := hide (show HasL W.drew (.slice none 0 0) [] from .inl ⟨rfl, rfl⟩)
   have hS := hide (l2cmp_has (unhide HD) ((unhide h2').below below_drew) (by simp) (by simp))
   go_region_held3 (fun w' => w'.cell? ⟨w.heap.size, 0, none⟩ = some (.slice none 0 0) ∧ w'.cell? ⟨w.heap.size + 1, 0, none⟩ = some (.slice a' 0 cap'))
    (first | (exact ⟨ck, cx⟩) | (exact ⟨c5k, c5x⟩))
    (first | (go_at_call 119; refine (unhide hS).mono ?_; generalize cmpN [] [] = c at *; subst hr; rintro e w5 ⟨rfl, b5⟩; have c5k := block_one (block_kept b5 (unhide KD)); have c5x := block_one (block_kept b5 (unhide XD))))
   all_goals
    go_wp2_with fail
    go_ret
    exact ⟨rfl, below_next (below_next bb2 below_drew) b5⟩
  ·clear HDR
   subst ha
   by_cases hcj : cap = j
   ·have e2 : j = n.length := by omega
    have e1 : cap = n.length := by omega
    obtain rfl : n' = [] := List.eq_nil_of_length_eq_zero (by omega)
    obtain rfl : nd = [] := List.eq_nil_of_length_eq_zero (by omega)
    rw [if_pos hcj, e1, e2, Nat.sub_self] at hd
    have HD := hide hd
    subst e1 e2
    clear hd hj hlen hcj hle hs' jl jc s1 hcl
    simp only [List.length_nil] at *
    generalize hn : n.length = m at *
    have hS := hide (l2cmp_has (unhide HD) ((unhide h2').below below_drew) (by simp) (by simp))
    go_region_held3 (fun w' => w'.cell? ⟨w.heap.size, 0, none⟩ = some (.slice (some ⟨g, off, none⟩) m m) ∧ w'.cell? ⟨w.heap.size + 1, 0, none⟩ = some (.slice a' 0 cap'))
     (first | (exact ⟨ck, cx⟩) | (exact ⟨c5k, c5x⟩))
     (first | (go_at_call 119; refine (unhide hS).mono ?_; generalize cmpN [] [] = c at *; subst hr; rintro e w5 ⟨rfl, b5⟩; have c5k := block_one (block_kept b5 (unhide KD)); have c5x := block_one (block_kept b5 (unhide XD))))
    all_goals
     go_wp2_with fail
     go_ret
     exact ⟨rfl, below_next (below_next bb2 below_drew) b5⟩
   ·rw [if_neg hcj] at hd
    have HD := hide hd
    clear hd
    have hS := hide (l2cmp_has (unhide HD) ((unhide h2').below below_drew) (by omega) (by omega))
    go_region_held3 (fun w' => w'.cell? ⟨w.heap.size, 0, none⟩ = some (.slice (some ⟨g, off, none⟩) n.length cap) ∧ w'.cell? ⟨w.heap.size + 1, 0, none⟩ = some (.slice a' n'.length cap'))
     (first | (exact ⟨ck, cx⟩) | (exact ⟨c5k, c5x⟩))
     (first | (go_at_call 119; refine (unhide hS).mono ?_; generalize cmpN nd n' = c at *; subst hr; rintro e w5 ⟨rfl, b5⟩; have c5k := block_one (block_kept b5 (unhide KD)); have c5x := block_one (block_kept b5 (unhide XD))))
    all_goals
     go_wp2_with fail
     go_ret
     exact ⟨rfl, below_next (below_next bb2 below_drew) b5⟩
 ·have hr := unhide hno (by omega)
  subst hr
  have s1 : wrap64 ((n.length : Int) - n'.length) = (n.length : Int) - n'.length := by unfold wrap64; omega
  clear hyes hno hdrop
  have s2 : ¬ (0 : Int) ≤ (n.length : Int) - n'.length := by omega
  have KD := hide k2
  have XD := hide x2
  go_enter Tryz.func90, Tryz.ntmps90
  go_wp2_with fail
  generalize (w.alloc (.cells #[.slice a n.length cap] 57)).alloc (.cells #[.slice a' n'.length cap'] 57) = W at *
  have ck := block_one (unhide KD)
  have cx := block_one (unhide XD)
  clear k2 x2
  go_quiet (fail)
  go_wp2
  go_ret
  exact ⟨rfl, below_next bb2 (below_draws nq)⟩
end Go.Proofs.YtjgfljndeolmoaaGreat
