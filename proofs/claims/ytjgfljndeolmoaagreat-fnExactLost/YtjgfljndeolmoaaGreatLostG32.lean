/-
  A slice of bytes made into a text. Contracts of the specification's l2bytes and l2cmp. Contract of the specification's l2under.
-/
import Derived.Test.YtjgfljndeolmoaaGreatLostG09
import Derived.Test.YtjgfljndeolmoaaGreatLostG31
import Derived.Test.YtjgfljndeolmoaaGreatLostG17
import Derived.WalkLawsBesides
import Derived.Deep.RegionHeld3
namespace Go.Proofs.YtjgfljndeolmoaaGreat
open Go.RowKit

theorem conv_has {v : Value} {l : List Int} {w : World} (h : Has w v l) : (convert 27 9 v).run Tryz.prog w = .ok (.string (strOfNums l)) w := by
 rcases h with ⟨rfl, rfl⟩ | ⟨g, off, cap, rfl, _, _, _, hc⟩
 ·exact run_convert_bytes_nil w 27 5 Tryz.underlying27 Tryz.underlying5 0 0 9 Tryz.underlying9
 ·exact run_convert_bytes_arg w 27 5 Tryz.underlying27 Tryz.underlying5 g off l.length cap l rfl hc 9 Tryz.underlying9
end Go.Proofs.YtjgfljndeolmoaaGreat

namespace Go.Proofs.YtjgfljndeolmoaaGreat
open Go.RowKit
set_option linter.unusedVariables false

set_option maxHeartbeats 400000 in
set_option maxRecDepth 100000 in
theorem l2bytes_has {v v' : Value} {l l' : List Int} {w : World} (h : Has w v l) (h' : Has w v' l') :
  Calls Tryz.prog 135 #[v, v'] w fun e w' => e = .returned (.int .i64 (cmpB l l')) ∧ w = w' := by
 have hc := conv_has h
 have hc' := conv_has h'
 have hlt := str_less l l'
 have heq := str_same l l'
 clear h h'
 rcases cmpB_cases l l' with e | e | e
 ·rw [e] at hlt heq ⊢
  simp only [decide_true] at hlt
  clear heq e
  go_enter Tryz.func135, Tryz.ntmps135
  go_wp2
  go_ret
  exact ⟨rfl, rfl⟩
 ·rw [e] at hlt heq ⊢
  simp only [decide_true] at heq
  rw [decide_eq_false (by omega)] at hlt
  clear e
  go_enter Tryz.func135, Tryz.ntmps135
  go_wp2
  go_ret
  exact ⟨rfl, rfl⟩
 ·rw [e] at hlt heq ⊢
  rw [decide_eq_false (by omega)] at hlt heq
  clear e
  go_enter Tryz.func135, Tryz.ntmps135
  go_wp2
  go_ret
  exact ⟨rfl, rfl⟩

theorem l2bytes_quiet {v v' : Value} {l l' : List Int} {w : World} (h : Has w v l) (h' : Has w v' l') (n : Nat) :
  Calls Tryz.prog 135 #[v, v'] (w.drewN n) fun e w'' => e = .returned (.int .i64 (cmpB l l')) ∧ ∃ m, w'' = w.drewN m :=
 (l2bytes_has (h.below (below_draws n)) (h'.below (below_draws n))).mono fun e w' ⟨he, hw⟩ => ⟨he, n, hw.symm⟩

set_option maxHeartbeats 1000000 in
set_option maxRecDepth 100000 in
theorem l2cmp_has {v v' : Value} {n n' : List (List Int)} {w : World} (h : HasL w v n) (h' : HasL w v' n') (hs : n.length ≤ 1048576) (hs' : n'.length ≤ 1048576) :
  Calls Tryz.prog 119 #[.agg #[v], .agg #[v']] w fun e w' => e = .returned (.int .i64 (cmpN n n')) ∧ Below w.heap.size w w' := by
 obtain ⟨a, cap, rfl, hl, hm⟩ := h.form
 obtain ⟨a', cap', rfl, hl', hm'⟩ := h'.form
 unfold maxLen at hm hm'
 have HIT := hide (fun (k : Nat) => cmpN_hit (a := n) (b := n') (k := k))
 have NON := hide (fun (k : Nat) => cmpN_none (a := n) (b := n') (k := k))
 have HAT := hide (atEnd_eq n n')
 generalize hR : cmpN n n' = R at *
 clear hR
 generalize hC : atEnd n n' = C at *
 clear hC
 have b1 := below_alloc (w := w) (.cells #[.slice a n.length cap] 57)
 have k1 := heap_alloc_new w (.cells #[.slice a n.length cap] 57)
 have e1 : (w.alloc (.cells #[.slice a n.length cap] 57)).heap.size = w.heap.size + 1 := by show (w.heap.push _).size = _; simp
 have b2 := below_alloc (w := w.alloc (.cells #[.slice a n.length cap] 57)) (.cells #[.slice a' n'.length cap'] 57)
 have x2 := heap_alloc_new (w.alloc (.cells #[.slice a n.length cap] 57)) (.cells #[.slice a' n'.length cap'] 57)
 have k2 := block_kept b2 k1
 rw [e1] at x2
 have bb2 := below_next b1 b2
 have h2 := hide (h.below bb2)
 have h2' := hide (h'.below bb2)
 have HH := hide h
 have HH' := hide h'
 clear h h' b1 b2 k1 e1
 generalize hn : n.length = m at *
 have HN := hide hn
 clear hn
 generalize hn' : n'.length = m' at *
 have HN' := hide hn'
 clear hn'
 go_enter Tryz.func119, Tryz.ntmps119
 go_wp2
 generalize (w.alloc (.cells #[.slice a m cap] 57)).alloc (.cells #[.slice a' m' cap'] 57) = W at *
 go_loopw [5] (fun i wr => ∃ k : Nat, 1 ≤ k ∧ k ≤ m + 1 ∧ k ≤ m' + 1 ∧ i = .int .i64 k ∧ Hid (∀ j, 1 ≤ j → j < k → C j = 0) ∧ Below W.heap.size W wr) (fun i _ => m + 1 - (intOf i).toNat)
 case atStart => exact ⟨1, Nat.le_refl _, by omega, by omega, rfl, hide (fun j h1 h2 => absurd h2 (by omega)), Below.refl _ _⟩
 case round =>
  obtain ⟨k, hk1, hk2, hk3, rfl, hall, hb⟩ := hrel
  have c1 := block_one (block_kept hb k2)
  have c2 := block_one (block_kept hb x2)
  by_cases hlt : k ≤ m
  ·by_cases hlt' : k ≤ m'
   ·obtain ⟨b, off, u, rfl, hbl, hc, hu⟩ := ((unhide h2).below hb).here (k := m - k) (by rw [unhide HN]; omega)
    obtain ⟨b', off', u', rfl, hbl', hc', hu'⟩ := ((unhide h2').below hb).here (k := m' - k) (by rw [unhide HN']; omega)
    have hat := hide (unhide HAT k)
    have hhit := hide (fun (hz : C k ≠ 0) => unhide HIT k hk1 hlt hlt' (unhide hall) hz)
    have hone := hide (fun (hz : C k = 0) => (show ∀ j, 1 ≤ j → j < k + 1 → C j = 0 from fun j h1 h2 => by
      by_cases e : j = k
      ·subst e; exact hz
      ·exact unhide hall j h1 (by omega)))
    generalize n.getD (m - k) [] = lab at *
    generalize n'.getD (m' - k) [] = lab' at *
    obtain ⟨j, hj⟩ : ∃ j : Nat, m - k = j := ⟨_, rfl⟩
    obtain ⟨j', hj'⟩ : ∃ j' : Nat, m' - k = j' := ⟨_, rfl⟩
    rw [hj] at hc
    rw [hj'] at hc'
    have s1 : (m : Int) - k = j := by omega
    have s2 : (m' : Int) - k = j' := by omega
    have jl : j < m := by omega
    have jl' : j' < m' := by omega
    have wj : IntKind.i64.wrap (j : Int) = j := wrap_small j (by omega)
    have wj' : IntKind.i64.wrap (j' : Int) = j' := wrap_small j' (by omega)
    have HU := hide hu
    have HU' := hide hu'
    obtain ⟨ua, uc, rfl, _⟩ := hu.form
    obtain ⟨ua', uc', rfl, _⟩ := hu'.form
    clear hu hu'
    have i1 : (k : Int) ≤ m := by omega
    have i2 : (k : Int) ≤ m' := by omega
    go_wp2
    go_quiet (first | (exact l2bytes_quiet (unhide HU) (unhide HU') _))
    clear wj wj' s1 s2 hj hj' jl jl' hc hc' c1 c2 i1 i2 hl hl' hm hm'
    have bb := below_next hb (below_draws (w := wr) nq)
    have hcs := cmpB_cases lab lab'
    generalize cmpB lab lab' = c at *
    rcases hcs with rfl | rfl | rfl
    ·have hr := unhide hhit (by rw [unhide hat]; omega)
     rw [unhide hat] at hr
     subst hr
     go_wp2
     go_ret
     exact ⟨rfl, below_next bb2 bb⟩
    ·go_wp2
     exact ⟨⟨k + 1, by omega, by omega, by omega, by go_num, hide (unhide hone (unhide hat)), bb⟩, by simp [intOf]; omega⟩
    ·have hr := unhide hhit (by rw [unhide hat]; omega)
     rw [unhide hat] at hr
     subst hr
     go_wp2
     go_ret
     exact ⟨rfl, below_next bb2 bb⟩
   ·have hr := unhide NON k (.inr (by omega)) (unhide hall)
    unfold byLength at hr
    rw [if_neg (by omega), if_pos (by omega)] at hr
    subst hr
    have i1 : (k : Int) ≤ m := by omega
    have i2 : ¬ (k : Int) ≤ m' := by omega
    have i3 : ((m : Int) == m') = false := by rw [beq_eq_false_iff_ne]; omega
    have i4 : ¬ (m : Int) < m' := by omega
    go_wp2
    go_ret
    exact ⟨rfl, below_next bb2 hb⟩
  ·have i1 : ¬ (k : Int) ≤ m := by omega
   have hr := unhide NON k (.inl (by omega)) (unhide hall)
   unfold byLength at hr
   by_cases he : m = m'
   ·subst he
    rw [if_neg (by omega), if_neg (by omega)] at hr
    subst hr
    go_wp2
    go_ret
    exact ⟨rfl, below_next bb2 hb⟩
   ·rw [if_pos (by omega)] at hr
    subst hr
    have i3 : ((m : Int) == m') = false := by rw [beq_eq_false_iff_ne]; omega
    have i4 : (m : Int) < m' := by omega
    go_wp2
    go_ret
    exact ⟨rfl, below_next bb2 hb⟩

end Go.Proofs.YtjgfljndeolmoaaGreat

namespace Go.Proofs.YtjgfljndeolmoaaGreat
open Go.RowKit
set_option linter.unusedVariables false

set_option maxHeartbeats 2000000 in
set_option maxRecDepth 100000 in
theorem l2under_has {v v' : Value} {n n' : List (List Int)} {w : World} (h : HasL w v n) (h' : HasL w v' n') (hs : n.length ≤ 6) (hs' : n'.length ≤ 6) :
  Calls Tryz.prog 90 #[.agg #[v], .agg #[v']] w fun e w' => e = .returned (.bool (endsWith n n')) ∧ Below w.heap.size w w' := by
 obtain ⟨a, cap, rfl, hcl, hcm⟩ := h.form
 obtain ⟨a', cap', rfl, _⟩ := h'.form
 unfold maxLen at hcm
 have b1 := below_alloc (w := w) (.cells #[.slice a n.length cap] 57)
 have k1 := heap_alloc_new w (.cells #[.slice a n.length cap] 57)
 have e1 : (w.alloc (.cells #[.slice a n.length cap] 57)).heap.size = w.heap.size + 1 := by show (w.heap.push _).size = _; simp
 have b2 := below_alloc (w := w.alloc (.cells #[.slice a n.length cap] 57)) (.cells #[.slice a' n'.length cap'] 57)
 have x2 := heap_alloc_new (w.alloc (.cells #[.slice a n.length cap] 57)) (.cells #[.slice a' n'.length cap'] 57)
 have k2 := block_kept b2 k1
 rw [e1] at x2
 have bb2 := below_next b1 b2
 have h2 := hide (h.below bb2)
 have h2' := hide (h'.below bb2)
 clear h h' b1 b2 k1 e1
 have hno := hide (fun (hlt : n.length < n'.length) => endsWith_no hlt)
 have hyes := hide (fun (hle : n'.length ≤ n.length) => endsWith_yes hle)
 generalize endsWith n n' = R at *
 have hdrop := hide (fun (W : World) (hW : HasL W (.slice a n.length cap) n) (k : Nat) (hk : k ≤ n.length) => HasL.drop hW rfl hk)
 by_cases hle : n'.length ≤ n.length
 ·have hr := unhide hyes hle
  have HDR := hide (unhide hdrop _ ((unhide h2).below below_drew) (n.length - n'.length) (by omega))
  clear hyes hno hdrop
  generalize hj : n.length - n'.length = j at *
  have hlen : (n.drop j).length = n.length - j := by simp
  generalize n.drop j = nd at *
  have s1 : (n.length : Int) - n'.length = j := by omega
  have wj : IntKind.i64.wrap (j : Int) = j := wrap_small j (by omega)
  have jl : j ≤ n.length := by omega
  have jc : j ≤ cap := by omega
  have j0 : (0 : Int) ≤ j := by omega
  go_enter Tryz.func90, Tryz.ntmps90
  go_wp2_with fail
  generalize (w.alloc (.cells #[.slice a n.length cap] 57)).alloc (.cells #[.slice a' n'.length cap'] 57) = W at *
  have kd := block_kept (below_drew (w := W)) k2
  have xd := block_kept (below_drew (w := W)) x2
  have ck := block_one kd
  have cx := block_one xd
  have KD := hide kd
  have XD := hide xd
  clear kd xd k2 x2
  rcases unhide HDR with ⟨ha, hm0, hc0⟩ | ⟨g, off, ha, hd⟩
  ·clear HDR
   have hz' : n'.length = 0 := by omega
   have hz : j = 0 := by omega
   obtain rfl : nd = [] := List.eq_nil_of_length_eq_zero (by omega)
   obtain rfl : n' = [] := List.eq_nil_of_length_eq_zero hz'
   obtain rfl : n = [] := List.eq_nil_of_length_eq_zero hm0
   subst ha hc0 hz
   clear hj hlen s1 wj jl jc hz' hm0 hle hs hs' hcl j0
   simp only [List.length_nil] at *
   have HD := hide (show HasL W.drew (.slice none 0 0) [] from .inl ⟨rfl, rfl⟩)
   have hS := hide (l2cmp_has (unhide HD) ((unhide h2').below below_drew) (by simp) (by simp))
   go_region_held3 (fun w' => w'.cell? ⟨w.heap.size, 0, none⟩ = some (.slice none 0 0) ∧ w'.cell? ⟨w.heap.size + 1, 0, none⟩ = some (.slice a' 0 cap'))
    (first | (exact ⟨ck, cx⟩) | (exact ⟨c5k, c5x⟩))
    (first | (go_at_call 119; refine (unhide hS).mono ?_; generalize cmpN [] [] = c at *; subst hr; rintro e w5 ⟨rfl, b5⟩; have c5k := block_one (block_kept b5 (unhide KD)); have c5x := block_one (block_kept b5 (unhide XD))))
   all_goals
    go_wp2_with fail
    go_ret
    exact ⟨rfl, below_next (below_next bb2 below_drew) b5⟩
  ·clear HDR
   subst ha
   by_cases hcj : cap = j
   ·have e2 : j = n.length := by omega
    have e1 : cap = n.length := by omega
    obtain rfl : n' = [] := List.eq_nil_of_length_eq_zero (by omega)
    obtain rfl : nd = [] := List.eq_nil_of_length_eq_zero (by omega)
    rw [if_pos hcj, e1, e2, Nat.sub_self] at hd
    have HD := hide hd
    subst e1 e2
    clear hd hj hlen hcj hle hs' jl jc s1 hcl
    simp only [List.length_nil] at *
    generalize hn : n.length = m at *
    have hS := hide (l2cmp_has (unhide HD) ((unhide h2').below below_drew) (by simp) (by simp))
    go_region_held3 (fun w' => w'.cell? ⟨w.heap.size, 0, none⟩ = some (.slice (some ⟨g, off, none⟩) m m) ∧ w'.cell? ⟨w.heap.size + 1, 0, none⟩ = some (.slice a' 0 cap'))
     (first | (exact ⟨ck, cx⟩) | (exact ⟨c5k, c5x⟩))
     (first | (go_at_call 119; refine (unhide hS).mono ?_; generalize cmpN [] [] = c at *; subst hr; rintro e w5 ⟨rfl, b5⟩; have c5k := block_one (block_kept b5 (unhide KD)); have c5x := block_one (block_kept b5 (unhide XD))))
    all_goals
     go_wp2_with fail
     go_ret
     exact ⟨rfl, below_next (below_next bb2 below_drew) b5⟩
   ·rw [if_neg hcj] at hd
    have HD := hide hd
    clear hd
    have hS := hide (l2cmp_has (unhide HD) ((unhide h2').below below_drew) (by omega) (by omega))
    go_region_held3 (fun w' => w'.cell? ⟨w.heap.size, 0, none⟩ = some (.slice (some ⟨g, off, none⟩) n.length cap) ∧ w'.cell? ⟨w.heap.size + 1, 0, none⟩ = some (.slice a' n'.length cap'))
     (first | (exact ⟨ck, cx⟩) | (exact ⟨c5k, c5x⟩))
     (first | (go_at_call 119; refine (unhide hS).mono ?_; generalize cmpN nd n' = c at *; subst hr; rintro e w5 ⟨rfl, b5⟩; have c5k := block_one (block_kept b5 (unhide KD)); have c5x := block_one (block_kept b5 (unhide XD))))
    all_goals
     go_wp2_with fail
     go_ret
     exact ⟨rfl, below_next (below_next bb2 below_drew) b5⟩
 ·have hr := unhide hno (by omega)
  subst hr
  have s1 : wrap64 ((n.length : Int) - n'.length) = (n.length : Int) - n'.length := by unfold wrap64; omega
  clear hyes hno hdrop
  have s2 : ¬ (0 : Int) ≤ (n.length : Int) - n'.length := by omega
  have KD := hide k2
  have XD := hide x2
  go_enter Tryz.func90, Tryz.ntmps90
  go_wp2_with fail
  generalize (w.alloc (.cells #[.slice a n.length cap] 57)).alloc (.cells #[.slice a' n'.length cap'] 57) = W at *
  have ck := block_one (unhide KD)
  have cx := block_one (unhide XD)
  clear k2 x2
  go_quiet (fail)
  go_wp2
  go_ret
  exact ⟨rfl, below_next bb2 (below_draws nq)⟩
end Go.Proofs.YtjgfljndeolmoaaGreat
