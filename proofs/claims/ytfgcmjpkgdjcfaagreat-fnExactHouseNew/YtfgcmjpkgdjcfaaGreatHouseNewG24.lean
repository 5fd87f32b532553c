/-
  Contracts of the library's bytes.Compare and cmp.Compare at int. Contracts of the program's NameCmp. Contracts of the program's appendCounted: behind a row of the caller's own a byte with how many bytes a text has, and the text.
-/
import Derived.Test.YtfgcmjpkgdjcfaaGreatHouseNewG02
import Derived.Test.YtfgcmjpkgdjcfaaGreatHouseNewG19
import Derived.Test.YtfgcmjpkgdjcfaaGreatHouseNewG06
import Derived.Test.YtfgcmjpkgdjcfaaGreatHouseNewG07
namespace Go.Proofs.YtfgcmjpkgdjcfaaGreat
open Go.RowKit
set_option linter.unusedVariables false

set_option maxHeartbeats 400000 in
set_option maxRecDepth 100000 in
theorem bytesCompare_has {v v' : Value} {l l' : List Int} {w : World} (h : Has w v l) (h' : Has w v' l') :
  Calls Tryz.prog 123 #[v, v'] w fun e w' => e = .returned (.int .i64 (cmpB l l')) ∧ w = w' := by
 go_enter Tryz.func123, Tryz.ntmps123
 go_wp2
 rw [run_callFunc_extern Tryz.func135 (by kernel_rfl) (by kernel_rfl) (by kernel_rfl) (e := Extern.BytealgCompare.compare) (by kernel_rfl), run_compare_has h h']
 simp only [Result.andThen]
 rw [Oper.upon_value]
 go_wp2
 go_ret
 exact ⟨rfl, rfl⟩

set_option maxHeartbeats 400000 in
set_option maxRecDepth 100000 in
theorem isNaN_int (x : Int) (w : World) :
  Calls Tryz.prog 136 #[.int .i64 x] w fun e w' => e = .returned (.bool false) ∧ w = w' := by
 go_enter Tryz.func136, Tryz.ntmps136
 go_wp2
 go_ret
 exact ⟨rfl, rfl⟩

set_option maxHeartbeats 400000 in
set_option maxRecDepth 100000 in
theorem cmpCompare_int (x y : Int) (w : World) :
  Calls Tryz.prog 124 #[.int .i64 x, .int .i64 y] w fun e w' => e = .returned (.int .i64 (byLength x y)) ∧ w = w' := by
 unfold byLength
 by_cases h1 : x < y
 ·rw [if_pos h1]
  go_enter Tryz.func124, Tryz.ntmps124
  go_wp2_with fail
  refine (isNaN_int x _).mono ?_
  rintro e w1 ⟨rfl, rfl⟩
  go_wp2_with fail
  refine (isNaN_int y _).mono ?_
  rintro e w1 ⟨rfl, rfl⟩
  go_wp2
  go_ret
  exact ⟨rfl, rfl⟩
 ·rw [if_neg h1]
  by_cases h2 : y < x
  ·rw [if_pos h2]
   go_enter Tryz.func124, Tryz.ntmps124
   go_wp2_with fail
   refine (isNaN_int x _).mono ?_
   rintro e w1 ⟨rfl, rfl⟩
   go_wp2_with fail
   refine (isNaN_int y _).mono ?_
   rintro e w1 ⟨rfl, rfl⟩
   go_wp2
   go_ret
   exact ⟨rfl, rfl⟩
  ·rw [if_neg h2]
   go_enter Tryz.func124, Tryz.ntmps124
   go_wp2_with fail
   refine (isNaN_int x _).mono ?_
   rintro e w1 ⟨rfl, rfl⟩
   go_wp2_with fail
   refine (isNaN_int y _).mono ?_
   rintro e w1 ⟨rfl, rfl⟩
   go_wp2
   go_ret
   exact ⟨rfl, rfl⟩
end Go.Proofs.YtfgcmjpkgdjcfaaGreat

namespace Go.Proofs.YtfgcmjpkgdjcfaaGreat
open Go.RowKit
set_option linter.unusedVariables false

theorem bytesCompare_quiet {v v' : Value} {l l' : List Int} {w : World} (h : Has w v l) (h' : Has w v' l') (n : Nat) :
  Calls Tryz.prog 123 #[v, v'] (w.drewN n) fun e w'' => e = .returned (.int .i64 (cmpB l l')) ∧ ∃ m, w'' = w.drewN m :=
 (bytesCompare_has (h.below (below_draws n)) (h'.below (below_draws n))).mono fun e w' ⟨he, hw⟩ => ⟨he, n, hw.symm⟩

set_option maxHeartbeats 2000000 in
set_option maxRecDepth 100000 in
theorem implNameCmp_has {v v' : Value} {n n' : List (List Int)} {w : World} (h : HasL w v n) (h' : HasL w v' n') :
  Calls Tryz.prog 98 #[.agg #[v], .agg #[v']] w fun e w' => e = .returned (.int .i64 (nameCmp n n')) ∧ Below w.heap.size w w' := by
 obtain ⟨a, cap, rfl, _⟩ := h.form
 obtain ⟨a', cap', rfl, _⟩ := h'.form
 have b1 := below_alloc (w := w) (.cells #[.slice a n.length cap] 30)
 have k1 := heap_alloc_new w (.cells #[.slice a n.length cap] 30)
 have e1 : (w.alloc (.cells #[.slice a n.length cap] 30)).heap.size = w.heap.size + 1 := by show (w.heap.push _).size = _; simp
 have b2 := below_alloc (w := w.alloc (.cells #[.slice a n.length cap] 30)) (.cells #[.slice a' n'.length cap'] 30)
 have x2 := heap_alloc_new (w.alloc (.cells #[.slice a n.length cap] 30)) (.cells #[.slice a' n'.length cap'] 30)
 have k2 := block_kept b2 k1
 rw [e1] at x2
 have bb2 := below_next b1 b2
 have h2 := hide (h.below bb2)
 have h2' := hide (h'.below bb2)
 clear h h' b1 b2 k1 e1
 unfold nameCmp
 cases hok : nameOk n with
 | false =>
  rw [if_neg (by simp)]
  have HOK := hide hok
  clear hok
  go_enter Tryz.func98, Tryz.ntmps98
  go_wp2_with fail
  generalize (w.alloc (.cells #[.slice a n.length cap] 30)).alloc (.cells #[.slice a' n'.length cap'] 30) = W at *
  refine (implNameOk_has (unhide h2)).mono ?_
  rw [unhide HOK]
  rintro e w3 ⟨rfl, b3⟩
  go_wp2_with fail
  go_ret
  exact ⟨rfl, below_next bb2 b3⟩
 | true =>
  cases hok' : nameOk n' with
  | false =>
   rw [if_neg (by simp)]
   have HOK := hide hok
   have HOK' := hide hok'
   clear hok hok'
   go_enter Tryz.func98, Tryz.ntmps98
   go_wp2_with fail
   generalize (w.alloc (.cells #[.slice a n.length cap] 30)).alloc (.cells #[.slice a' n'.length cap'] 30) = W at *
   refine (implNameOk_has (unhide h2)).mono ?_
   rw [unhide HOK]
   rintro e w3 ⟨rfl, b3⟩
   have x3 := block_one (block_kept b3 x2)
   go_wp2_with fail
   refine (implNameOk_has ((unhide h2').below b3)).mono ?_
   rw [unhide HOK']
   rintro e w4 ⟨rfl, b4⟩
   go_wp2_with fail
   go_ret
   exact ⟨rfl, below_next bb2 (below_next b3 b4)⟩
  | true =>
   rw [if_pos ⟨rfl, rfl⟩]
   have hs := (nameOk_parts hok).1
   have hs' := (nameOk_parts hok').1
   have HOK := hide hok
   have HOK' := hide hok'
   clear hok hok'
   have HIT := hide (fun (k : Nat) => cmpN_hit (a := n) (b := n') (k := k))
   have NON := hide (fun (k : Nat) => cmpN_none (a := n) (b := n') (k := k))
   have HAT := hide (atEnd_eq n n')
   generalize hR : cmpN n n' = R at *
   clear hR
   generalize hC : atEnd n n' = C at *
   clear hC
   go_enter Tryz.func98, Tryz.ntmps98
   go_wp2_with fail
   generalize (w.alloc (.cells #[.slice a n.length cap] 30)).alloc (.cells #[.slice a' n'.length cap'] 30) = W0 at *
   refine (implNameOk_has (unhide h2)).mono ?_
   rw [unhide HOK]
   rintro e w3 ⟨rfl, b3⟩
   have x3 := block_one (block_kept b3 x2)
   go_wp2_with fail
   refine (implNameOk_has ((unhide h2').below b3)).mono ?_
   rw [unhide HOK']
   rintro e W ⟨rfl, b4⟩
   have b4 := below_next b3 b4
   have x4 := block_kept b4 x2
   have k4 := block_kept b4 k2
   have h4 := hide ((unhide h2).below b4)
   have h4' := hide ((unhide h2').below b4)
   have bb4 := below_next bb2 b4
   clear x3 x2 k2 h2 h2' b3 b4 bb2 HOK HOK'
   generalize hn : n.length = m at *
   have HN := hide hn
   clear hn
   generalize hn' : n'.length = m' at *
   have HN' := hide hn'
   clear hn'
   have X4 := hide x4
   have K4 := hide k4
   clear x4 k4
   go_wp2
   go_loopw [5] (fun i wr => ∃ k : Nat, 1 ≤ k ∧ k ≤ m + 1 ∧ k ≤ m' + 1 ∧ i = .int .i64 k ∧ Hid (∀ j, 1 ≤ j → j < k → C j = 0) ∧ Below W.heap.size W wr) (fun i _ => m + 1 - (intOf i).toNat)
   case atStart => exact ⟨1, Nat.le_refl _, by omega, by omega, rfl, hide (fun j h1 h2 => absurd h2 (by omega)), Below.refl _ _⟩
   case round =>
    obtain ⟨k, hk1, hk2, hk3, rfl, hall, hb⟩ := hrel
    have c1 := block_one (block_kept hb (unhide K4))
    have c2 := block_one (block_kept hb (unhide X4))
    by_cases hlt : k ≤ m ∧ k ≤ m'
    ·obtain ⟨hlt, hlt'⟩ := hlt
     obtain ⟨b, off, u, rfl, hbl, hc, hu⟩ := ((unhide h4).below hb).here (k := m - k) (by rw [unhide HN]; omega)
     obtain ⟨b', off', u', rfl, hbl', hc', hu'⟩ := ((unhide h4').below hb).here (k := m' - k) (by rw [unhide HN']; omega)
     have hat := hide (unhide HAT k)
     have hhit := hide (fun (hz : C k ≠ 0) => unhide HIT k hk1 hlt hlt' (unhide hall) hz)
     have hone := hide (fun (hz : C k = 0) => (show ∀ j, 1 ≤ j → j < k + 1 → C j = 0 from fun j h1 h2 => by
       by_cases e : j = k
       ·subst e; exact hz
       ·exact unhide hall j h1 (by omega)))
     generalize n.getD (m - k) [] = lab at *
     generalize n'.getD (m' - k) [] = lab' at *
     obtain ⟨j, hj⟩ : ∃ j : Nat, m - k = j := ⟨_, rfl⟩
     obtain ⟨j', hj'⟩ : ∃ j' : Nat, m' - k = j' := ⟨_, rfl⟩
     rw [hj] at hc
     rw [hj'] at hc'
     have s1 : (m : Int) - k = j := by omega
     have s2 : (m' : Int) - k = j' := by omega
     have jl : j < m := by omega
     have jl' : j' < m' := by omega
     have wj : IntKind.i64.wrap (j : Int) = j := wrap_small j (by omega)
     have wj' : IntKind.i64.wrap (j' : Int) = j' := wrap_small j' (by omega)
     have HU := hide hu
     have HU' := hide hu'
     obtain ⟨ua, uc, rfl, _⟩ := hu.form
     obtain ⟨ua', uc', rfl, _⟩ := hu'.form
     clear hu hu'
     have i1 : (k : Int) ≤ min (m : Int) m' := by omega
     go_wp2
     all_goals
      go_quiet (first | (exact bytesCompare_quiet (unhide HU) (unhide HU') _))
      clear wj wj' s1 s2 hj hj' jl jl' hc hc' c1 c2 i1
      have bb := below_next hb (below_draws (w := wr) nq)
      have hcs := cmpB_cases lab lab'
      generalize cmpB lab lab' = c at *
      rcases hcs with rfl | rfl | rfl
      ·have hr := unhide hhit (by rw [unhide hat]; omega)
       rw [unhide hat] at hr
       subst hr
       go_wp2
       go_ret
       exact ⟨rfl, below_next bb4 bb⟩
      ·go_wp2
       exact ⟨⟨k + 1, by omega, by omega, by omega, by go_num, hide (unhide hone (unhide hat)), bb⟩, by simp [intOf]; omega⟩
      ·have hr := unhide hhit (by rw [unhide hat]; omega)
       rw [unhide hat] at hr
       subst hr
       go_wp2
       go_ret
       exact ⟨rfl, below_next bb4 bb⟩
    ·have hr := unhide NON k (by omega) (unhide hall)
     have i1 : ¬ (k : Int) ≤ min (m : Int) m' := by omega
     go_wp2_with fail
     all_goals
      refine (cmpCompare_int (m : Int) (m' : Int) _).mono ?_
      rintro e w5 ⟨rfl, rfl⟩
      go_wp2_with fail
      go_ret
      exact ⟨by rw [hr]; rfl, below_next bb4 hb⟩
end Go.Proofs.YtfgcmjpkgdjcfaaGreat

namespace Go.Proofs.YtfgcmjpkgdjcfaaGreat
open Go.RowKit
set_option linter.unusedVariables false

set_option maxHeartbeats 800000 in
set_option maxRecDepth 100000 in
theorem appendCounted_own {B : Nat} {v u : Value} {l t : List Int} {w : World} (h : Own B 5 w v l) (hu : HasAt B w u t) (hl : l.length ≤ 1099511627000) (ht : t.length ≤ 255) (hB : B ≤ w.heap.size) :
  Calls Tryz.prog 193 #[v, u] w fun e w' => ∃ v', e = .returned v' ∧ Own B 5 w' v' (l ++ ((t.length : Int) :: t)) ∧ Below B w w' := by
 obtain ⟨ua, uc, rfl, _⟩ := hu.form
 have HU := hide hu
 clear hu
 have hlt : ((t.length : Int) % 256) = t.length := by omega
 generalize hn : t.length = m at *
 have HN := hide hn
 clear hn
 go_enter Tryz.func193, Tryz.ntmps193
 go_wp2_with (at_builtin; refine append_bytes rfl _ _ 56 5 rfl Tryz.underlying56 info_u8 B v _ l [(m : Int)] rfl rfl (h.alloc _) (own_lit w 0 5 [(m : Int)] (Nat.zero_le _) (by simp [maxLen])).reads (by simp; omega) (by simp; omega) ?_)
 intro v2 w2 o2 g2
 have b2 : Below B w w2 := ((Below.refl _ _).alloc hB _).grown g2 (by simp; omega) (fun q hq => (h.lt q hq).1)
 clear g2
 have hs2 := b2.size
 have U2 := hide ((unhide HU).low b2 (Nat.le_refl _))
 go_wp2_with (at_builtin; refine append_bytes rfl _ _ 56 5 rfl Tryz.underlying56 info_u8 B v2 (.slice ua m uc) (l ++ [(m : Int)]) t rfl rfl o2 (unhide U2).has.reads (by simp; rw [unhide HN]; omega) (by omega) ?_)
 intro v3 w3 o3 g3
 have b3 : Below B w w3 := b2.grown g3 (by omega) (fun q hq => (o2.lt q hq).1)
 go_wp2
 go_ret
 exact ⟨v3, rfl, by simpa using o3, b3⟩
end Go.Proofs.YtfgcmjpkgdjcfaaGreat
