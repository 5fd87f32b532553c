/-
  Contracts of the specification's l2bytes and l2cmp. Contracts of the specification's l3num and l3cmp.
-/
import Derived.Test.YtpolekinfobecaaGreatCacheNamesG32
import Derived.Test.YtpolekinfobecaaGreatCacheNamesG16
import Derived.Test.YtpolekinfobecaaGreatCacheNamesG35
import Derived.WalkLawsBesides
import Derived.Test.YtpolekinfobecaaGreatCacheNamesG34
import Derived.Test.YtpolekinfobecaaGreatCacheNamesG11
import Derived.Deep.RegionHeld3
import Derived.Deep.RegionWith
namespace Go.Proofs.YtpolekinfobecaaGreat
open Go.RowKit
set_option linter.unusedVariables false

set_option maxHeartbeats 400000 in
set_option maxRecDepth 100000 in
theorem l2bytes_has {v v' : Value} {l l' : List Int} {w : World} (h : Has w v l) (h' : Has w v' l') :
  Calls Tryz.prog 47 #[v, v'] w fun e w' => e = .returned (.int .i64 (cmpB l l')) ∧ w = w' := by
 have hc := conv_has h
 have hc' := conv_has h'
 have hlt := str_less l l'
 have heq := str_same l l'
 clear h h'
 rcases cmpB_cases l l' with e | e | e
 ·rw [e] at hlt heq ⊢
  simp only [decide_true] at hlt
  clear heq e
  go_enter Tryz.func47, Tryz.ntmps47
  go_wp2
  go_ret
  exact ⟨rfl, rfl⟩
 ·rw [e] at hlt heq ⊢
  simp only [decide_true] at heq
  rw [decide_eq_false (by omega)] at hlt
  clear e
  go_enter Tryz.func47, Tryz.ntmps47
  go_wp2
  go_ret
  exact ⟨rfl, rfl⟩
 ·rw [e] at hlt heq ⊢
  rw [decide_eq_false (by omega)] at hlt heq
  clear e
  go_enter Tryz.func47, Tryz.ntmps47
  go_wp2
  go_ret
  exact ⟨rfl, rfl⟩

theorem l2bytes_quiet {v v' : Value} {l l' : List Int} {w : World} (h : Has w v l) (h' : Has w v' l') (n : Nat) :
  Calls Tryz.prog 47 #[v, v'] (w.drewN n) fun e w'' => e = .returned (.int .i64 (cmpB l l')) ∧ ∃ m, w'' = w.drewN m :=
 (l2bytes_has (h.below (below_draws n)) (h'.below (below_draws n))).mono fun e w' ⟨he, hw⟩ => ⟨he, n, hw.symm⟩

set_option maxHeartbeats 1000000 in
set_option maxRecDepth 100000 in
theorem l2cmp_has {v v' : Value} {n n' : List (List Int)} {w : World} (h : HasL w v n) (h' : HasL w v' n') (hs : n.length ≤ 1048576) (hs' : n'.length ≤ 1048576) :
  Calls Tryz.prog 25 #[.agg #[v], .agg #[v']] w fun e w' => e = .returned (.int .i64 (cmpN n n')) ∧ Below w.heap.size w w' := by
 obtain ⟨a, cap, rfl, hl, hm⟩ := h.form
 obtain ⟨a', cap', rfl, hl', hm'⟩ := h'.form
 unfold maxLen at hm hm'
 have HIT := hide (fun (k : Nat) => cmpN_hit (a := n) (b := n') (k := k))
 have NON := hide (fun (k : Nat) => cmpN_none (a := n) (b := n') (k := k))
 have HAT := hide (atEnd_eq n n')
 generalize hR : cmpN n n' = R at *
 clear hR
 generalize hC : atEnd n n' = C at *
 clear hC
 have b1 := below_alloc (w := w) (.cells #[.slice a n.length cap] 44)
 have k1 := heap_alloc_new w (.cells #[.slice a n.length cap] 44)
 have e1 : (w.alloc (.cells #[.slice a n.length cap] 44)).heap.size = w.heap.size + 1 := by show (w.heap.push _).size = _; simp
 have b2 := below_alloc (w := w.alloc (.cells #[.slice a n.length cap] 44)) (.cells #[.slice a' n'.length cap'] 44)
 have x2 := heap_alloc_new (w.alloc (.cells #[.slice a n.length cap] 44)) (.cells #[.slice a' n'.length cap'] 44)
 have k2 := block_kept b2 k1
 rw [e1] at x2
 have bb2 := below_next b1 b2
 have h2 := hide (h.below bb2)
 have h2' := hide (h'.below bb2)
 have HH := hide h
 have HH' := hide h'
 clear h h' b1 b2 k1 e1
 generalize hn : n.length = m at *
 have HN := hide hn
 clear hn
 generalize hn' : n'.length = m' at *
 have HN' := hide hn'
 clear hn'
 go_enter Tryz.func25, Tryz.ntmps25
 go_wp2
 generalize (w.alloc (.cells #[.slice a m cap] 44)).alloc (.cells #[.slice a' m' cap'] 44) = W at *
 go_loopw [5] (fun i wr => ∃ k : Nat, 1 ≤ k ∧ k ≤ m + 1 ∧ k ≤ m' + 1 ∧ i = .int .i64 k ∧ Hid (∀ j, 1 ≤ j → j < k → C j = 0) ∧ Below W.heap.size W wr) (fun i _ => m + 1 - (intOf i).toNat)
 case atStart => exact ⟨1, Nat.le_refl _, by omega, by omega, rfl, hide (fun j h1 h2 => absurd h2 (by omega)), Below.refl _ _⟩
 case round =>
  obtain ⟨k, hk1, hk2, hk3, rfl, hall, hb⟩ := hrel
  have c1 := block_one (block_kept hb k2)
  have c2 := block_one (block_kept hb x2)
  by_cases hlt : k ≤ m
  ·by_cases hlt' : k ≤ m'
   ·obtain ⟨b, off, u, rfl, hbl, hc, hu⟩ := ((unhide h2).below hb).here (k := m - k) (by rw [unhide HN]; omega)
    obtain ⟨b', off', u', rfl, hbl', hc', hu'⟩ := ((unhide h2').below hb).here (k := m' - k) (by rw [unhide HN']; omega)
    have hat := hide (unhide HAT k)
    have hhit := hide (fun (hz : C k ≠ 0) => unhide HIT k hk1 hlt hlt' (unhide hall) hz)
    have hone := hide (fun (hz : C k = 0) => (show ∀ j, 1 ≤ j → j < k + 1 → C j = 0 from fun j h1 h2 => by
      by_cases e : j = k
      ·subst e; exact hz
      ·exact unhide hall j h1 (by omega)))
    generalize n.getD (m - k) [] = lab at *
    generalize n'.getD (m' - k) [] = lab' at *
    obtain ⟨j, hj⟩ : ∃ j : Nat, m - k = j := ⟨_, rfl⟩
    obtain ⟨j', hj'⟩ : ∃ j' : Nat, m' - k = j' := ⟨_, rfl⟩
    rw [hj] at hc
    rw [hj'] at hc'
    have s1 : (m : Int) - k = j := by omega
    have s2 : (m' : Int) - k = j' := by omega
    have jl : j < m := by omega
    have jl' : j' < m' := by omega
    have wj : IntKind.i64.wrap (j : Int) = j := wrap_small j (by omega)
    have wj' : IntKind.i64.wrap (j' : Int) = j' := wrap_small j' (by omega)
    have HU := hide hu
    have HU' := hide hu'
    obtain ⟨ua, uc, rfl, _⟩ := hu.form
    obtain ⟨ua', uc', rfl, _⟩ := hu'.form
    clear hu hu'
    have i1 : (k : Int) ≤ m := by omega
    have i2 : (k : Int) ≤ m' := by omega
    go_wp2
    go_quiet (first | (exact l2bytes_quiet (unhide HU) (unhide HU') _))
    clear wj wj' s1 s2 hj hj' jl jl' hc hc' c1 c2 i1 i2 hl hl' hm hm'
    have bb := below_next hb (below_draws (w := wr) nq)
    have hcs := cmpB_cases lab lab'
    generalize cmpB lab lab' = c at *
    rcases hcs with rfl | rfl | rfl
    ·have hr := unhide hhit (by rw [unhide hat]; omega)
     rw [unhide hat] at hr
     subst hr
     go_wp2
     go_ret
     exact ⟨rfl, below_next bb2 bb⟩
    ·go_wp2
     exact ⟨⟨k + 1, by omega, by omega, by omega, by go_num, hide (unhide hone (unhide hat)), bb⟩, by simp [intOf]; omega⟩
    ·have hr := unhide hhit (by rw [unhide hat]; omega)
     rw [unhide hat] at hr
     subst hr
     go_wp2
     go_ret
     exact ⟨rfl, below_next bb2 bb⟩
   ·have hr := unhide NON k (.inr (by omega)) (unhide hall)
    unfold byLength at hr
    rw [if_neg (by omega), if_pos (by omega)] at hr
    subst hr
    have i1 : (k : Int) ≤ m := by omega
    have i2 : ¬ (k : Int) ≤ m' := by omega
    have i3 : ((m : Int) == m') = false := by rw [beq_eq_false_iff_ne]; omega
    have i4 : ¬ (m : Int) < m' := by omega
    go_wp2
    go_ret
    exact ⟨rfl, below_next bb2 hb⟩
  ·have i1 : ¬ (k : Int) ≤ m := by omega
   have hr := unhide NON k (.inl (by omega)) (unhide hall)
   unfold byLength at hr
   by_cases he : m = m'
   ·subst he
    rw [if_neg (by omega), if_neg (by omega)] at hr
    subst hr
    go_wp2
    go_ret
    exact ⟨rfl, below_next bb2 hb⟩
   ·rw [if_pos (by omega)] at hr
    subst hr
    have i3 : ((m : Int) == m') = false := by rw [beq_eq_false_iff_ne]; omega
    have i4 : (m : Int) < m' := by omega
    go_wp2
    go_ret
    exact ⟨rfl, below_next bb2 hb⟩

end Go.Proofs.YtpolekinfobecaaGreat

namespace Go.Proofs.YtpolekinfobecaaGreat
open Go.RowKit
set_option linter.unusedVariables false

set_option maxHeartbeats 400000 in
set_option maxRecDepth 100000 in
theorem l3num_any (x y : Int) (w : World) : Calls Tryz.prog 69 #[.int .i64 x, .int .i64 y] w fun e w' => e = .returned (.int .i64 (byLength x y)) ∧ w = w' := by
 unfold byLength
 by_cases h1 : x < y
 ·rw [if_pos h1]
  go_enter Tryz.func69, Tryz.ntmps69
  go_wp2
  go_ret
  exact ⟨rfl, rfl⟩
 ·rw [if_neg h1]
  by_cases h2 : y < x
  ·rw [if_pos h2]
   go_enter Tryz.func69, Tryz.ntmps69
   go_wp2
   go_ret
   exact ⟨rfl, rfl⟩
  ·rw [if_neg h2]
   go_enter Tryz.func69, Tryz.ntmps69
   go_wp2
   go_ret
   exact ⟨rfl, rfl⟩

set_option maxHeartbeats 1000000 in
set_option maxRecDepth 100000 in
theorem l3cmp_has {vn vt vx vi un ut ux ui : Value} {a b : Rec} {w : World} (h : HasR w vn vt vx vi a) (h' : HasR w un ut ux ui b) (ha : rrOk a = true) (hb : rrOk b = true) :
  Calls Tryz.prog 46 #[.agg #[vn, .int .i64 a.type, .int .i64 a.ttl, .int .i64 a.addr, vt, vx, vi], .agg #[un, .int .i64 b.type, .int .i64 b.ttl, .int .i64 b.addr, ut, ux, ui]] w fun e w' => e = .returned (.int .i64 (cmpR a b)) ∧ Below w.heap.size w w' := by
 obtain ⟨na, nc, rfl, _⟩ := h.name.form
 obtain ⟨ta, tc, rfl, _⟩ := h.to.form
 obtain ⟨xa, xc, rfl, _⟩ := h.text.form
 obtain ⟨ia, ic, rfl, _⟩ := h.nums.form
 obtain ⟨na', nc', rfl, _⟩ := h'.name.form
 obtain ⟨ta', tc', rfl, _⟩ := h'.to.form
 obtain ⟨xa', xc', rfl, _⟩ := h'.text.form
 obtain ⟨ia', ic', rfl, _⟩ := h'.nums.form
 have b0 := below2 w (.cells #[.slice na a.name.length nc, .int .i64 a.type, .int .i64 a.ttl, .int .i64 a.addr, .slice ta a.to.length tc, .slice xa a.text.length xc, .slice ia a.nums.length ic] 56) (.cells #[.slice na' b.name.length nc', .int .i64 b.type, .int .i64 b.ttl, .int .i64 b.addr, .slice ta' b.to.length tc', .slice xa' b.text.length xc', .slice ia' b.nums.length ic'] 56)
 obtain ⟨hsz, k0, x0⟩ := box2 w (.cells #[.slice na a.name.length nc, .int .i64 a.type, .int .i64 a.ttl, .int .i64 a.addr, .slice ta a.to.length tc, .slice xa a.text.length xc, .slice ia a.nums.length ic] 56) #[.slice na' b.name.length nc', .int .i64 b.type, .int .i64 b.ttl, .int .i64 b.addr, .slice ta' b.to.length tc', .slice xa' b.text.length xc', .slice ia' b.nums.length ic'] 56
 have K0 := hide k0
 have X0 := hide x0
 have H0 := hide (h.below b0)
 have J0 := hide (h'.below b0)
 clear h h' k0 x0
 have hna := (nameOk_parts (rrOk_parts ha).1).1
 have hnb := (nameOk_parts (rrOk_parts hb).1).1
 have HC := hide (fun (w : World) (v v' : Value) (h : HasL w v a.name) (h' : HasL w v' b.name) => l2cmp_has h h' (by omega) (by omega))
 have HPa := hide (fun (w : World) (vn vt vx vi : Value) (h : HasR w vn vt vx vi a) => l3put_has h ha)
 have HPb := hide (fun (w : World) (vn vt vx vi : Value) (h : HasR w vn vt vx vi b) => l3put_has h hb)
 have HL := hide (l3num_any a.type b.type)
 have HB := hide (fun (w : World) (v v' : Value) (h : Has w v (dataB a)) (h' : Has w v' (dataB b)) => l2bytes_has h h')
 clear ha hb hna hnb
 unfold cmpR
 generalize dataB a = DA at *
 generalize dataB b = DB at *
 generalize cmpB DA DB = CB at *
 generalize cmpN a.name b.name = CN at *
 generalize byLength a.type b.type = CL at *
 by_cases e1 : CN = 0
 ·subst e1
  rw [if_neg (by simp)]
  by_cases e2 : CL = 0
  ·subst e2
   rw [if_neg (by simp)]
   go_enter Tryz.func46, Tryz.ntmps46
   go_wp2_with fail
   generalize (w.alloc (.cells #[.slice na a.name.length nc, .int .i64 a.type, .int .i64 a.ttl, .int .i64 a.addr, .slice ta a.to.length tc, .slice xa a.text.length xc, .slice ia a.nums.length ic] 56)).alloc (.cells #[.slice na' b.name.length nc', .int .i64 b.type, .int .i64 b.ttl, .int .i64 b.addr, .slice ta' b.to.length tc', .slice xa' b.text.length xc', .slice ia' b.nums.length ic'] 56) = W at *
   refine (unhide HC _ _ _ (unhide H0).name (unhide J0).name).mono ?_
   rintro e w1 ⟨rfl, b1⟩
   have bb1 := below_next b0 b1
   have K1 := hide (block_kept b1 (unhide K0))
   have X1 := hide (block_kept b1 (unhide X0))
   have H1 := hide ((unhide H0).below b1)
   have J1 := hide ((unhide J0).below b1)
   clear K0 X0 H0 J0 b1
   obtain ⟨d0, d1, d2, d3, d4, d5, d6⟩ := cells7 (unhide K1)
   obtain ⟨f0, f1, f2, f3, f4, f5, f6⟩ := cells7 (unhide X1)
   go_wp2_with fail
   refine (unhide HL _).mono ?_
   rintro e w2 ⟨rfl, rfl⟩
   clear d0 d1 d2 d3 d4 d5 d6 f0 f1 f2 f3 f4 f5 f6
   have bd := below_drew (w := w1)
   have bb2 := below_next bb1 bd
   have K2 := hide (block_kept bd (unhide K1))
   have X2 := hide (block_kept bd (unhide X1))
   have H2 := hide ((unhide H1).below bd)
   have J2 := hide ((unhide J1).below bd)
   clear K1 X1 H1 J1 bd
   obtain ⟨d0, d1, d2, d3, d4, d5, d6⟩ := cells7 (unhide K2)
   obtain ⟨f0, f1, f2, f3, f4, f5, f6⟩ := cells7 (unhide X2)
   go_wp2_with fail
   clear d0 d1 d2 d3 d4 d5 d6 f0 f1 f2 f3 f4 f5 f6
   go_region_held3 (fun w' => (w'.cell? ⟨w.heap.size, 0, none⟩ = some (.slice na a.name.length nc) ∧ w'.cell? ⟨w.heap.size, 1, none⟩ = some (.int .i64 a.type) ∧ w'.cell? ⟨w.heap.size, 2, none⟩ = some (.int .i64 a.ttl) ∧ w'.cell? ⟨w.heap.size, 3, none⟩ = some (.int .i64 a.addr) ∧ w'.cell? ⟨w.heap.size, 4, none⟩ = some (.slice ta a.to.length tc) ∧ w'.cell? ⟨w.heap.size, 5, none⟩ = some (.slice xa a.text.length xc) ∧ w'.cell? ⟨w.heap.size, 6, none⟩ = some (.slice ia a.nums.length ic)) ∧ (w'.cell? ⟨w.heap.size + 1, 0, none⟩ = some (.slice na' b.name.length nc') ∧ w'.cell? ⟨w.heap.size + 1, 1, none⟩ = some (.int .i64 b.type) ∧ w'.cell? ⟨w.heap.size + 1, 2, none⟩ = some (.int .i64 b.ttl) ∧ w'.cell? ⟨w.heap.size + 1, 3, none⟩ = some (.int .i64 b.addr) ∧ w'.cell? ⟨w.heap.size + 1, 4, none⟩ = some (.slice ta' b.to.length tc') ∧ w'.cell? ⟨w.heap.size + 1, 5, none⟩ = some (.slice xa' b.text.length xc') ∧ w'.cell? ⟨w.heap.size + 1, 6, none⟩ = some (.slice ia' b.nums.length ic')))
    (first | exact ⟨cells7 (unhide K2), cells7 (unhide X2)⟩ | exact ⟨cells7 (block_kept b3 (unhide K2)), cells7 (block_kept b3 (unhide X2))⟩ | exact ⟨cells7 (block_kept q4 (unhide K2)), cells7 (block_kept q4 (unhide X2))⟩ | exact ⟨cells7 (block_kept q5 (unhide K2)), cells7 (block_kept q5 (unhide X2))⟩)
    (first
    | (go_at_call_of 70 (Value.slice na a.name.length nc); refine (unhide HPa _ _ _ _ _ (unhide H2)).mono ?_; rintro e w3 ⟨y3, rfl, o3, b3⟩)
    | (go_at_call_of 70 (Value.slice na' b.name.length nc'); refine (unhide HPb _ _ _ _ _ ((unhide J2).below b3)).mono ?_; rintro e w4 ⟨y4, rfl, o4, b4⟩; have q4 := below_next b3 b4)
    | (go_at_call 47; refine (unhide HB _ _ _ (o3.below b4).has o4.has).mono ?_; rintro e w5 ⟨rfl, rfl⟩; have q5 := q4))
   go_wp2_with fail
   go_ret
   exact ⟨rfl, below_next bb2 q5⟩
  ·rw [if_pos e2]
   have f2 : (CL == 0) = false := by rw [beq_eq_false_iff_ne]; exact e2
   go_enter Tryz.func46, Tryz.ntmps46
   go_wp2_with fail
   generalize (w.alloc (.cells #[.slice na a.name.length nc, .int .i64 a.type, .int .i64 a.ttl, .int .i64 a.addr, .slice ta a.to.length tc, .slice xa a.text.length xc, .slice ia a.nums.length ic] 56)).alloc (.cells #[.slice na' b.name.length nc', .int .i64 b.type, .int .i64 b.ttl, .int .i64 b.addr, .slice ta' b.to.length tc', .slice xa' b.text.length xc', .slice ia' b.nums.length ic'] 56) = W at *
   refine (unhide HC _ _ _ (unhide H0).name (unhide J0).name).mono ?_
   rintro e w1 ⟨rfl, b1⟩
   have bb1 := below_next b0 b1
   have K1 := hide (block_kept b1 (unhide K0))
   have X1 := hide (block_kept b1 (unhide X0))
   have H1 := hide ((unhide H0).below b1)
   have J1 := hide ((unhide J0).below b1)
   clear K0 X0 H0 J0 b1
   obtain ⟨d0, d1, d2, d3, d4, d5, d6⟩ := cells7 (unhide K1)
   obtain ⟨f0, f1, f9, f3, f4, f5, f6⟩ := cells7 (unhide X1)
   go_wp2_with fail
   refine (unhide HL _).mono ?_
   rintro e w2 ⟨rfl, rfl⟩
   go_wp2_with fail
   go_ret
   exact ⟨rfl, bb1⟩
 ·rw [if_pos e1]
  have f1 : (CN == 0) = false := by rw [beq_eq_false_iff_ne]; exact e1
  go_enter Tryz.func46, Tryz.ntmps46
  go_wp2_with fail
  generalize (w.alloc (.cells #[.slice na a.name.length nc, .int .i64 a.type, .int .i64 a.ttl, .int .i64 a.addr, .slice ta a.to.length tc, .slice xa a.text.length xc, .slice ia a.nums.length ic] 56)).alloc (.cells #[.slice na' b.name.length nc', .int .i64 b.type, .int .i64 b.ttl, .int .i64 b.addr, .slice ta' b.to.length tc', .slice xa' b.text.length xc', .slice ia' b.nums.length ic'] 56) = W at *
  refine (unhide HC _ _ _ (unhide H0).name (unhide J0).name).mono ?_
  rintro e w1 ⟨rfl, b1⟩
  go_wp2_with fail
  go_ret
  exact ⟨rfl, below_next b0 b1⟩
end Go.Proofs.YtpolekinfobecaaGreat
