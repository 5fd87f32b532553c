/-
  Contracts of the specification's l2bytes and l2cmp. Contract of the specification's l5all. Contracts of the specification's l3named, l3texted, l3data and RrOk. Contracts of the specification's l3data and RrOk.
-/
import Derived.Test.YtmlcmkoefelolaaGreatDropG33
import Derived.Test.YtmlcmkoefelolaaGreatDropG14
import Derived.Test.YtmlcmkoefelolaaGreatDropG09
import Derived.WalkLawsBesides
import Derived.Test.YtmlcmkoefelolaaGreatDropG20
import Derived.Test.YtmlcmkoefelolaaGreatDropG05
import Derived.Deep.RegionHeld3
import Derived.RangeFuncBox
import Derived.Test.YtmlcmkoefelolaaGreatDropG17
import Derived.Test.YtmlcmkoefelolaaGreatDropG10
namespace Go.Proofs.YtmlcmkoefelolaaGreat
open Go.RowKit
set_option linter.unusedVariables false

set_option maxHeartbeats 400000 in
set_option maxRecDepth 100000 in
theorem l2bytes_has {v v' : Value} {l l' : List Int} {w : World} (h : Has w v l) (h' : Has w v' l') :
  Calls Tryz.prog 125 #[v, v'] w fun e w' => e = .returned (.int .i64 (cmpB l l')) ∧ w = w' := by
 have hc := conv_has h
 have hc' := conv_has h'
 have hlt := str_less l l'
 have heq := str_same l l'
 clear h h'
 rcases cmpB_cases l l' with e | e | e
 ·rw [e] at hlt heq ⊢
  simp only [decide_true] at hlt
  clear heq e
  go_enter Tryz.func125, Tryz.ntmps125
  go_wp2
  go_ret
  exact ⟨rfl, rfl⟩
 ·rw [e] at hlt heq ⊢
  simp only [decide_true] at heq
  rw [decide_eq_false (by omega)] at hlt
  clear e
  go_enter Tryz.func125, Tryz.ntmps125
  go_wp2
  go_ret
  exact ⟨rfl, rfl⟩
 ·rw [e] at hlt heq ⊢
  rw [decide_eq_false (by omega)] at hlt heq
  clear e
  go_enter Tryz.func125, Tryz.ntmps125
  go_wp2
  go_ret
  exact ⟨rfl, rfl⟩

theorem l2bytes_quiet {v v' : Value} {l l' : List Int} {w : World} (h : Has w v l) (h' : Has w v' l') (n : Nat) :
  Calls Tryz.prog 125 #[v, v'] (w.drewN n) fun e w'' => e = .returned (.int .i64 (cmpB l l')) ∧ ∃ m, w'' = w.drewN m :=
 (l2bytes_has (h.below (below_draws n)) (h'.below (below_draws n))).mono fun e w' ⟨he, hw⟩ => ⟨he, n, hw.symm⟩

set_option maxHeartbeats 1000000 in
set_option maxRecDepth 100000 in
theorem l2cmp_has {v v' : Value} {n n' : List (List Int)} {w : World} (h : HasL w v n) (h' : HasL w v' n') (hs : n.length ≤ 1048576) (hs' : n'.length ≤ 1048576) :
  Calls Tryz.prog 88 #[.agg #[v], .agg #[v']] w fun e w' => e = .returned (.int .i64 (cmpN n n')) ∧ Below w.heap.size w w' := by
 obtain ⟨a, cap, rfl, hl, hm⟩ := h.form
 obtain ⟨a', cap', rfl, hl', hm'⟩ := h'.form
 unfold maxLen at hm hm'
 have HIT := hide (fun (k : Nat) => cmpN_hit (a := n) (b := n') (k := k))
 have NON := hide (fun (k : Nat) => cmpN_none (a := n) (b := n') (k := k))
 have HAT := hide (atEnd_eq n n')
 generalize hR : cmpN n n' = R at *
 clear hR
 generalize hC : atEnd n n' = C at *
 clear hC
 have b1 := below_alloc (w := w) (.cells #[.slice a n.length cap] 32)
 have k1 := heap_alloc_new w (.cells #[.slice a n.length cap] 32)
 have e1 : (w.alloc (.cells #[.slice a n.length cap] 32)).heap.size = w.heap.size + 1 := by show (w.heap.push _).size = _; simp
 have b2 := below_alloc (w := w.alloc (.cells #[.slice a n.length cap] 32)) (.cells #[.slice a' n'.length cap'] 32)
 have x2 := heap_alloc_new (w.alloc (.cells #[.slice a n.length cap] 32)) (.cells #[.slice a' n'.length cap'] 32)
 have k2 := block_kept b2 k1
 rw [e1] at x2
 have bb2 := below_next b1 b2
 have h2 := hide (h.below bb2)
 have h2' := hide (h'.below bb2)
 have HH := hide h
 have HH' := hide h'
 clear h h' b1 b2 k1 e1
 generalize hn : n.length = m at *
 have HN := hide hn
 clear hn
 generalize hn' : n'.length = m' at *
 have HN' := hide hn'
 clear hn'
 go_enter Tryz.func88, Tryz.ntmps88
 go_wp2
 generalize (w.alloc (.cells #[.slice a m cap] 32)).alloc (.cells #[.slice a' m' cap'] 32) = W at *
 go_loopw [5] (fun i wr => ∃ k : Nat, 1 ≤ k ∧ k ≤ m + 1 ∧ k ≤ m' + 1 ∧ i = .int .i64 k ∧ Hid (∀ j, 1 ≤ j → j < k → C j = 0) ∧ Below W.heap.size W wr) (fun i _ => m + 1 - (intOf i).toNat)
 case atStart => exact ⟨1, Nat.le_refl _, by omega, by omega, rfl, hide (fun j h1 h2 => absurd h2 (by omega)), Below.refl _ _⟩
 case round =>
  obtain ⟨k, hk1, hk2, hk3, rfl, hall, hb⟩ := hrel
  have c1 := block_one (block_kept hb k2)
  have c2 := block_one (block_kept hb x2)
  by_cases hlt : k ≤ m
  ·by_cases hlt' : k ≤ m'
   ·obtain ⟨b, off, u, rfl, hbl, hc, hu⟩ := ((unhide h2).below hb).here (k := m - k) (by rw [unhide HN]; omega)
    obtain ⟨b', off', u', rfl, hbl', hc', hu'⟩ := ((unhide h2').below hb).here (k := m' - k) (by rw [unhide HN']; omega)
    have hat := hide (unhide HAT k)
    have hhit := hide (fun (hz : C k ≠ 0) => unhide HIT k hk1 hlt hlt' (unhide hall) hz)
    have hone := hide (fun (hz : C k = 0) => (show ∀ j, 1 ≤ j → j < k + 1 → C j = 0 from fun j h1 h2 => by
      by_cases e : j = k
      ·subst e; exact hz
      ·exact unhide hall j h1 (by omega)))
    generalize n.getD (m - k) [] = lab at *
    generalize n'.getD (m' - k) [] = lab' at *
    obtain ⟨j, hj⟩ : ∃ j : Nat, m - k = j := ⟨_, rfl⟩
    obtain ⟨j', hj'⟩ : ∃ j' : Nat, m' - k = j' := ⟨_, rfl⟩
    rw [hj] at hc
    rw [hj'] at hc'
    have s1 : (m : Int) - k = j := by omega
    have s2 : (m' : Int) - k = j' := by omega
    have jl : j < m := by omega
    have jl' : j' < m' := by omega
    have wj : IntKind.i64.wrap (j : Int) = j := wrap_small j (by omega)
    have wj' : IntKind.i64.wrap (j' : Int) = j' := wrap_small j' (by omega)
    have HU := hide hu
    have HU' := hide hu'
    obtain ⟨ua, uc, rfl, _⟩ := hu.form
    obtain ⟨ua', uc', rfl, _⟩ := hu'.form
    clear hu hu'
    have i1 : (k : Int) ≤ m := by omega
    have i2 : (k : Int) ≤ m' := by omega
    go_wp2
    go_quiet (first | (exact l2bytes_quiet (unhide HU) (unhide HU') _))
    clear wj wj' s1 s2 hj hj' jl jl' hc hc' c1 c2 i1 i2 hl hl' hm hm'
    have bb := below_next hb (below_draws (w := wr) nq)
    have hcs := cmpB_cases lab lab'
    generalize cmpB lab lab' = c at *
    rcases hcs with rfl | rfl | rfl
    ·have hr := unhide hhit (by rw [unhide hat]; omega)
     rw [unhide hat] at hr
     subst hr
     go_wp2
     go_ret
     exact ⟨rfl, below_next bb2 bb⟩
    ·go_wp2
     exact ⟨⟨k + 1, by omega, by omega, by omega, by go_num, hide (unhide hone (unhide hat)), bb⟩, by simp [intOf]; omega⟩
    ·have hr := unhide hhit (by rw [unhide hat]; omega)
     rw [unhide hat] at hr
     subst hr
     go_wp2
     go_ret
     exact ⟨rfl, below_next bb2 bb⟩
   ·have hr := unhide NON k (.inr (by omega)) (unhide hall)
    unfold byLength at hr
    rw [if_neg (by omega), if_pos (by omega)] at hr
    subst hr
    have i1 : (k : Int) ≤ m := by omega
    have i2 : ¬ (k : Int) ≤ m' := by omega
    have i3 : ((m : Int) == m') = false := by rw [beq_eq_false_iff_ne]; omega
    have i4 : ¬ (m : Int) < m' := by omega
    go_wp2
    go_ret
    exact ⟨rfl, below_next bb2 hb⟩
  ·have i1 : ¬ (k : Int) ≤ m := by omega
   have hr := unhide NON k (.inl (by omega)) (unhide hall)
   unfold byLength at hr
   by_cases he : m = m'
   ·subst he
    rw [if_neg (by omega), if_neg (by omega)] at hr
    subst hr
    go_wp2
    go_ret
    exact ⟨rfl, below_next bb2 hb⟩
   ·rw [if_pos (by omega)] at hr
    subst hr
    have i3 : ((m : Int) == m') = false := by rw [beq_eq_false_iff_ne]; omega
    have i4 : (m : Int) < m' := by omega
    go_wp2
    go_ret
    exact ⟨rfl, below_next bb2 hb⟩

end Go.Proofs.YtmlcmkoefelolaaGreat

namespace Go.Proofs.YtmlcmkoefelolaaGreat
open Go.RowKit
set_option linter.unusedVariables false

end Go.Proofs.YtmlcmkoefelolaaGreat

namespace Go.Proofs.YtmlcmkoefelolaaGreat
open Go.RowKit
set_option linter.unusedVariables false

theorem named_1 : named 1 = false := rfl
theorem named_2 : named 2 = true := rfl
theorem named_5 : named 5 = true := rfl
theorem named_6 : named 6 = true := rfl
theorem named_12 : named 12 = true := rfl
theorem named_16 : named 16 = false := rfl
theorem named_49 : named 49 = false := rfl

set_option maxHeartbeats 400000 in
set_option maxRecDepth 100000 in
theorem l3named_any (t : Int) (w : World) (ht : typeOk t = true) : Calls Tryz.prog 135 #[.int .i64 t] w fun e w' => e = .returned (.bool (named t)) ∧ w = w' := by
 rcases type_cases t with rfl | rfl | rfl | rfl | rfl | rfl | rfl | h
 iterate 7
  ·go_enter Tryz.func135, Tryz.ntmps135
   go_wp2
   go_ret
   exact ⟨rfl, rfl⟩
 ·rw [ht] at h; cases h

theorem texted_1 : texted 1 = false := rfl
theorem texted_2 : texted 2 = false := rfl
theorem texted_5 : texted 5 = false := rfl
theorem texted_6 : texted 6 = false := rfl
theorem texted_12 : texted 12 = false := rfl
theorem texted_16 : texted 16 = true := rfl
theorem texted_49 : texted 49 = true := rfl

set_option maxHeartbeats 400000 in
set_option maxRecDepth 100000 in
theorem l3texted_any (t : Int) (w : World) (ht : typeOk t = true) : Calls Tryz.prog 136 #[.int .i64 t] w fun e w' => e = .returned (.bool (texted t)) ∧ w = w' := by
 rcases type_cases t with rfl | rfl | rfl | rfl | rfl | rfl | rfl | h
 iterate 7
  ·go_enter Tryz.func136, Tryz.ntmps136
   go_wp2
   go_ret
   exact ⟨rfl, rfl⟩
 ·rw [ht] at h; cases h

set_option maxHeartbeats 400000 in
set_option maxRecDepth 100000 in
theorem l3_1_0 {na : Option Addr} {nc : Nat} {ta : Option Addr} {tc : Nat} {xa : Option Addr} {xc : Nat} {ia : Option Addr} {ic : Nat} {nm to : List (List Int)} {tx nu : List Int} {tt ad : Int} {w : World} (h : HasR w (.slice na nm.length nc) (.slice ta to.length tc) (.slice xa tx.length xc) (.slice ia nu.length ic) ⟨nm, 1, tt, ad, to, tx, nu⟩) (hA : ad < 0) :
  Calls Tryz.prog 99 #[.agg #[.slice na nm.length nc, .int .i64 1, .int .i64 tt, .int .i64 ad, .slice ta to.length tc, .slice xa tx.length xc, .slice ia nu.length ic]] w fun e w' => e = .returned (.bool false) ∧ Below w.heap.size w w' := by
 have b0 := below_alloc (w := w) (.cells #[.slice na nm.length nc, .int .i64 1, .int .i64 tt, .int .i64 ad, .slice ta to.length tc, .slice xa tx.length xc, .slice ia nu.length ic] 52)
 have K0 := hide (heap_alloc_new w (.cells #[.slice na nm.length nc, .int .i64 1, .int .i64 tt, .int .i64 ad, .slice ta to.length tc, .slice xa tx.length xc, .slice ia nu.length ic] 52))
 have H0 := hide (h.below b0)
 clear h
 go_enter Tryz.func99, Tryz.ntmps99
 go_wp2_with fail
 go_ret
 exact ⟨rfl, b0⟩

set_option maxHeartbeats 400000 in
set_option maxRecDepth 100000 in
theorem l3_1_1 {na : Option Addr} {nc : Nat} {ta : Option Addr} {tc : Nat} {xa : Option Addr} {xc : Nat} {ia : Option Addr} {ic : Nat} {nm to : List (List Int)} {tx nu : List Int} {tt ad : Int} {w : World} (h : HasR w (.slice na nm.length nc) (.slice ta to.length tc) (.slice xa tx.length xc) (.slice ia nu.length ic) ⟨nm, 1, tt, ad, to, tx, nu⟩) (hA : 4294967295 < ad) (hA0 : ¬ ad < 0) :
  Calls Tryz.prog 99 #[.agg #[.slice na nm.length nc, .int .i64 1, .int .i64 tt, .int .i64 ad, .slice ta to.length tc, .slice xa tx.length xc, .slice ia nu.length ic]] w fun e w' => e = .returned (.bool false) ∧ Below w.heap.size w w' := by
 have b0 := below_alloc (w := w) (.cells #[.slice na nm.length nc, .int .i64 1, .int .i64 tt, .int .i64 ad, .slice ta to.length tc, .slice xa tx.length xc, .slice ia nu.length ic] 52)
 have K0 := hide (heap_alloc_new w (.cells #[.slice na nm.length nc, .int .i64 1, .int .i64 tt, .int .i64 ad, .slice ta to.length tc, .slice xa tx.length xc, .slice ia nu.length ic] 52))
 have H0 := hide (h.below b0)
 clear h
 go_enter Tryz.func99, Tryz.ntmps99
 go_wp2_with fail
 go_ret
 exact ⟨rfl, b0⟩

set_option maxHeartbeats 400000 in
set_option maxRecDepth 100000 in
theorem l3_1_2 {na : Option Addr} {nc : Nat} {ta : Option Addr} {tc : Nat} {xa : Option Addr} {xc : Nat} {ia : Option Addr} {ic : Nat} {nm to : List (List Int)} {tx nu : List Int} {tt ad : Int} {w : World} (h : HasR w (.slice na nm.length nc) (.slice ta to.length tc) (.slice xa tx.length xc) (.slice ia nu.length ic) ⟨nm, 1, tt, ad, to, tx, nu⟩) (hA : 0 ≤ ad) (hA2 : ad ≤ 4294967295) (hB : to.length ≠ 0) :
  Calls Tryz.prog 99 #[.agg #[.slice na nm.length nc, .int .i64 1, .int .i64 tt, .int .i64 ad, .slice ta to.length tc, .slice xa tx.length xc, .slice ia nu.length ic]] w fun e w' => e = .returned (.bool false) ∧ Below w.heap.size w w' := by
 have ehB : (0 : Int) < to.length := by omega
 have fhB : ((to.length : Int) == 0) = false := by rw [beq_eq_false_iff_ne]; omega
 have b0 := below_alloc (w := w) (.cells #[.slice na nm.length nc, .int .i64 1, .int .i64 tt, .int .i64 ad, .slice ta to.length tc, .slice xa tx.length xc, .slice ia nu.length ic] 52)
 have K0 := hide (heap_alloc_new w (.cells #[.slice na nm.length nc, .int .i64 1, .int .i64 tt, .int .i64 ad, .slice ta to.length tc, .slice xa tx.length xc, .slice ia nu.length ic] 52))
 have H0 := hide (h.below b0)
 clear h
 go_enter Tryz.func99, Tryz.ntmps99
 go_wp2_with fail
 generalize w.alloc (.cells #[.slice na nm.length nc, .int .i64 1, .int .i64 tt, .int .i64 ad, .slice ta to.length tc, .slice xa tx.length xc, .slice ia nu.length ic] 52) = W at *
 refine (l3named_any 1 _ rfl).mono ?_
 rw [named_1]
 rintro e w1 ⟨rfl, rfl⟩
 obtain ⟨d0, d1, d2, d3, d4, d5, d6⟩ := cells7 (unhide K0)
 go_wp2_with fail
 go_ret
 exact ⟨rfl, b0⟩

set_option maxHeartbeats 400000 in
set_option maxRecDepth 100000 in
theorem l3_1_3 {na : Option Addr} {nc : Nat} {ta : Option Addr} {tc : Nat} {xa : Option Addr} {xc : Nat} {ia : Option Addr} {ic : Nat} {nm to : List (List Int)} {tx nu : List Int} {tt ad : Int} {w : World} (h : HasR w (.slice na nm.length nc) (.slice ta to.length tc) (.slice xa tx.length xc) (.slice ia nu.length ic) ⟨nm, 1, tt, ad, to, tx, nu⟩) (hA : 0 ≤ ad) (hA2 : ad ≤ 4294967295) (hB : to.length = 0) (hC : tx.length ≠ 0) :
  Calls Tryz.prog 99 #[.agg #[.slice na nm.length nc, .int .i64 1, .int .i64 tt, .int .i64 ad, .slice ta to.length tc, .slice xa tx.length xc, .slice ia nu.length ic]] w fun e w' => e = .returned (.bool false) ∧ Below w.heap.size w w' := by
 obtain rfl := nil_of hB
 clear hB
 have ehC : (0 : Int) < tx.length := by omega
 have fhC : ((tx.length : Int) == 0) = false := by rw [beq_eq_false_iff_ne]; omega
 simp only [List.length_nil] at *
 have b0 := below_alloc (w := w) (.cells #[.slice na nm.length nc, .int .i64 1, .int .i64 tt, .int .i64 ad, .slice ta 0 tc, .slice xa tx.length xc, .slice ia nu.length ic] 52)
 have K0 := hide (heap_alloc_new w (.cells #[.slice na nm.length nc, .int .i64 1, .int .i64 tt, .int .i64 ad, .slice ta 0 tc, .slice xa tx.length xc, .slice ia nu.length ic] 52))
 have H0 := hide (h.below b0)
 clear h
 go_enter Tryz.func99, Tryz.ntmps99
 go_wp2_with fail
 generalize w.alloc (.cells #[.slice na nm.length nc, .int .i64 1, .int .i64 tt, .int .i64 ad, .slice ta 0 tc, .slice xa tx.length xc, .slice ia nu.length ic] 52) = W at *
 refine (l3named_any 1 _ rfl).mono ?_
 rw [named_1]
 rintro e w1 ⟨rfl, rfl⟩
 obtain ⟨d0, d1, d2, d3, d4, d5, d6⟩ := cells7 (unhide K0)
 go_wp2_with fail
 refine (l3texted_any 1 _ rfl).mono ?_
 rw [texted_1]
 rintro e w2 ⟨rfl, rfl⟩
 go_wp2_with fail
 go_ret
 exact ⟨rfl, b0⟩

set_option maxHeartbeats 400000 in
set_option maxRecDepth 100000 in
theorem l3_1_4 {na : Option Addr} {nc : Nat} {ta : Option Addr} {tc : Nat} {xa : Option Addr} {xc : Nat} {ia : Option Addr} {ic : Nat} {nm to : List (List Int)} {tx nu : List Int} {tt ad : Int} {w : World} (h : HasR w (.slice na nm.length nc) (.slice ta to.length tc) (.slice xa tx.length xc) (.slice ia nu.length ic) ⟨nm, 1, tt, ad, to, tx, nu⟩) (hA : 0 ≤ ad) (hA2 : ad ≤ 4294967295) (hB : to.length = 0) (hC : tx.length = 0) (hD : nu.length ≠ 0) :
  Calls Tryz.prog 99 #[.agg #[.slice na nm.length nc, .int .i64 1, .int .i64 tt, .int .i64 ad, .slice ta to.length tc, .slice xa tx.length xc, .slice ia nu.length ic]] w fun e w' => e = .returned (.bool false) ∧ Below w.heap.size w w' := by
 obtain rfl := nil_of hB
 clear hB
 obtain rfl := nil_of hC
 clear hC
 have ehD : ((nu.length : Int) == 0) = false := by rw [beq_eq_false_iff_ne]; omega
 simp only [List.length_nil] at *
 have b0 := below_alloc (w := w) (.cells #[.slice na nm.length nc, .int .i64 1, .int .i64 tt, .int .i64 ad, .slice ta 0 tc, .slice xa 0 xc, .slice ia nu.length ic] 52)
 have K0 := hide (heap_alloc_new w (.cells #[.slice na nm.length nc, .int .i64 1, .int .i64 tt, .int .i64 ad, .slice ta 0 tc, .slice xa 0 xc, .slice ia nu.length ic] 52))
 have H0 := hide (h.below b0)
 clear h
 go_enter Tryz.func99, Tryz.ntmps99
 go_wp2_with fail
 generalize w.alloc (.cells #[.slice na nm.length nc, .int .i64 1, .int .i64 tt, .int .i64 ad, .slice ta 0 tc, .slice xa 0 xc, .slice ia nu.length ic] 52) = W at *
 refine (l3named_any 1 _ rfl).mono ?_
 rw [named_1]
 rintro e w1 ⟨rfl, rfl⟩
 obtain ⟨d0, d1, d2, d3, d4, d5, d6⟩ := cells7 (unhide K0)
 go_wp2_with fail
 refine (l3texted_any 1 _ rfl).mono ?_
 rw [texted_1]
 rintro e w2 ⟨rfl, rfl⟩
 go_wp2_with fail
 go_ret
 exact ⟨rfl, b0⟩

set_option maxHeartbeats 400000 in
set_option maxRecDepth 100000 in
theorem l3_1_5 {na : Option Addr} {nc : Nat} {ta : Option Addr} {tc : Nat} {xa : Option Addr} {xc : Nat} {ia : Option Addr} {ic : Nat} {nm to : List (List Int)} {tx nu : List Int} {tt ad : Int} {w : World} (h : HasR w (.slice na nm.length nc) (.slice ta to.length tc) (.slice xa tx.length xc) (.slice ia nu.length ic) ⟨nm, 1, tt, ad, to, tx, nu⟩) (hA : 0 ≤ ad) (hA2 : ad ≤ 4294967295) (hB : to.length = 0) (hC : tx.length = 0) (hD : nu.length = 0) :
  Calls Tryz.prog 99 #[.agg #[.slice na nm.length nc, .int .i64 1, .int .i64 tt, .int .i64 ad, .slice ta to.length tc, .slice xa tx.length xc, .slice ia nu.length ic]] w fun e w' => e = .returned (.bool true) ∧ Below w.heap.size w w' := by
 obtain rfl := nil_of hB
 clear hB
 obtain rfl := nil_of hC
 clear hC
 obtain rfl := nil_of hD
 clear hD
 simp only [List.length_nil] at *
 have b0 := below_alloc (w := w) (.cells #[.slice na nm.length nc, .int .i64 1, .int .i64 tt, .int .i64 ad, .slice ta 0 tc, .slice xa 0 xc, .slice ia 0 ic] 52)
 have K0 := hide (heap_alloc_new w (.cells #[.slice na nm.length nc, .int .i64 1, .int .i64 tt, .int .i64 ad, .slice ta 0 tc, .slice xa 0 xc, .slice ia 0 ic] 52))
 have H0 := hide (h.below b0)
 clear h
 go_enter Tryz.func99, Tryz.ntmps99
 go_wp2_with fail
 generalize w.alloc (.cells #[.slice na nm.length nc, .int .i64 1, .int .i64 tt, .int .i64 ad, .slice ta 0 tc, .slice xa 0 xc, .slice ia 0 ic] 52) = W at *
 refine (l3named_any 1 _ rfl).mono ?_
 rw [named_1]
 rintro e w1 ⟨rfl, rfl⟩
 obtain ⟨d0, d1, d2, d3, d4, d5, d6⟩ := cells7 (unhide K0)
 go_wp2_with fail
 refine (l3texted_any 1 _ rfl).mono ?_
 rw [texted_1]
 rintro e w2 ⟨rfl, rfl⟩
 go_wp2_with fail
 go_ret
 exact ⟨rfl, b0⟩

set_option maxHeartbeats 400000 in
set_option maxRecDepth 100000 in
theorem l3_2_0 {na : Option Addr} {nc : Nat} {ta : Option Addr} {tc : Nat} {xa : Option Addr} {xc : Nat} {ia : Option Addr} {ic : Nat} {nm to : List (List Int)} {tx nu : List Int} {tt ad : Int} {w : World} (h : HasR w (.slice na nm.length nc) (.slice ta to.length tc) (.slice xa tx.length xc) (.slice ia nu.length ic) ⟨nm, 2, tt, ad, to, tx, nu⟩) (hA : ad ≠ 0) :
  Calls Tryz.prog 99 #[.agg #[.slice na nm.length nc, .int .i64 2, .int .i64 tt, .int .i64 ad, .slice ta to.length tc, .slice xa tx.length xc, .slice ia nu.length ic]] w fun e w' => e = .returned (.bool false) ∧ Below w.heap.size w w' := by
 have ehA : (ad != 0) = true := by rw [bne_iff_ne]; exact hA
 have fhA : (ad == 0) = false := by rw [beq_eq_false_iff_ne]; exact hA
 have ghA : decide (ad = 0) = false := decide_eq_false hA
 have b0 := below_alloc (w := w) (.cells #[.slice na nm.length nc, .int .i64 2, .int .i64 tt, .int .i64 ad, .slice ta to.length tc, .slice xa tx.length xc, .slice ia nu.length ic] 52)
 have K0 := hide (heap_alloc_new w (.cells #[.slice na nm.length nc, .int .i64 2, .int .i64 tt, .int .i64 ad, .slice ta to.length tc, .slice xa tx.length xc, .slice ia nu.length ic] 52))
 have H0 := hide (h.below b0)
 clear h
 go_enter Tryz.func99, Tryz.ntmps99
 go_wp2_with fail
 go_ret
 exact ⟨rfl, b0⟩

set_option maxHeartbeats 400000 in
set_option maxRecDepth 100000 in
theorem l3_2_1 {na : Option Addr} {nc : Nat} {ta : Option Addr} {tc : Nat} {xa : Option Addr} {xc : Nat} {ia : Option Addr} {ic : Nat} {nm to : List (List Int)} {tx nu : List Int} {tt ad : Int} {w : World} (h : HasR w (.slice na nm.length nc) (.slice ta to.length tc) (.slice xa tx.length xc) (.slice ia nu.length ic) ⟨nm, 2, tt, ad, to, tx, nu⟩) (hA : ad = 0) (hB : nameOk to = false) :
  Calls Tryz.prog 99 #[.agg #[.slice na nm.length nc, .int .i64 2, .int .i64 tt, .int .i64 ad, .slice ta to.length tc, .slice xa tx.length xc, .slice ia nu.length ic]] w fun e w' => e = .returned (.bool false) ∧ Below w.heap.size w w' := by
 obtain rfl := hA
 have b0 := below_alloc (w := w) (.cells #[.slice na nm.length nc, .int .i64 2, .int .i64 tt, .int .i64 0, .slice ta to.length tc, .slice xa tx.length xc, .slice ia nu.length ic] 52)
 have K0 := hide (heap_alloc_new w (.cells #[.slice na nm.length nc, .int .i64 2, .int .i64 tt, .int .i64 0, .slice ta to.length tc, .slice xa tx.length xc, .slice ia nu.length ic] 52))
 have H0 := hide (h.below b0)
 clear h
 have HB := hide hB
 clear hB
 go_enter Tryz.func99, Tryz.ntmps99
 go_wp2_with fail
 generalize w.alloc (.cells #[.slice na nm.length nc, .int .i64 2, .int .i64 tt, .int .i64 0, .slice ta to.length tc, .slice xa tx.length xc, .slice ia nu.length ic] 52) = W at *
 refine (l3named_any 2 _ rfl).mono ?_
 rw [named_2]
 rintro e w1 ⟨rfl, rfl⟩
 obtain ⟨d0, d1, d2, d3, d4, d5, d6⟩ := cells7 (unhide K0)
 go_wp2_with fail
 clear d0 d1 d2 d3 d4 d5 d6
 refine (specNameOk_has (show HasL W (.slice ta to.length tc) to from (unhide H0).to)).mono ?_
 rw [unhide HB]
 rintro e w1 ⟨rfl, b1⟩
 have bb1 := below_next b0 b1
 have K1 := hide (block_kept b1 (unhide K0))
 have H1 := hide ((unhide H0).below b1)
 clear b1 b0 K0 H0
 obtain ⟨d0, d1, d2, d3, d4, d5, d6⟩ := cells7 (unhide K1)
 go_wp2_with fail
 go_ret
 exact ⟨rfl, bb1⟩

set_option maxHeartbeats 400000 in
set_option maxRecDepth 100000 in
theorem l3_2_2 {na : Option Addr} {nc : Nat} {ta : Option Addr} {tc : Nat} {xa : Option Addr} {xc : Nat} {ia : Option Addr} {ic : Nat} {nm to : List (List Int)} {tx nu : List Int} {tt ad : Int} {w : World} (h : HasR w (.slice na nm.length nc) (.slice ta to.length tc) (.slice xa tx.length xc) (.slice ia nu.length ic) ⟨nm, 2, tt, ad, to, tx, nu⟩) (hA : ad = 0) (hB : nameOk to = true) (hC : tx.length ≠ 0) :
  Calls Tryz.prog 99 #[.agg #[.slice na nm.length nc, .int .i64 2, .int .i64 tt, .int .i64 ad, .slice ta to.length tc, .slice xa tx.length xc, .slice ia nu.length ic]] w fun e w' => e = .returned (.bool false) ∧ Below w.heap.size w w' := by
 obtain rfl := hA
 have ehC : (0 : Int) < tx.length := by omega
 have fhC : ((tx.length : Int) == 0) = false := by rw [beq_eq_false_iff_ne]; omega
 have b0 := below_alloc (w := w) (.cells #[.slice na nm.length nc, .int .i64 2, .int .i64 tt, .int .i64 0, .slice ta to.length tc, .slice xa tx.length xc, .slice ia nu.length ic] 52)
 have K0 := hide (heap_alloc_new w (.cells #[.slice na nm.length nc, .int .i64 2, .int .i64 tt, .int .i64 0, .slice ta to.length tc, .slice xa tx.length xc, .slice ia nu.length ic] 52))
 have H0 := hide (h.below b0)
 clear h
 have HB := hide hB
 clear hB
 go_enter Tryz.func99, Tryz.ntmps99
 go_wp2_with fail
 generalize w.alloc (.cells #[.slice na nm.length nc, .int .i64 2, .int .i64 tt, .int .i64 0, .slice ta to.length tc, .slice xa tx.length xc, .slice ia nu.length ic] 52) = W at *
 refine (l3named_any 2 _ rfl).mono ?_
 rw [named_2]
 rintro e w1 ⟨rfl, rfl⟩
 obtain ⟨d0, d1, d2, d3, d4, d5, d6⟩ := cells7 (unhide K0)
 go_wp2_with fail
 clear d0 d1 d2 d3 d4 d5 d6
 refine (specNameOk_has (show HasL W (.slice ta to.length tc) to from (unhide H0).to)).mono ?_
 rw [unhide HB]
 rintro e w1 ⟨rfl, b1⟩
 have bb1 := below_next b0 b1
 have K1 := hide (block_kept b1 (unhide K0))
 have H1 := hide ((unhide H0).below b1)
 clear b1 b0 K0 H0
 obtain ⟨d0, d1, d2, d3, d4, d5, d6⟩ := cells7 (unhide K1)
 go_wp2_with fail
 refine (l3texted_any 2 _ rfl).mono ?_
 rw [texted_2]
 rintro e w2 ⟨rfl, rfl⟩
 go_wp2_with fail
 go_ret
 exact ⟨rfl, bb1⟩

set_option maxHeartbeats 400000 in
set_option maxRecDepth 100000 in
theorem l3_2_3 {na : Option Addr} {nc : Nat} {ta : Option Addr} {tc : Nat} {xa : Option Addr} {xc : Nat} {ia : Option Addr} {ic : Nat} {nm to : List (List Int)} {tx nu : List Int} {tt ad : Int} {w : World} (h : HasR w (.slice na nm.length nc) (.slice ta to.length tc) (.slice xa tx.length xc) (.slice ia nu.length ic) ⟨nm, 2, tt, ad, to, tx, nu⟩) (hA : ad = 0) (hB : nameOk to = true) (hC : tx.length = 0) (hD : nu.length ≠ 0) :
  Calls Tryz.prog 99 #[.agg #[.slice na nm.length nc, .int .i64 2, .int .i64 tt, .int .i64 ad, .slice ta to.length tc, .slice xa tx.length xc, .slice ia nu.length ic]] w fun e w' => e = .returned (.bool false) ∧ Below w.heap.size w w' := by
 obtain rfl := hA
 obtain rfl := nil_of hC
 clear hC
 have ehD : ((nu.length : Int) == 0) = false := by rw [beq_eq_false_iff_ne]; omega
 simp only [List.length_nil] at *
 have b0 := below_alloc (w := w) (.cells #[.slice na nm.length nc, .int .i64 2, .int .i64 tt, .int .i64 0, .slice ta to.length tc, .slice xa 0 xc, .slice ia nu.length ic] 52)
 have K0 := hide (heap_alloc_new w (.cells #[.slice na nm.length nc, .int .i64 2, .int .i64 tt, .int .i64 0, .slice ta to.length tc, .slice xa 0 xc, .slice ia nu.length ic] 52))
 have H0 := hide (h.below b0)
 clear h
 have HB := hide hB
 clear hB
 go_enter Tryz.func99, Tryz.ntmps99
 go_wp2_with fail
 generalize w.alloc (.cells #[.slice na nm.length nc, .int .i64 2, .int .i64 tt, .int .i64 0, .slice ta to.length tc, .slice xa 0 xc, .slice ia nu.length ic] 52) = W at *
 refine (l3named_any 2 _ rfl).mono ?_
 rw [named_2]
 rintro e w1 ⟨rfl, rfl⟩
 obtain ⟨d0, d1, d2, d3, d4, d5, d6⟩ := cells7 (unhide K0)
 go_wp2_with fail
 clear d0 d1 d2 d3 d4 d5 d6
 refine (specNameOk_has (show HasL W (.slice ta to.length tc) to from (unhide H0).to)).mono ?_
 rw [unhide HB]
 rintro e w1 ⟨rfl, b1⟩
 have bb1 := below_next b0 b1
 have K1 := hide (block_kept b1 (unhide K0))
 have H1 := hide ((unhide H0).below b1)
 clear b1 b0 K0 H0
 obtain ⟨d0, d1, d2, d3, d4, d5, d6⟩ := cells7 (unhide K1)
 go_wp2_with fail
 refine (l3texted_any 2 _ rfl).mono ?_
 rw [texted_2]
 rintro e w2 ⟨rfl, rfl⟩
 go_wp2_with fail
 go_ret
 exact ⟨rfl, bb1⟩

set_option maxHeartbeats 400000 in
set_option maxRecDepth 100000 in
theorem l3_2_4 {na : Option Addr} {nc : Nat} {ta : Option Addr} {tc : Nat} {xa : Option Addr} {xc : Nat} {ia : Option Addr} {ic : Nat} {nm to : List (List Int)} {tx nu : List Int} {tt ad : Int} {w : World} (h : HasR w (.slice na nm.length nc) (.slice ta to.length tc) (.slice xa tx.length xc) (.slice ia nu.length ic) ⟨nm, 2, tt, ad, to, tx, nu⟩) (hA : ad = 0) (hB : nameOk to = true) (hC : tx.length = 0) (hD : nu.length = 0) :
  Calls Tryz.prog 99 #[.agg #[.slice na nm.length nc, .int .i64 2, .int .i64 tt, .int .i64 ad, .slice ta to.length tc, .slice xa tx.length xc, .slice ia nu.length ic]] w fun e w' => e = .returned (.bool true) ∧ Below w.heap.size w w' := by
 obtain rfl := hA
 obtain rfl := nil_of hC
 clear hC
 obtain rfl := nil_of hD
 clear hD
 simp only [List.length_nil] at *
 have b0 := below_alloc (w := w) (.cells #[.slice na nm.length nc, .int .i64 2, .int .i64 tt, .int .i64 0, .slice ta to.length tc, .slice xa 0 xc, .slice ia 0 ic] 52)
 have K0 := hide (heap_alloc_new w (.cells #[.slice na nm.length nc, .int .i64 2, .int .i64 tt, .int .i64 0, .slice ta to.length tc, .slice xa 0 xc, .slice ia 0 ic] 52))
 have H0 := hide (h.below b0)
 clear h
 have HB := hide hB
 clear hB
 go_enter Tryz.func99, Tryz.ntmps99
 go_wp2_with fail
 generalize w.alloc (.cells #[.slice na nm.length nc, .int .i64 2, .int .i64 tt, .int .i64 0, .slice ta to.length tc, .slice xa 0 xc, .slice ia 0 ic] 52) = W at *
 refine (l3named_any 2 _ rfl).mono ?_
 rw [named_2]
 rintro e w1 ⟨rfl, rfl⟩
 obtain ⟨d0, d1, d2, d3, d4, d5, d6⟩ := cells7 (unhide K0)
 go_wp2_with fail
 clear d0 d1 d2 d3 d4 d5 d6
 refine (specNameOk_has (show HasL W (.slice ta to.length tc) to from (unhide H0).to)).mono ?_
 rw [unhide HB]
 rintro e w1 ⟨rfl, b1⟩
 have bb1 := below_next b0 b1
 have K1 := hide (block_kept b1 (unhide K0))
 have H1 := hide ((unhide H0).below b1)
 clear b1 b0 K0 H0
 obtain ⟨d0, d1, d2, d3, d4, d5, d6⟩ := cells7 (unhide K1)
 go_wp2_with fail
 refine (l3texted_any 2 _ rfl).mono ?_
 rw [texted_2]
 rintro e w2 ⟨rfl, rfl⟩
 go_wp2_with fail
 go_ret
 exact ⟨rfl, bb1⟩

set_option maxHeartbeats 400000 in
set_option maxRecDepth 100000 in
theorem l3_5_0 {na : Option Addr} {nc : Nat} {ta : Option Addr} {tc : Nat} {xa : Option Addr} {xc : Nat} {ia : Option Addr} {ic : Nat} {nm to : List (List Int)} {tx nu : List Int} {tt ad : Int} {w : World} (h : HasR w (.slice na nm.length nc) (.slice ta to.length tc) (.slice xa tx.length xc) (.slice ia nu.length ic) ⟨nm, 5, tt, ad, to, tx, nu⟩) (hA : ad ≠ 0) :
  Calls Tryz.prog 99 #[.agg #[.slice na nm.length nc, .int .i64 5, .int .i64 tt, .int .i64 ad, .slice ta to.length tc, .slice xa tx.length xc, .slice ia nu.length ic]] w fun e w' => e = .returned (.bool false) ∧ Below w.heap.size w w' := by
 have ehA : (ad != 0) = true := by rw [bne_iff_ne]; exact hA
 have fhA : (ad == 0) = false := by rw [beq_eq_false_iff_ne]; exact hA
 have ghA : decide (ad = 0) = false := decide_eq_false hA
 have b0 := below_alloc (w := w) (.cells #[.slice na nm.length nc, .int .i64 5, .int .i64 tt, .int .i64 ad, .slice ta to.length tc, .slice xa tx.length xc, .slice ia nu.length ic] 52)
 have K0 := hide (heap_alloc_new w (.cells #[.slice na nm.length nc, .int .i64 5, .int .i64 tt, .int .i64 ad, .slice ta to.length tc, .slice xa tx.length xc, .slice ia nu.length ic] 52))
 have H0 := hide (h.below b0)
 clear h
 go_enter Tryz.func99, Tryz.ntmps99
 go_wp2_with fail
 go_ret
 exact ⟨rfl, b0⟩

set_option maxHeartbeats 400000 in
set_option maxRecDepth 100000 in
theorem l3_5_1 {na : Option Addr} {nc : Nat} {ta : Option Addr} {tc : Nat} {xa : Option Addr} {xc : Nat} {ia : Option Addr} {ic : Nat} {nm to : List (List Int)} {tx nu : List Int} {tt ad : Int} {w : World} (h : HasR w (.slice na nm.length nc) (.slice ta to.length tc) (.slice xa tx.length xc) (.slice ia nu.length ic) ⟨nm, 5, tt, ad, to, tx, nu⟩) (hA : ad = 0) (hB : nameOk to = false) :
  Calls Tryz.prog 99 #[.agg #[.slice na nm.length nc, .int .i64 5, .int .i64 tt, .int .i64 ad, .slice ta to.length tc, .slice xa tx.length xc, .slice ia nu.length ic]] w fun e w' => e = .returned (.bool false) ∧ Below w.heap.size w w' := by
 obtain rfl := hA
 have b0 := below_alloc (w := w) (.cells #[.slice na nm.length nc, .int .i64 5, .int .i64 tt, .int .i64 0, .slice ta to.length tc, .slice xa tx.length xc, .slice ia nu.length ic] 52)
 have K0 := hide (heap_alloc_new w (.cells #[.slice na nm.length nc, .int .i64 5, .int .i64 tt, .int .i64 0, .slice ta to.length tc, .slice xa tx.length xc, .slice ia nu.length ic] 52))
 have H0 := hide (h.below b0)
 clear h
 have HB := hide hB
 clear hB
 go_enter Tryz.func99, Tryz.ntmps99
 go_wp2_with fail
 generalize w.alloc (.cells #[.slice na nm.length nc, .int .i64 5, .int .i64 tt, .int .i64 0, .slice ta to.length tc, .slice xa tx.length xc, .slice ia nu.length ic] 52) = W at *
 refine (l3named_any 5 _ rfl).mono ?_
 rw [named_5]
 rintro e w1 ⟨rfl, rfl⟩
 obtain ⟨d0, d1, d2, d3, d4, d5, d6⟩ := cells7 (unhide K0)
 go_wp2_with fail
 clear d0 d1 d2 d3 d4 d5 d6
 refine (specNameOk_has (show HasL W (.slice ta to.length tc) to from (unhide H0).to)).mono ?_
 rw [unhide HB]
 rintro e w1 ⟨rfl, b1⟩
 have bb1 := below_next b0 b1
 have K1 := hide (block_kept b1 (unhide K0))
 have H1 := hide ((unhide H0).below b1)
 clear b1 b0 K0 H0
 obtain ⟨d0, d1, d2, d3, d4, d5, d6⟩ := cells7 (unhide K1)
 go_wp2_with fail
 go_ret
 exact ⟨rfl, bb1⟩

set_option maxHeartbeats 400000 in
set_option maxRecDepth 100000 in
theorem l3_5_2 {na : Option Addr} {nc : Nat} {ta : Option Addr} {tc : Nat} {xa : Option Addr} {xc : Nat} {ia : Option Addr} {ic : Nat} {nm to : List (List Int)} {tx nu : List Int} {tt ad : Int} {w : World} (h : HasR w (.slice na nm.length nc) (.slice ta to.length tc) (.slice xa tx.length xc) (.slice ia nu.length ic) ⟨nm, 5, tt, ad, to, tx, nu⟩) (hA : ad = 0) (hB : nameOk to = true) (hC : tx.length ≠ 0) :
  Calls Tryz.prog 99 #[.agg #[.slice na nm.length nc, .int .i64 5, .int .i64 tt, .int .i64 ad, .slice ta to.length tc, .slice xa tx.length xc, .slice ia nu.length ic]] w fun e w' => e = .returned (.bool false) ∧ Below w.heap.size w w' := by
 obtain rfl := hA
 have ehC : (0 : Int) < tx.length := by omega
 have fhC : ((tx.length : Int) == 0) = false := by rw [beq_eq_false_iff_ne]; omega
 have b0 := below_alloc (w := w) (.cells #[.slice na nm.length nc, .int .i64 5, .int .i64 tt, .int .i64 0, .slice ta to.length tc, .slice xa tx.length xc, .slice ia nu.length ic] 52)
 have K0 := hide (heap_alloc_new w (.cells #[.slice na nm.length nc, .int .i64 5, .int .i64 tt, .int .i64 0, .slice ta to.length tc, .slice xa tx.length xc, .slice ia nu.length ic] 52))
 have H0 := hide (h.below b0)
 clear h
 have HB := hide hB
 clear hB
 go_enter Tryz.func99, Tryz.ntmps99
 go_wp2_with fail
 generalize w.alloc (.cells #[.slice na nm.length nc, .int .i64 5, .int .i64 tt, .int .i64 0, .slice ta to.length tc, .slice xa tx.length xc, .slice ia nu.length ic] 52) = W at *
 refine (l3named_any 5 _ rfl).mono ?_
 rw [named_5]
 rintro e w1 ⟨rfl, rfl⟩
 obtain ⟨d0, d1, d2, d3, d4, d5, d6⟩ := cells7 (unhide K0)
 go_wp2_with fail
 clear d0 d1 d2 d3 d4 d5 d6
 refine (specNameOk_has (show HasL W (.slice ta to.length tc) to from (unhide H0).to)).mono ?_
 rw [unhide HB]
 rintro e w1 ⟨rfl, b1⟩
 have bb1 := below_next b0 b1
 have K1 := hide (block_kept b1 (unhide K0))
 have H1 := hide ((unhide H0).below b1)
 clear b1 b0 K0 H0
 obtain ⟨d0, d1, d2, d3, d4, d5, d6⟩ := cells7 (unhide K1)
 go_wp2_with fail
 refine (l3texted_any 5 _ rfl).mono ?_
 rw [texted_5]
 rintro e w2 ⟨rfl, rfl⟩
 go_wp2_with fail
 go_ret
 exact ⟨rfl, bb1⟩

set_option maxHeartbeats 400000 in
set_option maxRecDepth 100000 in
theorem l3_5_3 {na : Option Addr} {nc : Nat} {ta : Option Addr} {tc : Nat} {xa : Option Addr} {xc : Nat} {ia : Option Addr} {ic : Nat} {nm to : List (List Int)} {tx nu : List Int} {tt ad : Int} {w : World} (h : HasR w (.slice na nm.length nc) (.slice ta to.length tc) (.slice xa tx.length xc) (.slice ia nu.length ic) ⟨nm, 5, tt, ad, to, tx, nu⟩) (hA : ad = 0) (hB : nameOk to = true) (hC : tx.length = 0) (hD : nu.length ≠ 0) :
  Calls Tryz.prog 99 #[.agg #[.slice na nm.length nc, .int .i64 5, .int .i64 tt, .int .i64 ad, .slice ta to.length tc, .slice xa tx.length xc, .slice ia nu.length ic]] w fun e w' => e = .returned (.bool false) ∧ Below w.heap.size w w' := by
 obtain rfl := hA
 obtain rfl := nil_of hC
 clear hC
 have ehD : ((nu.length : Int) == 0) = false := by rw [beq_eq_false_iff_ne]; omega
 simp only [List.length_nil] at *
 have b0 := below_alloc (w := w) (.cells #[.slice na nm.length nc, .int .i64 5, .int .i64 tt, .int .i64 0, .slice ta to.length tc, .slice xa 0 xc, .slice ia nu.length ic] 52)
 have K0 := hide (heap_alloc_new w (.cells #[.slice na nm.length nc, .int .i64 5, .int .i64 tt, .int .i64 0, .slice ta to.length tc, .slice xa 0 xc, .slice ia nu.length ic] 52))
 have H0 := hide (h.below b0)
 clear h
 have HB := hide hB
 clear hB
 go_enter Tryz.func99, Tryz.ntmps99
 go_wp2_with fail
 generalize w.alloc (.cells #[.slice na nm.length nc, .int .i64 5, .int .i64 tt, .int .i64 0, .slice ta to.length tc, .slice xa 0 xc, .slice ia nu.length ic] 52) = W at *
 refine (l3named_any 5 _ rfl).mono ?_
 rw [named_5]
 rintro e w1 ⟨rfl, rfl⟩
 obtain ⟨d0, d1, d2, d3, d4, d5, d6⟩ := cells7 (unhide K0)
 go_wp2_with fail
 clear d0 d1 d2 d3 d4 d5 d6
 refine (specNameOk_has (show HasL W (.slice ta to.length tc) to from (unhide H0).to)).mono ?_
 rw [unhide HB]
 rintro e w1 ⟨rfl, b1⟩
 have bb1 := below_next b0 b1
 have K1 := hide (block_kept b1 (unhide K0))
 have H1 := hide ((unhide H0).below b1)
 clear b1 b0 K0 H0
 obtain ⟨d0, d1, d2, d3, d4, d5, d6⟩ := cells7 (unhide K1)
 go_wp2_with fail
 refine (l3texted_any 5 _ rfl).mono ?_
 rw [texted_5]
 rintro e w2 ⟨rfl, rfl⟩
 go_wp2_with fail
 go_ret
 exact ⟨rfl, bb1⟩

set_option maxHeartbeats 400000 in
set_option maxRecDepth 100000 in
theorem l3_5_4 {na : Option Addr} {nc : Nat} {ta : Option Addr} {tc : Nat} {xa : Option Addr} {xc : Nat} {ia : Option Addr} {ic : Nat} {nm to : List (List Int)} {tx nu : List Int} {tt ad : Int} {w : World} (h : HasR w (.slice na nm.length nc) (.slice ta to.length tc) (.slice xa tx.length xc) (.slice ia nu.length ic) ⟨nm, 5, tt, ad, to, tx, nu⟩) (hA : ad = 0) (hB : nameOk to = true) (hC : tx.length = 0) (hD : nu.length = 0) :
  Calls Tryz.prog 99 #[.agg #[.slice na nm.length nc, .int .i64 5, .int .i64 tt, .int .i64 ad, .slice ta to.length tc, .slice xa tx.length xc, .slice ia nu.length ic]] w fun e w' => e = .returned (.bool true) ∧ Below w.heap.size w w' := by
 obtain rfl := hA
 obtain rfl := nil_of hC
 clear hC
 obtain rfl := nil_of hD
 clear hD
 simp only [List.length_nil] at *
 have b0 := below_alloc (w := w) (.cells #[.slice na nm.length nc, .int .i64 5, .int .i64 tt, .int .i64 0, .slice ta to.length tc, .slice xa 0 xc, .slice ia 0 ic] 52)
 have K0 := hide (heap_alloc_new w (.cells #[.slice na nm.length nc, .int .i64 5, .int .i64 tt, .int .i64 0, .slice ta to.length tc, .slice xa 0 xc, .slice ia 0 ic] 52))
 have H0 := hide (h.below b0)
 clear h
 have HB := hide hB
 clear hB
 go_enter Tryz.func99, Tryz.ntmps99
 go_wp2_with fail
 generalize w.alloc (.cells #[.slice na nm.length nc, .int .i64 5, .int .i64 tt, .int .i64 0, .slice ta to.length tc, .slice xa 0 xc, .slice ia 0 ic] 52) = W at *
 refine (l3named_any 5 _ rfl).mono ?_
 rw [named_5]
 rintro e w1 ⟨rfl, rfl⟩
 obtain ⟨d0, d1, d2, d3, d4, d5, d6⟩ := cells7 (unhide K0)
 go_wp2_with fail
 clear d0 d1 d2 d3 d4 d5 d6
 refine (specNameOk_has (show HasL W (.slice ta to.length tc) to from (unhide H0).to)).mono ?_
 rw [unhide HB]
 rintro e w1 ⟨rfl, b1⟩
 have bb1 := below_next b0 b1
 have K1 := hide (block_kept b1 (unhide K0))
 have H1 := hide ((unhide H0).below b1)
 clear b1 b0 K0 H0
 obtain ⟨d0, d1, d2, d3, d4, d5, d6⟩ := cells7 (unhide K1)
 go_wp2_with fail
 refine (l3texted_any 5 _ rfl).mono ?_
 rw [texted_5]
 rintro e w2 ⟨rfl, rfl⟩
 go_wp2_with fail
 go_ret
 exact ⟨rfl, bb1⟩

set_option maxHeartbeats 400000 in
set_option maxRecDepth 100000 in
theorem l3_6_0 {na : Option Addr} {nc : Nat} {ta : Option Addr} {tc : Nat} {xa : Option Addr} {xc : Nat} {ia : Option Addr} {ic : Nat} {nm to : List (List Int)} {tx nu : List Int} {tt ad : Int} {w : World} (h : HasR w (.slice na nm.length nc) (.slice ta to.length tc) (.slice xa tx.length xc) (.slice ia nu.length ic) ⟨nm, 6, tt, ad, to, tx, nu⟩) (hA : ad ≠ 0) :
  Calls Tryz.prog 99 #[.agg #[.slice na nm.length nc, .int .i64 6, .int .i64 tt, .int .i64 ad, .slice ta to.length tc, .slice xa tx.length xc, .slice ia nu.length ic]] w fun e w' => e = .returned (.bool false) ∧ Below w.heap.size w w' := by
 have ehA : (ad != 0) = true := by rw [bne_iff_ne]; exact hA
 have fhA : (ad == 0) = false := by rw [beq_eq_false_iff_ne]; exact hA
 have ghA : decide (ad = 0) = false := decide_eq_false hA
 have b0 := below_alloc (w := w) (.cells #[.slice na nm.length nc, .int .i64 6, .int .i64 tt, .int .i64 ad, .slice ta to.length tc, .slice xa tx.length xc, .slice ia nu.length ic] 52)
 have K0 := hide (heap_alloc_new w (.cells #[.slice na nm.length nc, .int .i64 6, .int .i64 tt, .int .i64 ad, .slice ta to.length tc, .slice xa tx.length xc, .slice ia nu.length ic] 52))
 have H0 := hide (h.below b0)
 clear h
 go_enter Tryz.func99, Tryz.ntmps99
 go_wp2_with fail
 go_ret
 exact ⟨rfl, b0⟩

set_option maxHeartbeats 400000 in
set_option maxRecDepth 100000 in
theorem l3_6_1 {na : Option Addr} {nc : Nat} {ta : Option Addr} {tc : Nat} {xa : Option Addr} {xc : Nat} {ia : Option Addr} {ic : Nat} {nm to : List (List Int)} {tx nu : List Int} {tt ad : Int} {w : World} (h : HasR w (.slice na nm.length nc) (.slice ta to.length tc) (.slice xa tx.length xc) (.slice ia nu.length ic) ⟨nm, 6, tt, ad, to, tx, nu⟩) (hA : ad = 0) (hB : nameOk to = false) :
  Calls Tryz.prog 99 #[.agg #[.slice na nm.length nc, .int .i64 6, .int .i64 tt, .int .i64 ad, .slice ta to.length tc, .slice xa tx.length xc, .slice ia nu.length ic]] w fun e w' => e = .returned (.bool false) ∧ Below w.heap.size w w' := by
 obtain rfl := hA
 have b0 := below_alloc (w := w) (.cells #[.slice na nm.length nc, .int .i64 6, .int .i64 tt, .int .i64 0, .slice ta to.length tc, .slice xa tx.length xc, .slice ia nu.length ic] 52)
 have K0 := hide (heap_alloc_new w (.cells #[.slice na nm.length nc, .int .i64 6, .int .i64 tt, .int .i64 0, .slice ta to.length tc, .slice xa tx.length xc, .slice ia nu.length ic] 52))
 have H0 := hide (h.below b0)
 clear h
 have HB := hide hB
 clear hB
 go_enter Tryz.func99, Tryz.ntmps99
 go_wp2_with fail
 generalize w.alloc (.cells #[.slice na nm.length nc, .int .i64 6, .int .i64 tt, .int .i64 0, .slice ta to.length tc, .slice xa tx.length xc, .slice ia nu.length ic] 52) = W at *
 refine (l3named_any 6 _ rfl).mono ?_
 rw [named_6]
 rintro e w1 ⟨rfl, rfl⟩
 obtain ⟨d0, d1, d2, d3, d4, d5, d6⟩ := cells7 (unhide K0)
 go_wp2_with fail
 clear d0 d1 d2 d3 d4 d5 d6
 refine (specNameOk_has (show HasL W (.slice ta to.length tc) to from (unhide H0).to)).mono ?_
 rw [unhide HB]
 rintro e w1 ⟨rfl, b1⟩
 have bb1 := below_next b0 b1
 have K1 := hide (block_kept b1 (unhide K0))
 have H1 := hide ((unhide H0).below b1)
 clear b1 b0 K0 H0
 obtain ⟨d0, d1, d2, d3, d4, d5, d6⟩ := cells7 (unhide K1)
 go_wp2_with fail
 go_ret
 exact ⟨rfl, bb1⟩

set_option maxHeartbeats 400000 in
set_option maxRecDepth 100000 in
theorem l3_6_2 {na : Option Addr} {nc : Nat} {ta : Option Addr} {tc : Nat} {xa : Option Addr} {xc : Nat} {ia : Option Addr} {ic : Nat} {nm to : List (List Int)} {tx nu : List Int} {tt ad : Int} {w : World} (h : HasR w (.slice na nm.length nc) (.slice ta to.length tc) (.slice xa tx.length xc) (.slice ia nu.length ic) ⟨nm, 6, tt, ad, to, tx, nu⟩) (hA : ad = 0) (hB : nameOk to = true) (hC : tx.length ≠ 0) :
  Calls Tryz.prog 99 #[.agg #[.slice na nm.length nc, .int .i64 6, .int .i64 tt, .int .i64 ad, .slice ta to.length tc, .slice xa tx.length xc, .slice ia nu.length ic]] w fun e w' => e = .returned (.bool false) ∧ Below w.heap.size w w' := by
 obtain rfl := hA
 have ehC : (0 : Int) < tx.length := by omega
 have fhC : ((tx.length : Int) == 0) = false := by rw [beq_eq_false_iff_ne]; omega
 have b0 := below_alloc (w := w) (.cells #[.slice na nm.length nc, .int .i64 6, .int .i64 tt, .int .i64 0, .slice ta to.length tc, .slice xa tx.length xc, .slice ia nu.length ic] 52)
 have K0 := hide (heap_alloc_new w (.cells #[.slice na nm.length nc, .int .i64 6, .int .i64 tt, .int .i64 0, .slice ta to.length tc, .slice xa tx.length xc, .slice ia nu.length ic] 52))
 have H0 := hide (h.below b0)
 clear h
 have HB := hide hB
 clear hB
 go_enter Tryz.func99, Tryz.ntmps99
 go_wp2_with fail
 generalize w.alloc (.cells #[.slice na nm.length nc, .int .i64 6, .int .i64 tt, .int .i64 0, .slice ta to.length tc, .slice xa tx.length xc, .slice ia nu.length ic] 52) = W at *
 refine (l3named_any 6 _ rfl).mono ?_
 rw [named_6]
 rintro e w1 ⟨rfl, rfl⟩
 obtain ⟨d0, d1, d2, d3, d4, d5, d6⟩ := cells7 (unhide K0)
 go_wp2_with fail
 clear d0 d1 d2 d3 d4 d5 d6
 refine (specNameOk_has (show HasL W (.slice ta to.length tc) to from (unhide H0).to)).mono ?_
 rw [unhide HB]
 rintro e w1 ⟨rfl, b1⟩
 have bb1 := below_next b0 b1
 have K1 := hide (block_kept b1 (unhide K0))
 have H1 := hide ((unhide H0).below b1)
 clear b1 b0 K0 H0
 obtain ⟨d0, d1, d2, d3, d4, d5, d6⟩ := cells7 (unhide K1)
 go_wp2_with fail
 refine (l3texted_any 6 _ rfl).mono ?_
 rw [texted_6]
 rintro e w2 ⟨rfl, rfl⟩
 go_wp2_with fail
 go_ret
 exact ⟨rfl, bb1⟩

set_option maxHeartbeats 400000 in
set_option maxRecDepth 100000 in
theorem l3_6_3 {na : Option Addr} {nc : Nat} {ta : Option Addr} {tc : Nat} {xa : Option Addr} {xc : Nat} {ia : Option Addr} {ic : Nat} {nm to : List (List Int)} {tx nu : List Int} {tt ad : Int} {w : World} (h : HasR w (.slice na nm.length nc) (.slice ta to.length tc) (.slice xa tx.length xc) (.slice ia nu.length ic) ⟨nm, 6, tt, ad, to, tx, nu⟩) (hA : ad = 0) (hB : nameOk to = true) (hC : tx.length = 0) (hD : nu.length ≠ 2) :
  Calls Tryz.prog 99 #[.agg #[.slice na nm.length nc, .int .i64 6, .int .i64 tt, .int .i64 ad, .slice ta to.length tc, .slice xa tx.length xc, .slice ia nu.length ic]] w fun e w' => e = .returned (.bool false) ∧ Below w.heap.size w w' := by
 obtain rfl := hA
 obtain rfl := nil_of hC
 clear hC
 have ehD : ((nu.length : Int) != 2) = true := by rw [bne_iff_ne]; omega
 have fhD : ((nu.length : Int) == 2) = false := by rw [beq_eq_false_iff_ne]; omega
 simp only [List.length_nil] at *
 have b0 := below_alloc (w := w) (.cells #[.slice na nm.length nc, .int .i64 6, .int .i64 tt, .int .i64 0, .slice ta to.length tc, .slice xa 0 xc, .slice ia nu.length ic] 52)
 have K0 := hide (heap_alloc_new w (.cells #[.slice na nm.length nc, .int .i64 6, .int .i64 tt, .int .i64 0, .slice ta to.length tc, .slice xa 0 xc, .slice ia nu.length ic] 52))
 have H0 := hide (h.below b0)
 clear h
 have HB := hide hB
 clear hB
 go_enter Tryz.func99, Tryz.ntmps99
 go_wp2_with fail
 generalize w.alloc (.cells #[.slice na nm.length nc, .int .i64 6, .int .i64 tt, .int .i64 0, .slice ta to.length tc, .slice xa 0 xc, .slice ia nu.length ic] 52) = W at *
 refine (l3named_any 6 _ rfl).mono ?_
 rw [named_6]
 rintro e w1 ⟨rfl, rfl⟩
 obtain ⟨d0, d1, d2, d3, d4, d5, d6⟩ := cells7 (unhide K0)
 go_wp2_with fail
 clear d0 d1 d2 d3 d4 d5 d6
 refine (specNameOk_has (show HasL W (.slice ta to.length tc) to from (unhide H0).to)).mono ?_
 rw [unhide HB]
 rintro e w1 ⟨rfl, b1⟩
 have bb1 := below_next b0 b1
 have K1 := hide (block_kept b1 (unhide K0))
 have H1 := hide ((unhide H0).below b1)
 clear b1 b0 K0 H0
 obtain ⟨d0, d1, d2, d3, d4, d5, d6⟩ := cells7 (unhide K1)
 go_wp2_with fail
 refine (l3texted_any 6 _ rfl).mono ?_
 rw [texted_6]
 rintro e w2 ⟨rfl, rfl⟩
 go_wp2_with fail
 go_ret
 exact ⟨rfl, bb1⟩

set_option maxHeartbeats 400000 in
set_option maxRecDepth 100000 in
theorem l3_6_4 {na : Option Addr} {nc : Nat} {ta : Option Addr} {tc : Nat} {xa : Option Addr} {xc : Nat} {ia : Option Addr} {ic : Nat} {nm to : List (List Int)} {tx nu : List Int} {tt ad : Int} {w : World} (h : HasR w (.slice na nm.length nc) (.slice ta to.length tc) (.slice xa tx.length xc) (.slice ia nu.length ic) ⟨nm, 6, tt, ad, to, tx, nu⟩) (hA : ad = 0) (hB : nameOk to = true) (hC : tx.length = 0) (hD : nu.length = 2) (hE : nu.getD 0 0 < 0) :
  Calls Tryz.prog 99 #[.agg #[.slice na nm.length nc, .int .i64 6, .int .i64 tt, .int .i64 ad, .slice ta to.length tc, .slice xa tx.length xc, .slice ia nu.length ic]] w fun e w' => e = .returned (.bool false) ∧ Below w.heap.size w w' := by
 obtain rfl := hA
 obtain rfl := nil_of hC
 clear hC
 obtain ⟨x, y, rfl⟩ := two_of hD
 clear hD
 replace hE : x < 0 := hE
 simp only [List.length_nil] at *
 simp only [List.length_cons, List.length_nil, Nat.zero_add, Nat.reduceAdd] at *
 have b0 := below_alloc (w := w) (.cells #[.slice na nm.length nc, .int .i64 6, .int .i64 tt, .int .i64 0, .slice ta to.length tc, .slice xa 0 xc, .slice ia 2 ic] 52)
 have K0 := hide (heap_alloc_new w (.cells #[.slice na nm.length nc, .int .i64 6, .int .i64 tt, .int .i64 0, .slice ta to.length tc, .slice xa 0 xc, .slice ia 2 ic] 52))
 have H0 := hide (h.below b0)
 clear h
 have HB := hide hB
 clear hB
 go_enter Tryz.func99, Tryz.ntmps99
 go_wp2_with fail
 generalize w.alloc (.cells #[.slice na nm.length nc, .int .i64 6, .int .i64 tt, .int .i64 0, .slice ta to.length tc, .slice xa 0 xc, .slice ia 2 ic] 52) = W at *
 refine (l3named_any 6 _ rfl).mono ?_
 rw [named_6]
 rintro e w1 ⟨rfl, rfl⟩
 obtain ⟨d0, d1, d2, d3, d4, d5, d6⟩ := cells7 (unhide K0)
 go_wp2_with fail
 clear d0 d1 d2 d3 d4 d5 d6
 refine (specNameOk_has (show HasL W (.slice ta to.length tc) to from (unhide H0).to)).mono ?_
 rw [unhide HB]
 rintro e w1 ⟨rfl, b1⟩
 have bb1 := below_next b0 b1
 have K1 := hide (block_kept b1 (unhide K0))
 have H1 := hide ((unhide H0).below b1)
 clear b1 b0 K0 H0
 obtain ⟨d0, d1, d2, d3, d4, d5, d6⟩ := cells7 (unhide K1)
 go_wp2_with fail
 obtain ⟨g, off, cp, hv, _, n0, n1⟩ := (show HasI _ (.slice ia 2 ic) [x, y] from (unhide H1).nums).two
 simp only [Value.slice.injEq] at hv
 obtain ⟨rfl, _, rfl⟩ := hv
 refine (l3texted_any 6 _ rfl).mono ?_
 rw [texted_6]
 rintro e w2 ⟨rfl, rfl⟩
 go_wp2_with fail
 go_ret
 exact ⟨rfl, bb1⟩

set_option maxHeartbeats 400000 in
set_option maxRecDepth 100000 in
theorem l3_6_5 {na : Option Addr} {nc : Nat} {ta : Option Addr} {tc : Nat} {xa : Option Addr} {xc : Nat} {ia : Option Addr} {ic : Nat} {nm to : List (List Int)} {tx nu : List Int} {tt ad : Int} {w : World} (h : HasR w (.slice na nm.length nc) (.slice ta to.length tc) (.slice xa tx.length xc) (.slice ia nu.length ic) ⟨nm, 6, tt, ad, to, tx, nu⟩) (hA : ad = 0) (hB : nameOk to = true) (hC : tx.length = 0) (hD : nu.length = 2) (hE : 0 ≤ nu.getD 0 0) (hF : 4294967295 < nu.getD 0 0) :
  Calls Tryz.prog 99 #[.agg #[.slice na nm.length nc, .int .i64 6, .int .i64 tt, .int .i64 ad, .slice ta to.length tc, .slice xa tx.length xc, .slice ia nu.length ic]] w fun e w' => e = .returned (.bool false) ∧ Below w.heap.size w w' := by
 obtain rfl := hA
 obtain rfl := nil_of hC
 clear hC
 obtain ⟨x, y, rfl⟩ := two_of hD
 clear hD
 replace hE : 0 ≤ x := hE
 replace hF : 4294967295 < x := hF
 simp only [List.length_nil] at *
 simp only [List.length_cons, List.length_nil, Nat.zero_add, Nat.reduceAdd] at *
 have b0 := below_alloc (w := w) (.cells #[.slice na nm.length nc, .int .i64 6, .int .i64 tt, .int .i64 0, .slice ta to.length tc, .slice xa 0 xc, .slice ia 2 ic] 52)
 have K0 := hide (heap_alloc_new w (.cells #[.slice na nm.length nc, .int .i64 6, .int .i64 tt, .int .i64 0, .slice ta to.length tc, .slice xa 0 xc, .slice ia 2 ic] 52))
 have H0 := hide (h.below b0)
 clear h
 have HB := hide hB
 clear hB
 go_enter Tryz.func99, Tryz.ntmps99
 go_wp2_with fail
 generalize w.alloc (.cells #[.slice na nm.length nc, .int .i64 6, .int .i64 tt, .int .i64 0, .slice ta to.length tc, .slice xa 0 xc, .slice ia 2 ic] 52) = W at *
 refine (l3named_any 6 _ rfl).mono ?_
 rw [named_6]
 rintro e w1 ⟨rfl, rfl⟩
 obtain ⟨d0, d1, d2, d3, d4, d5, d6⟩ := cells7 (unhide K0)
 go_wp2_with fail
 clear d0 d1 d2 d3 d4 d5 d6
 refine (specNameOk_has (show HasL W (.slice ta to.length tc) to from (unhide H0).to)).mono ?_
 rw [unhide HB]
 rintro e w1 ⟨rfl, b1⟩
 have bb1 := below_next b0 b1
 have K1 := hide (block_kept b1 (unhide K0))
 have H1 := hide ((unhide H0).below b1)
 clear b1 b0 K0 H0
 obtain ⟨d0, d1, d2, d3, d4, d5, d6⟩ := cells7 (unhide K1)
 go_wp2_with fail
 obtain ⟨g, off, cp, hv, _, n0, n1⟩ := (show HasI _ (.slice ia 2 ic) [x, y] from (unhide H1).nums).two
 simp only [Value.slice.injEq] at hv
 obtain ⟨rfl, _, rfl⟩ := hv
 refine (l3texted_any 6 _ rfl).mono ?_
 rw [texted_6]
 rintro e w2 ⟨rfl, rfl⟩
 go_wp2_with fail
 go_ret
 exact ⟨rfl, bb1⟩

set_option maxHeartbeats 400000 in
set_option maxRecDepth 100000 in
theorem l3_6_6 {na : Option Addr} {nc : Nat} {ta : Option Addr} {tc : Nat} {xa : Option Addr} {xc : Nat} {ia : Option Addr} {ic : Nat} {nm to : List (List Int)} {tx nu : List Int} {tt ad : Int} {w : World} (h : HasR w (.slice na nm.length nc) (.slice ta to.length tc) (.slice xa tx.length xc) (.slice ia nu.length ic) ⟨nm, 6, tt, ad, to, tx, nu⟩) (hA : ad = 0) (hB : nameOk to = true) (hC : tx.length = 0) (hD : nu.length = 2) (hE : 0 ≤ nu.getD 0 0) (hF : nu.getD 0 0 ≤ 4294967295) (hG : nu.getD 1 0 < 0) :
  Calls Tryz.prog 99 #[.agg #[.slice na nm.length nc, .int .i64 6, .int .i64 tt, .int .i64 ad, .slice ta to.length tc, .slice xa tx.length xc, .slice ia nu.length ic]] w fun e w' => e = .returned (.bool false) ∧ Below w.heap.size w w' := by
 obtain rfl := hA
 obtain rfl := nil_of hC
 clear hC
 obtain ⟨x, y, rfl⟩ := two_of hD
 clear hD
 replace hE : 0 ≤ x := hE
 replace hF : x ≤ 4294967295 := hF
 replace hG : y < 0 := hG
 have dhG : decide (0 ≤ y) = false := decide_eq_false (by omega)
 simp only [List.length_nil] at *
 simp only [List.length_cons, List.length_nil, Nat.zero_add, Nat.reduceAdd] at *
 have b0 := below_alloc (w := w) (.cells #[.slice na nm.length nc, .int .i64 6, .int .i64 tt, .int .i64 0, .slice ta to.length tc, .slice xa 0 xc, .slice ia 2 ic] 52)
 have K0 := hide (heap_alloc_new w (.cells #[.slice na nm.length nc, .int .i64 6, .int .i64 tt, .int .i64 0, .slice ta to.length tc, .slice xa 0 xc, .slice ia 2 ic] 52))
 have H0 := hide (h.below b0)
 clear h
 have HB := hide hB
 clear hB
 go_enter Tryz.func99, Tryz.ntmps99
 go_wp2_with fail
 generalize w.alloc (.cells #[.slice na nm.length nc, .int .i64 6, .int .i64 tt, .int .i64 0, .slice ta to.length tc, .slice xa 0 xc, .slice ia 2 ic] 52) = W at *
 refine (l3named_any 6 _ rfl).mono ?_
 rw [named_6]
 rintro e w1 ⟨rfl, rfl⟩
 obtain ⟨d0, d1, d2, d3, d4, d5, d6⟩ := cells7 (unhide K0)
 go_wp2_with fail
 clear d0 d1 d2 d3 d4 d5 d6
 refine (specNameOk_has (show HasL W (.slice ta to.length tc) to from (unhide H0).to)).mono ?_
 rw [unhide HB]
 rintro e w1 ⟨rfl, b1⟩
 have bb1 := below_next b0 b1
 have K1 := hide (block_kept b1 (unhide K0))
 have H1 := hide ((unhide H0).below b1)
 clear b1 b0 K0 H0
 obtain ⟨d0, d1, d2, d3, d4, d5, d6⟩ := cells7 (unhide K1)
 go_wp2_with fail
 obtain ⟨g, off, cp, hv, _, n0, n1⟩ := (show HasI _ (.slice ia 2 ic) [x, y] from (unhide H1).nums).two
 simp only [Value.slice.injEq] at hv
 obtain ⟨rfl, _, rfl⟩ := hv
 refine (l3texted_any 6 _ rfl).mono ?_
 rw [texted_6]
 rintro e w2 ⟨rfl, rfl⟩
 go_wp2_with fail
 go_ret
 exact ⟨rfl, bb1⟩

set_option maxHeartbeats 400000 in
set_option maxRecDepth 100000 in
theorem l3_6_7 {na : Option Addr} {nc : Nat} {ta : Option Addr} {tc : Nat} {xa : Option Addr} {xc : Nat} {ia : Option Addr} {ic : Nat} {nm to : List (List Int)} {tx nu : List Int} {tt ad : Int} {w : World} (h : HasR w (.slice na nm.length nc) (.slice ta to.length tc) (.slice xa tx.length xc) (.slice ia nu.length ic) ⟨nm, 6, tt, ad, to, tx, nu⟩) (hA : ad = 0) (hB : nameOk to = true) (hC : tx.length = 0) (hD : nu.length = 2) (hE : 0 ≤ nu.getD 0 0) (hF : nu.getD 0 0 ≤ 4294967295) (hG : 0 ≤ nu.getD 1 0) (hH : 100000 < nu.getD 1 0) :
  Calls Tryz.prog 99 #[.agg #[.slice na nm.length nc, .int .i64 6, .int .i64 tt, .int .i64 ad, .slice ta to.length tc, .slice xa tx.length xc, .slice ia nu.length ic]] w fun e w' => e = .returned (.bool false) ∧ Below w.heap.size w w' := by
 obtain rfl := hA
 obtain rfl := nil_of hC
 clear hC
 obtain ⟨x, y, rfl⟩ := two_of hD
 clear hD
 replace hE : 0 ≤ x := hE
 replace hF : x ≤ 4294967295 := hF
 replace hG : 0 ≤ y := hG
 replace hH : 100000 < y := hH
 have dhH : decide (y ≤ 100000) = false := decide_eq_false (by omega)
 simp only [List.length_nil] at *
 simp only [List.length_cons, List.length_nil, Nat.zero_add, Nat.reduceAdd] at *
 have b0 := below_alloc (w := w) (.cells #[.slice na nm.length nc, .int .i64 6, .int .i64 tt, .int .i64 0, .slice ta to.length tc, .slice xa 0 xc, .slice ia 2 ic] 52)
 have K0 := hide (heap_alloc_new w (.cells #[.slice na nm.length nc, .int .i64 6, .int .i64 tt, .int .i64 0, .slice ta to.length tc, .slice xa 0 xc, .slice ia 2 ic] 52))
 have H0 := hide (h.below b0)
 clear h
 have HB := hide hB
 clear hB
 go_enter Tryz.func99, Tryz.ntmps99
 go_wp2_with fail
 generalize w.alloc (.cells #[.slice na nm.length nc, .int .i64 6, .int .i64 tt, .int .i64 0, .slice ta to.length tc, .slice xa 0 xc, .slice ia 2 ic] 52) = W at *
 refine (l3named_any 6 _ rfl).mono ?_
 rw [named_6]
 rintro e w1 ⟨rfl, rfl⟩
 obtain ⟨d0, d1, d2, d3, d4, d5, d6⟩ := cells7 (unhide K0)
 go_wp2_with fail
 clear d0 d1 d2 d3 d4 d5 d6
 refine (specNameOk_has (show HasL W (.slice ta to.length tc) to from (unhide H0).to)).mono ?_
 rw [unhide HB]
 rintro e w1 ⟨rfl, b1⟩
 have bb1 := below_next b0 b1
 have K1 := hide (block_kept b1 (unhide K0))
 have H1 := hide ((unhide H0).below b1)
 clear b1 b0 K0 H0
 obtain ⟨d0, d1, d2, d3, d4, d5, d6⟩ := cells7 (unhide K1)
 go_wp2_with fail
 obtain ⟨g, off, cp, hv, _, n0, n1⟩ := (show HasI _ (.slice ia 2 ic) [x, y] from (unhide H1).nums).two
 simp only [Value.slice.injEq] at hv
 obtain ⟨rfl, _, rfl⟩ := hv
 refine (l3texted_any 6 _ rfl).mono ?_
 rw [texted_6]
 rintro e w2 ⟨rfl, rfl⟩
 go_wp2_with fail
 go_ret
 exact ⟨rfl, bb1⟩

set_option maxHeartbeats 400000 in
set_option maxRecDepth 100000 in
theorem l3_6_8 {na : Option Addr} {nc : Nat} {ta : Option Addr} {tc : Nat} {xa : Option Addr} {xc : Nat} {ia : Option Addr} {ic : Nat} {nm to : List (List Int)} {tx nu : List Int} {tt ad : Int} {w : World} (h : HasR w (.slice na nm.length nc) (.slice ta to.length tc) (.slice xa tx.length xc) (.slice ia nu.length ic) ⟨nm, 6, tt, ad, to, tx, nu⟩) (hA : ad = 0) (hB : nameOk to = true) (hC : tx.length = 0) (hD : nu.length = 2) (hE : 0 ≤ nu.getD 0 0) (hF : nu.getD 0 0 ≤ 4294967295) (hG : 0 ≤ nu.getD 1 0) (hH : nu.getD 1 0 ≤ 100000) :
  Calls Tryz.prog 99 #[.agg #[.slice na nm.length nc, .int .i64 6, .int .i64 tt, .int .i64 ad, .slice ta to.length tc, .slice xa tx.length xc, .slice ia nu.length ic]] w fun e w' => e = .returned (.bool true) ∧ Below w.heap.size w w' := by
 obtain rfl := hA
 obtain rfl := nil_of hC
 clear hC
 obtain ⟨x, y, rfl⟩ := two_of hD
 clear hD
 replace hE : 0 ≤ x := hE
 replace hF : x ≤ 4294967295 := hF
 replace hG : 0 ≤ y := hG
 replace hH : y ≤ 100000 := hH
 have dhH : decide (y ≤ 100000) = true := decide_eq_true (by omega)
 simp only [List.length_nil] at *
 simp only [List.length_cons, List.length_nil, Nat.zero_add, Nat.reduceAdd] at *
 have b0 := below_alloc (w := w) (.cells #[.slice na nm.length nc, .int .i64 6, .int .i64 tt, .int .i64 0, .slice ta to.length tc, .slice xa 0 xc, .slice ia 2 ic] 52)
 have K0 := hide (heap_alloc_new w (.cells #[.slice na nm.length nc, .int .i64 6, .int .i64 tt, .int .i64 0, .slice ta to.length tc, .slice xa 0 xc, .slice ia 2 ic] 52))
 have H0 := hide (h.below b0)
 clear h
 have HB := hide hB
 clear hB
 go_enter Tryz.func99, Tryz.ntmps99
 go_wp2_with fail
 generalize w.alloc (.cells #[.slice na nm.length nc, .int .i64 6, .int .i64 tt, .int .i64 0, .slice ta to.length tc, .slice xa 0 xc, .slice ia 2 ic] 52) = W at *
 refine (l3named_any 6 _ rfl).mono ?_
 rw [named_6]
 rintro e w1 ⟨rfl, rfl⟩
 obtain ⟨d0, d1, d2, d3, d4, d5, d6⟩ := cells7 (unhide K0)
 go_wp2_with fail
 clear d0 d1 d2 d3 d4 d5 d6
 refine (specNameOk_has (show HasL W (.slice ta to.length tc) to from (unhide H0).to)).mono ?_
 rw [unhide HB]
 rintro e w1 ⟨rfl, b1⟩
 have bb1 := below_next b0 b1
 have K1 := hide (block_kept b1 (unhide K0))
 have H1 := hide ((unhide H0).below b1)
 clear b1 b0 K0 H0
 obtain ⟨d0, d1, d2, d3, d4, d5, d6⟩ := cells7 (unhide K1)
 go_wp2_with fail
 obtain ⟨g, off, cp, hv, _, n0, n1⟩ := (show HasI _ (.slice ia 2 ic) [x, y] from (unhide H1).nums).two
 simp only [Value.slice.injEq] at hv
 obtain ⟨rfl, _, rfl⟩ := hv
 refine (l3texted_any 6 _ rfl).mono ?_
 rw [texted_6]
 rintro e w2 ⟨rfl, rfl⟩
 go_wp2_with fail
 go_ret
 exact ⟨rfl, bb1⟩

set_option maxHeartbeats 400000 in
set_option maxRecDepth 100000 in
theorem l3_12_0 {na : Option Addr} {nc : Nat} {ta : Option Addr} {tc : Nat} {xa : Option Addr} {xc : Nat} {ia : Option Addr} {ic : Nat} {nm to : List (List Int)} {tx nu : List Int} {tt ad : Int} {w : World} (h : HasR w (.slice na nm.length nc) (.slice ta to.length tc) (.slice xa tx.length xc) (.slice ia nu.length ic) ⟨nm, 12, tt, ad, to, tx, nu⟩) (hA : ad ≠ 0) :
  Calls Tryz.prog 99 #[.agg #[.slice na nm.length nc, .int .i64 12, .int .i64 tt, .int .i64 ad, .slice ta to.length tc, .slice xa tx.length xc, .slice ia nu.length ic]] w fun e w' => e = .returned (.bool false) ∧ Below w.heap.size w w' := by
 have ehA : (ad != 0) = true := by rw [bne_iff_ne]; exact hA
 have fhA : (ad == 0) = false := by rw [beq_eq_false_iff_ne]; exact hA
 have ghA : decide (ad = 0) = false := decide_eq_false hA
 have b0 := below_alloc (w := w) (.cells #[.slice na nm.length nc, .int .i64 12, .int .i64 tt, .int .i64 ad, .slice ta to.length tc, .slice xa tx.length xc, .slice ia nu.length ic] 52)
 have K0 := hide (heap_alloc_new w (.cells #[.slice na nm.length nc, .int .i64 12, .int .i64 tt, .int .i64 ad, .slice ta to.length tc, .slice xa tx.length xc, .slice ia nu.length ic] 52))
 have H0 := hide (h.below b0)
 clear h
 go_enter Tryz.func99, Tryz.ntmps99
 go_wp2_with fail
 go_ret
 exact ⟨rfl, b0⟩

set_option maxHeartbeats 400000 in
set_option maxRecDepth 100000 in
theorem l3_12_1 {na : Option Addr} {nc : Nat} {ta : Option Addr} {tc : Nat} {xa : Option Addr} {xc : Nat} {ia : Option Addr} {ic : Nat} {nm to : List (List Int)} {tx nu : List Int} {tt ad : Int} {w : World} (h : HasR w (.slice na nm.length nc) (.slice ta to.length tc) (.slice xa tx.length xc) (.slice ia nu.length ic) ⟨nm, 12, tt, ad, to, tx, nu⟩) (hA : ad = 0) (hB : nameOk to = false) :
  Calls Tryz.prog 99 #[.agg #[.slice na nm.length nc, .int .i64 12, .int .i64 tt, .int .i64 ad, .slice ta to.length tc, .slice xa tx.length xc, .slice ia nu.length ic]] w fun e w' => e = .returned (.bool false) ∧ Below w.heap.size w w' := by
 obtain rfl := hA
 have b0 := below_alloc (w := w) (.cells #[.slice na nm.length nc, .int .i64 12, .int .i64 tt, .int .i64 0, .slice ta to.length tc, .slice xa tx.length xc, .slice ia nu.length ic] 52)
 have K0 := hide (heap_alloc_new w (.cells #[.slice na nm.length nc, .int .i64 12, .int .i64 tt, .int .i64 0, .slice ta to.length tc, .slice xa tx.length xc, .slice ia nu.length ic] 52))
 have H0 := hide (h.below b0)
 clear h
 have HB := hide hB
 clear hB
 go_enter Tryz.func99, Tryz.ntmps99
 go_wp2_with fail
 generalize w.alloc (.cells #[.slice na nm.length nc, .int .i64 12, .int .i64 tt, .int .i64 0, .slice ta to.length tc, .slice xa tx.length xc, .slice ia nu.length ic] 52) = W at *
 refine (l3named_any 12 _ rfl).mono ?_
 rw [named_12]
 rintro e w1 ⟨rfl, rfl⟩
 obtain ⟨d0, d1, d2, d3, d4, d5, d6⟩ := cells7 (unhide K0)
 go_wp2_with fail
 clear d0 d1 d2 d3 d4 d5 d6
 refine (specNameOk_has (show HasL W (.slice ta to.length tc) to from (unhide H0).to)).mono ?_
 rw [unhide HB]
 rintro e w1 ⟨rfl, b1⟩
 have bb1 := below_next b0 b1
 have K1 := hide (block_kept b1 (unhide K0))
 have H1 := hide ((unhide H0).below b1)
 clear b1 b0 K0 H0
 obtain ⟨d0, d1, d2, d3, d4, d5, d6⟩ := cells7 (unhide K1)
 go_wp2_with fail
 go_ret
 exact ⟨rfl, bb1⟩

set_option maxHeartbeats 400000 in
set_option maxRecDepth 100000 in
theorem l3_12_2 {na : Option Addr} {nc : Nat} {ta : Option Addr} {tc : Nat} {xa : Option Addr} {xc : Nat} {ia : Option Addr} {ic : Nat} {nm to : List (List Int)} {tx nu : List Int} {tt ad : Int} {w : World} (h : HasR w (.slice na nm.length nc) (.slice ta to.length tc) (.slice xa tx.length xc) (.slice ia nu.length ic) ⟨nm, 12, tt, ad, to, tx, nu⟩) (hA : ad = 0) (hB : nameOk to = true) (hC : tx.length ≠ 0) :
  Calls Tryz.prog 99 #[.agg #[.slice na nm.length nc, .int .i64 12, .int .i64 tt, .int .i64 ad, .slice ta to.length tc, .slice xa tx.length xc, .slice ia nu.length ic]] w fun e w' => e = .returned (.bool false) ∧ Below w.heap.size w w' := by
 obtain rfl := hA
 have ehC : (0 : Int) < tx.length := by omega
 have fhC : ((tx.length : Int) == 0) = false := by rw [beq_eq_false_iff_ne]; omega
 have b0 := below_alloc (w := w) (.cells #[.slice na nm.length nc, .int .i64 12, .int .i64 tt, .int .i64 0, .slice ta to.length tc, .slice xa tx.length xc, .slice ia nu.length ic] 52)
 have K0 := hide (heap_alloc_new w (.cells #[.slice na nm.length nc, .int .i64 12, .int .i64 tt, .int .i64 0, .slice ta to.length tc, .slice xa tx.length xc, .slice ia nu.length ic] 52))
 have H0 := hide (h.below b0)
 clear h
 have HB := hide hB
 clear hB
 go_enter Tryz.func99, Tryz.ntmps99
 go_wp2_with fail
 generalize w.alloc (.cells #[.slice na nm.length nc, .int .i64 12, .int .i64 tt, .int .i64 0, .slice ta to.length tc, .slice xa tx.length xc, .slice ia nu.length ic] 52) = W at *
 refine (l3named_any 12 _ rfl).mono ?_
 rw [named_12]
 rintro e w1 ⟨rfl, rfl⟩
 obtain ⟨d0, d1, d2, d3, d4, d5, d6⟩ := cells7 (unhide K0)
 go_wp2_with fail
 clear d0 d1 d2 d3 d4 d5 d6
 refine (specNameOk_has (show HasL W (.slice ta to.length tc) to from (unhide H0).to)).mono ?_
 rw [unhide HB]
 rintro e w1 ⟨rfl, b1⟩
 have bb1 := below_next b0 b1
 have K1 := hide (block_kept b1 (unhide K0))
 have H1 := hide ((unhide H0).below b1)
 clear b1 b0 K0 H0
 obtain ⟨d0, d1, d2, d3, d4, d5, d6⟩ := cells7 (unhide K1)
 go_wp2_with fail
 refine (l3texted_any 12 _ rfl).mono ?_
 rw [texted_12]
 rintro e w2 ⟨rfl, rfl⟩
 go_wp2_with fail
 go_ret
 exact ⟨rfl, bb1⟩

set_option maxHeartbeats 400000 in
set_option maxRecDepth 100000 in
theorem l3_12_3 {na : Option Addr} {nc : Nat} {ta : Option Addr} {tc : Nat} {xa : Option Addr} {xc : Nat} {ia : Option Addr} {ic : Nat} {nm to : List (List Int)} {tx nu : List Int} {tt ad : Int} {w : World} (h : HasR w (.slice na nm.length nc) (.slice ta to.length tc) (.slice xa tx.length xc) (.slice ia nu.length ic) ⟨nm, 12, tt, ad, to, tx, nu⟩) (hA : ad = 0) (hB : nameOk to = true) (hC : tx.length = 0) (hD : nu.length ≠ 0) :
  Calls Tryz.prog 99 #[.agg #[.slice na nm.length nc, .int .i64 12, .int .i64 tt, .int .i64 ad, .slice ta to.length tc, .slice xa tx.length xc, .slice ia nu.length ic]] w fun e w' => e = .returned (.bool false) ∧ Below w.heap.size w w' := by
 obtain rfl := hA
 obtain rfl := nil_of hC
 clear hC
 have ehD : ((nu.length : Int) == 0) = false := by rw [beq_eq_false_iff_ne]; omega
 simp only [List.length_nil] at *
 have b0 := below_alloc (w := w) (.cells #[.slice na nm.length nc, .int .i64 12, .int .i64 tt, .int .i64 0, .slice ta to.length tc, .slice xa 0 xc, .slice ia nu.length ic] 52)
 have K0 := hide (heap_alloc_new w (.cells #[.slice na nm.length nc, .int .i64 12, .int .i64 tt, .int .i64 0, .slice ta to.length tc, .slice xa 0 xc, .slice ia nu.length ic] 52))
 have H0 := hide (h.below b0)
 clear h
 have HB := hide hB
 clear hB
 go_enter Tryz.func99, Tryz.ntmps99
 go_wp2_with fail
 generalize w.alloc (.cells #[.slice na nm.length nc, .int .i64 12, .int .i64 tt, .int .i64 0, .slice ta to.length tc, .slice xa 0 xc, .slice ia nu.length ic] 52) = W at *
 refine (l3named_any 12 _ rfl).mono ?_
 rw [named_12]
 rintro e w1 ⟨rfl, rfl⟩
 obtain ⟨d0, d1, d2, d3, d4, d5, d6⟩ := cells7 (unhide K0)
 go_wp2_with fail
 clear d0 d1 d2 d3 d4 d5 d6
 refine (specNameOk_has (show HasL W (.slice ta to.length tc) to from (unhide H0).to)).mono ?_
 rw [unhide HB]
 rintro e w1 ⟨rfl, b1⟩
 have bb1 := below_next b0 b1
 have K1 := hide (block_kept b1 (unhide K0))
 have H1 := hide ((unhide H0).below b1)
 clear b1 b0 K0 H0
 obtain ⟨d0, d1, d2, d3, d4, d5, d6⟩ := cells7 (unhide K1)
 go_wp2_with fail
 refine (l3texted_any 12 _ rfl).mono ?_
 rw [texted_12]
 rintro e w2 ⟨rfl, rfl⟩
 go_wp2_with fail
 go_ret
 exact ⟨rfl, bb1⟩

set_option maxHeartbeats 400000 in
set_option maxRecDepth 100000 in
theorem l3_12_4 {na : Option Addr} {nc : Nat} {ta : Option Addr} {tc : Nat} {xa : Option Addr} {xc : Nat} {ia : Option Addr} {ic : Nat} {nm to : List (List Int)} {tx nu : List Int} {tt ad : Int} {w : World} (h : HasR w (.slice na nm.length nc) (.slice ta to.length tc) (.slice xa tx.length xc) (.slice ia nu.length ic) ⟨nm, 12, tt, ad, to, tx, nu⟩) (hA : ad = 0) (hB : nameOk to = true) (hC : tx.length = 0) (hD : nu.length = 0) :
  Calls Tryz.prog 99 #[.agg #[.slice na nm.length nc, .int .i64 12, .int .i64 tt, .int .i64 ad, .slice ta to.length tc, .slice xa tx.length xc, .slice ia nu.length ic]] w fun e w' => e = .returned (.bool true) ∧ Below w.heap.size w w' := by
 obtain rfl := hA
 obtain rfl := nil_of hC
 clear hC
 obtain rfl := nil_of hD
 clear hD
 simp only [List.length_nil] at *
 have b0 := below_alloc (w := w) (.cells #[.slice na nm.length nc, .int .i64 12, .int .i64 tt, .int .i64 0, .slice ta to.length tc, .slice xa 0 xc, .slice ia 0 ic] 52)
 have K0 := hide (heap_alloc_new w (.cells #[.slice na nm.length nc, .int .i64 12, .int .i64 tt, .int .i64 0, .slice ta to.length tc, .slice xa 0 xc, .slice ia 0 ic] 52))
 have H0 := hide (h.below b0)
 clear h
 have HB := hide hB
 clear hB
 go_enter Tryz.func99, Tryz.ntmps99
 go_wp2_with fail
 generalize w.alloc (.cells #[.slice na nm.length nc, .int .i64 12, .int .i64 tt, .int .i64 0, .slice ta to.length tc, .slice xa 0 xc, .slice ia 0 ic] 52) = W at *
 refine (l3named_any 12 _ rfl).mono ?_
 rw [named_12]
 rintro e w1 ⟨rfl, rfl⟩
 obtain ⟨d0, d1, d2, d3, d4, d5, d6⟩ := cells7 (unhide K0)
 go_wp2_with fail
 clear d0 d1 d2 d3 d4 d5 d6
 refine (specNameOk_has (show HasL W (.slice ta to.length tc) to from (unhide H0).to)).mono ?_
 rw [unhide HB]
 rintro e w1 ⟨rfl, b1⟩
 have bb1 := below_next b0 b1
 have K1 := hide (block_kept b1 (unhide K0))
 have H1 := hide ((unhide H0).below b1)
 clear b1 b0 K0 H0
 obtain ⟨d0, d1, d2, d3, d4, d5, d6⟩ := cells7 (unhide K1)
 go_wp2_with fail
 refine (l3texted_any 12 _ rfl).mono ?_
 rw [texted_12]
 rintro e w2 ⟨rfl, rfl⟩
 go_wp2_with fail
 go_ret
 exact ⟨rfl, bb1⟩

set_option maxHeartbeats 400000 in
set_option maxRecDepth 100000 in
theorem l3_16_0 {na : Option Addr} {nc : Nat} {ta : Option Addr} {tc : Nat} {xa : Option Addr} {xc : Nat} {ia : Option Addr} {ic : Nat} {nm to : List (List Int)} {tx nu : List Int} {tt ad : Int} {w : World} (h : HasR w (.slice na nm.length nc) (.slice ta to.length tc) (.slice xa tx.length xc) (.slice ia nu.length ic) ⟨nm, 16, tt, ad, to, tx, nu⟩) (hA : ad ≠ 0) :
  Calls Tryz.prog 99 #[.agg #[.slice na nm.length nc, .int .i64 16, .int .i64 tt, .int .i64 ad, .slice ta to.length tc, .slice xa tx.length xc, .slice ia nu.length ic]] w fun e w' => e = .returned (.bool false) ∧ Below w.heap.size w w' := by
 have ehA : (ad != 0) = true := by rw [bne_iff_ne]; exact hA
 have fhA : (ad == 0) = false := by rw [beq_eq_false_iff_ne]; exact hA
 have ghA : decide (ad = 0) = false := decide_eq_false hA
 have b0 := below_alloc (w := w) (.cells #[.slice na nm.length nc, .int .i64 16, .int .i64 tt, .int .i64 ad, .slice ta to.length tc, .slice xa tx.length xc, .slice ia nu.length ic] 52)
 have K0 := hide (heap_alloc_new w (.cells #[.slice na nm.length nc, .int .i64 16, .int .i64 tt, .int .i64 ad, .slice ta to.length tc, .slice xa tx.length xc, .slice ia nu.length ic] 52))
 have H0 := hide (h.below b0)
 clear h
 go_enter Tryz.func99, Tryz.ntmps99
 go_wp2_with fail
 go_ret
 exact ⟨rfl, b0⟩

set_option maxHeartbeats 400000 in
set_option maxRecDepth 100000 in
theorem l3_16_1 {na : Option Addr} {nc : Nat} {ta : Option Addr} {tc : Nat} {xa : Option Addr} {xc : Nat} {ia : Option Addr} {ic : Nat} {nm to : List (List Int)} {tx nu : List Int} {tt ad : Int} {w : World} (h : HasR w (.slice na nm.length nc) (.slice ta to.length tc) (.slice xa tx.length xc) (.slice ia nu.length ic) ⟨nm, 16, tt, ad, to, tx, nu⟩) (hA : ad = 0) (hB : to.length ≠ 0) :
  Calls Tryz.prog 99 #[.agg #[.slice na nm.length nc, .int .i64 16, .int .i64 tt, .int .i64 ad, .slice ta to.length tc, .slice xa tx.length xc, .slice ia nu.length ic]] w fun e w' => e = .returned (.bool false) ∧ Below w.heap.size w w' := by
 obtain rfl := hA
 have ehB : (0 : Int) < to.length := by omega
 have fhB : ((to.length : Int) == 0) = false := by rw [beq_eq_false_iff_ne]; omega
 have b0 := below_alloc (w := w) (.cells #[.slice na nm.length nc, .int .i64 16, .int .i64 tt, .int .i64 0, .slice ta to.length tc, .slice xa tx.length xc, .slice ia nu.length ic] 52)
 have K0 := hide (heap_alloc_new w (.cells #[.slice na nm.length nc, .int .i64 16, .int .i64 tt, .int .i64 0, .slice ta to.length tc, .slice xa tx.length xc, .slice ia nu.length ic] 52))
 have H0 := hide (h.below b0)
 clear h
 go_enter Tryz.func99, Tryz.ntmps99
 go_wp2_with fail
 generalize w.alloc (.cells #[.slice na nm.length nc, .int .i64 16, .int .i64 tt, .int .i64 0, .slice ta to.length tc, .slice xa tx.length xc, .slice ia nu.length ic] 52) = W at *
 refine (l3named_any 16 _ rfl).mono ?_
 rw [named_16]
 rintro e w1 ⟨rfl, rfl⟩
 obtain ⟨d0, d1, d2, d3, d4, d5, d6⟩ := cells7 (unhide K0)
 go_wp2_with fail
 go_ret
 exact ⟨rfl, b0⟩

set_option maxHeartbeats 400000 in
set_option maxRecDepth 100000 in
theorem l3_16_2 {na : Option Addr} {nc : Nat} {ta : Option Addr} {tc : Nat} {xa : Option Addr} {xc : Nat} {ia : Option Addr} {ic : Nat} {nm to : List (List Int)} {tx nu : List Int} {tt ad : Int} {w : World} (h : HasR w (.slice na nm.length nc) (.slice ta to.length tc) (.slice xa tx.length xc) (.slice ia nu.length ic) ⟨nm, 16, tt, ad, to, tx, nu⟩) (hA : ad = 0) (hB : to.length = 0) (hC : 40 < tx.length) :
  Calls Tryz.prog 99 #[.agg #[.slice na nm.length nc, .int .i64 16, .int .i64 tt, .int .i64 ad, .slice ta to.length tc, .slice xa tx.length xc, .slice ia nu.length ic]] w fun e w' => e = .returned (.bool false) ∧ Below w.heap.size w w' := by
 obtain rfl := hA
 obtain rfl := nil_of hB
 clear hB
 have ehC : (40 : Int) < tx.length := by omega
 have fhC : decide ((tx.length : Int) ≤ 40) = false := decide_eq_false (by omega)
 simp only [List.length_nil] at *
 have b0 := below_alloc (w := w) (.cells #[.slice na nm.length nc, .int .i64 16, .int .i64 tt, .int .i64 0, .slice ta 0 tc, .slice xa tx.length xc, .slice ia nu.length ic] 52)
 have K0 := hide (heap_alloc_new w (.cells #[.slice na nm.length nc, .int .i64 16, .int .i64 tt, .int .i64 0, .slice ta 0 tc, .slice xa tx.length xc, .slice ia nu.length ic] 52))
 have H0 := hide (h.below b0)
 clear h
 go_enter Tryz.func99, Tryz.ntmps99
 go_wp2_with fail
 generalize w.alloc (.cells #[.slice na nm.length nc, .int .i64 16, .int .i64 tt, .int .i64 0, .slice ta 0 tc, .slice xa tx.length xc, .slice ia nu.length ic] 52) = W at *
 refine (l3named_any 16 _ rfl).mono ?_
 rw [named_16]
 rintro e w1 ⟨rfl, rfl⟩
 obtain ⟨d0, d1, d2, d3, d4, d5, d6⟩ := cells7 (unhide K0)
 go_wp2_with fail
 refine (l3texted_any 16 _ rfl).mono ?_
 rw [texted_16]
 rintro e w2 ⟨rfl, rfl⟩
 go_wp2_with fail
 go_ret
 exact ⟨rfl, b0⟩

set_option maxHeartbeats 400000 in
set_option maxRecDepth 100000 in
theorem l3_16_3 {na : Option Addr} {nc : Nat} {ta : Option Addr} {tc : Nat} {xa : Option Addr} {xc : Nat} {ia : Option Addr} {ic : Nat} {nm to : List (List Int)} {tx nu : List Int} {tt ad : Int} {w : World} (h : HasR w (.slice na nm.length nc) (.slice ta to.length tc) (.slice xa tx.length xc) (.slice ia nu.length ic) ⟨nm, 16, tt, ad, to, tx, nu⟩) (hA : ad = 0) (hB : to.length = 0) (hC : tx.length ≤ 40) (hD : nu.length ≠ 0) :
  Calls Tryz.prog 99 #[.agg #[.slice na nm.length nc, .int .i64 16, .int .i64 tt, .int .i64 ad, .slice ta to.length tc, .slice xa tx.length xc, .slice ia nu.length ic]] w fun e w' => e = .returned (.bool false) ∧ Below w.heap.size w w' := by
 obtain rfl := hA
 obtain rfl := nil_of hB
 clear hB
 have ehC : (tx.length : Int) ≤ 40 := by omega
 have fhC : decide ((tx.length : Int) ≤ 40) = true := decide_eq_true (by omega)
 have ehD : ((nu.length : Int) == 0) = false := by rw [beq_eq_false_iff_ne]; omega
 simp only [List.length_nil] at *
 have b0 := below_alloc (w := w) (.cells #[.slice na nm.length nc, .int .i64 16, .int .i64 tt, .int .i64 0, .slice ta 0 tc, .slice xa tx.length xc, .slice ia nu.length ic] 52)
 have K0 := hide (heap_alloc_new w (.cells #[.slice na nm.length nc, .int .i64 16, .int .i64 tt, .int .i64 0, .slice ta 0 tc, .slice xa tx.length xc, .slice ia nu.length ic] 52))
 have H0 := hide (h.below b0)
 clear h
 go_enter Tryz.func99, Tryz.ntmps99
 go_wp2_with fail
 generalize w.alloc (.cells #[.slice na nm.length nc, .int .i64 16, .int .i64 tt, .int .i64 0, .slice ta 0 tc, .slice xa tx.length xc, .slice ia nu.length ic] 52) = W at *
 refine (l3named_any 16 _ rfl).mono ?_
 rw [named_16]
 rintro e w1 ⟨rfl, rfl⟩
 obtain ⟨d0, d1, d2, d3, d4, d5, d6⟩ := cells7 (unhide K0)
 go_wp2_with fail
 refine (l3texted_any 16 _ rfl).mono ?_
 rw [texted_16]
 rintro e w2 ⟨rfl, rfl⟩
 go_wp2_with fail
 go_ret
 exact ⟨rfl, b0⟩

set_option maxHeartbeats 400000 in
set_option maxRecDepth 100000 in
theorem l3_16_4 {na : Option Addr} {nc : Nat} {ta : Option Addr} {tc : Nat} {xa : Option Addr} {xc : Nat} {ia : Option Addr} {ic : Nat} {nm to : List (List Int)} {tx nu : List Int} {tt ad : Int} {w : World} (h : HasR w (.slice na nm.length nc) (.slice ta to.length tc) (.slice xa tx.length xc) (.slice ia nu.length ic) ⟨nm, 16, tt, ad, to, tx, nu⟩) (hA : ad = 0) (hB : to.length = 0) (hC : tx.length ≤ 40) (hD : nu.length = 0) :
  Calls Tryz.prog 99 #[.agg #[.slice na nm.length nc, .int .i64 16, .int .i64 tt, .int .i64 ad, .slice ta to.length tc, .slice xa tx.length xc, .slice ia nu.length ic]] w fun e w' => e = .returned (.bool true) ∧ Below w.heap.size w w' := by
 obtain rfl := hA
 obtain rfl := nil_of hB
 clear hB
 have ehC : (tx.length : Int) ≤ 40 := by omega
 have fhC : decide ((tx.length : Int) ≤ 40) = true := decide_eq_true (by omega)
 obtain rfl := nil_of hD
 clear hD
 simp only [List.length_nil] at *
 have b0 := below_alloc (w := w) (.cells #[.slice na nm.length nc, .int .i64 16, .int .i64 tt, .int .i64 0, .slice ta 0 tc, .slice xa tx.length xc, .slice ia 0 ic] 52)
 have K0 := hide (heap_alloc_new w (.cells #[.slice na nm.length nc, .int .i64 16, .int .i64 tt, .int .i64 0, .slice ta 0 tc, .slice xa tx.length xc, .slice ia 0 ic] 52))
 have H0 := hide (h.below b0)
 clear h
 go_enter Tryz.func99, Tryz.ntmps99
 go_wp2_with fail
 generalize w.alloc (.cells #[.slice na nm.length nc, .int .i64 16, .int .i64 tt, .int .i64 0, .slice ta 0 tc, .slice xa tx.length xc, .slice ia 0 ic] 52) = W at *
 refine (l3named_any 16 _ rfl).mono ?_
 rw [named_16]
 rintro e w1 ⟨rfl, rfl⟩
 obtain ⟨d0, d1, d2, d3, d4, d5, d6⟩ := cells7 (unhide K0)
 go_wp2_with fail
 refine (l3texted_any 16 _ rfl).mono ?_
 rw [texted_16]
 rintro e w2 ⟨rfl, rfl⟩
 go_wp2_with fail
 go_ret
 exact ⟨rfl, b0⟩

set_option maxHeartbeats 400000 in
set_option maxRecDepth 100000 in
theorem l3_49_0 {na : Option Addr} {nc : Nat} {ta : Option Addr} {tc : Nat} {xa : Option Addr} {xc : Nat} {ia : Option Addr} {ic : Nat} {nm to : List (List Int)} {tx nu : List Int} {tt ad : Int} {w : World} (h : HasR w (.slice na nm.length nc) (.slice ta to.length tc) (.slice xa tx.length xc) (.slice ia nu.length ic) ⟨nm, 49, tt, ad, to, tx, nu⟩) (hA : ad ≠ 0) :
  Calls Tryz.prog 99 #[.agg #[.slice na nm.length nc, .int .i64 49, .int .i64 tt, .int .i64 ad, .slice ta to.length tc, .slice xa tx.length xc, .slice ia nu.length ic]] w fun e w' => e = .returned (.bool false) ∧ Below w.heap.size w w' := by
 have ehA : (ad != 0) = true := by rw [bne_iff_ne]; exact hA
 have fhA : (ad == 0) = false := by rw [beq_eq_false_iff_ne]; exact hA
 have ghA : decide (ad = 0) = false := decide_eq_false hA
 have b0 := below_alloc (w := w) (.cells #[.slice na nm.length nc, .int .i64 49, .int .i64 tt, .int .i64 ad, .slice ta to.length tc, .slice xa tx.length xc, .slice ia nu.length ic] 52)
 have K0 := hide (heap_alloc_new w (.cells #[.slice na nm.length nc, .int .i64 49, .int .i64 tt, .int .i64 ad, .slice ta to.length tc, .slice xa tx.length xc, .slice ia nu.length ic] 52))
 have H0 := hide (h.below b0)
 clear h
 go_enter Tryz.func99, Tryz.ntmps99
 go_wp2_with fail
 go_ret
 exact ⟨rfl, b0⟩

set_option maxHeartbeats 400000 in
set_option maxRecDepth 100000 in
theorem l3_49_1 {na : Option Addr} {nc : Nat} {ta : Option Addr} {tc : Nat} {xa : Option Addr} {xc : Nat} {ia : Option Addr} {ic : Nat} {nm to : List (List Int)} {tx nu : List Int} {tt ad : Int} {w : World} (h : HasR w (.slice na nm.length nc) (.slice ta to.length tc) (.slice xa tx.length xc) (.slice ia nu.length ic) ⟨nm, 49, tt, ad, to, tx, nu⟩) (hA : ad = 0) (hB : to.length ≠ 0) :
  Calls Tryz.prog 99 #[.agg #[.slice na nm.length nc, .int .i64 49, .int .i64 tt, .int .i64 ad, .slice ta to.length tc, .slice xa tx.length xc, .slice ia nu.length ic]] w fun e w' => e = .returned (.bool false) ∧ Below w.heap.size w w' := by
 obtain rfl := hA
 have ehB : (0 : Int) < to.length := by omega
 have fhB : ((to.length : Int) == 0) = false := by rw [beq_eq_false_iff_ne]; omega
 have b0 := below_alloc (w := w) (.cells #[.slice na nm.length nc, .int .i64 49, .int .i64 tt, .int .i64 0, .slice ta to.length tc, .slice xa tx.length xc, .slice ia nu.length ic] 52)
 have K0 := hide (heap_alloc_new w (.cells #[.slice na nm.length nc, .int .i64 49, .int .i64 tt, .int .i64 0, .slice ta to.length tc, .slice xa tx.length xc, .slice ia nu.length ic] 52))
 have H0 := hide (h.below b0)
 clear h
 go_enter Tryz.func99, Tryz.ntmps99
 go_wp2_with fail
 generalize w.alloc (.cells #[.slice na nm.length nc, .int .i64 49, .int .i64 tt, .int .i64 0, .slice ta to.length tc, .slice xa tx.length xc, .slice ia nu.length ic] 52) = W at *
 refine (l3named_any 49 _ rfl).mono ?_
 rw [named_49]
 rintro e w1 ⟨rfl, rfl⟩
 obtain ⟨d0, d1, d2, d3, d4, d5, d6⟩ := cells7 (unhide K0)
 go_wp2_with fail
 go_ret
 exact ⟨rfl, b0⟩

set_option maxHeartbeats 400000 in
set_option maxRecDepth 100000 in
theorem l3_49_2 {na : Option Addr} {nc : Nat} {ta : Option Addr} {tc : Nat} {xa : Option Addr} {xc : Nat} {ia : Option Addr} {ic : Nat} {nm to : List (List Int)} {tx nu : List Int} {tt ad : Int} {w : World} (h : HasR w (.slice na nm.length nc) (.slice ta to.length tc) (.slice xa tx.length xc) (.slice ia nu.length ic) ⟨nm, 49, tt, ad, to, tx, nu⟩) (hA : ad = 0) (hB : to.length = 0) (hC : 40 < tx.length) :
  Calls Tryz.prog 99 #[.agg #[.slice na nm.length nc, .int .i64 49, .int .i64 tt, .int .i64 ad, .slice ta to.length tc, .slice xa tx.length xc, .slice ia nu.length ic]] w fun e w' => e = .returned (.bool false) ∧ Below w.heap.size w w' := by
 obtain rfl := hA
 obtain rfl := nil_of hB
 clear hB
 have ehC : (40 : Int) < tx.length := by omega
 have fhC : decide ((tx.length : Int) ≤ 40) = false := decide_eq_false (by omega)
 simp only [List.length_nil] at *
 have b0 := below_alloc (w := w) (.cells #[.slice na nm.length nc, .int .i64 49, .int .i64 tt, .int .i64 0, .slice ta 0 tc, .slice xa tx.length xc, .slice ia nu.length ic] 52)
 have K0 := hide (heap_alloc_new w (.cells #[.slice na nm.length nc, .int .i64 49, .int .i64 tt, .int .i64 0, .slice ta 0 tc, .slice xa tx.length xc, .slice ia nu.length ic] 52))
 have H0 := hide (h.below b0)
 clear h
 go_enter Tryz.func99, Tryz.ntmps99
 go_wp2_with fail
 generalize w.alloc (.cells #[.slice na nm.length nc, .int .i64 49, .int .i64 tt, .int .i64 0, .slice ta 0 tc, .slice xa tx.length xc, .slice ia nu.length ic] 52) = W at *
 refine (l3named_any 49 _ rfl).mono ?_
 rw [named_49]
 rintro e w1 ⟨rfl, rfl⟩
 obtain ⟨d0, d1, d2, d3, d4, d5, d6⟩ := cells7 (unhide K0)
 go_wp2_with fail
 refine (l3texted_any 49 _ rfl).mono ?_
 rw [texted_49]
 rintro e w2 ⟨rfl, rfl⟩
 go_wp2_with fail
 go_ret
 exact ⟨rfl, b0⟩

set_option maxHeartbeats 400000 in
set_option maxRecDepth 100000 in
theorem l3_49_3 {na : Option Addr} {nc : Nat} {ta : Option Addr} {tc : Nat} {xa : Option Addr} {xc : Nat} {ia : Option Addr} {ic : Nat} {nm to : List (List Int)} {tx nu : List Int} {tt ad : Int} {w : World} (h : HasR w (.slice na nm.length nc) (.slice ta to.length tc) (.slice xa tx.length xc) (.slice ia nu.length ic) ⟨nm, 49, tt, ad, to, tx, nu⟩) (hA : ad = 0) (hB : to.length = 0) (hC : tx.length ≤ 40) (hD : nu.length ≠ 0) :
  Calls Tryz.prog 99 #[.agg #[.slice na nm.length nc, .int .i64 49, .int .i64 tt, .int .i64 ad, .slice ta to.length tc, .slice xa tx.length xc, .slice ia nu.length ic]] w fun e w' => e = .returned (.bool false) ∧ Below w.heap.size w w' := by
 obtain rfl := hA
 obtain rfl := nil_of hB
 clear hB
 have ehC : (tx.length : Int) ≤ 40 := by omega
 have fhC : decide ((tx.length : Int) ≤ 40) = true := decide_eq_true (by omega)
 have ehD : ((nu.length : Int) == 0) = false := by rw [beq_eq_false_iff_ne]; omega
 simp only [List.length_nil] at *
 have b0 := below_alloc (w := w) (.cells #[.slice na nm.length nc, .int .i64 49, .int .i64 tt, .int .i64 0, .slice ta 0 tc, .slice xa tx.length xc, .slice ia nu.length ic] 52)
 have K0 := hide (heap_alloc_new w (.cells #[.slice na nm.length nc, .int .i64 49, .int .i64 tt, .int .i64 0, .slice ta 0 tc, .slice xa tx.length xc, .slice ia nu.length ic] 52))
 have H0 := hide (h.below b0)
 clear h
 go_enter Tryz.func99, Tryz.ntmps99
 go_wp2_with fail
 generalize w.alloc (.cells #[.slice na nm.length nc, .int .i64 49, .int .i64 tt, .int .i64 0, .slice ta 0 tc, .slice xa tx.length xc, .slice ia nu.length ic] 52) = W at *
 refine (l3named_any 49 _ rfl).mono ?_
 rw [named_49]
 rintro e w1 ⟨rfl, rfl⟩
 obtain ⟨d0, d1, d2, d3, d4, d5, d6⟩ := cells7 (unhide K0)
 go_wp2_with fail
 refine (l3texted_any 49 _ rfl).mono ?_
 rw [texted_49]
 rintro e w2 ⟨rfl, rfl⟩
 go_wp2_with fail
 go_ret
 exact ⟨rfl, b0⟩

set_option maxHeartbeats 400000 in
set_option maxRecDepth 100000 in
theorem l3_49_4 {na : Option Addr} {nc : Nat} {ta : Option Addr} {tc : Nat} {xa : Option Addr} {xc : Nat} {ia : Option Addr} {ic : Nat} {nm to : List (List Int)} {tx nu : List Int} {tt ad : Int} {w : World} (h : HasR w (.slice na nm.length nc) (.slice ta to.length tc) (.slice xa tx.length xc) (.slice ia nu.length ic) ⟨nm, 49, tt, ad, to, tx, nu⟩) (hA : ad = 0) (hB : to.length = 0) (hC : tx.length ≤ 40) (hD : nu.length = 0) :
  Calls Tryz.prog 99 #[.agg #[.slice na nm.length nc, .int .i64 49, .int .i64 tt, .int .i64 ad, .slice ta to.length tc, .slice xa tx.length xc, .slice ia nu.length ic]] w fun e w' => e = .returned (.bool true) ∧ Below w.heap.size w w' := by
 obtain rfl := hA
 obtain rfl := nil_of hB
 clear hB
 have ehC : (tx.length : Int) ≤ 40 := by omega
 have fhC : decide ((tx.length : Int) ≤ 40) = true := decide_eq_true (by omega)
 obtain rfl := nil_of hD
 clear hD
 simp only [List.length_nil] at *
 have b0 := below_alloc (w := w) (.cells #[.slice na nm.length nc, .int .i64 49, .int .i64 tt, .int .i64 0, .slice ta 0 tc, .slice xa tx.length xc, .slice ia 0 ic] 52)
 have K0 := hide (heap_alloc_new w (.cells #[.slice na nm.length nc, .int .i64 49, .int .i64 tt, .int .i64 0, .slice ta 0 tc, .slice xa tx.length xc, .slice ia 0 ic] 52))
 have H0 := hide (h.below b0)
 clear h
 go_enter Tryz.func99, Tryz.ntmps99
 go_wp2_with fail
 generalize w.alloc (.cells #[.slice na nm.length nc, .int .i64 49, .int .i64 tt, .int .i64 0, .slice ta 0 tc, .slice xa tx.length xc, .slice ia 0 ic] 52) = W at *
 refine (l3named_any 49 _ rfl).mono ?_
 rw [named_49]
 rintro e w1 ⟨rfl, rfl⟩
 obtain ⟨d0, d1, d2, d3, d4, d5, d6⟩ := cells7 (unhide K0)
 go_wp2_with fail
 refine (l3texted_any 49 _ rfl).mono ?_
 rw [texted_49]
 rintro e w2 ⟨rfl, rfl⟩
 go_wp2_with fail
 go_ret
 exact ⟨rfl, b0⟩

end Go.Proofs.YtmlcmkoefelolaaGreat

namespace Go.Proofs.YtmlcmkoefelolaaGreat
open Go.RowKit
set_option linter.unusedVariables false

set_option maxHeartbeats 1000000 in
theorem l3data_has {vn vt vx vi : Value} {r : Rec} {w : World} (h : HasR w vn vt vx vi r) (ht : typeOk r.type = true) :
  Calls Tryz.prog 99 #[.agg #[vn, .int .i64 r.type, .int .i64 r.ttl, .int .i64 r.addr, vt, vx, vi]] w fun e w' => e = .returned (.bool (dataOk r)) ∧ Below w.heap.size w w' := by
 obtain ⟨na, nc, rfl, _⟩ := h.name.form
 obtain ⟨ta, tc, rfl, _⟩ := h.to.form
 obtain ⟨xa, xc, rfl, _⟩ := h.text.form
 obtain ⟨ia, ic, rfl, _⟩ := h.nums.form
 obtain ⟨nm, ty, tt, ad, to, tx, nu⟩ := r
 simp only at *
 rcases type_cases ty with rfl | rfl | rfl | rfl | rfl | rfl | rfl | h0
 ·skip
  by_cases hA : ad < 0
  ·have e : dataOk ⟨nm, 1, tt, ad, to, tx, nu⟩ = false := by simp [dataOk, named_1, texted_1]; first | done | omega | (simp [*]; done) | (simp [*]; omega) | (intros; omega) | (simp_all; done) | (simp_all; omega)
   rw [e]
   exact l3_1_0 h hA
  by_cases hA3 : 4294967295 < ad
  ·have hA0 := hA
   have e : dataOk ⟨nm, 1, tt, ad, to, tx, nu⟩ = false := by simp [dataOk, named_1, texted_1]; first | done | omega | (simp [*]; done) | (simp [*]; omega) | (intros; omega) | (simp_all; done) | (simp_all; omega)
   rw [e]
   exact l3_1_1 h hA3 hA0
  replace hA : 0 ≤ ad := by omega
  have hA2 : ad ≤ 4294967295 := by omega
  by_cases hB : to.length ≠ 0
  ·have e : dataOk ⟨nm, 1, tt, ad, to, tx, nu⟩ = false := by simp [dataOk, named_1, texted_1]; first | done | omega | (simp [*]; done) | (simp [*]; omega) | (intros; omega) | (simp_all; done) | (simp_all; omega)
   rw [e]
   exact l3_1_2 h hA hA2 hB
  replace hB : to.length = 0 := by omega
  by_cases hC : tx.length ≠ 0
  ·have e : dataOk ⟨nm, 1, tt, ad, to, tx, nu⟩ = false := by simp [dataOk, named_1, texted_1]; first | done | omega | (simp [*]; done) | (simp [*]; omega) | (intros; omega) | (simp_all; done) | (simp_all; omega)
   rw [e]
   exact l3_1_3 h hA hA2 hB hC
  replace hC : tx.length = 0 := by omega
  by_cases hD : nu.length ≠ 0
  ·have e : dataOk ⟨nm, 1, tt, ad, to, tx, nu⟩ = false := by simp [dataOk, named_1, texted_1]; first | done | omega | (simp [*]; done) | (simp [*]; omega) | (intros; omega) | (simp_all; done) | (simp_all; omega)
   rw [e]
   exact l3_1_4 h hA hA2 hB hC hD
  replace hD : nu.length = 0 := by omega
  ·have e : dataOk ⟨nm, 1, tt, ad, to, tx, nu⟩ = true := by simp [dataOk, named_1, texted_1]; first | done | omega | (simp [*]; done) | (simp [*]; omega) | (intros; omega) | (simp_all; done) | (simp_all; omega)
   rw [e]
   exact l3_1_5 h hA hA2 hB hC hD
 ·skip
  by_cases hA : ad ≠ 0
  ·have e : dataOk ⟨nm, 2, tt, ad, to, tx, nu⟩ = false := by simp [dataOk, named_2, texted_2]; first | done | omega | (simp [*]; done) | (simp [*]; omega) | (intros; omega) | (simp_all; done) | (simp_all; omega)
   rw [e]
   exact l3_2_0 h hA
  replace hA : ad = 0 := by omega
  cases hB : nameOk to with
  | false =>
    have e : dataOk ⟨nm, 2, tt, ad, to, tx, nu⟩ = false := by simp [dataOk, named_2, texted_2]; first | done | omega | (simp [*]; done) | (simp [*]; omega) | (intros; omega) | (simp_all; done) | (simp_all; omega)
    rw [e]
    exact l3_2_1 h hA hB
  | true =>
   by_cases hC : tx.length ≠ 0
   ·have e : dataOk ⟨nm, 2, tt, ad, to, tx, nu⟩ = false := by simp [dataOk, named_2, texted_2]; first | done | omega | (simp [*]; done) | (simp [*]; omega) | (intros; omega) | (simp_all; done) | (simp_all; omega)
    rw [e]
    exact l3_2_2 h hA hB hC
   replace hC : tx.length = 0 := by omega
   by_cases hD : nu.length ≠ 0
   ·have e : dataOk ⟨nm, 2, tt, ad, to, tx, nu⟩ = false := by simp [dataOk, named_2, texted_2]; first | done | omega | (simp [*]; done) | (simp [*]; omega) | (intros; omega) | (simp_all; done) | (simp_all; omega)
    rw [e]
    exact l3_2_3 h hA hB hC hD
   replace hD : nu.length = 0 := by omega
   ·have e : dataOk ⟨nm, 2, tt, ad, to, tx, nu⟩ = true := by simp [dataOk, named_2, texted_2]; first | done | omega | (simp [*]; done) | (simp [*]; omega) | (intros; omega) | (simp_all; done) | (simp_all; omega)
    rw [e]
    exact l3_2_4 h hA hB hC hD
 ·skip
  by_cases hA : ad ≠ 0
  ·have e : dataOk ⟨nm, 5, tt, ad, to, tx, nu⟩ = false := by simp [dataOk, named_5, texted_5]; first | done | omega | (simp [*]; done) | (simp [*]; omega) | (intros; omega) | (simp_all; done) | (simp_all; omega)
   rw [e]
   exact l3_5_0 h hA
  replace hA : ad = 0 := by omega
  cases hB : nameOk to with
  | false =>
    have e : dataOk ⟨nm, 5, tt, ad, to, tx, nu⟩ = false := by simp [dataOk, named_5, texted_5]; first | done | omega | (simp [*]; done) | (simp [*]; omega) | (intros; omega) | (simp_all; done) | (simp_all; omega)
    rw [e]
    exact l3_5_1 h hA hB
  | true =>
   by_cases hC : tx.length ≠ 0
   ·have e : dataOk ⟨nm, 5, tt, ad, to, tx, nu⟩ = false := by simp [dataOk, named_5, texted_5]; first | done | omega | (simp [*]; done) | (simp [*]; omega) | (intros; omega) | (simp_all; done) | (simp_all; omega)
    rw [e]
    exact l3_5_2 h hA hB hC
   replace hC : tx.length = 0 := by omega
   by_cases hD : nu.length ≠ 0
   ·have e : dataOk ⟨nm, 5, tt, ad, to, tx, nu⟩ = false := by simp [dataOk, named_5, texted_5]; first | done | omega | (simp [*]; done) | (simp [*]; omega) | (intros; omega) | (simp_all; done) | (simp_all; omega)
    rw [e]
    exact l3_5_3 h hA hB hC hD
   replace hD : nu.length = 0 := by omega
   ·have e : dataOk ⟨nm, 5, tt, ad, to, tx, nu⟩ = true := by simp [dataOk, named_5, texted_5]; first | done | omega | (simp [*]; done) | (simp [*]; omega) | (intros; omega) | (simp_all; done) | (simp_all; omega)
    rw [e]
    exact l3_5_4 h hA hB hC hD
 ·skip
  by_cases hA : ad ≠ 0
  ·have e : dataOk ⟨nm, 6, tt, ad, to, tx, nu⟩ = false := by simp [dataOk, named_6, texted_6]; first | done | omega | (simp [*]; done) | (simp [*]; omega) | (intros; omega) | (simp_all; done) | (simp_all; omega)
   rw [e]
   exact l3_6_0 h hA
  replace hA : ad = 0 := by omega
  cases hB : nameOk to with
  | false =>
    have e : dataOk ⟨nm, 6, tt, ad, to, tx, nu⟩ = false := by simp [dataOk, named_6, texted_6]; first | done | omega | (simp [*]; done) | (simp [*]; omega) | (intros; omega) | (simp_all; done) | (simp_all; omega)
    rw [e]
    exact l3_6_1 h hA hB
  | true =>
   by_cases hC : tx.length ≠ 0
   ·have e : dataOk ⟨nm, 6, tt, ad, to, tx, nu⟩ = false := by simp [dataOk, named_6, texted_6]; first | done | omega | (simp [*]; done) | (simp [*]; omega) | (intros; omega) | (simp_all; done) | (simp_all; omega)
    rw [e]
    exact l3_6_2 h hA hB hC
   replace hC : tx.length = 0 := by omega
   by_cases hD : nu.length ≠ 2
   ·have e : dataOk ⟨nm, 6, tt, ad, to, tx, nu⟩ = false := by simp [dataOk, named_6, texted_6]; first | done | omega | (simp [*]; done) | (simp [*]; omega) | (intros; omega) | (simp_all; done) | (simp_all; omega)
    rw [e]
    exact l3_6_3 h hA hB hC hD
   replace hD : nu.length = 2 := by omega
   by_cases hE : nu.getD 0 0 < 0
   ·have e : dataOk ⟨nm, 6, tt, ad, to, tx, nu⟩ = false := by simp [dataOk, named_6, texted_6]; first | done | omega | (simp [*]; done) | (simp [*]; omega) | (intros; omega) | (simp_all; done) | (simp_all; omega)
    rw [e]
    exact l3_6_4 h hA hB hC hD hE
   replace hE : 0 ≤ nu.getD 0 0 := by omega
   by_cases hF : 4294967295 < nu.getD 0 0
   ·have e : dataOk ⟨nm, 6, tt, ad, to, tx, nu⟩ = false := by simp [dataOk, named_6, texted_6]; first | done | omega | (simp [*]; done) | (simp [*]; omega) | (intros; omega) | (simp_all; done) | (simp_all; omega)
    rw [e]
    exact l3_6_5 h hA hB hC hD hE hF
   replace hF : nu.getD 0 0 ≤ 4294967295 := by omega
   by_cases hG : nu.getD 1 0 < 0
   ·have e : dataOk ⟨nm, 6, tt, ad, to, tx, nu⟩ = false := by simp [dataOk, named_6, texted_6]; first | done | omega | (simp [*]; done) | (simp [*]; omega) | (intros; omega) | (simp_all; done) | (simp_all; omega)
    rw [e]
    exact l3_6_6 h hA hB hC hD hE hF hG
   replace hG : 0 ≤ nu.getD 1 0 := by omega
   by_cases hH : 100000 < nu.getD 1 0
   ·have e : dataOk ⟨nm, 6, tt, ad, to, tx, nu⟩ = false := by simp [dataOk, named_6, texted_6]; first | done | omega | (simp [*]; done) | (simp [*]; omega) | (intros; omega) | (simp_all; done) | (simp_all; omega)
    rw [e]
    exact l3_6_7 h hA hB hC hD hE hF hG hH
   replace hH : nu.getD 1 0 ≤ 100000 := by omega
   ·have e : dataOk ⟨nm, 6, tt, ad, to, tx, nu⟩ = true := by simp [dataOk, named_6, texted_6]; first | done | omega | (simp [*]; done) | (simp [*]; omega) | (intros; omega) | (simp_all; done) | (simp_all; omega)
    rw [e]
    exact l3_6_8 h hA hB hC hD hE hF hG hH
 ·skip
  by_cases hA : ad ≠ 0
  ·have e : dataOk ⟨nm, 12, tt, ad, to, tx, nu⟩ = false := by simp [dataOk, named_12, texted_12]; first | done | omega | (simp [*]; done) | (simp [*]; omega) | (intros; omega) | (simp_all; done) | (simp_all; omega)
   rw [e]
   exact l3_12_0 h hA
  replace hA : ad = 0 := by omega
  cases hB : nameOk to with
  | false =>
    have e : dataOk ⟨nm, 12, tt, ad, to, tx, nu⟩ = false := by simp [dataOk, named_12, texted_12]; first | done | omega | (simp [*]; done) | (simp [*]; omega) | (intros; omega) | (simp_all; done) | (simp_all; omega)
    rw [e]
    exact l3_12_1 h hA hB
  | true =>
   by_cases hC : tx.length ≠ 0
   ·have e : dataOk ⟨nm, 12, tt, ad, to, tx, nu⟩ = false := by simp [dataOk, named_12, texted_12]; first | done | omega | (simp [*]; done) | (simp [*]; omega) | (intros; omega) | (simp_all; done) | (simp_all; omega)
    rw [e]
    exact l3_12_2 h hA hB hC
   replace hC : tx.length = 0 := by omega
   by_cases hD : nu.length ≠ 0
   ·have e : dataOk ⟨nm, 12, tt, ad, to, tx, nu⟩ = false := by simp [dataOk, named_12, texted_12]; first | done | omega | (simp [*]; done) | (simp [*]; omega) | (intros; omega) | (simp_all; done) | (simp_all; omega)
    rw [e]
    exact l3_12_3 h hA hB hC hD
   replace hD : nu.length = 0 := by omega
   ·have e : dataOk ⟨nm, 12, tt, ad, to, tx, nu⟩ = true := by simp [dataOk, named_12, texted_12]; first | done | omega | (simp [*]; done) | (simp [*]; omega) | (intros; omega) | (simp_all; done) | (simp_all; omega)
    rw [e]
    exact l3_12_4 h hA hB hC hD
 ·skip
  by_cases hA : ad ≠ 0
  ·have e : dataOk ⟨nm, 16, tt, ad, to, tx, nu⟩ = false := by simp [dataOk, named_16, texted_16]; first | done | omega | (simp [*]; done) | (simp [*]; omega) | (intros; omega) | (simp_all; done) | (simp_all; omega)
   rw [e]
   exact l3_16_0 h hA
  replace hA : ad = 0 := by omega
  by_cases hB : to.length ≠ 0
  ·have e : dataOk ⟨nm, 16, tt, ad, to, tx, nu⟩ = false := by simp [dataOk, named_16, texted_16]; first | done | omega | (simp [*]; done) | (simp [*]; omega) | (intros; omega) | (simp_all; done) | (simp_all; omega)
   rw [e]
   exact l3_16_1 h hA hB
  replace hB : to.length = 0 := by omega
  by_cases hC : 40 < tx.length
  ·have e : dataOk ⟨nm, 16, tt, ad, to, tx, nu⟩ = false := by simp [dataOk, named_16, texted_16]; first | done | omega | (simp [*]; done) | (simp [*]; omega) | (intros; omega) | (simp_all; done) | (simp_all; omega)
   rw [e]
   exact l3_16_2 h hA hB hC
  replace hC : tx.length ≤ 40 := by omega
  by_cases hD : nu.length ≠ 0
  ·have e : dataOk ⟨nm, 16, tt, ad, to, tx, nu⟩ = false := by simp [dataOk, named_16, texted_16]; first | done | omega | (simp [*]; done) | (simp [*]; omega) | (intros; omega) | (simp_all; done) | (simp_all; omega)
   rw [e]
   exact l3_16_3 h hA hB hC hD
  replace hD : nu.length = 0 := by omega
  ·have e : dataOk ⟨nm, 16, tt, ad, to, tx, nu⟩ = true := by simp [dataOk, named_16, texted_16]; first | done | omega | (simp [*]; done) | (simp [*]; omega) | (intros; omega) | (simp_all; done) | (simp_all; omega)
   rw [e]
   exact l3_16_4 h hA hB hC hD
 ·skip
  by_cases hA : ad ≠ 0
  ·have e : dataOk ⟨nm, 49, tt, ad, to, tx, nu⟩ = false := by simp [dataOk, named_49, texted_49]; first | done | omega | (simp [*]; done) | (simp [*]; omega) | (intros; omega) | (simp_all; done) | (simp_all; omega)
   rw [e]
   exact l3_49_0 h hA
  replace hA : ad = 0 := by omega
  by_cases hB : to.length ≠ 0
  ·have e : dataOk ⟨nm, 49, tt, ad, to, tx, nu⟩ = false := by simp [dataOk, named_49, texted_49]; first | done | omega | (simp [*]; done) | (simp [*]; omega) | (intros; omega) | (simp_all; done) | (simp_all; omega)
   rw [e]
   exact l3_49_1 h hA hB
  replace hB : to.length = 0 := by omega
  by_cases hC : 40 < tx.length
  ·have e : dataOk ⟨nm, 49, tt, ad, to, tx, nu⟩ = false := by simp [dataOk, named_49, texted_49]; first | done | omega | (simp [*]; done) | (simp [*]; omega) | (intros; omega) | (simp_all; done) | (simp_all; omega)
   rw [e]
   exact l3_49_2 h hA hB hC
  replace hC : tx.length ≤ 40 := by omega
  by_cases hD : nu.length ≠ 0
  ·have e : dataOk ⟨nm, 49, tt, ad, to, tx, nu⟩ = false := by simp [dataOk, named_49, texted_49]; first | done | omega | (simp [*]; done) | (simp [*]; omega) | (intros; omega) | (simp_all; done) | (simp_all; omega)
   rw [e]
   exact l3_49_3 h hA hB hC hD
  replace hD : nu.length = 0 := by omega
  ·have e : dataOk ⟨nm, 49, tt, ad, to, tx, nu⟩ = true := by simp [dataOk, named_49, texted_49]; first | done | omega | (simp [*]; done) | (simp [*]; omega) | (intros; omega) | (simp_all; done) | (simp_all; omega)
   rw [e]
   exact l3_49_4 h hA hB hC hD
 ·rw [ht] at h0; cases h0

set_option maxHeartbeats 800000 in
set_option maxRecDepth 100000 in
theorem specRrOk_has {vn vt vx vi : Value} {r : Rec} {w : World} (h : HasR w vn vt vx vi r) :
  Calls Tryz.prog 62 #[.agg #[vn, .int .i64 r.type, .int .i64 r.ttl, .int .i64 r.addr, vt, vx, vi]] w fun e w' => e = .returned (.bool (rrOk r)) ∧ Below w.heap.size w w' := by
 obtain ⟨na, nc, rfl, _⟩ := h.name.form
 obtain ⟨ta, tc, rfl, _⟩ := h.to.form
 obtain ⟨xa, xc, rfl, _⟩ := h.text.form
 obtain ⟨ia, ic, rfl, _⟩ := h.nums.form
 have b0 := below_alloc (w := w) (.cells #[.slice na r.name.length nc, .int .i64 r.type, .int .i64 r.ttl, .int .i64 r.addr, .slice ta r.to.length tc, .slice xa r.text.length xc, .slice ia r.nums.length ic] 52)
 have K0 := hide (heap_alloc_new w (.cells #[.slice na r.name.length nc, .int .i64 r.type, .int .i64 r.ttl, .int .i64 r.addr, .slice ta r.to.length tc, .slice xa r.text.length xc, .slice ia r.nums.length ic] 52))
 have H0 := hide (h.below b0)
 clear h
 have LD := hide (fun (w : World) (vn vt vx vi : Value) (h : HasR w vn vt vx vi r) (ht : typeOk r.type = true) => l3data_has h ht)
 unfold rrOk
 have SN := hide (fun (w : World) (v : Value) (h : HasL w v r.name) => specNameOk_has h)
 have ST := hide (specTypeOk_any r.type)
 generalize dataOk r = D at *
 generalize hN : nameOk r.name = N at *
 generalize hT : typeOk r.type = T at *
 clear hN
 cases N with
 | false =>
  rw [Bool.false_and]
  go_enter Tryz.func62, Tryz.ntmps62
  go_wp2_with fail
  generalize w.alloc (.cells #[.slice na r.name.length nc, .int .i64 r.type, .int .i64 r.ttl, .int .i64 r.addr, .slice ta r.to.length tc, .slice xa r.text.length xc, .slice ia r.nums.length ic] 52) = W at *
  refine (unhide SN _ _ (unhide H0).name).mono ?_
  rintro e w1 ⟨rfl, b1⟩
  go_wp2_with fail
  go_ret
  exact ⟨rfl, below_next b0 b1⟩
 | true =>
  rw [Bool.true_and]
  cases T with
  | false =>
   rw [Bool.false_and]
   go_enter Tryz.func62, Tryz.ntmps62
   go_wp2_with fail
   generalize w.alloc (.cells #[.slice na r.name.length nc, .int .i64 r.type, .int .i64 r.ttl, .int .i64 r.addr, .slice ta r.to.length tc, .slice xa r.text.length xc, .slice ia r.nums.length ic] 52) = W at *
   refine (unhide SN _ _ (unhide H0).name).mono ?_
   rintro e w1 ⟨rfl, b1⟩
   have K1 := hide (block_kept b1 (unhide K0))
   obtain ⟨d0, d1, d2, d3, d4, d5, d6⟩ := cells7 (unhide K1)
   go_wp2_with fail
   refine (unhide ST _).mono ?_
   rintro e w2 ⟨rfl, rfl⟩
   go_wp2_with fail
   go_ret
   exact ⟨rfl, below_next b0 b1⟩
  | true =>
   rw [Bool.true_and]
   by_cases hl : r.ttl < 0
   ·rw [decide_eq_false (by omega), Bool.false_and]
    have hl0 : decide (0 ≤ r.ttl) = false := decide_eq_false (by omega)
    go_enter Tryz.func62, Tryz.ntmps62
    go_wp2_with fail
    generalize w.alloc (.cells #[.slice na r.name.length nc, .int .i64 r.type, .int .i64 r.ttl, .int .i64 r.addr, .slice ta r.to.length tc, .slice xa r.text.length xc, .slice ia r.nums.length ic] 52) = W at *
    refine (unhide SN _ _ (unhide H0).name).mono ?_
    rintro e w1 ⟨rfl, b1⟩
    have K1 := hide (block_kept b1 (unhide K0))
    obtain ⟨d0, d1, d2, d3, d4, d5, d6⟩ := cells7 (unhide K1)
    go_wp2_with fail
    refine (unhide ST _).mono ?_
    rintro e w2 ⟨rfl, rfl⟩
    go_wp2_with fail
    go_ret
    exact ⟨rfl, below_next b0 b1⟩
   by_cases hh : 100000 < r.ttl
   ·rw [decide_eq_false (by omega), Bool.false_and]
    have hl0 : decide (r.ttl ≤ 100000) = false := decide_eq_false (by omega)
    go_enter Tryz.func62, Tryz.ntmps62
    go_wp2_with fail
    generalize w.alloc (.cells #[.slice na r.name.length nc, .int .i64 r.type, .int .i64 r.ttl, .int .i64 r.addr, .slice ta r.to.length tc, .slice xa r.text.length xc, .slice ia r.nums.length ic] 52) = W at *
    refine (unhide SN _ _ (unhide H0).name).mono ?_
    rintro e w1 ⟨rfl, b1⟩
    have K1 := hide (block_kept b1 (unhide K0))
    obtain ⟨d0, d1, d2, d3, d4, d5, d6⟩ := cells7 (unhide K1)
    go_wp2_with fail
    refine (unhide ST _).mono ?_
    rintro e w2 ⟨rfl, rfl⟩
    go_wp2_with fail
    go_ret
    exact ⟨rfl, below_next b0 b1⟩
   rw [decide_eq_true (by omega), Bool.true_and]
   have hl0 : decide (r.ttl ≤ 100000) = true := decide_eq_true (by omega)
   go_enter Tryz.func62, Tryz.ntmps62
   go_wp2_with fail
   generalize w.alloc (.cells #[.slice na r.name.length nc, .int .i64 r.type, .int .i64 r.ttl, .int .i64 r.addr, .slice ta r.to.length tc, .slice xa r.text.length xc, .slice ia r.nums.length ic] 52) = W at *
   refine (unhide SN _ _ (unhide H0).name).mono ?_
   rintro e w1 ⟨rfl, b1⟩
   have K1 := hide (block_kept b1 (unhide K0))
   have H1 := hide ((unhide H0).below b1)
   obtain ⟨d0, d1, d2, d3, d4, d5, d6⟩ := cells7 (unhide K1)
   go_wp2_with fail
   refine (unhide ST _).mono ?_
   rintro e w2 ⟨rfl, rfl⟩
   go_wp2_with fail
   refine (unhide LD _ _ _ _ _ (unhide H1) trivial).mono ?_
   rintro e w3 ⟨rfl, b3⟩
   go_wp2_with fail
   go_ret
   exact ⟨rfl, below_next (below_next b0 b1) b3⟩
end Go.Proofs.YtmlcmkoefelolaaGreat
