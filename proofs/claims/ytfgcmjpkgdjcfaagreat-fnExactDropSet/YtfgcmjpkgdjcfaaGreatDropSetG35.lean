/-
  Contracts of the specification's LabelOk. Contracts of the specification's NameOk. Contracts of the specification's l2bytes and l2cmp. Contracts of the specification's l3named, l3texted, l3data and RrOk.
-/
import Derived.Test.YtfgcmjpkgdjcfaaGreatDropSetG03
import Derived.Test.YtfgcmjpkgdjcfaaGreatDropSetG00
import Derived.Test.YtfgcmjpkgdjcfaaGreatDropSetG14
import Derived.Test.YtfgcmjpkgdjcfaaGreatDropSetG09
import Derived.WalkLawsBesides
import Derived.Test.YtfgcmjpkgdjcfaaGreatDropSetG10
namespace Go.Proofs.YtfgcmjpkgdjcfaaGreat
open Go.RowKit
set_option linter.unusedVariables false

theorem ssign_cases (c : Int) : (97 ≤ c ∧ c ≤ 122) ∨ (97 ≤ c ∧ 122 < c) ∨ (c < 97 ∧ 48 ≤ c ∧ c ≤ 57) ∨ (c < 97 ∧ 48 ≤ c ∧ 57 < c ∧ c ≠ 45) ∨ (c < 97 ∧ c < 48 ∧ c = 45) ∨ (c < 97 ∧ c < 48 ∧ c ≠ 45) := by omega

set_option maxHeartbeats 1600000 in
set_option maxRecDepth 100000 in
theorem specLabelOk_has {v : Value} {l : List Int} {w : World} (h : Has w v l) :
  Calls Tryz.prog 59 #[v] w fun e w' => e = .returned (.bool (labelOk l)) ∧ w = w' := by
 have hbd := h.bound
 unfold maxLen at hbd
 obtain ⟨a, cap, rfl, hL⟩ := h.form
 by_cases h0 : l.length = 0
 ·rw [labelOk_short (by omega), h0]
  go_enter Tryz.func59, Tryz.ntmps59
  go_wp2
  go_ret
  exact ⟨rfl, rfl⟩
 ·by_cases h1 : 15 < l.length
  ·rw [labelOk_short (by omega)]
   generalize hn : l.length = n at *
   go_enter Tryz.func59, Tryz.ntmps59
   go_wp2
   go_ret
   exact ⟨rfl, rfl⟩
  ·have h2 : l.length ≤ 15 := by omega
   have hyes := hide (fun (hs : ∀ j, j < l.length → signOk (l.getD j 0) = true) => labelOk_yes (l := l) (by omega) h2 hs)
   have hno := hide (fun (j : Nat) (hj : j < l.length) (hs : signOk (l.getD j 0) = false) => labelOk_sign hj hs)
   generalize hok : labelOk l = ok at *
   clear hok
   generalize hn : l.length = n at *
   have HN := hide hn
   clear hn
   have hn1 : (1 : Int) ≤ n := by omega
   go_enter Tryz.func59, Tryz.ntmps59
   go_wp2
   go_loop [3] (fun i => ∃ k : Nat, k ≤ n ∧ i = .int .i64 k ∧ Hid (∀ j, j < k → signOk (l.getD j 0) = true)) (fun i => n - (intOf i).toNat)
   case atStart => exact ⟨0, Nat.zero_le _, rfl, hide (fun j hj => absurd hj (Nat.not_lt_zero _))⟩
   case round =>
    obtain ⟨k, hk, rfl, hall⟩ := hrel
    by_cases hlt : k < n
    ·obtain ⟨b, off, rfl, hbl, hc⟩ := hL.here (k := k) (by rw [unhide HN]; exact hlt)
     have hone := hide (fun (hs : signOk (l.getD k 0) = true) => (show ∀ j, j < k + 1 → signOk (l.getD j 0) = true from fun j hj => by
      by_cases e : j = k
      ·subst e; exact hs
      ·exact unhide hall j (by omega)))
     have hnok := hide (fun (hs : signOk (l.getD k 0) = false) => unhide hno k hlt hs)
     generalize hx : l.getD k 0 = x at *
     rcases ssign_cases x with ⟨h1, h2⟩ | ⟨h1, h2⟩ | ⟨h1, h2, h3⟩ | ⟨h1, h2, h3, h4⟩ | ⟨h1, h2, rfl⟩ | ⟨h1, h2, h3⟩
     ·have hs : signOk x = true := decide_eq_true (by omega)
      go_wp2
      exact ⟨⟨k + 1, by omega, by go_num, hide (unhide hone hs)⟩, by simp [intOf]; omega⟩
     ·have hs : signOk x = false := decide_eq_false (by omega)
      have hq := unhide hnok hs
      subst hq
      have h8 : (x == 45) = false := by simp; omega
      have h5 : 48 ≤ x := by omega
      have h6 : ¬ x ≤ 57 := by omega
      have h7 : ¬ x ≤ 122 := by omega
      go_wp2
      go_ret
      exact ⟨rfl, rfl⟩
     ·have hs : signOk x = true := decide_eq_true (by omega)
      have h5 : ¬ 97 ≤ x := by omega
      go_wp2
      exact ⟨⟨k + 1, by omega, by go_num, hide (unhide hone hs)⟩, by simp [intOf]; omega⟩
     ·have hs : signOk x = false := decide_eq_false (by omega)
      have hq := unhide hnok hs
      subst hq
      have h8 : (x == 45) = false := by simp; omega
      have h5 : ¬ 97 ≤ x := by omega
      have h6 : ¬ x ≤ 57 := by omega
      go_wp2
      go_ret
      exact ⟨rfl, rfl⟩
     ·have hs : signOk 45 = true := rfl
      go_wp2
      exact ⟨⟨k + 1, by omega, by go_num, hide (unhide hone hs)⟩, by simp [intOf]; omega⟩
     ·have hs : signOk x = false := decide_eq_false (by omega)
      have hq := unhide hnok hs
      subst hq
      have h8 : (x == 45) = false := by simp; omega
      have h5 : ¬ 97 ≤ x := by omega
      have h6 : ¬ 48 ≤ x := by omega
      go_wp2
      go_ret
      exact ⟨rfl, rfl⟩
    ·obtain rfl : k = n := by omega
     have hq := unhide hyes (unhide hall)
     subst hq
     go_wp2
     go_ret
     exact ⟨rfl, rfl⟩
end Go.Proofs.YtfgcmjpkgdjcfaaGreat

namespace Go.Proofs.YtfgcmjpkgdjcfaaGreat
open Go.RowKit
set_option linter.unusedVariables false

set_option maxHeartbeats 400000 in
set_option maxRecDepth 100000 in
theorem specNameOk_has {v : Value} {n : List (List Int)} {w : World} (h : HasL w v n) :
  Calls Tryz.prog 24 #[.agg #[v]] w fun e w' => e = .returned (.bool (nameOk n)) ∧ Below w.heap.size w w' := by
 obtain ⟨a, cap, rfl, hl, hm⟩ := h.form
 unfold maxLen at hm
 by_cases h1 : 6 < n.length
 ·rw [nameOk_long h1]
  have H := hide h
  clear h
  generalize hn : n.length = m at *
  have HN := hide hn
  clear hn
  go_enter Tryz.func24, Tryz.ntmps24
  go_wp2
  go_ret
  exact ⟨rfl, below_alloc _⟩
 ·have h2 : n.length ≤ 6 := by omega
  have hA := h.below (below_alloc (.cells #[.slice a n.length cap] 30))
  have H := hide h
  clear h
  have hyes := hide (fun (hs : ∀ j, j < n.length → labelOk (n.getD j []) = true) => nameOk_yes (n := n) h2 hs)
  have hno := hide (fun (j : Nat) (hj : j < n.length) (hs : labelOk (n.getD j []) = false) => nameOk_label hj hs)
  generalize hok : nameOk n = ok at *
  clear hok
  generalize hn : n.length = m at *
  have HN := hide hn
  clear hn
  go_enter Tryz.func24, Tryz.ntmps24
  go_wp2
  go_loop [3] (fun i => ∃ k : Nat, k ≤ m ∧ i = .int .i64 k ∧ Hid (∀ j, j < k → labelOk (n.getD j []) = true)) (fun i => m - (intOf i).toNat)
  case atStart => exact ⟨0, Nat.zero_le _, rfl, hide (fun j hj => absurd hj (Nat.not_lt_zero _))⟩
  case round =>
   obtain ⟨k, hk, rfl, hall⟩ := hrel
   by_cases hlt : k < m
   ·obtain ⟨b, off, u, rfl, hbl, hc, hu⟩ := hA.here (k := k) (by rw [unhide HN]; exact hlt)
    have hone := hide (fun (hs : labelOk (n.getD k []) = true) => (show ∀ j, j < k + 1 → labelOk (n.getD j []) = true from fun j hj => by
      by_cases e : j = k
      ·subst e; exact hs
      ·exact unhide hall j (by omega)))
    have hnok := hide (fun (hs : labelOk (n.getD k []) = false) => unhide hno k hlt hs)
    generalize hx : n.getD k [] = x at *
    have HU := hide hu
    obtain ⟨ua, uc, rfl, _⟩ := hu.form
    clear hu
    go_wp2_with fail
    refine (specLabelOk_has (unhide HU)).mono ?_
    rintro e w1 ⟨rfl, rfl⟩
    cases hs : labelOk x with
    | true =>
     go_wp2
     exact ⟨⟨k + 1, by omega, by go_num, hide (unhide hone hs)⟩, by simp [intOf]; omega⟩
    | false =>
     have hq := unhide hnok hs
     subst hq
     go_wp2
     go_ret
     exact ⟨rfl, below_alloc _⟩
   ·obtain rfl : k = m := by omega
    have hq := unhide hyes (unhide hall)
    subst hq
    go_wp2
    go_ret
    exact ⟨rfl, below_alloc _⟩
end Go.Proofs.YtfgcmjpkgdjcfaaGreat

namespace Go.Proofs.YtfgcmjpkgdjcfaaGreat
open Go.RowKit
set_option linter.unusedVariables false

set_option maxHeartbeats 400000 in
set_option maxRecDepth 100000 in
theorem l2bytes_has {v v' : Value} {l l' : List Int} {w : World} (h : Has w v l) (h' : Has w v' l') :
  Calls Tryz.prog 92 #[v, v'] w fun e w' => e = .returned (.int .i64 (cmpB l l')) ∧ w = w' := by
 have hc := conv_has h
 have hc' := conv_has h'
 have hlt := str_less l l'
 have heq := str_same l l'
 clear h h'
 rcases cmpB_cases l l' with e | e | e
 ·rw [e] at hlt heq ⊢
  simp only [decide_true] at hlt
  clear heq e
  go_enter Tryz.func92, Tryz.ntmps92
  go_wp2
  go_ret
  exact ⟨rfl, rfl⟩
 ·rw [e] at hlt heq ⊢
  simp only [decide_true] at heq
  rw [decide_eq_false (by omega)] at hlt
  clear e
  go_enter Tryz.func92, Tryz.ntmps92
  go_wp2
  go_ret
  exact ⟨rfl, rfl⟩
 ·rw [e] at hlt heq ⊢
  rw [decide_eq_false (by omega)] at hlt heq
  clear e
  go_enter Tryz.func92, Tryz.ntmps92
  go_wp2
  go_ret
  exact ⟨rfl, rfl⟩

theorem l2bytes_quiet {v v' : Value} {l l' : List Int} {w : World} (h : Has w v l) (h' : Has w v' l') (n : Nat) :
  Calls Tryz.prog 92 #[v, v'] (w.drewN n) fun e w'' => e = .returned (.int .i64 (cmpB l l')) ∧ ∃ m, w'' = w.drewN m :=
 (l2bytes_has (h.below (below_draws n)) (h'.below (below_draws n))).mono fun e w' ⟨he, hw⟩ => ⟨he, n, hw.symm⟩

set_option maxHeartbeats 1000000 in
set_option maxRecDepth 100000 in
theorem l2cmp_has {v v' : Value} {n n' : List (List Int)} {w : World} (h : HasL w v n) (h' : HasL w v' n') (hs : n.length ≤ 1048576) (hs' : n'.length ≤ 1048576) :
  Calls Tryz.prog 58 #[.agg #[v], .agg #[v']] w fun e w' => e = .returned (.int .i64 (cmpN n n')) ∧ Below w.heap.size w w' := by
 obtain ⟨a, cap, rfl, hl, hm⟩ := h.form
 obtain ⟨a', cap', rfl, hl', hm'⟩ := h'.form
 unfold maxLen at hm hm'
 have HIT := hide (fun (k : Nat) => cmpN_hit (a := n) (b := n') (k := k))
 have NON := hide (fun (k : Nat) => cmpN_none (a := n) (b := n') (k := k))
 have HAT := hide (atEnd_eq n n')
 generalize hR : cmpN n n' = R at *
 clear hR
 generalize hC : atEnd n n' = C at *
 clear hC
 have b1 := below_alloc (w := w) (.cells #[.slice a n.length cap] 30)
 have k1 := heap_alloc_new w (.cells #[.slice a n.length cap] 30)
 have e1 : (w.alloc (.cells #[.slice a n.length cap] 30)).heap.size = w.heap.size + 1 := by show (w.heap.push _).size = _; simp
 have b2 := below_alloc (w := w.alloc (.cells #[.slice a n.length cap] 30)) (.cells #[.slice a' n'.length cap'] 30)
 have x2 := heap_alloc_new (w.alloc (.cells #[.slice a n.length cap] 30)) (.cells #[.slice a' n'.length cap'] 30)
 have k2 := block_kept b2 k1
 rw [e1] at x2
 have bb2 := below_next b1 b2
 have h2 := hide (h.below bb2)
 have h2' := hide (h'.below bb2)
 have HH := hide h
 have HH' := hide h'
 clear h h' b1 b2 k1 e1
 generalize hn : n.length = m at *
 have HN := hide hn
 clear hn
 generalize hn' : n'.length = m' at *
 have HN' := hide hn'
 clear hn'
 go_enter Tryz.func58, Tryz.ntmps58
 go_wp2
 generalize (w.alloc (.cells #[.slice a m cap] 30)).alloc (.cells #[.slice a' m' cap'] 30) = W at *
 go_loopw [5] (fun i wr => ∃ k : Nat, 1 ≤ k ∧ k ≤ m + 1 ∧ k ≤ m' + 1 ∧ i = .int .i64 k ∧ Hid (∀ j, 1 ≤ j → j < k → C j = 0) ∧ Below W.heap.size W wr) (fun i _ => m + 1 - (intOf i).toNat)
 case atStart => exact ⟨1, Nat.le_refl _, by omega, by omega, rfl, hide (fun j h1 h2 => absurd h2 (by omega)), Below.refl _ _⟩
 case round =>
  obtain ⟨k, hk1, hk2, hk3, rfl, hall, hb⟩ := hrel
  have c1 := block_one (block_kept hb k2)
  have c2 := block_one (block_kept hb x2)
  by_cases hlt : k ≤ m
  ·by_cases hlt' : k ≤ m'
   ·obtain ⟨b, off, u, rfl, hbl, hc, hu⟩ := ((unhide h2).below hb).here (k := m - k) (by rw [unhide HN]; omega)
    obtain ⟨b', off', u', rfl, hbl', hc', hu'⟩ := ((unhide h2').below hb).here (k := m' - k) (by rw [unhide HN']; omega)
    have hat := hide (unhide HAT k)
    have hhit := hide (fun (hz : C k ≠ 0) => unhide HIT k hk1 hlt hlt' (unhide hall) hz)
    have hone := hide (fun (hz : C k = 0) => (show ∀ j, 1 ≤ j → j < k + 1 → C j = 0 from fun j h1 h2 => by
      by_cases e : j = k
      ·subst e; exact hz
      ·exact unhide hall j h1 (by omega)))
    generalize n.getD (m - k) [] = lab at *
    generalize n'.getD (m' - k) [] = lab' at *
    obtain ⟨j, hj⟩ : ∃ j : Nat, m - k = j := ⟨_, rfl⟩
    obtain ⟨j', hj'⟩ : ∃ j' : Nat, m' - k = j' := ⟨_, rfl⟩
    rw [hj] at hc
    rw [hj'] at hc'
    have s1 : (m : Int) - k = j := by omega
    have s2 : (m' : Int) - k = j' := by omega
    have jl : j < m := by omega
    have jl' : j' < m' := by omega
    have wj : IntKind.i64.wrap (j : Int) = j := wrap_small j (by omega)
    have wj' : IntKind.i64.wrap (j' : Int) = j' := wrap_small j' (by omega)
    have HU := hide hu
    have HU' := hide hu'
    obtain ⟨ua, uc, rfl, _⟩ := hu.form
    obtain ⟨ua', uc', rfl, _⟩ := hu'.form
    clear hu hu'
    have i1 : (k : Int) ≤ m := by omega
    have i2 : (k : Int) ≤ m' := by omega
    go_wp2
    go_quiet (first | (exact l2bytes_quiet (unhide HU) (unhide HU') _))
    clear wj wj' s1 s2 hj hj' jl jl' hc hc' c1 c2 i1 i2 hl hl' hm hm'
    have bb := below_next hb (below_draws (w := wr) nq)
    have hcs := cmpB_cases lab lab'
    generalize cmpB lab lab' = c at *
    rcases hcs with rfl | rfl | rfl
    ·have hr := unhide hhit (by rw [unhide hat]; omega)
     rw [unhide hat] at hr
     subst hr
     go_wp2
     go_ret
     exact ⟨rfl, below_next bb2 bb⟩
    ·go_wp2
     exact ⟨⟨k + 1, by omega, by omega, by omega, by go_num, hide (unhide hone (unhide hat)), bb⟩, by simp [intOf]; omega⟩
    ·have hr := unhide hhit (by rw [unhide hat]; omega)
     rw [unhide hat] at hr
     subst hr
     go_wp2
     go_ret
     exact ⟨rfl, below_next bb2 bb⟩
   ·have hr := unhide NON k (.inr (by omega)) (unhide hall)
    unfold byLength at hr
    rw [if_neg (by omega), if_pos (by omega)] at hr
    subst hr
    have i1 : (k : Int) ≤ m := by omega
    have i2 : ¬ (k : Int) ≤ m' := by omega
    have i3 : ((m : Int) == m') = false := by rw [beq_eq_false_iff_ne]; omega
    have i4 : ¬ (m : Int) < m' := by omega
    go_wp2
    go_ret
    exact ⟨rfl, below_next bb2 hb⟩
  ·have i1 : ¬ (k : Int) ≤ m := by omega
   have hr := unhide NON k (.inl (by omega)) (unhide hall)
   unfold byLength at hr
   by_cases he : m = m'
   ·subst he
    rw [if_neg (by omega), if_neg (by omega)] at hr
    subst hr
    go_wp2
    go_ret
    exact ⟨rfl, below_next bb2 hb⟩
   ·rw [if_pos (by omega)] at hr
    subst hr
    have i3 : ((m : Int) == m') = false := by rw [beq_eq_false_iff_ne]; omega
    have i4 : (m : Int) < m' := by omega
    go_wp2
    go_ret
    exact ⟨rfl, below_next bb2 hb⟩

end Go.Proofs.YtfgcmjpkgdjcfaaGreat

namespace Go.Proofs.YtfgcmjpkgdjcfaaGreat
open Go.RowKit
set_option linter.unusedVariables false

theorem named_1 : named 1 = false := rfl
theorem named_2 : named 2 = true := rfl
theorem named_5 : named 5 = true := rfl
theorem named_6 : named 6 = true := rfl
theorem named_12 : named 12 = true := rfl
theorem named_16 : named 16 = false := rfl
theorem named_49 : named 49 = false := rfl

set_option maxHeartbeats 400000 in
set_option maxRecDepth 100000 in
theorem l3named_any (t : Int) (w : World) (ht : typeOk t = true) : Calls Tryz.prog 116 #[.int .i64 t] w fun e w' => e = .returned (.bool (named t)) ∧ w = w' := by
 rcases type_cases t with rfl | rfl | rfl | rfl | rfl | rfl | rfl | h
 iterate 7
  ·go_enter Tryz.func116, Tryz.ntmps116
   go_wp2
   go_ret
   exact ⟨rfl, rfl⟩
 ·rw [ht] at h; cases h

theorem texted_1 : texted 1 = false := rfl
theorem texted_2 : texted 2 = false := rfl
theorem texted_5 : texted 5 = false := rfl
theorem texted_6 : texted 6 = false := rfl
theorem texted_12 : texted 12 = false := rfl
theorem texted_16 : texted 16 = true := rfl
theorem texted_49 : texted 49 = true := rfl

set_option maxHeartbeats 400000 in
set_option maxRecDepth 100000 in
theorem l3texted_any (t : Int) (w : World) (ht : typeOk t = true) : Calls Tryz.prog 117 #[.int .i64 t] w fun e w' => e = .returned (.bool (texted t)) ∧ w = w' := by
 rcases type_cases t with rfl | rfl | rfl | rfl | rfl | rfl | rfl | h
 iterate 7
  ·go_enter Tryz.func117, Tryz.ntmps117
   go_wp2
   go_ret
   exact ⟨rfl, rfl⟩
 ·rw [ht] at h; cases h

set_option maxHeartbeats 400000 in
set_option maxRecDepth 100000 in
theorem l3_1_0 {na : Option Addr} {nc : Nat} {ta : Option Addr} {tc : Nat} {xa : Option Addr} {xc : Nat} {ia : Option Addr} {ic : Nat} {nm to : List (List Int)} {tx nu : List Int} {tt ad : Int} {w : World} (h : HasR w (.slice na nm.length nc) (.slice ta to.length tc) (.slice xa tx.length xc) (.slice ia nu.length ic) ⟨nm, 1, tt, ad, to, tx, nu⟩) (hA : ad < 0) :
  Calls Tryz.prog 90 #[.agg #[.slice na nm.length nc, .int .i64 1, .int .i64 tt, .int .i64 ad, .slice ta to.length tc, .slice xa tx.length xc, .slice ia nu.length ic]] w fun e w' => e = .returned (.bool false) ∧ Below w.heap.size w w' := by
 have b0 := below_alloc (w := w) (.cells #[.slice na nm.length nc, .int .i64 1, .int .i64 tt, .int .i64 ad, .slice ta to.length tc, .slice xa tx.length xc, .slice ia nu.length ic] 59)
 have K0 := hide (heap_alloc_new w (.cells #[.slice na nm.length nc, .int .i64 1, .int .i64 tt, .int .i64 ad, .slice ta to.length tc, .slice xa tx.length xc, .slice ia nu.length ic] 59))
 have H0 := hide (h.below b0)
 clear h
 go_enter Tryz.func90, Tryz.ntmps90
 go_wp2_with fail
 go_ret
 exact ⟨rfl, b0⟩

set_option maxHeartbeats 400000 in
set_option maxRecDepth 100000 in
theorem l3_1_1 {na : Option Addr} {nc : Nat} {ta : Option Addr} {tc : Nat} {xa : Option Addr} {xc : Nat} {ia : Option Addr} {ic : Nat} {nm to : List (List Int)} {tx nu : List Int} {tt ad : Int} {w : World} (h : HasR w (.slice na nm.length nc) (.slice ta to.length tc) (.slice xa tx.length xc) (.slice ia nu.length ic) ⟨nm, 1, tt, ad, to, tx, nu⟩) (hA : 4294967295 < ad) (hA0 : ¬ ad < 0) :
  Calls Tryz.prog 90 #[.agg #[.slice na nm.length nc, .int .i64 1, .int .i64 tt, .int .i64 ad, .slice ta to.length tc, .slice xa tx.length xc, .slice ia nu.length ic]] w fun e w' => e = .returned (.bool false) ∧ Below w.heap.size w w' := by
 have b0 := below_alloc (w := w) (.cells #[.slice na nm.length nc, .int .i64 1, .int .i64 tt, .int .i64 ad, .slice ta to.length tc, .slice xa tx.length xc, .slice ia nu.length ic] 59)
 have K0 := hide (heap_alloc_new w (.cells #[.slice na nm.length nc, .int .i64 1, .int .i64 tt, .int .i64 ad, .slice ta to.length tc, .slice xa tx.length xc, .slice ia nu.length ic] 59))
 have H0 := hide (h.below b0)
 clear h
 go_enter Tryz.func90, Tryz.ntmps90
 go_wp2_with fail
 go_ret
 exact ⟨rfl, b0⟩

set_option maxHeartbeats 400000 in
set_option maxRecDepth 100000 in
theorem l3_1_2 {na : Option Addr} {nc : Nat} {ta : Option Addr} {tc : Nat} {xa : Option Addr} {xc : Nat} {ia : Option Addr} {ic : Nat} {nm to : List (List Int)} {tx nu : List Int} {tt ad : Int} {w : World} (h : HasR w (.slice na nm.length nc) (.slice ta to.length tc) (.slice xa tx.length xc) (.slice ia nu.length ic) ⟨nm, 1, tt, ad, to, tx, nu⟩) (hA : 0 ≤ ad) (hA2 : ad ≤ 4294967295) (hB : to.length ≠ 0) :
  Calls Tryz.prog 90 #[.agg #[.slice na nm.length nc, .int .i64 1, .int .i64 tt, .int .i64 ad, .slice ta to.length tc, .slice xa tx.length xc, .slice ia nu.length ic]] w fun e w' => e = .returned (.bool false) ∧ Below w.heap.size w w' := by
 have ehB : (0 : Int) < to.length := by omega
 have fhB : ((to.length : Int) == 0) = false := by rw [beq_eq_false_iff_ne]; omega
 have b0 := below_alloc (w := w) (.cells #[.slice na nm.length nc, .int .i64 1, .int .i64 tt, .int .i64 ad, .slice ta to.length tc, .slice xa tx.length xc, .slice ia nu.length ic] 59)
 have K0 := hide (heap_alloc_new w (.cells #[.slice na nm.length nc, .int .i64 1, .int .i64 tt, .int .i64 ad, .slice ta to.length tc, .slice xa tx.length xc, .slice ia nu.length ic] 59))
 have H0 := hide (h.below b0)
 clear h
 go_enter Tryz.func90, Tryz.ntmps90
 go_wp2_with fail
 generalize w.alloc (.cells #[.slice na nm.length nc, .int .i64 1, .int .i64 tt, .int .i64 ad, .slice ta to.length tc, .slice xa tx.length xc, .slice ia nu.length ic] 59) = W at *
 refine (l3named_any 1 _ rfl).mono ?_
 rw [named_1]
 rintro e w1 ⟨rfl, rfl⟩
 obtain ⟨d0, d1, d2, d3, d4, d5, d6⟩ := cells7 (unhide K0)
 go_wp2_with fail
 go_ret
 exact ⟨rfl, b0⟩

set_option maxHeartbeats 400000 in
set_option maxRecDepth 100000 in
theorem l3_1_3 {na : Option Addr} {nc : Nat} {ta : Option Addr} {tc : Nat} {xa : Option Addr} {xc : Nat} {ia : Option Addr} {ic : Nat} {nm to : List (List Int)} {tx nu : List Int} {tt ad : Int} {w : World} (h : HasR w (.slice na nm.length nc) (.slice ta to.length tc) (.slice xa tx.length xc) (.slice ia nu.length ic) ⟨nm, 1, tt, ad, to, tx, nu⟩) (hA : 0 ≤ ad) (hA2 : ad ≤ 4294967295) (hB : to.length = 0) (hC : tx.length ≠ 0) :
  Calls Tryz.prog 90 #[.agg #[.slice na nm.length nc, .int .i64 1, .int .i64 tt, .int .i64 ad, .slice ta to.length tc, .slice xa tx.length xc, .slice ia nu.length ic]] w fun e w' => e = .returned (.bool false) ∧ Below w.heap.size w w' := by
 obtain rfl := nil_of hB
 clear hB
 have ehC : (0 : Int) < tx.length := by omega
 have fhC : ((tx.length : Int) == 0) = false := by rw [beq_eq_false_iff_ne]; omega
 simp only [List.length_nil] at *
 have b0 := below_alloc (w := w) (.cells #[.slice na nm.length nc, .int .i64 1, .int .i64 tt, .int .i64 ad, .slice ta 0 tc, .slice xa tx.length xc, .slice ia nu.length ic] 59)
 have K0 := hide (heap_alloc_new w (.cells #[.slice na nm.length nc, .int .i64 1, .int .i64 tt, .int .i64 ad, .slice ta 0 tc, .slice xa tx.length xc, .slice ia nu.length ic] 59))
 have H0 := hide (h.below b0)
 clear h
 go_enter Tryz.func90, Tryz.ntmps90
 go_wp2_with fail
 generalize w.alloc (.cells #[.slice na nm.length nc, .int .i64 1, .int .i64 tt, .int .i64 ad, .slice ta 0 tc, .slice xa tx.length xc, .slice ia nu.length ic] 59) = W at *
 refine (l3named_any 1 _ rfl).mono ?_
 rw [named_1]
 rintro e w1 ⟨rfl, rfl⟩
 obtain ⟨d0, d1, d2, d3, d4, d5, d6⟩ := cells7 (unhide K0)
 go_wp2_with fail
 refine (l3texted_any 1 _ rfl).mono ?_
 rw [texted_1]
 rintro e w2 ⟨rfl, rfl⟩
 go_wp2_with fail
 go_ret
 exact ⟨rfl, b0⟩

set_option maxHeartbeats 400000 in
set_option maxRecDepth 100000 in
theorem l3_1_4 {na : Option Addr} {nc : Nat} {ta : Option Addr} {tc : Nat} {xa : Option Addr} {xc : Nat} {ia : Option Addr} {ic : Nat} {nm to : List (List Int)} {tx nu : List Int} {tt ad : Int} {w : World} (h : HasR w (.slice na nm.length nc) (.slice ta to.length tc) (.slice xa tx.length xc) (.slice ia nu.length ic) ⟨nm, 1, tt, ad, to, tx, nu⟩) (hA : 0 ≤ ad) (hA2 : ad ≤ 4294967295) (hB : to.length = 0) (hC : tx.length = 0) (hD : nu.length ≠ 0) :
  Calls Tryz.prog 90 #[.agg #[.slice na nm.length nc, .int .i64 1, .int .i64 tt, .int .i64 ad, .slice ta to.length tc, .slice xa tx.length xc, .slice ia nu.length ic]] w fun e w' => e = .returned (.bool false) ∧ Below w.heap.size w w' := by
 obtain rfl := nil_of hB
 clear hB
 obtain rfl := nil_of hC
 clear hC
 have ehD : ((nu.length : Int) == 0) = false := by rw [beq_eq_false_iff_ne]; omega
 simp only [List.length_nil] at *
 have b0 := below_alloc (w := w) (.cells #[.slice na nm.length nc, .int .i64 1, .int .i64 tt, .int .i64 ad, .slice ta 0 tc, .slice xa 0 xc, .slice ia nu.length ic] 59)
 have K0 := hide (heap_alloc_new w (.cells #[.slice na nm.length nc, .int .i64 1, .int .i64 tt, .int .i64 ad, .slice ta 0 tc, .slice xa 0 xc, .slice ia nu.length ic] 59))
 have H0 := hide (h.below b0)
 clear h
 go_enter Tryz.func90, Tryz.ntmps90
 go_wp2_with fail
 generalize w.alloc (.cells #[.slice na nm.length nc, .int .i64 1, .int .i64 tt, .int .i64 ad, .slice ta 0 tc, .slice xa 0 xc, .slice ia nu.length ic] 59) = W at *
 refine (l3named_any 1 _ rfl).mono ?_
 rw [named_1]
 rintro e w1 ⟨rfl, rfl⟩
 obtain ⟨d0, d1, d2, d3, d4, d5, d6⟩ := cells7 (unhide K0)
 go_wp2_with fail
 refine (l3texted_any 1 _ rfl).mono ?_
 rw [texted_1]
 rintro e w2 ⟨rfl, rfl⟩
 go_wp2_with fail
 go_ret
 exact ⟨rfl, b0⟩

set_option maxHeartbeats 400000 in
set_option maxRecDepth 100000 in
theorem l3_1_5 {na : Option Addr} {nc : Nat} {ta : Option Addr} {tc : Nat} {xa : Option Addr} {xc : Nat} {ia : Option Addr} {ic : Nat} {nm to : List (List Int)} {tx nu : List Int} {tt ad : Int} {w : World} (h : HasR w (.slice na nm.length nc) (.slice ta to.length tc) (.slice xa tx.length xc) (.slice ia nu.length ic) ⟨nm, 1, tt, ad, to, tx, nu⟩) (hA : 0 ≤ ad) (hA2 : ad ≤ 4294967295) (hB : to.length = 0) (hC : tx.length = 0) (hD : nu.length = 0) :
  Calls Tryz.prog 90 #[.agg #[.slice na nm.length nc, .int .i64 1, .int .i64 tt, .int .i64 ad, .slice ta to.length tc, .slice xa tx.length xc, .slice ia nu.length ic]] w fun e w' => e = .returned (.bool true) ∧ Below w.heap.size w w' := by
 obtain rfl := nil_of hB
 clear hB
 obtain rfl := nil_of hC
 clear hC
 obtain rfl := nil_of hD
 clear hD
 simp only [List.length_nil] at *
 have b0 := below_alloc (w := w) (.cells #[.slice na nm.length nc, .int .i64 1, .int .i64 tt, .int .i64 ad, .slice ta 0 tc, .slice xa 0 xc, .slice ia 0 ic] 59)
 have K0 := hide (heap_alloc_new w (.cells #[.slice na nm.length nc, .int .i64 1, .int .i64 tt, .int .i64 ad, .slice ta 0 tc, .slice xa 0 xc, .slice ia 0 ic] 59))
 have H0 := hide (h.below b0)
 clear h
 go_enter Tryz.func90, Tryz.ntmps90
 go_wp2_with fail
 generalize w.alloc (.cells #[.slice na nm.length nc, .int .i64 1, .int .i64 tt, .int .i64 ad, .slice ta 0 tc, .slice xa 0 xc, .slice ia 0 ic] 59) = W at *
 refine (l3named_any 1 _ rfl).mono ?_
 rw [named_1]
 rintro e w1 ⟨rfl, rfl⟩
 obtain ⟨d0, d1, d2, d3, d4, d5, d6⟩ := cells7 (unhide K0)
 go_wp2_with fail
 refine (l3texted_any 1 _ rfl).mono ?_
 rw [texted_1]
 rintro e w2 ⟨rfl, rfl⟩
 go_wp2_with fail
 go_ret
 exact ⟨rfl, b0⟩

set_option maxHeartbeats 400000 in
set_option maxRecDepth 100000 in
theorem l3_2_0 {na : Option Addr} {nc : Nat} {ta : Option Addr} {tc : Nat} {xa : Option Addr} {xc : Nat} {ia : Option Addr} {ic : Nat} {nm to : List (List Int)} {tx nu : List Int} {tt ad : Int} {w : World} (h : HasR w (.slice na nm.length nc) (.slice ta to.length tc) (.slice xa tx.length xc) (.slice ia nu.length ic) ⟨nm, 2, tt, ad, to, tx, nu⟩) (hA : ad ≠ 0) :
  Calls Tryz.prog 90 #[.agg #[.slice na nm.length nc, .int .i64 2, .int .i64 tt, .int .i64 ad, .slice ta to.length tc, .slice xa tx.length xc, .slice ia nu.length ic]] w fun e w' => e = .returned (.bool false) ∧ Below w.heap.size w w' := by
 have ehA : (ad != 0) = true := by rw [bne_iff_ne]; exact hA
 have fhA : (ad == 0) = false := by rw [beq_eq_false_iff_ne]; exact hA
 have ghA : decide (ad = 0) = false := decide_eq_false hA
 have b0 := below_alloc (w := w) (.cells #[.slice na nm.length nc, .int .i64 2, .int .i64 tt, .int .i64 ad, .slice ta to.length tc, .slice xa tx.length xc, .slice ia nu.length ic] 59)
 have K0 := hide (heap_alloc_new w (.cells #[.slice na nm.length nc, .int .i64 2, .int .i64 tt, .int .i64 ad, .slice ta to.length tc, .slice xa tx.length xc, .slice ia nu.length ic] 59))
 have H0 := hide (h.below b0)
 clear h
 go_enter Tryz.func90, Tryz.ntmps90
 go_wp2_with fail
 go_ret
 exact ⟨rfl, b0⟩

set_option maxHeartbeats 400000 in
set_option maxRecDepth 100000 in
theorem l3_2_1 {na : Option Addr} {nc : Nat} {ta : Option Addr} {tc : Nat} {xa : Option Addr} {xc : Nat} {ia : Option Addr} {ic : Nat} {nm to : List (List Int)} {tx nu : List Int} {tt ad : Int} {w : World} (h : HasR w (.slice na nm.length nc) (.slice ta to.length tc) (.slice xa tx.length xc) (.slice ia nu.length ic) ⟨nm, 2, tt, ad, to, tx, nu⟩) (hA : ad = 0) (hB : nameOk to = false) :
  Calls Tryz.prog 90 #[.agg #[.slice na nm.length nc, .int .i64 2, .int .i64 tt, .int .i64 ad, .slice ta to.length tc, .slice xa tx.length xc, .slice ia nu.length ic]] w fun e w' => e = .returned (.bool false) ∧ Below w.heap.size w w' := by
 obtain rfl := hA
 have b0 := below_alloc (w := w) (.cells #[.slice na nm.length nc, .int .i64 2, .int .i64 tt, .int .i64 0, .slice ta to.length tc, .slice xa tx.length xc, .slice ia nu.length ic] 59)
 have K0 := hide (heap_alloc_new w (.cells #[.slice na nm.length nc, .int .i64 2, .int .i64 tt, .int .i64 0, .slice ta to.length tc, .slice xa tx.length xc, .slice ia nu.length ic] 59))
 have H0 := hide (h.below b0)
 clear h
 have HB := hide hB
 clear hB
 go_enter Tryz.func90, Tryz.ntmps90
 go_wp2_with fail
 generalize w.alloc (.cells #[.slice na nm.length nc, .int .i64 2, .int .i64 tt, .int .i64 0, .slice ta to.length tc, .slice xa tx.length xc, .slice ia nu.length ic] 59) = W at *
 refine (l3named_any 2 _ rfl).mono ?_
 rw [named_2]
 rintro e w1 ⟨rfl, rfl⟩
 obtain ⟨d0, d1, d2, d3, d4, d5, d6⟩ := cells7 (unhide K0)
 go_wp2_with fail
 clear d0 d1 d2 d3 d4 d5 d6
 refine (specNameOk_has (show HasL W (.slice ta to.length tc) to from (unhide H0).to)).mono ?_
 rw [unhide HB]
 rintro e w1 ⟨rfl, b1⟩
 have bb1 := below_next b0 b1
 have K1 := hide (block_kept b1 (unhide K0))
 have H1 := hide ((unhide H0).below b1)
 clear b1 b0 K0 H0
 obtain ⟨d0, d1, d2, d3, d4, d5, d6⟩ := cells7 (unhide K1)
 go_wp2_with fail
 go_ret
 exact ⟨rfl, bb1⟩

set_option maxHeartbeats 400000 in
set_option maxRecDepth 100000 in
theorem l3_2_2 {na : Option Addr} {nc : Nat} {ta : Option Addr} {tc : Nat} {xa : Option Addr} {xc : Nat} {ia : Option Addr} {ic : Nat} {nm to : List (List Int)} {tx nu : List Int} {tt ad : Int} {w : World} (h : HasR w (.slice na nm.length nc) (.slice ta to.length tc) (.slice xa tx.length xc) (.slice ia nu.length ic) ⟨nm, 2, tt, ad, to, tx, nu⟩) (hA : ad = 0) (hB : nameOk to = true) (hC : tx.length ≠ 0) :
  Calls Tryz.prog 90 #[.agg #[.slice na nm.length nc, .int .i64 2, .int .i64 tt, .int .i64 ad, .slice ta to.length tc, .slice xa tx.length xc, .slice ia nu.length ic]] w fun e w' => e = .returned (.bool false) ∧ Below w.heap.size w w' := by
 obtain rfl := hA
 have ehC : (0 : Int) < tx.length := by omega
 have fhC : ((tx.length : Int) == 0) = false := by rw [beq_eq_false_iff_ne]; omega
 have b0 := below_alloc (w := w) (.cells #[.slice na nm.length nc, .int .i64 2, .int .i64 tt, .int .i64 0, .slice ta to.length tc, .slice xa tx.length xc, .slice ia nu.length ic] 59)
 have K0 := hide (heap_alloc_new w (.cells #[.slice na nm.length nc, .int .i64 2, .int .i64 tt, .int .i64 0, .slice ta to.length tc, .slice xa tx.length xc, .slice ia nu.length ic] 59))
 have H0 := hide (h.below b0)
 clear h
 have HB := hide hB
 clear hB
 go_enter Tryz.func90, Tryz.ntmps90
 go_wp2_with fail
 generalize w.alloc (.cells #[.slice na nm.length nc, .int .i64 2, .int .i64 tt, .int .i64 0, .slice ta to.length tc, .slice xa tx.length xc, .slice ia nu.length ic] 59) = W at *
 refine (l3named_any 2 _ rfl).mono ?_
 rw [named_2]
 rintro e w1 ⟨rfl, rfl⟩
 obtain ⟨d0, d1, d2, d3, d4, d5, d6⟩ := cells7 (unhide K0)
 go_wp2_with fail
 clear d0 d1 d2 d3 d4 d5 d6
 refine (specNameOk_has (show HasL W (.slice ta to.length tc) to from (unhide H0).to)).mono ?_
 rw [unhide HB]
 rintro e w1 ⟨rfl, b1⟩
 have bb1 := below_next b0 b1
 have K1 := hide (block_kept b1 (unhide K0))
 have H1 := hide ((unhide H0).below b1)
 clear b1 b0 K0 H0
 obtain ⟨d0, d1, d2, d3, d4, d5, d6⟩ := cells7 (unhide K1)
 go_wp2_with fail
 refine (l3texted_any 2 _ rfl).mono ?_
 rw [texted_2]
 rintro e w2 ⟨rfl, rfl⟩
 go_wp2_with fail
 go_ret
 exact ⟨rfl, bb1⟩

set_option maxHeartbeats 400000 in
set_option maxRecDepth 100000 in
theorem l3_2_3 {na : Option Addr} {nc : Nat} {ta : Option Addr} {tc : Nat} {xa : Option Addr} {xc : Nat} {ia : Option Addr} {ic : Nat} {nm to : List (List Int)} {tx nu : List Int} {tt ad : Int} {w : World} (h : HasR w (.slice na nm.length nc) (.slice ta to.length tc) (.slice xa tx.length xc) (.slice ia nu.length ic) ⟨nm, 2, tt, ad, to, tx, nu⟩) (hA : ad = 0) (hB : nameOk to = true) (hC : tx.length = 0) (hD : nu.length ≠ 0) :
  Calls Tryz.prog 90 #[.agg #[.slice na nm.length nc, .int .i64 2, .int .i64 tt, .int .i64 ad, .slice ta to.length tc, .slice xa tx.length xc, .slice ia nu.length ic]] w fun e w' => e = .returned (.bool false) ∧ Below w.heap.size w w' := by
 obtain rfl := hA
 obtain rfl := nil_of hC
 clear hC
 have ehD : ((nu.length : Int) == 0) = false := by rw [beq_eq_false_iff_ne]; omega
 simp only [List.length_nil] at *
 have b0 := below_alloc (w := w) (.cells #[.slice na nm.length nc, .int .i64 2, .int .i64 tt, .int .i64 0, .slice ta to.length tc, .slice xa 0 xc, .slice ia nu.length ic] 59)
 have K0 := hide (heap_alloc_new w (.cells #[.slice na nm.length nc, .int .i64 2, .int .i64 tt, .int .i64 0, .slice ta to.length tc, .slice xa 0 xc, .slice ia nu.length ic] 59))
 have H0 := hide (h.below b0)
 clear h
 have HB := hide hB
 clear hB
 go_enter Tryz.func90, Tryz.ntmps90
 go_wp2_with fail
 generalize w.alloc (.cells #[.slice na nm.length nc, .int .i64 2, .int .i64 tt, .int .i64 0, .slice ta to.length tc, .slice xa 0 xc, .slice ia nu.length ic] 59) = W at *
 refine (l3named_any 2 _ rfl).mono ?_
 rw [named_2]
 rintro e w1 ⟨rfl, rfl⟩
 obtain ⟨d0, d1, d2, d3, d4, d5, d6⟩ := cells7 (unhide K0)
 go_wp2_with fail
 clear d0 d1 d2 d3 d4 d5 d6
 refine (specNameOk_has (show HasL W (.slice ta to.length tc) to from (unhide H0).to)).mono ?_
 rw [unhide HB]
 rintro e w1 ⟨rfl, b1⟩
 have bb1 := below_next b0 b1
 have K1 := hide (block_kept b1 (unhide K0))
 have H1 := hide ((unhide H0).below b1)
 clear b1 b0 K0 H0
 obtain ⟨d0, d1, d2, d3, d4, d5, d6⟩ := cells7 (unhide K1)
 go_wp2_with fail
 refine (l3texted_any 2 _ rfl).mono ?_
 rw [texted_2]
 rintro e w2 ⟨rfl, rfl⟩
 go_wp2_with fail
 go_ret
 exact ⟨rfl, bb1⟩

set_option maxHeartbeats 400000 in
set_option maxRecDepth 100000 in
theorem l3_2_4 {na : Option Addr} {nc : Nat} {ta : Option Addr} {tc : Nat} {xa : Option Addr} {xc : Nat} {ia : Option Addr} {ic : Nat} {nm to : List (List Int)} {tx nu : List Int} {tt ad : Int} {w : World} (h : HasR w (.slice na nm.length nc) (.slice ta to.length tc) (.slice xa tx.length xc) (.slice ia nu.length ic) ⟨nm, 2, tt, ad, to, tx, nu⟩) (hA : ad = 0) (hB : nameOk to = true) (hC : tx.length = 0) (hD : nu.length = 0) :
  Calls Tryz.prog 90 #[.agg #[.slice na nm.length nc, .int .i64 2, .int .i64 tt, .int .i64 ad, .slice ta to.length tc, .slice xa tx.length xc, .slice ia nu.length ic]] w fun e w' => e = .returned (.bool true) ∧ Below w.heap.size w w' := by
 obtain rfl := hA
 obtain rfl := nil_of hC
 clear hC
 obtain rfl := nil_of hD
 clear hD
 simp only [List.length_nil] at *
 have b0 := below_alloc (w := w) (.cells #[.slice na nm.length nc, .int .i64 2, .int .i64 tt, .int .i64 0, .slice ta to.length tc, .slice xa 0 xc, .slice ia 0 ic] 59)
 have K0 := hide (heap_alloc_new w (.cells #[.slice na nm.length nc, .int .i64 2, .int .i64 tt, .int .i64 0, .slice ta to.length tc, .slice xa 0 xc, .slice ia 0 ic] 59))
 have H0 := hide (h.below b0)
 clear h
 have HB := hide hB
 clear hB
 go_enter Tryz.func90, Tryz.ntmps90
 go_wp2_with fail
 generalize w.alloc (.cells #[.slice na nm.length nc, .int .i64 2, .int .i64 tt, .int .i64 0, .slice ta to.length tc, .slice xa 0 xc, .slice ia 0 ic] 59) = W at *
 refine (l3named_any 2 _ rfl).mono ?_
 rw [named_2]
 rintro e w1 ⟨rfl, rfl⟩
 obtain ⟨d0, d1, d2, d3, d4, d5, d6⟩ := cells7 (unhide K0)
 go_wp2_with fail
 clear d0 d1 d2 d3 d4 d5 d6
 refine (specNameOk_has (show HasL W (.slice ta to.length tc) to from (unhide H0).to)).mono ?_
 rw [unhide HB]
 rintro e w1 ⟨rfl, b1⟩
 have bb1 := below_next b0 b1
 have K1 := hide (block_kept b1 (unhide K0))
 have H1 := hide ((unhide H0).below b1)
 clear b1 b0 K0 H0
 obtain ⟨d0, d1, d2, d3, d4, d5, d6⟩ := cells7 (unhide K1)
 go_wp2_with fail
 refine (l3texted_any 2 _ rfl).mono ?_
 rw [texted_2]
 rintro e w2 ⟨rfl, rfl⟩
 go_wp2_with fail
 go_ret
 exact ⟨rfl, bb1⟩

set_option maxHeartbeats 400000 in
set_option maxRecDepth 100000 in
theorem l3_5_0 {na : Option Addr} {nc : Nat} {ta : Option Addr} {tc : Nat} {xa : Option Addr} {xc : Nat} {ia : Option Addr} {ic : Nat} {nm to : List (List Int)} {tx nu : List Int} {tt ad : Int} {w : World} (h : HasR w (.slice na nm.length nc) (.slice ta to.length tc) (.slice xa tx.length xc) (.slice ia nu.length ic) ⟨nm, 5, tt, ad, to, tx, nu⟩) (hA : ad ≠ 0) :
  Calls Tryz.prog 90 #[.agg #[.slice na nm.length nc, .int .i64 5, .int .i64 tt, .int .i64 ad, .slice ta to.length tc, .slice xa tx.length xc, .slice ia nu.length ic]] w fun e w' => e = .returned (.bool false) ∧ Below w.heap.size w w' := by
 have ehA : (ad != 0) = true := by rw [bne_iff_ne]; exact hA
 have fhA : (ad == 0) = false := by rw [beq_eq_false_iff_ne]; exact hA
 have ghA : decide (ad = 0) = false := decide_eq_false hA
 have b0 := below_alloc (w := w) (.cells #[.slice na nm.length nc, .int .i64 5, .int .i64 tt, .int .i64 ad, .slice ta to.length tc, .slice xa tx.length xc, .slice ia nu.length ic] 59)
 have K0 := hide (heap_alloc_new w (.cells #[.slice na nm.length nc, .int .i64 5, .int .i64 tt, .int .i64 ad, .slice ta to.length tc, .slice xa tx.length xc, .slice ia nu.length ic] 59))
 have H0 := hide (h.below b0)
 clear h
 go_enter Tryz.func90, Tryz.ntmps90
 go_wp2_with fail
 go_ret
 exact ⟨rfl, b0⟩

set_option maxHeartbeats 400000 in
set_option maxRecDepth 100000 in
theorem l3_5_1 {na : Option Addr} {nc : Nat} {ta : Option Addr} {tc : Nat} {xa : Option Addr} {xc : Nat} {ia : Option Addr} {ic : Nat} {nm to : List (List Int)} {tx nu : List Int} {tt ad : Int} {w : World} (h : HasR w (.slice na nm.length nc) (.slice ta to.length tc) (.slice xa tx.length xc) (.slice ia nu.length ic) ⟨nm, 5, tt, ad, to, tx, nu⟩) (hA : ad = 0) (hB : nameOk to = false) :
  Calls Tryz.prog 90 #[.agg #[.slice na nm.length nc, .int .i64 5, .int .i64 tt, .int .i64 ad, .slice ta to.length tc, .slice xa tx.length xc, .slice ia nu.length ic]] w fun e w' => e = .returned (.bool false) ∧ Below w.heap.size w w' := by
 obtain rfl := hA
 have b0 := below_alloc (w := w) (.cells #[.slice na nm.length nc, .int .i64 5, .int .i64 tt, .int .i64 0, .slice ta to.length tc, .slice xa tx.length xc, .slice ia nu.length ic] 59)
 have K0 := hide (heap_alloc_new w (.cells #[.slice na nm.length nc, .int .i64 5, .int .i64 tt, .int .i64 0, .slice ta to.length tc, .slice xa tx.length xc, .slice ia nu.length ic] 59))
 have H0 := hide (h.below b0)
 clear h
 have HB := hide hB
 clear hB
 go_enter Tryz.func90, Tryz.ntmps90
 go_wp2_with fail
 generalize w.alloc (.cells #[.slice na nm.length nc, .int .i64 5, .int .i64 tt, .int .i64 0, .slice ta to.length tc, .slice xa tx.length xc, .slice ia nu.length ic] 59) = W at *
 refine (l3named_any 5 _ rfl).mono ?_
 rw [named_5]
 rintro e w1 ⟨rfl, rfl⟩
 obtain ⟨d0, d1, d2, d3, d4, d5, d6⟩ := cells7 (unhide K0)
 go_wp2_with fail
 clear d0 d1 d2 d3 d4 d5 d6
 refine (specNameOk_has (show HasL W (.slice ta to.length tc) to from (unhide H0).to)).mono ?_
 rw [unhide HB]
 rintro e w1 ⟨rfl, b1⟩
 have bb1 := below_next b0 b1
 have K1 := hide (block_kept b1 (unhide K0))
 have H1 := hide ((unhide H0).below b1)
 clear b1 b0 K0 H0
 obtain ⟨d0, d1, d2, d3, d4, d5, d6⟩ := cells7 (unhide K1)
 go_wp2_with fail
 go_ret
 exact ⟨rfl, bb1⟩

set_option maxHeartbeats 400000 in
set_option maxRecDepth 100000 in
theorem l3_5_2 {na : Option Addr} {nc : Nat} {ta : Option Addr} {tc : Nat} {xa : Option Addr} {xc : Nat} {ia : Option Addr} {ic : Nat} {nm to : List (List Int)} {tx nu : List Int} {tt ad : Int} {w : World} (h : HasR w (.slice na nm.length nc) (.slice ta to.length tc) (.slice xa tx.length xc) (.slice ia nu.length ic) ⟨nm, 5, tt, ad, to, tx, nu⟩) (hA : ad = 0) (hB : nameOk to = true) (hC : tx.length ≠ 0) :
  Calls Tryz.prog 90 #[.agg #[.slice na nm.length nc, .int .i64 5, .int .i64 tt, .int .i64 ad, .slice ta to.length tc, .slice xa tx.length xc, .slice ia nu.length ic]] w fun e w' => e = .returned (.bool false) ∧ Below w.heap.size w w' := by
 obtain rfl := hA
 have ehC : (0 : Int) < tx.length := by omega
 have fhC : ((tx.length : Int) == 0) = false := by rw [beq_eq_false_iff_ne]; omega
 have b0 := below_alloc (w := w) (.cells #[.slice na nm.length nc, .int .i64 5, .int .i64 tt, .int .i64 0, .slice ta to.length tc, .slice xa tx.length xc, .slice ia nu.length ic] 59)
 have K0 := hide (heap_alloc_new w (.cells #[.slice na nm.length nc, .int .i64 5, .int .i64 tt, .int .i64 0, .slice ta to.length tc, .slice xa tx.length xc, .slice ia nu.length ic] 59))
 have H0 := hide (h.below b0)
 clear h
 have HB := hide hB
 clear hB
 go_enter Tryz.func90, Tryz.ntmps90
 go_wp2_with fail
 generalize w.alloc (.cells #[.slice na nm.length nc, .int .i64 5, .int .i64 tt, .int .i64 0, .slice ta to.length tc, .slice xa tx.length xc, .slice ia nu.length ic] 59) = W at *
 refine (l3named_any 5 _ rfl).mono ?_
 rw [named_5]
 rintro e w1 ⟨rfl, rfl⟩
 obtain ⟨d0, d1, d2, d3, d4, d5, d6⟩ := cells7 (unhide K0)
 go_wp2_with fail
 clear d0 d1 d2 d3 d4 d5 d6
 refine (specNameOk_has (show HasL W (.slice ta to.length tc) to from (unhide H0).to)).mono ?_
 rw [unhide HB]
 rintro e w1 ⟨rfl, b1⟩
 have bb1 := below_next b0 b1
 have K1 := hide (block_kept b1 (unhide K0))
 have H1 := hide ((unhide H0).below b1)
 clear b1 b0 K0 H0
 obtain ⟨d0, d1, d2, d3, d4, d5, d6⟩ := cells7 (unhide K1)
 go_wp2_with fail
 refine (l3texted_any 5 _ rfl).mono ?_
 rw [texted_5]
 rintro e w2 ⟨rfl, rfl⟩
 go_wp2_with fail
 go_ret
 exact ⟨rfl, bb1⟩

set_option maxHeartbeats 400000 in
set_option maxRecDepth 100000 in
theorem l3_5_3 {na : Option Addr} {nc : Nat} {ta : Option Addr} {tc : Nat} {xa : Option Addr} {xc : Nat} {ia : Option Addr} {ic : Nat} {nm to : List (List Int)} {tx nu : List Int} {tt ad : Int} {w : World} (h : HasR w (.slice na nm.length nc) (.slice ta to.length tc) (.slice xa tx.length xc) (.slice ia nu.length ic) ⟨nm, 5, tt, ad, to, tx, nu⟩) (hA : ad = 0) (hB : nameOk to = true) (hC : tx.length = 0) (hD : nu.length ≠ 0) :
  Calls Tryz.prog 90 #[.agg #[.slice na nm.length nc, .int .i64 5, .int .i64 tt, .int .i64 ad, .slice ta to.length tc, .slice xa tx.length xc, .slice ia nu.length ic]] w fun e w' => e = .returned (.bool false) ∧ Below w.heap.size w w' := by
 obtain rfl := hA
 obtain rfl := nil_of hC
 clear hC
 have ehD : ((nu.length : Int) == 0) = false := by rw [beq_eq_false_iff_ne]; omega
 simp only [List.length_nil] at *
 have b0 := below_alloc (w := w) (.cells #[.slice na nm.length nc, .int .i64 5, .int .i64 tt, .int .i64 0, .slice ta to.length tc, .slice xa 0 xc, .slice ia nu.length ic] 59)
 have K0 := hide (heap_alloc_new w (.cells #[.slice na nm.length nc, .int .i64 5, .int .i64 tt, .int .i64 0, .slice ta to.length tc, .slice xa 0 xc, .slice ia nu.length ic] 59))
 have H0 := hide (h.below b0)
 clear h
 have HB := hide hB
 clear hB
 go_enter Tryz.func90, Tryz.ntmps90
 go_wp2_with fail
 generalize w.alloc (.cells #[.slice na nm.length nc, .int .i64 5, .int .i64 tt, .int .i64 0, .slice ta to.length tc, .slice xa 0 xc, .slice ia nu.length ic] 59) = W at *
 refine (l3named_any 5 _ rfl).mono ?_
 rw [named_5]
 rintro e w1 ⟨rfl, rfl⟩
 obtain ⟨d0, d1, d2, d3, d4, d5, d6⟩ := cells7 (unhide K0)
 go_wp2_with fail
 clear d0 d1 d2 d3 d4 d5 d6
 refine (specNameOk_has (show HasL W (.slice ta to.length tc) to from (unhide H0).to)).mono ?_
 rw [unhide HB]
 rintro e w1 ⟨rfl, b1⟩
 have bb1 := below_next b0 b1
 have K1 := hide (block_kept b1 (unhide K0))
 have H1 := hide ((unhide H0).below b1)
 clear b1 b0 K0 H0
 obtain ⟨d0, d1, d2, d3, d4, d5, d6⟩ := cells7 (unhide K1)
 go_wp2_with fail
 refine (l3texted_any 5 _ rfl).mono ?_
 rw [texted_5]
 rintro e w2 ⟨rfl, rfl⟩
 go_wp2_with fail
 go_ret
 exact ⟨rfl, bb1⟩

set_option maxHeartbeats 400000 in
set_option maxRecDepth 100000 in
theorem l3_5_4 {na : Option Addr} {nc : Nat} {ta : Option Addr} {tc : Nat} {xa : Option Addr} {xc : Nat} {ia : Option Addr} {ic : Nat} {nm to : List (List Int)} {tx nu : List Int} {tt ad : Int} {w : World} (h : HasR w (.slice na nm.length nc) (.slice ta to.length tc) (.slice xa tx.length xc) (.slice ia nu.length ic) ⟨nm, 5, tt, ad, to, tx, nu⟩) (hA : ad = 0) (hB : nameOk to = true) (hC : tx.length = 0) (hD : nu.length = 0) :
  Calls Tryz.prog 90 #[.agg #[.slice na nm.length nc, .int .i64 5, .int .i64 tt, .int .i64 ad, .slice ta to.length tc, .slice xa tx.length xc, .slice ia nu.length ic]] w fun e w' => e = .returned (.bool true) ∧ Below w.heap.size w w' := by
 obtain rfl := hA
 obtain rfl := nil_of hC
 clear hC
 obtain rfl := nil_of hD
 clear hD
 simp only [List.length_nil] at *
 have b0 := below_alloc (w := w) (.cells #[.slice na nm.length nc, .int .i64 5, .int .i64 tt, .int .i64 0, .slice ta to.length tc, .slice xa 0 xc, .slice ia 0 ic] 59)
 have K0 := hide (heap_alloc_new w (.cells #[.slice na nm.length nc, .int .i64 5, .int .i64 tt, .int .i64 0, .slice ta to.length tc, .slice xa 0 xc, .slice ia 0 ic] 59))
 have H0 := hide (h.below b0)
 clear h
 have HB := hide hB
 clear hB
 go_enter Tryz.func90, Tryz.ntmps90
 go_wp2_with fail
 generalize w.alloc (.cells #[.slice na nm.length nc, .int .i64 5, .int .i64 tt, .int .i64 0, .slice ta to.length tc, .slice xa 0 xc, .slice ia 0 ic] 59) = W at *
 refine (l3named_any 5 _ rfl).mono ?_
 rw [named_5]
 rintro e w1 ⟨rfl, rfl⟩
 obtain ⟨d0, d1, d2, d3, d4, d5, d6⟩ := cells7 (unhide K0)
 go_wp2_with fail
 clear d0 d1 d2 d3 d4 d5 d6
 refine (specNameOk_has (show HasL W (.slice ta to.length tc) to from (unhide H0).to)).mono ?_
 rw [unhide HB]
 rintro e w1 ⟨rfl, b1⟩
 have bb1 := below_next b0 b1
 have K1 := hide (block_kept b1 (unhide K0))
 have H1 := hide ((unhide H0).below b1)
 clear b1 b0 K0 H0
 obtain ⟨d0, d1, d2, d3, d4, d5, d6⟩ := cells7 (unhide K1)
 go_wp2_with fail
 refine (l3texted_any 5 _ rfl).mono ?_
 rw [texted_5]
 rintro e w2 ⟨rfl, rfl⟩
 go_wp2_with fail
 go_ret
 exact ⟨rfl, bb1⟩

set_option maxHeartbeats 400000 in
set_option maxRecDepth 100000 in
theorem l3_6_0 {na : Option Addr} {nc : Nat} {ta : Option Addr} {tc : Nat} {xa : Option Addr} {xc : Nat} {ia : Option Addr} {ic : Nat} {nm to : List (List Int)} {tx nu : List Int} {tt ad : Int} {w : World} (h : HasR w (.slice na nm.length nc) (.slice ta to.length tc) (.slice xa tx.length xc) (.slice ia nu.length ic) ⟨nm, 6, tt, ad, to, tx, nu⟩) (hA : ad ≠ 0) :
  Calls Tryz.prog 90 #[.agg #[.slice na nm.length nc, .int .i64 6, .int .i64 tt, .int .i64 ad, .slice ta to.length tc, .slice xa tx.length xc, .slice ia nu.length ic]] w fun e w' => e = .returned (.bool false) ∧ Below w.heap.size w w' := by
 have ehA : (ad != 0) = true := by rw [bne_iff_ne]; exact hA
 have fhA : (ad == 0) = false := by rw [beq_eq_false_iff_ne]; exact hA
 have ghA : decide (ad = 0) = false := decide_eq_false hA
 have b0 := below_alloc (w := w) (.cells #[.slice na nm.length nc, .int .i64 6, .int .i64 tt, .int .i64 ad, .slice ta to.length tc, .slice xa tx.length xc, .slice ia nu.length ic] 59)
 have K0 := hide (heap_alloc_new w (.cells #[.slice na nm.length nc, .int .i64 6, .int .i64 tt, .int .i64 ad, .slice ta to.length tc, .slice xa tx.length xc, .slice ia nu.length ic] 59))
 have H0 := hide (h.below b0)
 clear h
 go_enter Tryz.func90, Tryz.ntmps90
 go_wp2_with fail
 go_ret
 exact ⟨rfl, b0⟩

set_option maxHeartbeats 400000 in
set_option maxRecDepth 100000 in
theorem l3_6_1 {na : Option Addr} {nc : Nat} {ta : Option Addr} {tc : Nat} {xa : Option Addr} {xc : Nat} {ia : Option Addr} {ic : Nat} {nm to : List (List Int)} {tx nu : List Int} {tt ad : Int} {w : World} (h : HasR w (.slice na nm.length nc) (.slice ta to.length tc) (.slice xa tx.length xc) (.slice ia nu.length ic) ⟨nm, 6, tt, ad, to, tx, nu⟩) (hA : ad = 0) (hB : nameOk to = false) :
  Calls Tryz.prog 90 #[.agg #[.slice na nm.length nc, .int .i64 6, .int .i64 tt, .int .i64 ad, .slice ta to.length tc, .slice xa tx.length xc, .slice ia nu.length ic]] w fun e w' => e = .returned (.bool false) ∧ Below w.heap.size w w' := by
 obtain rfl := hA
 have b0 := below_alloc (w := w) (.cells #[.slice na nm.length nc, .int .i64 6, .int .i64 tt, .int .i64 0, .slice ta to.length tc, .slice xa tx.length xc, .slice ia nu.length ic] 59)
 have K0 := hide (heap_alloc_new w (.cells #[.slice na nm.length nc, .int .i64 6, .int .i64 tt, .int .i64 0, .slice ta to.length tc, .slice xa tx.length xc, .slice ia nu.length ic] 59))
 have H0 := hide (h.below b0)
 clear h
 have HB := hide hB
 clear hB
 go_enter Tryz.func90, Tryz.ntmps90
 go_wp2_with fail
 generalize w.alloc (.cells #[.slice na nm.length nc, .int .i64 6, .int .i64 tt, .int .i64 0, .slice ta to.length tc, .slice xa tx.length xc, .slice ia nu.length ic] 59) = W at *
 refine (l3named_any 6 _ rfl).mono ?_
 rw [named_6]
 rintro e w1 ⟨rfl, rfl⟩
 obtain ⟨d0, d1, d2, d3, d4, d5, d6⟩ := cells7 (unhide K0)
 go_wp2_with fail
 clear d0 d1 d2 d3 d4 d5 d6
 refine (specNameOk_has (show HasL W (.slice ta to.length tc) to from (unhide H0).to)).mono ?_
 rw [unhide HB]
 rintro e w1 ⟨rfl, b1⟩
 have bb1 := below_next b0 b1
 have K1 := hide (block_kept b1 (unhide K0))
 have H1 := hide ((unhide H0).below b1)
 clear b1 b0 K0 H0
 obtain ⟨d0, d1, d2, d3, d4, d5, d6⟩ := cells7 (unhide K1)
 go_wp2_with fail
 go_ret
 exact ⟨rfl, bb1⟩

set_option maxHeartbeats 400000 in
set_option maxRecDepth 100000 in
theorem l3_6_2 {na : Option Addr} {nc : Nat} {ta : Option Addr} {tc : Nat} {xa : Option Addr} {xc : Nat} {ia : Option Addr} {ic : Nat} {nm to : List (List Int)} {tx nu : List Int} {tt ad : Int} {w : World} (h : HasR w (.slice na nm.length nc) (.slice ta to.length tc) (.slice xa tx.length xc) (.slice ia nu.length ic) ⟨nm, 6, tt, ad, to, tx, nu⟩) (hA : ad = 0) (hB : nameOk to = true) (hC : tx.length ≠ 0) :
  Calls Tryz.prog 90 #[.agg #[.slice na nm.length nc, .int .i64 6, .int .i64 tt, .int .i64 ad, .slice ta to.length tc, .slice xa tx.length xc, .slice ia nu.length ic]] w fun e w' => e = .returned (.bool false) ∧ Below w.heap.size w w' := by
 obtain rfl := hA
 have ehC : (0 : Int) < tx.length := by omega
 have fhC : ((tx.length : Int) == 0) = false := by rw [beq_eq_false_iff_ne]; omega
 have b0 := below_alloc (w := w) (.cells #[.slice na nm.length nc, .int .i64 6, .int .i64 tt, .int .i64 0, .slice ta to.length tc, .slice xa tx.length xc, .slice ia nu.length ic] 59)
 have K0 := hide (heap_alloc_new w (.cells #[.slice na nm.length nc, .int .i64 6, .int .i64 tt, .int .i64 0, .slice ta to.length tc, .slice xa tx.length xc, .slice ia nu.length ic] 59))
 have H0 := hide (h.below b0)
 clear h
 have HB := hide hB
 clear hB
 go_enter Tryz.func90, Tryz.ntmps90
 go_wp2_with fail
 generalize w.alloc (.cells #[.slice na nm.length nc, .int .i64 6, .int .i64 tt, .int .i64 0, .slice ta to.length tc, .slice xa tx.length xc, .slice ia nu.length ic] 59) = W at *
 refine (l3named_any 6 _ rfl).mono ?_
 rw [named_6]
 rintro e w1 ⟨rfl, rfl⟩
 obtain ⟨d0, d1, d2, d3, d4, d5, d6⟩ := cells7 (unhide K0)
 go_wp2_with fail
 clear d0 d1 d2 d3 d4 d5 d6
 refine (specNameOk_has (show HasL W (.slice ta to.length tc) to from (unhide H0).to)).mono ?_
 rw [unhide HB]
 rintro e w1 ⟨rfl, b1⟩
 have bb1 := below_next b0 b1
 have K1 := hide (block_kept b1 (unhide K0))
 have H1 := hide ((unhide H0).below b1)
 clear b1 b0 K0 H0
 obtain ⟨d0, d1, d2, d3, d4, d5, d6⟩ := cells7 (unhide K1)
 go_wp2_with fail
 refine (l3texted_any 6 _ rfl).mono ?_
 rw [texted_6]
 rintro e w2 ⟨rfl, rfl⟩
 go_wp2_with fail
 go_ret
 exact ⟨rfl, bb1⟩

set_option maxHeartbeats 400000 in
set_option maxRecDepth 100000 in
theorem l3_6_3 {na : Option Addr} {nc : Nat} {ta : Option Addr} {tc : Nat} {xa : Option Addr} {xc : Nat} {ia : Option Addr} {ic : Nat} {nm to : List (List Int)} {tx nu : List Int} {tt ad : Int} {w : World} (h : HasR w (.slice na nm.length nc) (.slice ta to.length tc) (.slice xa tx.length xc) (.slice ia nu.length ic) ⟨nm, 6, tt, ad, to, tx, nu⟩) (hA : ad = 0) (hB : nameOk to = true) (hC : tx.length = 0) (hD : nu.length ≠ 2) :
  Calls Tryz.prog 90 #[.agg #[.slice na nm.length nc, .int .i64 6, .int .i64 tt, .int .i64 ad, .slice ta to.length tc, .slice xa tx.length xc, .slice ia nu.length ic]] w fun e w' => e = .returned (.bool false) ∧ Below w.heap.size w w' := by
 obtain rfl := hA
 obtain rfl := nil_of hC
 clear hC
 have ehD : ((nu.length : Int) != 2) = true := by rw [bne_iff_ne]; omega
 have fhD : ((nu.length : Int) == 2) = false := by rw [beq_eq_false_iff_ne]; omega
 simp only [List.length_nil] at *
 have b0 := below_alloc (w := w) (.cells #[.slice na nm.length nc, .int .i64 6, .int .i64 tt, .int .i64 0, .slice ta to.length tc, .slice xa 0 xc, .slice ia nu.length ic] 59)
 have K0 := hide (heap_alloc_new w (.cells #[.slice na nm.length nc, .int .i64 6, .int .i64 tt, .int .i64 0, .slice ta to.length tc, .slice xa 0 xc, .slice ia nu.length ic] 59))
 have H0 := hide (h.below b0)
 clear h
 have HB := hide hB
 clear hB
 go_enter Tryz.func90, Tryz.ntmps90
 go_wp2_with fail
 generalize w.alloc (.cells #[.slice na nm.length nc, .int .i64 6, .int .i64 tt, .int .i64 0, .slice ta to.length tc, .slice xa 0 xc, .slice ia nu.length ic] 59) = W at *
 refine (l3named_any 6 _ rfl).mono ?_
 rw [named_6]
 rintro e w1 ⟨rfl, rfl⟩
 obtain ⟨d0, d1, d2, d3, d4, d5, d6⟩ := cells7 (unhide K0)
 go_wp2_with fail
 clear d0 d1 d2 d3 d4 d5 d6
 refine (specNameOk_has (show HasL W (.slice ta to.length tc) to from (unhide H0).to)).mono ?_
 rw [unhide HB]
 rintro e w1 ⟨rfl, b1⟩
 have bb1 := below_next b0 b1
 have K1 := hide (block_kept b1 (unhide K0))
 have H1 := hide ((unhide H0).below b1)
 clear b1 b0 K0 H0
 obtain ⟨d0, d1, d2, d3, d4, d5, d6⟩ := cells7 (unhide K1)
 go_wp2_with fail
 refine (l3texted_any 6 _ rfl).mono ?_
 rw [texted_6]
 rintro e w2 ⟨rfl, rfl⟩
 go_wp2_with fail
 go_ret
 exact ⟨rfl, bb1⟩

set_option maxHeartbeats 400000 in
set_option maxRecDepth 100000 in
theorem l3_6_4 {na : Option Addr} {nc : Nat} {ta : Option Addr} {tc : Nat} {xa : Option Addr} {xc : Nat} {ia : Option Addr} {ic : Nat} {nm to : List (List Int)} {tx nu : List Int} {tt ad : Int} {w : World} (h : HasR w (.slice na nm.length nc) (.slice ta to.length tc) (.slice xa tx.length xc) (.slice ia nu.length ic) ⟨nm, 6, tt, ad, to, tx, nu⟩) (hA : ad = 0) (hB : nameOk to = true) (hC : tx.length = 0) (hD : nu.length = 2) (hE : nu.getD 0 0 < 0) :
  Calls Tryz.prog 90 #[.agg #[.slice na nm.length nc, .int .i64 6, .int .i64 tt, .int .i64 ad, .slice ta to.length tc, .slice xa tx.length xc, .slice ia nu.length ic]] w fun e w' => e = .returned (.bool false) ∧ Below w.heap.size w w' := by
 obtain rfl := hA
 obtain rfl := nil_of hC
 clear hC
 obtain ⟨x, y, rfl⟩ := two_of hD
 clear hD
 replace hE : x < 0 := hE
 simp only [List.length_nil] at *
 simp only [List.length_cons, List.length_nil, Nat.zero_add, Nat.reduceAdd] at *
 have b0 := below_alloc (w := w) (.cells #[.slice na nm.length nc, .int .i64 6, .int .i64 tt, .int .i64 0, .slice ta to.length tc, .slice xa 0 xc, .slice ia 2 ic] 59)
 have K0 := hide (heap_alloc_new w (.cells #[.slice na nm.length nc, .int .i64 6, .int .i64 tt, .int .i64 0, .slice ta to.length tc, .slice xa 0 xc, .slice ia 2 ic] 59))
 have H0 := hide (h.below b0)
 clear h
 have HB := hide hB
 clear hB
 go_enter Tryz.func90, Tryz.ntmps90
 go_wp2_with fail
 generalize w.alloc (.cells #[.slice na nm.length nc, .int .i64 6, .int .i64 tt, .int .i64 0, .slice ta to.length tc, .slice xa 0 xc, .slice ia 2 ic] 59) = W at *
 refine (l3named_any 6 _ rfl).mono ?_
 rw [named_6]
 rintro e w1 ⟨rfl, rfl⟩
 obtain ⟨d0, d1, d2, d3, d4, d5, d6⟩ := cells7 (unhide K0)
 go_wp2_with fail
 clear d0 d1 d2 d3 d4 d5 d6
 refine (specNameOk_has (show HasL W (.slice ta to.length tc) to from (unhide H0).to)).mono ?_
 rw [unhide HB]
 rintro e w1 ⟨rfl, b1⟩
 have bb1 := below_next b0 b1
 have K1 := hide (block_kept b1 (unhide K0))
 have H1 := hide ((unhide H0).below b1)
 clear b1 b0 K0 H0
 obtain ⟨d0, d1, d2, d3, d4, d5, d6⟩ := cells7 (unhide K1)
 go_wp2_with fail
 obtain ⟨g, off, cp, hv, _, n0, n1⟩ := (show HasI _ (.slice ia 2 ic) [x, y] from (unhide H1).nums).two
 simp only [Value.slice.injEq] at hv
 obtain ⟨rfl, _, rfl⟩ := hv
 refine (l3texted_any 6 _ rfl).mono ?_
 rw [texted_6]
 rintro e w2 ⟨rfl, rfl⟩
 go_wp2_with fail
 go_ret
 exact ⟨rfl, bb1⟩

set_option maxHeartbeats 400000 in
set_option maxRecDepth 100000 in
theorem l3_6_5 {na : Option Addr} {nc : Nat} {ta : Option Addr} {tc : Nat} {xa : Option Addr} {xc : Nat} {ia : Option Addr} {ic : Nat} {nm to : List (List Int)} {tx nu : List Int} {tt ad : Int} {w : World} (h : HasR w (.slice na nm.length nc) (.slice ta to.length tc) (.slice xa tx.length xc) (.slice ia nu.length ic) ⟨nm, 6, tt, ad, to, tx, nu⟩) (hA : ad = 0) (hB : nameOk to = true) (hC : tx.length = 0) (hD : nu.length = 2) (hE : 0 ≤ nu.getD 0 0) (hF : 4294967295 < nu.getD 0 0) :
  Calls Tryz.prog 90 #[.agg #[.slice na nm.length nc, .int .i64 6, .int .i64 tt, .int .i64 ad, .slice ta to.length tc, .slice xa tx.length xc, .slice ia nu.length ic]] w fun e w' => e = .returned (.bool false) ∧ Below w.heap.size w w' := by
 obtain rfl := hA
 obtain rfl := nil_of hC
 clear hC
 obtain ⟨x, y, rfl⟩ := two_of hD
 clear hD
 replace hE : 0 ≤ x := hE
 replace hF : 4294967295 < x := hF
 simp only [List.length_nil] at *
 simp only [List.length_cons, List.length_nil, Nat.zero_add, Nat.reduceAdd] at *
 have b0 := below_alloc (w := w) (.cells #[.slice na nm.length nc, .int .i64 6, .int .i64 tt, .int .i64 0, .slice ta to.length tc, .slice xa 0 xc, .slice ia 2 ic] 59)
 have K0 := hide (heap_alloc_new w (.cells #[.slice na nm.length nc, .int .i64 6, .int .i64 tt, .int .i64 0, .slice ta to.length tc, .slice xa 0 xc, .slice ia 2 ic] 59))
 have H0 := hide (h.below b0)
 clear h
 have HB := hide hB
 clear hB
 go_enter Tryz.func90, Tryz.ntmps90
 go_wp2_with fail
 generalize w.alloc (.cells #[.slice na nm.length nc, .int .i64 6, .int .i64 tt, .int .i64 0, .slice ta to.length tc, .slice xa 0 xc, .slice ia 2 ic] 59) = W at *
 refine (l3named_any 6 _ rfl).mono ?_
 rw [named_6]
 rintro e w1 ⟨rfl, rfl⟩
 obtain ⟨d0, d1, d2, d3, d4, d5, d6⟩ := cells7 (unhide K0)
 go_wp2_with fail
 clear d0 d1 d2 d3 d4 d5 d6
 refine (specNameOk_has (show HasL W (.slice ta to.length tc) to from (unhide H0).to)).mono ?_
 rw [unhide HB]
 rintro e w1 ⟨rfl, b1⟩
 have bb1 := below_next b0 b1
 have K1 := hide (block_kept b1 (unhide K0))
 have H1 := hide ((unhide H0).below b1)
 clear b1 b0 K0 H0
 obtain ⟨d0, d1, d2, d3, d4, d5, d6⟩ := cells7 (unhide K1)
 go_wp2_with fail
 obtain ⟨g, off, cp, hv, _, n0, n1⟩ := (show HasI _ (.slice ia 2 ic) [x, y] from (unhide H1).nums).two
 simp only [Value.slice.injEq] at hv
 obtain ⟨rfl, _, rfl⟩ := hv
 refine (l3texted_any 6 _ rfl).mono ?_
 rw [texted_6]
 rintro e w2 ⟨rfl, rfl⟩
 go_wp2_with fail
 go_ret
 exact ⟨rfl, bb1⟩

set_option maxHeartbeats 400000 in
set_option maxRecDepth 100000 in
theorem l3_6_6 {na : Option Addr} {nc : Nat} {ta : Option Addr} {tc : Nat} {xa : Option Addr} {xc : Nat} {ia : Option Addr} {ic : Nat} {nm to : List (List Int)} {tx nu : List Int} {tt ad : Int} {w : World} (h : HasR w (.slice na nm.length nc) (.slice ta to.length tc) (.slice xa tx.length xc) (.slice ia nu.length ic) ⟨nm, 6, tt, ad, to, tx, nu⟩) (hA : ad = 0) (hB : nameOk to = true) (hC : tx.length = 0) (hD : nu.length = 2) (hE : 0 ≤ nu.getD 0 0) (hF : nu.getD 0 0 ≤ 4294967295) (hG : nu.getD 1 0 < 0) :
  Calls Tryz.prog 90 #[.agg #[.slice na nm.length nc, .int .i64 6, .int .i64 tt, .int .i64 ad, .slice ta to.length tc, .slice xa tx.length xc, .slice ia nu.length ic]] w fun e w' => e = .returned (.bool false) ∧ Below w.heap.size w w' := by
 obtain rfl := hA
 obtain rfl := nil_of hC
 clear hC
 obtain ⟨x, y, rfl⟩ := two_of hD
 clear hD
 replace hE : 0 ≤ x := hE
 replace hF : x ≤ 4294967295 := hF
 replace hG : y < 0 := hG
 have dhG : decide (0 ≤ y) = false := decide_eq_false (by omega)
 simp only [List.length_nil] at *
 simp only [List.length_cons, List.length_nil, Nat.zero_add, Nat.reduceAdd] at *
 have b0 := below_alloc (w := w) (.cells #[.slice na nm.length nc, .int .i64 6, .int .i64 tt, .int .i64 0, .slice ta to.length tc, .slice xa 0 xc, .slice ia 2 ic] 59)
 have K0 := hide (heap_alloc_new w (.cells #[.slice na nm.length nc, .int .i64 6, .int .i64 tt, .int .i64 0, .slice ta to.length tc, .slice xa 0 xc, .slice ia 2 ic] 59))
 have H0 := hide (h.below b0)
 clear h
 have HB := hide hB
 clear hB
 go_enter Tryz.func90, Tryz.ntmps90
 go_wp2_with fail
 generalize w.alloc (.cells #[.slice na nm.length nc, .int .i64 6, .int .i64 tt, .int .i64 0, .slice ta to.length tc, .slice xa 0 xc, .slice ia 2 ic] 59) = W at *
 refine (l3named_any 6 _ rfl).mono ?_
 rw [named_6]
 rintro e w1 ⟨rfl, rfl⟩
 obtain ⟨d0, d1, d2, d3, d4, d5, d6⟩ := cells7 (unhide K0)
 go_wp2_with fail
 clear d0 d1 d2 d3 d4 d5 d6
 refine (specNameOk_has (show HasL W (.slice ta to.length tc) to from (unhide H0).to)).mono ?_
 rw [unhide HB]
 rintro e w1 ⟨rfl, b1⟩
 have bb1 := below_next b0 b1
 have K1 := hide (block_kept b1 (unhide K0))
 have H1 := hide ((unhide H0).below b1)
 clear b1 b0 K0 H0
 obtain ⟨d0, d1, d2, d3, d4, d5, d6⟩ := cells7 (unhide K1)
 go_wp2_with fail
 obtain ⟨g, off, cp, hv, _, n0, n1⟩ := (show HasI _ (.slice ia 2 ic) [x, y] from (unhide H1).nums).two
 simp only [Value.slice.injEq] at hv
 obtain ⟨rfl, _, rfl⟩ := hv
 refine (l3texted_any 6 _ rfl).mono ?_
 rw [texted_6]
 rintro e w2 ⟨rfl, rfl⟩
 go_wp2_with fail
 go_ret
 exact ⟨rfl, bb1⟩

set_option maxHeartbeats 400000 in
set_option maxRecDepth 100000 in
theorem l3_6_7 {na : Option Addr} {nc : Nat} {ta : Option Addr} {tc : Nat} {xa : Option Addr} {xc : Nat} {ia : Option Addr} {ic : Nat} {nm to : List (List Int)} {tx nu : List Int} {tt ad : Int} {w : World} (h : HasR w (.slice na nm.length nc) (.slice ta to.length tc) (.slice xa tx.length xc) (.slice ia nu.length ic) ⟨nm, 6, tt, ad, to, tx, nu⟩) (hA : ad = 0) (hB : nameOk to = true) (hC : tx.length = 0) (hD : nu.length = 2) (hE : 0 ≤ nu.getD 0 0) (hF : nu.getD 0 0 ≤ 4294967295) (hG : 0 ≤ nu.getD 1 0) (hH : 100000 < nu.getD 1 0) :
  Calls Tryz.prog 90 #[.agg #[.slice na nm.length nc, .int .i64 6, .int .i64 tt, .int .i64 ad, .slice ta to.length tc, .slice xa tx.length xc, .slice ia nu.length ic]] w fun e w' => e = .returned (.bool false) ∧ Below w.heap.size w w' := by
 obtain rfl := hA
 obtain rfl := nil_of hC
 clear hC
 obtain ⟨x, y, rfl⟩ := two_of hD
 clear hD
 replace hE : 0 ≤ x := hE
 replace hF : x ≤ 4294967295 := hF
 replace hG : 0 ≤ y := hG
 replace hH : 100000 < y := hH
 have dhH : decide (y ≤ 100000) = false := decide_eq_false (by omega)
 simp only [List.length_nil] at *
 simp only [List.length_cons, List.length_nil, Nat.zero_add, Nat.reduceAdd] at *
 have b0 := below_alloc (w := w) (.cells #[.slice na nm.length nc, .int .i64 6, .int .i64 tt, .int .i64 0, .slice ta to.length tc, .slice xa 0 xc, .slice ia 2 ic] 59)
 have K0 := hide (heap_alloc_new w (.cells #[.slice na nm.length nc, .int .i64 6, .int .i64 tt, .int .i64 0, .slice ta to.length tc, .slice xa 0 xc, .slice ia 2 ic] 59))
 have H0 := hide (h.below b0)
 clear h
 have HB := hide hB
 clear hB
 go_enter Tryz.func90, Tryz.ntmps90
 go_wp2_with fail
 generalize w.alloc (.cells #[.slice na nm.length nc, .int .i64 6, .int .i64 tt, .int .i64 0, .slice ta to.length tc, .slice xa 0 xc, .slice ia 2 ic] 59) = W at *
 refine (l3named_any 6 _ rfl).mono ?_
 rw [named_6]
 rintro e w1 ⟨rfl, rfl⟩
 obtain ⟨d0, d1, d2, d3, d4, d5, d6⟩ := cells7 (unhide K0)
 go_wp2_with fail
 clear d0 d1 d2 d3 d4 d5 d6
 refine (specNameOk_has (show HasL W (.slice ta to.length tc) to from (unhide H0).to)).mono ?_
 rw [unhide HB]
 rintro e w1 ⟨rfl, b1⟩
 have bb1 := below_next b0 b1
 have K1 := hide (block_kept b1 (unhide K0))
 have H1 := hide ((unhide H0).below b1)
 clear b1 b0 K0 H0
 obtain ⟨d0, d1, d2, d3, d4, d5, d6⟩ := cells7 (unhide K1)
 go_wp2_with fail
 obtain ⟨g, off, cp, hv, _, n0, n1⟩ := (show HasI _ (.slice ia 2 ic) [x, y] from (unhide H1).nums).two
 simp only [Value.slice.injEq] at hv
 obtain ⟨rfl, _, rfl⟩ := hv
 refine (l3texted_any 6 _ rfl).mono ?_
 rw [texted_6]
 rintro e w2 ⟨rfl, rfl⟩
 go_wp2_with fail
 go_ret
 exact ⟨rfl, bb1⟩

set_option maxHeartbeats 400000 in
set_option maxRecDepth 100000 in
theorem l3_6_8 {na : Option Addr} {nc : Nat} {ta : Option Addr} {tc : Nat} {xa : Option Addr} {xc : Nat} {ia : Option Addr} {ic : Nat} {nm to : List (List Int)} {tx nu : List Int} {tt ad : Int} {w : World} (h : HasR w (.slice na nm.length nc) (.slice ta to.length tc) (.slice xa tx.length xc) (.slice ia nu.length ic) ⟨nm, 6, tt, ad, to, tx, nu⟩) (hA : ad = 0) (hB : nameOk to = true) (hC : tx.length = 0) (hD : nu.length = 2) (hE : 0 ≤ nu.getD 0 0) (hF : nu.getD 0 0 ≤ 4294967295) (hG : 0 ≤ nu.getD 1 0) (hH : nu.getD 1 0 ≤ 100000) :
  Calls Tryz.prog 90 #[.agg #[.slice na nm.length nc, .int .i64 6, .int .i64 tt, .int .i64 ad, .slice ta to.length tc, .slice xa tx.length xc, .slice ia nu.length ic]] w fun e w' => e = .returned (.bool true) ∧ Below w.heap.size w w' := by
 obtain rfl := hA
 obtain rfl := nil_of hC
 clear hC
 obtain ⟨x, y, rfl⟩ := two_of hD
 clear hD
 replace hE : 0 ≤ x := hE
 replace hF : x ≤ 4294967295 := hF
 replace hG : 0 ≤ y := hG
 replace hH : y ≤ 100000 := hH
 have dhH : decide (y ≤ 100000) = true := decide_eq_true (by omega)
 simp only [List.length_nil] at *
 simp only [List.length_cons, List.length_nil, Nat.zero_add, Nat.reduceAdd] at *
 have b0 := below_alloc (w := w) (.cells #[.slice na nm.length nc, .int .i64 6, .int .i64 tt, .int .i64 0, .slice ta to.length tc, .slice xa 0 xc, .slice ia 2 ic] 59)
 have K0 := hide (heap_alloc_new w (.cells #[.slice na nm.length nc, .int .i64 6, .int .i64 tt, .int .i64 0, .slice ta to.length tc, .slice xa 0 xc, .slice ia 2 ic] 59))
 have H0 := hide (h.below b0)
 clear h
 have HB := hide hB
 clear hB
 go_enter Tryz.func90, Tryz.ntmps90
 go_wp2_with fail
 generalize w.alloc (.cells #[.slice na nm.length nc, .int .i64 6, .int .i64 tt, .int .i64 0, .slice ta to.length tc, .slice xa 0 xc, .slice ia 2 ic] 59) = W at *
 refine (l3named_any 6 _ rfl).mono ?_
 rw [named_6]
 rintro e w1 ⟨rfl, rfl⟩
 obtain ⟨d0, d1, d2, d3, d4, d5, d6⟩ := cells7 (unhide K0)
 go_wp2_with fail
 clear d0 d1 d2 d3 d4 d5 d6
 refine (specNameOk_has (show HasL W (.slice ta to.length tc) to from (unhide H0).to)).mono ?_
 rw [unhide HB]
 rintro e w1 ⟨rfl, b1⟩
 have bb1 := below_next b0 b1
 have K1 := hide (block_kept b1 (unhide K0))
 have H1 := hide ((unhide H0).below b1)
 clear b1 b0 K0 H0
 obtain ⟨d0, d1, d2, d3, d4, d5, d6⟩ := cells7 (unhide K1)
 go_wp2_with fail
 obtain ⟨g, off, cp, hv, _, n0, n1⟩ := (show HasI _ (.slice ia 2 ic) [x, y] from (unhide H1).nums).two
 simp only [Value.slice.injEq] at hv
 obtain ⟨rfl, _, rfl⟩ := hv
 refine (l3texted_any 6 _ rfl).mono ?_
 rw [texted_6]
 rintro e w2 ⟨rfl, rfl⟩
 go_wp2_with fail
 go_ret
 exact ⟨rfl, bb1⟩

set_option maxHeartbeats 400000 in
set_option maxRecDepth 100000 in
theorem l3_12_0 {na : Option Addr} {nc : Nat} {ta : Option Addr} {tc : Nat} {xa : Option Addr} {xc : Nat} {ia : Option Addr} {ic : Nat} {nm to : List (List Int)} {tx nu : List Int} {tt ad : Int} {w : World} (h : HasR w (.slice na nm.length nc) (.slice ta to.length tc) (.slice xa tx.length xc) (.slice ia nu.length ic) ⟨nm, 12, tt, ad, to, tx, nu⟩) (hA : ad ≠ 0) :
  Calls Tryz.prog 90 #[.agg #[.slice na nm.length nc, .int .i64 12, .int .i64 tt, .int .i64 ad, .slice ta to.length tc, .slice xa tx.length xc, .slice ia nu.length ic]] w fun e w' => e = .returned (.bool false) ∧ Below w.heap.size w w' := by
 have ehA : (ad != 0) = true := by rw [bne_iff_ne]; exact hA
 have fhA : (ad == 0) = false := by rw [beq_eq_false_iff_ne]; exact hA
 have ghA : decide (ad = 0) = false := decide_eq_false hA
 have b0 := below_alloc (w := w) (.cells #[.slice na nm.length nc, .int .i64 12, .int .i64 tt, .int .i64 ad, .slice ta to.length tc, .slice xa tx.length xc, .slice ia nu.length ic] 59)
 have K0 := hide (heap_alloc_new w (.cells #[.slice na nm.length nc, .int .i64 12, .int .i64 tt, .int .i64 ad, .slice ta to.length tc, .slice xa tx.length xc, .slice ia nu.length ic] 59))
 have H0 := hide (h.below b0)
 clear h
 go_enter Tryz.func90, Tryz.ntmps90
 go_wp2_with fail
 go_ret
 exact ⟨rfl, b0⟩

set_option maxHeartbeats 400000 in
set_option maxRecDepth 100000 in
theorem l3_12_1 {na : Option Addr} {nc : Nat} {ta : Option Addr} {tc : Nat} {xa : Option Addr} {xc : Nat} {ia : Option Addr} {ic : Nat} {nm to : List (List Int)} {tx nu : List Int} {tt ad : Int} {w : World} (h : HasR w (.slice na nm.length nc) (.slice ta to.length tc) (.slice xa tx.length xc) (.slice ia nu.length ic) ⟨nm, 12, tt, ad, to, tx, nu⟩) (hA : ad = 0) (hB : nameOk to = false) :
  Calls Tryz.prog 90 #[.agg #[.slice na nm.length nc, .int .i64 12, .int .i64 tt, .int .i64 ad, .slice ta to.length tc, .slice xa tx.length xc, .slice ia nu.length ic]] w fun e w' => e = .returned (.bool false) ∧ Below w.heap.size w w' := by
 obtain rfl := hA
 have b0 := below_alloc (w := w) (.cells #[.slice na nm.length nc, .int .i64 12, .int .i64 tt, .int .i64 0, .slice ta to.length tc, .slice xa tx.length xc, .slice ia nu.length ic] 59)
 have K0 := hide (heap_alloc_new w (.cells #[.slice na nm.length nc, .int .i64 12, .int .i64 tt, .int .i64 0, .slice ta to.length tc, .slice xa tx.length xc, .slice ia nu.length ic] 59))
 have H0 := hide (h.below b0)
 clear h
 have HB := hide hB
 clear hB
 go_enter Tryz.func90, Tryz.ntmps90
 go_wp2_with fail
 generalize w.alloc (.cells #[.slice na nm.length nc, .int .i64 12, .int .i64 tt, .int .i64 0, .slice ta to.length tc, .slice xa tx.length xc, .slice ia nu.length ic] 59) = W at *
 refine (l3named_any 12 _ rfl).mono ?_
 rw [named_12]
 rintro e w1 ⟨rfl, rfl⟩
 obtain ⟨d0, d1, d2, d3, d4, d5, d6⟩ := cells7 (unhide K0)
 go_wp2_with fail
 clear d0 d1 d2 d3 d4 d5 d6
 refine (specNameOk_has (show HasL W (.slice ta to.length tc) to from (unhide H0).to)).mono ?_
 rw [unhide HB]
 rintro e w1 ⟨rfl, b1⟩
 have bb1 := below_next b0 b1
 have K1 := hide (block_kept b1 (unhide K0))
 have H1 := hide ((unhide H0).below b1)
 clear b1 b0 K0 H0
 obtain ⟨d0, d1, d2, d3, d4, d5, d6⟩ := cells7 (unhide K1)
 go_wp2_with fail
 go_ret
 exact ⟨rfl, bb1⟩

set_option maxHeartbeats 400000 in
set_option maxRecDepth 100000 in
theorem l3_12_2 {na : Option Addr} {nc : Nat} {ta : Option Addr} {tc : Nat} {xa : Option Addr} {xc : Nat} {ia : Option Addr} {ic : Nat} {nm to : List (List Int)} {tx nu : List Int} {tt ad : Int} {w : World} (h : HasR w (.slice na nm.length nc) (.slice ta to.length tc) (.slice xa tx.length xc) (.slice ia nu.length ic) ⟨nm, 12, tt, ad, to, tx, nu⟩) (hA : ad = 0) (hB : nameOk to = true) (hC : tx.length ≠ 0) :
  Calls Tryz.prog 90 #[.agg #[.slice na nm.length nc, .int .i64 12, .int .i64 tt, .int .i64 ad, .slice ta to.length tc, .slice xa tx.length xc, .slice ia nu.length ic]] w fun e w' => e = .returned (.bool false) ∧ Below w.heap.size w w' := by
 obtain rfl := hA
 have ehC : (0 : Int) < tx.length := by omega
 have fhC : ((tx.length : Int) == 0) = false := by rw [beq_eq_false_iff_ne]; omega
 have b0 := below_alloc (w := w) (.cells #[.slice na nm.length nc, .int .i64 12, .int .i64 tt, .int .i64 0, .slice ta to.length tc, .slice xa tx.length xc, .slice ia nu.length ic] 59)
 have K0 := hide (heap_alloc_new w (.cells #[.slice na nm.length nc, .int .i64 12, .int .i64 tt, .int .i64 0, .slice ta to.length tc, .slice xa tx.length xc, .slice ia nu.length ic] 59))
 have H0 := hide (h.below b0)
 clear h
 have HB := hide hB
 clear hB
 go_enter Tryz.func90, Tryz.ntmps90
 go_wp2_with fail
 generalize w.alloc (.cells #[.slice na nm.length nc, .int .i64 12, .int .i64 tt, .int .i64 0, .slice ta to.length tc, .slice xa tx.length xc, .slice ia nu.length ic] 59) = W at *
 refine (l3named_any 12 _ rfl).mono ?_
 rw [named_12]
 rintro e w1 ⟨rfl, rfl⟩
 obtain ⟨d0, d1, d2, d3, d4, d5, d6⟩ := cells7 (unhide K0)
 go_wp2_with fail
 clear d0 d1 d2 d3 d4 d5 d6
 refine (specNameOk_has (show HasL W (.slice ta to.length tc) to from (unhide H0).to)).mono ?_
 rw [unhide HB]
 rintro e w1 ⟨rfl, b1⟩
 have bb1 := below_next b0 b1
 have K1 := hide (block_kept b1 (unhide K0))
 have H1 := hide ((unhide H0).below b1)
 clear b1 b0 K0 H0
 obtain ⟨d0, d1, d2, d3, d4, d5, d6⟩ := cells7 (unhide K1)
 go_wp2_with fail
 refine (l3texted_any 12 _ rfl).mono ?_
 rw [texted_12]
 rintro e w2 ⟨rfl, rfl⟩
 go_wp2_with fail
 go_ret
 exact ⟨rfl, bb1⟩

set_option maxHeartbeats 400000 in
set_option maxRecDepth 100000 in
theorem l3_12_3 {na : Option Addr} {nc : Nat} {ta : Option Addr} {tc : Nat} {xa : Option Addr} {xc : Nat} {ia : Option Addr} {ic : Nat} {nm to : List (List Int)} {tx nu : List Int} {tt ad : Int} {w : World} (h : HasR w (.slice na nm.length nc) (.slice ta to.length tc) (.slice xa tx.length xc) (.slice ia nu.length ic) ⟨nm, 12, tt, ad, to, tx, nu⟩) (hA : ad = 0) (hB : nameOk to = true) (hC : tx.length = 0) (hD : nu.length ≠ 0) :
  Calls Tryz.prog 90 #[.agg #[.slice na nm.length nc, .int .i64 12, .int .i64 tt, .int .i64 ad, .slice ta to.length tc, .slice xa tx.length xc, .slice ia nu.length ic]] w fun e w' => e = .returned (.bool false) ∧ Below w.heap.size w w' := by
 obtain rfl := hA
 obtain rfl := nil_of hC
 clear hC
 have ehD : ((nu.length : Int) == 0) = false := by rw [beq_eq_false_iff_ne]; omega
 simp only [List.length_nil] at *
 have b0 := below_alloc (w := w) (.cells #[.slice na nm.length nc, .int .i64 12, .int .i64 tt, .int .i64 0, .slice ta to.length tc, .slice xa 0 xc, .slice ia nu.length ic] 59)
 have K0 := hide (heap_alloc_new w (.cells #[.slice na nm.length nc, .int .i64 12, .int .i64 tt, .int .i64 0, .slice ta to.length tc, .slice xa 0 xc, .slice ia nu.length ic] 59))
 have H0 := hide (h.below b0)
 clear h
 have HB := hide hB
 clear hB
 go_enter Tryz.func90, Tryz.ntmps90
 go_wp2_with fail
 generalize w.alloc (.cells #[.slice na nm.length nc, .int .i64 12, .int .i64 tt, .int .i64 0, .slice ta to.length tc, .slice xa 0 xc, .slice ia nu.length ic] 59) = W at *
 refine (l3named_any 12 _ rfl).mono ?_
 rw [named_12]
 rintro e w1 ⟨rfl, rfl⟩
 obtain ⟨d0, d1, d2, d3, d4, d5, d6⟩ := cells7 (unhide K0)
 go_wp2_with fail
 clear d0 d1 d2 d3 d4 d5 d6
 refine (specNameOk_has (show HasL W (.slice ta to.length tc) to from (unhide H0).to)).mono ?_
 rw [unhide HB]
 rintro e w1 ⟨rfl, b1⟩
 have bb1 := below_next b0 b1
 have K1 := hide (block_kept b1 (unhide K0))
 have H1 := hide ((unhide H0).below b1)
 clear b1 b0 K0 H0
 obtain ⟨d0, d1, d2, d3, d4, d5, d6⟩ := cells7 (unhide K1)
 go_wp2_with fail
 refine (l3texted_any 12 _ rfl).mono ?_
 rw [texted_12]
 rintro e w2 ⟨rfl, rfl⟩
 go_wp2_with fail
 go_ret
 exact ⟨rfl, bb1⟩

set_option maxHeartbeats 400000 in
set_option maxRecDepth 100000 in
theorem l3_12_4 {na : Option Addr} {nc : Nat} {ta : Option Addr} {tc : Nat} {xa : Option Addr} {xc : Nat} {ia : Option Addr} {ic : Nat} {nm to : List (List Int)} {tx nu : List Int} {tt ad : Int} {w : World} (h : HasR w (.slice na nm.length nc) (.slice ta to.length tc) (.slice xa tx.length xc) (.slice ia nu.length ic) ⟨nm, 12, tt, ad, to, tx, nu⟩) (hA : ad = 0) (hB : nameOk to = true) (hC : tx.length = 0) (hD : nu.length = 0) :
  Calls Tryz.prog 90 #[.agg #[.slice na nm.length nc, .int .i64 12, .int .i64 tt, .int .i64 ad, .slice ta to.length tc, .slice xa tx.length xc, .slice ia nu.length ic]] w fun e w' => e = .returned (.bool true) ∧ Below w.heap.size w w' := by
 obtain rfl := hA
 obtain rfl := nil_of hC
 clear hC
 obtain rfl := nil_of hD
 clear hD
 simp only [List.length_nil] at *
 have b0 := below_alloc (w := w) (.cells #[.slice na nm.length nc, .int .i64 12, .int .i64 tt, .int .i64 0, .slice ta to.length tc, .slice xa 0 xc, .slice ia 0 ic] 59)
 have K0 := hide (heap_alloc_new w (.cells #[.slice na nm.length nc, .int .i64 12, .int .i64 tt, .int .i64 0, .slice ta to.length tc, .slice xa 0 xc, .slice ia 0 ic] 59))
 have H0 := hide (h.below b0)
 clear h
 have HB := hide hB
 clear hB
 go_enter Tryz.func90, Tryz.ntmps90
 go_wp2_with fail
 generalize w.alloc (.cells #[.slice na nm.length nc, .int .i64 12, .int .i64 tt, .int .i64 0, .slice ta to.length tc, .slice xa 0 xc, .slice ia 0 ic] 59) = W at *
 refine (l3named_any 12 _ rfl).mono ?_
 rw [named_12]
 rintro e w1 ⟨rfl, rfl⟩
 obtain ⟨d0, d1, d2, d3, d4, d5, d6⟩ := cells7 (unhide K0)
 go_wp2_with fail
 clear d0 d1 d2 d3 d4 d5 d6
 refine (specNameOk_has (show HasL W (.slice ta to.length tc) to from (unhide H0).to)).mono ?_
 rw [unhide HB]
 rintro e w1 ⟨rfl, b1⟩
 have bb1 := below_next b0 b1
 have K1 := hide (block_kept b1 (unhide K0))
 have H1 := hide ((unhide H0).below b1)
 clear b1 b0 K0 H0
 obtain ⟨d0, d1, d2, d3, d4, d5, d6⟩ := cells7 (unhide K1)
 go_wp2_with fail
 refine (l3texted_any 12 _ rfl).mono ?_
 rw [texted_12]
 rintro e w2 ⟨rfl, rfl⟩
 go_wp2_with fail
 go_ret
 exact ⟨rfl, bb1⟩

set_option maxHeartbeats 400000 in
set_option maxRecDepth 100000 in
theorem l3_16_0 {na : Option Addr} {nc : Nat} {ta : Option Addr} {tc : Nat} {xa : Option Addr} {xc : Nat} {ia : Option Addr} {ic : Nat} {nm to : List (List Int)} {tx nu : List Int} {tt ad : Int} {w : World} (h : HasR w (.slice na nm.length nc) (.slice ta to.length tc) (.slice xa tx.length xc) (.slice ia nu.length ic) ⟨nm, 16, tt, ad, to, tx, nu⟩) (hA : ad ≠ 0) :
  Calls Tryz.prog 90 #[.agg #[.slice na nm.length nc, .int .i64 16, .int .i64 tt, .int .i64 ad, .slice ta to.length tc, .slice xa tx.length xc, .slice ia nu.length ic]] w fun e w' => e = .returned (.bool false) ∧ Below w.heap.size w w' := by
 have ehA : (ad != 0) = true := by rw [bne_iff_ne]; exact hA
 have fhA : (ad == 0) = false := by rw [beq_eq_false_iff_ne]; exact hA
 have ghA : decide (ad = 0) = false := decide_eq_false hA
 have b0 := below_alloc (w := w) (.cells #[.slice na nm.length nc, .int .i64 16, .int .i64 tt, .int .i64 ad, .slice ta to.length tc, .slice xa tx.length xc, .slice ia nu.length ic] 59)
 have K0 := hide (heap_alloc_new w (.cells #[.slice na nm.length nc, .int .i64 16, .int .i64 tt, .int .i64 ad, .slice ta to.length tc, .slice xa tx.length xc, .slice ia nu.length ic] 59))
 have H0 := hide (h.below b0)
 clear h
 go_enter Tryz.func90, Tryz.ntmps90
 go_wp2_with fail
 go_ret
 exact ⟨rfl, b0⟩

set_option maxHeartbeats 400000 in
set_option maxRecDepth 100000 in
theorem l3_16_1 {na : Option Addr} {nc : Nat} {ta : Option Addr} {tc : Nat} {xa : Option Addr} {xc : Nat} {ia : Option Addr} {ic : Nat} {nm to : List (List Int)} {tx nu : List Int} {tt ad : Int} {w : World} (h : HasR w (.slice na nm.length nc) (.slice ta to.length tc) (.slice xa tx.length xc) (.slice ia nu.length ic) ⟨nm, 16, tt, ad, to, tx, nu⟩) (hA : ad = 0) (hB : to.length ≠ 0) :
  Calls Tryz.prog 90 #[.agg #[.slice na nm.length nc, .int .i64 16, .int .i64 tt, .int .i64 ad, .slice ta to.length tc, .slice xa tx.length xc, .slice ia nu.length ic]] w fun e w' => e = .returned (.bool false) ∧ Below w.heap.size w w' := by
 obtain rfl := hA
 have ehB : (0 : Int) < to.length := by omega
 have fhB : ((to.length : Int) == 0) = false := by rw [beq_eq_false_iff_ne]; omega
 have b0 := below_alloc (w := w) (.cells #[.slice na nm.length nc, .int .i64 16, .int .i64 tt, .int .i64 0, .slice ta to.length tc, .slice xa tx.length xc, .slice ia nu.length ic] 59)
 have K0 := hide (heap_alloc_new w (.cells #[.slice na nm.length nc, .int .i64 16, .int .i64 tt, .int .i64 0, .slice ta to.length tc, .slice xa tx.length xc, .slice ia nu.length ic] 59))
 have H0 := hide (h.below b0)
 clear h
 go_enter Tryz.func90, Tryz.ntmps90
 go_wp2_with fail
 generalize w.alloc (.cells #[.slice na nm.length nc, .int .i64 16, .int .i64 tt, .int .i64 0, .slice ta to.length tc, .slice xa tx.length xc, .slice ia nu.length ic] 59) = W at *
 refine (l3named_any 16 _ rfl).mono ?_
 rw [named_16]
 rintro e w1 ⟨rfl, rfl⟩
 obtain ⟨d0, d1, d2, d3, d4, d5, d6⟩ := cells7 (unhide K0)
 go_wp2_with fail
 go_ret
 exact ⟨rfl, b0⟩

set_option maxHeartbeats 400000 in
set_option maxRecDepth 100000 in
theorem l3_16_2 {na : Option Addr} {nc : Nat} {ta : Option Addr} {tc : Nat} {xa : Option Addr} {xc : Nat} {ia : Option Addr} {ic : Nat} {nm to : List (List Int)} {tx nu : List Int} {tt ad : Int} {w : World} (h : HasR w (.slice na nm.length nc) (.slice ta to.length tc) (.slice xa tx.length xc) (.slice ia nu.length ic) ⟨nm, 16, tt, ad, to, tx, nu⟩) (hA : ad = 0) (hB : to.length = 0) (hC : 40 < tx.length) :
  Calls Tryz.prog 90 #[.agg #[.slice na nm.length nc, .int .i64 16, .int .i64 tt, .int .i64 ad, .slice ta to.length tc, .slice xa tx.length xc, .slice ia nu.length ic]] w fun e w' => e = .returned (.bool false) ∧ Below w.heap.size w w' := by
 obtain rfl := hA
 obtain rfl := nil_of hB
 clear hB
 have ehC : (40 : Int) < tx.length := by omega
 have fhC : decide ((tx.length : Int) ≤ 40) = false := decide_eq_false (by omega)
 simp only [List.length_nil] at *
 have b0 := below_alloc (w := w) (.cells #[.slice na nm.length nc, .int .i64 16, .int .i64 tt, .int .i64 0, .slice ta 0 tc, .slice xa tx.length xc, .slice ia nu.length ic] 59)
 have K0 := hide (heap_alloc_new w (.cells #[.slice na nm.length nc, .int .i64 16, .int .i64 tt, .int .i64 0, .slice ta 0 tc, .slice xa tx.length xc, .slice ia nu.length ic] 59))
 have H0 := hide (h.below b0)
 clear h
 go_enter Tryz.func90, Tryz.ntmps90
 go_wp2_with fail
 generalize w.alloc (.cells #[.slice na nm.length nc, .int .i64 16, .int .i64 tt, .int .i64 0, .slice ta 0 tc, .slice xa tx.length xc, .slice ia nu.length ic] 59) = W at *
 refine (l3named_any 16 _ rfl).mono ?_
 rw [named_16]
 rintro e w1 ⟨rfl, rfl⟩
 obtain ⟨d0, d1, d2, d3, d4, d5, d6⟩ := cells7 (unhide K0)
 go_wp2_with fail
 refine (l3texted_any 16 _ rfl).mono ?_
 rw [texted_16]
 rintro e w2 ⟨rfl, rfl⟩
 go_wp2_with fail
 go_ret
 exact ⟨rfl, b0⟩

set_option maxHeartbeats 400000 in
set_option maxRecDepth 100000 in
theorem l3_16_3 {na : Option Addr} {nc : Nat} {ta : Option Addr} {tc : Nat} {xa : Option Addr} {xc : Nat} {ia : Option Addr} {ic : Nat} {nm to : List (List Int)} {tx nu : List Int} {tt ad : Int} {w : World} (h : HasR w (.slice na nm.length nc) (.slice ta to.length tc) (.slice xa tx.length xc) (.slice ia nu.length ic) ⟨nm, 16, tt, ad, to, tx, nu⟩) (hA : ad = 0) (hB : to.length = 0) (hC : tx.length ≤ 40) (hD : nu.length ≠ 0) :
  Calls Tryz.prog 90 #[.agg #[.slice na nm.length nc, .int .i64 16, .int .i64 tt, .int .i64 ad, .slice ta to.length tc, .slice xa tx.length xc, .slice ia nu.length ic]] w fun e w' => e = .returned (.bool false) ∧ Below w.heap.size w w' := by
 obtain rfl := hA
 obtain rfl := nil_of hB
 clear hB
 have ehC : (tx.length : Int) ≤ 40 := by omega
 have fhC : decide ((tx.length : Int) ≤ 40) = true := decide_eq_true (by omega)
 have ehD : ((nu.length : Int) == 0) = false := by rw [beq_eq_false_iff_ne]; omega
 simp only [List.length_nil] at *
 have b0 := below_alloc (w := w) (.cells #[.slice na nm.length nc, .int .i64 16, .int .i64 tt, .int .i64 0, .slice ta 0 tc, .slice xa tx.length xc, .slice ia nu.length ic] 59)
 have K0 := hide (heap_alloc_new w (.cells #[.slice na nm.length nc, .int .i64 16, .int .i64 tt, .int .i64 0, .slice ta 0 tc, .slice xa tx.length xc, .slice ia nu.length ic] 59))
 have H0 := hide (h.below b0)
 clear h
 go_enter Tryz.func90, Tryz.ntmps90
 go_wp2_with fail
 generalize w.alloc (.cells #[.slice na nm.length nc, .int .i64 16, .int .i64 tt, .int .i64 0, .slice ta 0 tc, .slice xa tx.length xc, .slice ia nu.length ic] 59) = W at *
 refine (l3named_any 16 _ rfl).mono ?_
 rw [named_16]
 rintro e w1 ⟨rfl, rfl⟩
 obtain ⟨d0, d1, d2, d3, d4, d5, d6⟩ := cells7 (unhide K0)
 go_wp2_with fail
 refine (l3texted_any 16 _ rfl).mono ?_
 rw [texted_16]
 rintro e w2 ⟨rfl, rfl⟩
 go_wp2_with fail
 go_ret
 exact ⟨rfl, b0⟩

set_option maxHeartbeats 400000 in
set_option maxRecDepth 100000 in
theorem l3_16_4 {na : Option Addr} {nc : Nat} {ta : Option Addr} {tc : Nat} {xa : Option Addr} {xc : Nat} {ia : Option Addr} {ic : Nat} {nm to : List (List Int)} {tx nu : List Int} {tt ad : Int} {w : World} (h : HasR w (.slice na nm.length nc) (.slice ta to.length tc) (.slice xa tx.length xc) (.slice ia nu.length ic) ⟨nm, 16, tt, ad, to, tx, nu⟩) (hA : ad = 0) (hB : to.length = 0) (hC : tx.length ≤ 40) (hD : nu.length = 0) :
  Calls Tryz.prog 90 #[.agg #[.slice na nm.length nc, .int .i64 16, .int .i64 tt, .int .i64 ad, .slice ta to.length tc, .slice xa tx.length xc, .slice ia nu.length ic]] w fun e w' => e = .returned (.bool true) ∧ Below w.heap.size w w' := by
 obtain rfl := hA
 obtain rfl := nil_of hB
 clear hB
 have ehC : (tx.length : Int) ≤ 40 := by omega
 have fhC : decide ((tx.length : Int) ≤ 40) = true := decide_eq_true (by omega)
 obtain rfl := nil_of hD
 clear hD
 simp only [List.length_nil] at *
 have b0 := below_alloc (w := w) (.cells #[.slice na nm.length nc, .int .i64 16, .int .i64 tt, .int .i64 0, .slice ta 0 tc, .slice xa tx.length xc, .slice ia 0 ic] 59)
 have K0 := hide (heap_alloc_new w (.cells #[.slice na nm.length nc, .int .i64 16, .int .i64 tt, .int .i64 0, .slice ta 0 tc, .slice xa tx.length xc, .slice ia 0 ic] 59))
 have H0 := hide (h.below b0)
 clear h
 go_enter Tryz.func90, Tryz.ntmps90
 go_wp2_with fail
 generalize w.alloc (.cells #[.slice na nm.length nc, .int .i64 16, .int .i64 tt, .int .i64 0, .slice ta 0 tc, .slice xa tx.length xc, .slice ia 0 ic] 59) = W at *
 refine (l3named_any 16 _ rfl).mono ?_
 rw [named_16]
 rintro e w1 ⟨rfl, rfl⟩
 obtain ⟨d0, d1, d2, d3, d4, d5, d6⟩ := cells7 (unhide K0)
 go_wp2_with fail
 refine (l3texted_any 16 _ rfl).mono ?_
 rw [texted_16]
 rintro e w2 ⟨rfl, rfl⟩
 go_wp2_with fail
 go_ret
 exact ⟨rfl, b0⟩

set_option maxHeartbeats 400000 in
set_option maxRecDepth 100000 in
theorem l3_49_0 {na : Option Addr} {nc : Nat} {ta : Option Addr} {tc : Nat} {xa : Option Addr} {xc : Nat} {ia : Option Addr} {ic : Nat} {nm to : List (List Int)} {tx nu : List Int} {tt ad : Int} {w : World} (h : HasR w (.slice na nm.length nc) (.slice ta to.length tc) (.slice xa tx.length xc) (.slice ia nu.length ic) ⟨nm, 49, tt, ad, to, tx, nu⟩) (hA : ad ≠ 0) :
  Calls Tryz.prog 90 #[.agg #[.slice na nm.length nc, .int .i64 49, .int .i64 tt, .int .i64 ad, .slice ta to.length tc, .slice xa tx.length xc, .slice ia nu.length ic]] w fun e w' => e = .returned (.bool false) ∧ Below w.heap.size w w' := by
 have ehA : (ad != 0) = true := by rw [bne_iff_ne]; exact hA
 have fhA : (ad == 0) = false := by rw [beq_eq_false_iff_ne]; exact hA
 have ghA : decide (ad = 0) = false := decide_eq_false hA
 have b0 := below_alloc (w := w) (.cells #[.slice na nm.length nc, .int .i64 49, .int .i64 tt, .int .i64 ad, .slice ta to.length tc, .slice xa tx.length xc, .slice ia nu.length ic] 59)
 have K0 := hide (heap_alloc_new w (.cells #[.slice na nm.length nc, .int .i64 49, .int .i64 tt, .int .i64 ad, .slice ta to.length tc, .slice xa tx.length xc, .slice ia nu.length ic] 59))
 have H0 := hide (h.below b0)
 clear h
 go_enter Tryz.func90, Tryz.ntmps90
 go_wp2_with fail
 go_ret
 exact ⟨rfl, b0⟩

set_option maxHeartbeats 400000 in
set_option maxRecDepth 100000 in
theorem l3_49_1 {na : Option Addr} {nc : Nat} {ta : Option Addr} {tc : Nat} {xa : Option Addr} {xc : Nat} {ia : Option Addr} {ic : Nat} {nm to : List (List Int)} {tx nu : List Int} {tt ad : Int} {w : World} (h : HasR w (.slice na nm.length nc) (.slice ta to.length tc) (.slice xa tx.length xc) (.slice ia nu.length ic) ⟨nm, 49, tt, ad, to, tx, nu⟩) (hA : ad = 0) (hB : to.length ≠ 0) :
  Calls Tryz.prog 90 #[.agg #[.slice na nm.length nc, .int .i64 49, .int .i64 tt, .int .i64 ad, .slice ta to.length tc, .slice xa tx.length xc, .slice ia nu.length ic]] w fun e w' => e = .returned (.bool false) ∧ Below w.heap.size w w' := by
 obtain rfl := hA
 have ehB : (0 : Int) < to.length := by omega
 have fhB : ((to.length : Int) == 0) = false := by rw [beq_eq_false_iff_ne]; omega
 have b0 := below_alloc (w := w) (.cells #[.slice na nm.length nc, .int .i64 49, .int .i64 tt, .int .i64 0, .slice ta to.length tc, .slice xa tx.length xc, .slice ia nu.length ic] 59)
 have K0 := hide (heap_alloc_new w (.cells #[.slice na nm.length nc, .int .i64 49, .int .i64 tt, .int .i64 0, .slice ta to.length tc, .slice xa tx.length xc, .slice ia nu.length ic] 59))
 have H0 := hide (h.below b0)
 clear h
 go_enter Tryz.func90, Tryz.ntmps90
 go_wp2_with fail
 generalize w.alloc (.cells #[.slice na nm.length nc, .int .i64 49, .int .i64 tt, .int .i64 0, .slice ta to.length tc, .slice xa tx.length xc, .slice ia nu.length ic] 59) = W at *
 refine (l3named_any 49 _ rfl).mono ?_
 rw [named_49]
 rintro e w1 ⟨rfl, rfl⟩
 obtain ⟨d0, d1, d2, d3, d4, d5, d6⟩ := cells7 (unhide K0)
 go_wp2_with fail
 go_ret
 exact ⟨rfl, b0⟩

set_option maxHeartbeats 400000 in
set_option maxRecDepth 100000 in
theorem l3_49_2 {na : Option Addr} {nc : Nat} {ta : Option Addr} {tc : Nat} {xa : Option Addr} {xc : Nat} {ia : Option Addr} {ic : Nat} {nm to : List (List Int)} {tx nu : List Int} {tt ad : Int} {w : World} (h : HasR w (.slice na nm.length nc) (.slice ta to.length tc) (.slice xa tx.length xc) (.slice ia nu.length ic) ⟨nm, 49, tt, ad, to, tx, nu⟩) (hA : ad = 0) (hB : to.length = 0) (hC : 40 < tx.length) :
  Calls Tryz.prog 90 #[.agg #[.slice na nm.length nc, .int .i64 49, .int .i64 tt, .int .i64 ad, .slice ta to.length tc, .slice xa tx.length xc, .slice ia nu.length ic]] w fun e w' => e = .returned (.bool false) ∧ Below w.heap.size w w' := by
 obtain rfl := hA
 obtain rfl := nil_of hB
 clear hB
 have ehC : (40 : Int) < tx.length := by omega
 have fhC : decide ((tx.length : Int) ≤ 40) = false := decide_eq_false (by omega)
 simp only [List.length_nil] at *
 have b0 := below_alloc (w := w) (.cells #[.slice na nm.length nc, .int .i64 49, .int .i64 tt, .int .i64 0, .slice ta 0 tc, .slice xa tx.length xc, .slice ia nu.length ic] 59)
 have K0 := hide (heap_alloc_new w (.cells #[.slice na nm.length nc, .int .i64 49, .int .i64 tt, .int .i64 0, .slice ta 0 tc, .slice xa tx.length xc, .slice ia nu.length ic] 59))
 have H0 := hide (h.below b0)
 clear h
 go_enter Tryz.func90, Tryz.ntmps90
 go_wp2_with fail
 generalize w.alloc (.cells #[.slice na nm.length nc, .int .i64 49, .int .i64 tt, .int .i64 0, .slice ta 0 tc, .slice xa tx.length xc, .slice ia nu.length ic] 59) = W at *
 refine (l3named_any 49 _ rfl).mono ?_
 rw [named_49]
 rintro e w1 ⟨rfl, rfl⟩
 obtain ⟨d0, d1, d2, d3, d4, d5, d6⟩ := cells7 (unhide K0)
 go_wp2_with fail
 refine (l3texted_any 49 _ rfl).mono ?_
 rw [texted_49]
 rintro e w2 ⟨rfl, rfl⟩
 go_wp2_with fail
 go_ret
 exact ⟨rfl, b0⟩

set_option maxHeartbeats 400000 in
set_option maxRecDepth 100000 in
theorem l3_49_3 {na : Option Addr} {nc : Nat} {ta : Option Addr} {tc : Nat} {xa : Option Addr} {xc : Nat} {ia : Option Addr} {ic : Nat} {nm to : List (List Int)} {tx nu : List Int} {tt ad : Int} {w : World} (h : HasR w (.slice na nm.length nc) (.slice ta to.length tc) (.slice xa tx.length xc) (.slice ia nu.length ic) ⟨nm, 49, tt, ad, to, tx, nu⟩) (hA : ad = 0) (hB : to.length = 0) (hC : tx.length ≤ 40) (hD : nu.length ≠ 0) :
  Calls Tryz.prog 90 #[.agg #[.slice na nm.length nc, .int .i64 49, .int .i64 tt, .int .i64 ad, .slice ta to.length tc, .slice xa tx.length xc, .slice ia nu.length ic]] w fun e w' => e = .returned (.bool false) ∧ Below w.heap.size w w' := by
 obtain rfl := hA
 obtain rfl := nil_of hB
 clear hB
 have ehC : (tx.length : Int) ≤ 40 := by omega
 have fhC : decide ((tx.length : Int) ≤ 40) = true := decide_eq_true (by omega)
 have ehD : ((nu.length : Int) == 0) = false := by rw [beq_eq_false_iff_ne]; omega
 simp only [List.length_nil] at *
 have b0 := below_alloc (w := w) (.cells #[.slice na nm.length nc, .int .i64 49, .int .i64 tt, .int .i64 0, .slice ta 0 tc, .slice xa tx.length xc, .slice ia nu.length ic] 59)
 have K0 := hide (heap_alloc_new w (.cells #[.slice na nm.length nc, .int .i64 49, .int .i64 tt, .int .i64 0, .slice ta 0 tc, .slice xa tx.length xc, .slice ia nu.length ic] 59))
 have H0 := hide (h.below b0)
 clear h
 go_enter Tryz.func90, Tryz.ntmps90
 go_wp2_with fail
 generalize w.alloc (.cells #[.slice na nm.length nc, .int .i64 49, .int .i64 tt, .int .i64 0, .slice ta 0 tc, .slice xa tx.length xc, .slice ia nu.length ic] 59) = W at *
 refine (l3named_any 49 _ rfl).mono ?_
 rw [named_49]
 rintro e w1 ⟨rfl, rfl⟩
 obtain ⟨d0, d1, d2, d3, d4, d5, d6⟩ := cells7 (unhide K0)
 go_wp2_with fail
 refine (l3texted_any 49 _ rfl).mono ?_
 rw [texted_49]
 rintro e w2 ⟨rfl, rfl⟩
 go_wp2_with fail
 go_ret
 exact ⟨rfl, b0⟩

set_option maxHeartbeats 400000 in
set_option maxRecDepth 100000 in
theorem l3_49_4 {na : Option Addr} {nc : Nat} {ta : Option Addr} {tc : Nat} {xa : Option Addr} {xc : Nat} {ia : Option Addr} {ic : Nat} {nm to : List (List Int)} {tx nu : List Int} {tt ad : Int} {w : World} (h : HasR w (.slice na nm.length nc) (.slice ta to.length tc) (.slice xa tx.length xc) (.slice ia nu.length ic) ⟨nm, 49, tt, ad, to, tx, nu⟩) (hA : ad = 0) (hB : to.length = 0) (hC : tx.length ≤ 40) (hD : nu.length = 0) :
  Calls Tryz.prog 90 #[.agg #[.slice na nm.length nc, .int .i64 49, .int .i64 tt, .int .i64 ad, .slice ta to.length tc, .slice xa tx.length xc, .slice ia nu.length ic]] w fun e w' => e = .returned (.bool true) ∧ Below w.heap.size w w' := by
 obtain rfl := hA
 obtain rfl := nil_of hB
 clear hB
 have ehC : (tx.length : Int) ≤ 40 := by omega
 have fhC : decide ((tx.length : Int) ≤ 40) = true := decide_eq_true (by omega)
 obtain rfl := nil_of hD
 clear hD
 simp only [List.length_nil] at *
 have b0 := below_alloc (w := w) (.cells #[.slice na nm.length nc, .int .i64 49, .int .i64 tt, .int .i64 0, .slice ta 0 tc, .slice xa tx.length xc, .slice ia 0 ic] 59)
 have K0 := hide (heap_alloc_new w (.cells #[.slice na nm.length nc, .int .i64 49, .int .i64 tt, .int .i64 0, .slice ta 0 tc, .slice xa tx.length xc, .slice ia 0 ic] 59))
 have H0 := hide (h.below b0)
 clear h
 go_enter Tryz.func90, Tryz.ntmps90
 go_wp2_with fail
 generalize w.alloc (.cells #[.slice na nm.length nc, .int .i64 49, .int .i64 tt, .int .i64 0, .slice ta 0 tc, .slice xa tx.length xc, .slice ia 0 ic] 59) = W at *
 refine (l3named_any 49 _ rfl).mono ?_
 rw [named_49]
 rintro e w1 ⟨rfl, rfl⟩
 obtain ⟨d0, d1, d2, d3, d4, d5, d6⟩ := cells7 (unhide K0)
 go_wp2_with fail
 refine (l3texted_any 49 _ rfl).mono ?_
 rw [texted_49]
 rintro e w2 ⟨rfl, rfl⟩
 go_wp2_with fail
 go_ret
 exact ⟨rfl, b0⟩

end Go.Proofs.YtfgcmjpkgdjcfaaGreat
