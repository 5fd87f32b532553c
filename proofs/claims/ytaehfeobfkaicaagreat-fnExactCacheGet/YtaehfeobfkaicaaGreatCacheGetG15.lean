/-
  Contracts of the program's labelSign and LabelOk. Contracts of the program's NameOk. Contracts of the library's bytes.Compare and cmp.Compare at int. Contracts of the program's NameCmp. Contract of the program's ofOneSet. Contracts of the program's upTo. Contracts of the program's data: dataOf, and whether each kind may be.
-/
import Derived.Test.YtaehfeobfkaicaaGreatCacheGetG05
import Derived.Test.YtaehfeobfkaicaaGreatCacheGetG00
import Derived.Test.YtaehfeobfkaicaaGreatCacheGetG10
import Derived.Test.YtaehfeobfkaicaaGreatCacheGetG11
import Derived.Test.YtaehfeobfkaicaaGreatCacheGetG08
import Derived.Handy
namespace Go.Proofs.YtaehfeobfkaicaaGreat
open Go.RowKit
set_option linter.unusedVariables false
set_option maxHeartbeats 400000
set_option maxRecDepth 100000

theorem sign_cases (c : Int) : (97 ≤ c ∧ c ≤ 122) ∨ (97 ≤ c ∧ 122 < c) ∨ (c < 97 ∧ 48 ≤ c ∧ c ≤ 57) ∨ (c < 97 ∧ 48 ≤ c ∧ 57 < c ∧ c ≠ 45) ∨ (c < 97 ∧ c < 48 ∧ c = 45) ∨ (c < 97 ∧ c < 48 ∧ c ≠ 45) := by omega

theorem labelSign_any (c : Int) (w : World) :
  Calls Tryz.prog 116 #[.int .u8 c] w fun e w' => e = .returned (.bool (signOk c)) ∧ w = w' := by
 rcases sign_cases c with ⟨h1, h2⟩ | ⟨h1, h2⟩ | ⟨h1, h2, h3⟩ | ⟨h1, h2, h3, h4⟩ | ⟨h1, h2, rfl⟩ | ⟨h1, h2, h3⟩
 ·have hs : signOk c = true := decide_eq_true (by omega)
  rw [hs]
  go_enter Tryz.func116, Tryz.ntmps116
  go_wp2
  go_ret
  exact ⟨rfl, rfl⟩
 ·have hs : signOk c = false := decide_eq_false (by omega)
  rw [hs]
  have h5 : 48 ≤ c := by omega
  have h6 : ¬ c ≤ 57 := by omega
  have h7 : ¬ c ≤ 122 := by omega
  have h8 : (c == 45) = false := by simp; omega
  go_enter Tryz.func116, Tryz.ntmps116
  go_wp2
  go_ret
  exact ⟨rfl, rfl⟩
 ·have hs : signOk c = true := decide_eq_true (by omega)
  rw [hs]
  have h5 : ¬ 97 ≤ c := by omega
  go_enter Tryz.func116, Tryz.ntmps116
  go_wp2
  go_ret
  exact ⟨rfl, rfl⟩
 ·have hs : signOk c = false := decide_eq_false (by omega)
  rw [hs]
  have h5 : ¬ 97 ≤ c := by omega
  have h6 : ¬ c ≤ 57 := by omega
  have h8 : (c == 45) = false := by simp; omega
  go_enter Tryz.func116, Tryz.ntmps116
  go_wp2
  go_ret
  exact ⟨rfl, rfl⟩
 ·have hs : signOk 45 = true := rfl
  rw [hs]
  go_enter Tryz.func116, Tryz.ntmps116
  go_wp2
  go_ret
  exact ⟨rfl, rfl⟩
 ·have hs : signOk c = false := decide_eq_false (by omega)
  rw [hs]
  have h5 : ¬ 97 ≤ c := by omega
  have h6 : ¬ 48 ≤ c := by omega
  have h8 : (c == 45) = false := by simp; omega
  go_enter Tryz.func116, Tryz.ntmps116
  go_wp2
  go_ret
  exact ⟨rfl, rfl⟩

theorem implLabelOk_has {v : Value} {l : List Int} {w : World} (h : Has w v l) :
  Calls Tryz.prog 92 #[v] w fun e w' => e = .returned (.bool (labelOk l)) ∧ w = w' := by
 have hbd := h.bound
 unfold maxLen at hbd
 obtain ⟨a, cap, rfl, hL⟩ := h.form
 by_cases h0 : l.length = 0
 ·rw [labelOk_short (by omega), h0]
  go_enter Tryz.func92, Tryz.ntmps92
  go_wp2
  go_ret
  exact ⟨rfl, rfl⟩
 ·by_cases h1 : 15 < l.length
  ·rw [labelOk_short (by omega)]
   generalize hn : l.length = n at *
   have h3 : ((n : Int) == 0) = false := by simp; omega
   go_enter Tryz.func92, Tryz.ntmps92
   go_wp2
   go_ret
   exact ⟨rfl, rfl⟩
  ·have h2 : l.length ≤ 15 := by omega
   have hyes := UC (fun (hs : ∀ j, j < l.length → signOk (l.getD j 0) = true) => labelOk_yes (l := l) (by omega) h2 hs)
   have hno := UC (fun (j : Nat) (hj : j < l.length) (hs : signOk (l.getD j 0) = false) => labelOk_sign hj hs)
   generalize hok : labelOk l = ok at *
   clear hok
   generalize hn : l.length = n at *
   have HN := UC hn
   clear hn
   have h3 : ((n : Int) == 0) = false := by simp; omega
   go_enter Tryz.func92, Tryz.ntmps92
   go_wp2
   go_loop [15] (fun i => ∃ k : Nat, k ≤ n ∧ i = .int .i64 k ∧ Hid (∀ j, j < k → signOk (l.getD j 0) = true)) (fun i => n - (intOf i).toNat)
   case atStart => exact ⟨0, Nat.zero_le _, rfl, UC (fun j hj => absurd hj (Nat.not_lt_zero _))⟩
   case round =>
    obtain ⟨k, hk, rfl, hall⟩ := hrel
    by_cases hlt : k < n
    ·obtain ⟨b, off, rfl, hbl, hc⟩ := hL.here (k := k) (by rw [UB HN]; exact hlt)
     have hone := UC (fun (hs : signOk (l.getD k 0) = true) => (show ∀ j, j < k + 1 → signOk (l.getD j 0) = true from fun j hj => by
      by_cases e : j = k
      ·subst e; exact hs
      ·exact UB hall j (by omega)))
     have hnok := UC (fun (hs : signOk (l.getD k 0) = false) => UB hno k hlt hs)
     generalize hx : l.getD k 0 = x at *
     go_wp2_with fail
     refine (labelSign_any x _).mono ?_
     rintro e w1 ⟨rfl, rfl⟩
     cases hs : signOk x with
     | true =>
      go_wp2
      exact ⟨⟨k + 1, by omega, by go_num, UC (UB hone hs)⟩, by simp [intOf]; omega⟩
     | false =>
      have hq := UB hnok hs
      subst hq
      go_wp2
      go_ret
      exact ⟨rfl, rfl⟩
    ·obtain rfl : k = n := by omega
     have hq := UB hyes (UB hall)
     subst hq
     go_wp2
     go_ret
     exact ⟨rfl, rfl⟩
set_option maxHeartbeats 400000 in
set_option maxRecDepth 100000 in
theorem VP {v : Value} {n : List (List Int)} {w : World} (h : HasL w v n) :
  Calls Tryz.prog 52 #[.agg #[v]] w fun e w' => e = .returned (.bool (nameOk n)) ∧ Below w.heap.size w w' := by
 obtain ⟨a, cap, rfl, hl, hm⟩ := h.form
 unfold maxLen at hm
 by_cases h1 : 6 < n.length
 ·rw [nameOk_long h1]
  have H := UC h
  clear h
  generalize hn : n.length = m at *
  have HN := UC hn
  clear hn
  go_enter Tryz.func52, Tryz.ntmps52
  go_wp2
  go_ret
  exact ⟨rfl, UI _⟩
 ·have h2 : n.length ≤ 6 := by omega
  have hA := h.below (UI (.cells #[.slice a n.length cap] 46))
  have H := UC h
  clear h
  have hyes := UC (fun (hs : ∀ j, j < n.length → labelOk (n.getD j []) = true) => nameOk_yes (n := n) h2 hs)
  have hno := UC (fun (j : Nat) (hj : j < n.length) (hs : labelOk (n.getD j []) = false) => nameOk_label hj hs)
  generalize hok : nameOk n = ok at *
  clear hok
  generalize hn : n.length = m at *
  have HN := UC hn
  clear hn
  go_enter Tryz.func52, Tryz.ntmps52
  go_wp2
  go_loop [12] (fun i => ∃ k : Nat, k ≤ m ∧ i = .int .i64 k ∧ Hid (∀ j, j < k → labelOk (n.getD j []) = true)) (fun i => m - (intOf i).toNat)
  case atStart => exact ⟨0, Nat.zero_le _, rfl, UC (fun j hj => absurd hj (Nat.not_lt_zero _))⟩
  case round =>
   obtain ⟨k, hk, rfl, hall⟩ := hrel
   by_cases hlt : k < m
   ·obtain ⟨b, off, u, rfl, hbl, hc, hu⟩ := hA.here (k := k) (by rw [UB HN]; exact hlt)
    have hone := UC (fun (hs : labelOk (n.getD k []) = true) => (show ∀ j, j < k + 1 → labelOk (n.getD j []) = true from fun j hj => by
      by_cases e : j = k
      ·subst e; exact hs
      ·exact UB hall j (by omega)))
    have hnok := UC (fun (hs : labelOk (n.getD k []) = false) => UB hno k hlt hs)
    generalize hx : n.getD k [] = x at *
    have HU := UC hu
    obtain ⟨ua, uc, rfl, _⟩ := hu.form
    clear hu
    go_wp2_with fail
    refine (implLabelOk_has (UB HU)).mono ?_
    rintro e w1 ⟨rfl, rfl⟩
    cases hs : labelOk x with
    | true =>
     go_wp2
     exact ⟨⟨k + 1, by omega, by go_num, UC (UB hone hs)⟩, by simp [intOf]; omega⟩
    | false =>
     have hq := UB hnok hs
     subst hq
     go_wp2
     go_ret
     exact ⟨rfl, UI _⟩
   ·obtain rfl : k = m := by omega
    have hq := UB hyes (UB hall)
    subst hq
    go_wp2
    go_ret
    exact ⟨rfl, UI _⟩
set_option maxHeartbeats 400000
set_option maxRecDepth 100000

theorem bytesCompare_has {v v' : Value} {l l' : List Int} {w : World} (h : Has w v l) (h' : Has w v' l') :
  Calls Tryz.prog 114 #[v, v'] w fun e w' => e = .returned (.int .i64 (cmpB l l')) ∧ w = w' := by
 go_enter Tryz.func114, Tryz.ntmps114
 go_wp2
 rw [run_callFunc_extern Tryz.func129 (by kernel_rfl) (by kernel_rfl) (by kernel_rfl) (e := Extern.BytealgCompare.compare) (by kernel_rfl), run_compare_has h h']
 simp only [Result.andThen]
 rw [Oper.upon_value]
 go_wp2
 go_ret
 exact ⟨rfl, rfl⟩

theorem isNaN_int (x : Int) (w : World) :
  Calls Tryz.prog 126 #[.int .i64 x] w fun e w' => e = .returned (.bool false) ∧ w = w' := by
 go_enter Tryz.func126, Tryz.ntmps126
 go_wp2
 go_ret
 exact ⟨rfl, rfl⟩

theorem cmpCompare_int (x y : Int) (w : World) :
  Calls Tryz.prog 108 #[.int .i64 x, .int .i64 y] w fun e w' => e = .returned (.int .i64 (byLength x y)) ∧ w = w' := by
 unfold byLength
 by_cases h1 : x < y
 ·rw [if_pos h1]
  go_enter Tryz.func108, Tryz.ntmps108
  go_wp2_with fail
  refine (isNaN_int x _).mono ?_
  rintro e w1 ⟨rfl, rfl⟩
  go_wp2_with fail
  refine (isNaN_int y _).mono ?_
  rintro e w1 ⟨rfl, rfl⟩
  go_wp2
  go_ret
  exact ⟨rfl, rfl⟩
 ·rw [if_neg h1]
  by_cases h2 : y < x
  ·rw [if_pos h2]
   go_enter Tryz.func108, Tryz.ntmps108
   go_wp2_with fail
   refine (isNaN_int x _).mono ?_
   rintro e w1 ⟨rfl, rfl⟩
   go_wp2_with fail
   refine (isNaN_int y _).mono ?_
   rintro e w1 ⟨rfl, rfl⟩
   go_wp2
   go_ret
   exact ⟨rfl, rfl⟩
  ·rw [if_neg h2]
   go_enter Tryz.func108, Tryz.ntmps108
   go_wp2_with fail
   refine (isNaN_int x _).mono ?_
   rintro e w1 ⟨rfl, rfl⟩
   go_wp2_with fail
   refine (isNaN_int y _).mono ?_
   rintro e w1 ⟨rfl, rfl⟩
   go_wp2
   go_ret
   exact ⟨rfl, rfl⟩
theorem bytesCompare_quiet {v v' : Value} {l l' : List Int} {w : World} (h : Has w v l) (h' : Has w v' l') (n : Nat) :
  Calls Tryz.prog 114 #[v, v'] (w.drewN n) fun e w'' => e = .returned (.int .i64 (cmpB l l')) ∧ ∃ m, w'' = w.drewN m :=
 (bytesCompare_has (h.below (below_draws n)) (h'.below (below_draws n))).mono fun e w' ⟨he, hw⟩ => ⟨he, n, hw.symm⟩

set_option maxHeartbeats 2000000 in
set_option maxRecDepth 100000 in
theorem implNameCmp_has {v v' : Value} {n n' : List (List Int)} {w : World} (h : HasL w v n) (h' : HasL w v' n') :
  Calls Tryz.prog 107 #[.agg #[v], .agg #[v']] w fun e w' => e = .returned (.int .i64 (nameCmp n n')) ∧ Below w.heap.size w w' := by
 obtain ⟨a, cap, rfl, _⟩ := h.form
 obtain ⟨a', cap', rfl, _⟩ := h'.form
 have b1 := UI (w := w) (.cells #[.slice a n.length cap] 46)
 have k1 := heap_alloc_new w (.cells #[.slice a n.length cap] 46)
 have e1 : (w.alloc (.cells #[.slice a n.length cap] 46)).heap.size = w.heap.size + 1 := by show (w.heap.push _).size = _; simp
 have b2 := UI (w := w.alloc (.cells #[.slice a n.length cap] 46)) (.cells #[.slice a' n'.length cap'] 46)
 have x2 := heap_alloc_new (w.alloc (.cells #[.slice a n.length cap] 46)) (.cells #[.slice a' n'.length cap'] 46)
 have k2 := UE b2 k1
 rw [e1] at x2
 have bb2 := UG b1 b2
 have h2 := UC (h.below bb2)
 have h2' := UC (h'.below bb2)
 clear h h' b1 b2 k1 e1
 unfold nameCmp
 cases hok : nameOk n with
 | false =>
  rw [if_neg (by simp)]
  have HOK := UC hok
  clear hok
  go_enter Tryz.func107, Tryz.ntmps107
  go_wp2_with fail
  generalize (w.alloc (.cells #[.slice a n.length cap] 46)).alloc (.cells #[.slice a' n'.length cap'] 46) = W at *
  refine (VP (UB h2)).mono ?_
  rw [UB HOK]
  rintro e w3 ⟨rfl, b3⟩
  go_wp2_with fail
  go_ret
  exact ⟨rfl, UG bb2 b3⟩
 | true =>
  cases hok' : nameOk n' with
  | false =>
   rw [if_neg (by simp)]
   have HOK := UC hok
   have HOK' := UC hok'
   clear hok hok'
   go_enter Tryz.func107, Tryz.ntmps107
   go_wp2_with fail
   generalize (w.alloc (.cells #[.slice a n.length cap] 46)).alloc (.cells #[.slice a' n'.length cap'] 46) = W at *
   refine (VP (UB h2)).mono ?_
   rw [UB HOK]
   rintro e w3 ⟨rfl, b3⟩
   have x3 := US (UE b3 x2)
   go_wp2_with fail
   refine (VP ((UB h2').below b3)).mono ?_
   rw [UB HOK']
   rintro e w4 ⟨rfl, b4⟩
   go_wp2_with fail
   go_ret
   exact ⟨rfl, UG bb2 (UG b3 b4)⟩
  | true =>
   rw [if_pos ⟨rfl, rfl⟩]
   have hs := (nameOk_parts hok).1
   have hs' := (nameOk_parts hok').1
   have HOK := UC hok
   have HOK' := UC hok'
   clear hok hok'
   have HIT := UC (fun (k : Nat) => cmpN_hit (a := n) (b := n') (k := k))
   have NON := UC (fun (k : Nat) => cmpN_none (a := n) (b := n') (k := k))
   have HAT := UC (atEnd_eq n n')
   generalize hR : cmpN n n' = R at *
   clear hR
   generalize hC : atEnd n n' = C at *
   clear hC
   go_enter Tryz.func107, Tryz.ntmps107
   go_wp2_with fail
   generalize (w.alloc (.cells #[.slice a n.length cap] 46)).alloc (.cells #[.slice a' n'.length cap'] 46) = W0 at *
   refine (VP (UB h2)).mono ?_
   rw [UB HOK]
   rintro e w3 ⟨rfl, b3⟩
   have x3 := US (UE b3 x2)
   go_wp2_with fail
   refine (VP ((UB h2').below b3)).mono ?_
   rw [UB HOK']
   rintro e W ⟨rfl, b4⟩
   have b4 := UG b3 b4
   have x4 := UE b4 x2
   have k4 := UE b4 k2
   have h4 := UC ((UB h2).below b4)
   have h4' := UC ((UB h2').below b4)
   have bb4 := UG bb2 b4
   clear x3 x2 k2 h2 h2' b3 b4 bb2 HOK HOK'
   generalize hn : n.length = m at *
   have HN := UC hn
   clear hn
   generalize hn' : n'.length = m' at *
   have HN' := UC hn'
   clear hn'
   have X4 := UC x4
   have K4 := UC k4
   clear x4 k4
   go_wp2
   go_loopw [5] (fun i wr => ∃ k : Nat, 1 ≤ k ∧ k ≤ m + 1 ∧ k ≤ m' + 1 ∧ i = .int .i64 k ∧ Hid (∀ j, 1 ≤ j → j < k → C j = 0) ∧ Below W.heap.size W wr) (fun i _ => m + 1 - (intOf i).toNat)
   case atStart => exact ⟨1, Nat.le_refl _, by omega, by omega, rfl, UC (fun j h1 h2 => absurd h2 (by omega)), Below.refl _ _⟩
   case round =>
    obtain ⟨k, hk1, hk2, hk3, rfl, hall, hb⟩ := hrel
    have c1 := US (UE hb (UB K4))
    have c2 := US (UE hb (UB X4))
    by_cases hlt : k ≤ m ∧ k ≤ m'
    ·obtain ⟨hlt, hlt'⟩ := hlt
     obtain ⟨b, off, u, rfl, hbl, hc, hu⟩ := ((UB h4).below hb).here (k := m - k) (by rw [UB HN]; omega)
     obtain ⟨b', off', u', rfl, hbl', hc', hu'⟩ := ((UB h4').below hb).here (k := m' - k) (by rw [UB HN']; omega)
     have hat := UC (UB HAT k)
     have hhit := UC (fun (hz : C k ≠ 0) => UB HIT k hk1 hlt hlt' (UB hall) hz)
     have hone := UC (fun (hz : C k = 0) => (show ∀ j, 1 ≤ j → j < k + 1 → C j = 0 from fun j h1 h2 => by
       by_cases e : j = k
       ·subst e; exact hz
       ·exact UB hall j h1 (by omega)))
     generalize n.getD (m - k) [] = lab at *
     generalize n'.getD (m' - k) [] = lab' at *
     obtain ⟨j, hj⟩ : ∃ j : Nat, m - k = j := ⟨_, rfl⟩
     obtain ⟨j', hj'⟩ : ∃ j' : Nat, m' - k = j' := ⟨_, rfl⟩
     rw [hj] at hc
     rw [hj'] at hc'
     have s1 : (m : Int) - k = j := by omega
     have s2 : (m' : Int) - k = j' := by omega
     have jl : j < m := by omega
     have jl' : j' < m' := by omega
     have wj : IntKind.i64.wrap (j : Int) = j := wrap_small j (by omega)
     have wj' : IntKind.i64.wrap (j' : Int) = j' := wrap_small j' (by omega)
     have HU := UC hu
     have HU' := UC hu'
     obtain ⟨ua, uc, rfl, _⟩ := hu.form
     obtain ⟨ua', uc', rfl, _⟩ := hu'.form
     clear hu hu'
     have i1 : (k : Int) ≤ min (m : Int) m' := by omega
     go_wp2
     all_goals
      go_quiet (first | (exact bytesCompare_quiet (UB HU) (UB HU') _))
      clear wj wj' s1 s2 hj hj' jl jl' hc hc' c1 c2 i1
      have bb := UG hb (below_draws (w := wr) nq)
      have hcs := cmpB_cases lab lab'
      generalize cmpB lab lab' = c at *
      rcases hcs with rfl | rfl | rfl
      ·have hr := UB hhit (by rw [UB hat]; omega)
       rw [UB hat] at hr
       subst hr
       go_wp2
       go_ret
       exact ⟨rfl, UG bb4 bb⟩
      ·go_wp2
       exact ⟨⟨k + 1, by omega, by omega, by omega, by go_num, UC (UB hone (UB hat)), bb⟩, by simp [intOf]; omega⟩
      ·have hr := UB hhit (by rw [UB hat]; omega)
       rw [UB hat] at hr
       subst hr
       go_wp2
       go_ret
       exact ⟨rfl, UG bb4 bb⟩
    ·have hr := UB NON k (by omega) (UB hall)
     have i1 : ¬ (k : Int) ≤ min (m : Int) m' := by omega
     go_wp2_with fail
     all_goals
      refine (cmpCompare_int (m : Int) (m' : Int) _).mono ?_
      rintro e w5 ⟨rfl, rfl⟩
      go_wp2_with fail
      go_ret
      exact ⟨by rw [hr]; rfl, UG bb4 hb⟩
set_option maxHeartbeats 1000000 in
set_option maxRecDepth 100000 in
theorem ofOneSet_has {vn vt vx vi un ut ux ui : Value} {a b : Rec} {w : World} (h : HasR w vn vt vx vi a) (h' : HasR w un ut ux ui b) :
  Calls Tryz.prog 83 #[.agg #[vn, .int .i64 a.type, .int .i64 a.ttl, .int .i64 a.addr, vt, vx, vi], .agg #[un, .int .i64 b.type, .int .i64 b.ttl, .int .i64 b.addr, ut, ux, ui]] w fun e w' => e = .returned (.bool (oneB a b)) ∧ Below w.heap.size w w' := by
 obtain ⟨na, nc, rfl, _⟩ := h.name.form
 obtain ⟨ta, tc, rfl, _⟩ := h.to.form
 obtain ⟨xa, xc, rfl, _⟩ := h.text.form
 obtain ⟨ia, ic, rfl, _⟩ := h.nums.form
 obtain ⟨na', nc', rfl, _⟩ := h'.name.form
 obtain ⟨ta', tc', rfl, _⟩ := h'.to.form
 obtain ⟨xa', xc', rfl, _⟩ := h'.text.form
 obtain ⟨ia', ic', rfl, _⟩ := h'.nums.form
 have b0 := below2 w (.cells #[.slice na a.name.length nc, .int .i64 a.type, .int .i64 a.ttl, .int .i64 a.addr, .slice ta a.to.length tc, .slice xa a.text.length xc, .slice ia a.nums.length ic] 67) (.cells #[.slice na' b.name.length nc', .int .i64 b.type, .int .i64 b.ttl, .int .i64 b.addr, .slice ta' b.to.length tc', .slice xa' b.text.length xc', .slice ia' b.nums.length ic'] 67)
 obtain ⟨hsz, k0, x0⟩ := box2 w (.cells #[.slice na a.name.length nc, .int .i64 a.type, .int .i64 a.ttl, .int .i64 a.addr, .slice ta a.to.length tc, .slice xa a.text.length xc, .slice ia a.nums.length ic] 67) #[.slice na' b.name.length nc', .int .i64 b.type, .int .i64 b.ttl, .int .i64 b.addr, .slice ta' b.to.length tc', .slice xa' b.text.length xc', .slice ia' b.nums.length ic'] 67
 have NC := implNameCmp_has (h.below b0).name (h'.below b0).name
 obtain ⟨d0, d1, d2, d3, d4, d5, d6⟩ := UJ k0
 obtain ⟨f0, f1, f2, f3, f4, f5, f6⟩ := UJ x0
 clear h h' k0 x0 hsz
 unfold oneB
 generalize nameCmp a.name b.name = N at *
 generalize a.type = T1 at *
 generalize b.type = T2 at *
 generalize a.ttl = L1 at *
 generalize b.ttl = L2 at *
 replace NC := UC NC
 by_cases e1 : T1 = T2
 ·subst e1
  rw [decide_eq_true rfl, Bool.true_and]
  by_cases e2 : L1 = L2
  ·subst e2
   rw [decide_eq_true rfl, Bool.true_and]
   by_cases e3 : N = 0
   ·subst e3
    rw [decide_eq_true rfl]
    go_enter Tryz.func83, Tryz.ntmps83
    go_wp2_with fail
    refine (UB NC).mono ?_
    rintro e w1 ⟨rfl, b1⟩
    go_wp2_with fail
    go_ret
    exact ⟨rfl, UG b0 b1⟩
   ·have q3 : (N == 0) = false := by rw [beq_eq_false_iff_ne]; exact e3
    rw [decide_eq_false e3]
    clear e3
    go_enter Tryz.func83, Tryz.ntmps83
    go_wp2_with fail
    refine (UB NC).mono ?_
    rintro e w1 ⟨rfl, b1⟩
    go_wp2_with fail
    go_ret
    exact ⟨rfl, UG b0 b1⟩
  ·have q2 : (L1 == L2) = false := by rw [beq_eq_false_iff_ne]; exact e2
   rw [decide_eq_false e2, Bool.false_and]
   clear e2
   go_enter Tryz.func83, Tryz.ntmps83
   go_wp2_with fail
   go_ret
   exact ⟨rfl, b0⟩
 ·have q1 : (T1 == T2) = false := by rw [beq_eq_false_iff_ne]; exact e1
  rw [decide_eq_false e1, Bool.false_and]
  clear e1
  go_enter Tryz.func83, Tryz.ntmps83
  go_wp2_with fail
  go_ret
  exact ⟨rfl, b0⟩
set_option maxHeartbeats 400000
set_option maxRecDepth 100000

theorem upTo_yes {n m : Int} (w : World) (h0 : 0 ≤ n) (h1 : n ≤ m) : Calls Tryz.prog 36 #[.int .i64 n, .int .i64 m] w fun e w' => e = .returned (.bool true) ∧ w = w' := by
 go_enter Tryz.func36, Tryz.ntmps36
 go_wp2
 go_ret
 exact ⟨rfl, rfl⟩

theorem upTo_no {n m : Int} (w : World) (h : n < 0 ∨ m < n) : Calls Tryz.prog 36 #[.int .i64 n, .int .i64 m] w fun e w' => e = .returned (.bool false) ∧ w = w' := by
 by_cases h0 : n < 0
 ·go_enter Tryz.func36, Tryz.ntmps36
  go_wp2
  go_ret
  exact ⟨rfl, rfl⟩
 ·have h1 : m < n := by omega
  have h2 : decide (n ≤ m) = false := decide_eq_false (by omega)
  go_enter Tryz.func36, Tryz.ntmps36
  go_wp2
  go_ret
  exact ⟨rfl, rfl⟩
theorem upTo_any (n m : Int) (w : World) : Calls Tryz.prog 36 #[.int .i64 n, .int .i64 m] w fun e w' => e = .returned (.bool (decide (0 ≤ n ∧ n ≤ m))) ∧ w = w' := by
 by_cases h : 0 ≤ n ∧ n ≤ m
 ·rw [decide_eq_true h]; exact upTo_yes w h.1 h.2
 ·rw [decide_eq_false h]; exact upTo_no w (by omega)
set_option maxHeartbeats 800000
set_option maxRecDepth 100000

theorem addrOk_any (a : Int) (w : World) : Calls Tryz.prog 188 #[.agg #[.int .i64 a]] w fun e w' => e = .returned (.bool (decide (0 ≤ a ∧ a ≤ 4294967295))) ∧ Below w.heap.size w w' := by
 have b0 := UI (w := w) (.cells #[.int .i64 a] 143)
 have hU := UC (upTo_any a 4294967295)
 generalize decide (0 ≤ a ∧ a ≤ 4294967295) = D at *
 go_enter Tryz.func188, Tryz.ntmps188
 go_wp2_with fail
 refine (UB hU _).mono ?_
 rintro e w1 ⟨rfl, rfl⟩
 go_wp2
 go_ret
 exact ⟨rfl, b0⟩

theorem nameOkM_has {v : Value} {n : List (List Int)} {w : World} (h : HasL w v n) : Calls Tryz.prog 193 #[.agg #[v]] w fun e w' => e = .returned (.bool (nameOk n)) ∧ Below w.heap.size w w' := by
 obtain ⟨a, cap, rfl, _⟩ := h.form
 have b0 := UI (w := w) (.cells #[.slice a n.length cap] 145)
 have hU := UC (VP (h.below b0))
 clear h
 generalize nameOk n = D at *
 go_enter Tryz.func193, Tryz.ntmps193
 go_wp2_with fail
 refine (UB hU).mono ?_
 rintro e w1 ⟨rfl, b1⟩
 go_wp2
 go_ret
 exact ⟨rfl, UG b0 b1⟩

theorem textOk_has {v : Value} {l : List Int} {w : World} (h : Has w v l) : Calls Tryz.prog 203 #[.agg #[v]] w fun e w' => e = .returned (.bool (decide (l.length ≤ 40))) ∧ Below w.heap.size w w' := by
 obtain ⟨a, cap, rfl, _⟩ := h.form
 have b0 := UI (w := w) (.cells #[.slice a l.length cap] 149)
 clear h
 have e : decide (l.length ≤ 40) = decide ((l.length : Int) ≤ 40) := decide_eq_decide.2 (by omega)
 rw [e]
 go_enter Tryz.func203, Tryz.ntmps203
 go_wp2
 go_ret
 exact ⟨rfl, b0⟩

def numsOk (nu : List Int) : Bool := decide (nu.length = 2 ∧ 0 ≤ nu.getD 0 0 ∧ nu.getD 0 0 ≤ 4294967295 ∧ 0 ≤ nu.getD 1 0 ∧ nu.getD 1 0 ≤ 100000)

theorem soaOk_has {v vi : Value} {n : List (List Int)} {nu : List Int} {w : World} (h : HasL w v n) (hi : HasI w vi nu) : Calls Tryz.prog 199 #[.agg #[v, vi]] w fun e w' => e = .returned (.bool (nameOk n && numsOk nu)) ∧ Below w.heap.size w w' := by
 obtain ⟨a, cap, rfl, _⟩ := h.form
 obtain ⟨ia, ic, rfl, _⟩ := hi.form
 have b0 := UI (w := w) (.cells #[.slice a n.length cap, .slice ia nu.length ic] 147)
 have k0 := heap_alloc_new w (.cells #[.slice a n.length cap, .slice ia nu.length ic] 147)
 have hU := UC (VP (h.below b0))
 have I0 := UC (hi.below b0)
 clear h hi
 generalize nameOk n = D at *
 cases D with
 | false =>
  rw [Bool.false_and]
  go_enter Tryz.func199, Tryz.ntmps199
  go_wp2_with fail
  refine (UB hU).mono ?_
  rintro e w1 ⟨rfl, b1⟩
  go_wp2
  go_ret
  exact ⟨rfl, UG b0 b1⟩
 | true =>
  rw [Bool.true_and]
  by_cases h2 : nu.length = 2
  ·obtain ⟨x, y, rfl⟩ := two_of h2
   have e : numsOk [x, y] = (decide (0 ≤ x ∧ x ≤ 4294967295) && decide (0 ≤ y ∧ y ≤ 100000)) := by
    unfold numsOk
    rw [← Bool.decide_and]
    apply decide_eq_decide.2
    simp
    omega
   rw [e]
   simp only [List.length_cons, List.length_nil, Nat.zero_add, Nat.reduceAdd] at *
   have hX := UC (upTo_any x 4294967295)
   have hY := UC (upTo_any y 100000)
   generalize decide (0 ≤ x ∧ x ≤ 4294967295) = DX at *
   generalize decide (0 ≤ y ∧ y ≤ 100000) = DY at *
   clear h2 e
   cases DX with
   | false =>
    rw [Bool.false_and]
    go_enter Tryz.func199, Tryz.ntmps199
    go_wp2_with fail
    generalize w.alloc (.cells #[.slice a n.length cap, .slice ia 2 ic] 147) = W at *
    refine (UB hU).mono ?_
    rintro e w1 ⟨rfl, b1⟩
    have k1 := UE b1 k0
    have c0 := VE k1 0
    have c1 := VE k1 1
    simp only [List.getElem?_toArray, List.getElem?_cons_zero, List.getElem?_cons_succ] at c0 c1
    obtain ⟨g, off, cp, hv, _, n0, n1⟩ := ((UB I0).below b1).two
    simp only [Value.slice.injEq] at hv
    obtain ⟨rfl, _, rfl⟩ := hv
    go_wp2_with fail
    refine (UB hX _).mono ?_
    rintro e w2 ⟨rfl, rfl⟩
    go_wp2_with fail
    go_ret
    exact ⟨rfl, UG b0 b1⟩
   | true =>
    rw [Bool.true_and]
    go_enter Tryz.func199, Tryz.ntmps199
    go_wp2_with fail
    generalize w.alloc (.cells #[.slice a n.length cap, .slice ia 2 ic] 147) = W at *
    refine (UB hU).mono ?_
    rintro e w1 ⟨rfl, b1⟩
    have k1 := UE b1 k0
    have c0 := VE k1 0
    have c1 := VE k1 1
    simp only [List.getElem?_toArray, List.getElem?_cons_zero, List.getElem?_cons_succ] at c0 c1
    obtain ⟨g, off, cp, hv, _, n0, n1⟩ := ((UB I0).below b1).two
    simp only [Value.slice.injEq] at hv
    obtain ⟨rfl, _, rfl⟩ := hv
    go_wp2_with fail
    refine (UB hX _).mono ?_
    rintro e w2 ⟨rfl, rfl⟩
    go_wp2_with fail
    refine (UB hY _).mono ?_
    rintro e w2 ⟨rfl, rfl⟩
    go_wp2_with fail
    go_ret
    exact ⟨rfl, UG b0 b1⟩
  ·have e : numsOk nu = false := decide_eq_false (fun hh => h2 hh.1)
   rw [e]
   have h22 : ((nu.length : Int) == 2) = false := by rw [beq_eq_false_iff_ne]; omega
   go_enter Tryz.func199, Tryz.ntmps199
   go_wp2_with fail
   generalize w.alloc (.cells #[.slice a n.length cap, .slice ia nu.length ic] 147) = W at *
   refine (UB hU).mono ?_
   rintro e w1 ⟨rfl, b1⟩
   have k1 := UE b1 k0
   have c0 := VE k1 0
   have c1 := VE k1 1
   simp only [List.getElem?_toArray, List.getElem?_cons_zero, List.getElem?_cons_succ] at c0 c1
   go_wp2_with fail
   go_ret
   exact ⟨rfl, UG b0 b1⟩
end Go.Proofs.YtaehfeobfkaicaaGreat
