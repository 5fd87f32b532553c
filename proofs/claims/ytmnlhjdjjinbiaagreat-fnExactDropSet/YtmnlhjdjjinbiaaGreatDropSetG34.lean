/-
  Contracts of the specification's LabelOk. Contracts of the specification's NameOk. Contracts of the specification's l2bytes and l2cmp. Contract of the specification's l5all.
-/
import Derived.Test.YtmnlhjdjjinbiaaGreatDropSetG03
import Derived.Test.YtmnlhjdjjinbiaaGreatDropSetG00
import Derived.Test.YtmnlhjdjjinbiaaGreatDropSetG13
import Derived.Test.YtmnlhjdjjinbiaaGreatDropSetG09
import Derived.WalkLawsBesides
import Derived.Test.YtmnlhjdjjinbiaaGreatDropSetG19
import Derived.Test.YtmnlhjdjjinbiaaGreatDropSetG33
import Derived.Test.YtmnlhjdjjinbiaaGreatDropSetG05
import Derived.Deep.RegionHeld3
import Derived.RangeFuncBox
namespace Go.Proofs.YtmnlhjdjjinbiaaGreat
open Go.RowKit
set_option linter.unusedVariables false

theorem ssign_cases (c : Int) : (97 ≤ c ∧ c ≤ 122) ∨ (97 ≤ c ∧ 122 < c) ∨ (c < 97 ∧ 48 ≤ c ∧ c ≤ 57) ∨ (c < 97 ∧ 48 ≤ c ∧ 57 < c ∧ c ≠ 45) ∨ (c < 97 ∧ c < 48 ∧ c = 45) ∨ (c < 97 ∧ c < 48 ∧ c ≠ 45) := by omega

set_option maxHeartbeats 1600000 in
set_option maxRecDepth 100000 in
theorem specLabelOk_has {v : Value} {l : List Int} {w : World} (h : Has w v l) :
    Calls Tryz.prog 98 #[v] w fun e w' => e = .returned (.bool (labelOk l)) ∧ w = w' := by
  have hbd := h.bound
  unfold maxLen at hbd
  obtain ⟨a, cap, rfl, hL⟩ := h.form
  by_cases h0 : l.length = 0
  · rw [labelOk_short (by omega), h0]
    go_enter Tryz.func98, Tryz.ntmps98
    go_wp2
    go_ret
    exact ⟨rfl, rfl⟩
  · by_cases h1 : 15 < l.length
    · rw [labelOk_short (by omega)]
      generalize hn : l.length = n at *
      go_enter Tryz.func98, Tryz.ntmps98
      go_wp2
      go_ret
      exact ⟨rfl, rfl⟩
    · have h2 : l.length ≤ 15 := by omega
      have hyes := hide (fun (hs : ∀ j, j < l.length → signOk (l.getD j 0) = true) => labelOk_yes (l := l) (by omega) h2 hs)
      have hno := hide (fun (j : Nat) (hj : j < l.length) (hs : signOk (l.getD j 0) = false) => labelOk_sign hj hs)
      generalize hok : labelOk l = ok at *
      clear hok
      generalize hn : l.length = n at *
      have HN := hide hn
      clear hn
      have hn1 : (1 : Int) ≤ n := by omega
      go_enter Tryz.func98, Tryz.ntmps98
      go_wp2
      go_loop [3] (fun i => ∃ k : Nat, k ≤ n ∧ i = .int .i64 k ∧ Hid (∀ j, j < k → signOk (l.getD j 0) = true)) (fun i => n - (intOf i).toNat)
      case atStart => exact ⟨0, Nat.zero_le _, rfl, hide (fun j hj => absurd hj (Nat.not_lt_zero _))⟩
      case round =>
        obtain ⟨k, hk, rfl, hall⟩ := hrel
        by_cases hlt : k < n
        · obtain ⟨b, off, rfl, hbl, hc⟩ := hL.here (k := k) (by rw [unhide HN]; exact hlt)
          have hone := hide (fun (hs : signOk (l.getD k 0) = true) => (show ∀ j, j < k + 1 → signOk (l.getD j 0) = true from fun j hj => by
            by_cases e : j = k
            · subst e; exact hs
            · exact unhide hall j (by omega)))
          have hnok := hide (fun (hs : signOk (l.getD k 0) = false) => unhide hno k hlt hs)
          generalize hx : l.getD k 0 = x at *
          rcases ssign_cases x with ⟨h1, h2⟩ | ⟨h1, h2⟩ | ⟨h1, h2, h3⟩ | ⟨h1, h2, h3, h4⟩ | ⟨h1, h2, rfl⟩ | ⟨h1, h2, h3⟩
          · have hs : signOk x = true := decide_eq_true (by omega)
            go_wp2
            exact ⟨⟨k + 1, by omega, by go_num, hide (unhide hone hs)⟩, by simp [intOf]; omega⟩
          · have hs : signOk x = false := decide_eq_false (by omega)
            have hq := unhide hnok hs
            subst hq
            have h8 : (x == 45) = false := by simp; omega
            have h5 : 48 ≤ x := by omega
            have h6 : ¬ x ≤ 57 := by omega
            have h7 : ¬ x ≤ 122 := by omega
            go_wp2
            go_ret
            exact ⟨rfl, rfl⟩
          · have hs : signOk x = true := decide_eq_true (by omega)
            have h5 : ¬ 97 ≤ x := by omega
            go_wp2
            exact ⟨⟨k + 1, by omega, by go_num, hide (unhide hone hs)⟩, by simp [intOf]; omega⟩
          · have hs : signOk x = false := decide_eq_false (by omega)
            have hq := unhide hnok hs
            subst hq
            have h8 : (x == 45) = false := by simp; omega
            have h5 : ¬ 97 ≤ x := by omega
            have h6 : ¬ x ≤ 57 := by omega
            go_wp2
            go_ret
            exact ⟨rfl, rfl⟩
          · have hs : signOk 45 = true := rfl
            go_wp2
            exact ⟨⟨k + 1, by omega, by go_num, hide (unhide hone hs)⟩, by simp [intOf]; omega⟩
          · have hs : signOk x = false := decide_eq_false (by omega)
            have hq := unhide hnok hs
            subst hq
            have h8 : (x == 45) = false := by simp; omega
            have h5 : ¬ 97 ≤ x := by omega
            have h6 : ¬ 48 ≤ x := by omega
            go_wp2
            go_ret
            exact ⟨rfl, rfl⟩
        · obtain rfl : k = n := by omega
          have hq := unhide hyes (unhide hall)
          subst hq
          go_wp2
          go_ret
          exact ⟨rfl, rfl⟩
end Go.Proofs.YtmnlhjdjjinbiaaGreat

namespace Go.Proofs.YtmnlhjdjjinbiaaGreat
open Go.RowKit
set_option linter.unusedVariables false

set_option maxHeartbeats 400000 in
set_option maxRecDepth 100000 in
theorem specNameOk_has {v : Value} {n : List (List Int)} {w : World} (h : HasL w v n) :
    Calls Tryz.prog 59 #[.agg #[v]] w fun e w' => e = .returned (.bool (nameOk n)) ∧ Below w.heap.size w w' := by
  obtain ⟨a, cap, rfl, hl, hm⟩ := h.form
  unfold maxLen at hm
  by_cases h1 : 6 < n.length
  · rw [nameOk_long h1]
    have H := hide h
    clear h
    generalize hn : n.length = m at *
    have HN := hide hn
    clear hn
    go_enter Tryz.func59, Tryz.ntmps59
    go_wp2
    go_ret
    exact ⟨rfl, below_alloc _⟩
  · have h2 : n.length ≤ 6 := by omega
    have hA := h.below (below_alloc (.cells #[.slice a n.length cap] 34))
    have H := hide h
    clear h
    have hyes := hide (fun (hs : ∀ j, j < n.length → labelOk (n.getD j []) = true) => nameOk_yes (n := n) h2 hs)
    have hno := hide (fun (j : Nat) (hj : j < n.length) (hs : labelOk (n.getD j []) = false) => nameOk_label hj hs)
    generalize hok : nameOk n = ok at *
    clear hok
    generalize hn : n.length = m at *
    have HN := hide hn
    clear hn
    go_enter Tryz.func59, Tryz.ntmps59
    go_wp2
    go_loop [3] (fun i => ∃ k : Nat, k ≤ m ∧ i = .int .i64 k ∧ Hid (∀ j, j < k → labelOk (n.getD j []) = true)) (fun i => m - (intOf i).toNat)
    case atStart => exact ⟨0, Nat.zero_le _, rfl, hide (fun j hj => absurd hj (Nat.not_lt_zero _))⟩
    case round =>
      obtain ⟨k, hk, rfl, hall⟩ := hrel
      by_cases hlt : k < m
      · obtain ⟨b, off, u, rfl, hbl, hc, hu⟩ := hA.here (k := k) (by rw [unhide HN]; exact hlt)
        have hone := hide (fun (hs : labelOk (n.getD k []) = true) => (show ∀ j, j < k + 1 → labelOk (n.getD j []) = true from fun j hj => by
            by_cases e : j = k
            · subst e; exact hs
            · exact unhide hall j (by omega)))
        have hnok := hide (fun (hs : labelOk (n.getD k []) = false) => unhide hno k hlt hs)
        generalize hx : n.getD k [] = x at *
        have HU := hide hu
        obtain ⟨ua, uc, rfl, _⟩ := hu.form
        clear hu
        go_wp2_with fail
        refine (specLabelOk_has (unhide HU)).mono ?_
        rintro e w1 ⟨rfl, rfl⟩
        cases hs : labelOk x with
        | true =>
          go_wp2
          exact ⟨⟨k + 1, by omega, by go_num, hide (unhide hone hs)⟩, by simp [intOf]; omega⟩
        | false =>
          have hq := unhide hnok hs
          subst hq
          go_wp2
          go_ret
          exact ⟨rfl, below_alloc _⟩
      · obtain rfl : k = m := by omega
        have hq := unhide hyes (unhide hall)
        subst hq
        go_wp2
        go_ret
        exact ⟨rfl, below_alloc _⟩
end Go.Proofs.YtmnlhjdjjinbiaaGreat

namespace Go.Proofs.YtmnlhjdjjinbiaaGreat
open Go.RowKit
set_option linter.unusedVariables false

set_option maxHeartbeats 400000 in
set_option maxRecDepth 100000 in
theorem l2bytes_has {v v' : Value} {l l' : List Int} {w : World} (h : Has w v l) (h' : Has w v' l') :
    Calls Tryz.prog 109 #[v, v'] w fun e w' => e = .returned (.int .i64 (cmpB l l')) ∧ w = w' := by
  have hc := conv_has h
  have hc' := conv_has h'
  have hlt := str_less l l'
  have heq := str_same l l'
  clear h h'
  rcases cmpB_cases l l' with e | e | e
  · rw [e] at hlt heq ⊢
    simp only [decide_true] at hlt
    clear heq e
    go_enter Tryz.func109, Tryz.ntmps109
    go_wp2
    go_ret
    exact ⟨rfl, rfl⟩
  · rw [e] at hlt heq ⊢
    simp only [decide_true] at heq
    rw [decide_eq_false (by omega)] at hlt
    clear e
    go_enter Tryz.func109, Tryz.ntmps109
    go_wp2
    go_ret
    exact ⟨rfl, rfl⟩
  · rw [e] at hlt heq ⊢
    rw [decide_eq_false (by omega)] at hlt heq
    clear e
    go_enter Tryz.func109, Tryz.ntmps109
    go_wp2
    go_ret
    exact ⟨rfl, rfl⟩

theorem l2bytes_quiet {v v' : Value} {l l' : List Int} {w : World} (h : Has w v l) (h' : Has w v' l') (n : Nat) :
    Calls Tryz.prog 109 #[v, v'] (w.drewN n) fun e w'' => e = .returned (.int .i64 (cmpB l l')) ∧ ∃ m, w'' = w.drewN m :=
  (l2bytes_has (h.below (below_draws n)) (h'.below (below_draws n))).mono fun e w' ⟨he, hw⟩ => ⟨he, n, hw.symm⟩

set_option maxHeartbeats 1000000 in
set_option maxRecDepth 100000 in
theorem l2cmp_has {v v' : Value} {n n' : List (List Int)} {w : World} (h : HasL w v n) (h' : HasL w v' n') (hs : n.length ≤ 1048576) (hs' : n'.length ≤ 1048576) :
    Calls Tryz.prog 78 #[.agg #[v], .agg #[v']] w fun e w' => e = .returned (.int .i64 (cmpN n n')) ∧ Below w.heap.size w w' := by
  obtain ⟨a, cap, rfl, hl, hm⟩ := h.form
  obtain ⟨a', cap', rfl, hl', hm'⟩ := h'.form
  unfold maxLen at hm hm'
  have HIT := hide (fun (k : Nat) => cmpN_hit (a := n) (b := n') (k := k))
  have NON := hide (fun (k : Nat) => cmpN_none (a := n) (b := n') (k := k))
  have HAT := hide (atEnd_eq n n')
  generalize hR : cmpN n n' = R at *
  clear hR
  generalize hC : atEnd n n' = C at *
  clear hC
  have b1 := below_alloc (w := w) (.cells #[.slice a n.length cap] 34)
  have k1 := heap_alloc_new w (.cells #[.slice a n.length cap] 34)
  have e1 : (w.alloc (.cells #[.slice a n.length cap] 34)).heap.size = w.heap.size + 1 := by show (w.heap.push _).size = _; simp
  have b2 := below_alloc (w := w.alloc (.cells #[.slice a n.length cap] 34)) (.cells #[.slice a' n'.length cap'] 34)
  have x2 := heap_alloc_new (w.alloc (.cells #[.slice a n.length cap] 34)) (.cells #[.slice a' n'.length cap'] 34)
  have k2 := block_kept b2 k1
  rw [e1] at x2
  have bb2 := below_next b1 b2
  have h2 := hide (h.below bb2)
  have h2' := hide (h'.below bb2)
  have HH := hide h
  have HH' := hide h'
  clear h h' b1 b2 k1 e1
  generalize hn : n.length = m at *
  have HN := hide hn
  clear hn
  generalize hn' : n'.length = m' at *
  have HN' := hide hn'
  clear hn'
  go_enter Tryz.func78, Tryz.ntmps78
  go_wp2
  generalize (w.alloc (.cells #[.slice a m cap] 34)).alloc (.cells #[.slice a' m' cap'] 34) = W at *
  go_loopw [5] (fun i wr => ∃ k : Nat, 1 ≤ k ∧ k ≤ m + 1 ∧ k ≤ m' + 1 ∧ i = .int .i64 k ∧ Hid (∀ j, 1 ≤ j → j < k → C j = 0) ∧ Below W.heap.size W wr) (fun i _ => m + 1 - (intOf i).toNat)
  case atStart => exact ⟨1, Nat.le_refl _, by omega, by omega, rfl, hide (fun j h1 h2 => absurd h2 (by omega)), Below.refl _ _⟩
  case round =>
    obtain ⟨k, hk1, hk2, hk3, rfl, hall, hb⟩ := hrel
    have c1 := block_one (block_kept hb k2)
    have c2 := block_one (block_kept hb x2)
    by_cases hlt : k ≤ m
    · by_cases hlt' : k ≤ m'
      · obtain ⟨b, off, u, rfl, hbl, hc, hu⟩ := ((unhide h2).below hb).here (k := m - k) (by rw [unhide HN]; omega)
        obtain ⟨b', off', u', rfl, hbl', hc', hu'⟩ := ((unhide h2').below hb).here (k := m' - k) (by rw [unhide HN']; omega)
        have hat := hide (unhide HAT k)
        have hhit := hide (fun (hz : C k ≠ 0) => unhide HIT k hk1 hlt hlt' (unhide hall) hz)
        have hone := hide (fun (hz : C k = 0) => (show ∀ j, 1 ≤ j → j < k + 1 → C j = 0 from fun j h1 h2 => by
            by_cases e : j = k
            · subst e; exact hz
            · exact unhide hall j h1 (by omega)))
        generalize n.getD (m - k) [] = lab at *
        generalize n'.getD (m' - k) [] = lab' at *
        obtain ⟨j, hj⟩ : ∃ j : Nat, m - k = j := ⟨_, rfl⟩
        obtain ⟨j', hj'⟩ : ∃ j' : Nat, m' - k = j' := ⟨_, rfl⟩
        rw [hj] at hc
        rw [hj'] at hc'
        have s1 : (m : Int) - k = j := by omega
        have s2 : (m' : Int) - k = j' := by omega
        have jl : j < m := by omega
        have jl' : j' < m' := by omega
        have wj : IntKind.i64.wrap (j : Int) = j := wrap_small j (by omega)
        have wj' : IntKind.i64.wrap (j' : Int) = j' := wrap_small j' (by omega)
        have HU := hide hu
        have HU' := hide hu'
        obtain ⟨ua, uc, rfl, _⟩ := hu.form
        obtain ⟨ua', uc', rfl, _⟩ := hu'.form
        clear hu hu'
        have i1 : (k : Int) ≤ m := by omega
        have i2 : (k : Int) ≤ m' := by omega
        go_wp2
        go_quiet (first | (exact l2bytes_quiet (unhide HU) (unhide HU') _))
        clear wj wj' s1 s2 hj hj' jl jl' hc hc' c1 c2 i1 i2 hl hl' hm hm'
        have bb := below_next hb (below_draws (w := wr) nq)
        have hcs := cmpB_cases lab lab'
        generalize cmpB lab lab' = c at *
        rcases hcs with rfl | rfl | rfl
        · have hr := unhide hhit (by rw [unhide hat]; omega)
          rw [unhide hat] at hr
          subst hr
          go_wp2
          go_ret
          exact ⟨rfl, below_next bb2 bb⟩
        · go_wp2
          exact ⟨⟨k + 1, by omega, by omega, by omega, by go_num, hide (unhide hone (unhide hat)), bb⟩, by simp [intOf]; omega⟩
        · have hr := unhide hhit (by rw [unhide hat]; omega)
          rw [unhide hat] at hr
          subst hr
          go_wp2
          go_ret
          exact ⟨rfl, below_next bb2 bb⟩
      · have hr := unhide NON k (.inr (by omega)) (unhide hall)
        unfold byLength at hr
        rw [if_neg (by omega), if_pos (by omega)] at hr
        subst hr
        have i1 : (k : Int) ≤ m := by omega
        have i2 : ¬ (k : Int) ≤ m' := by omega
        have i3 : ((m : Int) == m') = false := by rw [beq_eq_false_iff_ne]; omega
        have i4 : ¬ (m : Int) < m' := by omega
        go_wp2
        go_ret
        exact ⟨rfl, below_next bb2 hb⟩
    · have i1 : ¬ (k : Int) ≤ m := by omega
      have hr := unhide NON k (.inl (by omega)) (unhide hall)
      unfold byLength at hr
      by_cases he : m = m'
      · subst he
        rw [if_neg (by omega), if_neg (by omega)] at hr
        subst hr
        go_wp2
        go_ret
        exact ⟨rfl, below_next bb2 hb⟩
      · rw [if_pos (by omega)] at hr
        subst hr
        have i3 : ((m : Int) == m') = false := by rw [beq_eq_false_iff_ne]; omega
        have i4 : (m : Int) < m' := by omega
        go_wp2
        go_ret
        exact ⟨rfl, below_next bb2 hb⟩

end Go.Proofs.YtmnlhjdjjinbiaaGreat

namespace Go.Proofs.YtmnlhjdjjinbiaaGreat
open Go.RowKit
set_option linter.unusedVariables false

set_option maxHeartbeats 2000000 in
set_option maxRecDepth 100000 in
theorem l5all_has {vo vr vq : Value} {o n : List (List Int)} {rs : List Rec} {w0 w : World} (t : Int) (h : HasZ w0 vo vr o rs) (hw0 : Below w0.heap.size w0 w) (hq : HasL w vq n) (h60 : rs.length ≤ 60) (hn : n.length ≤ 1048576) (hs : ∀ k, k < rs.length → (rs.getD k recZ).name.length ≤ 1048576) :
    Calls Tryz.prog 101 #[.agg #[vo, vr], .agg #[vq], .int .i64 t] w fun e w' => ∃ v' B, e = .returned v' ∧ RowS B 42 w0 w' v' (selK n t rs rs.length) ∧ Below w.heap.size w w' := by
  obtain ⟨oa, oc, rfl, _⟩ := h.name.form
  obtain ⟨ra, rc, rfl, _⟩ := h.recs.form
  obtain ⟨qa, qc, rfl, _⟩ := hq.form
  obtain ⟨hsz, k0, x0⟩ := box2 w (.cells #[.slice oa o.length oc, .slice ra rs.length rc] 37) #[.slice qa n.length qc] 34
  have b0 := below2 w (.cells #[.slice oa o.length oc, .slice ra rs.length rc] 37) (.cells #[.slice qa n.length qc] 34)
  have HE := hide h
  have B0 := below_next hw0 b0
  have Q0 := hide (hq.below b0)
  have K0 := hide k0
  have X0 := hide x0
  have HSS := hide hs
  have zx := block_lt x0
  clear h hq k0 x0 hs hsz
  generalize hm : rs.length = m at *
  have HN := hide hm
  clear hm
  go_enter Tryz.func101, Tryz.ntmps101
  go_wp2_with fail
  generalize (w.alloc (.cells #[.slice oa o.length oc, .slice ra m rc] 37)).alloc (.cells #[.slice qa n.length qc] 34) = W at *
  go_loopw [7, 8] (fun v i wr => ∃ k : Nat, k ≤ m ∧ i = .int .i64 k ∧ RowS W.heap.size 42 w0 wr v (selK n t rs k) ∧ Below W.heap.size W wr) (fun _ i _ => m - (intOf i).toNat)
  case atStart => exact ⟨0, Nat.zero_le _, rfl, RowS.nil _ _ _ _, Below.refl _ _⟩
  case round =>
    obtain ⟨k, hk, rfl, hrow, hb⟩ := hrel
    obtain ⟨z0, z1⟩ := cells2 (block_kept hb (unhide K0))
    have hsl := selK_length n t rs k
    by_cases hlt : k < m
    · obtain ⟨b, off, na, nc, ta, tc, xa, xc, ia, ic, rfl, hbl, hc, hu⟩ := (unhide HE).recs.here (k := k) (by rw [unhide HN]; exact hlt)
      have hsel : selK n t rs (k + 1) = if selB n t (rs.getD k recZ) = true then selK n t rs k ++ [rs.getD k recZ] else selK n t rs k := rfl
      have HSEL := hide hsel
      have hlk := unhide HSS k hlt
      clear hsel
      generalize hrk : rs.getD k recZ = rk at *
      have HRK := hide hrk
      clear hrk
      have bd := below_next hb (below_drew (w := wr))
      have KD := hide (block_kept bd (unhide K0))
      have XD := hide (block_kept bd (unhide X0))
      have bwd := below_next B0 bd
      have hbld : b < wr.drew.heap.size := Nat.lt_of_lt_of_le hbl bwd.size
      have HC := hide (range_below hc hbl bwd)
      have UD := hide (hu.below bwd).name
      clear bwd
      have QD := hide ((unhide Q0).below bd)
      have CM := fun (w : World) (h1 : HasL w (.slice na rk.name.length nc) rk.name) (h2 : HasL w (.slice qa n.length qc) n) => l2cmp_has h1 h2 hlk hn
      have HU := hide hu
      have HROW := hide hrow
      have hkm : (k : Int) < m := by omega
      clear hc hu hrow
      unfold selB at HSEL
      by_cases hz : cmpN rk.name n = 0
      · rw [hz] at CM HSEL
        replace CM := hide CM
        clear hz
        by_cases h255 : t = 255
        · subst h255
          have hs1 : selK n 255 rs (k + 1) = selK n 255 rs k ++ [rk] := unhide HSEL
          have HS1 := hide hs1
          clear HSEL hs1
          go_wp2_with fail
          refine wp_region_held_drew (S := (fun w' => (w'.cell? ⟨w.heap.size, 0, none⟩ = some (.slice oa o.length oc) ∧ w'.cell? ⟨w.heap.size, 1, none⟩ = some (.slice (some ⟨b, off, none⟩) m rc)) ∧ w'.cell? ⟨w.heap.size + 1, 0, none⟩ = some (.slice qa n.length qc) ∧ (w'.cell? ⟨b, off + k * 7, none⟩ = some (.slice na rk.name.length nc) ∧ w'.cell? ⟨b, off + k * 7 + 1, none⟩ = some (.int .i64 rk.type) ∧ w'.cell? ⟨b, off + k * 7 + 2, none⟩ = some (.int .i64 rk.ttl) ∧ w'.cell? ⟨b, off + k * 7 + 3, none⟩ = some (.int .i64 rk.addr) ∧ w'.cell? ⟨b, off + k * 7 + 4, none⟩ = some (.slice ta rk.to.length tc) ∧ w'.cell? ⟨b, off + k * 7 + 5, none⟩ = some (.slice xa rk.text.length xc) ∧ w'.cell? ⟨b, off + k * 7 + 6, none⟩ = some (.slice ia rk.nums.length ic)))) (by kernel_rfl) ⟨cells2 (unhide KD), block_one (unhide XD), range7 (unhide HC)⟩ (fun hHeld => ?_)
          show wpAnyH _ _ _ _ _ 23 #[false, false, false, false, false, false, false, false, false, false, false, false, false, false, false, false, false, false, false, false, false, false, false] _ _
          refine wpAnyH_take (i := 0) (oi := { dst := some 16, op := Op.fieldAddr 37 (Operand.tmp 3) 1, type := 0, pos := "l05_zone.go:53", after := #[], guard := none }) (v := ?_) rfl (by kernel_rfl) (by kernel_rfl) (by kernel_rfl) (fun _ _ _ h => h) (Or.inl ⟨by rfl, ?_⟩) hHeld ?_
          rotate_left
          · (intro w hSw; (try dsimp only at hSw); go_simp <;> with_reducible rfl)
          try simp only [Act.put, List.setIfInBounds_toArray, List.set_cons_zero, List.set_cons_succ]
          refine wpAnyH_take (i := 1) (oi := { dst := some 17, op := Op.load 35 (Operand.tmp 16), type := 35, pos := "l05_zone.go:53", after := #[{ on := 0, ground := Ground.data }], guard := none }) (v := ?_) rfl (by kernel_rfl) (by kernel_rfl) (by kernel_rfl) (fun _ _ _ h => h) (Or.inl ⟨by rfl, ?_⟩) hHeld ?_
          rotate_left
          · (intro w hSw; (try dsimp only at hSw); go_simp <;> with_reducible rfl)
          try simp only [Act.put, List.setIfInBounds_toArray, List.set_cons_zero, List.set_cons_succ]
          refine wpAnyH_take (i := 2) (oi := { dst := some 18, op := Op.move (Operand.tmp 8), type := 3, pos := "l05_zone.go:53", after := #[], guard := none }) (v := ?_) rfl (by kernel_rfl) (by kernel_rfl) (by kernel_rfl) (fun _ _ _ h => h) (Or.inl ⟨by rfl, ?_⟩) hHeld ?_
          rotate_left
          · (intro w hSw; (try dsimp only at hSw); go_simp <;> with_reducible rfl)
          try simp only [Act.put, List.setIfInBounds_toArray, List.set_cons_zero, List.set_cons_succ]
          refine wpAnyH_take (i := 3) (oi := { dst := some 19, op := Op.indexAddr 35 (Operand.tmp 17) (Operand.tmp 18), type := 0, pos := "l05_zone.go:53", after := #[{ on := 1, ground := Ground.data }, { on := 2, ground := Ground.data }], guard := none }) (v := .pointer (some ⟨b, off + k * 7, none⟩)) rfl (by kernel_rfl) (by kernel_rfl) (by kernel_rfl) (fun _ _ _ h => h) (Or.inl ⟨by rfl, ?_⟩) hHeld ?_
          · (intro w hSw; (try dsimp only at hSw); go_simp)
          try simp only [Act.put, List.setIfInBounds_toArray, List.set_cons_zero, List.set_cons_succ]
          refine wpAnyH_take (i := 4) (oi := { dst := some 20, op := Op.fieldAddr 42 (Operand.tmp 19) 0, type := 0, pos := "l05_zone.go:53", after := #[{ on := 3, ground := Ground.data }], guard := none }) (v := ?_) rfl (by kernel_rfl) (by kernel_rfl) (by kernel_rfl) (fun _ _ _ h => h) (Or.inl ⟨by rfl, ?_⟩) hHeld ?_
          rotate_left
          · (intro w hSw; (try dsimp only at hSw); go_simp <;> with_reducible rfl)
          try simp only [Act.put, List.setIfInBounds_toArray, List.set_cons_zero, List.set_cons_succ]
          refine wpAnyH_take (i := 5) (oi := { dst := some 21, op := Op.load 34 (Operand.tmp 20), type := 34, pos := "l05_zone.go:53", after := #[{ on := 4, ground := Ground.data }], guard := none }) (v := ?_) rfl (by kernel_rfl) (by kernel_rfl) (by kernel_rfl) (fun _ _ _ h => h) (Or.inl ⟨by rfl, ?_⟩) hHeld ?_
          rotate_left
          · (intro w hSw; (try dsimp only at hSw); go_simp <;> with_reducible rfl)
          try simp only [Act.put, List.setIfInBounds_toArray, List.set_cons_zero, List.set_cons_succ]
          refine wpAnyH_take (i := 6) (oi := { dst := some 22, op := Op.load 34 (Operand.tmp 4), type := 34, pos := "l05_zone.go:53", after := #[], guard := none }) (v := ?_) rfl (by kernel_rfl) (by kernel_rfl) (by kernel_rfl) (fun _ _ _ h => h) (Or.inl ⟨by rfl, ?_⟩) hHeld ?_
          rotate_left
          · (intro w hSw; (try dsimp only at hSw); go_simp <;> with_reducible rfl)
          try simp only [Act.put, List.setIfInBounds_toArray, List.set_cons_zero, List.set_cons_succ]
          refine wpAnyH_ready (rs := [7]) (by kernel_rfl) (by simp) (AllReadyH.cons (o := { dst := some 23, op := Op.call { callee := Callee.value (Operand.func 78), args := #[Operand.tmp 21, Operand.tmp 22], argTypes := #[34, 34] }, type := 3, pos := "l05_zone.go:53", after := #[{ on := 5, ground := Ground.data }, { on := 6, ground := Ground.data }], guard := none }) rfl (fun K hK => ?_) AllReadyH.nil)
          have HK := hide hK
          clear hK hHeld
          go_simp
          refine (unhide CM _ (unhide UD) (unhide QD)).mono ?_
          rintro e w2 ⟨rfl, b2⟩
          go_simp
          refine (unhide HK).out _ _ ⟨cells2 (block_kept b2 (unhide KD)), block_one (block_kept b2 (unhide XD)), range7 (range_below (unhide HC) hbld b2)⟩ (fun hHeld => ?_)
          clear HK K
          try simp only [List.setIfInBounds_toArray, List.set_cons_zero, List.set_cons_succ]
          refine wpAnyH_take (i := 8) (oi := { dst := some 24, op := Op.binOp BinOp.eql 3 (Operand.tmp 23) (Operand.const (Value.int IntKind.i64 0)) 3, type := 4, pos := "l05_zone.go:53", after := #[{ on := 7, ground := Ground.data }], guard := none }) (v := ?_) rfl (by kernel_rfl) (by kernel_rfl) (by kernel_rfl) (fun _ _ _ h => h) (Or.inl ⟨by rfl, ?_⟩) hHeld ?_
          rotate_left
          · (intro w hSw; (try dsimp only at hSw); go_simp <;> with_reducible rfl)
          try simp only [Act.put, List.setIfInBounds_toArray, List.set_cons_zero, List.set_cons_succ]
          refine wpAnyH_take (i := 9) (oi := { dst := some 25, op := Op.move (Operand.tmp 24), type := 4, pos := "l05_zone.go:53", after := #[{ on := 8, ground := Ground.data }, { on := 7, ground := Ground.chain }], guard := none }) (v := ?_) rfl (by kernel_rfl) (by kernel_rfl) (by kernel_rfl) (fun _ _ _ h => h) (Or.inl ⟨by rfl, ?_⟩) hHeld ?_
          rotate_left
          · (intro w hSw; (try dsimp only at hSw); go_simp <;> with_reducible rfl)
          try simp only [Act.put, List.setIfInBounds_toArray, List.set_cons_zero, List.set_cons_succ]
          refine wpAnyH_take (i := 10) (oi := { dst := some 26, op := Op.move (Operand.tmp 2), type := 3, pos := "l05_zone.go:53", after := #[{ on := 9, ground := Ground.guard }], guard := some (9, true) }) (v := ?_) rfl (by kernel_rfl) (by kernel_rfl) (by kernel_rfl) (fun _ _ _ h => h) (Or.inl ⟨by rfl, ?_⟩) hHeld ?_
          rotate_left
          · (intro w hSw; (try dsimp only at hSw); go_simp <;> with_reducible rfl)
          try simp only [Act.put, List.setIfInBounds_toArray, List.set_cons_zero, List.set_cons_succ]
          refine wpAnyH_take (i := 11) (oi := { dst := some 27, op := Op.binOp BinOp.eql 3 (Operand.tmp 26) (Operand.const (Value.int IntKind.i64 255)) 3, type := 4, pos := "l05_zone.go:53", after := #[{ on := 10, ground := Ground.data }, { on := 9, ground := Ground.guard }], guard := some (9, true) }) (v := .bool true) rfl (by kernel_rfl) (by kernel_rfl) (by kernel_rfl) (fun _ _ _ h => h) (Or.inl ⟨by rfl, ?_⟩) hHeld ?_
          · (intro w hSw; (try dsimp only at hSw); go_simp)
          try simp only [Act.put, List.setIfInBounds_toArray, List.set_cons_zero, List.set_cons_succ]
          refine wpAnyH_take (i := 12) (oi := { dst := some 28, op := Op.move (Operand.tmp 27), type := 4, pos := "l05_zone.go:53", after := #[{ on := 11, ground := Ground.data }, { on := 9, ground := Ground.chain }, { on := 9, ground := Ground.guard }], guard := some (9, true) }) (v := .bool true) rfl (by kernel_rfl) (by kernel_rfl) (by kernel_rfl) (fun _ _ _ h => h) (Or.inl ⟨by rfl, ?_⟩) hHeld ?_
          · (intro w hSw; (try dsimp only at hSw); go_simp)
          try simp only [Act.put, List.setIfInBounds_toArray, List.set_cons_zero, List.set_cons_succ]
          refine wpAnyH_take (i := 13) (oi := { dst := some 29, op := Op.fieldAddr 37 (Operand.tmp 3) 1, type := 0, pos := "l05_zone.go:53", after := #[{ on := 12, ground := Ground.guard }], guard := some (12, false) }) (v := undef) rfl (by kernel_rfl) (by kernel_rfl) (by kernel_rfl) (fun _ _ _ h => h) (Or.inr ⟨by rfl, rfl⟩) hHeld ?_
          try simp only [Act.put, List.setIfInBounds_toArray, List.set_cons_zero, List.set_cons_succ]
          refine wpAnyH_take (i := 14) (oi := { dst := some 30, op := Op.load 35 (Operand.tmp 29), type := 35, pos := "l05_zone.go:53", after := #[{ on := 13, ground := Ground.data }, { on := 12, ground := Ground.guard }], guard := some (12, false) }) (v := undef) rfl (by kernel_rfl) (by kernel_rfl) (by kernel_rfl) (fun _ _ _ h => h) (Or.inr ⟨by rfl, rfl⟩) hHeld ?_
          try simp only [Act.put, List.setIfInBounds_toArray, List.set_cons_zero, List.set_cons_succ]
          refine wpAnyH_take (i := 15) (oi := { dst := some 31, op := Op.move (Operand.tmp 8), type := 3, pos := "l05_zone.go:53", after := #[{ on := 12, ground := Ground.guard }], guard := some (12, false) }) (v := undef) rfl (by kernel_rfl) (by kernel_rfl) (by kernel_rfl) (fun _ _ _ h => h) (Or.inr ⟨by rfl, rfl⟩) hHeld ?_
          try simp only [Act.put, List.setIfInBounds_toArray, List.set_cons_zero, List.set_cons_succ]
          refine wpAnyH_take (i := 16) (oi := { dst := some 32, op := Op.indexAddr 35 (Operand.tmp 30) (Operand.tmp 31), type := 0, pos := "l05_zone.go:53", after := #[{ on := 14, ground := Ground.data }, { on := 15, ground := Ground.data }, { on := 12, ground := Ground.guard }], guard := some (12, false) }) (v := undef) rfl (by kernel_rfl) (by kernel_rfl) (by kernel_rfl) (fun _ _ _ h => h) (Or.inr ⟨by rfl, rfl⟩) hHeld ?_
          try simp only [Act.put, List.setIfInBounds_toArray, List.set_cons_zero, List.set_cons_succ]
          refine wpAnyH_take (i := 17) (oi := { dst := some 33, op := Op.fieldAddr 42 (Operand.tmp 32) 1, type := 0, pos := "l05_zone.go:53", after := #[{ on := 16, ground := Ground.data }, { on := 12, ground := Ground.guard }], guard := some (12, false) }) (v := undef) rfl (by kernel_rfl) (by kernel_rfl) (by kernel_rfl) (fun _ _ _ h => h) (Or.inr ⟨by rfl, rfl⟩) hHeld ?_
          try simp only [Act.put, List.setIfInBounds_toArray, List.set_cons_zero, List.set_cons_succ]
          refine wpAnyH_take (i := 18) (oi := { dst := some 34, op := Op.load 3 (Operand.tmp 33), type := 3, pos := "l05_zone.go:53", after := #[{ on := 17, ground := Ground.data }, { on := 12, ground := Ground.guard }], guard := some (12, false) }) (v := undef) rfl (by kernel_rfl) (by kernel_rfl) (by kernel_rfl) (fun _ _ _ h => h) (Or.inr ⟨by rfl, rfl⟩) hHeld ?_
          try simp only [Act.put, List.setIfInBounds_toArray, List.set_cons_zero, List.set_cons_succ]
          refine wpAnyH_take (i := 19) (oi := { dst := some 35, op := Op.move (Operand.tmp 2), type := 3, pos := "l05_zone.go:53", after := #[{ on := 12, ground := Ground.guard }], guard := some (12, false) }) (v := undef) rfl (by kernel_rfl) (by kernel_rfl) (by kernel_rfl) (fun _ _ _ h => h) (Or.inr ⟨by rfl, rfl⟩) hHeld ?_
          try simp only [Act.put, List.setIfInBounds_toArray, List.set_cons_zero, List.set_cons_succ]
          refine wpAnyH_take (i := 20) (oi := { dst := some 36, op := Op.binOp BinOp.eql 3 (Operand.tmp 34) (Operand.tmp 35) 3, type := 4, pos := "l05_zone.go:53", after := #[{ on := 18, ground := Ground.data }, { on := 19, ground := Ground.data }, { on := 12, ground := Ground.guard }], guard := some (12, false) }) (v := undef) rfl (by kernel_rfl) (by kernel_rfl) (by kernel_rfl) (fun _ _ _ h => h) (Or.inr ⟨by rfl, rfl⟩) hHeld ?_
          try simp only [Act.put, List.setIfInBounds_toArray, List.set_cons_zero, List.set_cons_succ]
          refine wpAnyH_take (i := 21) (oi := { dst := some 37, op := Op.pick (Operand.tmp 28) (Operand.const (Value.bool true)) (Operand.tmp 36), type := 4, pos := "l05_zone.go:53", after := #[{ on := 12, ground := Ground.data }, { on := 20, ground := Ground.data }, { on := 9, ground := Ground.guard }], guard := some (9, true) }) (v := ?_) rfl (by kernel_rfl) (by kernel_rfl) (by kernel_rfl) (fun _ _ _ h => h) (Or.inl ⟨by rfl, ?_⟩) hHeld ?_
          rotate_left
          · (intro w hSw; (try dsimp only at hSw); go_simp <;> with_reducible rfl)
          try simp only [Act.put, List.setIfInBounds_toArray, List.set_cons_zero, List.set_cons_succ]
          refine wpAnyH_take (i := 22) (oi := { dst := some 38, op := Op.pick (Operand.tmp 25) (Operand.tmp 37) (Operand.const (Value.bool false)), type := 4, pos := "l05_zone.go:53", after := #[{ on := 9, ground := Ground.data }, { on := 21, ground := Ground.data }], guard := none }) (v := ?_) rfl (by kernel_rfl) (by kernel_rfl) (by kernel_rfl) (fun _ _ _ h => h) (Or.inl ⟨by rfl, ?_⟩) hHeld ?_
          rotate_left
          · (intro w hSw; (try dsimp only at hSw); go_simp <;> with_reducible rfl)
          try simp only [Act.put, List.setIfInBounds_toArray, List.set_cons_zero, List.set_cons_succ]
          refine wpAnyH_done (by kernel_rfl) ?_ _
          clear hHeld
          have bw2 := below_next bd b2
          obtain ⟨z0', z1'⟩ := cells2 (block_kept bw2 (unhide K0))
          obtain ⟨c0, c1, c2, c3, c4, c5, c6⟩ := range7 (range_below (unhide HC) hbld b2)
          obtain ⟨xs, hxo, hxs⟩ := unhide HROW
          have hxl : xs.length = (selK n 255 rs k).length * 7 := hxo.1
          have HXO := hide (ownsRow_later hxo (below_next (below_drew (w := wr)) b2))
          have HXS := hide hxs
          have bx := below_alloc (w := w2) (.cells #[.slice na rk.name.length nc, .int .i64 rk.type, .int .i64 rk.ttl, .int .i64 rk.addr, .slice ta rk.to.length tc, .slice xa rk.text.length xc, .slice ia rk.nums.length ic] 42)
          have KX := hide (heap_alloc_new w2 (.cells #[.slice na rk.name.length nc, .int .i64 rk.type, .int .i64 rk.ttl, .int .i64 rk.addr, .slice ta rk.to.length tc, .slice xa rk.text.length xc, .slice ia rk.nums.length ic] 42))
          have BX := hide bx
          have zx2 := bw2.size
          clear hxo hxs bx bd
          go_wp2_with (at_builtin; refine append_rec rfl _ _ 35 42 rfl Tryz.underlying35 _ info_rr rfl W.heap.size _ (selK n 255 rs k).length xs rfl (ownsRow_later (unhide HXO) (unhide BX)) w2.heap.size (cellsR (.slice na rk.name.length nc) (.slice ta rk.to.length tc) (.slice xa rk.text.length xc) (.slice ia rk.nums.length ic) rk) rfl (unhide KX) rfl (by simp [cellsR, Value.oneCell']) (by omega) (Nat.le_trans zx2 (unhide BX).size) ?_)
          intro v3 w3 o3 g3
          have bw3 : Below W.heap.size W w3 := (below_next bw2 (unhide BX)).grown g3 (below_next bw2 (unhide BX)).size (fun q hq => (World.ownsRow.lt (unhide HXO) q hq).1)
          have R3 := RowS.snoc hxl (unhide HXS) o3 (unhide HU)
          rw [← unhide HS1] at R3
          have HR3 := hide R3
          clear o3 g3 R3
          go_wp2_with fail
          exact ⟨⟨k + 1, by omega, by go_num, unhide HR3, bw3⟩, by simp [intOf]; omega⟩
        · have e255 : (t == 255) = false := by rw [beq_eq_false_iff_ne]; exact h255
          by_cases hty : rk.type = t
          · have ety : (rk.type == t) = true := by rw [hty]; simp
            have hs1 : selK n t rs (k + 1) = selK n t rs k ++ [rk] := by rw [unhide HSEL, e255, ety]; rfl
            have HS1 := hide hs1
            clear HSEL hs1 hty h255
            go_wp2_with fail
            refine wp_region_held_drew (S := (fun w' => (w'.cell? ⟨w.heap.size, 0, none⟩ = some (.slice oa o.length oc) ∧ w'.cell? ⟨w.heap.size, 1, none⟩ = some (.slice (some ⟨b, off, none⟩) m rc)) ∧ w'.cell? ⟨w.heap.size + 1, 0, none⟩ = some (.slice qa n.length qc) ∧ (w'.cell? ⟨b, off + k * 7, none⟩ = some (.slice na rk.name.length nc) ∧ w'.cell? ⟨b, off + k * 7 + 1, none⟩ = some (.int .i64 rk.type) ∧ w'.cell? ⟨b, off + k * 7 + 2, none⟩ = some (.int .i64 rk.ttl) ∧ w'.cell? ⟨b, off + k * 7 + 3, none⟩ = some (.int .i64 rk.addr) ∧ w'.cell? ⟨b, off + k * 7 + 4, none⟩ = some (.slice ta rk.to.length tc) ∧ w'.cell? ⟨b, off + k * 7 + 5, none⟩ = some (.slice xa rk.text.length xc) ∧ w'.cell? ⟨b, off + k * 7 + 6, none⟩ = some (.slice ia rk.nums.length ic)))) (by kernel_rfl) ⟨cells2 (unhide KD), block_one (unhide XD), range7 (unhide HC)⟩ (fun hHeld => ?_)
            show wpAnyH _ _ _ _ _ 23 #[false, false, false, false, false, false, false, false, false, false, false, false, false, false, false, false, false, false, false, false, false, false, false] _ _
            refine wpAnyH_take (i := 0) (oi := { dst := some 16, op := Op.fieldAddr 37 (Operand.tmp 3) 1, type := 0, pos := "l05_zone.go:53", after := #[], guard := none }) (v := ?_) rfl (by kernel_rfl) (by kernel_rfl) (by kernel_rfl) (fun _ _ _ h => h) (Or.inl ⟨by rfl, ?_⟩) hHeld ?_
            rotate_left
            · (intro w hSw; (try dsimp only at hSw); go_simp <;> with_reducible rfl)
            try simp only [Act.put, List.setIfInBounds_toArray, List.set_cons_zero, List.set_cons_succ]
            refine wpAnyH_take (i := 1) (oi := { dst := some 17, op := Op.load 35 (Operand.tmp 16), type := 35, pos := "l05_zone.go:53", after := #[{ on := 0, ground := Ground.data }], guard := none }) (v := ?_) rfl (by kernel_rfl) (by kernel_rfl) (by kernel_rfl) (fun _ _ _ h => h) (Or.inl ⟨by rfl, ?_⟩) hHeld ?_
            rotate_left
            · (intro w hSw; (try dsimp only at hSw); go_simp <;> with_reducible rfl)
            try simp only [Act.put, List.setIfInBounds_toArray, List.set_cons_zero, List.set_cons_succ]
            refine wpAnyH_take (i := 2) (oi := { dst := some 18, op := Op.move (Operand.tmp 8), type := 3, pos := "l05_zone.go:53", after := #[], guard := none }) (v := ?_) rfl (by kernel_rfl) (by kernel_rfl) (by kernel_rfl) (fun _ _ _ h => h) (Or.inl ⟨by rfl, ?_⟩) hHeld ?_
            rotate_left
            · (intro w hSw; (try dsimp only at hSw); go_simp <;> with_reducible rfl)
            try simp only [Act.put, List.setIfInBounds_toArray, List.set_cons_zero, List.set_cons_succ]
            refine wpAnyH_take (i := 3) (oi := { dst := some 19, op := Op.indexAddr 35 (Operand.tmp 17) (Operand.tmp 18), type := 0, pos := "l05_zone.go:53", after := #[{ on := 1, ground := Ground.data }, { on := 2, ground := Ground.data }], guard := none }) (v := .pointer (some ⟨b, off + k * 7, none⟩)) rfl (by kernel_rfl) (by kernel_rfl) (by kernel_rfl) (fun _ _ _ h => h) (Or.inl ⟨by rfl, ?_⟩) hHeld ?_
            · (intro w hSw; (try dsimp only at hSw); go_simp)
            try simp only [Act.put, List.setIfInBounds_toArray, List.set_cons_zero, List.set_cons_succ]
            refine wpAnyH_take (i := 4) (oi := { dst := some 20, op := Op.fieldAddr 42 (Operand.tmp 19) 0, type := 0, pos := "l05_zone.go:53", after := #[{ on := 3, ground := Ground.data }], guard := none }) (v := ?_) rfl (by kernel_rfl) (by kernel_rfl) (by kernel_rfl) (fun _ _ _ h => h) (Or.inl ⟨by rfl, ?_⟩) hHeld ?_
            rotate_left
            · (intro w hSw; (try dsimp only at hSw); go_simp <;> with_reducible rfl)
            try simp only [Act.put, List.setIfInBounds_toArray, List.set_cons_zero, List.set_cons_succ]
            refine wpAnyH_take (i := 5) (oi := { dst := some 21, op := Op.load 34 (Operand.tmp 20), type := 34, pos := "l05_zone.go:53", after := #[{ on := 4, ground := Ground.data }], guard := none }) (v := ?_) rfl (by kernel_rfl) (by kernel_rfl) (by kernel_rfl) (fun _ _ _ h => h) (Or.inl ⟨by rfl, ?_⟩) hHeld ?_
            rotate_left
            · (intro w hSw; (try dsimp only at hSw); go_simp <;> with_reducible rfl)
            try simp only [Act.put, List.setIfInBounds_toArray, List.set_cons_zero, List.set_cons_succ]
            refine wpAnyH_take (i := 6) (oi := { dst := some 22, op := Op.load 34 (Operand.tmp 4), type := 34, pos := "l05_zone.go:53", after := #[], guard := none }) (v := ?_) rfl (by kernel_rfl) (by kernel_rfl) (by kernel_rfl) (fun _ _ _ h => h) (Or.inl ⟨by rfl, ?_⟩) hHeld ?_
            rotate_left
            · (intro w hSw; (try dsimp only at hSw); go_simp <;> with_reducible rfl)
            try simp only [Act.put, List.setIfInBounds_toArray, List.set_cons_zero, List.set_cons_succ]
            refine wpAnyH_ready (rs := [7]) (by kernel_rfl) (by simp) (AllReadyH.cons (o := { dst := some 23, op := Op.call { callee := Callee.value (Operand.func 78), args := #[Operand.tmp 21, Operand.tmp 22], argTypes := #[34, 34] }, type := 3, pos := "l05_zone.go:53", after := #[{ on := 5, ground := Ground.data }, { on := 6, ground := Ground.data }], guard := none }) rfl (fun K hK => ?_) AllReadyH.nil)
            have HK := hide hK
            clear hK hHeld
            go_simp
            refine (unhide CM _ (unhide UD) (unhide QD)).mono ?_
            rintro e w2 ⟨rfl, b2⟩
            go_simp
            refine (unhide HK).out _ _ ⟨cells2 (block_kept b2 (unhide KD)), block_one (block_kept b2 (unhide XD)), range7 (range_below (unhide HC) hbld b2)⟩ (fun hHeld => ?_)
            clear HK K
            try simp only [List.setIfInBounds_toArray, List.set_cons_zero, List.set_cons_succ]
            refine wpAnyH_take (i := 8) (oi := { dst := some 24, op := Op.binOp BinOp.eql 3 (Operand.tmp 23) (Operand.const (Value.int IntKind.i64 0)) 3, type := 4, pos := "l05_zone.go:53", after := #[{ on := 7, ground := Ground.data }], guard := none }) (v := ?_) rfl (by kernel_rfl) (by kernel_rfl) (by kernel_rfl) (fun _ _ _ h => h) (Or.inl ⟨by rfl, ?_⟩) hHeld ?_
            rotate_left
            · (intro w hSw; (try dsimp only at hSw); go_simp <;> with_reducible rfl)
            try simp only [Act.put, List.setIfInBounds_toArray, List.set_cons_zero, List.set_cons_succ]
            refine wpAnyH_take (i := 9) (oi := { dst := some 25, op := Op.move (Operand.tmp 24), type := 4, pos := "l05_zone.go:53", after := #[{ on := 8, ground := Ground.data }, { on := 7, ground := Ground.chain }], guard := none }) (v := ?_) rfl (by kernel_rfl) (by kernel_rfl) (by kernel_rfl) (fun _ _ _ h => h) (Or.inl ⟨by rfl, ?_⟩) hHeld ?_
            rotate_left
            · (intro w hSw; (try dsimp only at hSw); go_simp <;> with_reducible rfl)
            try simp only [Act.put, List.setIfInBounds_toArray, List.set_cons_zero, List.set_cons_succ]
            refine wpAnyH_take (i := 10) (oi := { dst := some 26, op := Op.move (Operand.tmp 2), type := 3, pos := "l05_zone.go:53", after := #[{ on := 9, ground := Ground.guard }], guard := some (9, true) }) (v := ?_) rfl (by kernel_rfl) (by kernel_rfl) (by kernel_rfl) (fun _ _ _ h => h) (Or.inl ⟨by rfl, ?_⟩) hHeld ?_
            rotate_left
            · (intro w hSw; (try dsimp only at hSw); go_simp <;> with_reducible rfl)
            try simp only [Act.put, List.setIfInBounds_toArray, List.set_cons_zero, List.set_cons_succ]
            refine wpAnyH_take (i := 11) (oi := { dst := some 27, op := Op.binOp BinOp.eql 3 (Operand.tmp 26) (Operand.const (Value.int IntKind.i64 255)) 3, type := 4, pos := "l05_zone.go:53", after := #[{ on := 10, ground := Ground.data }, { on := 9, ground := Ground.guard }], guard := some (9, true) }) (v := .bool false) rfl (by kernel_rfl) (by kernel_rfl) (by kernel_rfl) (fun _ _ _ h => h) (Or.inl ⟨by rfl, ?_⟩) hHeld ?_
            · (intro w hSw; (try dsimp only at hSw); go_simp)
            try simp only [Act.put, List.setIfInBounds_toArray, List.set_cons_zero, List.set_cons_succ]
            refine wpAnyH_take (i := 12) (oi := { dst := some 28, op := Op.move (Operand.tmp 27), type := 4, pos := "l05_zone.go:53", after := #[{ on := 11, ground := Ground.data }, { on := 9, ground := Ground.chain }, { on := 9, ground := Ground.guard }], guard := some (9, true) }) (v := .bool false) rfl (by kernel_rfl) (by kernel_rfl) (by kernel_rfl) (fun _ _ _ h => h) (Or.inl ⟨by rfl, ?_⟩) hHeld ?_
            · (intro w hSw; (try dsimp only at hSw); go_simp)
            try simp only [Act.put, List.setIfInBounds_toArray, List.set_cons_zero, List.set_cons_succ]
            refine wpAnyH_take (i := 13) (oi := { dst := some 29, op := Op.fieldAddr 37 (Operand.tmp 3) 1, type := 0, pos := "l05_zone.go:53", after := #[{ on := 12, ground := Ground.guard }], guard := some (12, false) }) (v := ?_) rfl (by kernel_rfl) (by kernel_rfl) (by kernel_rfl) (fun _ _ _ h => h) (Or.inl ⟨by rfl, ?_⟩) hHeld ?_
            rotate_left
            · (intro w hSw; (try dsimp only at hSw); go_simp <;> with_reducible rfl)
            try simp only [Act.put, List.setIfInBounds_toArray, List.set_cons_zero, List.set_cons_succ]
            refine wpAnyH_take (i := 14) (oi := { dst := some 30, op := Op.load 35 (Operand.tmp 29), type := 35, pos := "l05_zone.go:53", after := #[{ on := 13, ground := Ground.data }, { on := 12, ground := Ground.guard }], guard := some (12, false) }) (v := ?_) rfl (by kernel_rfl) (by kernel_rfl) (by kernel_rfl) (fun _ _ _ h => h) (Or.inl ⟨by rfl, ?_⟩) hHeld ?_
            rotate_left
            · (intro w hSw; (try dsimp only at hSw); go_simp <;> with_reducible rfl)
            try simp only [Act.put, List.setIfInBounds_toArray, List.set_cons_zero, List.set_cons_succ]
            refine wpAnyH_take (i := 15) (oi := { dst := some 31, op := Op.move (Operand.tmp 8), type := 3, pos := "l05_zone.go:53", after := #[{ on := 12, ground := Ground.guard }], guard := some (12, false) }) (v := ?_) rfl (by kernel_rfl) (by kernel_rfl) (by kernel_rfl) (fun _ _ _ h => h) (Or.inl ⟨by rfl, ?_⟩) hHeld ?_
            rotate_left
            · (intro w hSw; (try dsimp only at hSw); go_simp <;> with_reducible rfl)
            try simp only [Act.put, List.setIfInBounds_toArray, List.set_cons_zero, List.set_cons_succ]
            refine wpAnyH_take (i := 16) (oi := { dst := some 32, op := Op.indexAddr 35 (Operand.tmp 30) (Operand.tmp 31), type := 0, pos := "l05_zone.go:53", after := #[{ on := 14, ground := Ground.data }, { on := 15, ground := Ground.data }, { on := 12, ground := Ground.guard }], guard := some (12, false) }) (v := .pointer (some ⟨b, off + k * 7, none⟩)) rfl (by kernel_rfl) (by kernel_rfl) (by kernel_rfl) (fun _ _ _ h => h) (Or.inl ⟨by rfl, ?_⟩) hHeld ?_
            · (intro w hSw; (try dsimp only at hSw); go_simp)
            try simp only [Act.put, List.setIfInBounds_toArray, List.set_cons_zero, List.set_cons_succ]
            refine wpAnyH_take (i := 17) (oi := { dst := some 33, op := Op.fieldAddr 42 (Operand.tmp 32) 1, type := 0, pos := "l05_zone.go:53", after := #[{ on := 16, ground := Ground.data }, { on := 12, ground := Ground.guard }], guard := some (12, false) }) (v := ?_) rfl (by kernel_rfl) (by kernel_rfl) (by kernel_rfl) (fun _ _ _ h => h) (Or.inl ⟨by rfl, ?_⟩) hHeld ?_
            rotate_left
            · (intro w hSw; (try dsimp only at hSw); go_simp <;> with_reducible rfl)
            try simp only [Act.put, List.setIfInBounds_toArray, List.set_cons_zero, List.set_cons_succ]
            refine wpAnyH_take (i := 18) (oi := { dst := some 34, op := Op.load 3 (Operand.tmp 33), type := 3, pos := "l05_zone.go:53", after := #[{ on := 17, ground := Ground.data }, { on := 12, ground := Ground.guard }], guard := some (12, false) }) (v := ?_) rfl (by kernel_rfl) (by kernel_rfl) (by kernel_rfl) (fun _ _ _ h => h) (Or.inl ⟨by rfl, ?_⟩) hHeld ?_
            rotate_left
            · (intro w hSw; (try dsimp only at hSw); go_simp <;> with_reducible rfl)
            try simp only [Act.put, List.setIfInBounds_toArray, List.set_cons_zero, List.set_cons_succ]
            refine wpAnyH_take (i := 19) (oi := { dst := some 35, op := Op.move (Operand.tmp 2), type := 3, pos := "l05_zone.go:53", after := #[{ on := 12, ground := Ground.guard }], guard := some (12, false) }) (v := ?_) rfl (by kernel_rfl) (by kernel_rfl) (by kernel_rfl) (fun _ _ _ h => h) (Or.inl ⟨by rfl, ?_⟩) hHeld ?_
            rotate_left
            · (intro w hSw; (try dsimp only at hSw); go_simp <;> with_reducible rfl)
            try simp only [Act.put, List.setIfInBounds_toArray, List.set_cons_zero, List.set_cons_succ]
            refine wpAnyH_take (i := 20) (oi := { dst := some 36, op := Op.binOp BinOp.eql 3 (Operand.tmp 34) (Operand.tmp 35) 3, type := 4, pos := "l05_zone.go:53", after := #[{ on := 18, ground := Ground.data }, { on := 19, ground := Ground.data }, { on := 12, ground := Ground.guard }], guard := some (12, false) }) (v := .bool true) rfl (by kernel_rfl) (by kernel_rfl) (by kernel_rfl) (fun _ _ _ h => h) (Or.inl ⟨by rfl, ?_⟩) hHeld ?_
            · (intro w hSw; (try dsimp only at hSw); go_simp)
            try simp only [Act.put, List.setIfInBounds_toArray, List.set_cons_zero, List.set_cons_succ]
            refine wpAnyH_take (i := 21) (oi := { dst := some 37, op := Op.pick (Operand.tmp 28) (Operand.const (Value.bool true)) (Operand.tmp 36), type := 4, pos := "l05_zone.go:53", after := #[{ on := 12, ground := Ground.data }, { on := 20, ground := Ground.data }, { on := 9, ground := Ground.guard }], guard := some (9, true) }) (v := ?_) rfl (by kernel_rfl) (by kernel_rfl) (by kernel_rfl) (fun _ _ _ h => h) (Or.inl ⟨by rfl, ?_⟩) hHeld ?_
            rotate_left
            · (intro w hSw; (try dsimp only at hSw); go_simp <;> with_reducible rfl)
            try simp only [Act.put, List.setIfInBounds_toArray, List.set_cons_zero, List.set_cons_succ]
            refine wpAnyH_take (i := 22) (oi := { dst := some 38, op := Op.pick (Operand.tmp 25) (Operand.tmp 37) (Operand.const (Value.bool false)), type := 4, pos := "l05_zone.go:53", after := #[{ on := 9, ground := Ground.data }, { on := 21, ground := Ground.data }], guard := none }) (v := ?_) rfl (by kernel_rfl) (by kernel_rfl) (by kernel_rfl) (fun _ _ _ h => h) (Or.inl ⟨by rfl, ?_⟩) hHeld ?_
            rotate_left
            · (intro w hSw; (try dsimp only at hSw); go_simp <;> with_reducible rfl)
            try simp only [Act.put, List.setIfInBounds_toArray, List.set_cons_zero, List.set_cons_succ]
            refine wpAnyH_done (by kernel_rfl) ?_ _
            clear hHeld
            have bw2 := below_next bd b2
            obtain ⟨z0', z1'⟩ := cells2 (block_kept bw2 (unhide K0))
            obtain ⟨c0, c1, c2, c3, c4, c5, c6⟩ := range7 (range_below (unhide HC) hbld b2)
            obtain ⟨xs, hxo, hxs⟩ := unhide HROW
            have hxl : xs.length = (selK n t rs k).length * 7 := hxo.1
            have HXO := hide (ownsRow_later hxo (below_next (below_drew (w := wr)) b2))
            have HXS := hide hxs
            have bx := below_alloc (w := w2) (.cells #[.slice na rk.name.length nc, .int .i64 rk.type, .int .i64 rk.ttl, .int .i64 rk.addr, .slice ta rk.to.length tc, .slice xa rk.text.length xc, .slice ia rk.nums.length ic] 42)
            have KX := hide (heap_alloc_new w2 (.cells #[.slice na rk.name.length nc, .int .i64 rk.type, .int .i64 rk.ttl, .int .i64 rk.addr, .slice ta rk.to.length tc, .slice xa rk.text.length xc, .slice ia rk.nums.length ic] 42))
            have BX := hide bx
            have zx2 := bw2.size
            clear hxo hxs bx bd
            go_wp2_with (at_builtin; refine append_rec rfl _ _ 35 42 rfl Tryz.underlying35 _ info_rr rfl W.heap.size _ (selK n t rs k).length xs rfl (ownsRow_later (unhide HXO) (unhide BX)) w2.heap.size (cellsR (.slice na rk.name.length nc) (.slice ta rk.to.length tc) (.slice xa rk.text.length xc) (.slice ia rk.nums.length ic) rk) rfl (unhide KX) rfl (by simp [cellsR, Value.oneCell']) (by omega) (Nat.le_trans zx2 (unhide BX).size) ?_)
            intro v3 w3 o3 g3
            have bw3 : Below W.heap.size W w3 := (below_next bw2 (unhide BX)).grown g3 (below_next bw2 (unhide BX)).size (fun q hq => (World.ownsRow.lt (unhide HXO) q hq).1)
            have R3 := RowS.snoc hxl (unhide HXS) o3 (unhide HU)
            rw [← unhide HS1] at R3
            have HR3 := hide R3
            clear o3 g3 R3
            go_wp2_with fail
            exact ⟨⟨k + 1, by omega, by go_num, unhide HR3, bw3⟩, by simp [intOf]; omega⟩
          · have ety : (rk.type == t) = false := by rw [beq_eq_false_iff_ne]; exact hty
            have hs1 : selK n t rs (k + 1) = selK n t rs k := by rw [unhide HSEL, e255, ety]; rfl
            have HS1 := hide hs1
            clear HSEL hs1 hty h255
            go_wp2_with fail
            refine wp_region_held_drew (S := (fun w' => (w'.cell? ⟨w.heap.size, 0, none⟩ = some (.slice oa o.length oc) ∧ w'.cell? ⟨w.heap.size, 1, none⟩ = some (.slice (some ⟨b, off, none⟩) m rc)) ∧ w'.cell? ⟨w.heap.size + 1, 0, none⟩ = some (.slice qa n.length qc) ∧ (w'.cell? ⟨b, off + k * 7, none⟩ = some (.slice na rk.name.length nc) ∧ w'.cell? ⟨b, off + k * 7 + 1, none⟩ = some (.int .i64 rk.type) ∧ w'.cell? ⟨b, off + k * 7 + 2, none⟩ = some (.int .i64 rk.ttl) ∧ w'.cell? ⟨b, off + k * 7 + 3, none⟩ = some (.int .i64 rk.addr) ∧ w'.cell? ⟨b, off + k * 7 + 4, none⟩ = some (.slice ta rk.to.length tc) ∧ w'.cell? ⟨b, off + k * 7 + 5, none⟩ = some (.slice xa rk.text.length xc) ∧ w'.cell? ⟨b, off + k * 7 + 6, none⟩ = some (.slice ia rk.nums.length ic)))) (by kernel_rfl) ⟨cells2 (unhide KD), block_one (unhide XD), range7 (unhide HC)⟩ (fun hHeld => ?_)
            show wpAnyH _ _ _ _ _ 23 #[false, false, false, false, false, false, false, false, false, false, false, false, false, false, false, false, false, false, false, false, false, false, false] _ _
            refine wpAnyH_take (i := 0) (oi := { dst := some 16, op := Op.fieldAddr 37 (Operand.tmp 3) 1, type := 0, pos := "l05_zone.go:53", after := #[], guard := none }) (v := ?_) rfl (by kernel_rfl) (by kernel_rfl) (by kernel_rfl) (fun _ _ _ h => h) (Or.inl ⟨by rfl, ?_⟩) hHeld ?_
            rotate_left
            · (intro w hSw; (try dsimp only at hSw); go_simp <;> with_reducible rfl)
            try simp only [Act.put, List.setIfInBounds_toArray, List.set_cons_zero, List.set_cons_succ]
            refine wpAnyH_take (i := 1) (oi := { dst := some 17, op := Op.load 35 (Operand.tmp 16), type := 35, pos := "l05_zone.go:53", after := #[{ on := 0, ground := Ground.data }], guard := none }) (v := ?_) rfl (by kernel_rfl) (by kernel_rfl) (by kernel_rfl) (fun _ _ _ h => h) (Or.inl ⟨by rfl, ?_⟩) hHeld ?_
            rotate_left
            · (intro w hSw; (try dsimp only at hSw); go_simp <;> with_reducible rfl)
            try simp only [Act.put, List.setIfInBounds_toArray, List.set_cons_zero, List.set_cons_succ]
            refine wpAnyH_take (i := 2) (oi := { dst := some 18, op := Op.move (Operand.tmp 8), type := 3, pos := "l05_zone.go:53", after := #[], guard := none }) (v := ?_) rfl (by kernel_rfl) (by kernel_rfl) (by kernel_rfl) (fun _ _ _ h => h) (Or.inl ⟨by rfl, ?_⟩) hHeld ?_
            rotate_left
            · (intro w hSw; (try dsimp only at hSw); go_simp <;> with_reducible rfl)
            try simp only [Act.put, List.setIfInBounds_toArray, List.set_cons_zero, List.set_cons_succ]
            refine wpAnyH_take (i := 3) (oi := { dst := some 19, op := Op.indexAddr 35 (Operand.tmp 17) (Operand.tmp 18), type := 0, pos := "l05_zone.go:53", after := #[{ on := 1, ground := Ground.data }, { on := 2, ground := Ground.data }], guard := none }) (v := .pointer (some ⟨b, off + k * 7, none⟩)) rfl (by kernel_rfl) (by kernel_rfl) (by kernel_rfl) (fun _ _ _ h => h) (Or.inl ⟨by rfl, ?_⟩) hHeld ?_
            · (intro w hSw; (try dsimp only at hSw); go_simp)
            try simp only [Act.put, List.setIfInBounds_toArray, List.set_cons_zero, List.set_cons_succ]
            refine wpAnyH_take (i := 4) (oi := { dst := some 20, op := Op.fieldAddr 42 (Operand.tmp 19) 0, type := 0, pos := "l05_zone.go:53", after := #[{ on := 3, ground := Ground.data }], guard := none }) (v := ?_) rfl (by kernel_rfl) (by kernel_rfl) (by kernel_rfl) (fun _ _ _ h => h) (Or.inl ⟨by rfl, ?_⟩) hHeld ?_
            rotate_left
            · (intro w hSw; (try dsimp only at hSw); go_simp <;> with_reducible rfl)
            try simp only [Act.put, List.setIfInBounds_toArray, List.set_cons_zero, List.set_cons_succ]
            refine wpAnyH_take (i := 5) (oi := { dst := some 21, op := Op.load 34 (Operand.tmp 20), type := 34, pos := "l05_zone.go:53", after := #[{ on := 4, ground := Ground.data }], guard := none }) (v := ?_) rfl (by kernel_rfl) (by kernel_rfl) (by kernel_rfl) (fun _ _ _ h => h) (Or.inl ⟨by rfl, ?_⟩) hHeld ?_
            rotate_left
            · (intro w hSw; (try dsimp only at hSw); go_simp <;> with_reducible rfl)
            try simp only [Act.put, List.setIfInBounds_toArray, List.set_cons_zero, List.set_cons_succ]
            refine wpAnyH_take (i := 6) (oi := { dst := some 22, op := Op.load 34 (Operand.tmp 4), type := 34, pos := "l05_zone.go:53", after := #[], guard := none }) (v := ?_) rfl (by kernel_rfl) (by kernel_rfl) (by kernel_rfl) (fun _ _ _ h => h) (Or.inl ⟨by rfl, ?_⟩) hHeld ?_
            rotate_left
            · (intro w hSw; (try dsimp only at hSw); go_simp <;> with_reducible rfl)
            try simp only [Act.put, List.setIfInBounds_toArray, List.set_cons_zero, List.set_cons_succ]
            refine wpAnyH_ready (rs := [7]) (by kernel_rfl) (by simp) (AllReadyH.cons (o := { dst := some 23, op := Op.call { callee := Callee.value (Operand.func 78), args := #[Operand.tmp 21, Operand.tmp 22], argTypes := #[34, 34] }, type := 3, pos := "l05_zone.go:53", after := #[{ on := 5, ground := Ground.data }, { on := 6, ground := Ground.data }], guard := none }) rfl (fun K hK => ?_) AllReadyH.nil)
            have HK := hide hK
            clear hK hHeld
            go_simp
            refine (unhide CM _ (unhide UD) (unhide QD)).mono ?_
            rintro e w2 ⟨rfl, b2⟩
            go_simp
            refine (unhide HK).out _ _ ⟨cells2 (block_kept b2 (unhide KD)), block_one (block_kept b2 (unhide XD)), range7 (range_below (unhide HC) hbld b2)⟩ (fun hHeld => ?_)
            clear HK K
            try simp only [List.setIfInBounds_toArray, List.set_cons_zero, List.set_cons_succ]
            refine wpAnyH_take (i := 8) (oi := { dst := some 24, op := Op.binOp BinOp.eql 3 (Operand.tmp 23) (Operand.const (Value.int IntKind.i64 0)) 3, type := 4, pos := "l05_zone.go:53", after := #[{ on := 7, ground := Ground.data }], guard := none }) (v := ?_) rfl (by kernel_rfl) (by kernel_rfl) (by kernel_rfl) (fun _ _ _ h => h) (Or.inl ⟨by rfl, ?_⟩) hHeld ?_
            rotate_left
            · (intro w hSw; (try dsimp only at hSw); go_simp <;> with_reducible rfl)
            try simp only [Act.put, List.setIfInBounds_toArray, List.set_cons_zero, List.set_cons_succ]
            refine wpAnyH_take (i := 9) (oi := { dst := some 25, op := Op.move (Operand.tmp 24), type := 4, pos := "l05_zone.go:53", after := #[{ on := 8, ground := Ground.data }, { on := 7, ground := Ground.chain }], guard := none }) (v := ?_) rfl (by kernel_rfl) (by kernel_rfl) (by kernel_rfl) (fun _ _ _ h => h) (Or.inl ⟨by rfl, ?_⟩) hHeld ?_
            rotate_left
            · (intro w hSw; (try dsimp only at hSw); go_simp <;> with_reducible rfl)
            try simp only [Act.put, List.setIfInBounds_toArray, List.set_cons_zero, List.set_cons_succ]
            refine wpAnyH_take (i := 10) (oi := { dst := some 26, op := Op.move (Operand.tmp 2), type := 3, pos := "l05_zone.go:53", after := #[{ on := 9, ground := Ground.guard }], guard := some (9, true) }) (v := ?_) rfl (by kernel_rfl) (by kernel_rfl) (by kernel_rfl) (fun _ _ _ h => h) (Or.inl ⟨by rfl, ?_⟩) hHeld ?_
            rotate_left
            · (intro w hSw; (try dsimp only at hSw); go_simp <;> with_reducible rfl)
            try simp only [Act.put, List.setIfInBounds_toArray, List.set_cons_zero, List.set_cons_succ]
            refine wpAnyH_take (i := 11) (oi := { dst := some 27, op := Op.binOp BinOp.eql 3 (Operand.tmp 26) (Operand.const (Value.int IntKind.i64 255)) 3, type := 4, pos := "l05_zone.go:53", after := #[{ on := 10, ground := Ground.data }, { on := 9, ground := Ground.guard }], guard := some (9, true) }) (v := .bool false) rfl (by kernel_rfl) (by kernel_rfl) (by kernel_rfl) (fun _ _ _ h => h) (Or.inl ⟨by rfl, ?_⟩) hHeld ?_
            · (intro w hSw; (try dsimp only at hSw); go_simp)
            try simp only [Act.put, List.setIfInBounds_toArray, List.set_cons_zero, List.set_cons_succ]
            refine wpAnyH_take (i := 12) (oi := { dst := some 28, op := Op.move (Operand.tmp 27), type := 4, pos := "l05_zone.go:53", after := #[{ on := 11, ground := Ground.data }, { on := 9, ground := Ground.chain }, { on := 9, ground := Ground.guard }], guard := some (9, true) }) (v := .bool false) rfl (by kernel_rfl) (by kernel_rfl) (by kernel_rfl) (fun _ _ _ h => h) (Or.inl ⟨by rfl, ?_⟩) hHeld ?_
            · (intro w hSw; (try dsimp only at hSw); go_simp)
            try simp only [Act.put, List.setIfInBounds_toArray, List.set_cons_zero, List.set_cons_succ]
            refine wpAnyH_take (i := 13) (oi := { dst := some 29, op := Op.fieldAddr 37 (Operand.tmp 3) 1, type := 0, pos := "l05_zone.go:53", after := #[{ on := 12, ground := Ground.guard }], guard := some (12, false) }) (v := ?_) rfl (by kernel_rfl) (by kernel_rfl) (by kernel_rfl) (fun _ _ _ h => h) (Or.inl ⟨by rfl, ?_⟩) hHeld ?_
            rotate_left
            · (intro w hSw; (try dsimp only at hSw); go_simp <;> with_reducible rfl)
            try simp only [Act.put, List.setIfInBounds_toArray, List.set_cons_zero, List.set_cons_succ]
            refine wpAnyH_take (i := 14) (oi := { dst := some 30, op := Op.load 35 (Operand.tmp 29), type := 35, pos := "l05_zone.go:53", after := #[{ on := 13, ground := Ground.data }, { on := 12, ground := Ground.guard }], guard := some (12, false) }) (v := ?_) rfl (by kernel_rfl) (by kernel_rfl) (by kernel_rfl) (fun _ _ _ h => h) (Or.inl ⟨by rfl, ?_⟩) hHeld ?_
            rotate_left
            · (intro w hSw; (try dsimp only at hSw); go_simp <;> with_reducible rfl)
            try simp only [Act.put, List.setIfInBounds_toArray, List.set_cons_zero, List.set_cons_succ]
            refine wpAnyH_take (i := 15) (oi := { dst := some 31, op := Op.move (Operand.tmp 8), type := 3, pos := "l05_zone.go:53", after := #[{ on := 12, ground := Ground.guard }], guard := some (12, false) }) (v := ?_) rfl (by kernel_rfl) (by kernel_rfl) (by kernel_rfl) (fun _ _ _ h => h) (Or.inl ⟨by rfl, ?_⟩) hHeld ?_
            rotate_left
            · (intro w hSw; (try dsimp only at hSw); go_simp <;> with_reducible rfl)
            try simp only [Act.put, List.setIfInBounds_toArray, List.set_cons_zero, List.set_cons_succ]
            refine wpAnyH_take (i := 16) (oi := { dst := some 32, op := Op.indexAddr 35 (Operand.tmp 30) (Operand.tmp 31), type := 0, pos := "l05_zone.go:53", after := #[{ on := 14, ground := Ground.data }, { on := 15, ground := Ground.data }, { on := 12, ground := Ground.guard }], guard := some (12, false) }) (v := .pointer (some ⟨b, off + k * 7, none⟩)) rfl (by kernel_rfl) (by kernel_rfl) (by kernel_rfl) (fun _ _ _ h => h) (Or.inl ⟨by rfl, ?_⟩) hHeld ?_
            · (intro w hSw; (try dsimp only at hSw); go_simp)
            try simp only [Act.put, List.setIfInBounds_toArray, List.set_cons_zero, List.set_cons_succ]
            refine wpAnyH_take (i := 17) (oi := { dst := some 33, op := Op.fieldAddr 42 (Operand.tmp 32) 1, type := 0, pos := "l05_zone.go:53", after := #[{ on := 16, ground := Ground.data }, { on := 12, ground := Ground.guard }], guard := some (12, false) }) (v := ?_) rfl (by kernel_rfl) (by kernel_rfl) (by kernel_rfl) (fun _ _ _ h => h) (Or.inl ⟨by rfl, ?_⟩) hHeld ?_
            rotate_left
            · (intro w hSw; (try dsimp only at hSw); go_simp <;> with_reducible rfl)
            try simp only [Act.put, List.setIfInBounds_toArray, List.set_cons_zero, List.set_cons_succ]
            refine wpAnyH_take (i := 18) (oi := { dst := some 34, op := Op.load 3 (Operand.tmp 33), type := 3, pos := "l05_zone.go:53", after := #[{ on := 17, ground := Ground.data }, { on := 12, ground := Ground.guard }], guard := some (12, false) }) (v := ?_) rfl (by kernel_rfl) (by kernel_rfl) (by kernel_rfl) (fun _ _ _ h => h) (Or.inl ⟨by rfl, ?_⟩) hHeld ?_
            rotate_left
            · (intro w hSw; (try dsimp only at hSw); go_simp <;> with_reducible rfl)
            try simp only [Act.put, List.setIfInBounds_toArray, List.set_cons_zero, List.set_cons_succ]
            refine wpAnyH_take (i := 19) (oi := { dst := some 35, op := Op.move (Operand.tmp 2), type := 3, pos := "l05_zone.go:53", after := #[{ on := 12, ground := Ground.guard }], guard := some (12, false) }) (v := ?_) rfl (by kernel_rfl) (by kernel_rfl) (by kernel_rfl) (fun _ _ _ h => h) (Or.inl ⟨by rfl, ?_⟩) hHeld ?_
            rotate_left
            · (intro w hSw; (try dsimp only at hSw); go_simp <;> with_reducible rfl)
            try simp only [Act.put, List.setIfInBounds_toArray, List.set_cons_zero, List.set_cons_succ]
            refine wpAnyH_take (i := 20) (oi := { dst := some 36, op := Op.binOp BinOp.eql 3 (Operand.tmp 34) (Operand.tmp 35) 3, type := 4, pos := "l05_zone.go:53", after := #[{ on := 18, ground := Ground.data }, { on := 19, ground := Ground.data }, { on := 12, ground := Ground.guard }], guard := some (12, false) }) (v := .bool false) rfl (by kernel_rfl) (by kernel_rfl) (by kernel_rfl) (fun _ _ _ h => h) (Or.inl ⟨by rfl, ?_⟩) hHeld ?_
            · (intro w hSw; (try dsimp only at hSw); go_simp)
            try simp only [Act.put, List.setIfInBounds_toArray, List.set_cons_zero, List.set_cons_succ]
            refine wpAnyH_take (i := 21) (oi := { dst := some 37, op := Op.pick (Operand.tmp 28) (Operand.const (Value.bool true)) (Operand.tmp 36), type := 4, pos := "l05_zone.go:53", after := #[{ on := 12, ground := Ground.data }, { on := 20, ground := Ground.data }, { on := 9, ground := Ground.guard }], guard := some (9, true) }) (v := ?_) rfl (by kernel_rfl) (by kernel_rfl) (by kernel_rfl) (fun _ _ _ h => h) (Or.inl ⟨by rfl, ?_⟩) hHeld ?_
            rotate_left
            · (intro w hSw; (try dsimp only at hSw); go_simp <;> with_reducible rfl)
            try simp only [Act.put, List.setIfInBounds_toArray, List.set_cons_zero, List.set_cons_succ]
            refine wpAnyH_take (i := 22) (oi := { dst := some 38, op := Op.pick (Operand.tmp 25) (Operand.tmp 37) (Operand.const (Value.bool false)), type := 4, pos := "l05_zone.go:53", after := #[{ on := 9, ground := Ground.data }, { on := 21, ground := Ground.data }], guard := none }) (v := ?_) rfl (by kernel_rfl) (by kernel_rfl) (by kernel_rfl) (fun _ _ _ h => h) (Or.inl ⟨by rfl, ?_⟩) hHeld ?_
            rotate_left
            · (intro w hSw; (try dsimp only at hSw); go_simp <;> with_reducible rfl)
            try simp only [Act.put, List.setIfInBounds_toArray, List.set_cons_zero, List.set_cons_succ]
            refine wpAnyH_done (by kernel_rfl) ?_ _
            clear hHeld
            have bw2 := below_next bd b2
            have R3 : RowS W.heap.size 42 w0 w2 u7 (selK n t rs (k + 1)) := by
              rw [unhide HS1]
              obtain ⟨xs, hxo, hxs⟩ := unhide HROW
              exact ⟨xs, ownsRow_later hxo (below_next (below_drew (w := wr)) b2), hxs⟩
            have HR3 := hide R3
            clear R3
            go_wp2_with fail
            exact ⟨⟨k + 1, by omega, by go_num, unhide HR3, bw2⟩, by simp [intOf]; omega⟩
      · have e0 : (cmpN rk.name n == 0) = false := by rw [beq_eq_false_iff_ne]; exact hz
        have hs1 : selK n t rs (k + 1) = selK n t rs k := by rw [unhide HSEL, e0]; rfl
        have HS1 := hide hs1
        generalize cmpN rk.name n = c at *
        replace CM := hide CM
        clear HSEL hs1 hz
        go_wp2_with fail
        refine wp_region_held_drew (S := (fun w' => (w'.cell? ⟨w.heap.size, 0, none⟩ = some (.slice oa o.length oc) ∧ w'.cell? ⟨w.heap.size, 1, none⟩ = some (.slice (some ⟨b, off, none⟩) m rc)) ∧ w'.cell? ⟨w.heap.size + 1, 0, none⟩ = some (.slice qa n.length qc) ∧ (w'.cell? ⟨b, off + k * 7, none⟩ = some (.slice na rk.name.length nc) ∧ w'.cell? ⟨b, off + k * 7 + 1, none⟩ = some (.int .i64 rk.type) ∧ w'.cell? ⟨b, off + k * 7 + 2, none⟩ = some (.int .i64 rk.ttl) ∧ w'.cell? ⟨b, off + k * 7 + 3, none⟩ = some (.int .i64 rk.addr) ∧ w'.cell? ⟨b, off + k * 7 + 4, none⟩ = some (.slice ta rk.to.length tc) ∧ w'.cell? ⟨b, off + k * 7 + 5, none⟩ = some (.slice xa rk.text.length xc) ∧ w'.cell? ⟨b, off + k * 7 + 6, none⟩ = some (.slice ia rk.nums.length ic)))) (by kernel_rfl) ⟨cells2 (unhide KD), block_one (unhide XD), range7 (unhide HC)⟩ (fun hHeld => ?_)
        show wpAnyH _ _ _ _ _ 23 #[false, false, false, false, false, false, false, false, false, false, false, false, false, false, false, false, false, false, false, false, false, false, false] _ _
        refine wpAnyH_take (i := 0) (oi := { dst := some 16, op := Op.fieldAddr 37 (Operand.tmp 3) 1, type := 0, pos := "l05_zone.go:53", after := #[], guard := none }) (v := ?_) rfl (by kernel_rfl) (by kernel_rfl) (by kernel_rfl) (fun _ _ _ h => h) (Or.inl ⟨by rfl, ?_⟩) hHeld ?_
        rotate_left
        · (intro w hSw; (try dsimp only at hSw); go_simp <;> with_reducible rfl)
        try simp only [Act.put, List.setIfInBounds_toArray, List.set_cons_zero, List.set_cons_succ]
        refine wpAnyH_take (i := 1) (oi := { dst := some 17, op := Op.load 35 (Operand.tmp 16), type := 35, pos := "l05_zone.go:53", after := #[{ on := 0, ground := Ground.data }], guard := none }) (v := ?_) rfl (by kernel_rfl) (by kernel_rfl) (by kernel_rfl) (fun _ _ _ h => h) (Or.inl ⟨by rfl, ?_⟩) hHeld ?_
        rotate_left
        · (intro w hSw; (try dsimp only at hSw); go_simp <;> with_reducible rfl)
        try simp only [Act.put, List.setIfInBounds_toArray, List.set_cons_zero, List.set_cons_succ]
        refine wpAnyH_take (i := 2) (oi := { dst := some 18, op := Op.move (Operand.tmp 8), type := 3, pos := "l05_zone.go:53", after := #[], guard := none }) (v := ?_) rfl (by kernel_rfl) (by kernel_rfl) (by kernel_rfl) (fun _ _ _ h => h) (Or.inl ⟨by rfl, ?_⟩) hHeld ?_
        rotate_left
        · (intro w hSw; (try dsimp only at hSw); go_simp <;> with_reducible rfl)
        try simp only [Act.put, List.setIfInBounds_toArray, List.set_cons_zero, List.set_cons_succ]
        refine wpAnyH_take (i := 3) (oi := { dst := some 19, op := Op.indexAddr 35 (Operand.tmp 17) (Operand.tmp 18), type := 0, pos := "l05_zone.go:53", after := #[{ on := 1, ground := Ground.data }, { on := 2, ground := Ground.data }], guard := none }) (v := .pointer (some ⟨b, off + k * 7, none⟩)) rfl (by kernel_rfl) (by kernel_rfl) (by kernel_rfl) (fun _ _ _ h => h) (Or.inl ⟨by rfl, ?_⟩) hHeld ?_
        · (intro w hSw; (try dsimp only at hSw); go_simp)
        try simp only [Act.put, List.setIfInBounds_toArray, List.set_cons_zero, List.set_cons_succ]
        refine wpAnyH_take (i := 4) (oi := { dst := some 20, op := Op.fieldAddr 42 (Operand.tmp 19) 0, type := 0, pos := "l05_zone.go:53", after := #[{ on := 3, ground := Ground.data }], guard := none }) (v := ?_) rfl (by kernel_rfl) (by kernel_rfl) (by kernel_rfl) (fun _ _ _ h => h) (Or.inl ⟨by rfl, ?_⟩) hHeld ?_
        rotate_left
        · (intro w hSw; (try dsimp only at hSw); go_simp <;> with_reducible rfl)
        try simp only [Act.put, List.setIfInBounds_toArray, List.set_cons_zero, List.set_cons_succ]
        refine wpAnyH_take (i := 5) (oi := { dst := some 21, op := Op.load 34 (Operand.tmp 20), type := 34, pos := "l05_zone.go:53", after := #[{ on := 4, ground := Ground.data }], guard := none }) (v := ?_) rfl (by kernel_rfl) (by kernel_rfl) (by kernel_rfl) (fun _ _ _ h => h) (Or.inl ⟨by rfl, ?_⟩) hHeld ?_
        rotate_left
        · (intro w hSw; (try dsimp only at hSw); go_simp <;> with_reducible rfl)
        try simp only [Act.put, List.setIfInBounds_toArray, List.set_cons_zero, List.set_cons_succ]
        refine wpAnyH_take (i := 6) (oi := { dst := some 22, op := Op.load 34 (Operand.tmp 4), type := 34, pos := "l05_zone.go:53", after := #[], guard := none }) (v := ?_) rfl (by kernel_rfl) (by kernel_rfl) (by kernel_rfl) (fun _ _ _ h => h) (Or.inl ⟨by rfl, ?_⟩) hHeld ?_
        rotate_left
        · (intro w hSw; (try dsimp only at hSw); go_simp <;> with_reducible rfl)
        try simp only [Act.put, List.setIfInBounds_toArray, List.set_cons_zero, List.set_cons_succ]
        refine wpAnyH_ready (rs := [7]) (by kernel_rfl) (by simp) (AllReadyH.cons (o := { dst := some 23, op := Op.call { callee := Callee.value (Operand.func 78), args := #[Operand.tmp 21, Operand.tmp 22], argTypes := #[34, 34] }, type := 3, pos := "l05_zone.go:53", after := #[{ on := 5, ground := Ground.data }, { on := 6, ground := Ground.data }], guard := none }) rfl (fun K hK => ?_) AllReadyH.nil)
        have HK := hide hK
        clear hK hHeld
        go_simp
        refine (unhide CM _ (unhide UD) (unhide QD)).mono ?_
        rintro e w2 ⟨rfl, b2⟩
        go_simp
        refine (unhide HK).out _ _ ⟨cells2 (block_kept b2 (unhide KD)), block_one (block_kept b2 (unhide XD)), range7 (range_below (unhide HC) hbld b2)⟩ (fun hHeld => ?_)
        clear HK K
        try simp only [List.setIfInBounds_toArray, List.set_cons_zero, List.set_cons_succ]
        refine wpAnyH_take (i := 8) (oi := { dst := some 24, op := Op.binOp BinOp.eql 3 (Operand.tmp 23) (Operand.const (Value.int IntKind.i64 0)) 3, type := 4, pos := "l05_zone.go:53", after := #[{ on := 7, ground := Ground.data }], guard := none }) (v := .bool false) rfl (by kernel_rfl) (by kernel_rfl) (by kernel_rfl) (fun _ _ _ h => h) (Or.inl ⟨by rfl, ?_⟩) hHeld ?_
        · (intro w hSw; (try dsimp only at hSw); go_simp)
        try simp only [Act.put, List.setIfInBounds_toArray, List.set_cons_zero, List.set_cons_succ]
        refine wpAnyH_take (i := 9) (oi := { dst := some 25, op := Op.move (Operand.tmp 24), type := 4, pos := "l05_zone.go:53", after := #[{ on := 8, ground := Ground.data }, { on := 7, ground := Ground.chain }], guard := none }) (v := .bool false) rfl (by kernel_rfl) (by kernel_rfl) (by kernel_rfl) (fun _ _ _ h => h) (Or.inl ⟨by rfl, ?_⟩) hHeld ?_
        · (intro w hSw; (try dsimp only at hSw); go_simp)
        try simp only [Act.put, List.setIfInBounds_toArray, List.set_cons_zero, List.set_cons_succ]
        refine wpAnyH_take (i := 10) (oi := { dst := some 26, op := Op.move (Operand.tmp 2), type := 3, pos := "l05_zone.go:53", after := #[{ on := 9, ground := Ground.guard }], guard := some (9, true) }) (v := undef) rfl (by kernel_rfl) (by kernel_rfl) (by kernel_rfl) (fun _ _ _ h => h) (Or.inr ⟨by rfl, rfl⟩) hHeld ?_
        try simp only [Act.put, List.setIfInBounds_toArray, List.set_cons_zero, List.set_cons_succ]
        refine wpAnyH_take (i := 11) (oi := { dst := some 27, op := Op.binOp BinOp.eql 3 (Operand.tmp 26) (Operand.const (Value.int IntKind.i64 255)) 3, type := 4, pos := "l05_zone.go:53", after := #[{ on := 10, ground := Ground.data }, { on := 9, ground := Ground.guard }], guard := some (9, true) }) (v := undef) rfl (by kernel_rfl) (by kernel_rfl) (by kernel_rfl) (fun _ _ _ h => h) (Or.inr ⟨by rfl, rfl⟩) hHeld ?_
        try simp only [Act.put, List.setIfInBounds_toArray, List.set_cons_zero, List.set_cons_succ]
        refine wpAnyH_take (i := 12) (oi := { dst := some 28, op := Op.move (Operand.tmp 27), type := 4, pos := "l05_zone.go:53", after := #[{ on := 11, ground := Ground.data }, { on := 9, ground := Ground.chain }, { on := 9, ground := Ground.guard }], guard := some (9, true) }) (v := undef) rfl (by kernel_rfl) (by kernel_rfl) (by kernel_rfl) (fun _ _ _ h => h) (Or.inr ⟨by rfl, rfl⟩) hHeld ?_
        try simp only [Act.put, List.setIfInBounds_toArray, List.set_cons_zero, List.set_cons_succ]
        refine wpAnyH_take (i := 13) (oi := { dst := some 29, op := Op.fieldAddr 37 (Operand.tmp 3) 1, type := 0, pos := "l05_zone.go:53", after := #[{ on := 12, ground := Ground.guard }], guard := some (12, false) }) (v := undef) rfl (by kernel_rfl) (by kernel_rfl) (by kernel_rfl) (fun _ _ _ h => h) (Or.inr ⟨by rfl, rfl⟩) hHeld ?_
        try simp only [Act.put, List.setIfInBounds_toArray, List.set_cons_zero, List.set_cons_succ]
        refine wpAnyH_take (i := 14) (oi := { dst := some 30, op := Op.load 35 (Operand.tmp 29), type := 35, pos := "l05_zone.go:53", after := #[{ on := 13, ground := Ground.data }, { on := 12, ground := Ground.guard }], guard := some (12, false) }) (v := undef) rfl (by kernel_rfl) (by kernel_rfl) (by kernel_rfl) (fun _ _ _ h => h) (Or.inr ⟨by rfl, rfl⟩) hHeld ?_
        try simp only [Act.put, List.setIfInBounds_toArray, List.set_cons_zero, List.set_cons_succ]
        refine wpAnyH_take (i := 15) (oi := { dst := some 31, op := Op.move (Operand.tmp 8), type := 3, pos := "l05_zone.go:53", after := #[{ on := 12, ground := Ground.guard }], guard := some (12, false) }) (v := undef) rfl (by kernel_rfl) (by kernel_rfl) (by kernel_rfl) (fun _ _ _ h => h) (Or.inr ⟨by rfl, rfl⟩) hHeld ?_
        try simp only [Act.put, List.setIfInBounds_toArray, List.set_cons_zero, List.set_cons_succ]
        refine wpAnyH_take (i := 16) (oi := { dst := some 32, op := Op.indexAddr 35 (Operand.tmp 30) (Operand.tmp 31), type := 0, pos := "l05_zone.go:53", after := #[{ on := 14, ground := Ground.data }, { on := 15, ground := Ground.data }, { on := 12, ground := Ground.guard }], guard := some (12, false) }) (v := undef) rfl (by kernel_rfl) (by kernel_rfl) (by kernel_rfl) (fun _ _ _ h => h) (Or.inr ⟨by rfl, rfl⟩) hHeld ?_
        try simp only [Act.put, List.setIfInBounds_toArray, List.set_cons_zero, List.set_cons_succ]
        refine wpAnyH_take (i := 17) (oi := { dst := some 33, op := Op.fieldAddr 42 (Operand.tmp 32) 1, type := 0, pos := "l05_zone.go:53", after := #[{ on := 16, ground := Ground.data }, { on := 12, ground := Ground.guard }], guard := some (12, false) }) (v := undef) rfl (by kernel_rfl) (by kernel_rfl) (by kernel_rfl) (fun _ _ _ h => h) (Or.inr ⟨by rfl, rfl⟩) hHeld ?_
        try simp only [Act.put, List.setIfInBounds_toArray, List.set_cons_zero, List.set_cons_succ]
        refine wpAnyH_take (i := 18) (oi := { dst := some 34, op := Op.load 3 (Operand.tmp 33), type := 3, pos := "l05_zone.go:53", after := #[{ on := 17, ground := Ground.data }, { on := 12, ground := Ground.guard }], guard := some (12, false) }) (v := undef) rfl (by kernel_rfl) (by kernel_rfl) (by kernel_rfl) (fun _ _ _ h => h) (Or.inr ⟨by rfl, rfl⟩) hHeld ?_
        try simp only [Act.put, List.setIfInBounds_toArray, List.set_cons_zero, List.set_cons_succ]
        refine wpAnyH_take (i := 19) (oi := { dst := some 35, op := Op.move (Operand.tmp 2), type := 3, pos := "l05_zone.go:53", after := #[{ on := 12, ground := Ground.guard }], guard := some (12, false) }) (v := undef) rfl (by kernel_rfl) (by kernel_rfl) (by kernel_rfl) (fun _ _ _ h => h) (Or.inr ⟨by rfl, rfl⟩) hHeld ?_
        try simp only [Act.put, List.setIfInBounds_toArray, List.set_cons_zero, List.set_cons_succ]
        refine wpAnyH_take (i := 20) (oi := { dst := some 36, op := Op.binOp BinOp.eql 3 (Operand.tmp 34) (Operand.tmp 35) 3, type := 4, pos := "l05_zone.go:53", after := #[{ on := 18, ground := Ground.data }, { on := 19, ground := Ground.data }, { on := 12, ground := Ground.guard }], guard := some (12, false) }) (v := undef) rfl (by kernel_rfl) (by kernel_rfl) (by kernel_rfl) (fun _ _ _ h => h) (Or.inr ⟨by rfl, rfl⟩) hHeld ?_
        try simp only [Act.put, List.setIfInBounds_toArray, List.set_cons_zero, List.set_cons_succ]
        refine wpAnyH_take (i := 21) (oi := { dst := some 37, op := Op.pick (Operand.tmp 28) (Operand.const (Value.bool true)) (Operand.tmp 36), type := 4, pos := "l05_zone.go:53", after := #[{ on := 12, ground := Ground.data }, { on := 20, ground := Ground.data }, { on := 9, ground := Ground.guard }], guard := some (9, true) }) (v := undef) rfl (by kernel_rfl) (by kernel_rfl) (by kernel_rfl) (fun _ _ _ h => h) (Or.inr ⟨by rfl, rfl⟩) hHeld ?_
        try simp only [Act.put, List.setIfInBounds_toArray, List.set_cons_zero, List.set_cons_succ]
        refine wpAnyH_take (i := 22) (oi := { dst := some 38, op := Op.pick (Operand.tmp 25) (Operand.tmp 37) (Operand.const (Value.bool false)), type := 4, pos := "l05_zone.go:53", after := #[{ on := 9, ground := Ground.data }, { on := 21, ground := Ground.data }], guard := none }) (v := ?_) rfl (by kernel_rfl) (by kernel_rfl) (by kernel_rfl) (fun _ _ _ h => h) (Or.inl ⟨by rfl, ?_⟩) hHeld ?_
        rotate_left
        · (intro w hSw; (try dsimp only at hSw); go_simp <;> with_reducible rfl)
        try simp only [Act.put, List.setIfInBounds_toArray, List.set_cons_zero, List.set_cons_succ]
        refine wpAnyH_done (by kernel_rfl) ?_ _
        clear hHeld
        have bw2 := below_next bd b2
        have R3 : RowS W.heap.size 42 w0 w2 u7 (selK n t rs (k + 1)) := by
          rw [unhide HS1]
          obtain ⟨xs, hxo, hxs⟩ := unhide HROW
          exact ⟨xs, ownsRow_later hxo (below_next (below_drew (w := wr)) b2), hxs⟩
        have HR3 := hide R3
        clear R3
        go_wp2_with fail
        exact ⟨⟨k + 1, by omega, by go_num, unhide HR3, bw2⟩, by simp [intOf]; omega⟩
    · obtain rfl : k = m := by omega
      go_wp2_with fail
      go_ret
      exact ⟨_, _, rfl, hrow, below_next b0 hb⟩
end Go.Proofs.YtmnlhjdjjinbiaaGreat
