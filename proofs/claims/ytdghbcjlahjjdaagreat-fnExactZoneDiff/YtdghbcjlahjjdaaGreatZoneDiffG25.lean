/-
  Contract of the program's ZoneDiff. Contracts of the specification's LabelOk. Contracts of the specification's NameOk.
-/
import Derived.Test.YtdghbcjlahjjdaaGreatZoneDiffG23
import Derived.Test.YtdghbcjlahjjdaaGreatZoneDiffG24
import Derived.Test.YtdghbcjlahjjdaaGreatZoneDiffG04
import Derived.Test.YtdghbcjlahjjdaaGreatZoneDiffG00
namespace Go.Proofs.YtdghbcjlahjjdaaGreat
open Go.RowKit
set_option linter.unusedVariables false

set_option maxHeartbeats 4000000 in
set_option maxRecDepth 100000 in
theorem implZoneDiff_own {vo vr uo ur : Value} {o p : List (List Int)} {a b : List Rec} {w : World} (h : HasZ w vo vr o a) (h' : HasZ w uo ur p b) :
    Calls Tryz.prog 40 #[.agg #[vo, vr], .agg #[uo, ur]] w fun e w' => ∃ v1 v2, e = .returned (.tuple #[v1, v2, .bool (diffOf o a p b).2.2]) ∧ (∃ s, w.heap.size ≤ s ∧ s ≤ w'.heap.size ∧ RowO w.heap.size s 101 37 5 3 w' v1 (diffOf o a p b).1 ∧ RowO s w'.heap.size 101 37 5 3 w' v2 (diffOf o a p b).2.1) ∧ Below w.heap.size w w' := by
  obtain ⟨oa, oc, rfl, _⟩ := h.name.form
  obtain ⟨ra, rc, rfl, _⟩ := h.recs.form
  obtain ⟨pa, pc, rfl, _⟩ := h'.name.form
  obtain ⟨sa, sc, rfl, _⟩ := h'.recs.form
  obtain ⟨hsz, k0, x0⟩ := box2 w (.cells #[.slice oa o.length oc, .slice ra a.length rc] 55) #[.slice pa p.length pc, .slice sa b.length sc] 55
  have b0 := below2 w (.cells #[.slice oa o.length oc, .slice ra a.length rc] 55) (.cells #[.slice pa p.length pc, .slice sa b.length sc] 55)
  have HA := hide (h.below b0)
  have HB := hide (h'.below b0)
  have K0 := hide k0
  have X0 := hide x0
  have zx := block_lt x0
  generalize hRes : diffOf o a p b = Res
  have HQ0 := hide hRes
  clear hRes hsz k0 x0 h h'
  go_enter Tryz.func40, Tryz.ntmps40
  obtain ⟨c0, c1⟩ := cells2 (unhide K0)
  obtain ⟨d0, d1⟩ := cells2 (unhide X0)
  go_wp2_with fail
  clear c0 c1 d0 d1
  generalize (w.alloc (.cells #[.slice oa o.length oc, .slice ra a.length rc] 55)).alloc (.cells #[.slice pa p.length pc, .slice sa b.length sc] 55) = W at *
  refine (implZoneOk_has (unhide HA)).mono ?_
  rintro e w1 ⟨rfl, b1⟩
  have bb := below_next b0 b1
  replace HA := hide ((unhide HA).below b1)
  replace HB := hide ((unhide HB).below b1)
  replace K0 := hide (block_kept b1 (unhide K0))
  replace X0 := hide (block_kept b1 (unhide X0))
  have z1 := b1.size
  clear b0 b1
  have hRes := unhide HQ0
  unfold diffOf at hRes
  clear HQ0
  cases hoa : zoneOk o a with
  | false =>
    rw [if_neg (fun q => by rw [hoa] at q; cases q.1)] at hRes
    subst hRes
    clear hoa
    go_wp2_with fail
    refine bodyPost_ret (results_tmp3 rfl _ _ _) rfl ?_
    exact ⟨_, _, rfl, ⟨w.heap.size, Nat.le_refl _, bb.size, RowO.nil _ _ _ _ _ _ _, RowO.nil _ _ _ _ _ _ _⟩, bb⟩
  | true =>
    obtain ⟨c0, c1⟩ := cells2 (unhide K0)
    obtain ⟨d0, d1⟩ := cells2 (unhide X0)
    have HOA := hide hoa
    have HQ1 := hide hRes
    clear hRes
    go_wp2_with fail
    clear c0 c1 d0 d1
    refine (implZoneOk_has (unhide HB)).mono ?_
    rintro e w2 ⟨rfl, b2⟩
    replace bb := below_next bb b2
    replace HA := hide ((unhide HA).below b2)
    replace HB := hide ((unhide HB).below b2)
    replace K0 := hide (block_kept b2 (unhide K0))
    replace X0 := hide (block_kept b2 (unhide X0))
    have z2 := b2.size
    clear b2 hoa
    cases hob : zoneOk p b with
    | false =>
      have hRes := unhide HQ1
      rw [if_neg (fun q => by rw [hob] at q; cases q.2)] at hRes
      subst hRes
      clear hob HQ1
      go_wp2_with fail
      refine bodyPost_ret (results_tmp3 rfl _ _ _) rfl ?_
      exact ⟨_, _, rfl, ⟨w.heap.size, Nat.le_refl _, bb.size, RowO.nil _ _ _ _ _ _ _, RowO.nil _ _ _ _ _ _ _⟩, bb⟩
    | true =>
      have hRes := unhide HQ1
      rw [if_pos ⟨unhide HOA, hob⟩] at hRes
      subst hRes
      clear HQ1
      have HOB := hide hob
      clear hob
      have bd := below_drew (w := w2)
      have hzd : w2.drew.heap.size = w2.heap.size := rfl
      have A1 := hide ((unhide HA).below bd)
      have B1 := hide ((unhide HB).below bd)
      have K1 := hide (block_kept bd (unhide K0))
      have X1 := hide (block_kept bd (unhide X0))
      have bb1 := below_next bb bd
      have HO1 := hide (onlyIn_own (unhide A1) (unhide B1) (unhide HOA) (unhide HOB))
      clear bd HA HB K0 X0 bb
      go_wp2_with fail
      go_region_held3 (fun w' => (w'.cell? ⟨w.heap.size, 0, none⟩ = some (.slice oa o.length oc) ∧ w'.cell? ⟨w.heap.size, 1, none⟩ = some (.slice ra a.length rc)) ∧ (w'.cell? ⟨w.heap.size + 1, 0, none⟩ = some (.slice pa p.length pc) ∧ w'.cell? ⟨w.heap.size + 1, 1, none⟩ = some (.slice sa b.length sc)))
        (first | exact ⟨cells2 (unhide K1), cells2 (unhide X1)⟩ | exact ⟨cells2 (block_kept q4 (unhide K1)), cells2 (block_kept q4 (unhide X1))⟩ | exact ⟨cells2 (block_kept b3 (unhide K1)), cells2 (block_kept b3 (unhide X1))⟩)
        (first
        | (go_at_call 84; refine (unhide HO1).mono ?_; clear HO1; rintro e w3 ⟨v3, rfl, o3, b3⟩; obtain ⟨a3, c3, rfl, _⟩ := o3.form; have HO2 := hide (onlyIn_own ((unhide B1).below b3) ((unhide A1).below b3) (unhide HOB) (unhide HOA)); have O3 := hide o3; clear o3)
        | (go_at_call 84; refine (unhide HO2).mono ?_; clear HO2; rintro e w4 ⟨v4, rfl, o4, b4⟩; obtain ⟨a4, c4, rfl, _⟩ := o4.form; have q4 := below_next b3 b4))
      have O4 := ((unhide O3).below b4)
      have z3 := b3.size
      have z4 := b4.size
      have bb4 := below_next (below_next bb1 b3) b4
      clear A1 B1 K1 X1 O3 b3 q4
      go_wp2_with fail
      refine bodyPost_ret (results_tmp3 rfl _ _ _) rfl ?_
      exact ⟨_, _, rfl, ⟨w3.heap.size, by omega, by omega, O4.wide (by omega) (Nat.le_refl _), o4⟩, bb4⟩
end Go.Proofs.YtdghbcjlahjjdaaGreat

namespace Go.Proofs.YtdghbcjlahjjdaaGreat
open Go.RowKit
set_option linter.unusedVariables false

theorem ssign_cases (c : Int) : (97 ≤ c ∧ c ≤ 122) ∨ (97 ≤ c ∧ 122 < c) ∨ (c < 97 ∧ 48 ≤ c ∧ c ≤ 57) ∨ (c < 97 ∧ 48 ≤ c ∧ 57 < c ∧ c ≠ 45) ∨ (c < 97 ∧ c < 48 ∧ c = 45) ∨ (c < 97 ∧ c < 48 ∧ c ≠ 45) := by omega

set_option maxHeartbeats 1600000 in
set_option maxRecDepth 100000 in
theorem specLabelOk_has {v : Value} {l : List Int} {w : World} (h : Has w v l) :
    Calls Tryz.prog 116 #[v] w fun e w' => e = .returned (.bool (labelOk l)) ∧ w = w' := by
  have hbd := h.bound
  unfold maxLen at hbd
  obtain ⟨a, cap, rfl, hL⟩ := h.form
  by_cases h0 : l.length = 0
  · rw [labelOk_short (by omega), h0]
    go_enter Tryz.func116, Tryz.ntmps116
    go_wp2
    go_ret
    exact ⟨rfl, rfl⟩
  · by_cases h1 : 15 < l.length
    · rw [labelOk_short (by omega)]
      generalize hn : l.length = n at *
      go_enter Tryz.func116, Tryz.ntmps116
      go_wp2
      go_ret
      exact ⟨rfl, rfl⟩
    · have h2 : l.length ≤ 15 := by omega
      have hyes := hide (fun (hs : ∀ j, j < l.length → signOk (l.getD j 0) = true) => labelOk_yes (l := l) (by omega) h2 hs)
      have hno := hide (fun (j : Nat) (hj : j < l.length) (hs : signOk (l.getD j 0) = false) => labelOk_sign hj hs)
      generalize hok : labelOk l = ok at *
      clear hok
      generalize hn : l.length = n at *
      have HN := hide hn
      clear hn
      have hn1 : (1 : Int) ≤ n := by omega
      go_enter Tryz.func116, Tryz.ntmps116
      go_wp2
      go_loop [3] (fun i => ∃ k : Nat, k ≤ n ∧ i = .int .i64 k ∧ Hid (∀ j, j < k → signOk (l.getD j 0) = true)) (fun i => n - (intOf i).toNat)
      case atStart => exact ⟨0, Nat.zero_le _, rfl, hide (fun j hj => absurd hj (Nat.not_lt_zero _))⟩
      case round =>
        obtain ⟨k, hk, rfl, hall⟩ := hrel
        by_cases hlt : k < n
        · obtain ⟨b, off, rfl, hbl, hc⟩ := hL.here (k := k) (by rw [unhide HN]; exact hlt)
          have hone := hide (fun (hs : signOk (l.getD k 0) = true) => (show ∀ j, j < k + 1 → signOk (l.getD j 0) = true from fun j hj => by
            by_cases e : j = k
            · subst e; exact hs
            · exact unhide hall j (by omega)))
          have hnok := hide (fun (hs : signOk (l.getD k 0) = false) => unhide hno k hlt hs)
          generalize hx : l.getD k 0 = x at *
          rcases ssign_cases x with ⟨h1, h2⟩ | ⟨h1, h2⟩ | ⟨h1, h2, h3⟩ | ⟨h1, h2, h3, h4⟩ | ⟨h1, h2, rfl⟩ | ⟨h1, h2, h3⟩
          · have hs : signOk x = true := decide_eq_true (by omega)
            go_wp2
            exact ⟨⟨k + 1, by omega, by go_num, hide (unhide hone hs)⟩, by simp [intOf]; omega⟩
          · have hs : signOk x = false := decide_eq_false (by omega)
            have hq := unhide hnok hs
            subst hq
            have h8 : (x == 45) = false := by simp; omega
            have h5 : 48 ≤ x := by omega
            have h6 : ¬ x ≤ 57 := by omega
            have h7 : ¬ x ≤ 122 := by omega
            go_wp2
            go_ret
            exact ⟨rfl, rfl⟩
          · have hs : signOk x = true := decide_eq_true (by omega)
            have h5 : ¬ 97 ≤ x := by omega
            go_wp2
            exact ⟨⟨k + 1, by omega, by go_num, hide (unhide hone hs)⟩, by simp [intOf]; omega⟩
          · have hs : signOk x = false := decide_eq_false (by omega)
            have hq := unhide hnok hs
            subst hq
            have h8 : (x == 45) = false := by simp; omega
            have h5 : ¬ 97 ≤ x := by omega
            have h6 : ¬ x ≤ 57 := by omega
            go_wp2
            go_ret
            exact ⟨rfl, rfl⟩
          · have hs : signOk 45 = true := rfl
            go_wp2
            exact ⟨⟨k + 1, by omega, by go_num, hide (unhide hone hs)⟩, by simp [intOf]; omega⟩
          · have hs : signOk x = false := decide_eq_false (by omega)
            have hq := unhide hnok hs
            subst hq
            have h8 : (x == 45) = false := by simp; omega
            have h5 : ¬ 97 ≤ x := by omega
            have h6 : ¬ 48 ≤ x := by omega
            go_wp2
            go_ret
            exact ⟨rfl, rfl⟩
        · obtain rfl : k = n := by omega
          have hq := unhide hyes (unhide hall)
          subst hq
          go_wp2
          go_ret
          exact ⟨rfl, rfl⟩
end Go.Proofs.YtdghbcjlahjjdaaGreat

namespace Go.Proofs.YtdghbcjlahjjdaaGreat
open Go.RowKit
set_option linter.unusedVariables false

set_option maxHeartbeats 400000 in
set_option maxRecDepth 100000 in
theorem specNameOk_has {v : Value} {n : List (List Int)} {w : World} (h : HasL w v n) :
    Calls Tryz.prog 65 #[.agg #[v]] w fun e w' => e = .returned (.bool (nameOk n)) ∧ Below w.heap.size w w' := by
  obtain ⟨a, cap, rfl, hl, hm⟩ := h.form
  unfold maxLen at hm
  by_cases h1 : 6 < n.length
  · rw [nameOk_long h1]
    have H := hide h
    clear h
    generalize hn : n.length = m at *
    have HN := hide hn
    clear hn
    go_enter Tryz.func65, Tryz.ntmps65
    go_wp2
    go_ret
    exact ⟨rfl, below_alloc _⟩
  · have h2 : n.length ≤ 6 := by omega
    have hA := h.below (below_alloc (.cells #[.slice a n.length cap] 53))
    have H := hide h
    clear h
    have hyes := hide (fun (hs : ∀ j, j < n.length → labelOk (n.getD j []) = true) => nameOk_yes (n := n) h2 hs)
    have hno := hide (fun (j : Nat) (hj : j < n.length) (hs : labelOk (n.getD j []) = false) => nameOk_label hj hs)
    generalize hok : nameOk n = ok at *
    clear hok
    generalize hn : n.length = m at *
    have HN := hide hn
    clear hn
    go_enter Tryz.func65, Tryz.ntmps65
    go_wp2
    go_loop [3] (fun i => ∃ k : Nat, k ≤ m ∧ i = .int .i64 k ∧ Hid (∀ j, j < k → labelOk (n.getD j []) = true)) (fun i => m - (intOf i).toNat)
    case atStart => exact ⟨0, Nat.zero_le _, rfl, hide (fun j hj => absurd hj (Nat.not_lt_zero _))⟩
    case round =>
      obtain ⟨k, hk, rfl, hall⟩ := hrel
      by_cases hlt : k < m
      · obtain ⟨b, off, u, rfl, hbl, hc, hu⟩ := hA.here (k := k) (by rw [unhide HN]; exact hlt)
        have hone := hide (fun (hs : labelOk (n.getD k []) = true) => (show ∀ j, j < k + 1 → labelOk (n.getD j []) = true from fun j hj => by
            by_cases e : j = k
            · subst e; exact hs
            · exact unhide hall j (by omega)))
        have hnok := hide (fun (hs : labelOk (n.getD k []) = false) => unhide hno k hlt hs)
        generalize hx : n.getD k [] = x at *
        have HU := hide hu
        obtain ⟨ua, uc, rfl, _⟩ := hu.form
        clear hu
        go_wp2_with fail
        refine (specLabelOk_has (unhide HU)).mono ?_
        rintro e w1 ⟨rfl, rfl⟩
        cases hs : labelOk x with
        | true =>
          go_wp2
          exact ⟨⟨k + 1, by omega, by go_num, hide (unhide hone hs)⟩, by simp [intOf]; omega⟩
        | false =>
          have hq := unhide hnok hs
          subst hq
          go_wp2
          go_ret
          exact ⟨rfl, below_alloc _⟩
      · obtain rfl : k = m := by omega
        have hq := unhide hyes (unhide hall)
        subst hq
        go_wp2
        go_ret
        exact ⟨rfl, below_alloc _⟩
end Go.Proofs.YtdghbcjlahjjdaaGreat
