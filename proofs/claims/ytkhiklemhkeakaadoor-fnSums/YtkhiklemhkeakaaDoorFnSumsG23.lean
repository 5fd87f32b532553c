/-
  Contracts of the program's NamePut. Contract of the program's Dhcid.
-/
import Derived.Test.YtkhiklemhkeakaaDoorFnSumsG22
import Derived.Test.YtkhiklemhkeakaaDoorFnSumsG13
import Derived.Test.YtkhiklemhkeakaaDoorFnSumsG21
import Derived.Test.YtkhiklemhkeakaaDoorFnSumsG18
namespace Go.Proofs.YtkhiklemhkeakaaDoor
open Go.RowKit
set_option linter.unusedVariables false

set_option maxHeartbeats 1000000 in
set_option maxRecDepth 100000 in
theorem implNamePut_has {vb v : Value} {l : List Int} {n : List (List Int)} {w : World} (hvb : Has w vb l) (hl : l.length ≤ 1048576) (h : HasL w v n) :
    Calls Tryd.prog 23 #[vb, .agg #[v]] w fun e w' => ∃ v', e = .returned (.tuple #[v', .bool (nameOk n)]) ∧ Own w.heap.size 5 w' v' (namePut l n) ∧ Below w.heap.size w w' := by
  obtain ⟨a, cap, rfl, hcl, hm⟩ := h.form
  unfold maxLen at hm
  have b0 := below_alloc (w := w) (.cells #[.slice a n.length cap] 27)
  have k0 := heap_alloc_new w (.cells #[.slice a n.length cap] 27)
  have h0 := hide (h.below b0)
  have v0 := hide (hvb.below b0)
  clear h hvb
  cases hok : nameOk n with
  | false =>
    rw [namePut_no hok]
    have HOK := hide hok
    clear hok
    go_enter Tryd.func23, Tryd.ntmps23
    go_wp2_with fail
    generalize w.alloc (.cells #[.slice a n.length cap] 27) = W0 at *
    refine (implNameOk_has (unhide h0)).mono ?_
    rw [unhide HOK]
    rintro e w1 ⟨rfl, b1⟩
    have bb1 := below_next b0 b1
    clear b0 k0 h0 b1
    go_wp2_with fail
    go_ret2
    exact ⟨_, rfl, World.ownsRow_nil _ _ _ _, bb1⟩
  | true =>
    have HOK := hide hok
    have hdl := wires_length n hok
    have h6 := (nameOk_parts hok).1
    have HDS := hide (wires_succ n)
    have HD0 := hide (wires_zero n)
    have HLEN := hide (show ∀ k, k < n.length → (n.getD k []).length ≤ 15 from fun k hk => (labelOk_length ((nameOk_parts hok).2 k hk)).2)
    rw [namePut_yes hok]
    unfold wire
    clear hok
    have HDL := hide hdl
    clear hdl
    generalize wires n = D at *
    go_enter Tryd.func23, Tryd.ntmps23
    go_wp2_with fail
    generalize w.alloc (.cells #[.slice a n.length cap] 27) = W0 at *
    refine (implNameOk_has (unhide h0)).mono ?_
    rw [unhide HOK]
    rintro e w1 ⟨rfl, b1⟩
    have k1 := block_kept b1 k0
    have h1 := hide ((unhide h0).below b1)
    have v1 := hide ((unhide v0).below b1)
    have bb1 := below_next b0 b1
    have z1 := block_lt k1
    clear b0 k0 h0 b1 v0
    go_wp2_with fail
    refine (copyBytes_reads (unhide v1).reads (by omega)).mono ?_
    rintro e w2 ⟨v2, rfl, o2, b2⟩
    have k2 := block_kept b2 k1
    have c2 := block_one k2
    have H1 := hide (unhide h1).at
    have z2 := b2.size
    generalize hn : n.length = m at *
    have HN := hide hn
    clear hn
    have K2 := hide k2
    clear k2 k1 h1 v1
    go_wp2
    go_loopw [6, 17] (fun o i wr => ∃ k : Nat, k ≤ m ∧ i = .int .i64 k ∧ Own w1.heap.size 5 wr o (l ++ D k) ∧ Below w1.heap.size w1 wr) (fun _ i _ => m - (intOf i).toNat)
    case atStart => exact ⟨0, Nat.zero_le _, rfl, by rw [unhide HD0, List.append_nil]; exact o2, b2⟩
    case round =>
      obtain ⟨k, hk, rfl, ho, hb⟩ := hrel
      have zb := hb.size
      have hdk := unhide HDL k
      have hdk2 : (l ++ D k).length ≤ 1048576 + 96 := by rw [List.length_append]; omega
      by_cases hlt : k < m
      · obtain ⟨b, off, u, rfl, hbl, hc, hu⟩ := ((unhide H1).low hb (Nat.le_refl _)).here (k := k) (by rw [unhide HN]; exact hlt)
        have hds := hide (unhide HDS k hlt)
        have hlk := unhide HLEN k hlt
        generalize n.getD k [] = lab at *
        have HU := hide hu
        obtain ⟨ua, uc, rfl, _⟩ := hu.form
        clear hu
        go_wp2_with fail
        refine (appendCounted_own ho (unhide HU) (by omega) (by omega) zb).mono ?_
        rintro e w3 ⟨v3, rfl, o3, b3⟩
        go_wp2_with fail
        exact ⟨⟨k + 1, by omega, by go_num, by rw [unhide hds, ← List.append_assoc]; exact o3, hb.trans b3⟩, by simp [intOf]; omega⟩
      · obtain rfl : k = m := by omega
        go_wp2_with (at_builtin; refine append_bytes rfl _ _ 22 5 rfl Tryd.underlying22 info_u8 w1.heap.size _ _ (l ++ D k) [0] rfl rfl (ho.alloc _) (own_lit wr 0 5 [0] (Nat.zero_le _) (by simp [maxLen])).reads (by simp only [List.length_cons, List.length_nil]; omega) (by simp; omega) ?_)
        intro v4 w4 o4 g4
        have b4 : Below w1.heap.size w1 w4 := (hb.alloc zb _).grown g4 (by simp; omega) (fun q hq => (ho.lt q hq).1)
        go_wp2_with fail
        go_ret2
        exact ⟨v4, rfl, by rw [unhide HN]; simpa only [List.append_assoc] using o4.mono (Nat.le_of_lt z1), below_next bb1 b4⟩
end Go.Proofs.YtkhiklemhkeakaaDoor

namespace Go.Proofs.YtkhiklemhkeakaaDoor
open Go.RowKit
set_option linter.unusedVariables false
set_option linter.unusedSimpArgs false

set_option maxHeartbeats 400000 in
set_option maxRecDepth 100000 in
theorem clientOk_has {v : Value} {l : List Int} {w : World} (h : Has w v l) (hl : l.length ≤ 1048576) :
    Calls Tryd.prog 21 #[v] w fun e w' => e = .returned (.bool (clientOk l)) ∧ Below w.heap.size w w' := by
  obtain ⟨a, cap, rfl, _⟩ := h.form
  clear h
  unfold clientOk
  generalize l.length = n at *
  by_cases h1 : 1 ≤ n
  · have e1 : (0 : Int) < n := by omega
    by_cases h2 : n ≤ 16
    · have e2 : (n : Int) ≤ 16 := by omega
      rw [decide_eq_true h1, decide_eq_true h2]
      clear h1 h2
      go_enter Tryd.func21, Tryd.ntmps21
      go_wp2
      go_ret
      exact ⟨rfl, Below.refl _ _⟩
    · have e2 : ¬ (n : Int) ≤ 16 := by omega
      rw [decide_eq_true h1, decide_eq_false h2]
      clear h1 h2
      go_enter Tryd.func21, Tryd.ntmps21
      go_wp2
      go_ret
      exact ⟨rfl, Below.refl _ _⟩
  · have e1 : ¬ (0 : Int) < n := by omega
    rw [decide_eq_false h1, Bool.false_and]
    clear h1
    go_enter Tryd.func21, Tryd.ntmps21
    go_wp2
    go_ret
    exact ⟨rfl, Below.refl _ _⟩

set_option maxHeartbeats 1000000 in
set_option maxRecDepth 100000 in
theorem implDhcid_has {vb v : Value} {l : List Int} {n : List (List Int)} {w : World} (hvb : Has w vb l) (hl : l.length ≤ 1048576) (h8 : Bytes8 l) (h : HasL w v n) (hF : TabW w 0 (l8 iv8)) (hG : TabW w 1 kW) :
    Calls Tryd.prog 8 #[vb, .agg #[v]] w fun e w' => ∃ v', e = .returned (.tuple #[v', .bool (clientOk l && nameOk n)]) ∧ Own w.heap.size 5 w' v' (dhcidOf l n) ∧ Below w.heap.size w w' := by
  obtain ⟨a, cap, rfl, hcl, hm⟩ := h.form
  obtain ⟨ba, bc, rfl, _⟩ := hvb.form
  have b0 := below_alloc (w := w) (.cells #[.slice a n.length cap] 27)
  have k0 := hide (heap_alloc_new w (.cells #[.slice a n.length cap] 27))
  have H0 := hide (h.below b0)
  have V0 := hide (hvb.below b0)
  have HH := hide h
  have HV := hide hvb
  have HF := hide hF
  have HG := hide hG
  clear h hvb hF hG
  cases hc : clientOk l with
  | false =>
    have HC := hide hc
    rw [show dhcidOf l n = [] by unfold dhcidOf; rw [hc]; rfl, Bool.false_and]
    clear hc
    go_enter Tryd.func8, Tryd.ntmps8
    go_wp2_with fail
    generalize w.alloc (.cells #[.slice a n.length cap] 27) = W0 at *
    refine (clientOk_has (unhide V0) hl).mono ?_
    rw [unhide HC]
    rintro e w1 ⟨rfl, b1⟩
    have bb1 := below_next b0 b1
    clear b0 k0 H0 b1
    go_wp2_with fail
    go_ret2
    exact ⟨_, rfl, World.ownsRow_nil _ _ _ _, bb1⟩
  | true =>
    have HC := hide hc
    cases hok : nameOk n with
    | false =>
      have HOK := hide hok
      rw [show dhcidOf l n = [] by unfold dhcidOf; rw [hc, hok]; rfl, Bool.true_and]
      clear hc hok
      go_enter Tryd.func8, Tryd.ntmps8
      go_wp2_with fail
      generalize w.alloc (.cells #[.slice a n.length cap] 27) = W0 at *
      refine (clientOk_has (unhide V0) hl).mono ?_
      rw [unhide HC]
      rintro e w1 ⟨rfl, b1⟩
      have bb1 := below_next b0 b1
      replace H0 := hide ((unhide H0).below b1)
      have c1 := block_one (block_kept b1 (unhide k0))
      clear b0 k0 b1
      go_wp2_with fail
      refine (implNameOk_has (unhide H0)).mono ?_
      rw [unhide HOK]
      rintro e w2 ⟨rfl, b2⟩
      have bb2 := below_next bb1 b2
      clear c1 bb1 b2
      go_wp2_with fail
      go_ret2
      exact ⟨_, rfl, World.ownsRow_nil _ _ _ _, bb2⟩
    | true =>
      have HOK := hide hok
      have hln : (l ++ wire n).length ≤ 4096 := by
        have h1 := wire_length n hok
        have h2 : l.length ≤ 16 := by unfold clientOk at hc; simp at hc; exact hc.2
        rw [List.length_append]
        omega
      have HLN := hide hln
      have HB := hide (dhcid_bytes h8 hok)
      have HD := hide (show dhcidOf l n = [0, 1, 1] ++ shaOf (l ++ wire n) by unfold dhcidOf; rw [hc, hok]; rfl)
      have HNP := hide (namePut_yes (l := l) hok)
      have HSL := hide (shaOf_length (l ++ wire n))
      rw [Bool.true_and]
      clear hc hok hln h8
      go_enter Tryd.func8, Tryd.ntmps8
      go_wp2_with fail
      generalize w.alloc (.cells #[.slice a n.length cap] 27) = W0 at *
      refine (clientOk_has (unhide V0) hl).mono ?_
      rw [unhide HC]
      rintro e w1 ⟨rfl, b1⟩
      have bb1 := below_next b0 b1
      replace H0 := hide ((unhide H0).below b1)
      replace V0 := hide ((unhide V0).below b1)
      replace k0 := hide (block_kept b1 (unhide k0))
      have c1 := block_one (unhide k0)
      clear b0 b1
      go_wp2_with fail
      refine (implNameOk_has (unhide H0)).mono ?_
      rw [unhide HOK]
      rintro e w2 ⟨rfl, b2⟩
      have bb2 := below_next bb1 b2
      replace H0 := hide ((unhide H0).below b2)
      replace V0 := hide ((unhide V0).below b2)
      replace k0 := hide (block_kept b2 (unhide k0))
      clear c1 bb1 b2
      have c1 := block_one (unhide k0)
      go_wp2_with fail
      refine (implNamePut_has (unhide V0) hl (unhide H0)).mono ?_
      rw [unhide HOK, unhide HNP]
      rintro e w3 ⟨v3, rfl, o3, b3⟩
      have bb3 := below_next bb2 b3
      clear c1 bb2 b3
      have ba := below_alloc (w := w3) (.cells #[.int .u8 0, .int .u8 1, .int .u8 1] 5)
      have LT := hide (own_lit w3 w.heap.size 5 [0, 1, 1] bb3.size (by simp [maxLen]))
      have O3 := hide (o3.below ba)
      have BB := hide (below_next bb3 ba)
      clear o3 ba bb3
      go_wp2_with fail
      replace LT : Hid (Own w.heap.size 5 (w3.alloc (.cells #[.int .u8 0, .int .u8 1, .int .u8 1] 5)) (.slice (some ⟨w3.heap.size, 0, none⟩) 3 3) [0, 1, 1]) := LT
      generalize w3.alloc (.cells #[.int .u8 0, .int .u8 1, .int .u8 1] 5) = w4 at *
      refine (sha_own (unhide O3).has (unhide HLN) (unhide HB) ((unhide HF).below (unhide BB)) ((unhide HG).below (unhide BB))).mono ?_
      rintro e w5 ⟨v5, rfl, o5, b5⟩
      have LT5 := hide ((unhide LT).below b5)
      have BB5 := hide (below_next (unhide BB) b5)
      have z5 := (unhide BB5).size
      clear b5
      go_wp2_with (at_builtin; refine append_bytes rfl _ _ 22 5 rfl Tryd.underlying22 info_u8 w.heap.size (.slice (some ⟨w3.heap.size, 0, none⟩) 3 3) v5 [0, 1, 1] (shaOf (l ++ wire n)) rfl rfl (unhide LT5) o5.reads (by rw [unhide HSL]; simp) z5 ?_)
      intro v6 w6 o6 hgrow
      have b6 := (unhide BB5).grown hgrow z5 (fun k hk => ((unhide LT5).lt k hk).1)
      replace o6 : Own w.heap.size 5 w6 v6 (dhcidOf l n) := by rw [unhide HD]; exact o6
      clear hgrow
      go_wp2_with fail
      go_ret2
      exact ⟨_, rfl, o6, b6⟩
end Go.Proofs.YtkhiklemhkeakaaDoor
