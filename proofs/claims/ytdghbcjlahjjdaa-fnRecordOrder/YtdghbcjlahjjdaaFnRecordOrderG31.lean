/-
  Plain facts: a name's text, label by label. No program is named here. Contracts of the program's NameText.
-/
import Derived.Test.YtdghbcjlahjjdaaFnRecordOrderG00
import Derived.Test.YtdghbcjlahjjdaaFnRecordOrderG30
namespace Go.Proofs.Ytdghbcjlahjjdaa
open Go.RowKit

/-- The first k labels, a dot behind each. -/
def dots (n : List (List Int)) (k : Nat) : List Int := ((n.take k).map (fun l => l ++ [46])).flatten

theorem dots_zero (n : List (List Int)) : dots n 0 = [] := by simp [dots]
theorem dots_succ (n : List (List Int)) (k : Nat) (h : k < n.length) : dots n (k + 1) = dots n k ++ n.getD k [] ++ [46] := by
  unfold dots
  rw [List.take_succ_eq_append_getElem h, List.map_append, List.flatten_append, show n.getD k [] = n[k] by simp [h]]
  simp only [List.map_cons, List.map_nil, List.flatten_cons, List.flatten_nil, List.append_nil, List.append_assoc]

theorem dots_length (n : List (List Int)) (h : nameOk n = true) (k : Nat) : (dots n k).length ≤ 16 * k := by
  induction k with
  | zero => simp [dots]
  | succ k ih =>
    by_cases hk : k < n.length
    · rw [dots_succ n k hk]
      have := (labelOk_length ((nameOk_parts h).2 k hk)).2
      simp only [List.length_append, List.length_cons, List.length_nil]
      omega
    · have e : dots n (k + 1) = dots n k := by unfold dots; rw [List.take_of_length_le (by omega), List.take_of_length_le (by omega)]
      rw [e]; omega

/-- A name's text. -/
def nameText (n : List (List Int)) : List Int := if nameOk n = true then (if n.length = 0 then [46] else dots n n.length) else []

theorem nameText_no {n : List (List Int)} (h : nameOk n = false) : nameText n = [] := by simp [nameText, h]
theorem nameText_root {n : List (List Int)} (h : nameOk n = true) (h0 : n.length = 0) : nameText n = [46] := by simp [nameText, h, h0]
theorem nameText_some {n : List (List Int)} (h : nameOk n = true) (h0 : n.length ≠ 0) : nameText n = dots n n.length := by simp [nameText, h, h0]
theorem nameText_length (n : List (List Int)) : (nameText n).length ≤ 96 := by
  unfold nameText
  split
  · rename_i h
    split
    · simp
    · have := dots_length n h n.length
      have := (nameOk_parts h).1
      omega
  · simp
end Go.Proofs.Ytdghbcjlahjjdaa

namespace Go.Proofs.Ytdghbcjlahjjdaa
open Go.RowKit
set_option linter.unusedVariables false

set_option maxHeartbeats 1000000 in
set_option maxRecDepth 100000 in
theorem implNameText_has {v : Value} {n : List (List Int)} {w : World} (h : HasL w v n) :
    Calls Try.prog 35 #[.agg #[v]] w fun e w' => ∃ v', e = .returned v' ∧ Own w.heap.size 5 w' v' (nameText n) ∧ Below w.heap.size w w' := by
  obtain ⟨a, cap, rfl, hl, hm⟩ := h.form
  unfold maxLen at hm
  have b0 := below_alloc (w := w) (.cells #[.slice a n.length cap] 25)
  have k0 := heap_alloc_new w (.cells #[.slice a n.length cap] 25)
  have h0 := hide (h.below b0)
  clear h
  cases hok : nameOk n with
  | false =>
    rw [nameText_no hok]
    have HOK := hide hok
    clear hok
    go_enter Try.func35, Try.ntmps35
    go_wp2_with fail
    generalize w.alloc (.cells #[.slice a n.length cap] 25) = W0 at *
    refine (implNameOk_has (unhide h0)).mono ?_
    rw [unhide HOK]
    rintro e w1 ⟨rfl, b1⟩
    have k1 := block_kept b1 k0
    have c1 := block_one k1
    have h1 := hide ((unhide h0).below b1)
    have bb1 := below_next b0 b1
    have z1 := block_lt k1
    clear b0 k0 h0 b1
    go_wp2_with fail
    go_ret
    exact ⟨_, rfl, World.ownsRow_nil _ _ _ _, bb1⟩
  | true =>
    have HOK := hide hok
    by_cases hn0 : n.length = 0
    · rw [nameText_root hok hn0]
      clear hok
      obtain rfl : n = [] := List.eq_nil_of_length_eq_zero hn0
      simp only [List.length_nil] at *
      clear hn0
      go_enter Try.func35, Try.ntmps35
      go_wp2_with fail
      generalize w.alloc (.cells #[.slice a 0 cap] 25) = W0 at *
      refine (implNameOk_has (unhide h0)).mono ?_
      rw [unhide HOK]
      rintro e w1 ⟨rfl, b1⟩
      have k1 := block_kept b1 k0
      have c1 := block_one k1
      have h1 := hide ((unhide h0).below b1)
      have bb1 := below_next b0 b1
      have z1 := block_lt k1
      clear b0 k0 h0 b1
      go_wp2
      go_ret
      exact ⟨_, rfl, own_lit w1 w.heap.size 5 [46] (by omega) (by simp [maxLen]), bb1.alloc bb1.size _⟩
    · have hdl := dots_length n hok
      have h6 := (nameOk_parts hok).1
      have HDS := hide (dots_succ n)
      have HD0 := hide (dots_zero n)
      have HLEN := hide (show ∀ k, k < n.length → (n.getD k []).length ≤ 15 from fun k hk => (labelOk_length ((nameOk_parts hok).2 k hk)).2)
      rw [nameText_some hok hn0]
      clear hok
      have hn1 : ((n.length : Int) == 0) = false := by rw [beq_eq_false_iff_ne]; omega
      have HDL := hide hdl
      clear hdl
      generalize dots n = D at *
      go_enter Try.func35, Try.ntmps35
      go_wp2_with fail
      generalize w.alloc (.cells #[.slice a n.length cap] 25) = W0 at *
      refine (implNameOk_has (unhide h0)).mono ?_
      rw [unhide HOK]
      rintro e w1 ⟨rfl, b1⟩
      have k1 := block_kept b1 k0
      have c1 := block_one k1
      have h1 := hide ((unhide h0).below b1)
      have bb1 := below_next b0 b1
      have z1 := block_lt k1
      clear b0 k0 h0 b1
      generalize hn : n.length = m at *
      have HN := hide hn
      clear hn
      have K1 := hide k1
      clear k1
      go_wp2
      go_loopw [3, 17] (fun o i wr => ∃ k : Nat, k ≤ m ∧ i = .int .i64 k ∧ Own w1.heap.size 5 wr o (D k) ∧ Below w1.heap.size w1 wr) (fun _ i _ => m - (intOf i).toNat)
      case atStart => exact ⟨0, Nat.zero_le _, rfl, by rw [unhide HD0]; exact World.ownsRow_nil _ _ _ _, Below.refl _ _⟩
      case round =>
        obtain ⟨k, hk, rfl, ho, hb⟩ := hrel
        by_cases hlt : k < m
        · obtain ⟨b, off, u, rfl, hbl, hc, hu⟩ := ((unhide h1).below hb).here (k := k) (by rw [unhide HN]; exact hlt)
          have hds := hide (unhide HDS k hlt)
          have hlk := unhide HLEN k hlt
          have hdk := unhide HDL k
          generalize n.getD k [] = lab at *
          have HU := hide hu
          obtain ⟨ua, uc, rfl, _⟩ := hu.form
          clear hu
          have zb := hb.size
          go_wp2_with (at_builtin; refine append_bytes rfl _ _ 22 5 rfl Try.underlying22 info_u8 w1.heap.size _ (.slice ua lab.length uc) (D k) lab rfl rfl ho (unhide HU).reads (by omega) zb ?_)
          intro v2 w2 o2 g2
          have z2 := g2.size
          have hb2 : Below w1.heap.size w1 w2 := hb.grown g2 zb (fun q hq => (ho.lt q hq).1)
          clear g2 ho hb
          go_wp2_with (at_builtin; refine append_bytes rfl _ _ 22 5 rfl Try.underlying22 info_u8 w1.heap.size v2 _ (D k ++ lab) [46] rfl rfl (o2.alloc _) (own_lit w2 0 5 [46] (Nat.zero_le _) (by simp [maxLen])).reads (by simp; omega) (by simp; omega) ?_)
          intro v3 w3 o3 g3
          have hb3 : Below w1.heap.size w1 w3 := (hb2.alloc hb2.size _).grown g3 (by simp; omega) (fun q hq => (o2.lt q hq).1)
          clear g3 o2 hb2
          go_wp2_with fail
          exact ⟨⟨k + 1, by omega, by go_num, by rw [unhide hds, List.append_assoc]; exact o3, hb3⟩, by simp [intOf]; omega⟩
        · obtain rfl : k = m := by omega
          go_wp2_with fail
          go_ret
          exact ⟨_, rfl, by rw [unhide HN]; exact ho.mono (Nat.le_of_lt z1), below_next bb1 hb⟩
end Go.Proofs.Ytdghbcjlahjjdaa
