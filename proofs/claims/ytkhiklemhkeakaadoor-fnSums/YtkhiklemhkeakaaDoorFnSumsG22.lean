/-
  Contracts of the program's NameOk. Contracts of the program's appendCounted: behind a row of the caller's own a byte with how many bytes a text has, and the text.
-/
import Derived.Test.YtkhiklemhkeakaaDoorFnSumsG21
import Derived.Test.YtkhiklemhkeakaaDoorFnSumsG01
import Derived.Test.YtkhiklemhkeakaaDoorFnSumsG04
namespace Go.Proofs.YtkhiklemhkeakaaDoor
open Go.RowKit
set_option linter.unusedVariables false

set_option maxHeartbeats 400000 in
set_option maxRecDepth 100000 in
theorem implNameOk_has {v : Value} {n : List (List Int)} {w : World} (h : HasL w v n) :
    Calls Tryd.prog 22 #[.agg #[v]] w fun e w' => e = .returned (.bool (nameOk n)) ∧ Below w.heap.size w w' := by
  obtain ⟨a, cap, rfl, hl, hm⟩ := h.form
  unfold maxLen at hm
  by_cases h1 : 6 < n.length
  · rw [nameOk_long h1]
    have H := hide h
    clear h
    generalize hn : n.length = m at *
    have HN := hide hn
    clear hn
    go_enter Tryd.func22, Tryd.ntmps22
    go_wp2
    go_ret
    exact ⟨rfl, below_alloc _⟩
  · have h2 : n.length ≤ 6 := by omega
    have hA := h.below (below_alloc (.cells #[.slice a n.length cap] 27))
    have H := hide h
    clear h
    have hyes := hide (fun (hs : ∀ j, j < n.length → labelOk (n.getD j []) = true) => nameOk_yes (n := n) h2 hs)
    have hno := hide (fun (j : Nat) (hj : j < n.length) (hs : labelOk (n.getD j []) = false) => nameOk_label hj hs)
    generalize hok : nameOk n = ok at *
    clear hok
    generalize hn : n.length = m at *
    have HN := hide hn
    clear hn
    go_enter Tryd.func22, Tryd.ntmps22
    go_wp2
    go_loop [12] (fun i => ∃ k : Nat, k ≤ m ∧ i = .int .i64 k ∧ Hid (∀ j, j < k → labelOk (n.getD j []) = true)) (fun i => m - (intOf i).toNat)
    case atStart => exact ⟨0, Nat.zero_le _, rfl, hide (fun j hj => absurd hj (Nat.not_lt_zero _))⟩
    case round =>
      obtain ⟨k, hk, rfl, hall⟩ := hrel
      by_cases hlt : k < m
      · obtain ⟨b, off, u, rfl, hbl, hc, hu⟩ := hA.here (k := k) (by rw [unhide HN]; exact hlt)
        have hone := hide (fun (hs : labelOk (n.getD k []) = true) => (show ∀ j, j < k + 1 → labelOk (n.getD j []) = true from fun j hj => by
            by_cases e : j = k
            · subst e; exact hs
            · exact unhide hall j (by omega)))
        have hnok := hide (fun (hs : labelOk (n.getD k []) = false) => unhide hno k hlt hs)
        generalize hx : n.getD k [] = x at *
        have HU := hide hu
        obtain ⟨ua, uc, rfl, _⟩ := hu.form
        clear hu
        go_wp2_with fail
        refine (implLabelOk_has (unhide HU)).mono ?_
        rintro e w1 ⟨rfl, rfl⟩
        cases hs : labelOk x with
        | true =>
          go_wp2
          exact ⟨⟨k + 1, by omega, by go_num, hide (unhide hone hs)⟩, by simp [intOf]; omega⟩
        | false =>
          have hq := unhide hnok hs
          subst hq
          go_wp2
          go_ret
          exact ⟨rfl, below_alloc _⟩
      · obtain rfl : k = m := by omega
        have hq := unhide hyes (unhide hall)
        subst hq
        go_wp2
        go_ret
        exact ⟨rfl, below_alloc _⟩
end Go.Proofs.YtkhiklemhkeakaaDoor

namespace Go.Proofs.YtkhiklemhkeakaaDoor
open Go.RowKit
set_option linter.unusedVariables false

set_option maxHeartbeats 800000 in
set_option maxRecDepth 100000 in
theorem appendCounted_own {B : Nat} {v u : Value} {l t : List Int} {w : World} (h : Own B 5 w v l) (hu : HasAt B w u t) (hl : l.length ≤ 1099511627000) (ht : t.length ≤ 255) (hB : B ≤ w.heap.size) :
    Calls Tryd.prog 37 #[v, u] w fun e w' => ∃ v', e = .returned v' ∧ Own B 5 w' v' (l ++ ((t.length : Int) :: t)) ∧ Below B w w' := by
  obtain ⟨ua, uc, rfl, _⟩ := hu.form
  have HU := hide hu
  clear hu
  have hlt : ((t.length : Int) % 256) = t.length := by omega
  generalize hn : t.length = m at *
  have HN := hide hn
  clear hn
  go_enter Tryd.func37, Tryd.ntmps37
  go_wp2_with (at_builtin; refine append_bytes rfl _ _ 22 5 rfl Tryd.underlying22 info_u8 B v _ l [(m : Int)] rfl rfl (h.alloc _) (own_lit w 0 5 [(m : Int)] (Nat.zero_le _) (by simp [maxLen])).reads (by simp; omega) (by simp; omega) ?_)
  intro v2 w2 o2 g2
  have b2 : Below B w w2 := ((Below.refl _ _).alloc hB _).grown g2 (by simp; omega) (fun q hq => (h.lt q hq).1)
  clear g2
  have hs2 := b2.size
  have U2 := hide ((unhide HU).low b2 (Nat.le_refl _))
  go_wp2_with (at_builtin; refine append_bytes rfl _ _ 22 5 rfl Tryd.underlying22 info_u8 B v2 (.slice ua m uc) (l ++ [(m : Int)]) t rfl rfl o2 (unhide U2).has.reads (by simp; rw [unhide HN]; omega) (by omega) ?_)
  intro v3 w3 o3 g3
  have b3 : Below B w w3 := b2.grown g3 (by omega) (fun q hq => (o2.lt q hq).1)
  go_wp2
  go_ret
  exact ⟨v3, rfl, by simpa using o3, b3⟩
end Go.Proofs.YtkhiklemhkeakaaDoor
