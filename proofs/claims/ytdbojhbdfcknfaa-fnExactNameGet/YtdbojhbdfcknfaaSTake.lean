/-
  Contracts of the specification's Take.
-/
import Derived.Test.YtdbojhbdfcknfaaBase
namespace Go.Proofs.Ytdbojhbdfcknfaa
open Go.RowKit
set_option linter.unusedVariables false

set_option maxHeartbeats 400000 in
set_option maxRecDepth 100000 in
theorem specTake_yes (B g cap : Nat) (l : List Int) (i m : Nat) (w : World) (h : Own B 5 w (.slice (some ⟨g, 0, none⟩) l.length cap) l) (hc : l.length ≤ cap) (hl : l.length ≤ 1048576) (hi : i + m ≤ l.length) :
    Calls Try.prog 146 #[.slice (some ⟨g, 0, none⟩) l.length cap, .int .i64 i, .int .i64 m] w fun e w' => ∃ v', e = .returned (.tuple #[v', .int .i64 (i + m)]) ∧ Own w.heap.size 5 w' v' ((l.drop i).take m) ∧ Below w.heap.size w w' := by
  generalize hn : l.length = n at *
  have HN := hide hn
  clear hn
  have H := hide (h.alloc (.cells (([] : List Int).map (Value.int .u8)).toArray 5))
  clear h
  go_enter Try.func146, Try.ntmps146
  go_wp2_with (at_builtin; refine append_bytes rfl _ _ 22 5 rfl Try.underlying22 info_u8 w.heap.size _ _ [] ((l.drop i).take m) rfl rfl (own_lit w w.heap.size 5 [] (Nat.le_refl _) (by simp)) (sub_reads_if (unhide H) (unhide HN) hi hc) (by simp; omega) (by simp) ?_)
  all_goals
    intro v1 w1 o1 hgrow
    have b1 : Below w.heap.size w w1 := ((Below.refl _ _).alloc (Nat.le_refl _) _).grown hgrow (by simp) (fun k hk => by simp [Value.ownBlock] at hk; omega)
    clear hgrow
    go_wp2
    go_ret2
    exact ⟨v1, rfl, o1, b1⟩

set_option maxHeartbeats 400000 in
set_option maxRecDepth 100000 in
theorem specTake_nil (w : World) :
    Calls Try.prog 146 #[.slice none 0 0, .int .i64 0, .int .i64 0] w fun e w' => ∃ v', e = .returned (.tuple #[v', .int .i64 0]) ∧ Own w.heap.size 5 w' v' [] ∧ Below w.heap.size w w' := by
  go_enter Try.func146, Try.ntmps146
  go_wp2_with (at_builtin; refine append_bytes rfl _ _ 22 5 rfl Try.underlying22 info_u8 w.heap.size _ _ [] [] rfl rfl (own_lit w w.heap.size 5 [] (Nat.le_refl _) (by simp)) (.inl ⟨rfl, rfl⟩) (by simp) (by simp) ?_)
  intro v1 w1 o1 hgrow
  have b1 : Below w.heap.size w w1 := ((Below.refl _ _).alloc (Nat.le_refl _) _).grown hgrow (by simp) (fun k hk => by simp [Value.ownBlock] at hk; omega)
  clear hgrow
  go_wp2
  go_ret2
  exact ⟨v1, rfl, o1, b1⟩

set_option maxHeartbeats 400000 in
set_option maxRecDepth 100000 in
theorem specTake_no (a : Option Addr) (len cap : Nat) (p m : Int) (w : World) (hl : len ≤ 2097152) (hp : p ≤ 9223372036854775807) (h : ¬ (0 ≤ p ∧ 0 ≤ m ∧ p + m ≤ len)) :
    Calls Try.prog 146 #[.slice a len cap, .int .i64 p, .int .i64 m] w fun e w' => e = .returned (.tuple #[.slice none 0 0, .int .i64 (-1)]) ∧ w = w' := by
  by_cases h0 : p < 0
  · go_enter Try.func146, Try.ntmps146
    go_wp2
    go_ret2
    exact ⟨rfl, rfl⟩
  · by_cases h1 : m < 0
    · go_enter Try.func146, Try.ntmps146
      go_wp2
      go_ret2
      exact ⟨rfl, rfl⟩
    · by_cases h2 : (len : Int) < p
      · go_enter Try.func146, Try.ntmps146
        go_wp2
        go_ret2
        exact ⟨rfl, rfl⟩
      · have h3 : (len : Int) - p < m := by omega
        go_enter Try.func146, Try.ntmps146
        go_wp2
        go_ret2
        exact ⟨rfl, rfl⟩

theorem specTake_any {B : Nat} {v : Value} {l : List Int} (p m : Int) {w : World} (h : Own B 5 w v l) (hl : l.length ≤ 1048576) (hp : p ≤ 9223372036854775807) :
    Calls Try.prog 146 #[v, .int .i64 p, .int .i64 m] w fun e w' => ∃ v', e = .returned (.tuple #[v', .int .i64 (takeOf l p m).2]) ∧ Own w.heap.size 5 w' v' (takeOf l p m).1 ∧ Below w.heap.size w w' := by
  by_cases hc : 0 ≤ p ∧ 0 ≤ m ∧ p + m ≤ l.length
  · obtain ⟨i, rfl⟩ := Int.eq_ofNat_of_zero_le hc.1
    obtain ⟨k, rfl⟩ := Int.eq_ofNat_of_zero_le hc.2.1
    rw [takeOf_yes (by omega)]
    rcases h.form with ⟨rfl, rfl⟩ | ⟨g, cap, rfl, _, _, hcap, _⟩
    · have hi : i = 0 := by simp at hc; omega
      have hk : k = 0 := by simp at hc; omega
      subst hi hk
      exact specTake_nil w
    · exact specTake_yes B g cap l i k w h hcap hl (by omega)
  · rw [takeOf_no hc]
    obtain ⟨a, cap, rfl, _⟩ := h.lies
    refine (specTake_no a l.length cap p m w (by omega) hp hc).mono fun e w' ⟨he, hw⟩ => ?_
    subst hw
    exact ⟨_, he, World.ownsRow_nil _ _ _ _, Below.refl _ _⟩
end Go.Proofs.Ytdbojhbdfcknfaa
