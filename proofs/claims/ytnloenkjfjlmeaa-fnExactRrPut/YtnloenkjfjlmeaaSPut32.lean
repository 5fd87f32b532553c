/-
  Contracts of the specification's Put32.
-/
import Derived.Test.YtnloenkjfjlmeaaBase
namespace Go.Proofs.Ytnloenkjfjlmeaa
open Go.RowKit
set_option linter.unusedVariables false

set_option maxHeartbeats 400000 in
set_option maxRecDepth 100000 in
theorem specPut32_no {B : Nat} {v : Value} {l : List Int} (n : Int) {w : World} (h : Own B 5 w v l) (hl : l.length ≤ 1048576) (hn : n < 0 ∨ 4294967295 < n) :
    Calls Try.prog 122 #[v, .int .i64 n] w fun e w' => ∃ v', e = .returned v' ∧ Own w.heap.size 5 w' v' l ∧ Below w.heap.size w w' := by
  by_cases h0 : n < 0
  · go_enter Try.func122, Try.ntmps122
    go_wp2_with (at_builtin; refine append_bytes rfl _ _ 22 5 rfl Try.underlying22 info_u8 w.heap.size _ v [] l rfl rfl (own_lit w w.heap.size 5 [] (Nat.le_refl _) (by simp)) (h.alloc _).reads (by simp; omega) (by simp) ?_)
    intro v' w2 hown hgrow
    go_wp2
    go_ret
    exact ⟨v', rfl, hown, ((Below.refl _ _).alloc (Nat.le_refl _) _).grown hgrow (by simp) (fun k hk => by simp [Value.ownBlock] at hk; omega)⟩
  · have h1 : 4294967295 < n := by omega
    go_enter Try.func122, Try.ntmps122
    go_wp2_with (at_builtin; refine append_bytes rfl _ _ 22 5 rfl Try.underlying22 info_u8 w.heap.size _ v [] l rfl rfl (own_lit w w.heap.size 5 [] (Nat.le_refl _) (by simp)) (h.alloc _).reads (by simp; omega) (by simp) ?_)
    intro v' w2 hown hgrow
    go_wp2
    go_ret
    exact ⟨v', rfl, hown, ((Below.refl _ _).alloc (Nat.le_refl _) _).grown hgrow (by simp) (fun k hk => by simp [Value.ownBlock] at hk; omega)⟩

set_option maxHeartbeats 800000 in
set_option maxRecDepth 100000 in
theorem specPut32_yes {B : Nat} {v : Value} {l : List Int} (n : Int) {w : World} (h : Own B 5 w v l) (hl : l.length ≤ 1048576) (h0 : 0 ≤ n) (h1 : n ≤ 4294967295) :
    Calls Try.prog 122 #[v, .int .i64 n] w fun e w' => ∃ v', e = .returned v' ∧ Own w.heap.size 5 w' v' (l ++ [n / 16777216, n / 65536 % 256, n / 256 % 256, n % 256]) ∧ Below w.heap.size w w' := by
  go_enter Try.func122, Try.ntmps122
  go_wp2_with (at_builtin; refine append_bytes rfl _ _ 22 5 rfl Try.underlying22 info_u8 w.heap.size _ v [] l rfl rfl (own_lit w w.heap.size 5 [] (Nat.le_refl _) (by simp)) (h.alloc _).reads (by simp; omega) (by simp) ?_)
  intro v1 w1 o1 hgrow
  have b1 : Below w.heap.size w w1 := ((Below.refl _ _).alloc (Nat.le_refl _) _).grown hgrow (by simp) (fun k hk => by simp [Value.ownBlock] at hk; omega)
  clear hgrow
  have hsz := b1.size
  go_wp2_with (at_builtin; refine append_bytes rfl _ _ 22 5 rfl Try.underlying22 info_u8 w.heap.size v1 _ l [n / 16777216, n / 65536 % 256, n / 256 % 256, n % 256] rfl rfl (o1.alloc _) (own_put32 w1 0 5 n (Nat.zero_le _)).reads (by simp; omega) (by simp; omega) ?_)
  intro v' w2 hown hgrow
  go_wp2
  go_ret
  exact ⟨v', rfl, hown, (b1.alloc hsz _).grown hgrow (by simp; omega) (fun k hk => (o1.lt k hk).1)⟩

theorem specPut32_any {B : Nat} {v : Value} {l : List Int} (n : Int) {w : World} (h : Own B 5 w v l) (hl : l.length ≤ 1048576) :
    Calls Try.prog 122 #[v, .int .i64 n] w fun e w' => ∃ v', e = .returned v' ∧ Own w.heap.size 5 w' v' (put32 l n) ∧ Below w.heap.size w w' := by
  by_cases hn : 0 ≤ n ∧ n ≤ 4294967295
  · have e : put32 l n = l ++ [n / 16777216, n / 65536 % 256, n / 256 % 256, n % 256] := by unfold put32; rw [if_pos hn]
    rw [e]; exact specPut32_yes n h hl hn.1 hn.2
  · have e : put32 l n = l := by unfold put32; rw [if_neg hn]
    rw [e]; exact specPut32_no n h hl (by omega)
end Go.Proofs.Ytnloenkjfjlmeaa
