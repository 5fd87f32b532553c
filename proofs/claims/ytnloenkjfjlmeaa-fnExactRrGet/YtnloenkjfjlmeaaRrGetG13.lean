/-
  Contracts of the program's copyBytes: new memory with the same bytes. Contracts of the program's Take.
-/
import Derived.Test.YtnloenkjfjlmeaaRrGetG04
import Derived.Test.YtnloenkjfjlmeaaRrGetG12
namespace Go.Proofs.Ytnloenkjfjlmeaa
open Go.RowKit
set_option linter.unusedVariables false

set_option maxHeartbeats 400000 in
set_option maxRecDepth 100000 in
theorem copyBytes_reads {v : Value} {l : List Int} {w : World} (h : Reads w v l) (hl : l.length ≤ 2097152) :
    Calls Try.prog 66 #[v] w fun e w' => ∃ v', e = .returned v' ∧ Own w.heap.size 5 w' v' l ∧ Below w.heap.size w w' := by
  go_enter Try.func66, Try.ntmps66
  go_wp2_with (at_builtin; refine append_bytes rfl _ _ 22 5 rfl Try.underlying22 info_u8 w.heap.size (.slice none 0 0) v [] l rfl rfl (World.ownsRow_nil _ _ _ _) h ?c1 (Nat.le_refl _) ?_)
  case c1 => simp; omega
  intro v' w1 hown hgrow
  go_wp2
  go_ret
  exact ⟨v', rfl, hown, below_of_grown hgrow⟩

theorem copyBytes_own {B : Nat} {v : Value} {l : List Int} {w : World} (h : Own B 5 w v l) (hl : l.length ≤ 2097152) :
    Calls Try.prog 66 #[v] w fun e w' => ∃ v', e = .returned v' ∧ Own w.heap.size 5 w' v' l ∧ Below w.heap.size w w' := copyBytes_reads h.reads hl
end Go.Proofs.Ytnloenkjfjlmeaa

namespace Go.Proofs.Ytnloenkjfjlmeaa
open Go.RowKit
set_option linter.unusedVariables false

set_option maxHeartbeats 400000 in
set_option maxRecDepth 100000 in
theorem implTake_yes (B g cap : Nat) (l : List Int) (i m : Nat) (w : World) (h : Own B 5 w (.slice (some ⟨g, 0, none⟩) l.length cap) l) (hc : l.length ≤ cap) (hl : l.length ≤ 1048576) (hi : i + m ≤ l.length) :
    Calls Try.prog 132 #[.slice (some ⟨g, 0, none⟩) l.length cap, .int .i64 i, .int .i64 m] w fun e w' => ∃ v', e = .returned (.tuple #[v', .int .i64 (i + m)]) ∧ Own w.heap.size 5 w' v' ((l.drop i).take m) ∧ Below w.heap.size w w' := by
  have hl2 : l.length ≤ 2097152 := by omega
  generalize hn : l.length = n at *
  have HN := hide hn
  clear hn
  have H := hide h
  clear h
  go_enter Try.func132, Try.ntmps132
  go_wp2_with (go_at_call 131; refine (allThere_yes _ _ _ _ _ _ hl2 (by omega) (by omega) (by omega)).mono ?_; rintro e w' ⟨rfl, rfl⟩)
  all_goals
    refine (copyBytes_reads (sub_reads (unhide H) (unhide HN) hi _ _ (by omega)) (by simp; omega)).mono ?_
    rintro e w1 ⟨v1, rfl, o1, b1⟩
    go_wp2
    go_ret2
    exact ⟨v1, rfl, o1, b1⟩

set_option maxHeartbeats 400000 in
set_option maxRecDepth 100000 in
theorem implTake_nil (w : World) :
    Calls Try.prog 132 #[.slice none 0 0, .int .i64 0, .int .i64 0] w fun e w' => ∃ v', e = .returned (.tuple #[v', .int .i64 0]) ∧ Own w.heap.size 5 w' v' [] ∧ Below w.heap.size w w' := by
  go_enter Try.func132, Try.ntmps132
  go_wp2_with (go_at_call 131; refine (allThere_yes _ _ _ _ _ _ (by omega) (by omega) (by omega) (by omega)).mono ?_; rintro e w' ⟨rfl, rfl⟩)
  refine (copyBytes_reads (.inl ⟨rfl, rfl⟩) (by simp)).mono ?_
  rintro e w1 ⟨v1, rfl, o1, b1⟩
  go_wp2
  go_ret2
  exact ⟨v1, rfl, o1, b1⟩

set_option maxHeartbeats 400000 in
set_option maxRecDepth 100000 in
theorem implTake_no (a : Option Addr) (len cap : Nat) (p m : Int) (w : World) (hl : len ≤ 2097152) (hp : p ≤ 9223372036854775807) (h : ¬ (0 ≤ p ∧ 0 ≤ m ∧ p + m ≤ len)) :
    Calls Try.prog 132 #[.slice a len cap, .int .i64 p, .int .i64 m] w fun e w' => e = .returned (.tuple #[.slice none 0 0, .int .i64 (-1)]) ∧ w = w' := by
  go_enter Try.func132, Try.ntmps132
  go_wp2_with (go_at_call 131; refine (allThere_no _ _ _ _ _ _ hl hp (by omega)).mono ?_; rintro e w' ⟨rfl, rfl⟩)
  go_ret2
  exact ⟨rfl, rfl⟩

theorem implTake_any {B : Nat} {v : Value} {l : List Int} (p m : Int) {w : World} (h : Own B 5 w v l) (hl : l.length ≤ 1048576) (hp : p ≤ 9223372036854775807) :
    Calls Try.prog 132 #[v, .int .i64 p, .int .i64 m] w fun e w' => ∃ v', e = .returned (.tuple #[v', .int .i64 (takeOf l p m).2]) ∧ Own w.heap.size 5 w' v' (takeOf l p m).1 ∧ Below w.heap.size w w' := by
  by_cases hc : 0 ≤ p ∧ 0 ≤ m ∧ p + m ≤ l.length
  · obtain ⟨i, rfl⟩ := Int.eq_ofNat_of_zero_le hc.1
    obtain ⟨k, rfl⟩ := Int.eq_ofNat_of_zero_le hc.2.1
    rw [takeOf_yes (by omega)]
    rcases h.form with ⟨rfl, rfl⟩ | ⟨g, cap, rfl, _, _, hcap, _⟩
    · have hi : i = 0 := by simp at hc; omega
      have hk : k = 0 := by simp at hc; omega
      subst hi hk
      exact implTake_nil w
    · exact implTake_yes B g cap l i k w h hcap hl (by omega)
  · rw [takeOf_no hc]
    obtain ⟨a, cap, rfl, _⟩ := h.lies
    refine (implTake_no a l.length cap p m w (by omega) hp hc).mono fun e w' ⟨he, hw⟩ => ?_
    subst hw
    exact ⟨_, he, World.ownsRow_nil _ _ _ _, Below.refl _ _⟩
end Go.Proofs.Ytnloenkjfjlmeaa
