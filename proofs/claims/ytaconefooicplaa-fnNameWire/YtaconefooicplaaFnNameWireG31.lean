/-
  Contracts of the program's own helper allThere: are n bytes there from a place on? Contracts of the program's Get16.
-/
import Derived.Test.YtaconefooicplaaFnNameWireG03
namespace Go.Proofs.Ytaconefooicplaa
open Go.RowKit
set_option linter.unusedVariables false

set_option maxHeartbeats 400000 in
set_option maxRecDepth 100000 in
theorem allThere_yes (a : Option Addr) (len cap : Nat) (at' n : Int) (w : World) (hl : len ≤ 2097152) (h0 : 0 ≤ at') (hn : 0 ≤ n) (h : n ≤ len - at') :
    Calls Try.prog 114 #[.slice a len cap, .int .i64 at', .int .i64 n] w fun e w' => e = .returned (.bool true) ∧ w = w' := by
  go_enter Try.func114, Try.ntmps114
  go_wp2
  go_ret
  exact ⟨rfl, rfl⟩

set_option maxHeartbeats 400000 in
set_option maxRecDepth 100000 in
theorem allThere_no (a : Option Addr) (len cap : Nat) (at' n : Int) (w : World) (hl : len ≤ 2097152) (hat : at' ≤ 9223372036854775807) (h : at' < 0 ∨ n < 0 ∨ len - at' < n) :
    Calls Try.prog 114 #[.slice a len cap, .int .i64 at', .int .i64 n] w fun e w' => e = .returned (.bool false) ∧ w = w' := by
  by_cases h0 : at' < 0
  · go_enter Try.func114, Try.ntmps114
    go_wp2
    go_ret
    exact ⟨rfl, rfl⟩
  · by_cases h1 : n < 0
    · go_enter Try.func114, Try.ntmps114
      go_wp2
      go_ret
      exact ⟨rfl, rfl⟩
    · have h2 : decide (n ≤ (len : Int) - at') = false := by simp; omega
      go_enter Try.func114, Try.ntmps114
      go_wp2
      go_ret
      exact ⟨rfl, rfl⟩
end Go.Proofs.Ytaconefooicplaa

namespace Go.Proofs.Ytaconefooicplaa
open Go.RowKit
set_option linter.unusedVariables false

set_option maxHeartbeats 400000 in
set_option maxRecDepth 100000 in
theorem implGet16_no (a : Option Addr) (len cap : Nat) (at' : Int) (w : World) (hl : len ≤ 2097152) (hat : at' ≤ 9223372036854775807) (h : at' < 0 ∨ (len : Int) - 2 < at') :
    Calls Try.prog 88 #[.slice a len cap, .int .i64 at'] w fun e w' => e = .returned (.tuple #[.int .i64 0, .int .i64 (-1)]) ∧ w = w' := by
  go_enter Try.func88, Try.ntmps88
  go_wp2_with (go_at_call 114; refine (allThere_no _ _ _ _ _ _ hl hat (by omega)).mono ?_; rintro e w' ⟨rfl, rfl⟩)
  go_ret2
  exact ⟨rfl, rfl⟩

set_option maxHeartbeats 400000 in
set_option maxRecDepth 100000 in
theorem implGet16_yes (a : Option Addr) (cap : Nat) (l : List Int) (i : Nat) (w : World) (hl : l.length ≤ 2097152) (h : Lies w a l) (hi : i + 2 ≤ l.length) (hb : ∀ k, 0 ≤ l.getD k 0 ∧ l.getD k 0 ≤ 255) :
    Calls Try.prog 88 #[.slice a l.length cap, .int .i64 i] w fun e w' => e = .returned (.tuple #[.int .i64 (l.getD i 0 * 256 + l.getD (i + 1) 0), .int .i64 (i + 2)]) ∧ ∃ n, w' = w.drewN n := by
  obtain ⟨b, off, rfl, hlt, hc⟩ := h.here (k := i) (by omega)
  obtain ⟨b', off', e, hlt', hc'⟩ := h.here (k := i + 1) (by omega)
  simp at e
  obtain ⟨rfl, rfl⟩ := e
  have hx := hb i
  have hy := hb (i + 1)
  generalize l.getD i 0 = x at *
  generalize l.getD (i + 1) 0 = y at *
  clear hb
  generalize hn : l.length = n at *
  have HN := hide hn
  clear hn
  go_enter Try.func88, Try.ntmps88
  go_wp2_with (go_at_call 114; refine (allThere_yes _ _ _ _ _ _ hl (by omega) (by omega) (by omega)).mono ?_; rintro e w' ⟨rfl, rfl⟩)
  go_quiet (fail)
  go_wp2
  go_ret2
  exact ⟨ret2_int (or_8 x y (by omega) (by omega) (by omega) (by omega)) rfl, _, rfl⟩

theorem implGet16_any {B : Nat} {v : Value} {l : List Int} (p : Int) {w : World} (h : Own B 5 w v l) (hl : l.length ≤ 2097152) (hp' : p ≤ 9223372036854775807) (hb : ∀ k, 0 ≤ l.getD k 0 ∧ l.getD k 0 ≤ 255) :
    Calls Try.prog 88 #[v, .int .i64 p] w fun e w' => e = .returned (.tuple #[.int .i64 (get16 l p).1, .int .i64 (get16 l p).2]) ∧ Below w.heap.size w w' := by
  obtain ⟨a, cap, rfl, hL⟩ := h.lies
  by_cases hp : 0 ≤ p ∧ p + 2 ≤ l.length
  · obtain ⟨i, rfl⟩ := Int.eq_ofNat_of_zero_le hp.1
    have e : get16 l i = (l.getD i 0 * 256 + l.getD (i + 1) 0, (i : Int) + 2) := by unfold get16; rw [if_pos hp]; rfl
    rw [e]
    refine (implGet16_yes a cap l i w hl hL (by omega) hb).mono ?_
    rintro e w' ⟨rfl, n, rfl⟩
    exact ⟨rfl, below_draws n⟩
  · have e : get16 l p = (0, -1) := by unfold get16; rw [if_neg hp]
    rw [e]
    exact (implGet16_no a l.length cap p w hl hp' (by omega)).mono fun e w' ⟨he, hw⟩ => ⟨he, hw ▸ Below.refl _ _⟩
end Go.Proofs.Ytaconefooicplaa
