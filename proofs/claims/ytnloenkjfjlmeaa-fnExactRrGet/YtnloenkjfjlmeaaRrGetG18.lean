/-
  Contracts of the program's Get32. Contracts of the program's upTo.
-/
import Derived.Test.YtnloenkjfjlmeaaRrGetG12
import Derived.Test.YtnloenkjfjlmeaaRrGetG04
namespace Go.Proofs.Ytnloenkjfjlmeaa
open Go.RowKit
set_option linter.unusedVariables false

set_option maxHeartbeats 400000 in
set_option maxRecDepth 100000 in
theorem implGet32_no (a : Option Addr) (len cap : Nat) (at' : Int) (w : World) (hl : len ≤ 2097152) (hat : at' ≤ 9223372036854775807) (h : at' < 0 ∨ (len : Int) - 4 < at') :
    Calls Try.prog 128 #[.slice a len cap, .int .i64 at'] w fun e w' => e = .returned (.tuple #[.int .i64 0, .int .i64 (-1)]) ∧ w = w' := by
  go_enter Try.func128, Try.ntmps128
  go_wp2_with (go_at_call 131; refine (allThere_no _ _ _ _ _ _ hl hat (by omega)).mono ?_; rintro e w' ⟨rfl, rfl⟩)
  go_ret2
  exact ⟨rfl, rfl⟩

set_option maxHeartbeats 800000 in
set_option maxRecDepth 100000 in
theorem implGet32_yes (a : Option Addr) (cap : Nat) (l : List Int) (i : Nat) (w : World) (hl : l.length ≤ 2097152) (h : Lies w a l) (hi : i + 4 ≤ l.length) (hb : ∀ k, 0 ≤ l.getD k 0 ∧ l.getD k 0 ≤ 255) :
    Calls Try.prog 128 #[.slice a l.length cap, .int .i64 i] w fun e w' => e = .returned (.tuple #[.int .i64 (l.getD i 0 * 16777216 + l.getD (i + 1) 0 * 65536 + l.getD (i + 2) 0 * 256 + l.getD (i + 3) 0), .int .i64 (i + 4)]) ∧ ∃ n, w' = w.drewN n := by
  obtain ⟨b, off, rfl, c0, c1, c2, c3⟩ := four_there h hi
  have h0 := hb i
  have h1 := hb (i + 1)
  have h2 := hb (i + 2)
  have h3 := hb (i + 3)
  generalize l.getD i 0 = x0 at *
  generalize l.getD (i + 1) 0 = x1 at *
  generalize l.getD (i + 2) 0 = x2 at *
  generalize l.getD (i + 3) 0 = x3 at *
  clear hb
  generalize hn : l.length = n at *
  have HN := hide hn
  clear hn
  go_enter Try.func128, Try.ntmps128
  go_wp2_with (go_at_call 131; refine (allThere_yes _ _ _ _ _ _ hl (by omega) (by omega) (by omega)).mono ?_; rintro e w' ⟨rfl, rfl⟩)
  go_quiet (fail)
  go_wp2
  go_quiet (fail)
  go_wp2
  go_ret2
  refine ⟨ret2_int ?_ rfl, _, rfl⟩
  rw [or_24 x0 x1 (by omega) (by omega) (by omega) (by omega), or_8 x2 x3 (by omega) (by omega) (by omega) (by omega), show x0 * 16777216 + x1 * 65536 = (x0 * 256 + x1) * 65536 from by omega,
    or_16 _ _ (by omega) (by omega) (by omega) (by omega)]
  omega

theorem implGet32_any {B : Nat} {v : Value} {l : List Int} (p : Int) {w : World} (h : Own B 5 w v l) (hl : l.length ≤ 2097152) (hp' : p ≤ 9223372036854775807) (hb : ∀ k, 0 ≤ l.getD k 0 ∧ l.getD k 0 ≤ 255) :
    Calls Try.prog 128 #[v, .int .i64 p] w fun e w' => e = .returned (.tuple #[.int .i64 (get32 l p).1, .int .i64 (get32 l p).2]) ∧ Below w.heap.size w w' := by
  obtain ⟨a, cap, rfl, hL⟩ := h.lies
  by_cases hp : 0 ≤ p ∧ p + 4 ≤ l.length
  · obtain ⟨i, rfl⟩ := Int.eq_ofNat_of_zero_le hp.1
    rw [get32_yes hp]
    refine (implGet32_yes a cap l i w hl hL (by omega) hb).mono ?_
    rintro e w' ⟨rfl, n, rfl⟩
    exact ⟨rfl, below_draws n⟩
  · have e : get32 l p = (0, -1) := by unfold get32; rw [if_neg hp]
    rw [e]
    exact (implGet32_no a l.length cap p w hl hp' (by omega)).mono fun e w' ⟨he, hw⟩ => ⟨he, hw ▸ Below.refl _ _⟩
end Go.Proofs.Ytnloenkjfjlmeaa

namespace Go.Proofs.Ytnloenkjfjlmeaa
open Go.RowKit
set_option linter.unusedVariables false

set_option maxHeartbeats 400000 in
set_option maxRecDepth 100000 in
theorem upTo_yes {n m : Int} (w : World) (h0 : 0 ≤ n) (h1 : n ≤ m) : Calls Try.prog 87 #[.int .i64 n, .int .i64 m] w fun e w' => e = .returned (.bool true) ∧ w = w' := by
  go_enter Try.func87, Try.ntmps87
  go_wp2
  go_ret
  exact ⟨rfl, rfl⟩

set_option maxHeartbeats 400000 in
set_option maxRecDepth 100000 in
theorem upTo_no {n m : Int} (w : World) (h : n < 0 ∨ m < n) : Calls Try.prog 87 #[.int .i64 n, .int .i64 m] w fun e w' => e = .returned (.bool false) ∧ w = w' := by
  by_cases h0 : n < 0
  · go_enter Try.func87, Try.ntmps87
    go_wp2
    go_ret
    exact ⟨rfl, rfl⟩
  · have h1 : m < n := by omega
    have h2 : decide (n ≤ m) = false := decide_eq_false (by omega)
    go_enter Try.func87, Try.ntmps87
    go_wp2
    go_ret
    exact ⟨rfl, rfl⟩
theorem upTo_any (n m : Int) (w : World) : Calls Try.prog 87 #[.int .i64 n, .int .i64 m] w fun e w' => e = .returned (.bool (decide (0 ≤ n ∧ n ≤ m))) ∧ w = w' := by
  by_cases h : 0 ≤ n ∧ n ≤ m
  · rw [decide_eq_true h]; exact upTo_yes w h.1 h.2
  · rw [decide_eq_false h]; exact upTo_no w (by omega)
end Go.Proofs.Ytnloenkjfjlmeaa
