/-
  What the specification's l3get answers, in plain words. Contracts of the specification's Get32.
-/
import Derived.Test.YtnloenkjfjlmeaaRrGetG11
import Derived.Test.YtnloenkjfjlmeaaRrGetG27
import Derived.Test.YtnloenkjfjlmeaaRrGetG06
import Derived.IntWalk
import Derived.Test.YtnloenkjfjlmeaaRrGetG04
namespace Go.Proofs.Ytnloenkjfjlmeaa
open Go.RowKit
set_option linter.unusedVariables false

def good (t : Int) (l : List Int) (p n : Int) : Bool := decide (0 ≤ (kindGet t l p).2 ∧ (kindGet t l p).2 = p + n) && rrOk (kindGet t l p).1

/-- What l3get answers: the record counts only with true. -/
def GivesG (w : World) (r : Rec) (b : Bool) (e : Ending) (w' : World) : Prop := ∃ r', GivesR w r' b e w' ∧ (b = true → r' = r)
end Go.Proofs.Ytnloenkjfjlmeaa

namespace Go.Proofs.Ytnloenkjfjlmeaa
open Go.RowKit
set_option linter.unusedVariables false

set_option maxHeartbeats 400000 in
set_option maxRecDepth 100000 in
theorem specGet32_no (a : Option Addr) (len cap : Nat) (at' : Int) (w : World) (hl : len ≤ 2097152) (h : at' < 0 ∨ (len : Int) - 4 < at') :
    Calls Try.prog 117 #[.slice a len cap, .int .i64 at'] w fun e w' => e = .returned (.tuple #[.int .i64 0, .int .i64 (-1)]) ∧ w = w' := by
  by_cases h0 : at' < 0
  · go_enter Try.func117, Try.ntmps117
    go_wp2
    go_ret2
    exact ⟨rfl, rfl⟩
  · have h1 : (len : Int) - 4 < at' := by omega
    go_enter Try.func117, Try.ntmps117
    go_wp2
    go_ret2
    exact ⟨rfl, rfl⟩

set_option maxHeartbeats 800000 in
set_option maxRecDepth 100000 in
theorem specGet32_yes (a : Option Addr) (cap : Nat) (l : List Int) (i : Nat) (w : World) (hl : l.length ≤ 2097152) (h : Lies w a l) (hi : i + 4 ≤ l.length) (hb : ∀ k, 0 ≤ l.getD k 0 ∧ l.getD k 0 ≤ 255) :
    Calls Try.prog 117 #[.slice a l.length cap, .int .i64 i] w fun e w' => e = .returned (.tuple #[.int .i64 (l.getD i 0 * 16777216 + l.getD (i + 1) 0 * 65536 + l.getD (i + 2) 0 * 256 + l.getD (i + 3) 0), .int .i64 (i + 4)]) ∧ ∃ n, w' = w.drewN n := by
  obtain ⟨b, off, rfl, c0, c1, c2, c3⟩ := four_there h hi
  have h0 := hb i
  have h1 := hb (i + 1)
  have h2 := hb (i + 2)
  have h3 := hb (i + 3)
  generalize l.getD i 0 = x0 at *
  generalize l.getD (i + 1) 0 = x1 at *
  generalize l.getD (i + 2) 0 = x2 at *
  generalize l.getD (i + 3) 0 = x3 at *
  clear hb
  generalize hn : l.length = n at *
  have HN := hide hn
  clear hn
  go_enter Try.func117, Try.ntmps117
  go_wp2
  go_quiet (fail)
  go_wp2
  go_ret2
  exact ⟨rfl, _, rfl⟩

theorem specGet32_any {B : Nat} {v : Value} {l : List Int} (p : Int) {w : World} (h : Own B 5 w v l) (hl : l.length ≤ 2097152) (hb : ∀ k, 0 ≤ l.getD k 0 ∧ l.getD k 0 ≤ 255) :
    Calls Try.prog 117 #[v, .int .i64 p] w fun e w' => e = .returned (.tuple #[.int .i64 (get32 l p).1, .int .i64 (get32 l p).2]) ∧ Below w.heap.size w w' := by
  obtain ⟨a, cap, rfl, hL⟩ := h.lies
  by_cases hp : 0 ≤ p ∧ p + 4 ≤ l.length
  · obtain ⟨i, rfl⟩ := Int.eq_ofNat_of_zero_le hp.1
    rw [get32_yes hp]
    refine (specGet32_yes a cap l i w hl hL (by omega) hb).mono ?_
    rintro e w' ⟨rfl, n, rfl⟩
    exact ⟨rfl, below_draws n⟩
  · have e : get32 l p = (0, -1) := by unfold get32; rw [if_neg hp]
    rw [e]
    exact (specGet32_no a l.length cap p w hl (by omega)).mono fun e w' ⟨he, hw⟩ => ⟨he, hw ▸ Below.refl _ _⟩
end Go.Proofs.Ytnloenkjfjlmeaa
