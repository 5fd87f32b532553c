/-
  Contracts of the program's nothingElse.
-/
import Derived.Test.YtnnhdmjdkbkclaaBase
import Derived.Test.YtnnhdmjdkbkclaaLabel
import Derived.Test.YtnnhdmjdkbkclaaRows2
import Derived.WalkKit
namespace Go.Proofs.Ytnnhdmjdkbkclaa
open Go.RowKit
set_option linter.unusedVariables false

set_option maxHeartbeats 800000 in
set_option maxRecDepth 100000 in
theorem nothingElse_any {na na' ta ta' xa xa' ia ia' : Option Addr} {nl nl' nc nc' tl tl' tc tc' xl xl' xc xc' il il' ic ic' : Nat} {ty ty' tt tt' ad ad' : Int} {w : World} :
    Calls Try.prog 28 #[.agg #[.slice na nl nc, .int .i64 ty, .int .i64 tt, .int .i64 ad, .slice ta tl tc, .slice xa xl xc, .slice ia il ic], .agg #[.slice na' nl' nc', .int .i64 ty', .int .i64 tt', .int .i64 ad', .slice ta' tl' tc', .slice xa' xl' xc', .slice ia' il' ic']] w fun e w' => e = .returned (.bool (decide (ad = ad' ∧ tl = tl' ∧ xl = xl' ∧ il = il'))) ∧ Below w.heap.size w w' := by
  have b0 := below2 w (.cells #[.slice na nl nc, .int .i64 ty, .int .i64 tt, .int .i64 ad, .slice ta tl tc, .slice xa xl xc, .slice ia il ic] 35) (.cells #[.slice na' nl' nc', .int .i64 ty', .int .i64 tt', .int .i64 ad', .slice ta' tl' tc', .slice xa' xl' xc', .slice ia' il' ic'] 35)

  by_cases h0 : ad ≠ ad'
  · rw [decide_eq_false (by intro hh; exact h0 hh.1)]
    have e0 : (ad == ad') = false := by rw [beq_eq_false_iff_ne]; omega
    go_enter Try.func28, Try.ntmps28
    go_wp2
    go_ret
    exact ⟨rfl, below2 _ _ _⟩
  replace h0 : ad = ad' := by omega
  have e0 : (ad == ad') = true := by rw [beq_iff_eq]; omega
  by_cases h1 : tl ≠ tl'
  · rw [decide_eq_false (by intro hh; exact h1 hh.2.1)]
    have e1 : ((tl : Int) == (tl' : Int)) = false := by rw [beq_eq_false_iff_ne]; omega
    go_enter Try.func28, Try.ntmps28
    go_wp2
    go_ret
    exact ⟨rfl, below2 _ _ _⟩
  replace h1 : tl = tl' := by omega
  have e1 : ((tl : Int) == (tl' : Int)) = true := by rw [beq_iff_eq]; omega
  by_cases h2 : xl ≠ xl'
  · rw [decide_eq_false (by intro hh; exact h2 hh.2.2.1)]
    have e2 : ((xl : Int) == (xl' : Int)) = false := by rw [beq_eq_false_iff_ne]; omega
    go_enter Try.func28, Try.ntmps28
    go_wp2
    go_ret
    exact ⟨rfl, below2 _ _ _⟩
  replace h2 : xl = xl' := by omega
  have e2 : ((xl : Int) == (xl' : Int)) = true := by rw [beq_iff_eq]; omega
  by_cases h3 : il ≠ il'
  · rw [decide_eq_false (by intro hh; exact h3 hh.2.2.2)]
    have e3 : ((il : Int) == (il' : Int)) = false := by rw [beq_eq_false_iff_ne]; omega
    go_enter Try.func28, Try.ntmps28
    go_wp2
    go_ret
    exact ⟨rfl, below2 _ _ _⟩
  replace h3 : il = il' := by omega
  have e3 : ((il : Int) == (il' : Int)) = true := by rw [beq_iff_eq]; omega
  rw [decide_eq_true ⟨h0, h1, h2, h3⟩]
  clear h0 h1 h2 h3
  go_enter Try.func28, Try.ntmps28
  go_wp2
  go_ret
  exact ⟨rfl, below2 _ _ _⟩
end Go.Proofs.Ytnnhdmjdkbkclaa
