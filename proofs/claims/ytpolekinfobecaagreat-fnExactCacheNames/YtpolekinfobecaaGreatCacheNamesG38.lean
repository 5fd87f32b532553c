/-
  Contract of the specification's l10ahead.
-/
import Derived.Test.YtpolekinfobecaaGreatCacheNamesG16
import Derived.Test.YtpolekinfobecaaGreatCacheNamesG36
import Derived.Test.YtpolekinfobecaaGreatCacheNamesG11
namespace Go.Proofs.YtpolekinfobecaaGreat
open Go.RowKit
set_option linter.unusedVariables false

set_option maxHeartbeats 1000000 in
set_option maxRecDepth 100000 in
theorem l10ahead_has {vn vr un ur : Value} {a b : Slt} {w : World} (h : HasS2 w vn vr a) (h' : HasS2 w un ur b) (hs : a.name.length ≤ 1048576) (hs' : b.name.length ≤ 1048576) :
  Calls Tryz.prog 23 #[.agg #[vn, .int .i64 a.type, .int .i64 a.kind, vr, .int .i64 a.rank, .int .i64 a.till, .int .i64 a.used], .agg #[un, .int .i64 b.type, .int .i64 b.kind, ur, .int .i64 b.rank, .int .i64 b.till, .int .i64 b.used]] w fun e w' => e = .returned (.bool (aheadB a b)) ∧ Below w.heap.size w w' := by
 obtain ⟨na, nc, rfl, _⟩ := h.name.form
 obtain ⟨ra, rc, rfl, _⟩ := h.rrs.form
 obtain ⟨na', nc', rfl, _⟩ := h'.name.form
 obtain ⟨ra', rc', rfl, _⟩ := h'.rrs.form
 have b0 := below2 w (.cells #[.slice na a.name.length nc, .int .i64 a.type, .int .i64 a.kind, .slice ra a.rrs.length rc, .int .i64 a.rank, .int .i64 a.till, .int .i64 a.used] 47) (.cells #[.slice na' b.name.length nc', .int .i64 b.type, .int .i64 b.kind, .slice ra' b.rrs.length rc', .int .i64 b.rank, .int .i64 b.till, .int .i64 b.used] 47)
 obtain ⟨hsz, k0, x0⟩ := box2 w (.cells #[.slice na a.name.length nc, .int .i64 a.type, .int .i64 a.kind, .slice ra a.rrs.length rc, .int .i64 a.rank, .int .i64 a.till, .int .i64 a.used] 47) #[.slice na' b.name.length nc', .int .i64 b.type, .int .i64 b.kind, .slice ra' b.rrs.length rc', .int .i64 b.rank, .int .i64 b.till, .int .i64 b.used] 47
 have NC := l2cmp_has (h.below b0).name (h'.below b0).name hs hs'
 have KK := hide k0
 have XX := hide x0
 obtain ⟨d0, d1, d2, d3, d4, d5, d6⟩ := cells7 k0
 obtain ⟨f0, f1, f2, f3, f4, f5, f6⟩ := cells7 x0
 clear h h' k0 x0 hsz
 unfold aheadB
 generalize cmpN a.name b.name = N at *
 generalize a.type = T1 at *
 generalize b.type = T2 at *
 replace NC := hide NC
 by_cases e1 : N < 0
 ·rw [decide_eq_true e1, Bool.true_or]
  go_enter Tryz.func23, Tryz.ntmps23
  go_wp2_with fail
  clear d0 d1 d2 d3 d4 d5 d6 f0 f1 f2 f3 f4 f5 f6
  refine (unhide NC).mono ?_
  rintro e w1 ⟨rfl, b1⟩
  replace b0 := below_next b0 b1
  replace KK := hide (block_kept b1 (unhide KK))
  replace XX := hide (block_kept b1 (unhide XX))
  clear b1
  obtain ⟨d0, d1, d2, d3, d4, d5, d6⟩ := cells7 (unhide KK)
  obtain ⟨f0, f1, f2, f3, f4, f5, f6⟩ := cells7 (unhide XX)
  go_wp2_with fail
  go_ret
  exact ⟨rfl, b0⟩
 ·rw [decide_eq_false e1, Bool.false_or]
  have e1' : decide (N < 0) = false := decide_eq_false e1
  by_cases e2 : N = 0
  ·subst e2
   rw [decide_eq_true rfl, Bool.true_and]
   clear e1 e1'
   by_cases e3 : T1 < T2
   ·rw [decide_eq_true e3]
    go_enter Tryz.func23, Tryz.ntmps23
    go_wp2_with fail
    clear d0 d1 d2 d3 d4 d5 d6 f0 f1 f2 f3 f4 f5 f6
    refine (unhide NC).mono ?_
    rintro e w1 ⟨rfl, b1⟩
    replace b0 := below_next b0 b1
    replace KK := hide (block_kept b1 (unhide KK))
    replace XX := hide (block_kept b1 (unhide XX))
    clear b1
    obtain ⟨d0, d1, d2, d3, d4, d5, d6⟩ := cells7 (unhide KK)
    obtain ⟨f0, f1, f2, f3, f4, f5, f6⟩ := cells7 (unhide XX)
    go_wp2_with fail
    go_ret
    exact ⟨rfl, b0⟩
   ·rw [decide_eq_false e3]
    have e3' : decide (T1 < T2) = false := decide_eq_false e3
    go_enter Tryz.func23, Tryz.ntmps23
    go_wp2_with fail
    clear d0 d1 d2 d3 d4 d5 d6 f0 f1 f2 f3 f4 f5 f6
    refine (unhide NC).mono ?_
    rintro e w1 ⟨rfl, b1⟩
    replace b0 := below_next b0 b1
    replace KK := hide (block_kept b1 (unhide KK))
    replace XX := hide (block_kept b1 (unhide XX))
    clear b1
    obtain ⟨d0, d1, d2, d3, d4, d5, d6⟩ := cells7 (unhide KK)
    obtain ⟨f0, f1, f2, f3, f4, f5, f6⟩ := cells7 (unhide XX)
    go_wp2_with fail
    go_ret
    exact ⟨rfl, b0⟩
  ·rw [decide_eq_false e2, Bool.false_and]
   have q2 : (N == 0) = false := by rw [beq_eq_false_iff_ne]; exact e2
   clear e2
   go_enter Tryz.func23, Tryz.ntmps23
   go_wp2_with fail
   clear d0 d1 d2 d3 d4 d5 d6 f0 f1 f2 f3 f4 f5 f6
   refine (unhide NC).mono ?_
   rintro e w1 ⟨rfl, b1⟩
   replace b0 := below_next b0 b1
   replace KK := hide (block_kept b1 (unhide KK))
   replace XX := hide (block_kept b1 (unhide XX))
   clear b1
   obtain ⟨d0, d1, d2, d3, d4, d5, d6⟩ := cells7 (unhide KK)
   obtain ⟨f0, f1, f2, f3, f4, f5, f6⟩ := cells7 (unhide XX)
   go_wp2_with fail
   go_ret
   exact ⟨rfl, b0⟩
end Go.Proofs.YtpolekinfobecaaGreat
