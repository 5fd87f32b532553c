/-
  Contract of the program's slotOk. Contract of the program's slotCmp. Plain facts: one operation by what its run comes to; a block whose cells are stored whole. No program is named here. Plain facts: one number more behind an own row of numbers, where no order is drawn; what a row of its own leaves alone. No program is named here.
-/
import Derived.Test.YtpolekinfobecaaGreatCacheTickG24
import Derived.Test.YtpolekinfobecaaGreatCacheTickG16
import Derived.Test.YtpolekinfobecaaGreatCacheTickG08
import Derived.Test.YtpolekinfobecaaGreatCacheTickG15
import Derived.Test.YtpolekinfobecaaGreatCacheTickG10
import Derived.Test.YtpolekinfobecaaGreatCacheTickG03
import Derived.Deep.MidRow
import Derived.Test.YtpolekinfobecaaGreatCacheTickG05
namespace Go.Proofs.YtpolekinfobecaaGreat
open Go.RowKit
set_option linter.unusedVariables false

set_option maxHeartbeats 4000000 in
set_option maxRecDepth 100000 in
theorem slotOk_has {vn vr : Value} {x : Slt} {now turn : Int} {w : World} (h : HasS2 w vn vr x) (hn0 : 0 ≤ now) (hn1 : now ≤ 1000000) :
  Calls Tryz.prog 28 #[.agg #[vn, .int .i64 x.type, .int .i64 x.kind, vr, .int .i64 x.rank, .int .i64 x.till, .int .i64 x.used], .int .i64 now, .int .i64 turn] w fun e w' => e = .returned (.bool (slotB x now turn)) ∧ Below w.heap.size w w' := by
 obtain ⟨na, nc, rfl, _⟩ := h.name.form
 obtain ⟨ra, rc, rfl, _⟩ := h.rrs.form
 have b0 := below_alloc (w := w) (.cells #[.slice na x.name.length nc, .int .i64 x.type, .int .i64 x.kind, .slice ra x.rrs.length rc, .int .i64 x.rank, .int .i64 x.till, .int .i64 x.used] 47)
 have KK := hide (heap_alloc_new w (.cells #[.slice na x.name.length nc, .int .i64 x.type, .int .i64 x.kind, .slice ra x.rrs.length rc, .int .i64 x.rank, .int .i64 x.till, .int .i64 x.used] 47))
 have NO := implNameOk_has (h.below b0).name
 have H := hide (h.below b0)
 have TO := fun (w : World) => implTypeOk_any x.type w
 have UP := fun (w : World) => upTo_any x.rank 3 w
 clear h
 unfold slotB toldB
 generalize decide (0 ≤ x.rank ∧ x.rank ≤ 3) = G3 at *
 generalize typeOk x.type = G2 at *
 cases hG1 : nameOk x.name with
 | false =>
  rw [hG1] at NO
  replace NO := hide NO
  rw [Bool.false_and, Bool.false_and]
  clear TO UP hG1
  by_cases l1 : now < x.till <;> by_cases u1 : 1 ≤ x.used
  all_goals
   obtain ⟨d0, d1, d2, d3, d4, d5, d6⟩ := cells7 (unhide KK)
   go_enter Tryz.func28, Tryz.ntmps28
   go_wp2_with fail
   clear d0 d1 d2 d3 d4 d5 d6
   refine (unhide NO).mono ?_
   rintro e w1 ⟨rfl, b1⟩
   replace b0 := below_next b0 b1
   replace KK := hide (block_kept b1 (unhide KK))
   replace H := hide ((unhide H).below b1)
   clear b1
   obtain ⟨d0, d1, d2, d3, d4, d5, d6⟩ := cells7 (unhide KK)
   go_wp2_with fail
   go_ret
   exact ⟨rfl, b0⟩
 | true =>
  rw [hG1] at NO
  have HB := fun (w : World) (h : HasS2 w (.slice na x.name.length nc) (.slice ra x.rrs.length rc) x) => holds_has h hG1
  generalize holdsB x = HBv at *
  replace HB := hide HB
  replace NO := hide NO
  rw [Bool.true_and]
  clear hG1
  cases G2 with
  | false =>
   rw [Bool.false_and, Bool.false_and]
   replace TO := hide TO
   clear UP HB
   by_cases l1 : now < x.till <;> by_cases u1 : 1 ≤ x.used
   all_goals
    obtain ⟨d0, d1, d2, d3, d4, d5, d6⟩ := cells7 (unhide KK)
    go_enter Tryz.func28, Tryz.ntmps28
    go_wp2_with fail
    clear d0 d1 d2 d3 d4 d5 d6
    refine (unhide NO).mono ?_
    rintro e w1 ⟨rfl, b1⟩
    replace b0 := below_next b0 b1
    replace KK := hide (block_kept b1 (unhide KK))
    replace H := hide ((unhide H).below b1)
    clear b1
    obtain ⟨d0, d1, d2, d3, d4, d5, d6⟩ := cells7 (unhide KK)
    go_wp2_with fail
    clear d0 d1 d2 d3 d4 d5 d6
    refine (unhide TO _).mono ?_
    rintro e w2 ⟨rfl, rfl⟩
    obtain ⟨d0, d1, d2, d3, d4, d5, d6⟩ := cells7 (unhide KK)
    go_wp2_with fail
    go_ret
    exact ⟨rfl, b0⟩
  | true =>
   replace TO := hide TO
   rw [Bool.true_and]
   cases G3 with
   | false =>
    rw [Bool.false_and]
    replace UP := hide UP
    clear HB
    by_cases l1 : now < x.till <;> by_cases u1 : 1 ≤ x.used
    all_goals
     obtain ⟨d0, d1, d2, d3, d4, d5, d6⟩ := cells7 (unhide KK)
     go_enter Tryz.func28, Tryz.ntmps28
     go_wp2_with fail
     clear d0 d1 d2 d3 d4 d5 d6
     refine (unhide NO).mono ?_
     rintro e w1 ⟨rfl, b1⟩
     replace b0 := below_next b0 b1
     replace KK := hide (block_kept b1 (unhide KK))
     replace H := hide ((unhide H).below b1)
     clear b1
     obtain ⟨d0, d1, d2, d3, d4, d5, d6⟩ := cells7 (unhide KK)
     go_wp2_with fail
     clear d0 d1 d2 d3 d4 d5 d6
     refine (unhide TO _).mono ?_
     rintro e w2 ⟨rfl, rfl⟩
     obtain ⟨d0, d1, d2, d3, d4, d5, d6⟩ := cells7 (unhide KK)
     go_wp2_with fail
     clear d0 d1 d2 d3 d4 d5 d6
     refine (unhide UP _).mono ?_
     rintro e w3 ⟨rfl, rfl⟩
     obtain ⟨d0, d1, d2, d3, d4, d5, d6⟩ := cells7 (unhide KK)
     go_wp2_with fail
     go_ret
     exact ⟨rfl, b0⟩
   | true =>
    rw [Bool.true_and]
    replace UP := hide UP
    by_cases l1 : now < x.till
    rotate_left
    ·rw [decide_eq_false l1, Bool.false_and, Bool.false_and]
     clear HB
     by_cases u1 : 1 ≤ x.used
     all_goals
      obtain ⟨d0, d1, d2, d3, d4, d5, d6⟩ := cells7 (unhide KK)
      go_enter Tryz.func28, Tryz.ntmps28
      go_wp2_with fail
      clear d0 d1 d2 d3 d4 d5 d6
      refine (unhide NO).mono ?_
      rintro e w1 ⟨rfl, b1⟩
      replace b0 := below_next b0 b1
      replace KK := hide (block_kept b1 (unhide KK))
      replace H := hide ((unhide H).below b1)
      clear b1
      obtain ⟨d0, d1, d2, d3, d4, d5, d6⟩ := cells7 (unhide KK)
      go_wp2_with fail
      clear d0 d1 d2 d3 d4 d5 d6
      refine (unhide TO _).mono ?_
      rintro e w2 ⟨rfl, rfl⟩
      obtain ⟨d0, d1, d2, d3, d4, d5, d6⟩ := cells7 (unhide KK)
      go_wp2_with fail
      clear d0 d1 d2 d3 d4 d5 d6
      refine (unhide UP _).mono ?_
      rintro e w3 ⟨rfl, rfl⟩
      obtain ⟨d0, d1, d2, d3, d4, d5, d6⟩ := cells7 (unhide KK)
      go_wp2_with fail
      go_ret
      exact ⟨rfl, b0⟩
    rw [decide_eq_true l1, Bool.true_and]
    by_cases l2 : x.till ≤ now + 1000
    rotate_left
    ·rw [decide_eq_false l2, Bool.false_and]
     have l2' : decide (x.till ≤ now + 1000) = false := decide_eq_false l2
     clear HB
     by_cases u1 : 1 ≤ x.used
     all_goals
      obtain ⟨d0, d1, d2, d3, d4, d5, d6⟩ := cells7 (unhide KK)
      go_enter Tryz.func28, Tryz.ntmps28
      go_wp2_with fail
      clear d0 d1 d2 d3 d4 d5 d6
      refine (unhide NO).mono ?_
      rintro e w1 ⟨rfl, b1⟩
      replace b0 := below_next b0 b1
      replace KK := hide (block_kept b1 (unhide KK))
      replace H := hide ((unhide H).below b1)
      clear b1
      obtain ⟨d0, d1, d2, d3, d4, d5, d6⟩ := cells7 (unhide KK)
      go_wp2_with fail
      clear d0 d1 d2 d3 d4 d5 d6
      refine (unhide TO _).mono ?_
      rintro e w2 ⟨rfl, rfl⟩
      obtain ⟨d0, d1, d2, d3, d4, d5, d6⟩ := cells7 (unhide KK)
      go_wp2_with fail
      clear d0 d1 d2 d3 d4 d5 d6
      refine (unhide UP _).mono ?_
      rintro e w3 ⟨rfl, rfl⟩
      obtain ⟨d0, d1, d2, d3, d4, d5, d6⟩ := cells7 (unhide KK)
      go_wp2_with fail
      go_ret
      exact ⟨rfl, b0⟩
    rw [decide_eq_true l2, Bool.true_and]
    by_cases u1 : 1 ≤ x.used
    rotate_left
    ·rw [decide_eq_false u1, Bool.false_and, Bool.false_and]
     clear HB
     obtain ⟨d0, d1, d2, d3, d4, d5, d6⟩ := cells7 (unhide KK)
     go_enter Tryz.func28, Tryz.ntmps28
     go_wp2_with fail
     clear d0 d1 d2 d3 d4 d5 d6
     refine (unhide NO).mono ?_
     rintro e w1 ⟨rfl, b1⟩
     replace b0 := below_next b0 b1
     replace KK := hide (block_kept b1 (unhide KK))
     replace H := hide ((unhide H).below b1)
     clear b1
     obtain ⟨d0, d1, d2, d3, d4, d5, d6⟩ := cells7 (unhide KK)
     go_wp2_with fail
     clear d0 d1 d2 d3 d4 d5 d6
     refine (unhide TO _).mono ?_
     rintro e w2 ⟨rfl, rfl⟩
     obtain ⟨d0, d1, d2, d3, d4, d5, d6⟩ := cells7 (unhide KK)
     go_wp2_with fail
     clear d0 d1 d2 d3 d4 d5 d6
     refine (unhide UP _).mono ?_
     rintro e w3 ⟨rfl, rfl⟩
     obtain ⟨d0, d1, d2, d3, d4, d5, d6⟩ := cells7 (unhide KK)
     go_wp2_with fail
     go_ret
     exact ⟨rfl, b0⟩
    rw [decide_eq_true u1, Bool.true_and]
    by_cases u2 : x.used ≤ turn
    rotate_left
    ·rw [decide_eq_false u2, Bool.false_and]
     have u2' : decide (x.used ≤ turn) = false := decide_eq_false u2
     clear HB
     obtain ⟨d0, d1, d2, d3, d4, d5, d6⟩ := cells7 (unhide KK)
     go_enter Tryz.func28, Tryz.ntmps28
     go_wp2_with fail
     clear d0 d1 d2 d3 d4 d5 d6
     refine (unhide NO).mono ?_
     rintro e w1 ⟨rfl, b1⟩
     replace b0 := below_next b0 b1
     replace KK := hide (block_kept b1 (unhide KK))
     replace H := hide ((unhide H).below b1)
     clear b1
     obtain ⟨d0, d1, d2, d3, d4, d5, d6⟩ := cells7 (unhide KK)
     go_wp2_with fail
     clear d0 d1 d2 d3 d4 d5 d6
     refine (unhide TO _).mono ?_
     rintro e w2 ⟨rfl, rfl⟩
     obtain ⟨d0, d1, d2, d3, d4, d5, d6⟩ := cells7 (unhide KK)
     go_wp2_with fail
     clear d0 d1 d2 d3 d4 d5 d6
     refine (unhide UP _).mono ?_
     rintro e w3 ⟨rfl, rfl⟩
     obtain ⟨d0, d1, d2, d3, d4, d5, d6⟩ := cells7 (unhide KK)
     go_wp2_with fail
     go_ret
     exact ⟨rfl, b0⟩
    rw [decide_eq_true u2, Bool.true_and]
    obtain ⟨d0, d1, d2, d3, d4, d5, d6⟩ := cells7 (unhide KK)
    go_enter Tryz.func28, Tryz.ntmps28
    go_wp2_with fail
    clear d0 d1 d2 d3 d4 d5 d6
    refine (unhide NO).mono ?_
    rintro e w1 ⟨rfl, b1⟩
    replace b0 := below_next b0 b1
    replace KK := hide (block_kept b1 (unhide KK))
    replace H := hide ((unhide H).below b1)
    clear b1
    obtain ⟨d0, d1, d2, d3, d4, d5, d6⟩ := cells7 (unhide KK)
    go_wp2_with fail
    clear d0 d1 d2 d3 d4 d5 d6
    refine (unhide TO _).mono ?_
    rintro e w2 ⟨rfl, rfl⟩
    obtain ⟨d0, d1, d2, d3, d4, d5, d6⟩ := cells7 (unhide KK)
    go_wp2_with fail
    clear d0 d1 d2 d3 d4 d5 d6
    refine (unhide UP _).mono ?_
    rintro e w3 ⟨rfl, rfl⟩
    obtain ⟨d0, d1, d2, d3, d4, d5, d6⟩ := cells7 (unhide KK)
    go_wp2_with fail
    clear d0 d1 d2 d3 d4 d5 d6
    refine (unhide HB _ (unhide H)).mono ?_
    rintro e w4 ⟨rfl, b4⟩
    replace b0 := below_next b0 b4
    go_wp2_with fail
    go_ret
    exact ⟨rfl, b0⟩
end Go.Proofs.YtpolekinfobecaaGreat

namespace Go.Proofs.YtpolekinfobecaaGreat
open Go.RowKit
set_option linter.unusedVariables false

set_option maxHeartbeats 1000000 in
set_option maxRecDepth 100000 in
theorem slotCmp_has {vn vr un ur : Value} {a b : Slt} {w : World} (h : HasS2 w vn vr a) (h' : HasS2 w un ur b) :
  Calls Tryz.prog 29 #[.agg #[vn, .int .i64 a.type, .int .i64 a.kind, vr, .int .i64 a.rank, .int .i64 a.till, .int .i64 a.used], .agg #[un, .int .i64 b.type, .int .i64 b.kind, ur, .int .i64 b.rank, .int .i64 b.till, .int .i64 b.used]] w fun e w' => e = .returned (.int .i64 (slotCmpI a b)) ∧ Below w.heap.size w w' := by
 obtain ⟨na, nc, rfl, _⟩ := h.name.form
 obtain ⟨ra, rc, rfl, _⟩ := h.rrs.form
 obtain ⟨na', nc', rfl, _⟩ := h'.name.form
 obtain ⟨ra', rc', rfl, _⟩ := h'.rrs.form
 have b0 := below2 w (.cells #[.slice na a.name.length nc, .int .i64 a.type, .int .i64 a.kind, .slice ra a.rrs.length rc, .int .i64 a.rank, .int .i64 a.till, .int .i64 a.used] 47) (.cells #[.slice na' b.name.length nc', .int .i64 b.type, .int .i64 b.kind, .slice ra' b.rrs.length rc', .int .i64 b.rank, .int .i64 b.till, .int .i64 b.used] 47)
 obtain ⟨hsz, k0, x0⟩ := box2 w (.cells #[.slice na a.name.length nc, .int .i64 a.type, .int .i64 a.kind, .slice ra a.rrs.length rc, .int .i64 a.rank, .int .i64 a.till, .int .i64 a.used] 47) #[.slice na' b.name.length nc', .int .i64 b.type, .int .i64 b.kind, .slice ra' b.rrs.length rc', .int .i64 b.rank, .int .i64 b.till, .int .i64 b.used] 47
 have NC := implNameCmp_has (h.below b0).name (h'.below b0).name
 have KK := hide k0
 have XX := hide x0
 obtain ⟨d0, d1, d2, d3, d4, d5, d6⟩ := cells7 k0
 obtain ⟨f0, f1, f2, f3, f4, f5, f6⟩ := cells7 x0
 clear h h' k0 x0 hsz
 unfold slotCmpI
 generalize nameCmp a.name b.name = N at *
 replace NC := hide NC
 by_cases e1 : N = 0
 ·subst e1
  rw [if_neg (by simp)]
  go_enter Tryz.func29, Tryz.ntmps29
  go_wp2_with fail
  clear d0 d1 d2 d3 d4 d5 d6 f0 f1 f2 f3 f4 f5 f6
  refine (unhide NC).mono ?_
  rintro e w1 ⟨rfl, b1⟩
  replace b0 := below_next b0 b1
  replace KK := hide (block_kept b1 (unhide KK))
  replace XX := hide (block_kept b1 (unhide XX))
  clear b1
  obtain ⟨d0, d1, d2, d3, d4, d5, d6⟩ := cells7 (unhide KK)
  obtain ⟨f0, f1, f2, f3, f4, f5, f6⟩ := cells7 (unhide XX)
  go_wp2_with fail
  refine (cmpCompare_int _ _ _).mono ?_
  rintro e w2 ⟨rfl, rfl⟩
  go_wp2_with fail
  go_ret
  exact ⟨rfl, b0⟩
 ·have q1 : (N != 0) = true := by simpa using e1
  rw [if_pos e1]
  clear e1
  go_enter Tryz.func29, Tryz.ntmps29
  go_wp2_with fail
  refine (unhide NC).mono ?_
  rintro e w1 ⟨rfl, b1⟩
  go_wp2_with fail
  go_ret
  exact ⟨rfl, below_next b0 b1⟩
end Go.Proofs.YtpolekinfobecaaGreat

namespace Go.Proofs.YtpolekinfobecaaGreat
open Go.RowKit
set_option linter.unusedVariables false

theorem list_run {P : Program} {w w' : World} {ops : Array Oper} {rest : List Oper} {o : Oper} {a : Act} {Q : Exit → Act → World → Prop} {v : Value} (hgd : o.guard = none)
  (hrun : (execOp a.eval o).run P w = .ok (.value v) w') (h : wpList P ops Q rest (a.put o.dst v) w') : wpList P ops Q (o :: rest) a w := by
 refine wpList_plain hgd fun K' hK' => ?_
 unfold Oper.wp
 rw [hrun]
 exact hK' _ _ h
end Go.Proofs.YtpolekinfobecaaGreat

namespace Go.Proofs.YtpolekinfobecaaGreat
open Go.RowKit
set_option linter.unusedVariables false

theorem below_grow {w W w' : World} {row : Option Nat} (hb : Below w.heap.size w W) (hg : W.grownBy w' row) (hr : ∀ j, row = some j → w.heap.size ≤ j) : Below w.heap.size w w' :=
 ⟨by first | exact hg.os.trans hb.os | exact hb.os.trans hg.os, by first | exact hg.tape.trans hb.tape | exact hb.tape.trans hg.tape, by first | exact hg.output.trans hb.output | exact hb.output.trans hg.output, Nat.le_trans hb.size hg.size, fun k hk => (hg.block k (Nat.lt_of_lt_of_le hk hb.size) (fun e => by have := hr k e.symm; omega)).trans (hb.block k hk)⟩
theorem append_int1 {P : Program} {w : World} {ops : Array Oper} {rest : List Oper} {o : Oper} {a : Act} {Q : Exit → Act → World → Prop} (hgd : o.guard = none) (s x : Operand) (t e : TypeId)
  (ho : o.op = .call { callee := .builtin .append, args := #[s, x], argTypes := #[t, t] }) (ht : P.underlying t = some (.slice e))
  (hinfo : (P.info? e).map (fun i => (i.zero, i.size, i.bytes)) = some (some (.int .i64 0), 1, 8))
  (base : Nat) (v : Value) (l : List Int) (W : World) (z : Int) (q : Nat) (hq : W.heap.size = q) (hs : a.eval s = v) (hx : a.eval x = .slice (some ⟨q, 0, none⟩) 1 1) (hw : w = W.alloc (.cells #[.int .i64 z] e)) (hown : OwnI base e W v l)
  (hlen : l.length + 1 ≤ 1099511627776) (hbase : base ≤ W.heap.size)
  (h : ∀ v' w', OwnI base e w' v' (l ++ [z]) → w.grownBy w' v.ownBlock → wpList P ops Q rest (a.put o.dst v') w') : wpList P ops Q (o :: rest) a w := by
 subst hq
 obtain ⟨i0, hi, hzz⟩ := Option.map_eq_some_iff.1 hinfo
 simp only [Prod.mk.injEq] at hzz
 obtain ⟨hz0, hz1, hz2⟩ := hzz
 have hown2 : w.ownsRow base e 1 v l.length (l.map (Value.int .i64)) := by rw [hw]; exact OwnI.alloc hown _
 rcases one_more W e (.int .i64 z) with ⟨h0, _⟩ | ⟨ad, cap, hv, hc⟩
 ·cases h0
 ·rw [← hw] at hc
  obtain ⟨v', w', h1, h2, h3, _⟩ := run_append_own (P := P) w base t o.type e i0 (.int .i64 0) 1 8 ht hi hz0 hz1 hz2 rfl (by decide) v l.length (l.map (Value.int .i64)) hown2 ad 1 cap [.int .i64 z] (by simp) hc (by intro y hy; simp at hy; subst hy; rfl) (by unfold maxLen; omega) (by omega) (by rw [hw]; exact Nat.le_trans hbase (below_alloc _).size)
  have hx2 : a.eval x = .slice (some ad) 1 cap := by rw [hx]; exact hv
  refine list_run hgd (v := v') (w' := w') ?_ (h v' w' (by simpa [OwnI] using h2) h3)
  unfold execOp
  simp only [ho, resolve, invoke, builtin, Sem.run_bind, Sem.run_pure, Result.andThen_ok, List.map_toArray, List.map_cons, List.map_nil, hs, hx2, h1]
end Go.Proofs.YtpolekinfobecaaGreat
