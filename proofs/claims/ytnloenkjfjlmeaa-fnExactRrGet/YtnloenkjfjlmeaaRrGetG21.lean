/-
  Contracts of the program's data: what each kind reads. Contracts of the program's nothingElse.
-/
import Derived.Test.YtnloenkjfjlmeaaRrGetG10
import Derived.Test.YtnloenkjfjlmeaaRrGetG17
import Derived.Test.YtnloenkjfjlmeaaRrGetG18
import Derived.Test.YtnloenkjfjlmeaaRrGetG20
import Derived.Test.YtnloenkjfjlmeaaRrGetG04
import Derived.Test.YtnloenkjfjlmeaaRrGetG00
import Derived.Test.YtnloenkjfjlmeaaRrGetG06
import Derived.WalkKit
namespace Go.Proofs.Ytnloenkjfjlmeaa
open Go.RowKit
set_option linter.unusedVariables false

set_option maxHeartbeats 400000 in
set_option maxRecDepth 100000 in
theorem addrGet_own {B : Nat} {v : Value} {l : List Int} (x p : Int) {w : World} (h : Own B 5 w v l) (hl : l.length ≤ 512) (hp : p ≤ 9223372036854775807) (hb : Bytes8 l) :
    Calls Try.prog 157 #[.agg #[.int .i64 x], v, .int .i64 p] w fun e w' => e = .returned (.tuple #[.iface 126 (.agg #[.int .i64 (get32 l p).1]), .int .i64 (get32 l p).2]) ∧ Below w.heap.size w w' := by
  have b0 := below_alloc (w := w) (.cells #[.int .i64 x] 126)
  have HG := hide (implGet32_any p (h.below b0) (by omega) hp hb)
  obtain ⟨a, cap, rfl, _⟩ := h.lies
  generalize (get32 l p).1 = g1 at *
  generalize (get32 l p).2 = g2 at *
  clear h
  go_enter Try.func157, Try.ntmps157
  go_wp2_with fail
  refine (unhide HG).mono ?_
  rintro e w1 ⟨rfl, b1⟩
  go_wp2_with fail
  go_ret2
  exact ⟨rfl, below_next b0 b1⟩

set_option maxHeartbeats 400000 in
set_option maxRecDepth 100000 in
theorem nameGetM_own {B : Nat} {v x : Value} {l : List Int} (p : Int) {w : World} (h : Own B 5 w v l) (hl : l.length ≤ 512) (hp : p ≤ 9223372036854775807) (hb : Bytes8 l) :
    Calls Try.prog 161 #[.agg #[.slice none 0 0], v, .int .i64 p] w fun e w' => ∃ v', e = .returned (.tuple #[.iface 128 (.agg #[v']), .int .i64 (nameGet l p).2]) ∧ OwnL w.heap.size 22 5 w' v' (nameGet l p).1 ∧ Below w.heap.size w w' := by
  have b0 := below_alloc (w := w) (.cells #[.slice none 0 0] 128)
  have HG := hide (implNameGet_own p (h.below b0) (by omega) hp hb)
  obtain ⟨a, cap, rfl, _⟩ := h.lies
  generalize (nameGet l p).1 = g1 at *
  generalize (nameGet l p).2 = g2 at *
  clear h
  go_enter Try.func161, Try.ntmps161
  go_wp2_with fail
  refine (unhide HG).mono ?_
  rintro e w1 ⟨v1, rfl, o1, b1⟩
  obtain ⟨oa, oc, rfl, _⟩ := o1.hasL.form
  have b2 := below_alloc (w := w1) (.cells #[.slice oa g1.length oc] 25)
  have O2 := hide (o1.below b2)
  have c2 := block_one (heap_alloc_new w1 (.cells #[.slice oa g1.length oc] 25))
  have z0 := b0.size
  clear o1
  go_wp2_with fail
  go_ret2
  exact ⟨_, rfl, (unhide O2).mono (by omega), below_next (below_next b0 b1) b2⟩

set_option maxHeartbeats 800000 in
set_option maxRecDepth 100000 in
theorem soaGet_own {B : Nat} {v : Value} {l : List Int} (p : Int) {w : World} (h : Own B 5 w v l) (hl : l.length ≤ 512) (hp : p ≤ 9223372036854775807) (hb : Bytes8 l) :
    Calls Try.prog 165 #[.agg #[.slice none 0 0, .slice none 0 0], v, .int .i64 p] w fun e w' => ∃ v' u' s, e = .returned (.tuple #[.iface 130 (.agg #[v', u']), .int .i64 (get32 l (get32 l (nameGet l p).2).2).2]) ∧ w.heap.size ≤ s ∧ s ≤ w'.heap.size ∧ OwnN w.heap.size s 22 5 w' v' (nameGet l p).1 ∧ OwnBI s w'.heap.size 3 w' u' [(get32 l (nameGet l p).2).1, (get32 l (get32 l (nameGet l p).2).2).1] ∧ Below w.heap.size w w' := by
  have b0 := below_alloc (w := w) (.cells #[.slice none 0 0, .slice none 0 0] 130)
  have HG := hide (implNameGet_own p (h.below b0) (by omega) hp hb)
  have e1 := nameGet_end l p
  have e2 := get32_end l (nameGet l p).2
  have H0 := hide (h.below b0)
  obtain ⟨a, cap, rfl, _⟩ := h.lies
  have H32 := hide (fun (w : World) (q : Int) (hq : q ≤ 9223372036854775807) (h : Own B 5 w (.slice a l.length cap) l) => implGet32_any q h (by omega) hq hb)
  have P1 := hide (fun (w : World) (h : Own B 5 w (.slice a l.length cap) l) => unhide H32 w (nameGet l p).2 (by omega) h)
  have P2 := hide (fun (w : World) (h : Own B 5 w (.slice a l.length cap) l) => unhide H32 w (get32 l (nameGet l p).2).2 (by omega) h)
  clear H32 h
  generalize (get32 l (get32 l (nameGet l p).2).2).1 = y1 at *
  generalize (get32 l (get32 l (nameGet l p).2).2).2 = y2 at *
  generalize (get32 l (nameGet l p).2).1 = x1 at *
  generalize (get32 l (nameGet l p).2).2 = x2 at *
  generalize (nameGet l p).1 = g1 at *
  generalize (nameGet l p).2 = g2 at *
  go_enter Try.func165, Try.ntmps165
  go_wp2_with fail
  generalize w.alloc (.cells #[.slice none 0 0, .slice none 0 0] 130) = W at *
  refine (unhide HG).mono ?_
  rintro e w1 ⟨v1, rfl, o1, b1⟩
  obtain ⟨oa, oc, rfl, _⟩ := o1.hasL.form
  have b2 := below_alloc (w := w1) (.cells #[.slice oa g1.length oc] 25)
  have K2 := hide (heap_alloc_new w1 (.cells #[.slice oa g1.length oc] 25))
  have O2 := hide (o1.below b2)
  have A2 := hide (((unhide H0).below b1).below b2)
  have bb2 := below_next (below_next b0 b1) b2
  have z0 := b0.size
  have z1 := b1.size
  have z2 := b2.size
  clear o1 b1 b2 H0
  go_wp2_with fail
  generalize w1.alloc (.cells #[.slice oa g1.length oc] 25) = w2 at *
  have zk := block_lt (unhide K2)
  refine (unhide P1 _ (unhide A2)).mono ?_
  rintro e w3 ⟨rfl, b3⟩
  have K3 := hide (block_kept b3 (unhide K2))
  have O3 := hide ((unhide O2).below b3)
  have A3 := hide ((unhide A2).below b3)
  have bb3 := below_next bb2 b3
  have z3 := b3.size
  clear K2 O2 A2 b3 bb2
  go_wp2_with fail
  refine (unhide P2 _ (unhide A3)).mono ?_
  rintro e w4 ⟨rfl, b4⟩
  have c4 := block_one (block_kept b4 (unhide K3))
  have O4 := hide ((unhide O3).below b4)
  have bb4 := below_next bb3 b4
  have z4 := b4.size
  clear K3 O3 A3 b4 bb3
  have b5 := below_alloc (w := w4) (.cells #[.int .i64 x1, .int .i64 y1] 3)
  have ca5 : ∀ o, (w4.alloc o).cell? ⟨w1.heap.size, 0, none⟩ = some (.slice oa g1.length oc) := fun o => ((below_alloc (w := w4) o).cell (p := ⟨w1.heap.size, 0, none⟩) (by show w1.heap.size < w4.heap.size; omega)).trans c4
  have I5 := hide (own_litI2 w4 w4.heap.size 3 x1 y1 (Nat.le_refl _))
  have z5 := b5.size
  go_wp2_with fail
  go_ret2
  exact ⟨_, _, w4.heap.size, rfl, by omega, by omega, ((unhide O4).here.wide (by omega) (Nat.le_refl _)).below b5, (unhide I5).here, below_next bb4 b5⟩

set_option maxHeartbeats 400000 in
set_option maxRecDepth 100000 in
theorem textGet_own {B : Nat} {v : Value} {l : List Int} (p : Int) {w : World} (h : Own B 5 w v l) (hl : l.length ≤ 512) (hp : p ≤ 9223372036854775807) (hb : Bytes8 l) :
    Calls Try.prog 169 #[.agg #[.slice none 0 0], v, .int .i64 p] w fun e w' => ∃ v', e = .returned (.tuple #[.iface 132 (.agg #[v']), .int .i64 (countedOf l p).2]) ∧ Own w.heap.size 5 w' v' (countedOf l p).1 ∧ Below w.heap.size w w' := by
  have b0 := below_alloc (w := w) (.cells #[.slice none 0 0] 132)
  have HG := hide (countedGet_own p (h.below b0) (by omega) hp hb)
  obtain ⟨a, cap, rfl, _⟩ := h.lies
  generalize (countedOf l p).1 = g1 at *
  generalize (countedOf l p).2 = g2 at *
  clear h
  go_enter Try.func169, Try.ntmps169
  go_wp2_with fail
  refine (unhide HG).mono ?_
  rintro e w1 ⟨v1, rfl, o1, b1⟩
  obtain ⟨oa, oc, rfl, _⟩ := o1.lies
  have z0 := b0.size
  have O1 := hide o1
  clear o1
  go_wp2_with fail
  go_ret2
  exact ⟨_, rfl, (unhide O1).mono (by omega), below_next b0 b1⟩
end Go.Proofs.Ytnloenkjfjlmeaa

namespace Go.Proofs.Ytnloenkjfjlmeaa
open Go.RowKit
set_option linter.unusedVariables false

set_option maxHeartbeats 800000 in
set_option maxRecDepth 100000 in
theorem nothingElse_any {na na' ta ta' xa xa' ia ia' : Option Addr} {nl nl' nc nc' tl tl' tc tc' xl xl' xc xc' il il' ic ic' : Nat} {ty ty' tt tt' ad ad' : Int} {w : World} :
    Calls Try.prog 114 #[.agg #[.slice na nl nc, .int .i64 ty, .int .i64 tt, .int .i64 ad, .slice ta tl tc, .slice xa xl xc, .slice ia il ic], .agg #[.slice na' nl' nc', .int .i64 ty', .int .i64 tt', .int .i64 ad', .slice ta' tl' tc', .slice xa' xl' xc', .slice ia' il' ic']] w fun e w' => e = .returned (.bool (decide (ad = ad' ∧ tl = tl' ∧ xl = xl' ∧ il = il'))) ∧ Below w.heap.size w w' := by
  have b0 := below2 w (.cells #[.slice na nl nc, .int .i64 ty, .int .i64 tt, .int .i64 ad, .slice ta tl tc, .slice xa xl xc, .slice ia il ic] 50) (.cells #[.slice na' nl' nc', .int .i64 ty', .int .i64 tt', .int .i64 ad', .slice ta' tl' tc', .slice xa' xl' xc', .slice ia' il' ic'] 50)

  by_cases h0 : ad ≠ ad'
  · rw [decide_eq_false (by intro hh; exact h0 hh.1)]
    have e0 : (ad == ad') = false := by rw [beq_eq_false_iff_ne]; omega
    go_enter Try.func114, Try.ntmps114
    go_wp2
    go_ret
    exact ⟨rfl, below2 _ _ _⟩
  replace h0 : ad = ad' := by omega
  have e0 : (ad == ad') = true := by rw [beq_iff_eq]; omega
  by_cases h1 : tl ≠ tl'
  · rw [decide_eq_false (by intro hh; exact h1 hh.2.1)]
    have e1 : ((tl : Int) == (tl' : Int)) = false := by rw [beq_eq_false_iff_ne]; omega
    go_enter Try.func114, Try.ntmps114
    go_wp2
    go_ret
    exact ⟨rfl, below2 _ _ _⟩
  replace h1 : tl = tl' := by omega
  have e1 : ((tl : Int) == (tl' : Int)) = true := by rw [beq_iff_eq]; omega
  by_cases h2 : xl ≠ xl'
  · rw [decide_eq_false (by intro hh; exact h2 hh.2.2.1)]
    have e2 : ((xl : Int) == (xl' : Int)) = false := by rw [beq_eq_false_iff_ne]; omega
    go_enter Try.func114, Try.ntmps114
    go_wp2
    go_ret
    exact ⟨rfl, below2 _ _ _⟩
  replace h2 : xl = xl' := by omega
  have e2 : ((xl : Int) == (xl' : Int)) = true := by rw [beq_iff_eq]; omega
  by_cases h3 : il ≠ il'
  · rw [decide_eq_false (by intro hh; exact h3 hh.2.2.2)]
    have e3 : ((il : Int) == (il' : Int)) = false := by rw [beq_eq_false_iff_ne]; omega
    go_enter Try.func114, Try.ntmps114
    go_wp2
    go_ret
    exact ⟨rfl, below2 _ _ _⟩
  replace h3 : il = il' := by omega
  have e3 : ((il : Int) == (il' : Int)) = true := by rw [beq_iff_eq]; omega
  rw [decide_eq_true ⟨h0, h1, h2, h3⟩]
  clear h0 h1 h2 h3
  go_enter Try.func114, Try.ntmps114
  go_wp2
  go_ret
  exact ⟨rfl, below2 _ _ _⟩
end Go.Proofs.Ytnloenkjfjlmeaa
