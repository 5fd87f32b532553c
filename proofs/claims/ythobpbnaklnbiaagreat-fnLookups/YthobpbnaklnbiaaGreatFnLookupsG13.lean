/-
  Contracts of the specification's l3named, l3texted, l3data and RrOk. Contract of the specification's l1PickInt: what is picked has the property that all have. Plain facts: in a region whose order is open, a load may be taken first, even if what waits for it writes the cell that it reads. No program is named here.
-/
import Derived.Test.YthobpbnaklnbiaaGreatFnLookupsG07
import Derived.Test.YthobpbnaklnbiaaGreatFnLookupsG01
import Derived.Test.YthobpbnaklnbiaaGreatFnLookupsG12
import Derived.Test.YthobpbnaklnbiaaGreatFnLookupsG00
import Derived.OrdersHeld
import Derived.RegionTactic
namespace Go.Proofs.YthobpbnaklnbiaaGreat
open Go.RowKit
set_option linter.unusedVariables false
set_option maxHeartbeats 1000000
set_option maxRecDepth 100000
set_option linter.unusedSimpArgs false

theorem named_1 : named 1 = false := rfl
theorem named_2 : named 2 = true := rfl
theorem named_5 : named 5 = true := rfl
theorem named_6 : named 6 = true := rfl
theorem named_12 : named 12 = true := rfl
theorem named_16 : named 16 = false := rfl
theorem named_49 : named 49 = false := rfl

theorem VR (t : Int) (w : World) (ht : typeOk t = true) : Calls Tryz.prog 96 #[.int .i64 t] w fun e w' => e = .returned (.bool (named t)) ∧ w = w' := by
 rcases type_cases t with rfl | rfl | rfl | rfl | rfl | rfl | rfl | h
 iterate 7
  ·go_enter Tryz.func96, Tryz.ntmps96
   go_wp2
   go_ret
   exact ⟨rfl, rfl⟩
 ·rw [ht] at h; cases h

theorem texted_1 : texted 1 = false := rfl
theorem texted_2 : texted 2 = false := rfl
theorem texted_5 : texted 5 = false := rfl
theorem texted_6 : texted 6 = false := rfl
theorem texted_12 : texted 12 = false := rfl
theorem texted_16 : texted 16 = true := rfl
theorem texted_49 : texted 49 = true := rfl

theorem VT (t : Int) (w : World) (ht : typeOk t = true) : Calls Tryz.prog 97 #[.int .i64 t] w fun e w' => e = .returned (.bool (texted t)) ∧ w = w' := by
 rcases type_cases t with rfl | rfl | rfl | rfl | rfl | rfl | rfl | h
 iterate 7
  ·go_enter Tryz.func97, Tryz.ntmps97
   go_wp2
   go_ret
   exact ⟨rfl, rfl⟩
 ·rw [ht] at h; cases h

theorem len0 (n : List Int) : ((n.length : Int) == 0) = decide (n.length = 0) := by
 by_cases h : n.length = 0
 ·rw [h]; rfl
 ·rw [decide_eq_false h, beq_eq_false_iff_ne]; omega
theorem kind_of {t : Int} (h : typeOk t = true) : t = 1 ∨ (t = 2 ∨ t = 5 ∨ t = 12) ∨ t = 6 ∨ (t = 16 ∨ t = 49) := by
 rcases type_cases t with rfl | rfl | rfl | rfl | rfl | rfl | rfl | h0
 all_goals first | (rw [h] at h0; cases h0) | simp
theorem data_n {r : Rec} (h : r.type = 2 ∨ r.type = 5 ∨ r.type = 12) : dataOk r = (decide (r.addr = 0) && (nameOk r.to && (decide (r.text.length = 0) && decide (r.nums.length = 0)))) := by
 rcases h with h | h | h <;> (unfold dataOk; rw [h]; simp [named, texted])
theorem data_x {r : Rec} (h : r.type = 16 ∨ r.type = 49) : dataOk r = (decide (r.addr = 0) && (decide (r.to.length = 0) && (decide (r.text.length ≤ 40) && decide (r.nums.length = 0)))) := by
 rcases h with h | h <;> (unfold dataOk; rw [h]; simp [named, texted])
theorem data_a {r : Rec} (h : r.type = 1) : dataOk r = (decide (0 ≤ r.addr ∧ r.addr ≤ 4294967295) && (decide (r.to.length = 0) && (decide (r.text.length = 0) && decide (r.nums.length = 0)))) := by
 unfold dataOk; rw [h]; simp [named, texted]
theorem data_s {r : Rec} (h : r.type = 6) : dataOk r = (decide (r.addr = 0) && (nameOk r.to && (decide (r.text.length = 0) && decide (r.nums.length = 2 ∧ 0 ≤ r.nums.getD 0 0 ∧ r.nums.getD 0 0 ≤ 4294967295 ∧ 0 ≤ r.nums.getD 1 0 ∧ r.nums.getD 1 0 ≤ 100000)))) := by
 unfold dataOk; rw [h]; simp [named, texted]
theorem l3data_has {vn vt vx vi : Value} {r : Rec} {w : World} (h : HasR w vn vt vx vi r) (ht : typeOk r.type = true) :
  Calls Tryz.prog 65 #[.agg #[vn, .int .i64 r.type, .int .i64 r.ttl, .int .i64 r.addr, vt, vx, vi]] w fun e w' => e = .returned (.bool (dataOk r)) ∧ Below w.heap.size w w' := by
 obtain ⟨na, nc, rfl, _⟩ := h.name.form
 obtain ⟨ta, tc, rfl, _⟩ := h.to.form
 obtain ⟨xa, xc, rfl, _⟩ := h.text.form
 obtain ⟨ia, ic, rfl, _⟩ := h.nums.form
 obtain ⟨nm, ty, tt, ad, to, tx, nu⟩ := r
 simp only at *
 have bb := UI (w := w) (.cells #[.slice na nm.length nc, .int .i64 ty, .int .i64 tt, .int .i64 ad, .slice ta to.length tc, .slice xa tx.length xc, .slice ia nu.length ic] 39)
 have K := UC (heap_alloc_new w (.cells #[.slice na nm.length nc, .int .i64 ty, .int .i64 tt, .int .i64 ad, .slice ta to.length tc, .slice xa tx.length xc, .slice ia nu.length ic] 39))
 have H := UC (h.below bb)
 clear h
 rcases kind_of ht with hk | hk | hk | hk
 ·rw [data_a hk]
  dsimp only
  subst hk
  go_enter Tryz.func65, Tryz.ntmps65
  by_cases hA : ad < 0
  ·obtain ⟨d0, d1, d2, d3, d4, d5, d6⟩ := UJ (UB K)
   go_wp2_with fail
   go_ret
   exact ⟨by simp [hA, show ¬ (0 : Int) ≤ ad by omega], bb⟩
  by_cases hA3 : 4294967295 < ad
  ·obtain ⟨d0, d1, d2, d3, d4, d5, d6⟩ := UJ (UB K)
   go_wp2_with fail
   go_ret
   exact ⟨by simp [show ¬ ad ≤ 4294967295 by omega], bb⟩
  obtain ⟨d0, d1, d2, d3, d4, d5, d6⟩ := UJ (UB K)
  go_wp2_with fail
  refine (VR _ _ rfl).mono ?_
  first | rw [named_1]
  rintro e wq ⟨rfl, rfl⟩
  by_cases hB : to.length = 0
  ·have hB0 : ¬ (0 : Int) < to.length := by omega
   have HB := UC hB
   clear hB
   go_wp2_with fail
   clear d0 d1 d2 d3 d4 d5 d6
   refine (VT _ _ rfl).mono ?_
   first | rw [texted_1]
   rintro e wq ⟨rfl, rfl⟩
   obtain ⟨d0, d1, d2, d3, d4, d5, d6⟩ := UJ (UB K)
   by_cases hC : tx.length = 0
   ·have hC0 : ¬ (0 : Int) < tx.length := by omega
    have HC := UC hC
    clear hC
    go_wp2_with fail
    go_ret
    exact ⟨by simp [show (0 : Int) ≤ ad by omega, show ad ≤ 4294967295 by omega, nil_of (UB HB), nil_of (UB HC), len0 nu], bb⟩
   ·have hC1 : (0 : Int) < tx.length := by omega
    go_wp2_with fail
    go_ret
    exact ⟨by simp [hC], bb⟩
  ·have hB1 : (0 : Int) < to.length := by omega
   go_wp2_with fail
   go_ret
   exact ⟨by simp [hB], bb⟩
 ·rw [data_n hk]
  dsimp only
  rcases hk with rfl | rfl | rfl
  all_goals
   go_enter Tryz.func65, Tryz.ntmps65
   by_cases hA : ad = 0
   ·subst hA
    obtain ⟨d0, d1, d2, d3, d4, d5, d6⟩ := UJ (UB K)
    go_wp2_with fail
    clear d0 d1 d2 d3 d4 d5 d6
    refine (VR _ _ rfl).mono ?_
    first | rw [named_2] | rw [named_5] | rw [named_12]
    rintro e wq ⟨rfl, rfl⟩
    obtain ⟨d0, d1, d2, d3, d4, d5, d6⟩ := UJ (UB K)
    go_wp2_with fail
    clear d0 d1 d2 d3 d4 d5 d6
    have HO := UC (VO (show HasL _ (.slice ta to.length tc) to from (UB H).to))
    cases hB : nameOk to with
    | false =>
     rw [hB] at HO
     refine (UB HO).mono ?_
     rintro e w1 ⟨rfl, b1⟩
     have bb := UG bb b1
     go_wp2_with fail
     go_ret
     exact ⟨by simp [hB], bb⟩
    | true =>
     rw [hB] at HO
     refine (UB HO).mono ?_
     rintro e w1 ⟨rfl, b1⟩
     replace bb := UG bb b1
     replace K := UC (UE b1 (UB K))
     replace H := UC ((UB H).below b1)
     clear b1 HO
     obtain ⟨d0, d1, d2, d3, d4, d5, d6⟩ := UJ (UB K)
     go_wp2_with fail
     clear d0 d1 d2 d3 d4 d5 d6
     refine (VT _ _ rfl).mono ?_
     first | rw [texted_2] | rw [texted_5] | rw [texted_12]
     rintro e wq ⟨rfl, rfl⟩
     obtain ⟨d0, d1, d2, d3, d4, d5, d6⟩ := UJ (UB K)
     by_cases hC : tx.length = 0
     ·have hC0 : ¬ (0 : Int) < tx.length := by omega
      have HC := UC hC
      clear hC
      go_wp2_with fail
      go_ret
      exact ⟨by simp [hB, nil_of (UB HC), len0 nu], bb⟩
     ·have hC1 : (0 : Int) < tx.length := by omega
      go_wp2_with fail
      go_ret
      exact ⟨by simp [hC], bb⟩
   ·have hA1 : (ad != 0) = true := by rw [bne_iff_ne]; exact hA
    have hA2 : (ad == 0) = false := by rw [beq_eq_false_iff_ne]; exact hA
    have hA3 : decide (ad = 0) = false := decide_eq_false hA
    obtain ⟨d0, d1, d2, d3, d4, d5, d6⟩ := UJ (UB K)
    go_wp2_with fail
    go_ret
    exact ⟨by simp [hA], bb⟩
 ·rw [data_s hk]
  dsimp only
  subst hk
  go_enter Tryz.func65, Tryz.ntmps65
  by_cases hA : ad = 0
  ·subst hA
   obtain ⟨d0, d1, d2, d3, d4, d5, d6⟩ := UJ (UB K)
   go_wp2_with fail
   clear d0 d1 d2 d3 d4 d5 d6
   refine (VR _ _ rfl).mono ?_
   first | rw [named_6]
   rintro e wq ⟨rfl, rfl⟩
   obtain ⟨d0, d1, d2, d3, d4, d5, d6⟩ := UJ (UB K)
   go_wp2_with fail
   clear d0 d1 d2 d3 d4 d5 d6
   have HO := UC (VO (show HasL _ (.slice ta to.length tc) to from (UB H).to))
   cases hB : nameOk to with
   | false =>
    rw [hB] at HO
    refine (UB HO).mono ?_
    rintro e w1 ⟨rfl, b1⟩
    have bb := UG bb b1
    go_wp2_with fail
    go_ret
    exact ⟨by simp [hB], bb⟩
   | true =>
    rw [hB] at HO
    refine (UB HO).mono ?_
    rintro e w1 ⟨rfl, b1⟩
    replace bb := UG bb b1
    replace K := UC (UE b1 (UB K))
    replace H := UC ((UB H).below b1)
    clear b1 HO
    obtain ⟨d0, d1, d2, d3, d4, d5, d6⟩ := UJ (UB K)
    go_wp2_with fail
    clear d0 d1 d2 d3 d4 d5 d6
    refine (VT _ _ rfl).mono ?_
    first | rw [texted_6]
    rintro e wq ⟨rfl, rfl⟩
    obtain ⟨d0, d1, d2, d3, d4, d5, d6⟩ := UJ (UB K)
    by_cases hC : tx.length = 0
    ·have hC0 : ¬ (0 : Int) < tx.length := by omega
     have HC := UC hC
     clear hC
     by_cases hD : nu.length = 2
     ·skip
      obtain ⟨x, y, rfl⟩ := two_of hD
      skip
      obtain ⟨g, off, cp, hv, _, n0, n1⟩ := (show HasI _ (.slice ia [x, y].length ic) [x, y] from (UB H).nums).two
      simp only [Value.slice.injEq] at hv
      obtain ⟨rfl, _, rfl⟩ := hv
      by_cases hE : x < 0
      ·skip
       go_wp2_with fail
       go_ret
       exact ⟨by simp [show ¬ (0 : Int) ≤ x by omega], bb⟩
      by_cases hF : 4294967295 < x
      ·skip
       go_wp2_with fail
       go_ret
       exact ⟨by simp [show ¬ x ≤ 4294967295 by omega], bb⟩
      by_cases hG : y < 0
      ·have dG : decide (0 ≤ y) = false := decide_eq_false (by omega)
       go_wp2_with fail
       go_ret
       exact ⟨by simp [show ¬ (0 : Int) ≤ y by omega], bb⟩
      by_cases hH : 100000 < y
      ·have dH : decide (y ≤ 100000) = false := decide_eq_false (by omega)
       go_wp2_with fail
       go_ret
       exact ⟨by simp [show ¬ y ≤ 100000 by omega], bb⟩
      have dH : decide (y ≤ 100000) = true := decide_eq_true (by omega)
      go_wp2_with fail
      go_ret
      exact ⟨by simp [hB, nil_of (UB HC), show (0 : Int) ≤ x by omega, show x ≤ 4294967295 by omega, show (0 : Int) ≤ y by omega, show y ≤ 100000 by omega], bb⟩
     ·have hD1 : ((nu.length : Int) != 2) = true := by rw [bne_iff_ne]; omega
      have hD2 : ((nu.length : Int) == 2) = false := by rw [beq_eq_false_iff_ne]; omega
      go_wp2_with fail
      go_ret
      exact ⟨by simp [hD], bb⟩
    ·have hC1 : (0 : Int) < tx.length := by omega
     go_wp2_with fail
     go_ret
     exact ⟨by simp [hC], bb⟩
  ·have hA1 : (ad != 0) = true := by rw [bne_iff_ne]; exact hA
   have hA2 : (ad == 0) = false := by rw [beq_eq_false_iff_ne]; exact hA
   have hA3 : decide (ad = 0) = false := decide_eq_false hA
   obtain ⟨d0, d1, d2, d3, d4, d5, d6⟩ := UJ (UB K)
   go_wp2_with fail
   go_ret
   exact ⟨by simp [hA], bb⟩
 ·rw [data_x hk]
  dsimp only
  rcases hk with rfl | rfl
  all_goals
   go_enter Tryz.func65, Tryz.ntmps65
   by_cases hA : ad = 0
   ·subst hA
    obtain ⟨d0, d1, d2, d3, d4, d5, d6⟩ := UJ (UB K)
    go_wp2_with fail
    refine (VR _ _ rfl).mono ?_
    first | rw [named_16] | rw [named_49]
    rintro e wq ⟨rfl, rfl⟩
    by_cases hB : to.length = 0
    ·have hB0 : ¬ (0 : Int) < to.length := by omega
     have HB := UC hB
     clear hB
     go_wp2_with fail
     clear d0 d1 d2 d3 d4 d5 d6
     refine (VT _ _ rfl).mono ?_
     first | rw [texted_16] | rw [texted_49]
     rintro e wq ⟨rfl, rfl⟩
     obtain ⟨d0, d1, d2, d3, d4, d5, d6⟩ := UJ (UB K)
     by_cases hC : 40 < tx.length
     ·have hC1 : (40 : Int) < tx.length := by omega
      go_wp2_with fail
      go_ret
      exact ⟨by simp [show ¬ tx.length ≤ 40 by omega], bb⟩
     have hC0 : ¬ (40 : Int) < tx.length := by omega
     go_wp2_with fail
     go_ret
     exact ⟨by simp [nil_of (UB HB), show tx.length ≤ 40 by omega, len0 nu], bb⟩
    ·have hB1 : (0 : Int) < to.length := by omega
     go_wp2_with fail
     go_ret
     exact ⟨by simp [hB], bb⟩
   ·have hA1 : (ad != 0) = true := by rw [bne_iff_ne]; exact hA
    have hA2 : (ad == 0) = false := by rw [beq_eq_false_iff_ne]; exact hA
    have hA3 : decide (ad = 0) = false := decide_eq_false hA
    obtain ⟨d0, d1, d2, d3, d4, d5, d6⟩ := UJ (UB K)
    go_wp2_with fail
    go_ret
    exact ⟨by simp [hA], bb⟩
set_option maxHeartbeats 1000000 in
set_option maxRecDepth 100000 in
theorem l1PickIn_any {g : Nat} {a : Option Addr} {len cap : Nat} {w : World} (gl n : Nat) (p : Int → Prop) (hc : Cur w g a len cap) (hL : Code w g a len) (hm : len ≤ maxLen) (hn0 : 1 ≤ n) (hn1 : n ≤ 1048576) (hlt : gl < w.heap.size) (hgl : g < gl)
  (hcell : ∀ j, j < n → ∃ z, w.cell? ⟨gl, j, none⟩ = some (.int .i64 z) ∧ p z) :
  Calls Tryz.prog 83 #[.pointer (some ⟨g, 0, none⟩), .slice (some ⟨gl, 0, none⟩) n n] w fun e w' => ∃ z, e = .returned (.int .i64 z) ∧ p z ∧ Cur w' g a len cap ∧ w.grownBy w' (some g) := by
 have HM := UC hm
 clear hm
 have HC := UC hcell
 clear hcell
 go_enter Tryz.func83, Tryz.ntmps83
 go_wp2_with fail
 refine (l1Below_any n hc hL (UB HM) (by omega) (by omega)).mono ?_
 rintro e w1 ⟨x, rfl, hx0, hx1, hc1, g1⟩
 obtain ⟨j, rfl⟩ := Int.eq_ofNat_of_zero_le hx0
 obtain ⟨z, hz, hp⟩ := (UB HC) j (by omega)
 have hz1 : w1.cell? ⟨gl, j, none⟩ = some (.int .i64 z) := by
  rw [World.cell?_of_block (w := w) (g1.block gl hlt (by simp; omega))]; exact hz
 have HP := UC hp
 clear hz hp
 go_wp2
 go_ret
 exact ⟨z, rfl, UB HP, hc1, g1⟩
end Go.Proofs.YthobpbnaklnbiaaGreat

namespace Go.Proofs.YthobpbnaklnbiaaGreat
open Go.RowKit

section
variable {P : Program} {ops : Array Oper} {Q : Exit → Act → World → Prop} {md : Region.Mode} {S : World → Prop} {T : Nat → Bool}

def AnyT (P : Program) (md : Region.Mode) (ops : Array Oper) (Q : Exit → Act → World → Prop) (S : World → Prop) (T : Nat → Bool) : Nat → Array Bool → Act → World → Prop
 | 0, done, a, w => Region.ready md ops done = [] ∧ Q .normal a w
 | n + 1, done, a, w => (Region.ready md ops done = [] → Q .normal a w) ∧ ∀ j, j ∈ Region.ready md ops done → wpOp P ops Q j (fun a1 w1 => (T j = true → S w1) ∧ AnyT P md ops Q S T n (done.setIfInBounds j true) a1 w1) a w

theorem AnyT.of_any : ∀ (n : Nat) (done : Array Bool) (a : Act) (w : World), (∀ j, T j = true → done.getD j true = true) → wpAny P md ops Q n done a w → AnyT P md ops Q S T n done a w
 | 0, _, _, _, _, h => h
 | n + 1, done, a, w, hT, h => by
  refine ⟨h.1, fun j hj => wpOp_mono (fun a1 w1 h1 => ⟨fun ht => ?_, AnyT.of_any n _ a1 w1 (fun k hk => ?_) h1⟩) (h.2 j hj)⟩
  ·have := (mem_ready.1 hj).1
   rw [hT j ht] at this
   cases this
  ·by_cases e : j = k
   ·subst e
    by_cases hlt : j < done.size <;> simp [hlt]
   ·rw [getD_set_ne true e]
    exact hT k hk

theorem AnyT.over (n : Nat) (done : Array Bool) (a : Act) (w : World) (hT : (List.range done.size).all (fun j => !T j || done.getD j true) = true) (h : wpAny P md ops Q n done a w) : AnyT P md ops Q S T n done a w := by
 refine AnyT.of_any n done a w (fun j hj => ?_) h
 by_cases hlt : j < done.size
 ·have := List.all_eq_true.1 hT j (by simpa using hlt)
  rw [hj] at this
  simpa using this
 ·simp [hlt]

theorem any_firstT {i : Nat} {oi : Oper} {v : Value} (hi : ops[i]? = some oi) (hsel : ∀ (j : Nat) (o : Oper) cs b, ops[j]? = some o → o.op ≠ .select cs b) (hQ : ∀ c a w, Q (.panic c) (a.put oi.dst v) w → Q (.panic c) a w)
  (hT : ∀ (j : Nat) (oj : Oper), ops[j]? = some oj → j ≠ i → (∀ e ∈ oj.after, Region.binds md e = true → e.on ≠ i) → T j = true) (n : Nat) :
  ∀ (done : Array Bool) (a : Act) (w : World), (∀ j oj, ops[j]? = some oj → j ≠ i → done.getD j true = false → (∀ e ∈ oj.after, Region.binds md e = true → e.on ≠ i) → oi.apart ops oj = true) →
   i ∈ Region.ready md ops done → YieldsIf P ops S oi v a → S w → AnyT P md ops Q S T n (done.setIfInBounds i true) (a.put oi.dst v) w → wpAny P md ops Q (n + 1) done a w := by
 induction n with
 | zero =>
  intro done a w _ hr hy hS H
  refine ⟨fun q => absurd (q ▸ hr) (by simp), fun j hj => ?_⟩
  rcases Decidable.em (j = i) with rfl | hji
  ·exact hy.wpOp hi hS H
  ·have hq := ready_mono hj hji
   rw [H.1] at hq
   exact absurd hq (by simp)
 | succ n ih =>
  intro done a w hfree hr hy hS H
  refine ⟨fun q => absurd (q ▸ hr) (by simp), fun j hj => ?_⟩
  rcases Decidable.em (j = i) with rfl | hji
  ·refine hy.wpOp hi hS ?_
   have strip : ∀ (m : Nat) (d : Array Bool) (a : Act) (w : World), AnyT P md ops Q S T m d a w → wpAny P md ops Q m d a w := by
    intro m
    induction m with
    | zero => intro d a w h; exact h
    | succ m im => intro d a w h; exact ⟨h.1, fun k hk => wpOp_mono (fun a1 w1 h1 => im _ _ _ h1.2) (h.2 k hk)⟩
   exact strip _ _ _ _ H
  ·obtain ⟨hun, oj, hoj, hall⟩ := mem_ready.1 hj
   have hno : ∀ e ∈ oj.after, Region.binds md e = true → e.on ≠ i := by
    intro e he hb q
    have h1 := hall e he hb
    have h0 := (mem_ready.1 hr).1
    rw [q] at h1
    by_cases hlt : i < done.size
    ·simp [hlt] at h0 h1
     rw [h0] at h1
     cases h1
    ·simp [hlt] at h0
   have step := wpOp_putIf hoj (hfree j oj hoj hji hun hno) (fun cs b => hsel i oi cs b hi) (fun cs b => hsel j oj cs b hoj) hQ hy (H.2 j (ready_mono hj hji))
   refine wpOp_mono (fun a1 w1 h1 => ?_) step
   refine ih (done.setIfInBounds j true) a1 w1 (fun k ok hk hki hu hn => hfree k ok hk hki ?_ hn) (ready_mono hr (Ne.symm hji)) h1.1 (h1.2.1 (hT j oj hoj hji hno)) ?_
   ·rcases Decidable.em (j = k) with rfl | hjk
    ·exact hun
    ·rwa [getD_set_ne true hjk] at hu
   ·have e : (done.setIfInBounds j true).setIfInBounds i true = (done.setIfInBounds i true).setIfInBounds j true := Array.setIfInBounds_comm _ _ hji
    rw [e]
    exact h1.2.2

def waits (md : Region.Mode) (ops : Array Oper) (i : Nat) (j : Nat) : Bool := match ops[j]? with
 | some o => o.after.any (fun e => Region.binds md e && (e.on == i))
 | none => false
theorem any_takeT {i : Nat} {oi : Oper} {v : Value} {n : Nat} {done : Array Bool} {a : Act} {w : World} (S : World → Prop) (hi : ops[i]? = some oi) (hs : Region.noSelect ops = true) (hf : Region.free md ops done i = true) (hr : (Region.ready md ops done).contains i = true)
  (hQ : ∀ c a w, Q (.panic c) (a.put oi.dst v) w → Q (.panic c) a w) (hy : YieldsIf P ops S oi v a) (hS : S w)
  (h : AnyT P md ops Q S (fun j => !waits md ops i j) n (done.setIfInBounds i true) (a.put oi.dst v) w) : wpAny P md ops Q (n + 1) done a w := by
 refine any_firstT hi (Region.noSelect_spec hs) hQ (fun j oj hj hji hno => ?_) n done a w (Region.free_spec hi hf) (by simpa using hr) hy hS h
 unfold waits
 rw [hj]
 simp only [Bool.not_eq_true', Array.any_eq_false']
 intro e he q
 simp only [Bool.and_eq_true, beq_iff_eq] at q
 exact hno e he q.1 q.2

def AllT (P : Program) (md : Region.Mode) (ops : Array Oper) (Q : Exit → Act → World → Prop) (S : World → Prop) (T : Nat → Bool) (n : Nat) (done : Array Bool) (a : Act) (w : World) (js : List Nat) : Prop :=
 ∀ j, j ∈ js → wpOp P ops Q j (fun a1 w1 => (T j = true → S w1) ∧ AnyT P md ops Q S T n (done.setIfInBounds j true) a1 w1) a w
theorem AllT.nil {n : Nat} {done : Array Bool} {a : Act} {w : World} : AllT P md ops Q S T n done a w [] := fun _ h => absurd h (by simp)
theorem AllT.cons {n : Nat} {done : Array Bool} {a : Act} {w : World} {j : Nat} {o : Oper} {js : List Nat} (ho : ops[j]? = some o)
  (h : ∀ K : Act → World → Prop, (∀ a1 w1, S w1 → AnyT P md ops Q S T n (done.setIfInBounds j true) a1 w1 → K a1 w1) → if Region.wanted o (yielded ops a.tmps) = true then Oper.wp P o a w K Q else K (a.put o.dst undef) w)
  (hs : AllT P md ops Q S T n done a w js) : AllT P md ops Q S T n done a w (j :: js) := by
 intro k hk
 rcases List.mem_cons.1 hk with rfl | hk
 ·exact wpOp_step ho (fun K hK => h K (fun a1 w1 q1 q2 => hK a1 w1 ⟨fun _ => q1, q2⟩))
 ·exact hs k hk
theorem anyT_ready {n : Nat} {done : Array Bool} {a : Act} {w : World} {js : List Nat} (hr : Region.ready md ops done = js) (hne : js ≠ []) (h : AllT P md ops Q S T n done a w js) : AnyT P md ops Q S T (n + 1) done a w :=
 ⟨fun q => absurd (hr.symm.trans q) hne, fun j hj => h j (hr ▸ hj)⟩
end
end Go.Proofs.YthobpbnaklnbiaaGreat
