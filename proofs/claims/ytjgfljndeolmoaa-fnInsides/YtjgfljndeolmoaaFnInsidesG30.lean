/-
  Contracts of the program's RrOk. Contract of the program's listOk of records.
-/
import Derived.Test.YtjgfljndeolmoaaFnInsidesG28
import Derived.Test.YtjgfljndeolmoaaFnInsidesG29
import Derived.Test.YtjgfljndeolmoaaFnInsidesG25
namespace Go.Proofs.Ytjgfljndeolmoaa
open Go.RowKit
set_option linter.unusedVariables false

theorem dataOk_A {nm to : List (List Int)} {tx nu : List Int} {tt ad : Int} : dataOk ⟨nm, 1, tt, ad, to, tx, nu⟩ = (decide (0 ≤ ad ∧ ad ≤ 4294967295) && decide (ad = ad ∧ to.length = 0 ∧ tx.length = 0 ∧ nu.length = 0)) := by
 rw [Bool.eq_iff_iff]
 simp [dataOk, show named 1 = false from rfl, show texted 1 = false from rfl]
theorem dataOk_N {nm to : List (List Int)} {tx nu : List Int} {ty tt ad : Int} (h : ty = 2 ∨ ty = 5 ∨ ty = 12) : dataOk ⟨nm, ty, tt, ad, to, tx, nu⟩ = (nameOk to && decide (ad = 0 ∧ to.length = to.length ∧ tx.length = 0 ∧ nu.length = 0)) := by
 have h1 : named ty = true := decide_eq_true (by omega)
 have h2 : texted ty = false := decide_eq_false (by omega)
 have h3 : ty ≠ 1 := by omega
 have h4 : ty ≠ 6 := by omega
 rw [Bool.eq_iff_iff]
 simp [dataOk, h1, h2, h3, h4]
 constructor
 ·rintro ⟨a, b, c, d⟩; exact ⟨b, a, c, d⟩
 ·rintro ⟨b, a, c, d⟩; exact ⟨a, b, c, d⟩
theorem dataOk_S {nm to : List (List Int)} {tx nu : List Int} {tt ad : Int} : dataOk ⟨nm, 6, tt, ad, to, tx, nu⟩ = ((nameOk to && numsOk nu) && decide (ad = 0 ∧ to.length = to.length ∧ tx.length = 0 ∧ nu.length = nu.length)) := by
 rw [Bool.eq_iff_iff]
 simp [dataOk, show named 6 = true from rfl, show texted 6 = false from rfl, numsOk]
 constructor
 ·rintro ⟨a, b, c, d⟩; exact ⟨⟨b, d⟩, a, c⟩
 ·rintro ⟨⟨b, d⟩, a, c⟩; exact ⟨a, b, c, d⟩
theorem dataOk_X {nm to : List (List Int)} {tx nu : List Int} {ty tt ad : Int} (h : ty = 16 ∨ ty = 49) : dataOk ⟨nm, ty, tt, ad, to, tx, nu⟩ = (decide (tx.length ≤ 40) && decide (ad = 0 ∧ to.length = 0 ∧ tx.length = tx.length ∧ nu.length = 0)) := by
 have h1 : named ty = false := decide_eq_false (by omega)
 have h2 : texted ty = true := decide_eq_true (by omega)
 have h3 : ty ≠ 1 := by omega
 have h4 : ty ≠ 6 := by omega
 rw [Bool.eq_iff_iff]
 simp [dataOk, h1, h2, h3, h4]
 constructor
 ·rintro ⟨a, b, c, d⟩; exact ⟨c, a, b, d⟩
 ·rintro ⟨c, a, b, d⟩; exact ⟨a, b, c, d⟩
theorem kindV_N {ty : Int} (h : ty = 2 ∨ ty = 5 ∨ ty = 12) : kindV ty = .iface 134 (.agg #[.slice none 0 0]) := by
 rcases h with rfl | rfl | rfl <;> rfl
theorem kindV_X {ty : Int} (h : ty = 16 ∨ ty = 49) : kindV ty = .iface 138 (.agg #[.slice none 0 0]) := by
 rcases h with rfl | rfl <;> rfl

set_option maxHeartbeats 1000000 in
set_option maxRecDepth 100000 in
theorem implRrOk_has {vn vt vx vi : Value} {r : Rec} {w : World} (h : HasR w vn vt vx vi r) :
  Calls Try.prog 45 #[.agg #[vn, .int .i64 r.type, .int .i64 r.ttl, .int .i64 r.addr, vt, vx, vi]] w fun e w' => e = .returned (.bool (rrOk r)) ∧ Below w.heap.size w w' := by
 obtain ⟨na, nc, rfl, _⟩ := h.name.form
 obtain ⟨ta, tc, rfl, _⟩ := h.to.form
 obtain ⟨xa, xc, rfl, _⟩ := h.text.form
 obtain ⟨ia, ic, rfl, _⟩ := h.nums.form
 have b0 := below_alloc (w := w) (.cells #[.slice na r.name.length nc, .int .i64 r.type, .int .i64 r.ttl, .int .i64 r.addr, .slice ta r.to.length tc, .slice xa r.text.length xc, .slice ia r.nums.length ic] 34)
 have K0 := hide (heap_alloc_new w (.cells #[.slice na r.name.length nc, .int .i64 r.type, .int .i64 r.ttl, .int .i64 r.addr, .slice ta r.to.length tc, .slice xa r.text.length xc, .slice ia r.nums.length ic] 34))
 have H0 := hide (h.below b0)
 cases hN : nameOk r.name with
 | false =>
  have e : rrOk r = false := by unfold rrOk; rw [hN]; rfl
  rw [e]
  have HN := hide hN
  clear hN h e
  go_enter Try.func45, Try.ntmps45
  go_wp2_with fail
  generalize w.alloc (.cells #[.slice na r.name.length nc, .int .i64 r.type, .int .i64 r.ttl, .int .i64 r.addr, .slice ta r.to.length tc, .slice xa r.text.length xc, .slice ia r.nums.length ic] 34) = W at *
  refine (implNameOk_has (unhide H0).name).mono ?_
  rw [unhide HN]
  rintro e w1 ⟨rfl, b1⟩
  go_wp2_with fail
  go_ret
  exact ⟨rfl, below_next b0 b1⟩
 | true =>
  cases hT : typeOk r.type with
  | false =>
   have e : rrOk r = false := by unfold rrOk; rw [hN, hT]; rfl
   rw [e]
   have HN := hide hN
   have HT := hide hT
   clear hN hT h e
   go_enter Try.func45, Try.ntmps45
   go_wp2_with fail
   generalize w.alloc (.cells #[.slice na r.name.length nc, .int .i64 r.type, .int .i64 r.ttl, .int .i64 r.addr, .slice ta r.to.length tc, .slice xa r.text.length xc, .slice ia r.nums.length ic] 34) = W at *
   refine (implNameOk_has (unhide H0).name).mono ?_
   rw [unhide HN]
   rintro e w1 ⟨rfl, b1⟩
   obtain ⟨d0, d1, d2, d3, d4, d5, d6⟩ := cells7 (block_kept b1 (unhide K0))
   go_wp2_with fail
   refine (implTypeOk_any r.type _).mono ?_
   rw [unhide HT]
   rintro e w2 ⟨rfl, rfl⟩
   go_wp2_with fail
   go_ret
   exact ⟨rfl, below_next b0 b1⟩
  | true =>
   by_cases ht : 0 ≤ r.ttl ∧ r.ttl ≤ 100000
   ·have e : rrOk r = dataOk r := by unfold rrOk; rw [hN, hT, decide_eq_true ht]; rfl
    rw [e]
    clear b0 K0 H0 e
    obtain ⟨nm, ty, tt, ad, to, tx, nu⟩ := r
    simp only at *
    rcases type_cases ty with rfl | rfl | rfl | rfl | rfl | rfl | rfl | h0
    ·rw [dataOk_A]
     cases hD : decide (0 ≤ ad ∧ ad ≤ 4294967295) with
     | true => rw [Bool.true_and]; exact rrOkData_A_true h hN ht.1 ht.2 hD
     | false => rw [Bool.false_and]; exact rrOkData_A_false h hN ht.1 ht.2 hD
    ·rw [dataOk_N (by omega)]
     cases hD : nameOk to with
     | true => rw [Bool.true_and]; exact rrOkData_N_true (kindV_N (by omega)) hT h hN ht.1 ht.2 hD
     | false => rw [Bool.false_and]; exact rrOkData_N_false (kindV_N (by omega)) hT h hN ht.1 ht.2 hD
    ·rw [dataOk_N (by omega)]
     cases hD : nameOk to with
     | true => rw [Bool.true_and]; exact rrOkData_N_true (kindV_N (by omega)) hT h hN ht.1 ht.2 hD
     | false => rw [Bool.false_and]; exact rrOkData_N_false (kindV_N (by omega)) hT h hN ht.1 ht.2 hD
    ·rw [dataOk_S]
     cases hD : (nameOk to && numsOk nu) with
     | true => rw [Bool.true_and]; exact rrOkData_S_true h hN ht.1 ht.2 hD
     | false => rw [Bool.false_and]; exact rrOkData_S_false h hN ht.1 ht.2 hD
    ·rw [dataOk_N (by omega)]
     cases hD : nameOk to with
     | true => rw [Bool.true_and]; exact rrOkData_N_true (kindV_N (by omega)) hT h hN ht.1 ht.2 hD
     | false => rw [Bool.false_and]; exact rrOkData_N_false (kindV_N (by omega)) hT h hN ht.1 ht.2 hD
    ·rw [dataOk_X (by omega)]
     cases hD : decide (tx.length ≤ 40) with
     | true => rw [Bool.true_and]; exact rrOkData_X_true (kindV_X (by omega)) hT h hN ht.1 ht.2 hD
     | false => rw [Bool.false_and]; exact rrOkData_X_false (kindV_X (by omega)) hT h hN ht.1 ht.2 hD
    ·rw [dataOk_X (by omega)]
     cases hD : decide (tx.length ≤ 40) with
     | true => rw [Bool.true_and]; exact rrOkData_X_true (kindV_X (by omega)) hT h hN ht.1 ht.2 hD
     | false => rw [Bool.false_and]; exact rrOkData_X_false (kindV_X (by omega)) hT h hN ht.1 ht.2 hD
    ·rw [hT] at h0; cases h0
   ·have e : rrOk r = false := by unfold rrOk; rw [hN, hT, decide_eq_false ht]; rfl
    rw [e]
    have HN := hide hN
    have HT := hide hT
    have hno : r.ttl < 0 ∨ 100000 < r.ttl := by omega
    have HNO := hide hno
    clear hN hT h e hno ht
    go_enter Try.func45, Try.ntmps45
    go_wp2_with fail
    generalize w.alloc (.cells #[.slice na r.name.length nc, .int .i64 r.type, .int .i64 r.ttl, .int .i64 r.addr, .slice ta r.to.length tc, .slice xa r.text.length xc, .slice ia r.nums.length ic] 34) = W at *
    refine (implNameOk_has (unhide H0).name).mono ?_
    rw [unhide HN]
    rintro e w1 ⟨rfl, b1⟩
    obtain ⟨d0, d1, d2, d3, d4, d5, d6⟩ := cells7 (block_kept b1 (unhide K0))
    go_wp2_with fail
    refine (implTypeOk_any r.type _).mono ?_
    rw [unhide HT]
    rintro e w2 ⟨rfl, rfl⟩
    go_wp2_with fail
    refine (upTo_no _ (unhide HNO)).mono ?_
    rintro e w2 ⟨rfl, rfl⟩
    go_wp2_with fail
    go_ret
    exact ⟨rfl, below_next b0 b1⟩
end Go.Proofs.Ytjgfljndeolmoaa

namespace Go.Proofs.Ytjgfljndeolmoaa
open Go.RowKit
set_option linter.unusedVariables false

set_option maxHeartbeats 1000000 in
set_option maxRecDepth 100000 in
theorem listOkRr_has {v : Value} {l : List Rec} {w : World} (h : HasRs w v l) :
  Calls Try.prog 44 #[v, .func (Fn.func 45) #[] #[]] w fun e w' => e = .returned (.bool (rrsOk l)) ∧ Below w.heap.size w w' := by
 obtain ⟨a, cap, rfl, hl, hm⟩ := h.form
 unfold rrsOk maxLen at *
 have HA := hide (all_of (p := rrOk) l recZ)
 have HB := hide (fun k (hk : k < l.length) (hp : rrOk (l.getD k recZ) = false) => all_not (p := rrOk) l recZ hk hp)
 by_cases h12 : l.length ≤ 12
 ·rw [decide_eq_true h12, Bool.true_and]
  generalize l.all rrOk = R at *
  generalize hn : l.length = m at *
  have HN := hide hn
  have H := hide h
  clear hn h
  go_enter Try.func44, Try.ntmps44
  go_wp2
  go_loopw [12] (fun i wr => ∃ k : Nat, k ≤ m ∧ i = .int .i64 k ∧ Hid (∀ j, j < k → rrOk (l.getD j recZ) = true) ∧ Below w.heap.size w wr) (fun i _ => m - (intOf i).toNat)
  case atStart => exact ⟨0, Nat.zero_le _, rfl, hide (fun j hj => absurd hj (Nat.not_lt_zero _)), Below.refl _ _⟩
  case round =>
   obtain ⟨k, hk, rfl, hall, hb⟩ := hrel
   by_cases hlt : k < m
   ·obtain ⟨b, off, na, nc, ta, tc, xa, xc, ia, ic, rfl, hbl, hc, hu⟩ := ((unhide H).below hb).here (k := k) (by rw [unhide HN]; exact hlt)
    have hbk := unhide HB k hlt
    have HBK := hide hbk
    have hone := hide (fun (hs : rrOk (l.getD k recZ) = true) => (show ∀ j, j < k + 1 → rrOk (l.getD j recZ) = true from fun j hj => by
      by_cases e : j = k
      ·subst e; exact hs
      ·exact unhide hall j (by omega)))
    clear hbk
    generalize l.getD k recZ = rk at *
    have bA := fun o => below_alloc (w := wr) o
    have HC := hide (fun o => implRrOk_has (hu.below (below_alloc (w := wr) o)))
    obtain ⟨c0, c1, c2, c3, c4, c5, c6⟩ := range7 hc
    clear hc hu
    cases hp : rrOk rk with
    | true =>
     have HC' := unhide HC
     rw [show rrOk rk = true from hp] at HC'
     replace HC := hide HC'
     clear HC'
     go_wp2_with fail
     refine (unhide HC _).mono ?_
     rintro e w1 ⟨rfl, b1⟩
     clear c0 c1 c2 c3 c4 c5 c6
     have b2 := below_next (below_next hb (bA _)) b1
     clear b1 bA
     go_wp2_with fail
     exact ⟨⟨k + 1, by omega, by go_num, hide (unhide hone hp), b2⟩, by simp [intOf]; omega⟩
    | false =>
     have HC' := unhide HC
     rw [show rrOk rk = false from hp] at HC'
     replace HC := hide HC'
     clear HC'
     have hR := unhide HBK hp
     subst hR
     go_wp2_with fail
     refine (unhide HC _).mono ?_
     rintro e w1 ⟨rfl, b1⟩
     clear c0 c1 c2 c3 c4 c5 c6
     have b2 := below_next (below_next hb (bA _)) b1
     clear b1 bA
     go_wp2_with fail
     go_ret
     exact ⟨rfl, b2⟩
   ·obtain rfl : k = m := by omega
    have hR := unhide HA (unhide hall)
    subst hR
    go_wp2
    go_ret
    exact ⟨rfl, hb⟩
 ·rw [decide_eq_false h12, Bool.false_and]
  clear HA HB h
  generalize l.length = m at *
  go_enter Try.func44, Try.ntmps44
  go_wp2
  go_ret
  exact ⟨rfl, Below.refl _ _⟩
end Go.Proofs.Ytjgfljndeolmoaa
