/-
  Contracts of the program's RrOk. A region that draws its order, one way through it: what only looks is taken in the order of its number, whether its guard wants it or not. A region that draws its order, taken in the order of its numbers: that this may be is asked once a region. What only hands flags on, or is not wanted, is done in one step.
-/
import Derived.Test.YthmihglfffeedaaDoorRrTextG12
import Derived.Test.YthmihglfffeedaaDoorRrTextG13
import Derived.Test.YthmihglfffeedaaDoorRrTextG03
import Derived.Deep.RegionHeld3
namespace Go.Proofs.YthmihglfffeedaaDoor
open Go.RowKit
set_option linter.unusedVariables false

theorem dataOk_A {nm to : List (List Int)} {tx nu : List Int} {tt ad : Int} : dataOk ⟨nm, 1, tt, ad, to, tx, nu⟩ = (decide (0 ≤ ad ∧ ad ≤ 4294967295) && decide (ad = ad ∧ to.length = 0 ∧ tx.length = 0 ∧ nu.length = 0)) := by
 rw [Bool.eq_iff_iff]
 simp [dataOk, show named 1 = false from rfl, show texted 1 = false from rfl]
theorem dataOk_N {nm to : List (List Int)} {tx nu : List Int} {ty tt ad : Int} (h : ty = 2 ∨ ty = 5 ∨ ty = 12) : dataOk ⟨nm, ty, tt, ad, to, tx, nu⟩ = (nameOk to && decide (ad = 0 ∧ to.length = to.length ∧ tx.length = 0 ∧ nu.length = 0)) := by
 have h1 : named ty = true := decide_eq_true (by omega)
 have h2 : texted ty = false := decide_eq_false (by omega)
 have h3 : ty ≠ 1 := by omega
 have h4 : ty ≠ 6 := by omega
 rw [Bool.eq_iff_iff]
 simp [dataOk, h1, h2, h3, h4]
 constructor
 ·rintro ⟨a, b, c, d⟩; exact ⟨b, a, c, d⟩
 ·rintro ⟨b, a, c, d⟩; exact ⟨a, b, c, d⟩
theorem dataOk_S {nm to : List (List Int)} {tx nu : List Int} {tt ad : Int} : dataOk ⟨nm, 6, tt, ad, to, tx, nu⟩ = ((nameOk to && numsOk nu) && decide (ad = 0 ∧ to.length = to.length ∧ tx.length = 0 ∧ nu.length = nu.length)) := by
 rw [Bool.eq_iff_iff]
 simp [dataOk, show named 6 = true from rfl, show texted 6 = false from rfl, numsOk]
 constructor
 ·rintro ⟨a, b, c, d⟩; exact ⟨⟨b, d⟩, a, c⟩
 ·rintro ⟨⟨b, d⟩, a, c⟩; exact ⟨a, b, c, d⟩
theorem dataOk_X {nm to : List (List Int)} {tx nu : List Int} {ty tt ad : Int} (h : ty = 16 ∨ ty = 49) : dataOk ⟨nm, ty, tt, ad, to, tx, nu⟩ = (decide (tx.length ≤ 40) && decide (ad = 0 ∧ to.length = 0 ∧ tx.length = tx.length ∧ nu.length = 0)) := by
 have h1 : named ty = false := decide_eq_false (by omega)
 have h2 : texted ty = true := decide_eq_true (by omega)
 have h3 : ty ≠ 1 := by omega
 have h4 : ty ≠ 6 := by omega
 rw [Bool.eq_iff_iff]
 simp [dataOk, h1, h2, h3, h4]
 constructor
 ·rintro ⟨a, b, c, d⟩; exact ⟨c, a, b, d⟩
 ·rintro ⟨c, a, b, d⟩; exact ⟨a, b, c, d⟩
theorem kindV_N {ty : Int} (h : ty = 2 ∨ ty = 5 ∨ ty = 12) : kindV ty = .iface 69 (.agg #[.slice none 0 0]) := by
 rcases h with rfl | rfl | rfl <;> rfl
theorem kindV_X {ty : Int} (h : ty = 16 ∨ ty = 49) : kindV ty = .iface 73 (.agg #[.slice none 0 0]) := by
 rcases h with rfl | rfl <;> rfl

set_option maxHeartbeats 1000000 in
set_option maxRecDepth 100000 in
theorem implRrOk_has {vn vt vx vi : Value} {r : Rec} {w : World} (h : HasR w vn vt vx vi r) :
  Calls Tryd.prog 21 #[.agg #[vn, .int .i64 r.type, .int .i64 r.ttl, .int .i64 r.addr, vt, vx, vi]] w fun e w' => e = .returned (.bool (rrOk r)) ∧ Below w.heap.size w w' := by
 obtain ⟨na, nc, rfl, _⟩ := h.name.form
 obtain ⟨ta, tc, rfl, _⟩ := h.to.form
 obtain ⟨xa, xc, rfl, _⟩ := h.text.form
 obtain ⟨ia, ic, rfl, _⟩ := h.nums.form
 have b0 := UI (w := w) (.cells #[.slice na r.name.length nc, .int .i64 r.type, .int .i64 r.ttl, .int .i64 r.addr, .slice ta r.to.length tc, .slice xa r.text.length xc, .slice ia r.nums.length ic] 33)
 have K0 := UC (heap_alloc_new w (.cells #[.slice na r.name.length nc, .int .i64 r.type, .int .i64 r.ttl, .int .i64 r.addr, .slice ta r.to.length tc, .slice xa r.text.length xc, .slice ia r.nums.length ic] 33))
 have H0 := UC (h.below b0)
 cases hN : nameOk r.name with
 | false =>
  have e : rrOk r = false := by unfold rrOk; rw [hN]; rfl
  rw [e]
  have HN := UC hN
  clear hN h e
  go_enter Tryd.func21, Tryd.ntmps21
  go_wp2_with fail
  generalize w.alloc (.cells #[.slice na r.name.length nc, .int .i64 r.type, .int .i64 r.ttl, .int .i64 r.addr, .slice ta r.to.length tc, .slice xa r.text.length xc, .slice ia r.nums.length ic] 33) = W at *
  refine (VP (UB H0).name).mono ?_
  rw [UB HN]
  rintro e w1 ⟨rfl, b1⟩
  go_wp2_with fail
  go_ret
  exact ⟨rfl, UG b0 b1⟩
 | true =>
  cases hT : typeOk r.type with
  | false =>
   have e : rrOk r = false := by unfold rrOk; rw [hN, hT]; rfl
   rw [e]
   have HN := UC hN
   have HT := UC hT
   clear hN hT h e
   go_enter Tryd.func21, Tryd.ntmps21
   go_wp2_with fail
   generalize w.alloc (.cells #[.slice na r.name.length nc, .int .i64 r.type, .int .i64 r.ttl, .int .i64 r.addr, .slice ta r.to.length tc, .slice xa r.text.length xc, .slice ia r.nums.length ic] 33) = W at *
   refine (VP (UB H0).name).mono ?_
   rw [UB HN]
   rintro e w1 ⟨rfl, b1⟩
   obtain ⟨d0, d1, d2, d3, d4, d5, d6⟩ := UJ (UE b1 (UB K0))
   go_wp2_with fail
   refine (implTypeOk_any r.type _).mono ?_
   rw [UB HT]
   rintro e w2 ⟨rfl, rfl⟩
   go_wp2_with fail
   go_ret
   exact ⟨rfl, UG b0 b1⟩
  | true =>
   by_cases ht : 0 ≤ r.ttl ∧ r.ttl ≤ 100000
   ·have e : rrOk r = dataOk r := by unfold rrOk; rw [hN, hT, decide_eq_true ht]; rfl
    rw [e]
    clear b0 K0 H0 e
    obtain ⟨nm, ty, tt, ad, to, tx, nu⟩ := r
    simp only at *
    rcases type_cases ty with rfl | rfl | rfl | rfl | rfl | rfl | rfl | h0
    ·rw [dataOk_A]
     cases hD : decide (0 ≤ ad ∧ ad ≤ 4294967295) with
     | true => rw [Bool.true_and]; exact rrOkData_A_true h hN ht.1 ht.2 hD
     | false => rw [Bool.false_and]; exact rrOkData_A_false h hN ht.1 ht.2 hD
    ·rw [dataOk_N (by omega)]
     cases hD : nameOk to with
     | true => rw [Bool.true_and]; exact rrOkData_N_true (kindV_N (by omega)) hT h hN ht.1 ht.2 hD
     | false => rw [Bool.false_and]; exact rrOkData_N_false (kindV_N (by omega)) hT h hN ht.1 ht.2 hD
    ·rw [dataOk_N (by omega)]
     cases hD : nameOk to with
     | true => rw [Bool.true_and]; exact rrOkData_N_true (kindV_N (by omega)) hT h hN ht.1 ht.2 hD
     | false => rw [Bool.false_and]; exact rrOkData_N_false (kindV_N (by omega)) hT h hN ht.1 ht.2 hD
    ·rw [dataOk_S]
     cases hD : (nameOk to && numsOk nu) with
     | true => rw [Bool.true_and]; exact rrOkData_S_true h hN ht.1 ht.2 hD
     | false => rw [Bool.false_and]; exact rrOkData_S_false h hN ht.1 ht.2 hD
    ·rw [dataOk_N (by omega)]
     cases hD : nameOk to with
     | true => rw [Bool.true_and]; exact rrOkData_N_true (kindV_N (by omega)) hT h hN ht.1 ht.2 hD
     | false => rw [Bool.false_and]; exact rrOkData_N_false (kindV_N (by omega)) hT h hN ht.1 ht.2 hD
    ·rw [dataOk_X (by omega)]
     cases hD : decide (tx.length ≤ 40) with
     | true => rw [Bool.true_and]; exact rrOkData_X_true (kindV_X (by omega)) hT h hN ht.1 ht.2 hD
     | false => rw [Bool.false_and]; exact rrOkData_X_false (kindV_X (by omega)) hT h hN ht.1 ht.2 hD
    ·rw [dataOk_X (by omega)]
     cases hD : decide (tx.length ≤ 40) with
     | true => rw [Bool.true_and]; exact rrOkData_X_true (kindV_X (by omega)) hT h hN ht.1 ht.2 hD
     | false => rw [Bool.false_and]; exact rrOkData_X_false (kindV_X (by omega)) hT h hN ht.1 ht.2 hD
    ·rw [hT] at h0; cases h0
   ·have e : rrOk r = false := by unfold rrOk; rw [hN, hT, decide_eq_false ht]; rfl
    rw [e]
    have HN := UC hN
    have HT := UC hT
    have hno : r.ttl < 0 ∨ 100000 < r.ttl := by omega
    have HNO := UC hno
    clear hN hT h e hno ht
    go_enter Tryd.func21, Tryd.ntmps21
    go_wp2_with fail
    generalize w.alloc (.cells #[.slice na r.name.length nc, .int .i64 r.type, .int .i64 r.ttl, .int .i64 r.addr, .slice ta r.to.length tc, .slice xa r.text.length xc, .slice ia r.nums.length ic] 33) = W at *
    refine (VP (UB H0).name).mono ?_
    rw [UB HN]
    rintro e w1 ⟨rfl, b1⟩
    obtain ⟨d0, d1, d2, d3, d4, d5, d6⟩ := UJ (UE b1 (UB K0))
    go_wp2_with fail
    refine (implTypeOk_any r.type _).mono ?_
    rw [UB HT]
    rintro e w2 ⟨rfl, rfl⟩
    go_wp2_with fail
    refine (upTo_no _ (UB HNO)).mono ?_
    rintro e w2 ⟨rfl, rfl⟩
    go_wp2_with fail
    go_ret
    exact ⟨rfl, UG b0 b1⟩
section
variable {P : Program} {ops : Array Oper} {Q : Exit → Act → World → Prop} {md : Region.Mode} {S : World → Prop}
theorem UY {i : Nat} {oi : Oper} {rest : List Oper} (hi : ops.toList.drop i = oi :: rest) : ops[i]? = some oi := by
 rw [← Array.getElem?_toList, ← List.head?_drop, hi]
 rfl
end
def flagF : Value → Option Bool
 | .bool b => some b
 | _ => none
def valF : Option Bool → Value
 | some b => .bool b
 | none => undef
def lookF (tm : Array Value) : List (Nat × Option Bool) → Nat → Option Bool
 | [], d => match tm[d]? with | some v => flagF v | none => none
 | (e, b) :: m, d => if Nat.beq e d then b else lookF tm m d
def FlagsF (tm : Array Value) (m : List (Nat × Option Bool)) (tm' : Array Value) : Prop := tm'.size = tm.size ∧ ∀ d, lookF tm m d = match tm'[d]? with | some v => flagF v | none => none
theorem FlagsF.nil (tm : Array Value) : FlagsF tm [] tm := ⟨rfl, fun d => rfl⟩
theorem flagF_val (b : Option Bool) : flagF (valF b) = b := by rcases b with _ | b <;> rfl
theorem FlagsF.cons {tm tm' : Array Value} {m : List (Nat × Option Bool)} (h : FlagsF tm m tm') {d : Nat} (hd : d < tm.size) (b : Option Bool) :
  FlagsF tm ((d, b) :: m) (tm'.setIfInBounds d (valF b)) := by
 refine ⟨by rw [Array.size_setIfInBounds]; exact h.1, fun e => ?_⟩
 simp only [lookF]
 by_cases q : d = e
 ·subst q
  rw [if_pos (Nat.beq_refl d), Array.getElem?_setIfInBounds_self_of_lt (by rw [h.1]; exact hd)]
  exact (flagF_val b).symm
 ·rw [if_neg (by rw [Nat.beq_eq]; exact q), Array.getElem?_setIfInBounds_ne q]
  exact h.2 e
def callsA : Op → Bool
 | .call c => match c.callee with | .builtin _ => false | _ => true
 | _ => false
def upA (i n : Nat) : Array Bool := ((List.range n).map (fun j => decide (j < i))).toArray
theorem upA_get {i n j : Nat} {d : Bool} (hj : j < n) : (upA i n).getD j d = decide (j < i) := by
 unfold upA
 simp [Array.getD_eq_getD_getElem?, hj]
theorem upA_out {i n j : Nat} {d : Bool} (hj : n ≤ j) : (upA i n).getD j d = d := by
 unfold upA
 simp [Array.getD_eq_getD_getElem?, hj]
def ascL (md : Region.Mode) (ops : Array Oper) : Nat → List Oper → Bool
 | _, [] => true
 | i, oi :: rest => oi.after.all (fun e => !Region.binds md e || Nat.blt e.on i) && (rest.all (fun oj => oj.after.any (fun e => Region.binds md e && Nat.beq e.on i) || oi.apart ops oj) && ascL md ops (i + 1) rest)
def soleL (md : Region.Mode) (i : Nat) (l : List Oper) : Bool := l.all (fun oj => oj.after.any (fun e => Region.binds md e && Nat.ble i e.on))
structure AscA (md : Region.Mode) (ops : Array Oper) : Prop where
 sel : Region.noSelect ops = true
 asc : ascL md ops 0 ops.toList = true
theorem ascL_drop {md : Region.Mode} {ops : Array Oper} : ∀ (l : List Oper) (k i : Nat), ascL md ops k l = true → ascL md ops (k + i) (l.drop i) = true
 | l, k, 0, h => h
 | [], k, i + 1, h => rfl
 | o :: l, k, i + 1, h => by
  unfold ascL at h
  simp only [Bool.and_eq_true] at h
  have := ascL_drop l (k + 1) i h.2.2
  rwa [Nat.add_assoc, Nat.add_comm 1 i] at this
section
variable {P : Program} {ops : Array Oper} {Q : Exit → Act → World → Prop} {md : Region.Mode} {S : World → Prop}
theorem size_of_drop {i : Nat} {oi : Oper} {rest : List Oper} (hi : ops.toList.drop i = oi :: rest) : i < ops.size := by
 have := congrArg List.length hi
 simp only [List.length_drop, List.length_cons, Array.length_toList] at this
 omega
theorem AscA.at_ (h : AscA md ops) {i : Nat} {oi : Oper} {rest : List Oper} (hi : ops.toList.drop i = oi :: rest) :
  (∀ e ∈ oi.after, Region.binds md e = true → e.on < i) ∧ ∀ (j : Nat) (oj : Oper), i < j → ops[j]? = some oj → (∃ e ∈ oj.after, Region.binds md e = true ∧ e.on = i) ∨ oi.apart ops oj = true := by
 have h2 := ascL_drop ops.toList 0 i h.asc
 rw [hi, Nat.zero_add] at h2
 unfold ascL at h2
 simp only [Bool.and_eq_true, Array.all_eq_true', Bool.or_eq_true, Bool.not_eq_true', List.all_eq_true] at h2
 refine ⟨fun e he hb => ?_, fun j oj hij hj => ?_⟩
 ·rcases h2.1 e he with q | q
  ·rw [hb] at q; cases q
  ·simpa [Nat.blt_eq] using q
 ·have hm : oj ∈ rest := by
   have e1 : ops.toList[j]? = some oj := by rw [Array.getElem?_toList]; exact hj
   obtain ⟨k, rfl⟩ : ∃ k, j = i + 1 + k := ⟨j - (i + 1), by omega⟩
   have e2 : (ops.toList.drop i)[k + 1]? = some oj := by rw [List.getElem?_drop, show i + (k + 1) = i + 1 + k by omega]; exact e1
   rw [hi, List.getElem?_cons_succ] at e2
   exact List.mem_of_getElem? e2
  rcases h2.2.1 oj hm with q | q
  ·obtain ⟨e, he, hb⟩ := Array.any_eq_true'.1 q
   simp only [Bool.and_eq_true] at hb
   exact .inl ⟨e, he, hb.1, Nat.eq_of_beq_eq_true hb.2⟩
  ·exact .inr q
theorem AscA.free (h : AscA md ops) {i : Nat} {oi : Oper} {rest : List Oper} (hi : ops.toList.drop i = oi :: rest) : Region.free md ops (upA i ops.size) i = true := by
 unfold Region.free
 rw [UY hi]
 simp only [List.all_eq_true, List.mem_range, Bool.or_eq_true]
 intro j hj
 by_cases q : j ≤ i
 ·by_cases e : j = i
  ·exact .inl (.inl (by simpa using e))
  ·refine .inl (.inr ?_)
   rw [upA_get hj]
   exact decide_eq_true (by omega)
 ·obtain ⟨oj, hoj⟩ : ∃ oj, ops[j]? = some oj := ⟨ops[j], by simp [hj]⟩
  rw [hoj]
  simp only [Bool.or_eq_true]
  refine .inr ?_
  rcases (h.at_ hi).2 j oj (by omega) hoj with ⟨e, he, hb, hon⟩ | q
  ·exact .inl (Array.any_eq_true'.2 ⟨e, he, by rw [hb, hon]; simp⟩)
  ·exact .inr q
theorem AscA.ready_at (h : AscA md ops) {i : Nat} {oi : Oper} {rest : List Oper} (hi : ops.toList.drop i = oi :: rest) {j : Nat} : j ∈ Region.ready md ops (upA i ops.size) ↔
  j < ops.size ∧ i ≤ j ∧ ∀ oj, ops[j]? = some oj → ∀ e ∈ oj.after, Region.binds md e = true → e.on < i := by
 have hin := size_of_drop hi
 unfold Region.ready
 simp only [List.mem_filter, List.mem_range, Bool.and_eq_true, Bool.not_eq_true']
 constructor
 ·rintro ⟨hj, h1, h2⟩
  rw [upA_get hj] at h1
  refine ⟨hj, by simpa using h1, fun oj hoj e he hb => ?_⟩
  rw [hoj] at h2
  simp only [Option.map_some, Option.getD_some, Array.all_eq_true', Bool.or_eq_true, Bool.not_eq_true'] at h2
  rcases h2 e he with q | q
  ·rw [hb] at q; cases q
  ·by_cases hs : e.on < ops.size
   ·rw [upA_get hs] at q
    exact of_decide_eq_true q
   ·rw [upA_out (by omega)] at q
    cases q
 ·rintro ⟨hj, h1, h2⟩
  refine ⟨hj, by rw [upA_get hj]; exact decide_eq_false (by omega), ?_⟩
  have hoj : ops[j]? = some ops[j] := by simp [hj]
  rw [hoj]
  simp only [Option.map_some, Option.getD_some, Array.all_eq_true', Bool.or_eq_true, Bool.not_eq_true']
  intro e he
  by_cases hb : Region.binds md e = true
  ·refine .inr ?_
   have := h2 _ hoj e he hb
   rw [upA_get (by omega)]
   exact decide_eq_true this
  ·exact .inl (by simpa using hb)
theorem AscA.ready (h : AscA md ops) {i : Nat} {oi : Oper} {rest : List Oper} (hi : ops.toList.drop i = oi :: rest) : (Region.ready md ops (upA i ops.size)).contains i = true := by
 rw [List.contains_iff_mem]
 exact (h.ready_at hi).2 ⟨size_of_drop hi, Nat.le_refl _, fun oj hoj => by rw [UY hi] at hoj; cases hoj; exact (h.at_ hi).1⟩
theorem filter_one {p : Nat → Bool} {n i : Nat} (hi : i < n) (hp : p i = true) (hn : ∀ j, j < n → j ≠ i → p j = false) : (List.range n).filter p = [i] := by
 induction n with
 | zero => omega
 | succ n ih =>
  rw [List.range_succ, List.filter_append]
  by_cases e : i = n
  ·subst e
   rw [List.filter_eq_nil_iff.2 (fun j hj => by rw [hn j (by have := List.mem_range.1 hj; omega) (by have := List.mem_range.1 hj; omega)]; simp)]
   simp [hp]
  ·rw [ih (by omega) (fun j hj hne => hn j (by omega) hne)]
   simp [hn n (by omega) (by omega)]
theorem AscA.sole (h : AscA md ops) {i : Nat} {oi : Oper} {rest : List Oper} (hi : ops.toList.drop i = oi :: rest) (hs : soleL md i rest = true) : Region.ready md ops (upA i ops.size) = [i] := by
 have hin := size_of_drop hi
 have hm := h.ready hi
 rw [List.contains_iff_mem] at hm
 have hnot : ∀ j, j ≠ i → j ∉ Region.ready md ops (upA i ops.size) := fun j hne hj => by
  obtain ⟨hj1, hj2, hj3⟩ := (h.ready_at hi).1 hj
  have hoj : ops[j]? = some ops[j] := by simp [hj1]
  have hmem : ops[j] ∈ rest := by
   obtain ⟨k, rfl⟩ : ∃ k, j = i + 1 + k := ⟨j - (i + 1), by omega⟩
   have e2 : (ops.toList.drop i)[k + 1]? = some ops[i + 1 + k] := by rw [List.getElem?_drop, show i + (k + 1) = i + 1 + k by omega, Array.getElem?_toList]; exact hoj
   rw [hi, List.getElem?_cons_succ] at e2
   exact List.mem_of_getElem? e2
  unfold soleL at hs
  rw [List.all_eq_true] at hs
  obtain ⟨e, he, hb⟩ := Array.any_eq_true'.1 (hs _ hmem)
  simp only [Bool.and_eq_true] at hb
  have := hj3 _ hoj e he hb.1
  have := Nat.le_of_ble_eq_true hb.2
  omega
 have hx : ∀ j, j ∈ Region.ready md ops (upA i ops.size) → j = i := fun j hj => Classical.byContradiction (fun q => hnot j q hj)
 unfold Region.ready at hm hx ⊢
 refine filter_one hin (List.mem_filter.1 hm).2 (fun j hj hne => ?_)
 rw [Bool.eq_false_iff]
 intro q
 exact hne (hx j (List.mem_filter.2 ⟨List.mem_range.2 hj, q⟩))
end
end Go.Proofs.YthmihglfffeedaaDoor
