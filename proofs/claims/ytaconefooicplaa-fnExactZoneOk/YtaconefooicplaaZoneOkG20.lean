/-
  Contracts of the program's RrOk. Contracts of the library's bytes.Compare and cmp.Compare at int.
-/
import Derived.Test.YtaconefooicplaaZoneOkG18
import Derived.Test.YtaconefooicplaaZoneOkG19
import Derived.Test.YtaconefooicplaaZoneOkG06
import Derived.Test.YtaconefooicplaaZoneOkG12
namespace Go.Proofs.Ytaconefooicplaa
open Go.RowKit
set_option linter.unusedVariables false

theorem dataOk_A {nm to : List (List Int)} {tx nu : List Int} {tt ad : Int} : dataOk ⟨nm, 1, tt, ad, to, tx, nu⟩ = (decide (0 ≤ ad ∧ ad ≤ 4294967295) && decide (ad = ad ∧ to.length = 0 ∧ tx.length = 0 ∧ nu.length = 0)) := by
  rw [Bool.eq_iff_iff]
  simp [dataOk, show named 1 = false from rfl, show texted 1 = false from rfl]
theorem dataOk_N {nm to : List (List Int)} {tx nu : List Int} {ty tt ad : Int} (h : ty = 2 ∨ ty = 5 ∨ ty = 12) : dataOk ⟨nm, ty, tt, ad, to, tx, nu⟩ = (nameOk to && decide (ad = 0 ∧ to.length = to.length ∧ tx.length = 0 ∧ nu.length = 0)) := by
  have h1 : named ty = true := decide_eq_true (by omega)
  have h2 : texted ty = false := decide_eq_false (by omega)
  have h3 : ty ≠ 1 := by omega
  have h4 : ty ≠ 6 := by omega
  rw [Bool.eq_iff_iff]
  simp [dataOk, h1, h2, h3, h4]
  constructor
  · rintro ⟨a, b, c, d⟩; exact ⟨b, a, c, d⟩
  · rintro ⟨b, a, c, d⟩; exact ⟨a, b, c, d⟩
theorem dataOk_S {nm to : List (List Int)} {tx nu : List Int} {tt ad : Int} : dataOk ⟨nm, 6, tt, ad, to, tx, nu⟩ = ((nameOk to && numsOk nu) && decide (ad = 0 ∧ to.length = to.length ∧ tx.length = 0 ∧ nu.length = nu.length)) := by
  rw [Bool.eq_iff_iff]
  simp [dataOk, show named 6 = true from rfl, show texted 6 = false from rfl, numsOk]
  constructor
  · rintro ⟨a, b, c, d⟩; exact ⟨⟨b, d⟩, a, c⟩
  · rintro ⟨⟨b, d⟩, a, c⟩; exact ⟨a, b, c, d⟩
theorem dataOk_X {nm to : List (List Int)} {tx nu : List Int} {ty tt ad : Int} (h : ty = 16 ∨ ty = 49) : dataOk ⟨nm, ty, tt, ad, to, tx, nu⟩ = (decide (tx.length ≤ 40) && decide (ad = 0 ∧ to.length = 0 ∧ tx.length = tx.length ∧ nu.length = 0)) := by
  have h1 : named ty = false := decide_eq_false (by omega)
  have h2 : texted ty = true := decide_eq_true (by omega)
  have h3 : ty ≠ 1 := by omega
  have h4 : ty ≠ 6 := by omega
  rw [Bool.eq_iff_iff]
  simp [dataOk, h1, h2, h3, h4]
  constructor
  · rintro ⟨a, b, c, d⟩; exact ⟨c, a, b, d⟩
  · rintro ⟨c, a, b, d⟩; exact ⟨a, b, c, d⟩
theorem kindV_N {ty : Int} (h : ty = 2 ∨ ty = 5 ∨ ty = 12) : kindV ty = .iface 119 (.agg #[.slice none 0 0]) := by
  rcases h with rfl | rfl | rfl <;> rfl
theorem kindV_X {ty : Int} (h : ty = 16 ∨ ty = 49) : kindV ty = .iface 123 (.agg #[.slice none 0 0]) := by
  rcases h with rfl | rfl <;> rfl

set_option maxHeartbeats 1000000 in
set_option maxRecDepth 100000 in
theorem implRrOk_has {vn vt vx vi : Value} {r : Rec} {w : World} (h : HasR w vn vt vx vi r) :
    Calls Try.prog 63 #[.agg #[vn, .int .i64 r.type, .int .i64 r.ttl, .int .i64 r.addr, vt, vx, vi]] w fun e w' => e = .returned (.bool (rrOk r)) ∧ Below w.heap.size w w' := by
  obtain ⟨na, nc, rfl, _⟩ := h.name.form
  obtain ⟨ta, tc, rfl, _⟩ := h.to.form
  obtain ⟨xa, xc, rfl, _⟩ := h.text.form
  obtain ⟨ia, ic, rfl, _⟩ := h.nums.form
  have b0 := below_alloc (w := w) (.cells #[.slice na r.name.length nc, .int .i64 r.type, .int .i64 r.ttl, .int .i64 r.addr, .slice ta r.to.length tc, .slice xa r.text.length xc, .slice ia r.nums.length ic] 50)
  have K0 := hide (heap_alloc_new w (.cells #[.slice na r.name.length nc, .int .i64 r.type, .int .i64 r.ttl, .int .i64 r.addr, .slice ta r.to.length tc, .slice xa r.text.length xc, .slice ia r.nums.length ic] 50))
  have H0 := hide (h.below b0)
  cases hN : nameOk r.name with
  | false =>
    have e : rrOk r = false := by unfold rrOk; rw [hN]; rfl
    rw [e]
    have HN := hide hN
    clear hN h e
    go_enter Try.func63, Try.ntmps63
    go_wp2_with fail
    generalize w.alloc (.cells #[.slice na r.name.length nc, .int .i64 r.type, .int .i64 r.ttl, .int .i64 r.addr, .slice ta r.to.length tc, .slice xa r.text.length xc, .slice ia r.nums.length ic] 50) = W at *
    refine (implNameOk_has (unhide H0).name).mono ?_
    rw [unhide HN]
    rintro e w1 ⟨rfl, b1⟩
    go_wp2_with fail
    go_ret
    exact ⟨rfl, below_next b0 b1⟩
  | true =>
    cases hT : typeOk r.type with
    | false =>
      have e : rrOk r = false := by unfold rrOk; rw [hN, hT]; rfl
      rw [e]
      have HN := hide hN
      have HT := hide hT
      clear hN hT h e
      go_enter Try.func63, Try.ntmps63
      go_wp2_with fail
      generalize w.alloc (.cells #[.slice na r.name.length nc, .int .i64 r.type, .int .i64 r.ttl, .int .i64 r.addr, .slice ta r.to.length tc, .slice xa r.text.length xc, .slice ia r.nums.length ic] 50) = W at *
      refine (implNameOk_has (unhide H0).name).mono ?_
      rw [unhide HN]
      rintro e w1 ⟨rfl, b1⟩
      obtain ⟨d0, d1, d2, d3, d4, d5, d6⟩ := cells7 (block_kept b1 (unhide K0))
      go_wp2_with fail
      refine (implTypeOk_any r.type _).mono ?_
      rw [unhide HT]
      rintro e w2 ⟨rfl, rfl⟩
      go_wp2_with fail
      go_ret
      exact ⟨rfl, below_next b0 b1⟩
    | true =>
      by_cases ht : 0 ≤ r.ttl ∧ r.ttl ≤ 100000
      · have e : rrOk r = dataOk r := by unfold rrOk; rw [hN, hT, decide_eq_true ht]; rfl
        rw [e]
        clear b0 K0 H0 e
        obtain ⟨nm, ty, tt, ad, to, tx, nu⟩ := r
        simp only at *
        rcases type_cases ty with rfl | rfl | rfl | rfl | rfl | rfl | rfl | h0
        · rw [dataOk_A]
          cases hD : decide (0 ≤ ad ∧ ad ≤ 4294967295) with
          | true => rw [Bool.true_and]; exact rrOkData_A_true h hN ht.1 ht.2 hD
          | false => rw [Bool.false_and]; exact rrOkData_A_false h hN ht.1 ht.2 hD
        · rw [dataOk_N (by omega)]
          cases hD : nameOk to with
          | true => rw [Bool.true_and]; exact rrOkData_N_true (kindV_N (by omega)) hT h hN ht.1 ht.2 hD
          | false => rw [Bool.false_and]; exact rrOkData_N_false (kindV_N (by omega)) hT h hN ht.1 ht.2 hD
        · rw [dataOk_N (by omega)]
          cases hD : nameOk to with
          | true => rw [Bool.true_and]; exact rrOkData_N_true (kindV_N (by omega)) hT h hN ht.1 ht.2 hD
          | false => rw [Bool.false_and]; exact rrOkData_N_false (kindV_N (by omega)) hT h hN ht.1 ht.2 hD
        · rw [dataOk_S]
          cases hD : (nameOk to && numsOk nu) with
          | true => rw [Bool.true_and]; exact rrOkData_S_true h hN ht.1 ht.2 hD
          | false => rw [Bool.false_and]; exact rrOkData_S_false h hN ht.1 ht.2 hD
        · rw [dataOk_N (by omega)]
          cases hD : nameOk to with
          | true => rw [Bool.true_and]; exact rrOkData_N_true (kindV_N (by omega)) hT h hN ht.1 ht.2 hD
          | false => rw [Bool.false_and]; exact rrOkData_N_false (kindV_N (by omega)) hT h hN ht.1 ht.2 hD
        · rw [dataOk_X (by omega)]
          cases hD : decide (tx.length ≤ 40) with
          | true => rw [Bool.true_and]; exact rrOkData_X_true (kindV_X (by omega)) hT h hN ht.1 ht.2 hD
          | false => rw [Bool.false_and]; exact rrOkData_X_false (kindV_X (by omega)) hT h hN ht.1 ht.2 hD
        · rw [dataOk_X (by omega)]
          cases hD : decide (tx.length ≤ 40) with
          | true => rw [Bool.true_and]; exact rrOkData_X_true (kindV_X (by omega)) hT h hN ht.1 ht.2 hD
          | false => rw [Bool.false_and]; exact rrOkData_X_false (kindV_X (by omega)) hT h hN ht.1 ht.2 hD
        · rw [hT] at h0; cases h0
      · have e : rrOk r = false := by unfold rrOk; rw [hN, hT, decide_eq_false ht]; rfl
        rw [e]
        have HN := hide hN
        have HT := hide hT
        have hno : r.ttl < 0 ∨ 100000 < r.ttl := by omega
        have HNO := hide hno
        clear hN hT h e hno ht
        go_enter Try.func63, Try.ntmps63
        go_wp2_with fail
        generalize w.alloc (.cells #[.slice na r.name.length nc, .int .i64 r.type, .int .i64 r.ttl, .int .i64 r.addr, .slice ta r.to.length tc, .slice xa r.text.length xc, .slice ia r.nums.length ic] 50) = W at *
        refine (implNameOk_has (unhide H0).name).mono ?_
        rw [unhide HN]
        rintro e w1 ⟨rfl, b1⟩
        obtain ⟨d0, d1, d2, d3, d4, d5, d6⟩ := cells7 (block_kept b1 (unhide K0))
        go_wp2_with fail
        refine (implTypeOk_any r.type _).mono ?_
        rw [unhide HT]
        rintro e w2 ⟨rfl, rfl⟩
        go_wp2_with fail
        refine (upTo_no _ (unhide HNO)).mono ?_
        rintro e w2 ⟨rfl, rfl⟩
        go_wp2_with fail
        go_ret
        exact ⟨rfl, below_next b0 b1⟩
end Go.Proofs.Ytaconefooicplaa

namespace Go.Proofs.Ytaconefooicplaa
open Go.RowKit
set_option linter.unusedVariables false

set_option maxHeartbeats 400000 in
set_option maxRecDepth 100000 in
theorem bytesCompare_has {v v' : Value} {l l' : List Int} {w : World} (h : Has w v l) (h' : Has w v' l') :
    Calls Try.prog 49 #[v, v'] w fun e w' => e = .returned (.int .i64 (cmpB l l')) ∧ w = w' := by
  go_enter Try.func49, Try.ntmps49
  go_wp2
  rw [run_callFunc_extern Try.func86 (by kernel_rfl) (by kernel_rfl) (by kernel_rfl) (e := Extern.BytealgCompare.compare) (by kernel_rfl), run_compare_has h h']
  simp only [Result.andThen]
  rw [Oper.upon_value]
  go_wp2
  go_ret
  exact ⟨rfl, rfl⟩

set_option maxHeartbeats 400000 in
set_option maxRecDepth 100000 in
theorem isNaN_int (x : Int) (w : World) :
    Calls Try.prog 87 #[.int .i64 x] w fun e w' => e = .returned (.bool false) ∧ w = w' := by
  go_enter Try.func87, Try.ntmps87
  go_wp2
  go_ret
  exact ⟨rfl, rfl⟩

set_option maxHeartbeats 400000 in
set_option maxRecDepth 100000 in
theorem cmpCompare_int (x y : Int) (w : World) :
    Calls Try.prog 50 #[.int .i64 x, .int .i64 y] w fun e w' => e = .returned (.int .i64 (byLength x y)) ∧ w = w' := by
  unfold byLength
  by_cases h1 : x < y
  · rw [if_pos h1]
    go_enter Try.func50, Try.ntmps50
    go_wp2_with fail
    refine (isNaN_int x _).mono ?_
    rintro e w1 ⟨rfl, rfl⟩
    go_wp2_with fail
    refine (isNaN_int y _).mono ?_
    rintro e w1 ⟨rfl, rfl⟩
    go_wp2
    go_ret
    exact ⟨rfl, rfl⟩
  · rw [if_neg h1]
    by_cases h2 : y < x
    · rw [if_pos h2]
      go_enter Try.func50, Try.ntmps50
      go_wp2_with fail
      refine (isNaN_int x _).mono ?_
      rintro e w1 ⟨rfl, rfl⟩
      go_wp2_with fail
      refine (isNaN_int y _).mono ?_
      rintro e w1 ⟨rfl, rfl⟩
      go_wp2
      go_ret
      exact ⟨rfl, rfl⟩
    · rw [if_neg h2]
      go_enter Try.func50, Try.ntmps50
      go_wp2_with fail
      refine (isNaN_int x _).mono ?_
      rintro e w1 ⟨rfl, rfl⟩
      go_wp2_with fail
      refine (isNaN_int y _).mono ?_
      rintro e w1 ⟨rfl, rfl⟩
      go_wp2
      go_ret
      exact ⟨rfl, rfl⟩
end Go.Proofs.Ytaconefooicplaa
