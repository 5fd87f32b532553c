/-
  Contracts of the program's RrOk. Contract of the program's listOk of records. Contract of the program's codeOk. Contract of the program's askable. Contracts of the program's askable, bareOk and WantOk. Contracts of the program's codeOk, questionsOk, opOk, listOk, listsOk and partsOk.
-/
import Derived.Test.YtbabmdiklefgcaaGreatDoorFnRepliesG24
import Derived.Test.YtbabmdiklefgcaaGreatDoorFnRepliesG06
import Derived.Test.YtbabmdiklefgcaaGreatDoorFnRepliesG23
import Derived.Test.YtbabmdiklefgcaaGreatDoorFnRepliesG05
namespace Go.Proofs.YtbabmdiklefgcaaGreatDoor
open Go.RowKit
set_option linter.unusedVariables false

theorem dataOk_A {nm to : List (List Int)} {tx nu : List Int} {tt ad : Int} : dataOk ⟨nm, 1, tt, ad, to, tx, nu⟩ = (decide (0 ≤ ad ∧ ad ≤ 4294967295) && decide (ad = ad ∧ to.length = 0 ∧ tx.length = 0 ∧ nu.length = 0)) := by
 rw [Bool.eq_iff_iff]
 simp [dataOk, show named 1 = false from rfl, show texted 1 = false from rfl]
theorem dataOk_N {nm to : List (List Int)} {tx nu : List Int} {ty tt ad : Int} (h : ty = 2 ∨ ty = 5 ∨ ty = 12) : dataOk ⟨nm, ty, tt, ad, to, tx, nu⟩ = (nameOk to && decide (ad = 0 ∧ to.length = to.length ∧ tx.length = 0 ∧ nu.length = 0)) := by
 have h1 : named ty = true := decide_eq_true (by omega)
 have h2 : texted ty = false := decide_eq_false (by omega)
 have h3 : ty ≠ 1 := by omega
 have h4 : ty ≠ 6 := by omega
 rw [Bool.eq_iff_iff]
 simp [dataOk, h1, h2, h3, h4]
 constructor
 ·rintro ⟨a, b, c, d⟩; exact ⟨b, a, c, d⟩
 ·rintro ⟨b, a, c, d⟩; exact ⟨a, b, c, d⟩
theorem dataOk_S {nm to : List (List Int)} {tx nu : List Int} {tt ad : Int} : dataOk ⟨nm, 6, tt, ad, to, tx, nu⟩ = ((nameOk to && numsOk nu) && decide (ad = 0 ∧ to.length = to.length ∧ tx.length = 0 ∧ nu.length = nu.length)) := by
 rw [Bool.eq_iff_iff]
 simp [dataOk, show named 6 = true from rfl, show texted 6 = false from rfl, numsOk]
 constructor
 ·rintro ⟨a, b, c, d⟩; exact ⟨⟨b, d⟩, a, c⟩
 ·rintro ⟨⟨b, d⟩, a, c⟩; exact ⟨a, b, c, d⟩
theorem dataOk_X {nm to : List (List Int)} {tx nu : List Int} {ty tt ad : Int} (h : ty = 16 ∨ ty = 49) : dataOk ⟨nm, ty, tt, ad, to, tx, nu⟩ = (decide (tx.length ≤ 40) && decide (ad = 0 ∧ to.length = 0 ∧ tx.length = tx.length ∧ nu.length = 0)) := by
 have h1 : named ty = false := decide_eq_false (by omega)
 have h2 : texted ty = true := decide_eq_true (by omega)
 have h3 : ty ≠ 1 := by omega
 have h4 : ty ≠ 6 := by omega
 rw [Bool.eq_iff_iff]
 simp [dataOk, h1, h2, h3, h4]
 constructor
 ·rintro ⟨a, b, c, d⟩; exact ⟨c, a, b, d⟩
 ·rintro ⟨c, a, b, d⟩; exact ⟨a, b, c, d⟩
theorem kindV_N {ty : Int} (h : ty = 2 ∨ ty = 5 ∨ ty = 12) : kindV ty = .iface 134 (.agg #[.slice none 0 0]) := by
 rcases h with rfl | rfl | rfl <;> rfl
theorem kindV_X {ty : Int} (h : ty = 16 ∨ ty = 49) : kindV ty = .iface 138 (.agg #[.slice none 0 0]) := by
 rcases h with rfl | rfl <;> rfl

set_option maxHeartbeats 1000000 in
set_option maxRecDepth 100000 in
theorem implRrOk_has {vn vt vx vi : Value} {r : Rec} {w : World} (h : HasR w vn vt vx vi r) :
  Calls Tryz.prog 74 #[.agg #[vn, .int .i64 r.type, .int .i64 r.ttl, .int .i64 r.addr, vt, vx, vi]] w fun e w' => e = .returned (.bool (rrOk r)) ∧ Below w.heap.size w w' := by
 obtain ⟨na, nc, rfl, _⟩ := h.name.form
 obtain ⟨ta, tc, rfl, _⟩ := h.to.form
 obtain ⟨xa, xc, rfl, _⟩ := h.text.form
 obtain ⟨ia, ic, rfl, _⟩ := h.nums.form
 have b0 := UI (w := w) (.cells #[.slice na r.name.length nc, .int .i64 r.type, .int .i64 r.ttl, .int .i64 r.addr, .slice ta r.to.length tc, .slice xa r.text.length xc, .slice ia r.nums.length ic] 63)
 have K0 := UC (heap_alloc_new w (.cells #[.slice na r.name.length nc, .int .i64 r.type, .int .i64 r.ttl, .int .i64 r.addr, .slice ta r.to.length tc, .slice xa r.text.length xc, .slice ia r.nums.length ic] 63))
 have H0 := UC (h.below b0)
 cases hN : nameOk r.name with
 | false =>
  have e : rrOk r = false := by unfold rrOk; rw [hN]; rfl
  rw [e]
  have HN := UC hN
  clear hN h e
  go_enter Tryz.func74, Tryz.ntmps74
  go_wp2_with fail
  generalize w.alloc (.cells #[.slice na r.name.length nc, .int .i64 r.type, .int .i64 r.ttl, .int .i64 r.addr, .slice ta r.to.length tc, .slice xa r.text.length xc, .slice ia r.nums.length ic] 63) = W at *
  refine (VP (UB H0).name).mono ?_
  rw [UB HN]
  rintro e w1 ⟨rfl, b1⟩
  go_wp2_with fail
  go_ret
  exact ⟨rfl, UG b0 b1⟩
 | true =>
  cases hT : typeOk r.type with
  | false =>
   have e : rrOk r = false := by unfold rrOk; rw [hN, hT]; rfl
   rw [e]
   have HN := UC hN
   have HT := UC hT
   clear hN hT h e
   go_enter Tryz.func74, Tryz.ntmps74
   go_wp2_with fail
   generalize w.alloc (.cells #[.slice na r.name.length nc, .int .i64 r.type, .int .i64 r.ttl, .int .i64 r.addr, .slice ta r.to.length tc, .slice xa r.text.length xc, .slice ia r.nums.length ic] 63) = W at *
   refine (VP (UB H0).name).mono ?_
   rw [UB HN]
   rintro e w1 ⟨rfl, b1⟩
   obtain ⟨d0, d1, d2, d3, d4, d5, d6⟩ := UJ (UE b1 (UB K0))
   go_wp2_with fail
   refine (implTypeOk_any r.type _).mono ?_
   rw [UB HT]
   rintro e w2 ⟨rfl, rfl⟩
   go_wp2_with fail
   go_ret
   exact ⟨rfl, UG b0 b1⟩
  | true =>
   by_cases ht : 0 ≤ r.ttl ∧ r.ttl ≤ 100000
   ·have e : rrOk r = dataOk r := by unfold rrOk; rw [hN, hT, decide_eq_true ht]; rfl
    rw [e]
    clear b0 K0 H0 e
    obtain ⟨nm, ty, tt, ad, to, tx, nu⟩ := r
    simp only at *
    rcases type_cases ty with rfl | rfl | rfl | rfl | rfl | rfl | rfl | h0
    ·rw [dataOk_A]
     cases hD : decide (0 ≤ ad ∧ ad ≤ 4294967295) with
     | true => rw [Bool.true_and]; exact rrOkData_A_true h hN ht.1 ht.2 hD
     | false => rw [Bool.false_and]; exact rrOkData_A_false h hN ht.1 ht.2 hD
    ·rw [dataOk_N (by omega)]
     cases hD : nameOk to with
     | true => rw [Bool.true_and]; exact rrOkData_N_true (kindV_N (by omega)) hT h hN ht.1 ht.2 hD
     | false => rw [Bool.false_and]; exact rrOkData_N_false (kindV_N (by omega)) hT h hN ht.1 ht.2 hD
    ·rw [dataOk_N (by omega)]
     cases hD : nameOk to with
     | true => rw [Bool.true_and]; exact rrOkData_N_true (kindV_N (by omega)) hT h hN ht.1 ht.2 hD
     | false => rw [Bool.false_and]; exact rrOkData_N_false (kindV_N (by omega)) hT h hN ht.1 ht.2 hD
    ·rw [dataOk_S]
     cases hD : (nameOk to && numsOk nu) with
     | true => rw [Bool.true_and]; exact rrOkData_S_true h hN ht.1 ht.2 hD
     | false => rw [Bool.false_and]; exact rrOkData_S_false h hN ht.1 ht.2 hD
    ·rw [dataOk_N (by omega)]
     cases hD : nameOk to with
     | true => rw [Bool.true_and]; exact rrOkData_N_true (kindV_N (by omega)) hT h hN ht.1 ht.2 hD
     | false => rw [Bool.false_and]; exact rrOkData_N_false (kindV_N (by omega)) hT h hN ht.1 ht.2 hD
    ·rw [dataOk_X (by omega)]
     cases hD : decide (tx.length ≤ 40) with
     | true => rw [Bool.true_and]; exact rrOkData_X_true (kindV_X (by omega)) hT h hN ht.1 ht.2 hD
     | false => rw [Bool.false_and]; exact rrOkData_X_false (kindV_X (by omega)) hT h hN ht.1 ht.2 hD
    ·rw [dataOk_X (by omega)]
     cases hD : decide (tx.length ≤ 40) with
     | true => rw [Bool.true_and]; exact rrOkData_X_true (kindV_X (by omega)) hT h hN ht.1 ht.2 hD
     | false => rw [Bool.false_and]; exact rrOkData_X_false (kindV_X (by omega)) hT h hN ht.1 ht.2 hD
    ·rw [hT] at h0; cases h0
   ·have e : rrOk r = false := by unfold rrOk; rw [hN, hT, decide_eq_false ht]; rfl
    rw [e]
    have HN := UC hN
    have HT := UC hT
    have hno : r.ttl < 0 ∨ 100000 < r.ttl := by omega
    have HNO := UC hno
    clear hN hT h e hno ht
    go_enter Tryz.func74, Tryz.ntmps74
    go_wp2_with fail
    generalize w.alloc (.cells #[.slice na r.name.length nc, .int .i64 r.type, .int .i64 r.ttl, .int .i64 r.addr, .slice ta r.to.length tc, .slice xa r.text.length xc, .slice ia r.nums.length ic] 63) = W at *
    refine (VP (UB H0).name).mono ?_
    rw [UB HN]
    rintro e w1 ⟨rfl, b1⟩
    obtain ⟨d0, d1, d2, d3, d4, d5, d6⟩ := UJ (UE b1 (UB K0))
    go_wp2_with fail
    refine (implTypeOk_any r.type _).mono ?_
    rw [UB HT]
    rintro e w2 ⟨rfl, rfl⟩
    go_wp2_with fail
    refine (upTo_no _ (UB HNO)).mono ?_
    rintro e w2 ⟨rfl, rfl⟩
    go_wp2_with fail
    go_ret
    exact ⟨rfl, UG b0 b1⟩
set_option maxHeartbeats 1000000 in
set_option maxRecDepth 100000 in
theorem listOkRr_has {v : Value} {l : List Rec} {w : World} (h : HasRs w v l) :
  Calls Tryz.prog 105 #[v, .func (Fn.func 74) #[] #[]] w fun e w' => e = .returned (.bool (rrsOk l)) ∧ Below w.heap.size w w' := by
 obtain ⟨a, cap, rfl, hl, hm⟩ := h.form
 unfold rrsOk maxLen at *
 have HA := UC (all_of (p := rrOk) l recZ)
 have HB := UC (fun k (hk : k < l.length) (hp : rrOk (l.getD k recZ) = false) => all_not (p := rrOk) l recZ hk hp)
 by_cases h12 : l.length ≤ 12
 ·rw [decide_eq_true h12, Bool.true_and]
  generalize l.all rrOk = R at *
  generalize hn : l.length = m at *
  have HN := UC hn
  have H := UC h
  clear hn h
  go_enter Tryz.func105, Tryz.ntmps105
  go_wp2
  go_loopw [12] (fun i wr => ∃ k : Nat, k ≤ m ∧ i = .int .i64 k ∧ Hid (∀ j, j < k → rrOk (l.getD j recZ) = true) ∧ Below w.heap.size w wr) (fun i _ => m - (intOf i).toNat)
  case atStart => exact ⟨0, Nat.zero_le _, rfl, UC (fun j hj => absurd hj (Nat.not_lt_zero _)), Below.refl _ _⟩
  case round =>
   obtain ⟨k, hk, rfl, hall, hb⟩ := hrel
   by_cases hlt : k < m
   ·obtain ⟨b, off, na, nc, ta, tc, xa, xc, ia, ic, rfl, hbl, hc, hu⟩ := ((UB H).below hb).here (k := k) (by rw [UB HN]; exact hlt)
    have hbk := UB HB k hlt
    have HBK := UC hbk
    have hone := UC (fun (hs : rrOk (l.getD k recZ) = true) => (show ∀ j, j < k + 1 → rrOk (l.getD j recZ) = true from fun j hj => by
      by_cases e : j = k
      ·subst e; exact hs
      ·exact UB hall j (by omega)))
    clear hbk
    generalize l.getD k recZ = rk at *
    have bA := fun o => UI (w := wr) o
    have HC := UC (fun o => implRrOk_has (hu.below (UI (w := wr) o)))
    obtain ⟨c0, c1, c2, c3, c4, c5, c6⟩ := VH hc
    clear hc hu
    cases hp : rrOk rk with
    | true =>
     have HC' := UB HC
     rw [show rrOk rk = true from hp] at HC'
     replace HC := UC HC'
     clear HC'
     go_wp2_with fail
     refine (UB HC _).mono ?_
     rintro e w1 ⟨rfl, b1⟩
     clear c0 c1 c2 c3 c4 c5 c6
     have b2 := UG (UG hb (bA _)) b1
     clear b1 bA
     go_wp2_with fail
     exact ⟨⟨k + 1, by omega, by go_num, UC (UB hone hp), b2⟩, by simp [intOf]; omega⟩
    | false =>
     have HC' := UB HC
     rw [show rrOk rk = false from hp] at HC'
     replace HC := UC HC'
     clear HC'
     have hR := UB HBK hp
     subst hR
     go_wp2_with fail
     refine (UB HC _).mono ?_
     rintro e w1 ⟨rfl, b1⟩
     clear c0 c1 c2 c3 c4 c5 c6
     have b2 := UG (UG hb (bA _)) b1
     clear b1 bA
     go_wp2_with fail
     go_ret
     exact ⟨rfl, b2⟩
   ·obtain rfl : k = m := by omega
    have hR := UB HA (UB hall)
    subst hR
    go_wp2
    go_ret
    exact ⟨rfl, hb⟩
 ·rw [decide_eq_false h12, Bool.false_and]
  clear HA HB h
  generalize l.length = m at *
  go_enter Tryz.func105, Tryz.ntmps105
  go_wp2
  go_ret
  exact ⟨rfl, Below.refl _ _⟩
set_option maxHeartbeats 400000 in
set_option maxRecDepth 100000 in
theorem codeOk_any (c : Int) (w : World) : Calls Tryz.prog 14 #[.int .i64 c] w fun e w' => e = .returned (.bool (decide (0 ≤ c ∧ c ≤ 10))) ∧ w = w' := by
 by_cases h0 : 0 ≤ c
 ·by_cases h1 : c ≤ 10
  ·rw [decide_eq_true ⟨h0, h1⟩]
   go_enter Tryz.func14, Tryz.ntmps14
   go_wp2
   go_ret
   exact ⟨rfl, rfl⟩
  ·rw [decide_eq_false (fun h => h1 h.2)]
   go_enter Tryz.func14, Tryz.ntmps14
   go_wp2
   go_ret
   exact ⟨rfl, rfl⟩
 ·rw [decide_eq_false (fun h => h0 h.1)]
  go_enter Tryz.func14, Tryz.ntmps14
  go_wp2
  go_ret
  exact ⟨rfl, rfl⟩
set_option maxHeartbeats 1000000 in
set_option maxRecDepth 100000 in
theorem askable_any (t : Int) (w : World) : Calls Tryz.prog 104 #[.int .i64 t] w fun e w' => e = .returned (.bool (asked t)) ∧ w = w' := by
 have HT := implTypeOk_any t w
 unfold asked
 cases ht : typeOk t with
 | true =>
  rw [ht] at HT
  replace HT := UC HT
  rw [Bool.true_or]
  go_enter Tryz.func104, Tryz.ntmps104
  go_wp2_with fail
  refine (UB HT).mono ?_
  rintro e w1 ⟨rfl, rfl⟩
  go_wp2_with fail
  go_ret
  exact ⟨rfl, rfl⟩
 | false =>
  rw [ht] at HT
  replace HT := UC HT
  rw [Bool.false_or]
  by_cases h5 : t = 255
  ·rw [decide_eq_true h5]
   have h5' : (t == 255) = true := by rw [beq_iff_eq]; exact h5
   clear ht h5
   go_enter Tryz.func104, Tryz.ntmps104
   go_wp2_with fail
   refine (UB HT).mono ?_
   rintro e w1 ⟨rfl, rfl⟩
   go_wp2_with fail
   go_ret
   exact ⟨rfl, rfl⟩
  ·rw [decide_eq_false h5]
   have h5' : (t == 255) = false := by rw [beq_eq_false_iff_ne]; exact h5
   clear ht h5
   go_enter Tryz.func104, Tryz.ntmps104
   go_wp2_with fail
   refine (UB HT).mono ?_
   rintro e w1 ⟨rfl, rfl⟩
   go_wp2_with fail
   go_ret
   exact ⟨rfl, rfl⟩

set_option maxHeartbeats 1000000
set_option maxRecDepth 100000

theorem implBareOk_has {vn vt vx vi : Value} {r : Rec} {w : World} (h : HasR w vn vt vx vi r) :
  Calls Tryz.prog 125 #[.agg #[vn, .int .i64 r.type, .int .i64 r.ttl, .int .i64 r.addr, vt, vx, vi]] w fun e w' => e = .returned (.bool (bareOk r)) ∧ Below w.heap.size w w' := by
 obtain ⟨na, nc, rfl, _⟩ := h.name.form
 obtain ⟨ta, tc, rfl, _⟩ := h.to.form
 obtain ⟨xa, xc, rfl, _⟩ := h.text.form
 obtain ⟨ia, ic, rfl, _⟩ := h.nums.form
 have b0 := UI (w := w) (.cells #[.slice na r.name.length nc, .int .i64 r.type, .int .i64 r.ttl, .int .i64 r.addr, .slice ta r.to.length tc, .slice xa r.text.length xc, .slice ia r.nums.length ic] 63)
 have K0 := UC (heap_alloc_new w (.cells #[.slice na r.name.length nc, .int .i64 r.type, .int .i64 r.ttl, .int .i64 r.addr, .slice ta r.to.length tc, .slice xa r.text.length xc, .slice ia r.nums.length ic] 63))
 have H0 := UC (h.below b0)
 have HN := VP (h.below b0).name
 unfold bareOk
 clear h
 cases hn : nameOk r.name with
 | false =>
  rw [hn] at HN
  replace HN := UC HN
  clear hn
  rw [Bool.false_and]
  go_enter Tryz.func125, Tryz.ntmps125
  go_wp2_with fail
  refine (UB HN).mono ?_
  rintro e w1 ⟨rfl, b1⟩
  go_wp2_with fail
  go_ret
  exact ⟨rfl, UG b0 b1⟩
 | true =>
  rw [hn] at HN
  replace HN := UC HN
  clear hn
  rw [Bool.true_and]
  generalize hRes : (asked r.type && (decide (r.ttl = 0) && emptyOk r)) = Res
  have HRES := UC hRes
  clear hRes
  go_enter Tryz.func125, Tryz.ntmps125
  go_wp2_with fail
  generalize w.alloc (.cells #[.slice na r.name.length nc, .int .i64 r.type, .int .i64 r.ttl, .int .i64 r.addr, .slice ta r.to.length tc, .slice xa r.text.length xc, .slice ia r.nums.length ic] 63) = W at *
  refine (UB HN).mono ?_
  rintro e w1 ⟨rfl, b1⟩
  have K1 := UC (UE b1 (UB K0))
  have bb1 := UG b0 b1
  clear HN K0 H0 b0 b1
  obtain ⟨d0, d1, d2, d3, d4, d5, d6⟩ := UJ (UB K1)
  go_wp2_with fail
  have HA := askable_any r.type w1
  cases ha : asked r.type with
  | false =>
   rw [ha] at HA
   have hRes := UB HRES
   rw [ha, Bool.false_and] at hRes
   subst hRes
   refine HA.mono ?_
   rintro e w2 ⟨rfl, rfl⟩
   clear ha HRES
   go_wp2_with fail
   go_ret
   exact ⟨rfl, bb1⟩
  | true =>
   rw [ha] at HA
   have hRes := UB HRES
   rw [ha, Bool.true_and] at hRes
   have HRES := UC hRes
   clear hRes
   refine HA.mono ?_
   rintro e w2 ⟨rfl, rfl⟩
   clear ha HA
   by_cases ht : r.ttl = 0
   ·have ht' : (r.ttl == 0) = true := by rw [beq_iff_eq]; exact ht
    have hRes := UB HRES
    rw [decide_eq_true ht, Bool.true_and] at hRes
    unfold emptyOk at hRes
    have HRES := UC hRes
    clear ht hRes
    go_wp2_with fail
    refine nothingElse_any.mono ?_
    rintro e w3 ⟨he, b3⟩
    rw [UB HRES] at he
    subst he
    go_wp2_with fail
    go_ret
    exact ⟨rfl, UG bb1 b3⟩
   ·have ht' : (r.ttl == 0) = false := by rw [beq_eq_false_iff_ne]; exact ht
    have hRes := UB HRES
    rw [decide_eq_false ht, Bool.false_and] at hRes
    subst hRes
    clear ht HRES
    go_wp2_with fail
    go_ret
    exact ⟨rfl, bb1⟩

theorem implWantOk_bareNo {vn vt vx vi : Value} {r : Rec} {c : Int} {w : World} (h : HasR w vn vt vx vi r) (h1 : (c == 254) = false) (h2 : (c == 255) = false) :
  Calls Tryz.prog 107 #[.agg #[vn, .int .i64 r.type, .int .i64 r.ttl, .int .i64 r.addr, vt, vx, vi, .int .i64 c, .bool true]] w fun e w' => e = .returned (.bool (false)) ∧ Below w.heap.size w w' := by
 obtain ⟨na, nc, rfl, _⟩ := h.name.form
 obtain ⟨ta, tc, rfl, _⟩ := h.to.form
 obtain ⟨xa, xc, rfl, _⟩ := h.text.form
 obtain ⟨ia, ic, rfl, _⟩ := h.nums.form
 have b0 := UI (w := w) (.cells #[.slice na r.name.length nc, .int .i64 r.type, .int .i64 r.ttl, .int .i64 r.addr, .slice ta r.to.length tc, .slice xa r.text.length xc, .slice ia r.nums.length ic, .int .i64 c, .bool true] 66)
 have K0 := UC (heap_alloc_new w (.cells #[.slice na r.name.length nc, .int .i64 r.type, .int .i64 r.ttl, .int .i64 r.addr, .slice ta r.to.length tc, .slice xa r.text.length xc, .slice ia r.nums.length ic, .int .i64 c, .bool true] 66))
 clear h
 obtain ⟨d0, d1, d2, d3, d4, d5, d6, d7, d8⟩ := cells9 (UB K0)
 go_enter Tryz.func107, Tryz.ntmps107
 go_wp2_with fail
 go_ret
 exact ⟨rfl, b0⟩

theorem implWantOk_bare254 {vn vt vx vi : Value} {r : Rec} {w : World} (h : HasR w vn vt vx vi r) :
  Calls Tryz.prog 107 #[.agg #[vn, .int .i64 r.type, .int .i64 r.ttl, .int .i64 r.addr, vt, vx, vi, .int .i64 254, .bool true]] w fun e w' => e = .returned (.bool (bareOk r)) ∧ Below w.heap.size w w' := by
 obtain ⟨na, nc, rfl, _⟩ := h.name.form
 obtain ⟨ta, tc, rfl, _⟩ := h.to.form
 obtain ⟨xa, xc, rfl, _⟩ := h.text.form
 obtain ⟨ia, ic, rfl, _⟩ := h.nums.form
 have b0 := UI (w := w) (.cells #[.slice na r.name.length nc, .int .i64 r.type, .int .i64 r.ttl, .int .i64 r.addr, .slice ta r.to.length tc, .slice xa r.text.length xc, .slice ia r.nums.length ic, .int .i64 254, .bool true] 66)
 have K0 := UC (heap_alloc_new w (.cells #[.slice na r.name.length nc, .int .i64 r.type, .int .i64 r.ttl, .int .i64 r.addr, .slice ta r.to.length tc, .slice xa r.text.length xc, .slice ia r.nums.length ic, .int .i64 254, .bool true] 66))
 have HB := UC (implBareOk_has (h.below b0))
 clear h
 obtain ⟨d0, d1, d2, d3, d4, d5, d6, d7, d8⟩ := cells9 (UB K0)
 go_enter Tryz.func107, Tryz.ntmps107
 go_wp2_with fail
 refine (UB HB).mono ?_
 rintro e w1 ⟨rfl, b1⟩
 go_wp2_with fail
 go_ret
 exact ⟨rfl, UG b0 b1⟩

theorem implWantOk_bare255 {vn vt vx vi : Value} {r : Rec} {w : World} (h : HasR w vn vt vx vi r) :
  Calls Tryz.prog 107 #[.agg #[vn, .int .i64 r.type, .int .i64 r.ttl, .int .i64 r.addr, vt, vx, vi, .int .i64 255, .bool true]] w fun e w' => e = .returned (.bool (bareOk r)) ∧ Below w.heap.size w w' := by
 obtain ⟨na, nc, rfl, _⟩ := h.name.form
 obtain ⟨ta, tc, rfl, _⟩ := h.to.form
 obtain ⟨xa, xc, rfl, _⟩ := h.text.form
 obtain ⟨ia, ic, rfl, _⟩ := h.nums.form
 have b0 := UI (w := w) (.cells #[.slice na r.name.length nc, .int .i64 r.type, .int .i64 r.ttl, .int .i64 r.addr, .slice ta r.to.length tc, .slice xa r.text.length xc, .slice ia r.nums.length ic, .int .i64 255, .bool true] 66)
 have K0 := UC (heap_alloc_new w (.cells #[.slice na r.name.length nc, .int .i64 r.type, .int .i64 r.ttl, .int .i64 r.addr, .slice ta r.to.length tc, .slice xa r.text.length xc, .slice ia r.nums.length ic, .int .i64 255, .bool true] 66))
 have HB := UC (implBareOk_has (h.below b0))
 clear h
 obtain ⟨d0, d1, d2, d3, d4, d5, d6, d7, d8⟩ := cells9 (UB K0)
 go_enter Tryz.func107, Tryz.ntmps107
 go_wp2_with fail
 refine (UB HB).mono ?_
 rintro e w1 ⟨rfl, b1⟩
 go_wp2_with fail
 go_ret
 exact ⟨rfl, UG b0 b1⟩

theorem implWantOk_in {vn vt vx vi : Value} {r : Rec} {w : World} (h : HasR w vn vt vx vi r) :
  Calls Tryz.prog 107 #[.agg #[vn, .int .i64 r.type, .int .i64 r.ttl, .int .i64 r.addr, vt, vx, vi, .int .i64 1, .bool false]] w fun e w' => e = .returned (.bool (rrOk r)) ∧ Below w.heap.size w w' := by
 obtain ⟨na, nc, rfl, _⟩ := h.name.form
 obtain ⟨ta, tc, rfl, _⟩ := h.to.form
 obtain ⟨xa, xc, rfl, _⟩ := h.text.form
 obtain ⟨ia, ic, rfl, _⟩ := h.nums.form
 have b0 := UI (w := w) (.cells #[.slice na r.name.length nc, .int .i64 r.type, .int .i64 r.ttl, .int .i64 r.addr, .slice ta r.to.length tc, .slice xa r.text.length xc, .slice ia r.nums.length ic, .int .i64 1, .bool false] 66)
 have K0 := UC (heap_alloc_new w (.cells #[.slice na r.name.length nc, .int .i64 r.type, .int .i64 r.ttl, .int .i64 r.addr, .slice ta r.to.length tc, .slice xa r.text.length xc, .slice ia r.nums.length ic, .int .i64 1, .bool false] 66))
 have HB := UC (implRrOk_has (h.below b0))
 clear h
 obtain ⟨d0, d1, d2, d3, d4, d5, d6, d7, d8⟩ := cells9 (UB K0)
 go_enter Tryz.func107, Tryz.ntmps107
 go_wp2_with fail
 refine (UB HB).mono ?_
 rintro e w1 ⟨rfl, b1⟩
 go_wp2_with fail
 go_ret
 exact ⟨rfl, UG b0 b1⟩

theorem implWantOk_none {vn vt vx vi : Value} {r : Rec} {w : World} (h : HasR w vn vt vx vi r) :
  Calls Tryz.prog 107 #[.agg #[vn, .int .i64 r.type, .int .i64 r.ttl, .int .i64 r.addr, vt, vx, vi, .int .i64 254, .bool false]] w fun e w' => e = .returned (.bool (rrOk r && decide (r.ttl = 0))) ∧ Below w.heap.size w w' := by
 obtain ⟨na, nc, rfl, _⟩ := h.name.form
 obtain ⟨ta, tc, rfl, _⟩ := h.to.form
 obtain ⟨xa, xc, rfl, _⟩ := h.text.form
 obtain ⟨ia, ic, rfl, _⟩ := h.nums.form
 have b0 := UI (w := w) (.cells #[.slice na r.name.length nc, .int .i64 r.type, .int .i64 r.ttl, .int .i64 r.addr, .slice ta r.to.length tc, .slice xa r.text.length xc, .slice ia r.nums.length ic, .int .i64 254, .bool false] 66)
 have K0 := UC (heap_alloc_new w (.cells #[.slice na r.name.length nc, .int .i64 r.type, .int .i64 r.ttl, .int .i64 r.addr, .slice ta r.to.length tc, .slice xa r.text.length xc, .slice ia r.nums.length ic, .int .i64 254, .bool false] 66))
 have HB := implRrOk_has (h.below b0)
 clear h
 obtain ⟨d0, d1, d2, d3, d4, d5, d6, d7, d8⟩ := cells9 (UB K0)
 cases hr : rrOk r with
 | false =>
  rw [hr] at HB
  replace HB := UC HB
  rw [Bool.false_and]
  clear hr
  go_enter Tryz.func107, Tryz.ntmps107
  go_wp2_with fail
  refine (UB HB).mono ?_
  rintro e w1 ⟨rfl, b1⟩
  go_wp2_with fail
  go_ret
  exact ⟨rfl, UG b0 b1⟩
 | true =>
  rw [hr] at HB
  replace HB := UC HB
  rw [Bool.true_and]
  clear hr d0 d1 d2 d3 d4 d5 d6 d7 d8
  by_cases ht : r.ttl = 0
  ·rw [decide_eq_true ht]
   have ht' : (r.ttl == 0) = true := by rw [beq_iff_eq]; exact ht
   clear ht
   obtain ⟨d0, d1, d2, d3, d4, d5, d6, d7, d8⟩ := cells9 (UB K0)
   go_enter Tryz.func107, Tryz.ntmps107
   go_wp2_with fail
   generalize w.alloc (.cells #[.slice na r.name.length nc, .int .i64 r.type, .int .i64 r.ttl, .int .i64 r.addr, .slice ta r.to.length tc, .slice xa r.text.length xc, .slice ia r.nums.length ic, .int .i64 254, .bool false] 66) = W at *
   refine (UB HB).mono ?_
   rintro e w1 ⟨rfl, b1⟩
   clear d0 d1 d2 d3 d4 d5 d6 d7 d8
   obtain ⟨d0, d1, d2, d3, d4, d5, d6, d7, d8⟩ := cells9 (UE b1 (UB K0))
   go_wp2_with fail
   go_ret
   exact ⟨rfl, UG b0 b1⟩
  ·rw [decide_eq_false ht]
   have ht' : (r.ttl == 0) = false := by rw [beq_eq_false_iff_ne]; exact ht
   clear ht
   obtain ⟨d0, d1, d2, d3, d4, d5, d6, d7, d8⟩ := cells9 (UB K0)
   go_enter Tryz.func107, Tryz.ntmps107
   go_wp2_with fail
   generalize w.alloc (.cells #[.slice na r.name.length nc, .int .i64 r.type, .int .i64 r.ttl, .int .i64 r.addr, .slice ta r.to.length tc, .slice xa r.text.length xc, .slice ia r.nums.length ic, .int .i64 254, .bool false] 66) = W at *
   refine (UB HB).mono ?_
   rintro e w1 ⟨rfl, b1⟩
   clear d0 d1 d2 d3 d4 d5 d6 d7 d8
   obtain ⟨d0, d1, d2, d3, d4, d5, d6, d7, d8⟩ := cells9 (UE b1 (UB K0))
   go_wp2_with fail
   go_ret
   exact ⟨rfl, UG b0 b1⟩

theorem implWantOk_no {vn vt vx vi : Value} {r : Rec} {c : Int} {w : World} (h : HasR w vn vt vx vi r) (h1 : (c == 1) = false) (h2 : (c == 254) = false) :
  Calls Tryz.prog 107 #[.agg #[vn, .int .i64 r.type, .int .i64 r.ttl, .int .i64 r.addr, vt, vx, vi, .int .i64 c, .bool false]] w fun e w' => e = .returned (.bool (false)) ∧ Below w.heap.size w w' := by
 obtain ⟨na, nc, rfl, _⟩ := h.name.form
 obtain ⟨ta, tc, rfl, _⟩ := h.to.form
 obtain ⟨xa, xc, rfl, _⟩ := h.text.form
 obtain ⟨ia, ic, rfl, _⟩ := h.nums.form
 have b0 := UI (w := w) (.cells #[.slice na r.name.length nc, .int .i64 r.type, .int .i64 r.ttl, .int .i64 r.addr, .slice ta r.to.length tc, .slice xa r.text.length xc, .slice ia r.nums.length ic, .int .i64 c, .bool false] 66)
 have K0 := UC (heap_alloc_new w (.cells #[.slice na r.name.length nc, .int .i64 r.type, .int .i64 r.ttl, .int .i64 r.addr, .slice ta r.to.length tc, .slice xa r.text.length xc, .slice ia r.nums.length ic, .int .i64 c, .bool false] 66))
 clear h
 obtain ⟨d0, d1, d2, d3, d4, d5, d6, d7, d8⟩ := cells9 (UB K0)
 go_enter Tryz.func107, Tryz.ntmps107
 go_wp2_with fail
 go_ret
 exact ⟨rfl, b0⟩

theorem implWantOk_has {vn vt vx vi : Value} {r : Rec} (c : Int) (b : Bool) {w : World} (h : HasR w vn vt vx vi r) :
  Calls Tryz.prog 107 #[.agg #[vn, .int .i64 r.type, .int .i64 r.ttl, .int .i64 r.addr, vt, vx, vi, .int .i64 c, .bool b]] w fun e w' => e = .returned (.bool (wantOk r c b)) ∧ Below w.heap.size w w' := by
 unfold wantOk
 cases b with
 | true =>
  rw [if_pos rfl]
  by_cases h1 : c = 254
  ·subst h1; rw [decide_eq_true (.inl rfl), Bool.true_and]; exact implWantOk_bare254 h
  by_cases h2 : c = 255
  ·subst h2; rw [decide_eq_true (.inr rfl), Bool.true_and]; exact implWantOk_bare255 h
  ·rw [decide_eq_false (by omega), Bool.false_and]; exact implWantOk_bareNo h (by rw [beq_eq_false_iff_ne]; exact h1) (by rw [beq_eq_false_iff_ne]; exact h2)
 | false =>
  rw [if_neg (by simp)]
  by_cases h1 : c = 1
  ·subst h1; rw [if_pos rfl]; exact implWantOk_in h
  by_cases h2 : c = 254
  ·subst h2; rw [if_neg (by omega), if_pos rfl]; exact implWantOk_none h
  ·rw [if_neg h1, if_neg h2]; exact implWantOk_no h (by rw [beq_eq_false_iff_ne]; exact h1) (by rw [beq_eq_false_iff_ne]; exact h2)
set_option maxHeartbeats 1000000 in
set_option maxRecDepth 100000 in
theorem questionsOk_has {v : Value} {l : List Que} {w : World} (h : HasQs w v l) :
  Calls Tryz.prog 80 #[v] w fun e w' => e = .returned (.bool (queOk l)) ∧ Below w.heap.size w w' := by
 obtain ⟨a, cap, rfl, hl, hm⟩ := h.form
 unfold queOk
 by_cases h1 : l.length = 1
 ·obtain ⟨b, off, vs, rfl, hbl, hc, vn, rfl, hu⟩ := h.here (k := 0) (by omega)
  rw [decide_eq_true h1, Bool.true_and]
  simp only [Nat.zero_mul, Nat.add_zero] at hc
  have HN := VP hu
  generalize l.getD 0 queZ = q at *
  obtain ⟨na, nc, rfl, _⟩ := hu.form
  obtain ⟨c0, c1⟩ := range2 hc
  have HC := UC hc
  clear hu hm hc
  generalize l.length = m at *
  subst h1
  cases hn : nameOk q.name with
  | false =>
   rw [hn] at HN
   replace HN := UC HN
   rw [Bool.false_and]
   go_enter Tryz.func80, Tryz.ntmps80
   go_wp2_with fail
   refine (UB HN).mono ?_
   rintro e w1 ⟨rfl, b1⟩
   clear c0 c1
   go_wp2_with fail
   go_ret
   exact ⟨rfl, b1⟩
  | true =>
   rw [hn] at HN
   replace HN := UC HN
   rw [Bool.true_and]
   have HA := fun w => askable_any q.type w
   generalize asked q.type = A at *
   replace HA := UC HA
   go_enter Tryz.func80, Tryz.ntmps80
   go_wp2_with fail
   refine (UB HN).mono ?_
   rintro e w1 ⟨rfl, b1⟩
   clear c0 c1
   obtain ⟨c0, c1⟩ := range2 (UW (UB HC) hbl b1)
   go_wp2_with fail
   refine (UB HA _).mono ?_
   rintro e w2 ⟨rfl, rfl⟩
   go_wp2_with fail
   go_ret
   exact ⟨rfl, b1⟩
 ·rw [decide_eq_false h1, Bool.false_and]
  clear h
  unfold maxLen at hm
  generalize l.length = m at *
  have h2 : ((m : Int) == 1) = false := by rw [beq_eq_false_iff_ne]; omega
  clear h1
  go_enter Tryz.func80, Tryz.ntmps80
  go_wp2_with fail
  go_ret
  exact ⟨rfl, Below.refl _ _⟩
end Go.Proofs.YtbabmdiklefgcaaGreatDoor
