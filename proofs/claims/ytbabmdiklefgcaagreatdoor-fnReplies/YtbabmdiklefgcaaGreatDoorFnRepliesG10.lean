/-
  Contracts of the specification's l3named, l3texted, l3data and RrOk.
-/
import Derived.Test.YtbabmdiklefgcaaGreatDoorFnRepliesG04
import Derived.Test.YtbabmdiklefgcaaGreatDoorFnRepliesG08
namespace Go.Proofs.YtbabmdiklefgcaaGreatDoor
open Go.RowKit
set_option linter.unusedVariables false
set_option maxHeartbeats 400000
set_option maxRecDepth 100000

theorem named_1 : named 1 = false := rfl
theorem named_2 : named 2 = true := rfl
theorem named_5 : named 5 = true := rfl
theorem named_6 : named 6 = true := rfl
theorem named_12 : named 12 = true := rfl
theorem named_16 : named 16 = false := rfl
theorem named_49 : named 49 = false := rfl

theorem VR (t : Int) (w : World) (ht : typeOk t = true) : Calls Tryz.prog 57 #[.int .i64 t] w fun e w' => e = .returned (.bool (named t)) ∧ w = w' := by
 rcases type_cases t with rfl | rfl | rfl | rfl | rfl | rfl | rfl | h
 iterate 7
  ·go_enter Tryz.func57, Tryz.ntmps57
   go_wp2
   go_ret
   exact ⟨rfl, rfl⟩
 ·rw [ht] at h; cases h

theorem texted_1 : texted 1 = false := rfl
theorem texted_2 : texted 2 = false := rfl
theorem texted_5 : texted 5 = false := rfl
theorem texted_6 : texted 6 = false := rfl
theorem texted_12 : texted 12 = false := rfl
theorem texted_16 : texted 16 = true := rfl
theorem texted_49 : texted 49 = true := rfl

theorem VT (t : Int) (w : World) (ht : typeOk t = true) : Calls Tryz.prog 112 #[.int .i64 t] w fun e w' => e = .returned (.bool (texted t)) ∧ w = w' := by
 rcases type_cases t with rfl | rfl | rfl | rfl | rfl | rfl | rfl | h
 iterate 7
  ·go_enter Tryz.func112, Tryz.ntmps112
   go_wp2
   go_ret
   exact ⟨rfl, rfl⟩
 ·rw [ht] at h; cases h

theorem l3_1_0 {na : Option Addr} {nc : Nat} {ta : Option Addr} {tc : Nat} {xa : Option Addr} {xc : Nat} {ia : Option Addr} {ic : Nat} {nm to : List (List Int)} {tx nu : List Int} {tt ad : Int} {w : World} (h : HasR w (.slice na nm.length nc) (.slice ta to.length tc) (.slice xa tx.length xc) (.slice ia nu.length ic) ⟨nm, 1, tt, ad, to, tx, nu⟩) (hA : ad < 0) :
  Calls Tryz.prog 88 #[.agg #[.slice na nm.length nc, .int .i64 1, .int .i64 tt, .int .i64 ad, .slice ta to.length tc, .slice xa tx.length xc, .slice ia nu.length ic]] w fun e w' => e = .returned (.bool false) ∧ Below w.heap.size w w' := by
 have b0 := UI (w := w) (.cells #[.slice na nm.length nc, .int .i64 1, .int .i64 tt, .int .i64 ad, .slice ta to.length tc, .slice xa tx.length xc, .slice ia nu.length ic] 63)
 have K0 := UC (heap_alloc_new w (.cells #[.slice na nm.length nc, .int .i64 1, .int .i64 tt, .int .i64 ad, .slice ta to.length tc, .slice xa tx.length xc, .slice ia nu.length ic] 63))
 have H0 := UC (h.below b0)
 clear h
 go_enter Tryz.func88, Tryz.ntmps88
 go_wp2_with fail
 go_ret
 exact ⟨rfl, b0⟩

theorem l3_1_1 {na : Option Addr} {nc : Nat} {ta : Option Addr} {tc : Nat} {xa : Option Addr} {xc : Nat} {ia : Option Addr} {ic : Nat} {nm to : List (List Int)} {tx nu : List Int} {tt ad : Int} {w : World} (h : HasR w (.slice na nm.length nc) (.slice ta to.length tc) (.slice xa tx.length xc) (.slice ia nu.length ic) ⟨nm, 1, tt, ad, to, tx, nu⟩) (hA : 4294967295 < ad) (hA0 : ¬ ad < 0) :
  Calls Tryz.prog 88 #[.agg #[.slice na nm.length nc, .int .i64 1, .int .i64 tt, .int .i64 ad, .slice ta to.length tc, .slice xa tx.length xc, .slice ia nu.length ic]] w fun e w' => e = .returned (.bool false) ∧ Below w.heap.size w w' := by
 have b0 := UI (w := w) (.cells #[.slice na nm.length nc, .int .i64 1, .int .i64 tt, .int .i64 ad, .slice ta to.length tc, .slice xa tx.length xc, .slice ia nu.length ic] 63)
 have K0 := UC (heap_alloc_new w (.cells #[.slice na nm.length nc, .int .i64 1, .int .i64 tt, .int .i64 ad, .slice ta to.length tc, .slice xa tx.length xc, .slice ia nu.length ic] 63))
 have H0 := UC (h.below b0)
 clear h
 go_enter Tryz.func88, Tryz.ntmps88
 go_wp2_with fail
 go_ret
 exact ⟨rfl, b0⟩

theorem l3_1_2 {na : Option Addr} {nc : Nat} {ta : Option Addr} {tc : Nat} {xa : Option Addr} {xc : Nat} {ia : Option Addr} {ic : Nat} {nm to : List (List Int)} {tx nu : List Int} {tt ad : Int} {w : World} (h : HasR w (.slice na nm.length nc) (.slice ta to.length tc) (.slice xa tx.length xc) (.slice ia nu.length ic) ⟨nm, 1, tt, ad, to, tx, nu⟩) (hA : 0 ≤ ad) (hA2 : ad ≤ 4294967295) (hB : to.length ≠ 0) :
  Calls Tryz.prog 88 #[.agg #[.slice na nm.length nc, .int .i64 1, .int .i64 tt, .int .i64 ad, .slice ta to.length tc, .slice xa tx.length xc, .slice ia nu.length ic]] w fun e w' => e = .returned (.bool false) ∧ Below w.heap.size w w' := by
 have ehB : (0 : Int) < to.length := by omega
 have fhB : ((to.length : Int) == 0) = false := by rw [beq_eq_false_iff_ne]; omega
 have b0 := UI (w := w) (.cells #[.slice na nm.length nc, .int .i64 1, .int .i64 tt, .int .i64 ad, .slice ta to.length tc, .slice xa tx.length xc, .slice ia nu.length ic] 63)
 have K0 := UC (heap_alloc_new w (.cells #[.slice na nm.length nc, .int .i64 1, .int .i64 tt, .int .i64 ad, .slice ta to.length tc, .slice xa tx.length xc, .slice ia nu.length ic] 63))
 have H0 := UC (h.below b0)
 clear h
 go_enter Tryz.func88, Tryz.ntmps88
 go_wp2_with fail
 generalize w.alloc (.cells #[.slice na nm.length nc, .int .i64 1, .int .i64 tt, .int .i64 ad, .slice ta to.length tc, .slice xa tx.length xc, .slice ia nu.length ic] 63) = W at *
 refine (VR 1 _ rfl).mono ?_
 rw [named_1]
 rintro e w1 ⟨rfl, rfl⟩
 obtain ⟨d0, d1, d2, d3, d4, d5, d6⟩ := UJ (UB K0)
 go_wp2_with fail
 go_ret
 exact ⟨rfl, b0⟩

theorem l3_1_3 {na : Option Addr} {nc : Nat} {ta : Option Addr} {tc : Nat} {xa : Option Addr} {xc : Nat} {ia : Option Addr} {ic : Nat} {nm to : List (List Int)} {tx nu : List Int} {tt ad : Int} {w : World} (h : HasR w (.slice na nm.length nc) (.slice ta to.length tc) (.slice xa tx.length xc) (.slice ia nu.length ic) ⟨nm, 1, tt, ad, to, tx, nu⟩) (hA : 0 ≤ ad) (hA2 : ad ≤ 4294967295) (hB : to.length = 0) (hC : tx.length ≠ 0) :
  Calls Tryz.prog 88 #[.agg #[.slice na nm.length nc, .int .i64 1, .int .i64 tt, .int .i64 ad, .slice ta to.length tc, .slice xa tx.length xc, .slice ia nu.length ic]] w fun e w' => e = .returned (.bool false) ∧ Below w.heap.size w w' := by
 obtain rfl := nil_of hB
 clear hB
 have ehC : (0 : Int) < tx.length := by omega
 have fhC : ((tx.length : Int) == 0) = false := by rw [beq_eq_false_iff_ne]; omega
 simp only [List.length_nil] at *
 have b0 := UI (w := w) (.cells #[.slice na nm.length nc, .int .i64 1, .int .i64 tt, .int .i64 ad, .slice ta 0 tc, .slice xa tx.length xc, .slice ia nu.length ic] 63)
 have K0 := UC (heap_alloc_new w (.cells #[.slice na nm.length nc, .int .i64 1, .int .i64 tt, .int .i64 ad, .slice ta 0 tc, .slice xa tx.length xc, .slice ia nu.length ic] 63))
 have H0 := UC (h.below b0)
 clear h
 go_enter Tryz.func88, Tryz.ntmps88
 go_wp2_with fail
 generalize w.alloc (.cells #[.slice na nm.length nc, .int .i64 1, .int .i64 tt, .int .i64 ad, .slice ta 0 tc, .slice xa tx.length xc, .slice ia nu.length ic] 63) = W at *
 refine (VR 1 _ rfl).mono ?_
 rw [named_1]
 rintro e w1 ⟨rfl, rfl⟩
 obtain ⟨d0, d1, d2, d3, d4, d5, d6⟩ := UJ (UB K0)
 go_wp2_with fail
 refine (VT 1 _ rfl).mono ?_
 rw [texted_1]
 rintro e w2 ⟨rfl, rfl⟩
 go_wp2_with fail
 go_ret
 exact ⟨rfl, b0⟩

theorem l3_1_4 {na : Option Addr} {nc : Nat} {ta : Option Addr} {tc : Nat} {xa : Option Addr} {xc : Nat} {ia : Option Addr} {ic : Nat} {nm to : List (List Int)} {tx nu : List Int} {tt ad : Int} {w : World} (h : HasR w (.slice na nm.length nc) (.slice ta to.length tc) (.slice xa tx.length xc) (.slice ia nu.length ic) ⟨nm, 1, tt, ad, to, tx, nu⟩) (hA : 0 ≤ ad) (hA2 : ad ≤ 4294967295) (hB : to.length = 0) (hC : tx.length = 0) (hD : nu.length ≠ 0) :
  Calls Tryz.prog 88 #[.agg #[.slice na nm.length nc, .int .i64 1, .int .i64 tt, .int .i64 ad, .slice ta to.length tc, .slice xa tx.length xc, .slice ia nu.length ic]] w fun e w' => e = .returned (.bool false) ∧ Below w.heap.size w w' := by
 obtain rfl := nil_of hB
 clear hB
 obtain rfl := nil_of hC
 clear hC
 have ehD : ((nu.length : Int) == 0) = false := by rw [beq_eq_false_iff_ne]; omega
 simp only [List.length_nil] at *
 have b0 := UI (w := w) (.cells #[.slice na nm.length nc, .int .i64 1, .int .i64 tt, .int .i64 ad, .slice ta 0 tc, .slice xa 0 xc, .slice ia nu.length ic] 63)
 have K0 := UC (heap_alloc_new w (.cells #[.slice na nm.length nc, .int .i64 1, .int .i64 tt, .int .i64 ad, .slice ta 0 tc, .slice xa 0 xc, .slice ia nu.length ic] 63))
 have H0 := UC (h.below b0)
 clear h
 go_enter Tryz.func88, Tryz.ntmps88
 go_wp2_with fail
 generalize w.alloc (.cells #[.slice na nm.length nc, .int .i64 1, .int .i64 tt, .int .i64 ad, .slice ta 0 tc, .slice xa 0 xc, .slice ia nu.length ic] 63) = W at *
 refine (VR 1 _ rfl).mono ?_
 rw [named_1]
 rintro e w1 ⟨rfl, rfl⟩
 obtain ⟨d0, d1, d2, d3, d4, d5, d6⟩ := UJ (UB K0)
 go_wp2_with fail
 refine (VT 1 _ rfl).mono ?_
 rw [texted_1]
 rintro e w2 ⟨rfl, rfl⟩
 go_wp2_with fail
 go_ret
 exact ⟨rfl, b0⟩

theorem l3_1_5 {na : Option Addr} {nc : Nat} {ta : Option Addr} {tc : Nat} {xa : Option Addr} {xc : Nat} {ia : Option Addr} {ic : Nat} {nm to : List (List Int)} {tx nu : List Int} {tt ad : Int} {w : World} (h : HasR w (.slice na nm.length nc) (.slice ta to.length tc) (.slice xa tx.length xc) (.slice ia nu.length ic) ⟨nm, 1, tt, ad, to, tx, nu⟩) (hA : 0 ≤ ad) (hA2 : ad ≤ 4294967295) (hB : to.length = 0) (hC : tx.length = 0) (hD : nu.length = 0) :
  Calls Tryz.prog 88 #[.agg #[.slice na nm.length nc, .int .i64 1, .int .i64 tt, .int .i64 ad, .slice ta to.length tc, .slice xa tx.length xc, .slice ia nu.length ic]] w fun e w' => e = .returned (.bool true) ∧ Below w.heap.size w w' := by
 obtain rfl := nil_of hB
 clear hB
 obtain rfl := nil_of hC
 clear hC
 obtain rfl := nil_of hD
 clear hD
 simp only [List.length_nil] at *
 have b0 := UI (w := w) (.cells #[.slice na nm.length nc, .int .i64 1, .int .i64 tt, .int .i64 ad, .slice ta 0 tc, .slice xa 0 xc, .slice ia 0 ic] 63)
 have K0 := UC (heap_alloc_new w (.cells #[.slice na nm.length nc, .int .i64 1, .int .i64 tt, .int .i64 ad, .slice ta 0 tc, .slice xa 0 xc, .slice ia 0 ic] 63))
 have H0 := UC (h.below b0)
 clear h
 go_enter Tryz.func88, Tryz.ntmps88
 go_wp2_with fail
 generalize w.alloc (.cells #[.slice na nm.length nc, .int .i64 1, .int .i64 tt, .int .i64 ad, .slice ta 0 tc, .slice xa 0 xc, .slice ia 0 ic] 63) = W at *
 refine (VR 1 _ rfl).mono ?_
 rw [named_1]
 rintro e w1 ⟨rfl, rfl⟩
 obtain ⟨d0, d1, d2, d3, d4, d5, d6⟩ := UJ (UB K0)
 go_wp2_with fail
 refine (VT 1 _ rfl).mono ?_
 rw [texted_1]
 rintro e w2 ⟨rfl, rfl⟩
 go_wp2_with fail
 go_ret
 exact ⟨rfl, b0⟩

theorem l3_2_0 {na : Option Addr} {nc : Nat} {ta : Option Addr} {tc : Nat} {xa : Option Addr} {xc : Nat} {ia : Option Addr} {ic : Nat} {nm to : List (List Int)} {tx nu : List Int} {tt ad : Int} {w : World} (h : HasR w (.slice na nm.length nc) (.slice ta to.length tc) (.slice xa tx.length xc) (.slice ia nu.length ic) ⟨nm, 2, tt, ad, to, tx, nu⟩) (hA : ad ≠ 0) :
  Calls Tryz.prog 88 #[.agg #[.slice na nm.length nc, .int .i64 2, .int .i64 tt, .int .i64 ad, .slice ta to.length tc, .slice xa tx.length xc, .slice ia nu.length ic]] w fun e w' => e = .returned (.bool false) ∧ Below w.heap.size w w' := by
 have ehA : (ad != 0) = true := by rw [bne_iff_ne]; exact hA
 have fhA : (ad == 0) = false := by rw [beq_eq_false_iff_ne]; exact hA
 have ghA : decide (ad = 0) = false := decide_eq_false hA
 have b0 := UI (w := w) (.cells #[.slice na nm.length nc, .int .i64 2, .int .i64 tt, .int .i64 ad, .slice ta to.length tc, .slice xa tx.length xc, .slice ia nu.length ic] 63)
 have K0 := UC (heap_alloc_new w (.cells #[.slice na nm.length nc, .int .i64 2, .int .i64 tt, .int .i64 ad, .slice ta to.length tc, .slice xa tx.length xc, .slice ia nu.length ic] 63))
 have H0 := UC (h.below b0)
 clear h
 go_enter Tryz.func88, Tryz.ntmps88
 go_wp2_with fail
 go_ret
 exact ⟨rfl, b0⟩

theorem l3_2_1 {na : Option Addr} {nc : Nat} {ta : Option Addr} {tc : Nat} {xa : Option Addr} {xc : Nat} {ia : Option Addr} {ic : Nat} {nm to : List (List Int)} {tx nu : List Int} {tt ad : Int} {w : World} (h : HasR w (.slice na nm.length nc) (.slice ta to.length tc) (.slice xa tx.length xc) (.slice ia nu.length ic) ⟨nm, 2, tt, ad, to, tx, nu⟩) (hA : ad = 0) (hB : nameOk to = false) :
  Calls Tryz.prog 88 #[.agg #[.slice na nm.length nc, .int .i64 2, .int .i64 tt, .int .i64 ad, .slice ta to.length tc, .slice xa tx.length xc, .slice ia nu.length ic]] w fun e w' => e = .returned (.bool false) ∧ Below w.heap.size w w' := by
 obtain rfl := hA
 have b0 := UI (w := w) (.cells #[.slice na nm.length nc, .int .i64 2, .int .i64 tt, .int .i64 0, .slice ta to.length tc, .slice xa tx.length xc, .slice ia nu.length ic] 63)
 have K0 := UC (heap_alloc_new w (.cells #[.slice na nm.length nc, .int .i64 2, .int .i64 tt, .int .i64 0, .slice ta to.length tc, .slice xa tx.length xc, .slice ia nu.length ic] 63))
 have H0 := UC (h.below b0)
 clear h
 have HB := UC hB
 clear hB
 go_enter Tryz.func88, Tryz.ntmps88
 go_wp2_with fail
 generalize w.alloc (.cells #[.slice na nm.length nc, .int .i64 2, .int .i64 tt, .int .i64 0, .slice ta to.length tc, .slice xa tx.length xc, .slice ia nu.length ic] 63) = W at *
 refine (VR 2 _ rfl).mono ?_
 rw [named_2]
 rintro e w1 ⟨rfl, rfl⟩
 obtain ⟨d0, d1, d2, d3, d4, d5, d6⟩ := UJ (UB K0)
 go_wp2_with fail
 clear d0 d1 d2 d3 d4 d5 d6
 refine (VO (show HasL W (.slice ta to.length tc) to from (UB H0).to)).mono ?_
 rw [UB HB]
 rintro e w1 ⟨rfl, b1⟩
 have bb1 := UG b0 b1
 have K1 := UC (UE b1 (UB K0))
 have H1 := UC ((UB H0).below b1)
 clear b1 b0 K0 H0
 obtain ⟨d0, d1, d2, d3, d4, d5, d6⟩ := UJ (UB K1)
 go_wp2_with fail
 go_ret
 exact ⟨rfl, bb1⟩

theorem l3_2_2 {na : Option Addr} {nc : Nat} {ta : Option Addr} {tc : Nat} {xa : Option Addr} {xc : Nat} {ia : Option Addr} {ic : Nat} {nm to : List (List Int)} {tx nu : List Int} {tt ad : Int} {w : World} (h : HasR w (.slice na nm.length nc) (.slice ta to.length tc) (.slice xa tx.length xc) (.slice ia nu.length ic) ⟨nm, 2, tt, ad, to, tx, nu⟩) (hA : ad = 0) (hB : nameOk to = true) (hC : tx.length ≠ 0) :
  Calls Tryz.prog 88 #[.agg #[.slice na nm.length nc, .int .i64 2, .int .i64 tt, .int .i64 ad, .slice ta to.length tc, .slice xa tx.length xc, .slice ia nu.length ic]] w fun e w' => e = .returned (.bool false) ∧ Below w.heap.size w w' := by
 obtain rfl := hA
 have ehC : (0 : Int) < tx.length := by omega
 have fhC : ((tx.length : Int) == 0) = false := by rw [beq_eq_false_iff_ne]; omega
 have b0 := UI (w := w) (.cells #[.slice na nm.length nc, .int .i64 2, .int .i64 tt, .int .i64 0, .slice ta to.length tc, .slice xa tx.length xc, .slice ia nu.length ic] 63)
 have K0 := UC (heap_alloc_new w (.cells #[.slice na nm.length nc, .int .i64 2, .int .i64 tt, .int .i64 0, .slice ta to.length tc, .slice xa tx.length xc, .slice ia nu.length ic] 63))
 have H0 := UC (h.below b0)
 clear h
 have HB := UC hB
 clear hB
 go_enter Tryz.func88, Tryz.ntmps88
 go_wp2_with fail
 generalize w.alloc (.cells #[.slice na nm.length nc, .int .i64 2, .int .i64 tt, .int .i64 0, .slice ta to.length tc, .slice xa tx.length xc, .slice ia nu.length ic] 63) = W at *
 refine (VR 2 _ rfl).mono ?_
 rw [named_2]
 rintro e w1 ⟨rfl, rfl⟩
 obtain ⟨d0, d1, d2, d3, d4, d5, d6⟩ := UJ (UB K0)
 go_wp2_with fail
 clear d0 d1 d2 d3 d4 d5 d6
 refine (VO (show HasL W (.slice ta to.length tc) to from (UB H0).to)).mono ?_
 rw [UB HB]
 rintro e w1 ⟨rfl, b1⟩
 have bb1 := UG b0 b1
 have K1 := UC (UE b1 (UB K0))
 have H1 := UC ((UB H0).below b1)
 clear b1 b0 K0 H0
 obtain ⟨d0, d1, d2, d3, d4, d5, d6⟩ := UJ (UB K1)
 go_wp2_with fail
 refine (VT 2 _ rfl).mono ?_
 rw [texted_2]
 rintro e w2 ⟨rfl, rfl⟩
 go_wp2_with fail
 go_ret
 exact ⟨rfl, bb1⟩

theorem l3_2_3 {na : Option Addr} {nc : Nat} {ta : Option Addr} {tc : Nat} {xa : Option Addr} {xc : Nat} {ia : Option Addr} {ic : Nat} {nm to : List (List Int)} {tx nu : List Int} {tt ad : Int} {w : World} (h : HasR w (.slice na nm.length nc) (.slice ta to.length tc) (.slice xa tx.length xc) (.slice ia nu.length ic) ⟨nm, 2, tt, ad, to, tx, nu⟩) (hA : ad = 0) (hB : nameOk to = true) (hC : tx.length = 0) (hD : nu.length ≠ 0) :
  Calls Tryz.prog 88 #[.agg #[.slice na nm.length nc, .int .i64 2, .int .i64 tt, .int .i64 ad, .slice ta to.length tc, .slice xa tx.length xc, .slice ia nu.length ic]] w fun e w' => e = .returned (.bool false) ∧ Below w.heap.size w w' := by
 obtain rfl := hA
 obtain rfl := nil_of hC
 clear hC
 have ehD : ((nu.length : Int) == 0) = false := by rw [beq_eq_false_iff_ne]; omega
 simp only [List.length_nil] at *
 have b0 := UI (w := w) (.cells #[.slice na nm.length nc, .int .i64 2, .int .i64 tt, .int .i64 0, .slice ta to.length tc, .slice xa 0 xc, .slice ia nu.length ic] 63)
 have K0 := UC (heap_alloc_new w (.cells #[.slice na nm.length nc, .int .i64 2, .int .i64 tt, .int .i64 0, .slice ta to.length tc, .slice xa 0 xc, .slice ia nu.length ic] 63))
 have H0 := UC (h.below b0)
 clear h
 have HB := UC hB
 clear hB
 go_enter Tryz.func88, Tryz.ntmps88
 go_wp2_with fail
 generalize w.alloc (.cells #[.slice na nm.length nc, .int .i64 2, .int .i64 tt, .int .i64 0, .slice ta to.length tc, .slice xa 0 xc, .slice ia nu.length ic] 63) = W at *
 refine (VR 2 _ rfl).mono ?_
 rw [named_2]
 rintro e w1 ⟨rfl, rfl⟩
 obtain ⟨d0, d1, d2, d3, d4, d5, d6⟩ := UJ (UB K0)
 go_wp2_with fail
 clear d0 d1 d2 d3 d4 d5 d6
 refine (VO (show HasL W (.slice ta to.length tc) to from (UB H0).to)).mono ?_
 rw [UB HB]
 rintro e w1 ⟨rfl, b1⟩
 have bb1 := UG b0 b1
 have K1 := UC (UE b1 (UB K0))
 have H1 := UC ((UB H0).below b1)
 clear b1 b0 K0 H0
 obtain ⟨d0, d1, d2, d3, d4, d5, d6⟩ := UJ (UB K1)
 go_wp2_with fail
 refine (VT 2 _ rfl).mono ?_
 rw [texted_2]
 rintro e w2 ⟨rfl, rfl⟩
 go_wp2_with fail
 go_ret
 exact ⟨rfl, bb1⟩

theorem l3_2_4 {na : Option Addr} {nc : Nat} {ta : Option Addr} {tc : Nat} {xa : Option Addr} {xc : Nat} {ia : Option Addr} {ic : Nat} {nm to : List (List Int)} {tx nu : List Int} {tt ad : Int} {w : World} (h : HasR w (.slice na nm.length nc) (.slice ta to.length tc) (.slice xa tx.length xc) (.slice ia nu.length ic) ⟨nm, 2, tt, ad, to, tx, nu⟩) (hA : ad = 0) (hB : nameOk to = true) (hC : tx.length = 0) (hD : nu.length = 0) :
  Calls Tryz.prog 88 #[.agg #[.slice na nm.length nc, .int .i64 2, .int .i64 tt, .int .i64 ad, .slice ta to.length tc, .slice xa tx.length xc, .slice ia nu.length ic]] w fun e w' => e = .returned (.bool true) ∧ Below w.heap.size w w' := by
 obtain rfl := hA
 obtain rfl := nil_of hC
 clear hC
 obtain rfl := nil_of hD
 clear hD
 simp only [List.length_nil] at *
 have b0 := UI (w := w) (.cells #[.slice na nm.length nc, .int .i64 2, .int .i64 tt, .int .i64 0, .slice ta to.length tc, .slice xa 0 xc, .slice ia 0 ic] 63)
 have K0 := UC (heap_alloc_new w (.cells #[.slice na nm.length nc, .int .i64 2, .int .i64 tt, .int .i64 0, .slice ta to.length tc, .slice xa 0 xc, .slice ia 0 ic] 63))
 have H0 := UC (h.below b0)
 clear h
 have HB := UC hB
 clear hB
 go_enter Tryz.func88, Tryz.ntmps88
 go_wp2_with fail
 generalize w.alloc (.cells #[.slice na nm.length nc, .int .i64 2, .int .i64 tt, .int .i64 0, .slice ta to.length tc, .slice xa 0 xc, .slice ia 0 ic] 63) = W at *
 refine (VR 2 _ rfl).mono ?_
 rw [named_2]
 rintro e w1 ⟨rfl, rfl⟩
 obtain ⟨d0, d1, d2, d3, d4, d5, d6⟩ := UJ (UB K0)
 go_wp2_with fail
 clear d0 d1 d2 d3 d4 d5 d6
 refine (VO (show HasL W (.slice ta to.length tc) to from (UB H0).to)).mono ?_
 rw [UB HB]
 rintro e w1 ⟨rfl, b1⟩
 have bb1 := UG b0 b1
 have K1 := UC (UE b1 (UB K0))
 have H1 := UC ((UB H0).below b1)
 clear b1 b0 K0 H0
 obtain ⟨d0, d1, d2, d3, d4, d5, d6⟩ := UJ (UB K1)
 go_wp2_with fail
 refine (VT 2 _ rfl).mono ?_
 rw [texted_2]
 rintro e w2 ⟨rfl, rfl⟩
 go_wp2_with fail
 go_ret
 exact ⟨rfl, bb1⟩

theorem l3_5_0 {na : Option Addr} {nc : Nat} {ta : Option Addr} {tc : Nat} {xa : Option Addr} {xc : Nat} {ia : Option Addr} {ic : Nat} {nm to : List (List Int)} {tx nu : List Int} {tt ad : Int} {w : World} (h : HasR w (.slice na nm.length nc) (.slice ta to.length tc) (.slice xa tx.length xc) (.slice ia nu.length ic) ⟨nm, 5, tt, ad, to, tx, nu⟩) (hA : ad ≠ 0) :
  Calls Tryz.prog 88 #[.agg #[.slice na nm.length nc, .int .i64 5, .int .i64 tt, .int .i64 ad, .slice ta to.length tc, .slice xa tx.length xc, .slice ia nu.length ic]] w fun e w' => e = .returned (.bool false) ∧ Below w.heap.size w w' := by
 have ehA : (ad != 0) = true := by rw [bne_iff_ne]; exact hA
 have fhA : (ad == 0) = false := by rw [beq_eq_false_iff_ne]; exact hA
 have ghA : decide (ad = 0) = false := decide_eq_false hA
 have b0 := UI (w := w) (.cells #[.slice na nm.length nc, .int .i64 5, .int .i64 tt, .int .i64 ad, .slice ta to.length tc, .slice xa tx.length xc, .slice ia nu.length ic] 63)
 have K0 := UC (heap_alloc_new w (.cells #[.slice na nm.length nc, .int .i64 5, .int .i64 tt, .int .i64 ad, .slice ta to.length tc, .slice xa tx.length xc, .slice ia nu.length ic] 63))
 have H0 := UC (h.below b0)
 clear h
 go_enter Tryz.func88, Tryz.ntmps88
 go_wp2_with fail
 go_ret
 exact ⟨rfl, b0⟩

theorem l3_5_1 {na : Option Addr} {nc : Nat} {ta : Option Addr} {tc : Nat} {xa : Option Addr} {xc : Nat} {ia : Option Addr} {ic : Nat} {nm to : List (List Int)} {tx nu : List Int} {tt ad : Int} {w : World} (h : HasR w (.slice na nm.length nc) (.slice ta to.length tc) (.slice xa tx.length xc) (.slice ia nu.length ic) ⟨nm, 5, tt, ad, to, tx, nu⟩) (hA : ad = 0) (hB : nameOk to = false) :
  Calls Tryz.prog 88 #[.agg #[.slice na nm.length nc, .int .i64 5, .int .i64 tt, .int .i64 ad, .slice ta to.length tc, .slice xa tx.length xc, .slice ia nu.length ic]] w fun e w' => e = .returned (.bool false) ∧ Below w.heap.size w w' := by
 obtain rfl := hA
 have b0 := UI (w := w) (.cells #[.slice na nm.length nc, .int .i64 5, .int .i64 tt, .int .i64 0, .slice ta to.length tc, .slice xa tx.length xc, .slice ia nu.length ic] 63)
 have K0 := UC (heap_alloc_new w (.cells #[.slice na nm.length nc, .int .i64 5, .int .i64 tt, .int .i64 0, .slice ta to.length tc, .slice xa tx.length xc, .slice ia nu.length ic] 63))
 have H0 := UC (h.below b0)
 clear h
 have HB := UC hB
 clear hB
 go_enter Tryz.func88, Tryz.ntmps88
 go_wp2_with fail
 generalize w.alloc (.cells #[.slice na nm.length nc, .int .i64 5, .int .i64 tt, .int .i64 0, .slice ta to.length tc, .slice xa tx.length xc, .slice ia nu.length ic] 63) = W at *
 refine (VR 5 _ rfl).mono ?_
 rw [named_5]
 rintro e w1 ⟨rfl, rfl⟩
 obtain ⟨d0, d1, d2, d3, d4, d5, d6⟩ := UJ (UB K0)
 go_wp2_with fail
 clear d0 d1 d2 d3 d4 d5 d6
 refine (VO (show HasL W (.slice ta to.length tc) to from (UB H0).to)).mono ?_
 rw [UB HB]
 rintro e w1 ⟨rfl, b1⟩
 have bb1 := UG b0 b1
 have K1 := UC (UE b1 (UB K0))
 have H1 := UC ((UB H0).below b1)
 clear b1 b0 K0 H0
 obtain ⟨d0, d1, d2, d3, d4, d5, d6⟩ := UJ (UB K1)
 go_wp2_with fail
 go_ret
 exact ⟨rfl, bb1⟩

theorem l3_5_2 {na : Option Addr} {nc : Nat} {ta : Option Addr} {tc : Nat} {xa : Option Addr} {xc : Nat} {ia : Option Addr} {ic : Nat} {nm to : List (List Int)} {tx nu : List Int} {tt ad : Int} {w : World} (h : HasR w (.slice na nm.length nc) (.slice ta to.length tc) (.slice xa tx.length xc) (.slice ia nu.length ic) ⟨nm, 5, tt, ad, to, tx, nu⟩) (hA : ad = 0) (hB : nameOk to = true) (hC : tx.length ≠ 0) :
  Calls Tryz.prog 88 #[.agg #[.slice na nm.length nc, .int .i64 5, .int .i64 tt, .int .i64 ad, .slice ta to.length tc, .slice xa tx.length xc, .slice ia nu.length ic]] w fun e w' => e = .returned (.bool false) ∧ Below w.heap.size w w' := by
 obtain rfl := hA
 have ehC : (0 : Int) < tx.length := by omega
 have fhC : ((tx.length : Int) == 0) = false := by rw [beq_eq_false_iff_ne]; omega
 have b0 := UI (w := w) (.cells #[.slice na nm.length nc, .int .i64 5, .int .i64 tt, .int .i64 0, .slice ta to.length tc, .slice xa tx.length xc, .slice ia nu.length ic] 63)
 have K0 := UC (heap_alloc_new w (.cells #[.slice na nm.length nc, .int .i64 5, .int .i64 tt, .int .i64 0, .slice ta to.length tc, .slice xa tx.length xc, .slice ia nu.length ic] 63))
 have H0 := UC (h.below b0)
 clear h
 have HB := UC hB
 clear hB
 go_enter Tryz.func88, Tryz.ntmps88
 go_wp2_with fail
 generalize w.alloc (.cells #[.slice na nm.length nc, .int .i64 5, .int .i64 tt, .int .i64 0, .slice ta to.length tc, .slice xa tx.length xc, .slice ia nu.length ic] 63) = W at *
 refine (VR 5 _ rfl).mono ?_
 rw [named_5]
 rintro e w1 ⟨rfl, rfl⟩
 obtain ⟨d0, d1, d2, d3, d4, d5, d6⟩ := UJ (UB K0)
 go_wp2_with fail
 clear d0 d1 d2 d3 d4 d5 d6
 refine (VO (show HasL W (.slice ta to.length tc) to from (UB H0).to)).mono ?_
 rw [UB HB]
 rintro e w1 ⟨rfl, b1⟩
 have bb1 := UG b0 b1
 have K1 := UC (UE b1 (UB K0))
 have H1 := UC ((UB H0).below b1)
 clear b1 b0 K0 H0
 obtain ⟨d0, d1, d2, d3, d4, d5, d6⟩ := UJ (UB K1)
 go_wp2_with fail
 refine (VT 5 _ rfl).mono ?_
 rw [texted_5]
 rintro e w2 ⟨rfl, rfl⟩
 go_wp2_with fail
 go_ret
 exact ⟨rfl, bb1⟩

theorem l3_5_3 {na : Option Addr} {nc : Nat} {ta : Option Addr} {tc : Nat} {xa : Option Addr} {xc : Nat} {ia : Option Addr} {ic : Nat} {nm to : List (List Int)} {tx nu : List Int} {tt ad : Int} {w : World} (h : HasR w (.slice na nm.length nc) (.slice ta to.length tc) (.slice xa tx.length xc) (.slice ia nu.length ic) ⟨nm, 5, tt, ad, to, tx, nu⟩) (hA : ad = 0) (hB : nameOk to = true) (hC : tx.length = 0) (hD : nu.length ≠ 0) :
  Calls Tryz.prog 88 #[.agg #[.slice na nm.length nc, .int .i64 5, .int .i64 tt, .int .i64 ad, .slice ta to.length tc, .slice xa tx.length xc, .slice ia nu.length ic]] w fun e w' => e = .returned (.bool false) ∧ Below w.heap.size w w' := by
 obtain rfl := hA
 obtain rfl := nil_of hC
 clear hC
 have ehD : ((nu.length : Int) == 0) = false := by rw [beq_eq_false_iff_ne]; omega
 simp only [List.length_nil] at *
 have b0 := UI (w := w) (.cells #[.slice na nm.length nc, .int .i64 5, .int .i64 tt, .int .i64 0, .slice ta to.length tc, .slice xa 0 xc, .slice ia nu.length ic] 63)
 have K0 := UC (heap_alloc_new w (.cells #[.slice na nm.length nc, .int .i64 5, .int .i64 tt, .int .i64 0, .slice ta to.length tc, .slice xa 0 xc, .slice ia nu.length ic] 63))
 have H0 := UC (h.below b0)
 clear h
 have HB := UC hB
 clear hB
 go_enter Tryz.func88, Tryz.ntmps88
 go_wp2_with fail
 generalize w.alloc (.cells #[.slice na nm.length nc, .int .i64 5, .int .i64 tt, .int .i64 0, .slice ta to.length tc, .slice xa 0 xc, .slice ia nu.length ic] 63) = W at *
 refine (VR 5 _ rfl).mono ?_
 rw [named_5]
 rintro e w1 ⟨rfl, rfl⟩
 obtain ⟨d0, d1, d2, d3, d4, d5, d6⟩ := UJ (UB K0)
 go_wp2_with fail
 clear d0 d1 d2 d3 d4 d5 d6
 refine (VO (show HasL W (.slice ta to.length tc) to from (UB H0).to)).mono ?_
 rw [UB HB]
 rintro e w1 ⟨rfl, b1⟩
 have bb1 := UG b0 b1
 have K1 := UC (UE b1 (UB K0))
 have H1 := UC ((UB H0).below b1)
 clear b1 b0 K0 H0
 obtain ⟨d0, d1, d2, d3, d4, d5, d6⟩ := UJ (UB K1)
 go_wp2_with fail
 refine (VT 5 _ rfl).mono ?_
 rw [texted_5]
 rintro e w2 ⟨rfl, rfl⟩
 go_wp2_with fail
 go_ret
 exact ⟨rfl, bb1⟩

theorem l3_5_4 {na : Option Addr} {nc : Nat} {ta : Option Addr} {tc : Nat} {xa : Option Addr} {xc : Nat} {ia : Option Addr} {ic : Nat} {nm to : List (List Int)} {tx nu : List Int} {tt ad : Int} {w : World} (h : HasR w (.slice na nm.length nc) (.slice ta to.length tc) (.slice xa tx.length xc) (.slice ia nu.length ic) ⟨nm, 5, tt, ad, to, tx, nu⟩) (hA : ad = 0) (hB : nameOk to = true) (hC : tx.length = 0) (hD : nu.length = 0) :
  Calls Tryz.prog 88 #[.agg #[.slice na nm.length nc, .int .i64 5, .int .i64 tt, .int .i64 ad, .slice ta to.length tc, .slice xa tx.length xc, .slice ia nu.length ic]] w fun e w' => e = .returned (.bool true) ∧ Below w.heap.size w w' := by
 obtain rfl := hA
 obtain rfl := nil_of hC
 clear hC
 obtain rfl := nil_of hD
 clear hD
 simp only [List.length_nil] at *
 have b0 := UI (w := w) (.cells #[.slice na nm.length nc, .int .i64 5, .int .i64 tt, .int .i64 0, .slice ta to.length tc, .slice xa 0 xc, .slice ia 0 ic] 63)
 have K0 := UC (heap_alloc_new w (.cells #[.slice na nm.length nc, .int .i64 5, .int .i64 tt, .int .i64 0, .slice ta to.length tc, .slice xa 0 xc, .slice ia 0 ic] 63))
 have H0 := UC (h.below b0)
 clear h
 have HB := UC hB
 clear hB
 go_enter Tryz.func88, Tryz.ntmps88
 go_wp2_with fail
 generalize w.alloc (.cells #[.slice na nm.length nc, .int .i64 5, .int .i64 tt, .int .i64 0, .slice ta to.length tc, .slice xa 0 xc, .slice ia 0 ic] 63) = W at *
 refine (VR 5 _ rfl).mono ?_
 rw [named_5]
 rintro e w1 ⟨rfl, rfl⟩
 obtain ⟨d0, d1, d2, d3, d4, d5, d6⟩ := UJ (UB K0)
 go_wp2_with fail
 clear d0 d1 d2 d3 d4 d5 d6
 refine (VO (show HasL W (.slice ta to.length tc) to from (UB H0).to)).mono ?_
 rw [UB HB]
 rintro e w1 ⟨rfl, b1⟩
 have bb1 := UG b0 b1
 have K1 := UC (UE b1 (UB K0))
 have H1 := UC ((UB H0).below b1)
 clear b1 b0 K0 H0
 obtain ⟨d0, d1, d2, d3, d4, d5, d6⟩ := UJ (UB K1)
 go_wp2_with fail
 refine (VT 5 _ rfl).mono ?_
 rw [texted_5]
 rintro e w2 ⟨rfl, rfl⟩
 go_wp2_with fail
 go_ret
 exact ⟨rfl, bb1⟩

theorem l3_6_0 {na : Option Addr} {nc : Nat} {ta : Option Addr} {tc : Nat} {xa : Option Addr} {xc : Nat} {ia : Option Addr} {ic : Nat} {nm to : List (List Int)} {tx nu : List Int} {tt ad : Int} {w : World} (h : HasR w (.slice na nm.length nc) (.slice ta to.length tc) (.slice xa tx.length xc) (.slice ia nu.length ic) ⟨nm, 6, tt, ad, to, tx, nu⟩) (hA : ad ≠ 0) :
  Calls Tryz.prog 88 #[.agg #[.slice na nm.length nc, .int .i64 6, .int .i64 tt, .int .i64 ad, .slice ta to.length tc, .slice xa tx.length xc, .slice ia nu.length ic]] w fun e w' => e = .returned (.bool false) ∧ Below w.heap.size w w' := by
 have ehA : (ad != 0) = true := by rw [bne_iff_ne]; exact hA
 have fhA : (ad == 0) = false := by rw [beq_eq_false_iff_ne]; exact hA
 have ghA : decide (ad = 0) = false := decide_eq_false hA
 have b0 := UI (w := w) (.cells #[.slice na nm.length nc, .int .i64 6, .int .i64 tt, .int .i64 ad, .slice ta to.length tc, .slice xa tx.length xc, .slice ia nu.length ic] 63)
 have K0 := UC (heap_alloc_new w (.cells #[.slice na nm.length nc, .int .i64 6, .int .i64 tt, .int .i64 ad, .slice ta to.length tc, .slice xa tx.length xc, .slice ia nu.length ic] 63))
 have H0 := UC (h.below b0)
 clear h
 go_enter Tryz.func88, Tryz.ntmps88
 go_wp2_with fail
 go_ret
 exact ⟨rfl, b0⟩

theorem l3_6_1 {na : Option Addr} {nc : Nat} {ta : Option Addr} {tc : Nat} {xa : Option Addr} {xc : Nat} {ia : Option Addr} {ic : Nat} {nm to : List (List Int)} {tx nu : List Int} {tt ad : Int} {w : World} (h : HasR w (.slice na nm.length nc) (.slice ta to.length tc) (.slice xa tx.length xc) (.slice ia nu.length ic) ⟨nm, 6, tt, ad, to, tx, nu⟩) (hA : ad = 0) (hB : nameOk to = false) :
  Calls Tryz.prog 88 #[.agg #[.slice na nm.length nc, .int .i64 6, .int .i64 tt, .int .i64 ad, .slice ta to.length tc, .slice xa tx.length xc, .slice ia nu.length ic]] w fun e w' => e = .returned (.bool false) ∧ Below w.heap.size w w' := by
 obtain rfl := hA
 have b0 := UI (w := w) (.cells #[.slice na nm.length nc, .int .i64 6, .int .i64 tt, .int .i64 0, .slice ta to.length tc, .slice xa tx.length xc, .slice ia nu.length ic] 63)
 have K0 := UC (heap_alloc_new w (.cells #[.slice na nm.length nc, .int .i64 6, .int .i64 tt, .int .i64 0, .slice ta to.length tc, .slice xa tx.length xc, .slice ia nu.length ic] 63))
 have H0 := UC (h.below b0)
 clear h
 have HB := UC hB
 clear hB
 go_enter Tryz.func88, Tryz.ntmps88
 go_wp2_with fail
 generalize w.alloc (.cells #[.slice na nm.length nc, .int .i64 6, .int .i64 tt, .int .i64 0, .slice ta to.length tc, .slice xa tx.length xc, .slice ia nu.length ic] 63) = W at *
 refine (VR 6 _ rfl).mono ?_
 rw [named_6]
 rintro e w1 ⟨rfl, rfl⟩
 obtain ⟨d0, d1, d2, d3, d4, d5, d6⟩ := UJ (UB K0)
 go_wp2_with fail
 clear d0 d1 d2 d3 d4 d5 d6
 refine (VO (show HasL W (.slice ta to.length tc) to from (UB H0).to)).mono ?_
 rw [UB HB]
 rintro e w1 ⟨rfl, b1⟩
 have bb1 := UG b0 b1
 have K1 := UC (UE b1 (UB K0))
 have H1 := UC ((UB H0).below b1)
 clear b1 b0 K0 H0
 obtain ⟨d0, d1, d2, d3, d4, d5, d6⟩ := UJ (UB K1)
 go_wp2_with fail
 go_ret
 exact ⟨rfl, bb1⟩

theorem l3_6_2 {na : Option Addr} {nc : Nat} {ta : Option Addr} {tc : Nat} {xa : Option Addr} {xc : Nat} {ia : Option Addr} {ic : Nat} {nm to : List (List Int)} {tx nu : List Int} {tt ad : Int} {w : World} (h : HasR w (.slice na nm.length nc) (.slice ta to.length tc) (.slice xa tx.length xc) (.slice ia nu.length ic) ⟨nm, 6, tt, ad, to, tx, nu⟩) (hA : ad = 0) (hB : nameOk to = true) (hC : tx.length ≠ 0) :
  Calls Tryz.prog 88 #[.agg #[.slice na nm.length nc, .int .i64 6, .int .i64 tt, .int .i64 ad, .slice ta to.length tc, .slice xa tx.length xc, .slice ia nu.length ic]] w fun e w' => e = .returned (.bool false) ∧ Below w.heap.size w w' := by
 obtain rfl := hA
 have ehC : (0 : Int) < tx.length := by omega
 have fhC : ((tx.length : Int) == 0) = false := by rw [beq_eq_false_iff_ne]; omega
 have b0 := UI (w := w) (.cells #[.slice na nm.length nc, .int .i64 6, .int .i64 tt, .int .i64 0, .slice ta to.length tc, .slice xa tx.length xc, .slice ia nu.length ic] 63)
 have K0 := UC (heap_alloc_new w (.cells #[.slice na nm.length nc, .int .i64 6, .int .i64 tt, .int .i64 0, .slice ta to.length tc, .slice xa tx.length xc, .slice ia nu.length ic] 63))
 have H0 := UC (h.below b0)
 clear h
 have HB := UC hB
 clear hB
 go_enter Tryz.func88, Tryz.ntmps88
 go_wp2_with fail
 generalize w.alloc (.cells #[.slice na nm.length nc, .int .i64 6, .int .i64 tt, .int .i64 0, .slice ta to.length tc, .slice xa tx.length xc, .slice ia nu.length ic] 63) = W at *
 refine (VR 6 _ rfl).mono ?_
 rw [named_6]
 rintro e w1 ⟨rfl, rfl⟩
 obtain ⟨d0, d1, d2, d3, d4, d5, d6⟩ := UJ (UB K0)
 go_wp2_with fail
 clear d0 d1 d2 d3 d4 d5 d6
 refine (VO (show HasL W (.slice ta to.length tc) to from (UB H0).to)).mono ?_
 rw [UB HB]
 rintro e w1 ⟨rfl, b1⟩
 have bb1 := UG b0 b1
 have K1 := UC (UE b1 (UB K0))
 have H1 := UC ((UB H0).below b1)
 clear b1 b0 K0 H0
 obtain ⟨d0, d1, d2, d3, d4, d5, d6⟩ := UJ (UB K1)
 go_wp2_with fail
 refine (VT 6 _ rfl).mono ?_
 rw [texted_6]
 rintro e w2 ⟨rfl, rfl⟩
 go_wp2_with fail
 go_ret
 exact ⟨rfl, bb1⟩

theorem l3_6_3 {na : Option Addr} {nc : Nat} {ta : Option Addr} {tc : Nat} {xa : Option Addr} {xc : Nat} {ia : Option Addr} {ic : Nat} {nm to : List (List Int)} {tx nu : List Int} {tt ad : Int} {w : World} (h : HasR w (.slice na nm.length nc) (.slice ta to.length tc) (.slice xa tx.length xc) (.slice ia nu.length ic) ⟨nm, 6, tt, ad, to, tx, nu⟩) (hA : ad = 0) (hB : nameOk to = true) (hC : tx.length = 0) (hD : nu.length ≠ 2) :
  Calls Tryz.prog 88 #[.agg #[.slice na nm.length nc, .int .i64 6, .int .i64 tt, .int .i64 ad, .slice ta to.length tc, .slice xa tx.length xc, .slice ia nu.length ic]] w fun e w' => e = .returned (.bool false) ∧ Below w.heap.size w w' := by
 obtain rfl := hA
 obtain rfl := nil_of hC
 clear hC
 have ehD : ((nu.length : Int) != 2) = true := by rw [bne_iff_ne]; omega
 have fhD : ((nu.length : Int) == 2) = false := by rw [beq_eq_false_iff_ne]; omega
 simp only [List.length_nil] at *
 have b0 := UI (w := w) (.cells #[.slice na nm.length nc, .int .i64 6, .int .i64 tt, .int .i64 0, .slice ta to.length tc, .slice xa 0 xc, .slice ia nu.length ic] 63)
 have K0 := UC (heap_alloc_new w (.cells #[.slice na nm.length nc, .int .i64 6, .int .i64 tt, .int .i64 0, .slice ta to.length tc, .slice xa 0 xc, .slice ia nu.length ic] 63))
 have H0 := UC (h.below b0)
 clear h
 have HB := UC hB
 clear hB
 go_enter Tryz.func88, Tryz.ntmps88
 go_wp2_with fail
 generalize w.alloc (.cells #[.slice na nm.length nc, .int .i64 6, .int .i64 tt, .int .i64 0, .slice ta to.length tc, .slice xa 0 xc, .slice ia nu.length ic] 63) = W at *
 refine (VR 6 _ rfl).mono ?_
 rw [named_6]
 rintro e w1 ⟨rfl, rfl⟩
 obtain ⟨d0, d1, d2, d3, d4, d5, d6⟩ := UJ (UB K0)
 go_wp2_with fail
 clear d0 d1 d2 d3 d4 d5 d6
 refine (VO (show HasL W (.slice ta to.length tc) to from (UB H0).to)).mono ?_
 rw [UB HB]
 rintro e w1 ⟨rfl, b1⟩
 have bb1 := UG b0 b1
 have K1 := UC (UE b1 (UB K0))
 have H1 := UC ((UB H0).below b1)
 clear b1 b0 K0 H0
 obtain ⟨d0, d1, d2, d3, d4, d5, d6⟩ := UJ (UB K1)
 go_wp2_with fail
 refine (VT 6 _ rfl).mono ?_
 rw [texted_6]
 rintro e w2 ⟨rfl, rfl⟩
 go_wp2_with fail
 go_ret
 exact ⟨rfl, bb1⟩

theorem l3_6_4 {na : Option Addr} {nc : Nat} {ta : Option Addr} {tc : Nat} {xa : Option Addr} {xc : Nat} {ia : Option Addr} {ic : Nat} {nm to : List (List Int)} {tx nu : List Int} {tt ad : Int} {w : World} (h : HasR w (.slice na nm.length nc) (.slice ta to.length tc) (.slice xa tx.length xc) (.slice ia nu.length ic) ⟨nm, 6, tt, ad, to, tx, nu⟩) (hA : ad = 0) (hB : nameOk to = true) (hC : tx.length = 0) (hD : nu.length = 2) (hE : nu.getD 0 0 < 0) :
  Calls Tryz.prog 88 #[.agg #[.slice na nm.length nc, .int .i64 6, .int .i64 tt, .int .i64 ad, .slice ta to.length tc, .slice xa tx.length xc, .slice ia nu.length ic]] w fun e w' => e = .returned (.bool false) ∧ Below w.heap.size w w' := by
 obtain rfl := hA
 obtain rfl := nil_of hC
 clear hC
 obtain ⟨x, y, rfl⟩ := two_of hD
 clear hD
 replace hE : x < 0 := hE
 simp only [List.length_nil] at *
 simp only [List.length_cons, List.length_nil, Nat.zero_add, Nat.reduceAdd] at *
 have b0 := UI (w := w) (.cells #[.slice na nm.length nc, .int .i64 6, .int .i64 tt, .int .i64 0, .slice ta to.length tc, .slice xa 0 xc, .slice ia 2 ic] 63)
 have K0 := UC (heap_alloc_new w (.cells #[.slice na nm.length nc, .int .i64 6, .int .i64 tt, .int .i64 0, .slice ta to.length tc, .slice xa 0 xc, .slice ia 2 ic] 63))
 have H0 := UC (h.below b0)
 clear h
 have HB := UC hB
 clear hB
 go_enter Tryz.func88, Tryz.ntmps88
 go_wp2_with fail
 generalize w.alloc (.cells #[.slice na nm.length nc, .int .i64 6, .int .i64 tt, .int .i64 0, .slice ta to.length tc, .slice xa 0 xc, .slice ia 2 ic] 63) = W at *
 refine (VR 6 _ rfl).mono ?_
 rw [named_6]
 rintro e w1 ⟨rfl, rfl⟩
 obtain ⟨d0, d1, d2, d3, d4, d5, d6⟩ := UJ (UB K0)
 go_wp2_with fail
 clear d0 d1 d2 d3 d4 d5 d6
 refine (VO (show HasL W (.slice ta to.length tc) to from (UB H0).to)).mono ?_
 rw [UB HB]
 rintro e w1 ⟨rfl, b1⟩
 have bb1 := UG b0 b1
 have K1 := UC (UE b1 (UB K0))
 have H1 := UC ((UB H0).below b1)
 clear b1 b0 K0 H0
 obtain ⟨d0, d1, d2, d3, d4, d5, d6⟩ := UJ (UB K1)
 go_wp2_with fail
 obtain ⟨g, off, cp, hv, _, n0, n1⟩ := (show HasI _ (.slice ia 2 ic) [x, y] from (UB H1).nums).two
 simp only [Value.slice.injEq] at hv
 obtain ⟨rfl, _, rfl⟩ := hv
 refine (VT 6 _ rfl).mono ?_
 rw [texted_6]
 rintro e w2 ⟨rfl, rfl⟩
 go_wp2_with fail
 go_ret
 exact ⟨rfl, bb1⟩

theorem l3_6_5 {na : Option Addr} {nc : Nat} {ta : Option Addr} {tc : Nat} {xa : Option Addr} {xc : Nat} {ia : Option Addr} {ic : Nat} {nm to : List (List Int)} {tx nu : List Int} {tt ad : Int} {w : World} (h : HasR w (.slice na nm.length nc) (.slice ta to.length tc) (.slice xa tx.length xc) (.slice ia nu.length ic) ⟨nm, 6, tt, ad, to, tx, nu⟩) (hA : ad = 0) (hB : nameOk to = true) (hC : tx.length = 0) (hD : nu.length = 2) (hE : 0 ≤ nu.getD 0 0) (hF : 4294967295 < nu.getD 0 0) :
  Calls Tryz.prog 88 #[.agg #[.slice na nm.length nc, .int .i64 6, .int .i64 tt, .int .i64 ad, .slice ta to.length tc, .slice xa tx.length xc, .slice ia nu.length ic]] w fun e w' => e = .returned (.bool false) ∧ Below w.heap.size w w' := by
 obtain rfl := hA
 obtain rfl := nil_of hC
 clear hC
 obtain ⟨x, y, rfl⟩ := two_of hD
 clear hD
 replace hE : 0 ≤ x := hE
 replace hF : 4294967295 < x := hF
 simp only [List.length_nil] at *
 simp only [List.length_cons, List.length_nil, Nat.zero_add, Nat.reduceAdd] at *
 have b0 := UI (w := w) (.cells #[.slice na nm.length nc, .int .i64 6, .int .i64 tt, .int .i64 0, .slice ta to.length tc, .slice xa 0 xc, .slice ia 2 ic] 63)
 have K0 := UC (heap_alloc_new w (.cells #[.slice na nm.length nc, .int .i64 6, .int .i64 tt, .int .i64 0, .slice ta to.length tc, .slice xa 0 xc, .slice ia 2 ic] 63))
 have H0 := UC (h.below b0)
 clear h
 have HB := UC hB
 clear hB
 go_enter Tryz.func88, Tryz.ntmps88
 go_wp2_with fail
 generalize w.alloc (.cells #[.slice na nm.length nc, .int .i64 6, .int .i64 tt, .int .i64 0, .slice ta to.length tc, .slice xa 0 xc, .slice ia 2 ic] 63) = W at *
 refine (VR 6 _ rfl).mono ?_
 rw [named_6]
 rintro e w1 ⟨rfl, rfl⟩
 obtain ⟨d0, d1, d2, d3, d4, d5, d6⟩ := UJ (UB K0)
 go_wp2_with fail
 clear d0 d1 d2 d3 d4 d5 d6
 refine (VO (show HasL W (.slice ta to.length tc) to from (UB H0).to)).mono ?_
 rw [UB HB]
 rintro e w1 ⟨rfl, b1⟩
 have bb1 := UG b0 b1
 have K1 := UC (UE b1 (UB K0))
 have H1 := UC ((UB H0).below b1)
 clear b1 b0 K0 H0
 obtain ⟨d0, d1, d2, d3, d4, d5, d6⟩ := UJ (UB K1)
 go_wp2_with fail
 obtain ⟨g, off, cp, hv, _, n0, n1⟩ := (show HasI _ (.slice ia 2 ic) [x, y] from (UB H1).nums).two
 simp only [Value.slice.injEq] at hv
 obtain ⟨rfl, _, rfl⟩ := hv
 refine (VT 6 _ rfl).mono ?_
 rw [texted_6]
 rintro e w2 ⟨rfl, rfl⟩
 go_wp2_with fail
 go_ret
 exact ⟨rfl, bb1⟩

theorem l3_6_6 {na : Option Addr} {nc : Nat} {ta : Option Addr} {tc : Nat} {xa : Option Addr} {xc : Nat} {ia : Option Addr} {ic : Nat} {nm to : List (List Int)} {tx nu : List Int} {tt ad : Int} {w : World} (h : HasR w (.slice na nm.length nc) (.slice ta to.length tc) (.slice xa tx.length xc) (.slice ia nu.length ic) ⟨nm, 6, tt, ad, to, tx, nu⟩) (hA : ad = 0) (hB : nameOk to = true) (hC : tx.length = 0) (hD : nu.length = 2) (hE : 0 ≤ nu.getD 0 0) (hF : nu.getD 0 0 ≤ 4294967295) (hG : nu.getD 1 0 < 0) :
  Calls Tryz.prog 88 #[.agg #[.slice na nm.length nc, .int .i64 6, .int .i64 tt, .int .i64 ad, .slice ta to.length tc, .slice xa tx.length xc, .slice ia nu.length ic]] w fun e w' => e = .returned (.bool false) ∧ Below w.heap.size w w' := by
 obtain rfl := hA
 obtain rfl := nil_of hC
 clear hC
 obtain ⟨x, y, rfl⟩ := two_of hD
 clear hD
 replace hE : 0 ≤ x := hE
 replace hF : x ≤ 4294967295 := hF
 replace hG : y < 0 := hG
 have dhG : decide (0 ≤ y) = false := decide_eq_false (by omega)
 simp only [List.length_nil] at *
 simp only [List.length_cons, List.length_nil, Nat.zero_add, Nat.reduceAdd] at *
 have b0 := UI (w := w) (.cells #[.slice na nm.length nc, .int .i64 6, .int .i64 tt, .int .i64 0, .slice ta to.length tc, .slice xa 0 xc, .slice ia 2 ic] 63)
 have K0 := UC (heap_alloc_new w (.cells #[.slice na nm.length nc, .int .i64 6, .int .i64 tt, .int .i64 0, .slice ta to.length tc, .slice xa 0 xc, .slice ia 2 ic] 63))
 have H0 := UC (h.below b0)
 clear h
 have HB := UC hB
 clear hB
 go_enter Tryz.func88, Tryz.ntmps88
 go_wp2_with fail
 generalize w.alloc (.cells #[.slice na nm.length nc, .int .i64 6, .int .i64 tt, .int .i64 0, .slice ta to.length tc, .slice xa 0 xc, .slice ia 2 ic] 63) = W at *
 refine (VR 6 _ rfl).mono ?_
 rw [named_6]
 rintro e w1 ⟨rfl, rfl⟩
 obtain ⟨d0, d1, d2, d3, d4, d5, d6⟩ := UJ (UB K0)
 go_wp2_with fail
 clear d0 d1 d2 d3 d4 d5 d6
 refine (VO (show HasL W (.slice ta to.length tc) to from (UB H0).to)).mono ?_
 rw [UB HB]
 rintro e w1 ⟨rfl, b1⟩
 have bb1 := UG b0 b1
 have K1 := UC (UE b1 (UB K0))
 have H1 := UC ((UB H0).below b1)
 clear b1 b0 K0 H0
 obtain ⟨d0, d1, d2, d3, d4, d5, d6⟩ := UJ (UB K1)
 go_wp2_with fail
 obtain ⟨g, off, cp, hv, _, n0, n1⟩ := (show HasI _ (.slice ia 2 ic) [x, y] from (UB H1).nums).two
 simp only [Value.slice.injEq] at hv
 obtain ⟨rfl, _, rfl⟩ := hv
 refine (VT 6 _ rfl).mono ?_
 rw [texted_6]
 rintro e w2 ⟨rfl, rfl⟩
 go_wp2_with fail
 go_ret
 exact ⟨rfl, bb1⟩

theorem l3_6_7 {na : Option Addr} {nc : Nat} {ta : Option Addr} {tc : Nat} {xa : Option Addr} {xc : Nat} {ia : Option Addr} {ic : Nat} {nm to : List (List Int)} {tx nu : List Int} {tt ad : Int} {w : World} (h : HasR w (.slice na nm.length nc) (.slice ta to.length tc) (.slice xa tx.length xc) (.slice ia nu.length ic) ⟨nm, 6, tt, ad, to, tx, nu⟩) (hA : ad = 0) (hB : nameOk to = true) (hC : tx.length = 0) (hD : nu.length = 2) (hE : 0 ≤ nu.getD 0 0) (hF : nu.getD 0 0 ≤ 4294967295) (hG : 0 ≤ nu.getD 1 0) (hH : 100000 < nu.getD 1 0) :
  Calls Tryz.prog 88 #[.agg #[.slice na nm.length nc, .int .i64 6, .int .i64 tt, .int .i64 ad, .slice ta to.length tc, .slice xa tx.length xc, .slice ia nu.length ic]] w fun e w' => e = .returned (.bool false) ∧ Below w.heap.size w w' := by
 obtain rfl := hA
 obtain rfl := nil_of hC
 clear hC
 obtain ⟨x, y, rfl⟩ := two_of hD
 clear hD
 replace hE : 0 ≤ x := hE
 replace hF : x ≤ 4294967295 := hF
 replace hG : 0 ≤ y := hG
 replace hH : 100000 < y := hH
 have dhH : decide (y ≤ 100000) = false := decide_eq_false (by omega)
 simp only [List.length_nil] at *
 simp only [List.length_cons, List.length_nil, Nat.zero_add, Nat.reduceAdd] at *
 have b0 := UI (w := w) (.cells #[.slice na nm.length nc, .int .i64 6, .int .i64 tt, .int .i64 0, .slice ta to.length tc, .slice xa 0 xc, .slice ia 2 ic] 63)
 have K0 := UC (heap_alloc_new w (.cells #[.slice na nm.length nc, .int .i64 6, .int .i64 tt, .int .i64 0, .slice ta to.length tc, .slice xa 0 xc, .slice ia 2 ic] 63))
 have H0 := UC (h.below b0)
 clear h
 have HB := UC hB
 clear hB
 go_enter Tryz.func88, Tryz.ntmps88
 go_wp2_with fail
 generalize w.alloc (.cells #[.slice na nm.length nc, .int .i64 6, .int .i64 tt, .int .i64 0, .slice ta to.length tc, .slice xa 0 xc, .slice ia 2 ic] 63) = W at *
 refine (VR 6 _ rfl).mono ?_
 rw [named_6]
 rintro e w1 ⟨rfl, rfl⟩
 obtain ⟨d0, d1, d2, d3, d4, d5, d6⟩ := UJ (UB K0)
 go_wp2_with fail
 clear d0 d1 d2 d3 d4 d5 d6
 refine (VO (show HasL W (.slice ta to.length tc) to from (UB H0).to)).mono ?_
 rw [UB HB]
 rintro e w1 ⟨rfl, b1⟩
 have bb1 := UG b0 b1
 have K1 := UC (UE b1 (UB K0))
 have H1 := UC ((UB H0).below b1)
 clear b1 b0 K0 H0
 obtain ⟨d0, d1, d2, d3, d4, d5, d6⟩ := UJ (UB K1)
 go_wp2_with fail
 obtain ⟨g, off, cp, hv, _, n0, n1⟩ := (show HasI _ (.slice ia 2 ic) [x, y] from (UB H1).nums).two
 simp only [Value.slice.injEq] at hv
 obtain ⟨rfl, _, rfl⟩ := hv
 refine (VT 6 _ rfl).mono ?_
 rw [texted_6]
 rintro e w2 ⟨rfl, rfl⟩
 go_wp2_with fail
 go_ret
 exact ⟨rfl, bb1⟩

theorem l3_6_8 {na : Option Addr} {nc : Nat} {ta : Option Addr} {tc : Nat} {xa : Option Addr} {xc : Nat} {ia : Option Addr} {ic : Nat} {nm to : List (List Int)} {tx nu : List Int} {tt ad : Int} {w : World} (h : HasR w (.slice na nm.length nc) (.slice ta to.length tc) (.slice xa tx.length xc) (.slice ia nu.length ic) ⟨nm, 6, tt, ad, to, tx, nu⟩) (hA : ad = 0) (hB : nameOk to = true) (hC : tx.length = 0) (hD : nu.length = 2) (hE : 0 ≤ nu.getD 0 0) (hF : nu.getD 0 0 ≤ 4294967295) (hG : 0 ≤ nu.getD 1 0) (hH : nu.getD 1 0 ≤ 100000) :
  Calls Tryz.prog 88 #[.agg #[.slice na nm.length nc, .int .i64 6, .int .i64 tt, .int .i64 ad, .slice ta to.length tc, .slice xa tx.length xc, .slice ia nu.length ic]] w fun e w' => e = .returned (.bool true) ∧ Below w.heap.size w w' := by
 obtain rfl := hA
 obtain rfl := nil_of hC
 clear hC
 obtain ⟨x, y, rfl⟩ := two_of hD
 clear hD
 replace hE : 0 ≤ x := hE
 replace hF : x ≤ 4294967295 := hF
 replace hG : 0 ≤ y := hG
 replace hH : y ≤ 100000 := hH
 have dhH : decide (y ≤ 100000) = true := decide_eq_true (by omega)
 simp only [List.length_nil] at *
 simp only [List.length_cons, List.length_nil, Nat.zero_add, Nat.reduceAdd] at *
 have b0 := UI (w := w) (.cells #[.slice na nm.length nc, .int .i64 6, .int .i64 tt, .int .i64 0, .slice ta to.length tc, .slice xa 0 xc, .slice ia 2 ic] 63)
 have K0 := UC (heap_alloc_new w (.cells #[.slice na nm.length nc, .int .i64 6, .int .i64 tt, .int .i64 0, .slice ta to.length tc, .slice xa 0 xc, .slice ia 2 ic] 63))
 have H0 := UC (h.below b0)
 clear h
 have HB := UC hB
 clear hB
 go_enter Tryz.func88, Tryz.ntmps88
 go_wp2_with fail
 generalize w.alloc (.cells #[.slice na nm.length nc, .int .i64 6, .int .i64 tt, .int .i64 0, .slice ta to.length tc, .slice xa 0 xc, .slice ia 2 ic] 63) = W at *
 refine (VR 6 _ rfl).mono ?_
 rw [named_6]
 rintro e w1 ⟨rfl, rfl⟩
 obtain ⟨d0, d1, d2, d3, d4, d5, d6⟩ := UJ (UB K0)
 go_wp2_with fail
 clear d0 d1 d2 d3 d4 d5 d6
 refine (VO (show HasL W (.slice ta to.length tc) to from (UB H0).to)).mono ?_
 rw [UB HB]
 rintro e w1 ⟨rfl, b1⟩
 have bb1 := UG b0 b1
 have K1 := UC (UE b1 (UB K0))
 have H1 := UC ((UB H0).below b1)
 clear b1 b0 K0 H0
 obtain ⟨d0, d1, d2, d3, d4, d5, d6⟩ := UJ (UB K1)
 go_wp2_with fail
 obtain ⟨g, off, cp, hv, _, n0, n1⟩ := (show HasI _ (.slice ia 2 ic) [x, y] from (UB H1).nums).two
 simp only [Value.slice.injEq] at hv
 obtain ⟨rfl, _, rfl⟩ := hv
 refine (VT 6 _ rfl).mono ?_
 rw [texted_6]
 rintro e w2 ⟨rfl, rfl⟩
 go_wp2_with fail
 go_ret
 exact ⟨rfl, bb1⟩

theorem l3_12_0 {na : Option Addr} {nc : Nat} {ta : Option Addr} {tc : Nat} {xa : Option Addr} {xc : Nat} {ia : Option Addr} {ic : Nat} {nm to : List (List Int)} {tx nu : List Int} {tt ad : Int} {w : World} (h : HasR w (.slice na nm.length nc) (.slice ta to.length tc) (.slice xa tx.length xc) (.slice ia nu.length ic) ⟨nm, 12, tt, ad, to, tx, nu⟩) (hA : ad ≠ 0) :
  Calls Tryz.prog 88 #[.agg #[.slice na nm.length nc, .int .i64 12, .int .i64 tt, .int .i64 ad, .slice ta to.length tc, .slice xa tx.length xc, .slice ia nu.length ic]] w fun e w' => e = .returned (.bool false) ∧ Below w.heap.size w w' := by
 have ehA : (ad != 0) = true := by rw [bne_iff_ne]; exact hA
 have fhA : (ad == 0) = false := by rw [beq_eq_false_iff_ne]; exact hA
 have ghA : decide (ad = 0) = false := decide_eq_false hA
 have b0 := UI (w := w) (.cells #[.slice na nm.length nc, .int .i64 12, .int .i64 tt, .int .i64 ad, .slice ta to.length tc, .slice xa tx.length xc, .slice ia nu.length ic] 63)
 have K0 := UC (heap_alloc_new w (.cells #[.slice na nm.length nc, .int .i64 12, .int .i64 tt, .int .i64 ad, .slice ta to.length tc, .slice xa tx.length xc, .slice ia nu.length ic] 63))
 have H0 := UC (h.below b0)
 clear h
 go_enter Tryz.func88, Tryz.ntmps88
 go_wp2_with fail
 go_ret
 exact ⟨rfl, b0⟩

theorem l3_12_1 {na : Option Addr} {nc : Nat} {ta : Option Addr} {tc : Nat} {xa : Option Addr} {xc : Nat} {ia : Option Addr} {ic : Nat} {nm to : List (List Int)} {tx nu : List Int} {tt ad : Int} {w : World} (h : HasR w (.slice na nm.length nc) (.slice ta to.length tc) (.slice xa tx.length xc) (.slice ia nu.length ic) ⟨nm, 12, tt, ad, to, tx, nu⟩) (hA : ad = 0) (hB : nameOk to = false) :
  Calls Tryz.prog 88 #[.agg #[.slice na nm.length nc, .int .i64 12, .int .i64 tt, .int .i64 ad, .slice ta to.length tc, .slice xa tx.length xc, .slice ia nu.length ic]] w fun e w' => e = .returned (.bool false) ∧ Below w.heap.size w w' := by
 obtain rfl := hA
 have b0 := UI (w := w) (.cells #[.slice na nm.length nc, .int .i64 12, .int .i64 tt, .int .i64 0, .slice ta to.length tc, .slice xa tx.length xc, .slice ia nu.length ic] 63)
 have K0 := UC (heap_alloc_new w (.cells #[.slice na nm.length nc, .int .i64 12, .int .i64 tt, .int .i64 0, .slice ta to.length tc, .slice xa tx.length xc, .slice ia nu.length ic] 63))
 have H0 := UC (h.below b0)
 clear h
 have HB := UC hB
 clear hB
 go_enter Tryz.func88, Tryz.ntmps88
 go_wp2_with fail
 generalize w.alloc (.cells #[.slice na nm.length nc, .int .i64 12, .int .i64 tt, .int .i64 0, .slice ta to.length tc, .slice xa tx.length xc, .slice ia nu.length ic] 63) = W at *
 refine (VR 12 _ rfl).mono ?_
 rw [named_12]
 rintro e w1 ⟨rfl, rfl⟩
 obtain ⟨d0, d1, d2, d3, d4, d5, d6⟩ := UJ (UB K0)
 go_wp2_with fail
 clear d0 d1 d2 d3 d4 d5 d6
 refine (VO (show HasL W (.slice ta to.length tc) to from (UB H0).to)).mono ?_
 rw [UB HB]
 rintro e w1 ⟨rfl, b1⟩
 have bb1 := UG b0 b1
 have K1 := UC (UE b1 (UB K0))
 have H1 := UC ((UB H0).below b1)
 clear b1 b0 K0 H0
 obtain ⟨d0, d1, d2, d3, d4, d5, d6⟩ := UJ (UB K1)
 go_wp2_with fail
 go_ret
 exact ⟨rfl, bb1⟩

theorem l3_12_2 {na : Option Addr} {nc : Nat} {ta : Option Addr} {tc : Nat} {xa : Option Addr} {xc : Nat} {ia : Option Addr} {ic : Nat} {nm to : List (List Int)} {tx nu : List Int} {tt ad : Int} {w : World} (h : HasR w (.slice na nm.length nc) (.slice ta to.length tc) (.slice xa tx.length xc) (.slice ia nu.length ic) ⟨nm, 12, tt, ad, to, tx, nu⟩) (hA : ad = 0) (hB : nameOk to = true) (hC : tx.length ≠ 0) :
  Calls Tryz.prog 88 #[.agg #[.slice na nm.length nc, .int .i64 12, .int .i64 tt, .int .i64 ad, .slice ta to.length tc, .slice xa tx.length xc, .slice ia nu.length ic]] w fun e w' => e = .returned (.bool false) ∧ Below w.heap.size w w' := by
 obtain rfl := hA
 have ehC : (0 : Int) < tx.length := by omega
 have fhC : ((tx.length : Int) == 0) = false := by rw [beq_eq_false_iff_ne]; omega
 have b0 := UI (w := w) (.cells #[.slice na nm.length nc, .int .i64 12, .int .i64 tt, .int .i64 0, .slice ta to.length tc, .slice xa tx.length xc, .slice ia nu.length ic] 63)
 have K0 := UC (heap_alloc_new w (.cells #[.slice na nm.length nc, .int .i64 12, .int .i64 tt, .int .i64 0, .slice ta to.length tc, .slice xa tx.length xc, .slice ia nu.length ic] 63))
 have H0 := UC (h.below b0)
 clear h
 have HB := UC hB
 clear hB
 go_enter Tryz.func88, Tryz.ntmps88
 go_wp2_with fail
 generalize w.alloc (.cells #[.slice na nm.length nc, .int .i64 12, .int .i64 tt, .int .i64 0, .slice ta to.length tc, .slice xa tx.length xc, .slice ia nu.length ic] 63) = W at *
 refine (VR 12 _ rfl).mono ?_
 rw [named_12]
 rintro e w1 ⟨rfl, rfl⟩
 obtain ⟨d0, d1, d2, d3, d4, d5, d6⟩ := UJ (UB K0)
 go_wp2_with fail
 clear d0 d1 d2 d3 d4 d5 d6
 refine (VO (show HasL W (.slice ta to.length tc) to from (UB H0).to)).mono ?_
 rw [UB HB]
 rintro e w1 ⟨rfl, b1⟩
 have bb1 := UG b0 b1
 have K1 := UC (UE b1 (UB K0))
 have H1 := UC ((UB H0).below b1)
 clear b1 b0 K0 H0
 obtain ⟨d0, d1, d2, d3, d4, d5, d6⟩ := UJ (UB K1)
 go_wp2_with fail
 refine (VT 12 _ rfl).mono ?_
 rw [texted_12]
 rintro e w2 ⟨rfl, rfl⟩
 go_wp2_with fail
 go_ret
 exact ⟨rfl, bb1⟩

theorem l3_12_3 {na : Option Addr} {nc : Nat} {ta : Option Addr} {tc : Nat} {xa : Option Addr} {xc : Nat} {ia : Option Addr} {ic : Nat} {nm to : List (List Int)} {tx nu : List Int} {tt ad : Int} {w : World} (h : HasR w (.slice na nm.length nc) (.slice ta to.length tc) (.slice xa tx.length xc) (.slice ia nu.length ic) ⟨nm, 12, tt, ad, to, tx, nu⟩) (hA : ad = 0) (hB : nameOk to = true) (hC : tx.length = 0) (hD : nu.length ≠ 0) :
  Calls Tryz.prog 88 #[.agg #[.slice na nm.length nc, .int .i64 12, .int .i64 tt, .int .i64 ad, .slice ta to.length tc, .slice xa tx.length xc, .slice ia nu.length ic]] w fun e w' => e = .returned (.bool false) ∧ Below w.heap.size w w' := by
 obtain rfl := hA
 obtain rfl := nil_of hC
 clear hC
 have ehD : ((nu.length : Int) == 0) = false := by rw [beq_eq_false_iff_ne]; omega
 simp only [List.length_nil] at *
 have b0 := UI (w := w) (.cells #[.slice na nm.length nc, .int .i64 12, .int .i64 tt, .int .i64 0, .slice ta to.length tc, .slice xa 0 xc, .slice ia nu.length ic] 63)
 have K0 := UC (heap_alloc_new w (.cells #[.slice na nm.length nc, .int .i64 12, .int .i64 tt, .int .i64 0, .slice ta to.length tc, .slice xa 0 xc, .slice ia nu.length ic] 63))
 have H0 := UC (h.below b0)
 clear h
 have HB := UC hB
 clear hB
 go_enter Tryz.func88, Tryz.ntmps88
 go_wp2_with fail
 generalize w.alloc (.cells #[.slice na nm.length nc, .int .i64 12, .int .i64 tt, .int .i64 0, .slice ta to.length tc, .slice xa 0 xc, .slice ia nu.length ic] 63) = W at *
 refine (VR 12 _ rfl).mono ?_
 rw [named_12]
 rintro e w1 ⟨rfl, rfl⟩
 obtain ⟨d0, d1, d2, d3, d4, d5, d6⟩ := UJ (UB K0)
 go_wp2_with fail
 clear d0 d1 d2 d3 d4 d5 d6
 refine (VO (show HasL W (.slice ta to.length tc) to from (UB H0).to)).mono ?_
 rw [UB HB]
 rintro e w1 ⟨rfl, b1⟩
 have bb1 := UG b0 b1
 have K1 := UC (UE b1 (UB K0))
 have H1 := UC ((UB H0).below b1)
 clear b1 b0 K0 H0
 obtain ⟨d0, d1, d2, d3, d4, d5, d6⟩ := UJ (UB K1)
 go_wp2_with fail
 refine (VT 12 _ rfl).mono ?_
 rw [texted_12]
 rintro e w2 ⟨rfl, rfl⟩
 go_wp2_with fail
 go_ret
 exact ⟨rfl, bb1⟩

theorem l3_12_4 {na : Option Addr} {nc : Nat} {ta : Option Addr} {tc : Nat} {xa : Option Addr} {xc : Nat} {ia : Option Addr} {ic : Nat} {nm to : List (List Int)} {tx nu : List Int} {tt ad : Int} {w : World} (h : HasR w (.slice na nm.length nc) (.slice ta to.length tc) (.slice xa tx.length xc) (.slice ia nu.length ic) ⟨nm, 12, tt, ad, to, tx, nu⟩) (hA : ad = 0) (hB : nameOk to = true) (hC : tx.length = 0) (hD : nu.length = 0) :
  Calls Tryz.prog 88 #[.agg #[.slice na nm.length nc, .int .i64 12, .int .i64 tt, .int .i64 ad, .slice ta to.length tc, .slice xa tx.length xc, .slice ia nu.length ic]] w fun e w' => e = .returned (.bool true) ∧ Below w.heap.size w w' := by
 obtain rfl := hA
 obtain rfl := nil_of hC
 clear hC
 obtain rfl := nil_of hD
 clear hD
 simp only [List.length_nil] at *
 have b0 := UI (w := w) (.cells #[.slice na nm.length nc, .int .i64 12, .int .i64 tt, .int .i64 0, .slice ta to.length tc, .slice xa 0 xc, .slice ia 0 ic] 63)
 have K0 := UC (heap_alloc_new w (.cells #[.slice na nm.length nc, .int .i64 12, .int .i64 tt, .int .i64 0, .slice ta to.length tc, .slice xa 0 xc, .slice ia 0 ic] 63))
 have H0 := UC (h.below b0)
 clear h
 have HB := UC hB
 clear hB
 go_enter Tryz.func88, Tryz.ntmps88
 go_wp2_with fail
 generalize w.alloc (.cells #[.slice na nm.length nc, .int .i64 12, .int .i64 tt, .int .i64 0, .slice ta to.length tc, .slice xa 0 xc, .slice ia 0 ic] 63) = W at *
 refine (VR 12 _ rfl).mono ?_
 rw [named_12]
 rintro e w1 ⟨rfl, rfl⟩
 obtain ⟨d0, d1, d2, d3, d4, d5, d6⟩ := UJ (UB K0)
 go_wp2_with fail
 clear d0 d1 d2 d3 d4 d5 d6
 refine (VO (show HasL W (.slice ta to.length tc) to from (UB H0).to)).mono ?_
 rw [UB HB]
 rintro e w1 ⟨rfl, b1⟩
 have bb1 := UG b0 b1
 have K1 := UC (UE b1 (UB K0))
 have H1 := UC ((UB H0).below b1)
 clear b1 b0 K0 H0
 obtain ⟨d0, d1, d2, d3, d4, d5, d6⟩ := UJ (UB K1)
 go_wp2_with fail
 refine (VT 12 _ rfl).mono ?_
 rw [texted_12]
 rintro e w2 ⟨rfl, rfl⟩
 go_wp2_with fail
 go_ret
 exact ⟨rfl, bb1⟩

theorem l3_16_0 {na : Option Addr} {nc : Nat} {ta : Option Addr} {tc : Nat} {xa : Option Addr} {xc : Nat} {ia : Option Addr} {ic : Nat} {nm to : List (List Int)} {tx nu : List Int} {tt ad : Int} {w : World} (h : HasR w (.slice na nm.length nc) (.slice ta to.length tc) (.slice xa tx.length xc) (.slice ia nu.length ic) ⟨nm, 16, tt, ad, to, tx, nu⟩) (hA : ad ≠ 0) :
  Calls Tryz.prog 88 #[.agg #[.slice na nm.length nc, .int .i64 16, .int .i64 tt, .int .i64 ad, .slice ta to.length tc, .slice xa tx.length xc, .slice ia nu.length ic]] w fun e w' => e = .returned (.bool false) ∧ Below w.heap.size w w' := by
 have ehA : (ad != 0) = true := by rw [bne_iff_ne]; exact hA
 have fhA : (ad == 0) = false := by rw [beq_eq_false_iff_ne]; exact hA
 have ghA : decide (ad = 0) = false := decide_eq_false hA
 have b0 := UI (w := w) (.cells #[.slice na nm.length nc, .int .i64 16, .int .i64 tt, .int .i64 ad, .slice ta to.length tc, .slice xa tx.length xc, .slice ia nu.length ic] 63)
 have K0 := UC (heap_alloc_new w (.cells #[.slice na nm.length nc, .int .i64 16, .int .i64 tt, .int .i64 ad, .slice ta to.length tc, .slice xa tx.length xc, .slice ia nu.length ic] 63))
 have H0 := UC (h.below b0)
 clear h
 go_enter Tryz.func88, Tryz.ntmps88
 go_wp2_with fail
 go_ret
 exact ⟨rfl, b0⟩

theorem l3_16_1 {na : Option Addr} {nc : Nat} {ta : Option Addr} {tc : Nat} {xa : Option Addr} {xc : Nat} {ia : Option Addr} {ic : Nat} {nm to : List (List Int)} {tx nu : List Int} {tt ad : Int} {w : World} (h : HasR w (.slice na nm.length nc) (.slice ta to.length tc) (.slice xa tx.length xc) (.slice ia nu.length ic) ⟨nm, 16, tt, ad, to, tx, nu⟩) (hA : ad = 0) (hB : to.length ≠ 0) :
  Calls Tryz.prog 88 #[.agg #[.slice na nm.length nc, .int .i64 16, .int .i64 tt, .int .i64 ad, .slice ta to.length tc, .slice xa tx.length xc, .slice ia nu.length ic]] w fun e w' => e = .returned (.bool false) ∧ Below w.heap.size w w' := by
 obtain rfl := hA
 have ehB : (0 : Int) < to.length := by omega
 have fhB : ((to.length : Int) == 0) = false := by rw [beq_eq_false_iff_ne]; omega
 have b0 := UI (w := w) (.cells #[.slice na nm.length nc, .int .i64 16, .int .i64 tt, .int .i64 0, .slice ta to.length tc, .slice xa tx.length xc, .slice ia nu.length ic] 63)
 have K0 := UC (heap_alloc_new w (.cells #[.slice na nm.length nc, .int .i64 16, .int .i64 tt, .int .i64 0, .slice ta to.length tc, .slice xa tx.length xc, .slice ia nu.length ic] 63))
 have H0 := UC (h.below b0)
 clear h
 go_enter Tryz.func88, Tryz.ntmps88
 go_wp2_with fail
 generalize w.alloc (.cells #[.slice na nm.length nc, .int .i64 16, .int .i64 tt, .int .i64 0, .slice ta to.length tc, .slice xa tx.length xc, .slice ia nu.length ic] 63) = W at *
 refine (VR 16 _ rfl).mono ?_
 rw [named_16]
 rintro e w1 ⟨rfl, rfl⟩
 obtain ⟨d0, d1, d2, d3, d4, d5, d6⟩ := UJ (UB K0)
 go_wp2_with fail
 go_ret
 exact ⟨rfl, b0⟩

theorem l3_16_2 {na : Option Addr} {nc : Nat} {ta : Option Addr} {tc : Nat} {xa : Option Addr} {xc : Nat} {ia : Option Addr} {ic : Nat} {nm to : List (List Int)} {tx nu : List Int} {tt ad : Int} {w : World} (h : HasR w (.slice na nm.length nc) (.slice ta to.length tc) (.slice xa tx.length xc) (.slice ia nu.length ic) ⟨nm, 16, tt, ad, to, tx, nu⟩) (hA : ad = 0) (hB : to.length = 0) (hC : 40 < tx.length) :
  Calls Tryz.prog 88 #[.agg #[.slice na nm.length nc, .int .i64 16, .int .i64 tt, .int .i64 ad, .slice ta to.length tc, .slice xa tx.length xc, .slice ia nu.length ic]] w fun e w' => e = .returned (.bool false) ∧ Below w.heap.size w w' := by
 obtain rfl := hA
 obtain rfl := nil_of hB
 clear hB
 have ehC : (40 : Int) < tx.length := by omega
 have fhC : decide ((tx.length : Int) ≤ 40) = false := decide_eq_false (by omega)
 simp only [List.length_nil] at *
 have b0 := UI (w := w) (.cells #[.slice na nm.length nc, .int .i64 16, .int .i64 tt, .int .i64 0, .slice ta 0 tc, .slice xa tx.length xc, .slice ia nu.length ic] 63)
 have K0 := UC (heap_alloc_new w (.cells #[.slice na nm.length nc, .int .i64 16, .int .i64 tt, .int .i64 0, .slice ta 0 tc, .slice xa tx.length xc, .slice ia nu.length ic] 63))
 have H0 := UC (h.below b0)
 clear h
 go_enter Tryz.func88, Tryz.ntmps88
 go_wp2_with fail
 generalize w.alloc (.cells #[.slice na nm.length nc, .int .i64 16, .int .i64 tt, .int .i64 0, .slice ta 0 tc, .slice xa tx.length xc, .slice ia nu.length ic] 63) = W at *
 refine (VR 16 _ rfl).mono ?_
 rw [named_16]
 rintro e w1 ⟨rfl, rfl⟩
 obtain ⟨d0, d1, d2, d3, d4, d5, d6⟩ := UJ (UB K0)
 go_wp2_with fail
 refine (VT 16 _ rfl).mono ?_
 rw [texted_16]
 rintro e w2 ⟨rfl, rfl⟩
 go_wp2_with fail
 go_ret
 exact ⟨rfl, b0⟩

theorem l3_16_3 {na : Option Addr} {nc : Nat} {ta : Option Addr} {tc : Nat} {xa : Option Addr} {xc : Nat} {ia : Option Addr} {ic : Nat} {nm to : List (List Int)} {tx nu : List Int} {tt ad : Int} {w : World} (h : HasR w (.slice na nm.length nc) (.slice ta to.length tc) (.slice xa tx.length xc) (.slice ia nu.length ic) ⟨nm, 16, tt, ad, to, tx, nu⟩) (hA : ad = 0) (hB : to.length = 0) (hC : tx.length ≤ 40) (hD : nu.length ≠ 0) :
  Calls Tryz.prog 88 #[.agg #[.slice na nm.length nc, .int .i64 16, .int .i64 tt, .int .i64 ad, .slice ta to.length tc, .slice xa tx.length xc, .slice ia nu.length ic]] w fun e w' => e = .returned (.bool false) ∧ Below w.heap.size w w' := by
 obtain rfl := hA
 obtain rfl := nil_of hB
 clear hB
 have ehC : (tx.length : Int) ≤ 40 := by omega
 have fhC : decide ((tx.length : Int) ≤ 40) = true := decide_eq_true (by omega)
 have ehD : ((nu.length : Int) == 0) = false := by rw [beq_eq_false_iff_ne]; omega
 simp only [List.length_nil] at *
 have b0 := UI (w := w) (.cells #[.slice na nm.length nc, .int .i64 16, .int .i64 tt, .int .i64 0, .slice ta 0 tc, .slice xa tx.length xc, .slice ia nu.length ic] 63)
 have K0 := UC (heap_alloc_new w (.cells #[.slice na nm.length nc, .int .i64 16, .int .i64 tt, .int .i64 0, .slice ta 0 tc, .slice xa tx.length xc, .slice ia nu.length ic] 63))
 have H0 := UC (h.below b0)
 clear h
 go_enter Tryz.func88, Tryz.ntmps88
 go_wp2_with fail
 generalize w.alloc (.cells #[.slice na nm.length nc, .int .i64 16, .int .i64 tt, .int .i64 0, .slice ta 0 tc, .slice xa tx.length xc, .slice ia nu.length ic] 63) = W at *
 refine (VR 16 _ rfl).mono ?_
 rw [named_16]
 rintro e w1 ⟨rfl, rfl⟩
 obtain ⟨d0, d1, d2, d3, d4, d5, d6⟩ := UJ (UB K0)
 go_wp2_with fail
 refine (VT 16 _ rfl).mono ?_
 rw [texted_16]
 rintro e w2 ⟨rfl, rfl⟩
 go_wp2_with fail
 go_ret
 exact ⟨rfl, b0⟩

theorem l3_16_4 {na : Option Addr} {nc : Nat} {ta : Option Addr} {tc : Nat} {xa : Option Addr} {xc : Nat} {ia : Option Addr} {ic : Nat} {nm to : List (List Int)} {tx nu : List Int} {tt ad : Int} {w : World} (h : HasR w (.slice na nm.length nc) (.slice ta to.length tc) (.slice xa tx.length xc) (.slice ia nu.length ic) ⟨nm, 16, tt, ad, to, tx, nu⟩) (hA : ad = 0) (hB : to.length = 0) (hC : tx.length ≤ 40) (hD : nu.length = 0) :
  Calls Tryz.prog 88 #[.agg #[.slice na nm.length nc, .int .i64 16, .int .i64 tt, .int .i64 ad, .slice ta to.length tc, .slice xa tx.length xc, .slice ia nu.length ic]] w fun e w' => e = .returned (.bool true) ∧ Below w.heap.size w w' := by
 obtain rfl := hA
 obtain rfl := nil_of hB
 clear hB
 have ehC : (tx.length : Int) ≤ 40 := by omega
 have fhC : decide ((tx.length : Int) ≤ 40) = true := decide_eq_true (by omega)
 obtain rfl := nil_of hD
 clear hD
 simp only [List.length_nil] at *
 have b0 := UI (w := w) (.cells #[.slice na nm.length nc, .int .i64 16, .int .i64 tt, .int .i64 0, .slice ta 0 tc, .slice xa tx.length xc, .slice ia 0 ic] 63)
 have K0 := UC (heap_alloc_new w (.cells #[.slice na nm.length nc, .int .i64 16, .int .i64 tt, .int .i64 0, .slice ta 0 tc, .slice xa tx.length xc, .slice ia 0 ic] 63))
 have H0 := UC (h.below b0)
 clear h
 go_enter Tryz.func88, Tryz.ntmps88
 go_wp2_with fail
 generalize w.alloc (.cells #[.slice na nm.length nc, .int .i64 16, .int .i64 tt, .int .i64 0, .slice ta 0 tc, .slice xa tx.length xc, .slice ia 0 ic] 63) = W at *
 refine (VR 16 _ rfl).mono ?_
 rw [named_16]
 rintro e w1 ⟨rfl, rfl⟩
 obtain ⟨d0, d1, d2, d3, d4, d5, d6⟩ := UJ (UB K0)
 go_wp2_with fail
 refine (VT 16 _ rfl).mono ?_
 rw [texted_16]
 rintro e w2 ⟨rfl, rfl⟩
 go_wp2_with fail
 go_ret
 exact ⟨rfl, b0⟩

theorem l3_49_0 {na : Option Addr} {nc : Nat} {ta : Option Addr} {tc : Nat} {xa : Option Addr} {xc : Nat} {ia : Option Addr} {ic : Nat} {nm to : List (List Int)} {tx nu : List Int} {tt ad : Int} {w : World} (h : HasR w (.slice na nm.length nc) (.slice ta to.length tc) (.slice xa tx.length xc) (.slice ia nu.length ic) ⟨nm, 49, tt, ad, to, tx, nu⟩) (hA : ad ≠ 0) :
  Calls Tryz.prog 88 #[.agg #[.slice na nm.length nc, .int .i64 49, .int .i64 tt, .int .i64 ad, .slice ta to.length tc, .slice xa tx.length xc, .slice ia nu.length ic]] w fun e w' => e = .returned (.bool false) ∧ Below w.heap.size w w' := by
 have ehA : (ad != 0) = true := by rw [bne_iff_ne]; exact hA
 have fhA : (ad == 0) = false := by rw [beq_eq_false_iff_ne]; exact hA
 have ghA : decide (ad = 0) = false := decide_eq_false hA
 have b0 := UI (w := w) (.cells #[.slice na nm.length nc, .int .i64 49, .int .i64 tt, .int .i64 ad, .slice ta to.length tc, .slice xa tx.length xc, .slice ia nu.length ic] 63)
 have K0 := UC (heap_alloc_new w (.cells #[.slice na nm.length nc, .int .i64 49, .int .i64 tt, .int .i64 ad, .slice ta to.length tc, .slice xa tx.length xc, .slice ia nu.length ic] 63))
 have H0 := UC (h.below b0)
 clear h
 go_enter Tryz.func88, Tryz.ntmps88
 go_wp2_with fail
 go_ret
 exact ⟨rfl, b0⟩

theorem l3_49_1 {na : Option Addr} {nc : Nat} {ta : Option Addr} {tc : Nat} {xa : Option Addr} {xc : Nat} {ia : Option Addr} {ic : Nat} {nm to : List (List Int)} {tx nu : List Int} {tt ad : Int} {w : World} (h : HasR w (.slice na nm.length nc) (.slice ta to.length tc) (.slice xa tx.length xc) (.slice ia nu.length ic) ⟨nm, 49, tt, ad, to, tx, nu⟩) (hA : ad = 0) (hB : to.length ≠ 0) :
  Calls Tryz.prog 88 #[.agg #[.slice na nm.length nc, .int .i64 49, .int .i64 tt, .int .i64 ad, .slice ta to.length tc, .slice xa tx.length xc, .slice ia nu.length ic]] w fun e w' => e = .returned (.bool false) ∧ Below w.heap.size w w' := by
 obtain rfl := hA
 have ehB : (0 : Int) < to.length := by omega
 have fhB : ((to.length : Int) == 0) = false := by rw [beq_eq_false_iff_ne]; omega
 have b0 := UI (w := w) (.cells #[.slice na nm.length nc, .int .i64 49, .int .i64 tt, .int .i64 0, .slice ta to.length tc, .slice xa tx.length xc, .slice ia nu.length ic] 63)
 have K0 := UC (heap_alloc_new w (.cells #[.slice na nm.length nc, .int .i64 49, .int .i64 tt, .int .i64 0, .slice ta to.length tc, .slice xa tx.length xc, .slice ia nu.length ic] 63))
 have H0 := UC (h.below b0)
 clear h
 go_enter Tryz.func88, Tryz.ntmps88
 go_wp2_with fail
 generalize w.alloc (.cells #[.slice na nm.length nc, .int .i64 49, .int .i64 tt, .int .i64 0, .slice ta to.length tc, .slice xa tx.length xc, .slice ia nu.length ic] 63) = W at *
 refine (VR 49 _ rfl).mono ?_
 rw [named_49]
 rintro e w1 ⟨rfl, rfl⟩
 obtain ⟨d0, d1, d2, d3, d4, d5, d6⟩ := UJ (UB K0)
 go_wp2_with fail
 go_ret
 exact ⟨rfl, b0⟩

theorem l3_49_2 {na : Option Addr} {nc : Nat} {ta : Option Addr} {tc : Nat} {xa : Option Addr} {xc : Nat} {ia : Option Addr} {ic : Nat} {nm to : List (List Int)} {tx nu : List Int} {tt ad : Int} {w : World} (h : HasR w (.slice na nm.length nc) (.slice ta to.length tc) (.slice xa tx.length xc) (.slice ia nu.length ic) ⟨nm, 49, tt, ad, to, tx, nu⟩) (hA : ad = 0) (hB : to.length = 0) (hC : 40 < tx.length) :
  Calls Tryz.prog 88 #[.agg #[.slice na nm.length nc, .int .i64 49, .int .i64 tt, .int .i64 ad, .slice ta to.length tc, .slice xa tx.length xc, .slice ia nu.length ic]] w fun e w' => e = .returned (.bool false) ∧ Below w.heap.size w w' := by
 obtain rfl := hA
 obtain rfl := nil_of hB
 clear hB
 have ehC : (40 : Int) < tx.length := by omega
 have fhC : decide ((tx.length : Int) ≤ 40) = false := decide_eq_false (by omega)
 simp only [List.length_nil] at *
 have b0 := UI (w := w) (.cells #[.slice na nm.length nc, .int .i64 49, .int .i64 tt, .int .i64 0, .slice ta 0 tc, .slice xa tx.length xc, .slice ia nu.length ic] 63)
 have K0 := UC (heap_alloc_new w (.cells #[.slice na nm.length nc, .int .i64 49, .int .i64 tt, .int .i64 0, .slice ta 0 tc, .slice xa tx.length xc, .slice ia nu.length ic] 63))
 have H0 := UC (h.below b0)
 clear h
 go_enter Tryz.func88, Tryz.ntmps88
 go_wp2_with fail
 generalize w.alloc (.cells #[.slice na nm.length nc, .int .i64 49, .int .i64 tt, .int .i64 0, .slice ta 0 tc, .slice xa tx.length xc, .slice ia nu.length ic] 63) = W at *
 refine (VR 49 _ rfl).mono ?_
 rw [named_49]
 rintro e w1 ⟨rfl, rfl⟩
 obtain ⟨d0, d1, d2, d3, d4, d5, d6⟩ := UJ (UB K0)
 go_wp2_with fail
 refine (VT 49 _ rfl).mono ?_
 rw [texted_49]
 rintro e w2 ⟨rfl, rfl⟩
 go_wp2_with fail
 go_ret
 exact ⟨rfl, b0⟩

theorem l3_49_3 {na : Option Addr} {nc : Nat} {ta : Option Addr} {tc : Nat} {xa : Option Addr} {xc : Nat} {ia : Option Addr} {ic : Nat} {nm to : List (List Int)} {tx nu : List Int} {tt ad : Int} {w : World} (h : HasR w (.slice na nm.length nc) (.slice ta to.length tc) (.slice xa tx.length xc) (.slice ia nu.length ic) ⟨nm, 49, tt, ad, to, tx, nu⟩) (hA : ad = 0) (hB : to.length = 0) (hC : tx.length ≤ 40) (hD : nu.length ≠ 0) :
  Calls Tryz.prog 88 #[.agg #[.slice na nm.length nc, .int .i64 49, .int .i64 tt, .int .i64 ad, .slice ta to.length tc, .slice xa tx.length xc, .slice ia nu.length ic]] w fun e w' => e = .returned (.bool false) ∧ Below w.heap.size w w' := by
 obtain rfl := hA
 obtain rfl := nil_of hB
 clear hB
 have ehC : (tx.length : Int) ≤ 40 := by omega
 have fhC : decide ((tx.length : Int) ≤ 40) = true := decide_eq_true (by omega)
 have ehD : ((nu.length : Int) == 0) = false := by rw [beq_eq_false_iff_ne]; omega
 simp only [List.length_nil] at *
 have b0 := UI (w := w) (.cells #[.slice na nm.length nc, .int .i64 49, .int .i64 tt, .int .i64 0, .slice ta 0 tc, .slice xa tx.length xc, .slice ia nu.length ic] 63)
 have K0 := UC (heap_alloc_new w (.cells #[.slice na nm.length nc, .int .i64 49, .int .i64 tt, .int .i64 0, .slice ta 0 tc, .slice xa tx.length xc, .slice ia nu.length ic] 63))
 have H0 := UC (h.below b0)
 clear h
 go_enter Tryz.func88, Tryz.ntmps88
 go_wp2_with fail
 generalize w.alloc (.cells #[.slice na nm.length nc, .int .i64 49, .int .i64 tt, .int .i64 0, .slice ta 0 tc, .slice xa tx.length xc, .slice ia nu.length ic] 63) = W at *
 refine (VR 49 _ rfl).mono ?_
 rw [named_49]
 rintro e w1 ⟨rfl, rfl⟩
 obtain ⟨d0, d1, d2, d3, d4, d5, d6⟩ := UJ (UB K0)
 go_wp2_with fail
 refine (VT 49 _ rfl).mono ?_
 rw [texted_49]
 rintro e w2 ⟨rfl, rfl⟩
 go_wp2_with fail
 go_ret
 exact ⟨rfl, b0⟩

theorem l3_49_4 {na : Option Addr} {nc : Nat} {ta : Option Addr} {tc : Nat} {xa : Option Addr} {xc : Nat} {ia : Option Addr} {ic : Nat} {nm to : List (List Int)} {tx nu : List Int} {tt ad : Int} {w : World} (h : HasR w (.slice na nm.length nc) (.slice ta to.length tc) (.slice xa tx.length xc) (.slice ia nu.length ic) ⟨nm, 49, tt, ad, to, tx, nu⟩) (hA : ad = 0) (hB : to.length = 0) (hC : tx.length ≤ 40) (hD : nu.length = 0) :
  Calls Tryz.prog 88 #[.agg #[.slice na nm.length nc, .int .i64 49, .int .i64 tt, .int .i64 ad, .slice ta to.length tc, .slice xa tx.length xc, .slice ia nu.length ic]] w fun e w' => e = .returned (.bool true) ∧ Below w.heap.size w w' := by
 obtain rfl := hA
 obtain rfl := nil_of hB
 clear hB
 have ehC : (tx.length : Int) ≤ 40 := by omega
 have fhC : decide ((tx.length : Int) ≤ 40) = true := decide_eq_true (by omega)
 obtain rfl := nil_of hD
 clear hD
 simp only [List.length_nil] at *
 have b0 := UI (w := w) (.cells #[.slice na nm.length nc, .int .i64 49, .int .i64 tt, .int .i64 0, .slice ta 0 tc, .slice xa tx.length xc, .slice ia 0 ic] 63)
 have K0 := UC (heap_alloc_new w (.cells #[.slice na nm.length nc, .int .i64 49, .int .i64 tt, .int .i64 0, .slice ta 0 tc, .slice xa tx.length xc, .slice ia 0 ic] 63))
 have H0 := UC (h.below b0)
 clear h
 go_enter Tryz.func88, Tryz.ntmps88
 go_wp2_with fail
 generalize w.alloc (.cells #[.slice na nm.length nc, .int .i64 49, .int .i64 tt, .int .i64 0, .slice ta 0 tc, .slice xa tx.length xc, .slice ia 0 ic] 63) = W at *
 refine (VR 49 _ rfl).mono ?_
 rw [named_49]
 rintro e w1 ⟨rfl, rfl⟩
 obtain ⟨d0, d1, d2, d3, d4, d5, d6⟩ := UJ (UB K0)
 go_wp2_with fail
 refine (VT 49 _ rfl).mono ?_
 rw [texted_49]
 rintro e w2 ⟨rfl, rfl⟩
 go_wp2_with fail
 go_ret
 exact ⟨rfl, b0⟩

end Go.Proofs.YtbabmdiklefgcaaGreatDoor
