/-
  Contracts of the specification's l3put. Contracts of the specification's l3data and RrOk.
-/
import Derived.Test.YtbabmdiklefgcaaGreatDoorFnRepliesG05
import Derived.Test.YtbabmdiklefgcaaGreatDoorFnRepliesG10
import Derived.Test.YtbabmdiklefgcaaGreatDoorFnRepliesG35
import Derived.Test.YtbabmdiklefgcaaGreatDoorFnRepliesG01
import Derived.Deep.RegionHeld3
namespace Go.Proofs.YtbabmdiklefgcaaGreatDoor
open Go.RowKit
set_option linter.unusedVariables false
set_option maxHeartbeats 2000000
set_option maxRecDepth 100000

theorem own_nil (B : Nat) (e : TypeId) (w : World) : Own B e w (.slice none 0 0) [] := World.ownsRow_nil _ _ _ _

theorem l3put_A {na : Option Addr} {nc : Nat} {ta : Option Addr} {tc : Nat} {xa : Option Addr} {xc : Nat} {ia : Option Addr} {ic : Nat} {nm to : List (List Int)} {tx nu : List Int} {tt ad : Int} {w : World} (h0 : 0 ≤ ad) (h1 : ad ≤ 4294967295) :
  Calls Tryz.prog 65 #[.agg #[.slice na nm.length nc, .int .i64 1, .int .i64 tt, .int .i64 ad, .slice ta to.length tc, .slice xa tx.length xc, .slice ia nu.length ic]] w fun e w' => ∃ v', e = .returned v' ∧ Own w.heap.size 5 w' v' (put32 [] ad) ∧ Below w.heap.size w w' := by
 have b0 := UI (w := w) (.cells #[.slice na nm.length nc, .int .i64 1, .int .i64 tt, .int .i64 ad, .slice ta to.length tc, .slice xa tx.length xc, .slice ia nu.length ic] 63)
 have hP := UC (specPut32_any (B := 0) ad (own_nil 0 5 (w.alloc (.cells #[.slice na nm.length nc, .int .i64 1, .int .i64 tt, .int .i64 ad, .slice ta to.length tc, .slice xa tx.length xc, .slice ia nu.length ic] 63))) (by simp))
 generalize put32 [] ad = G at *
 go_enter Tryz.func65, Tryz.ntmps65
 go_wp2_with fail
 refine (UB hP).mono ?_
 rintro e w1 ⟨v1, rfl, o1, b1⟩
 go_wp2_with fail
 go_ret
 exact ⟨v1, rfl, o1.mono b0.size, UG b0 b1⟩

theorem l3put_N {na : Option Addr} {nc : Nat} {ta : Option Addr} {tc : Nat} {xa : Option Addr} {xc : Nat} {ia : Option Addr} {ic : Nat} {nm to : List (List Int)} {tx nu : List Int} {tt ad : Int} {w : World} {ty : Int} (ht : ty = 2 ∨ ty = 5 ∨ ty = 12) (h : HasL w (.slice ta to.length tc) to) (hok : nameOk to = true) :
  Calls Tryz.prog 65 #[.agg #[.slice na nm.length nc, .int .i64 ty, .int .i64 tt, .int .i64 ad, .slice ta to.length tc, .slice xa tx.length xc, .slice ia nu.length ic]] w fun e w' => ∃ v', e = .returned v' ∧ Own w.heap.size 5 w' v' (wire to) ∧ Below w.heap.size w w' := by
 have b0 := UI (w := w) (.cells #[.slice na nm.length nc, .int .i64 ty, .int .i64 tt, .int .i64 ad, .slice ta to.length tc, .slice xa tx.length xc, .slice ia nu.length ic] 63)
 have K0 := UC (heap_alloc_new w (.cells #[.slice na nm.length nc, .int .i64 ty, .int .i64 tt, .int .i64 ad, .slice ta to.length tc, .slice xa tx.length xc, .slice ia nu.length ic] 63))
 have hP := UC (l2put_own (B := (w.alloc (.cells #[.slice na nm.length nc, .int .i64 ty, .int .i64 tt, .int .i64 ad, .slice ta to.length tc, .slice xa tx.length xc, .slice ia nu.length ic] 63)).heap.size) (own_nil _ 5 (w.alloc (.cells #[.slice na nm.length nc, .int .i64 ty, .int .i64 tt, .int .i64 ad, .slice ta to.length tc, .slice xa tx.length xc, .slice ia nu.length ic] 63))) (Nat.le_refl _) (by simp) (h.below b0).at (nameOk_parts hok).1 (fun k hk => (labelOk_length ((nameOk_parts hok).2 k hk)).2) (wires_length to hok))
 rw [List.nil_append] at hP
 clear h
 generalize wire to = G at *
 have e1 : (ty == 1) = false := by rw [beq_eq_false_iff_ne]; omega
 have e6 : (ty == 6) = false := by rw [beq_eq_false_iff_ne]; omega
 have hto : typeOk ty = true := decide_eq_true (by omega)
 have hna : named ty = true := decide_eq_true (by omega)
 have HTO := UC hto
 have HNA := UC hna
 clear ht hto hna
 go_enter Tryz.func65, Tryz.ntmps65
 go_wp2_with fail
 generalize w.alloc (.cells #[.slice na nm.length nc, .int .i64 ty, .int .i64 tt, .int .i64 ad, .slice ta to.length tc, .slice xa tx.length xc, .slice ia nu.length ic] 63) = W at *
 refine (VR ty _ (UB HTO)).mono ?_
 rw [UB HNA]
 rintro e w1 ⟨rfl, rfl⟩
 obtain ⟨d0, d1, d2, d3, d4, d5, d6⟩ := UJ (UB K0)
 go_wp2_with fail
 refine (UB hP).mono ?_
 rintro e w1 ⟨v1, rfl, o1, b1⟩
 go_wp2_with fail
 go_ret
 exact ⟨v1, rfl, o1.mono b0.size, UG b0 b1⟩

theorem l3put_X {na : Option Addr} {nc : Nat} {ta : Option Addr} {tc : Nat} {xa : Option Addr} {xc : Nat} {ia : Option Addr} {ic : Nat} {nm to : List (List Int)} {tx nu : List Int} {tt ad : Int} {w : World} {ty : Int} (ht : ty = 16 ∨ ty = 49) (h : Has w (.slice xa tx.length xc) tx) (hl : tx.length ≤ 40) :
  Calls Tryz.prog 65 #[.agg #[.slice na nm.length nc, .int .i64 ty, .int .i64 tt, .int .i64 ad, .slice ta to.length tc, .slice xa tx.length xc, .slice ia nu.length ic]] w fun e w' => ∃ v', e = .returned v' ∧ Own w.heap.size 5 w' v' ((tx.length : Int) :: tx) ∧ Below w.heap.size w w' := by
 have b0 := UI (w := w) (.cells #[.slice na nm.length nc, .int .i64 ty, .int .i64 tt, .int .i64 ad, .slice ta to.length tc, .slice xa tx.length xc, .slice ia nu.length ic] 63)
 have K0 := UC (heap_alloc_new w (.cells #[.slice na nm.length nc, .int .i64 ty, .int .i64 tt, .int .i64 ad, .slice ta to.length tc, .slice xa tx.length xc, .slice ia nu.length ic] 63))
 have H0 := UC (h.below b0)
 clear h
 have e1 : (ty == 1) = false := by rw [beq_eq_false_iff_ne]; omega
 have e6 : (ty == 6) = false := by rw [beq_eq_false_iff_ne]; omega
 have hto : typeOk ty = true := decide_eq_true (by omega)
 have hna : named ty = false := decide_eq_false (by omega)
 have HTO := UC hto
 have HNA := UC hna
 clear ht hto hna
 have hmod : ((tx.length : Int) % 256) = tx.length := by omega
 go_enter Tryz.func65, Tryz.ntmps65
 go_wp2_with fail
 generalize w.alloc (.cells #[.slice na nm.length nc, .int .i64 ty, .int .i64 tt, .int .i64 ad, .slice ta to.length tc, .slice xa tx.length xc, .slice ia nu.length ic] 63) = W at *
 refine (VR ty _ (UB HTO)).mono ?_
 rw [UB HNA]
 rintro e w1 ⟨rfl, rfl⟩
 obtain ⟨d0, d1, d2, d3, d4, d5, d6⟩ := UJ (UB K0)
 have ca : ∀ o, (W.alloc o).cell? ⟨w.heap.size, 5, none⟩ = some (.slice xa tx.length xc) := fun o => (UJ (UE (UI o) (UB K0))).2.2.2.2.2.1
 go_wp2_with (at_builtin; refine append_bytes rfl _ _ 22 5 rfl Tryz.underlying22 VJ W.heap.size _ (.slice xa tx.length xc) [(tx.length : Int)] tx rfl rfl (own_lit W W.heap.size 5 [(tx.length : Int)] (Nat.le_refl _) (by simp [maxLen])) ((UB H0).below (UI _)).reads (by simp; omega) (UI _).size ?_)
 intro v2 w2 o2 g2
 have b2 := lit_grown g2
 go_wp2_with fail
 go_ret
 exact ⟨v2, rfl, o2.mono b0.size, UG b0 b2⟩

theorem l3put_S {na : Option Addr} {nc : Nat} {ta : Option Addr} {tc : Nat} {xa : Option Addr} {xc : Nat} {ia : Option Addr} {ic : Nat} {nm to : List (List Int)} {tx : List Int} {x y : Int} {tt ad : Int} {w : World} (h : HasL w (.slice ta to.length tc) to) (hi : HasI w (.slice ia 2 ic) [x, y]) (hok : nameOk to = true) :
  Calls Tryz.prog 65 #[.agg #[.slice na nm.length nc, .int .i64 6, .int .i64 tt, .int .i64 ad, .slice ta to.length tc, .slice xa tx.length xc, .slice ia 2 ic]] w fun e w' => ∃ v', e = .returned v' ∧ Own w.heap.size 5 w' v' (put32 (put32 (wire to) x) y) ∧ Below w.heap.size w w' := by
 have b0 := UI (w := w) (.cells #[.slice na nm.length nc, .int .i64 6, .int .i64 tt, .int .i64 ad, .slice ta to.length tc, .slice xa tx.length xc, .slice ia 2 ic] 63)
 have K0 := UC (heap_alloc_new w (.cells #[.slice na nm.length nc, .int .i64 6, .int .i64 tt, .int .i64 ad, .slice ta to.length tc, .slice xa tx.length xc, .slice ia 2 ic] 63))
 have hw := wire_length to hok
 have hw2 := put32_length (wire to) x
 have hN := UC (show ∀ w1 : World, Below w.heap.size w w1 → Calls Tryz.prog 39 #[.slice none 0 0, .agg #[.slice ta to.length tc]] w1 fun e w' => ∃ v', e = .returned v' ∧ Own w1.heap.size 5 w' v' (wire to) ∧ Below w1.heap.size w1 w' from fun w1 hb => by
  have := l2put_own (B := w1.heap.size) (own_nil _ 5 w1) (Nat.le_refl _) (by simp) (h.below hb).at (nameOk_parts hok).1 (fun k hk => (labelOk_length ((nameOk_parts hok).2 k hk)).2) (wires_length to hok)
  rw [List.nil_append] at this
  exact this)
 have hQ := UC (show ∀ (w1 : World) (B : Nat) (v : Value), Own B 5 w1 v (wire to) → Calls Tryz.prog 64 #[v, .int .i64 x] w1 fun e w' => ∃ v', e = .returned v' ∧ Own w1.heap.size 5 w' v' (put32 (wire to) x) ∧ Below w1.heap.size w1 w' from fun w1 B v ho => specPut32_any x ho (by omega))
 have hR := UC (show ∀ (w1 : World) (B : Nat) (v : Value), Own B 5 w1 v (put32 (wire to) x) → Calls Tryz.prog 64 #[v, .int .i64 y] w1 fun e w' => ∃ v', e = .returned v' ∧ Own w1.heap.size 5 w' v' (put32 (put32 (wire to) x) y) ∧ Below w1.heap.size w1 w' from fun w1 B v ho => specPut32_any y ho (by omega))
 have I0 := UC (hi.below b0)
 clear h hi hw hw2
 generalize put32 (put32 (wire to) x) y = G3 at *
 generalize put32 (wire to) x = G2 at *
 generalize wire to = G1 at *
 go_enter Tryz.func65, Tryz.ntmps65
 go_wp2_with fail
 generalize w.alloc (.cells #[.slice na nm.length nc, .int .i64 6, .int .i64 tt, .int .i64 ad, .slice ta to.length tc, .slice xa tx.length xc, .slice ia 2 ic] 63) = W at *
 have bd := UX (w := W)
 have KD := UC (UE bd (UB K0))
 have ID := UC ((UB I0).below bd)
 have bb := UG b0 bd
 obtain ⟨g, off, cp, hv, hg, n0, n1⟩ := (UB ID).two
 simp only [Value.slice.injEq] at hv
 obtain ⟨rfl, _, rfl⟩ := hv
 have N0 := UC n0
 have N1 := UC n1
 have zW : W.drew.heap.size = W.heap.size := rfl
 clear n0 n1 bd K0
 go_region_held3 (fun w' => w'.cell? ⟨w.heap.size, 4, none⟩ = some (.slice ta to.length tc) ∧ w'.cell? ⟨w.heap.size, 6, none⟩ = some (.slice (some ⟨g, off, none⟩) 2 ic) ∧ w'.cell? ⟨g, off, none⟩ = some (.int .i64 x) ∧ w'.cell? ⟨g, off + 1, none⟩ = some (.int .i64 y))
  (first
  | exact ⟨(UJ (UB KD)).2.2.2.2.1, (UJ (UB KD)).2.2.2.2.2.2, UB N0, UB N1⟩
  | exact ⟨(UJ (UE b1 (UB KD))).2.2.2.2.1, (UJ (UE b1 (UB KD))).2.2.2.2.2.2, (b1.cell hg).trans (UB N0), (b1.cell hg).trans (UB N1)⟩
  | exact ⟨(UJ (UE q2 (UB KD))).2.2.2.2.1, (UJ (UE q2 (UB KD))).2.2.2.2.2.2, (q2.cell hg).trans (UB N0), (q2.cell hg).trans (UB N1)⟩
  | exact ⟨(UJ (UE q3 (UB KD))).2.2.2.2.1, (UJ (UE q3 (UB KD))).2.2.2.2.2.2, (q3.cell hg).trans (UB N0), (q3.cell hg).trans (UB N1)⟩)
  (first
  | (go_at_call 39; refine (UB hN _ bb).mono ?_; rintro e w1 ⟨v1, rfl, o1, b1⟩)
  | (go_at_call 64; refine (UB hQ _ _ _ o1).mono ?_; rintro e w2 ⟨v2, rfl, o2, b2⟩; have q2 := UG b1 b2; clear o1)
  | (go_at_call 64; refine (UB hR _ _ _ o2).mono ?_; rintro e w3 ⟨v3, rfl, o3, b3⟩; have q3 := UG q2 b3; clear o2))
 go_wp2_with fail
 go_ret
 exact ⟨v3, rfl, o3.mono (by have h1 := bb.size; have h2 := q2.size; omega), UG bb q3⟩

theorem l3put_has {vn vt vx vi : Value} {r : Rec} {w : World} (h : HasR w vn vt vx vi r) (hok : rrOk r = true) :
  Calls Tryz.prog 65 #[.agg #[vn, .int .i64 r.type, .int .i64 r.ttl, .int .i64 r.addr, vt, vx, vi]] w fun e w' => ∃ v', e = .returned v' ∧ Own w.heap.size 5 w' v' (dataB r) ∧ Below w.heap.size w w' := by
 obtain ⟨_, ht, _, _, hd⟩ := rrOk_parts hok
 obtain ⟨na, nc, rfl, _⟩ := h.name.form
 obtain ⟨ta, tc, rfl, _⟩ := h.to.form
 obtain ⟨xa, xc, rfl, _⟩ := h.text.form
 obtain ⟨ia, ic, rfl, _⟩ := h.nums.form
 rcases data_kinds ht hd with ⟨e, h0, h1, eb⟩ | ⟨e, hn, eb⟩ | ⟨e, hn, x, y, exy, _, _, _, _, eb⟩ | ⟨e, hx, eb⟩
 ·rw [eb, e]; exact l3put_A h0 h1
 ·rw [eb]; exact l3put_N e h.to hn
 ·have hi := h.nums
  rw [exy] at hi ⊢
  rw [eb, e]
  exact l3put_S h.to hi hn
 ·rw [eb]; exact l3put_X e h.text hx
set_option maxHeartbeats 1000000
set_option maxRecDepth 100000

theorem l3data_has {vn vt vx vi : Value} {r : Rec} {w : World} (h : HasR w vn vt vx vi r) (ht : typeOk r.type = true) :
  Calls Tryz.prog 88 #[.agg #[vn, .int .i64 r.type, .int .i64 r.ttl, .int .i64 r.addr, vt, vx, vi]] w fun e w' => e = .returned (.bool (dataOk r)) ∧ Below w.heap.size w w' := by
 obtain ⟨na, nc, rfl, _⟩ := h.name.form
 obtain ⟨ta, tc, rfl, _⟩ := h.to.form
 obtain ⟨xa, xc, rfl, _⟩ := h.text.form
 obtain ⟨ia, ic, rfl, _⟩ := h.nums.form
 obtain ⟨nm, ty, tt, ad, to, tx, nu⟩ := r
 simp only at *
 rcases type_cases ty with rfl | rfl | rfl | rfl | rfl | rfl | rfl | h0
 ·skip
  by_cases hA : ad < 0
  ·have e : dataOk ⟨nm, 1, tt, ad, to, tx, nu⟩ = false := by simp [dataOk, named_1, texted_1]; first | done | omega | (simp [*]; done) | (simp [*]; omega) | (intros; omega) | (simp_all; done) | (simp_all; omega)
   rw [e]
   exact l3_1_0 h hA
  by_cases hA3 : 4294967295 < ad
  ·have hA0 := hA
   have e : dataOk ⟨nm, 1, tt, ad, to, tx, nu⟩ = false := by simp [dataOk, named_1, texted_1]; first | done | omega | (simp [*]; done) | (simp [*]; omega) | (intros; omega) | (simp_all; done) | (simp_all; omega)
   rw [e]
   exact l3_1_1 h hA3 hA0
  replace hA : 0 ≤ ad := by omega
  have hA2 : ad ≤ 4294967295 := by omega
  by_cases hB : to.length ≠ 0
  ·have e : dataOk ⟨nm, 1, tt, ad, to, tx, nu⟩ = false := by simp [dataOk, named_1, texted_1]; first | done | omega | (simp [*]; done) | (simp [*]; omega) | (intros; omega) | (simp_all; done) | (simp_all; omega)
   rw [e]
   exact l3_1_2 h hA hA2 hB
  replace hB : to.length = 0 := by omega
  by_cases hC : tx.length ≠ 0
  ·have e : dataOk ⟨nm, 1, tt, ad, to, tx, nu⟩ = false := by simp [dataOk, named_1, texted_1]; first | done | omega | (simp [*]; done) | (simp [*]; omega) | (intros; omega) | (simp_all; done) | (simp_all; omega)
   rw [e]
   exact l3_1_3 h hA hA2 hB hC
  replace hC : tx.length = 0 := by omega
  by_cases hD : nu.length ≠ 0
  ·have e : dataOk ⟨nm, 1, tt, ad, to, tx, nu⟩ = false := by simp [dataOk, named_1, texted_1]; first | done | omega | (simp [*]; done) | (simp [*]; omega) | (intros; omega) | (simp_all; done) | (simp_all; omega)
   rw [e]
   exact l3_1_4 h hA hA2 hB hC hD
  replace hD : nu.length = 0 := by omega
  ·have e : dataOk ⟨nm, 1, tt, ad, to, tx, nu⟩ = true := by simp [dataOk, named_1, texted_1]; first | done | omega | (simp [*]; done) | (simp [*]; omega) | (intros; omega) | (simp_all; done) | (simp_all; omega)
   rw [e]
   exact l3_1_5 h hA hA2 hB hC hD
 ·skip
  by_cases hA : ad ≠ 0
  ·have e : dataOk ⟨nm, 2, tt, ad, to, tx, nu⟩ = false := by simp [dataOk, named_2, texted_2]; first | done | omega | (simp [*]; done) | (simp [*]; omega) | (intros; omega) | (simp_all; done) | (simp_all; omega)
   rw [e]
   exact l3_2_0 h hA
  replace hA : ad = 0 := by omega
  cases hB : nameOk to with
  | false =>
    have e : dataOk ⟨nm, 2, tt, ad, to, tx, nu⟩ = false := by simp [dataOk, named_2, texted_2]; first | done | omega | (simp [*]; done) | (simp [*]; omega) | (intros; omega) | (simp_all; done) | (simp_all; omega)
    rw [e]
    exact l3_2_1 h hA hB
  | true =>
   by_cases hC : tx.length ≠ 0
   ·have e : dataOk ⟨nm, 2, tt, ad, to, tx, nu⟩ = false := by simp [dataOk, named_2, texted_2]; first | done | omega | (simp [*]; done) | (simp [*]; omega) | (intros; omega) | (simp_all; done) | (simp_all; omega)
    rw [e]
    exact l3_2_2 h hA hB hC
   replace hC : tx.length = 0 := by omega
   by_cases hD : nu.length ≠ 0
   ·have e : dataOk ⟨nm, 2, tt, ad, to, tx, nu⟩ = false := by simp [dataOk, named_2, texted_2]; first | done | omega | (simp [*]; done) | (simp [*]; omega) | (intros; omega) | (simp_all; done) | (simp_all; omega)
    rw [e]
    exact l3_2_3 h hA hB hC hD
   replace hD : nu.length = 0 := by omega
   ·have e : dataOk ⟨nm, 2, tt, ad, to, tx, nu⟩ = true := by simp [dataOk, named_2, texted_2]; first | done | omega | (simp [*]; done) | (simp [*]; omega) | (intros; omega) | (simp_all; done) | (simp_all; omega)
    rw [e]
    exact l3_2_4 h hA hB hC hD
 ·skip
  by_cases hA : ad ≠ 0
  ·have e : dataOk ⟨nm, 5, tt, ad, to, tx, nu⟩ = false := by simp [dataOk, named_5, texted_5]; first | done | omega | (simp [*]; done) | (simp [*]; omega) | (intros; omega) | (simp_all; done) | (simp_all; omega)
   rw [e]
   exact l3_5_0 h hA
  replace hA : ad = 0 := by omega
  cases hB : nameOk to with
  | false =>
    have e : dataOk ⟨nm, 5, tt, ad, to, tx, nu⟩ = false := by simp [dataOk, named_5, texted_5]; first | done | omega | (simp [*]; done) | (simp [*]; omega) | (intros; omega) | (simp_all; done) | (simp_all; omega)
    rw [e]
    exact l3_5_1 h hA hB
  | true =>
   by_cases hC : tx.length ≠ 0
   ·have e : dataOk ⟨nm, 5, tt, ad, to, tx, nu⟩ = false := by simp [dataOk, named_5, texted_5]; first | done | omega | (simp [*]; done) | (simp [*]; omega) | (intros; omega) | (simp_all; done) | (simp_all; omega)
    rw [e]
    exact l3_5_2 h hA hB hC
   replace hC : tx.length = 0 := by omega
   by_cases hD : nu.length ≠ 0
   ·have e : dataOk ⟨nm, 5, tt, ad, to, tx, nu⟩ = false := by simp [dataOk, named_5, texted_5]; first | done | omega | (simp [*]; done) | (simp [*]; omega) | (intros; omega) | (simp_all; done) | (simp_all; omega)
    rw [e]
    exact l3_5_3 h hA hB hC hD
   replace hD : nu.length = 0 := by omega
   ·have e : dataOk ⟨nm, 5, tt, ad, to, tx, nu⟩ = true := by simp [dataOk, named_5, texted_5]; first | done | omega | (simp [*]; done) | (simp [*]; omega) | (intros; omega) | (simp_all; done) | (simp_all; omega)
    rw [e]
    exact l3_5_4 h hA hB hC hD
 ·skip
  by_cases hA : ad ≠ 0
  ·have e : dataOk ⟨nm, 6, tt, ad, to, tx, nu⟩ = false := by simp [dataOk, named_6, texted_6]; first | done | omega | (simp [*]; done) | (simp [*]; omega) | (intros; omega) | (simp_all; done) | (simp_all; omega)
   rw [e]
   exact l3_6_0 h hA
  replace hA : ad = 0 := by omega
  cases hB : nameOk to with
  | false =>
    have e : dataOk ⟨nm, 6, tt, ad, to, tx, nu⟩ = false := by simp [dataOk, named_6, texted_6]; first | done | omega | (simp [*]; done) | (simp [*]; omega) | (intros; omega) | (simp_all; done) | (simp_all; omega)
    rw [e]
    exact l3_6_1 h hA hB
  | true =>
   by_cases hC : tx.length ≠ 0
   ·have e : dataOk ⟨nm, 6, tt, ad, to, tx, nu⟩ = false := by simp [dataOk, named_6, texted_6]; first | done | omega | (simp [*]; done) | (simp [*]; omega) | (intros; omega) | (simp_all; done) | (simp_all; omega)
    rw [e]
    exact l3_6_2 h hA hB hC
   replace hC : tx.length = 0 := by omega
   by_cases hD : nu.length ≠ 2
   ·have e : dataOk ⟨nm, 6, tt, ad, to, tx, nu⟩ = false := by simp [dataOk, named_6, texted_6]; first | done | omega | (simp [*]; done) | (simp [*]; omega) | (intros; omega) | (simp_all; done) | (simp_all; omega)
    rw [e]
    exact l3_6_3 h hA hB hC hD
   replace hD : nu.length = 2 := by omega
   by_cases hE : nu.getD 0 0 < 0
   ·have e : dataOk ⟨nm, 6, tt, ad, to, tx, nu⟩ = false := by simp [dataOk, named_6, texted_6]; first | done | omega | (simp [*]; done) | (simp [*]; omega) | (intros; omega) | (simp_all; done) | (simp_all; omega)
    rw [e]
    exact l3_6_4 h hA hB hC hD hE
   replace hE : 0 ≤ nu.getD 0 0 := by omega
   by_cases hF : 4294967295 < nu.getD 0 0
   ·have e : dataOk ⟨nm, 6, tt, ad, to, tx, nu⟩ = false := by simp [dataOk, named_6, texted_6]; first | done | omega | (simp [*]; done) | (simp [*]; omega) | (intros; omega) | (simp_all; done) | (simp_all; omega)
    rw [e]
    exact l3_6_5 h hA hB hC hD hE hF
   replace hF : nu.getD 0 0 ≤ 4294967295 := by omega
   by_cases hG : nu.getD 1 0 < 0
   ·have e : dataOk ⟨nm, 6, tt, ad, to, tx, nu⟩ = false := by simp [dataOk, named_6, texted_6]; first | done | omega | (simp [*]; done) | (simp [*]; omega) | (intros; omega) | (simp_all; done) | (simp_all; omega)
    rw [e]
    exact l3_6_6 h hA hB hC hD hE hF hG
   replace hG : 0 ≤ nu.getD 1 0 := by omega
   by_cases hH : 100000 < nu.getD 1 0
   ·have e : dataOk ⟨nm, 6, tt, ad, to, tx, nu⟩ = false := by simp [dataOk, named_6, texted_6]; first | done | omega | (simp [*]; done) | (simp [*]; omega) | (intros; omega) | (simp_all; done) | (simp_all; omega)
    rw [e]
    exact l3_6_7 h hA hB hC hD hE hF hG hH
   replace hH : nu.getD 1 0 ≤ 100000 := by omega
   ·have e : dataOk ⟨nm, 6, tt, ad, to, tx, nu⟩ = true := by simp [dataOk, named_6, texted_6]; first | done | omega | (simp [*]; done) | (simp [*]; omega) | (intros; omega) | (simp_all; done) | (simp_all; omega)
    rw [e]
    exact l3_6_8 h hA hB hC hD hE hF hG hH
 ·skip
  by_cases hA : ad ≠ 0
  ·have e : dataOk ⟨nm, 12, tt, ad, to, tx, nu⟩ = false := by simp [dataOk, named_12, texted_12]; first | done | omega | (simp [*]; done) | (simp [*]; omega) | (intros; omega) | (simp_all; done) | (simp_all; omega)
   rw [e]
   exact l3_12_0 h hA
  replace hA : ad = 0 := by omega
  cases hB : nameOk to with
  | false =>
    have e : dataOk ⟨nm, 12, tt, ad, to, tx, nu⟩ = false := by simp [dataOk, named_12, texted_12]; first | done | omega | (simp [*]; done) | (simp [*]; omega) | (intros; omega) | (simp_all; done) | (simp_all; omega)
    rw [e]
    exact l3_12_1 h hA hB
  | true =>
   by_cases hC : tx.length ≠ 0
   ·have e : dataOk ⟨nm, 12, tt, ad, to, tx, nu⟩ = false := by simp [dataOk, named_12, texted_12]; first | done | omega | (simp [*]; done) | (simp [*]; omega) | (intros; omega) | (simp_all; done) | (simp_all; omega)
    rw [e]
    exact l3_12_2 h hA hB hC
   replace hC : tx.length = 0 := by omega
   by_cases hD : nu.length ≠ 0
   ·have e : dataOk ⟨nm, 12, tt, ad, to, tx, nu⟩ = false := by simp [dataOk, named_12, texted_12]; first | done | omega | (simp [*]; done) | (simp [*]; omega) | (intros; omega) | (simp_all; done) | (simp_all; omega)
    rw [e]
    exact l3_12_3 h hA hB hC hD
   replace hD : nu.length = 0 := by omega
   ·have e : dataOk ⟨nm, 12, tt, ad, to, tx, nu⟩ = true := by simp [dataOk, named_12, texted_12]; first | done | omega | (simp [*]; done) | (simp [*]; omega) | (intros; omega) | (simp_all; done) | (simp_all; omega)
    rw [e]
    exact l3_12_4 h hA hB hC hD
 ·skip
  by_cases hA : ad ≠ 0
  ·have e : dataOk ⟨nm, 16, tt, ad, to, tx, nu⟩ = false := by simp [dataOk, named_16, texted_16]; first | done | omega | (simp [*]; done) | (simp [*]; omega) | (intros; omega) | (simp_all; done) | (simp_all; omega)
   rw [e]
   exact l3_16_0 h hA
  replace hA : ad = 0 := by omega
  by_cases hB : to.length ≠ 0
  ·have e : dataOk ⟨nm, 16, tt, ad, to, tx, nu⟩ = false := by simp [dataOk, named_16, texted_16]; first | done | omega | (simp [*]; done) | (simp [*]; omega) | (intros; omega) | (simp_all; done) | (simp_all; omega)
   rw [e]
   exact l3_16_1 h hA hB
  replace hB : to.length = 0 := by omega
  by_cases hC : 40 < tx.length
  ·have e : dataOk ⟨nm, 16, tt, ad, to, tx, nu⟩ = false := by simp [dataOk, named_16, texted_16]; first | done | omega | (simp [*]; done) | (simp [*]; omega) | (intros; omega) | (simp_all; done) | (simp_all; omega)
   rw [e]
   exact l3_16_2 h hA hB hC
  replace hC : tx.length ≤ 40 := by omega
  by_cases hD : nu.length ≠ 0
  ·have e : dataOk ⟨nm, 16, tt, ad, to, tx, nu⟩ = false := by simp [dataOk, named_16, texted_16]; first | done | omega | (simp [*]; done) | (simp [*]; omega) | (intros; omega) | (simp_all; done) | (simp_all; omega)
   rw [e]
   exact l3_16_3 h hA hB hC hD
  replace hD : nu.length = 0 := by omega
  ·have e : dataOk ⟨nm, 16, tt, ad, to, tx, nu⟩ = true := by simp [dataOk, named_16, texted_16]; first | done | omega | (simp [*]; done) | (simp [*]; omega) | (intros; omega) | (simp_all; done) | (simp_all; omega)
   rw [e]
   exact l3_16_4 h hA hB hC hD
 ·skip
  by_cases hA : ad ≠ 0
  ·have e : dataOk ⟨nm, 49, tt, ad, to, tx, nu⟩ = false := by simp [dataOk, named_49, texted_49]; first | done | omega | (simp [*]; done) | (simp [*]; omega) | (intros; omega) | (simp_all; done) | (simp_all; omega)
   rw [e]
   exact l3_49_0 h hA
  replace hA : ad = 0 := by omega
  by_cases hB : to.length ≠ 0
  ·have e : dataOk ⟨nm, 49, tt, ad, to, tx, nu⟩ = false := by simp [dataOk, named_49, texted_49]; first | done | omega | (simp [*]; done) | (simp [*]; omega) | (intros; omega) | (simp_all; done) | (simp_all; omega)
   rw [e]
   exact l3_49_1 h hA hB
  replace hB : to.length = 0 := by omega
  by_cases hC : 40 < tx.length
  ·have e : dataOk ⟨nm, 49, tt, ad, to, tx, nu⟩ = false := by simp [dataOk, named_49, texted_49]; first | done | omega | (simp [*]; done) | (simp [*]; omega) | (intros; omega) | (simp_all; done) | (simp_all; omega)
   rw [e]
   exact l3_49_2 h hA hB hC
  replace hC : tx.length ≤ 40 := by omega
  by_cases hD : nu.length ≠ 0
  ·have e : dataOk ⟨nm, 49, tt, ad, to, tx, nu⟩ = false := by simp [dataOk, named_49, texted_49]; first | done | omega | (simp [*]; done) | (simp [*]; omega) | (intros; omega) | (simp_all; done) | (simp_all; omega)
   rw [e]
   exact l3_49_3 h hA hB hC hD
  replace hD : nu.length = 0 := by omega
  ·have e : dataOk ⟨nm, 49, tt, ad, to, tx, nu⟩ = true := by simp [dataOk, named_49, texted_49]; first | done | omega | (simp [*]; done) | (simp [*]; omega) | (intros; omega) | (simp_all; done) | (simp_all; omega)
   rw [e]
   exact l3_49_4 h hA hB hC hD
 ·rw [ht] at h0; cases h0

theorem specRrOk_has {vn vt vx vi : Value} {r : Rec} {w : World} (h : HasR w vn vt vx vi r) :
  Calls Tryz.prog 62 #[.agg #[vn, .int .i64 r.type, .int .i64 r.ttl, .int .i64 r.addr, vt, vx, vi]] w fun e w' => e = .returned (.bool (rrOk r)) ∧ Below w.heap.size w w' := by
 obtain ⟨na, nc, rfl, _⟩ := h.name.form
 obtain ⟨ta, tc, rfl, _⟩ := h.to.form
 obtain ⟨xa, xc, rfl, _⟩ := h.text.form
 obtain ⟨ia, ic, rfl, _⟩ := h.nums.form
 have b0 := UI (w := w) (.cells #[.slice na r.name.length nc, .int .i64 r.type, .int .i64 r.ttl, .int .i64 r.addr, .slice ta r.to.length tc, .slice xa r.text.length xc, .slice ia r.nums.length ic] 63)
 have K0 := UC (heap_alloc_new w (.cells #[.slice na r.name.length nc, .int .i64 r.type, .int .i64 r.ttl, .int .i64 r.addr, .slice ta r.to.length tc, .slice xa r.text.length xc, .slice ia r.nums.length ic] 63))
 have H0 := UC (h.below b0)
 clear h
 have LD := UC (fun (w : World) (vn vt vx vi : Value) (h : HasR w vn vt vx vi r) (ht : typeOk r.type = true) => l3data_has h ht)
 unfold rrOk
 have SN := UC (fun (w : World) (v : Value) (h : HasL w v r.name) => VO h)
 have ST := UC (specTypeOk_any r.type)
 generalize dataOk r = D at *
 generalize hN : nameOk r.name = N at *
 generalize hT : typeOk r.type = T at *
 clear hN
 cases N with
 | false =>
  rw [Bool.false_and]
  go_enter Tryz.func62, Tryz.ntmps62
  go_wp2_with fail
  generalize w.alloc (.cells #[.slice na r.name.length nc, .int .i64 r.type, .int .i64 r.ttl, .int .i64 r.addr, .slice ta r.to.length tc, .slice xa r.text.length xc, .slice ia r.nums.length ic] 63) = W at *
  refine (UB SN _ _ (UB H0).name).mono ?_
  rintro e w1 ⟨rfl, b1⟩
  go_wp2_with fail
  go_ret
  exact ⟨rfl, UG b0 b1⟩
 | true =>
  rw [Bool.true_and]
  cases T with
  | false =>
   rw [Bool.false_and]
   go_enter Tryz.func62, Tryz.ntmps62
   go_wp2_with fail
   generalize w.alloc (.cells #[.slice na r.name.length nc, .int .i64 r.type, .int .i64 r.ttl, .int .i64 r.addr, .slice ta r.to.length tc, .slice xa r.text.length xc, .slice ia r.nums.length ic] 63) = W at *
   refine (UB SN _ _ (UB H0).name).mono ?_
   rintro e w1 ⟨rfl, b1⟩
   have K1 := UC (UE b1 (UB K0))
   obtain ⟨d0, d1, d2, d3, d4, d5, d6⟩ := UJ (UB K1)
   go_wp2_with fail
   refine (UB ST _).mono ?_
   rintro e w2 ⟨rfl, rfl⟩
   go_wp2_with fail
   go_ret
   exact ⟨rfl, UG b0 b1⟩
  | true =>
   rw [Bool.true_and]
   by_cases hl : r.ttl < 0
   ·rw [decide_eq_false (by omega), Bool.false_and]
    have hl0 : decide (0 ≤ r.ttl) = false := decide_eq_false (by omega)
    go_enter Tryz.func62, Tryz.ntmps62
    go_wp2_with fail
    generalize w.alloc (.cells #[.slice na r.name.length nc, .int .i64 r.type, .int .i64 r.ttl, .int .i64 r.addr, .slice ta r.to.length tc, .slice xa r.text.length xc, .slice ia r.nums.length ic] 63) = W at *
    refine (UB SN _ _ (UB H0).name).mono ?_
    rintro e w1 ⟨rfl, b1⟩
    have K1 := UC (UE b1 (UB K0))
    obtain ⟨d0, d1, d2, d3, d4, d5, d6⟩ := UJ (UB K1)
    go_wp2_with fail
    refine (UB ST _).mono ?_
    rintro e w2 ⟨rfl, rfl⟩
    go_wp2_with fail
    go_ret
    exact ⟨rfl, UG b0 b1⟩
   by_cases hh : 100000 < r.ttl
   ·rw [decide_eq_false (by omega), Bool.false_and]
    have hl0 : decide (r.ttl ≤ 100000) = false := decide_eq_false (by omega)
    go_enter Tryz.func62, Tryz.ntmps62
    go_wp2_with fail
    generalize w.alloc (.cells #[.slice na r.name.length nc, .int .i64 r.type, .int .i64 r.ttl, .int .i64 r.addr, .slice ta r.to.length tc, .slice xa r.text.length xc, .slice ia r.nums.length ic] 63) = W at *
    refine (UB SN _ _ (UB H0).name).mono ?_
    rintro e w1 ⟨rfl, b1⟩
    have K1 := UC (UE b1 (UB K0))
    obtain ⟨d0, d1, d2, d3, d4, d5, d6⟩ := UJ (UB K1)
    go_wp2_with fail
    refine (UB ST _).mono ?_
    rintro e w2 ⟨rfl, rfl⟩
    go_wp2_with fail
    go_ret
    exact ⟨rfl, UG b0 b1⟩
   rw [decide_eq_true (by omega), Bool.true_and]
   have hl0 : decide (r.ttl ≤ 100000) = true := decide_eq_true (by omega)
   go_enter Tryz.func62, Tryz.ntmps62
   go_wp2_with fail
   generalize w.alloc (.cells #[.slice na r.name.length nc, .int .i64 r.type, .int .i64 r.ttl, .int .i64 r.addr, .slice ta r.to.length tc, .slice xa r.text.length xc, .slice ia r.nums.length ic] 63) = W at *
   refine (UB SN _ _ (UB H0).name).mono ?_
   rintro e w1 ⟨rfl, b1⟩
   have K1 := UC (UE b1 (UB K0))
   have H1 := UC ((UB H0).below b1)
   obtain ⟨d0, d1, d2, d3, d4, d5, d6⟩ := UJ (UB K1)
   go_wp2_with fail
   refine (UB ST _).mono ?_
   rintro e w2 ⟨rfl, rfl⟩
   go_wp2_with fail
   refine (UB LD _ _ _ _ _ (UB H1) trivial).mono ?_
   rintro e w3 ⟨rfl, b3⟩
   go_wp2_with fail
   go_ret
   exact ⟨rfl, UG (UG b0 b1) b3⟩
end Go.Proofs.YtbabmdiklefgcaaGreatDoor
