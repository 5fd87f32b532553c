/-
  Contracts of the program's DataPut. Contracts of the program's Put16 and Put32 for longer rows, and of its classPut.
-/
import Derived.Test.YtbabmdiklefgcaaGreatDoorFnRepliesG05
import Derived.Test.YtbabmdiklefgcaaGreatDoorFnRepliesG25
import Derived.Test.YtbabmdiklefgcaaGreatDoorFnRepliesG26
namespace Go.Proofs.YtbabmdiklefgcaaGreatDoor
open Go.RowKit
set_option linter.unusedVariables false
set_option maxHeartbeats 800000
set_option maxRecDepth 100000

theorem dataPut_A {na : Option Addr} {nc : Nat} {ta : Option Addr} {tc : Nat} {xa : Option Addr} {xc : Nat} {ia : Option Addr} {ic : Nat} {nm to : List (List Int)} {tx nu : List Int} {tt ad : Int} {w : World} {D : List Int} (h : HasR w (.slice na nm.length nc) (.slice ta to.length tc) (.slice xa tx.length xc) (.slice ia nu.length ic) ⟨nm, 1, tt, ad, to, tx, nu⟩) (hok : rrOk ⟨nm, 1, tt, ad, to, tx, nu⟩ = true)
  (PA : ∀ w1, Below w.heap.size w w1 → Calls Tryz.prog 150 #[.agg #[.int .i64 ad]] w1 fun e w' => ∃ v', e = .returned v' ∧ Own w1.heap.size 5 w' v' D ∧ Below w1.heap.size w1 w') :
  Calls Tryz.prog 110 #[.agg #[.slice na nm.length nc, .int .i64 1, .int .i64 tt, .int .i64 ad, .slice ta to.length tc, .slice xa tx.length xc, .slice ia nu.length ic]] w fun e w' => ∃ v', e = .returned (.tuple #[v', .bool true]) ∧ Own w.heap.size 5 w' v' D ∧ Below w.heap.size w w' := by
 have b0 := UI (w := w) (.cells #[.slice na nm.length nc, .int .i64 1, .int .i64 tt, .int .i64 ad, .slice ta to.length tc, .slice xa tx.length xc, .slice ia nu.length ic] 63)
 have K0 := UC (heap_alloc_new w (.cells #[.slice na nm.length nc, .int .i64 1, .int .i64 tt, .int .i64 ad, .slice ta to.length tc, .slice xa tx.length xc, .slice ia nu.length ic] 63))
 have HO := implRrOk_has (h.below b0)
 rw [hok] at HO
 replace HO := UC HO
 have QA := UC PA
 skip
 skip
 clear h hok PA 
 go_enter Tryz.func110, Tryz.ntmps110
 go_wp2_with fail
 generalize w.alloc (.cells #[.slice na nm.length nc, .int .i64 1, .int .i64 tt, .int .i64 ad, .slice ta to.length tc, .slice xa tx.length xc, .slice ia nu.length ic] 63) = W at *
 refine (UB HO).mono ?_
 rintro e w1 ⟨rfl, b1⟩
 obtain ⟨d0, d1, d2, d3, d4, d5, d6⟩ := UJ (UE b1 (UB K0))
 have bb1 := UG b0 b1
 have z1 := bb1.size
 go_wp2_with fail
 refine (dataOf_A (na := na) (nc := nc) (ta := ta) (tc := tc) (xa := xa) (xc := xc) (ia := ia) (ic := ic) (nm := nm) (to := to) (tx := tx) (nu := nu) (tt := tt) (ad := ad)).mono ?_
 rintro e w2 ⟨rfl, b2⟩
 have bb2 := UG bb1 b2
 have z2 := b2.size
 go_wp2_with fail
 refine (UB QA _ bb2).mono ?_
 rintro e w3 ⟨v3, rfl, o3, b3⟩
 go_wp2_with fail
 go_ret2
 exact ⟨v3, rfl, o3.mono (by omega), UG bb2 b3⟩

theorem dataPut_N {na : Option Addr} {nc : Nat} {ta : Option Addr} {tc : Nat} {xa : Option Addr} {xc : Nat} {ia : Option Addr} {ic : Nat} {nm to : List (List Int)} {tx nu : List Int} {tt ad : Int} {w : World} {D : List Int} {ty : Int} (hk : kindV ty = .iface 134 (.agg #[.slice none 0 0])) (hto : typeOk ty = true) (h : HasR w (.slice na nm.length nc) (.slice ta to.length tc) (.slice xa tx.length xc) (.slice ia nu.length ic) ⟨nm, ty, tt, ad, to, tx, nu⟩) (hok : rrOk ⟨nm, ty, tt, ad, to, tx, nu⟩ = true)
  (PA : ∀ w1, Below w.heap.size w w1 → Calls Tryz.prog 155 #[.agg #[.slice ta to.length tc]] w1 fun e w' => ∃ v', e = .returned v' ∧ Own w1.heap.size 5 w' v' D ∧ Below w1.heap.size w1 w') :
  Calls Tryz.prog 110 #[.agg #[.slice na nm.length nc, .int .i64 ty, .int .i64 tt, .int .i64 ad, .slice ta to.length tc, .slice xa tx.length xc, .slice ia nu.length ic]] w fun e w' => ∃ v', e = .returned (.tuple #[v', .bool true]) ∧ Own w.heap.size 5 w' v' D ∧ Below w.heap.size w w' := by
 have b0 := UI (w := w) (.cells #[.slice na nm.length nc, .int .i64 ty, .int .i64 tt, .int .i64 ad, .slice ta to.length tc, .slice xa tx.length xc, .slice ia nu.length ic] 63)
 have K0 := UC (heap_alloc_new w (.cells #[.slice na nm.length nc, .int .i64 ty, .int .i64 tt, .int .i64 ad, .slice ta to.length tc, .slice xa tx.length xc, .slice ia nu.length ic] 63))
 have HO := implRrOk_has (h.below b0)
 rw [hok] at HO
 replace HO := UC HO
 have QA := UC PA
 have HKK := UC hk
 have HTO := UC hto
 clear h hok PA hk hto
 go_enter Tryz.func110, Tryz.ntmps110
 go_wp2_with fail
 generalize w.alloc (.cells #[.slice na nm.length nc, .int .i64 ty, .int .i64 tt, .int .i64 ad, .slice ta to.length tc, .slice xa tx.length xc, .slice ia nu.length ic] 63) = W at *
 refine (UB HO).mono ?_
 rintro e w1 ⟨rfl, b1⟩
 obtain ⟨d0, d1, d2, d3, d4, d5, d6⟩ := UJ (UE b1 (UB K0))
 have bb1 := UG b0 b1
 have z1 := bb1.size
 go_wp2_with fail
 refine (dataOf_N (na := na) (nc := nc) (ta := ta) (tc := tc) (xa := xa) (xc := xc) (ia := ia) (ic := ic) (nm := nm) (to := to) (tx := tx) (nu := nu) (tt := tt) (ad := ad) (UB HKK) (UB HTO)).mono ?_
 rintro e w2 ⟨rfl, b2⟩
 have bb2 := UG bb1 b2
 have z2 := b2.size
 go_wp2_with fail
 refine (UB QA _ bb2).mono ?_
 rintro e w3 ⟨v3, rfl, o3, b3⟩
 go_wp2_with fail
 go_ret2
 exact ⟨v3, rfl, o3.mono (by omega), UG bb2 b3⟩

theorem dataPut_S {na : Option Addr} {nc : Nat} {ta : Option Addr} {tc : Nat} {xa : Option Addr} {xc : Nat} {ia : Option Addr} {ic : Nat} {nm to : List (List Int)} {tx nu : List Int} {tt ad : Int} {w : World} {D : List Int} (h : HasR w (.slice na nm.length nc) (.slice ta to.length tc) (.slice xa tx.length xc) (.slice ia nu.length ic) ⟨nm, 6, tt, ad, to, tx, nu⟩) (hok : rrOk ⟨nm, 6, tt, ad, to, tx, nu⟩ = true)
  (PA : ∀ w1, Below w.heap.size w w1 → Calls Tryz.prog 159 #[.agg #[.slice ta to.length tc, .slice ia nu.length ic]] w1 fun e w' => ∃ v', e = .returned v' ∧ Own w1.heap.size 5 w' v' D ∧ Below w1.heap.size w1 w') :
  Calls Tryz.prog 110 #[.agg #[.slice na nm.length nc, .int .i64 6, .int .i64 tt, .int .i64 ad, .slice ta to.length tc, .slice xa tx.length xc, .slice ia nu.length ic]] w fun e w' => ∃ v', e = .returned (.tuple #[v', .bool true]) ∧ Own w.heap.size 5 w' v' D ∧ Below w.heap.size w w' := by
 have b0 := UI (w := w) (.cells #[.slice na nm.length nc, .int .i64 6, .int .i64 tt, .int .i64 ad, .slice ta to.length tc, .slice xa tx.length xc, .slice ia nu.length ic] 63)
 have K0 := UC (heap_alloc_new w (.cells #[.slice na nm.length nc, .int .i64 6, .int .i64 tt, .int .i64 ad, .slice ta to.length tc, .slice xa tx.length xc, .slice ia nu.length ic] 63))
 have HO := implRrOk_has (h.below b0)
 rw [hok] at HO
 replace HO := UC HO
 have QA := UC PA
 skip
 skip
 clear h hok PA 
 go_enter Tryz.func110, Tryz.ntmps110
 go_wp2_with fail
 generalize w.alloc (.cells #[.slice na nm.length nc, .int .i64 6, .int .i64 tt, .int .i64 ad, .slice ta to.length tc, .slice xa tx.length xc, .slice ia nu.length ic] 63) = W at *
 refine (UB HO).mono ?_
 rintro e w1 ⟨rfl, b1⟩
 obtain ⟨d0, d1, d2, d3, d4, d5, d6⟩ := UJ (UE b1 (UB K0))
 have bb1 := UG b0 b1
 have z1 := bb1.size
 go_wp2_with fail
 refine (dataOf_S (na := na) (nc := nc) (ta := ta) (tc := tc) (xa := xa) (xc := xc) (ia := ia) (ic := ic) (nm := nm) (to := to) (tx := tx) (nu := nu) (tt := tt) (ad := ad)).mono ?_
 rintro e w2 ⟨rfl, b2⟩
 have bb2 := UG bb1 b2
 have z2 := b2.size
 go_wp2_with fail
 refine (UB QA _ bb2).mono ?_
 rintro e w3 ⟨v3, rfl, o3, b3⟩
 go_wp2_with fail
 go_ret2
 exact ⟨v3, rfl, o3.mono (by omega), UG bb2 b3⟩

theorem dataPut_X {na : Option Addr} {nc : Nat} {ta : Option Addr} {tc : Nat} {xa : Option Addr} {xc : Nat} {ia : Option Addr} {ic : Nat} {nm to : List (List Int)} {tx nu : List Int} {tt ad : Int} {w : World} {D : List Int} {ty : Int} (hk : kindV ty = .iface 138 (.agg #[.slice none 0 0])) (hto : typeOk ty = true) (h : HasR w (.slice na nm.length nc) (.slice ta to.length tc) (.slice xa tx.length xc) (.slice ia nu.length ic) ⟨nm, ty, tt, ad, to, tx, nu⟩) (hok : rrOk ⟨nm, ty, tt, ad, to, tx, nu⟩ = true)
  (PA : ∀ w1, Below w.heap.size w w1 → Calls Tryz.prog 163 #[.agg #[.slice xa tx.length xc]] w1 fun e w' => ∃ v', e = .returned v' ∧ Own w1.heap.size 5 w' v' D ∧ Below w1.heap.size w1 w') :
  Calls Tryz.prog 110 #[.agg #[.slice na nm.length nc, .int .i64 ty, .int .i64 tt, .int .i64 ad, .slice ta to.length tc, .slice xa tx.length xc, .slice ia nu.length ic]] w fun e w' => ∃ v', e = .returned (.tuple #[v', .bool true]) ∧ Own w.heap.size 5 w' v' D ∧ Below w.heap.size w w' := by
 have b0 := UI (w := w) (.cells #[.slice na nm.length nc, .int .i64 ty, .int .i64 tt, .int .i64 ad, .slice ta to.length tc, .slice xa tx.length xc, .slice ia nu.length ic] 63)
 have K0 := UC (heap_alloc_new w (.cells #[.slice na nm.length nc, .int .i64 ty, .int .i64 tt, .int .i64 ad, .slice ta to.length tc, .slice xa tx.length xc, .slice ia nu.length ic] 63))
 have HO := implRrOk_has (h.below b0)
 rw [hok] at HO
 replace HO := UC HO
 have QA := UC PA
 have HKK := UC hk
 have HTO := UC hto
 clear h hok PA hk hto
 go_enter Tryz.func110, Tryz.ntmps110
 go_wp2_with fail
 generalize w.alloc (.cells #[.slice na nm.length nc, .int .i64 ty, .int .i64 tt, .int .i64 ad, .slice ta to.length tc, .slice xa tx.length xc, .slice ia nu.length ic] 63) = W at *
 refine (UB HO).mono ?_
 rintro e w1 ⟨rfl, b1⟩
 obtain ⟨d0, d1, d2, d3, d4, d5, d6⟩ := UJ (UE b1 (UB K0))
 have bb1 := UG b0 b1
 have z1 := bb1.size
 go_wp2_with fail
 refine (dataOf_X (na := na) (nc := nc) (ta := ta) (tc := tc) (xa := xa) (xc := xc) (ia := ia) (ic := ic) (nm := nm) (to := to) (tx := tx) (nu := nu) (tt := tt) (ad := ad) (UB HKK) (UB HTO)).mono ?_
 rintro e w2 ⟨rfl, b2⟩
 have bb2 := UG bb1 b2
 have z2 := b2.size
 go_wp2_with fail
 refine (UB QA _ bb2).mono ?_
 rintro e w3 ⟨v3, rfl, o3, b3⟩
 go_wp2_with fail
 go_ret2
 exact ⟨v3, rfl, o3.mono (by omega), UG bb2 b3⟩

theorem implDataPut_yes {vn vt vx vi : Value} {r : Rec} {w : World} (h : HasR w vn vt vx vi r) (hok : rrOk r = true) :
  Calls Tryz.prog 110 #[.agg #[vn, .int .i64 r.type, .int .i64 r.ttl, .int .i64 r.addr, vt, vx, vi]] w fun e w' => ∃ v', e = .returned (.tuple #[v', .bool true]) ∧ Own w.heap.size 5 w' v' (dataB r) ∧ Below w.heap.size w w' := by
 obtain ⟨_, ht, _, _, hd⟩ := rrOk_parts hok
 obtain ⟨na, nc, rfl, _⟩ := h.name.form
 obtain ⟨ta, tc, rfl, _⟩ := h.to.form
 obtain ⟨xa, xc, rfl, _⟩ := h.text.form
 obtain ⟨ia, ic, rfl, _⟩ := h.nums.form
 rcases data_kinds ht hd with ⟨e, h0, h1, eb⟩ | ⟨e, hn, eb⟩ | ⟨e, hn, x, y, exy, _, _, _, _, eb⟩ | ⟨e, hx, eb⟩
 all_goals
  rw [eb]
  obtain ⟨nm, ty, tt, ad, to, tx, nu⟩ := r
  simp only at *
 ·subst e
  exact dataPut_A h hok (fun w1 _ => addrPut_any ad w1)
 ·exact dataPut_N (kindV_N e) ht h hok (fun w1 hb => namePutM_has (h.to.below hb) hn)
 ·subst e exy
  exact dataPut_S h hok (fun w1 hb => soaPut_has (h.to.below hb) (h.nums.below hb) hn)
 ·exact dataPut_X (kindV_X e) ht h hok (fun w1 hb => textPut_has (h.text.below hb) hx)

set_option maxHeartbeats 2000000
set_option maxRecDepth 100000

theorem implPut16w_yes {B : Nat} {v : Value} {l : List Int} (n : Int) {w : World} (h : Own B 5 w v l) (hl : l.length ≤ 2000000) (h0 : 0 ≤ n) (h1 : n ≤ 65535) :
  Calls Tryz.prog 84 #[v, .int .i64 n] w fun e w' => ∃ v', e = .returned v' ∧ Own w.heap.size 5 w' v' (l ++ [n / 256, n % 256]) ∧ Below w.heap.size w w' := by
 go_enter Tryz.func84, Tryz.ntmps84
 go_wp2_with fail
 refine (upTo_yes _ h0 h1).mono ?_
 rintro e w0 ⟨rfl, rfl⟩
 go_wp2_with fail
 refine (copyBytes_own h (by omega)).mono ?_
 rintro e w1 ⟨v1, rfl, o1, b1⟩
 have hsz := b1.size
 go_wp2_with (at_builtin; refine append_bytes rfl _ _ 22 5 rfl Tryz.underlying22 VJ w.heap.size v1 _ l [n / 256, n % 256] rfl rfl (o1.alloc _) (own_put16 w1 0 5 n (Nat.zero_le _)).reads (by simp; omega) (by simp; omega) ?_)
 intro v' w2 hown hgrow
 go_wp2
 go_ret
 exact ⟨v', rfl, hown, (b1.alloc hsz _).grown hgrow (by simp; omega) (fun k hk => (o1.lt k hk).1)⟩

theorem implPut16w_no {B : Nat} {v : Value} {l : List Int} (n : Int) {w : World} (h : Own B 5 w v l) (hl : l.length ≤ 2000000) (hn : n < 0 ∨ 65535 < n) :
  Calls Tryz.prog 84 #[v, .int .i64 n] w fun e w' => ∃ v', e = .returned v' ∧ Own w.heap.size 5 w' v' l ∧ Below w.heap.size w w' := by
 go_enter Tryz.func84, Tryz.ntmps84
 go_wp2_with fail
 refine (upTo_no _ hn).mono ?_
 rintro e w0 ⟨rfl, rfl⟩
 go_wp2_with fail
 refine (copyBytes_own h (by omega)).mono ?_
 rintro e w1 ⟨v1, rfl, o1, b1⟩
 go_wp2
 go_ret
 exact ⟨v1, rfl, o1, b1⟩

theorem implPut16w_any {B : Nat} {v : Value} {l : List Int} (n : Int) {w : World} (h : Own B 5 w v l) (hl : l.length ≤ 2000000) :
  Calls Tryz.prog 84 #[v, .int .i64 n] w fun e w' => ∃ v', e = .returned v' ∧ Own w.heap.size 5 w' v' (put16 l n) ∧ Below w.heap.size w w' := by
 by_cases hn : 0 ≤ n ∧ n ≤ 65535
 ·have e : put16 l n = l ++ [n / 256, n % 256] := by unfold put16; rw [if_pos hn]
  rw [e]; exact implPut16w_yes n h hl hn.1 hn.2
 ·have e : put16 l n = l := by unfold put16; rw [if_neg hn]
  rw [e]; exact implPut16w_no n h hl (by omega)
theorem implPut32w_yes {B : Nat} {v : Value} {l : List Int} (n : Int) {w : World} (h : Own B 5 w v l) (hl : l.length ≤ 2000000) (h0 : 0 ≤ n) (h1 : n ≤ 4294967295) :
  Calls Tryz.prog 126 #[v, .int .i64 n] w fun e w' => ∃ v', e = .returned v' ∧ Own w.heap.size 5 w' v' (l ++ [n / 16777216, n / 65536 % 256, n / 256 % 256, n % 256]) ∧ Below w.heap.size w w' := by
 go_enter Tryz.func126, Tryz.ntmps126
 go_wp2_with fail
 refine (upTo_yes _ h0 h1).mono ?_
 rintro e w0 ⟨rfl, rfl⟩
 go_wp2_with fail
 refine (copyBytes_own h (by omega)).mono ?_
 rintro e w1 ⟨v1, rfl, o1, b1⟩
 have hsz := b1.size
 go_wp2_with (at_builtin; refine append_bytes rfl _ _ 22 5 rfl Tryz.underlying22 VJ w.heap.size v1 _ l [n / 16777216, n / 65536 % 256, n / 256 % 256, n % 256] rfl rfl (o1.alloc _) (own_put32 w1 0 5 n (Nat.zero_le _)).reads (by simp; omega) (by simp; omega) ?_)
 intro v' w2 hown hgrow
 go_wp2
 go_ret
 exact ⟨v', rfl, hown, (b1.alloc hsz _).grown hgrow (by simp; omega) (fun k hk => (o1.lt k hk).1)⟩

theorem implPut32w_no {B : Nat} {v : Value} {l : List Int} (n : Int) {w : World} (h : Own B 5 w v l) (hl : l.length ≤ 2000000) (hn : n < 0 ∨ 4294967295 < n) :
  Calls Tryz.prog 126 #[v, .int .i64 n] w fun e w' => ∃ v', e = .returned v' ∧ Own w.heap.size 5 w' v' l ∧ Below w.heap.size w w' := by
 go_enter Tryz.func126, Tryz.ntmps126
 go_wp2_with fail
 refine (upTo_no _ hn).mono ?_
 rintro e w0 ⟨rfl, rfl⟩
 go_wp2_with fail
 refine (copyBytes_own h (by omega)).mono ?_
 rintro e w1 ⟨v1, rfl, o1, b1⟩
 go_wp2
 go_ret
 exact ⟨v1, rfl, o1, b1⟩

theorem implPut32w_any {B : Nat} {v : Value} {l : List Int} (n : Int) {w : World} (h : Own B 5 w v l) (hl : l.length ≤ 2000000) :
  Calls Tryz.prog 126 #[v, .int .i64 n] w fun e w' => ∃ v', e = .returned v' ∧ Own w.heap.size 5 w' v' (put32 l n) ∧ Below w.heap.size w w' := by
 by_cases hn : 0 ≤ n ∧ n ≤ 4294967295
 ·have e : put32 l n = l ++ [n / 16777216, n / 65536 % 256, n / 256 % 256, n % 256] := by unfold put32; rw [if_pos hn]
  rw [e]; exact implPut32w_yes n h hl hn.1 hn.2
 ·have e : put32 l n = l := by unfold put32; rw [if_neg hn]
  rw [e]; exact implPut32w_no n h hl (by omega)


theorem classPut_has {vb vn vt vx vi vd : Value} {l D : List Int} {r : Rec} (c : Int) {w : World} (hvb : Has w vb l) (hl : l.length ≤ 1048576) (h : HasR w vn vt vx vi r) (hno : nameOk r.name = true) (hd : Has w vd D) (q2 : D.length ≤ 1000) :
  Calls Tryz.prog 109 #[vb, .agg #[vn, .int .i64 r.type, .int .i64 r.ttl, .int .i64 r.addr, vt, vx, vi], .int .i64 c, vd] w fun e w' => ∃ v', e = .returned v' ∧ Own w.heap.size 5 w' v' (classB l r c D) ∧ Below w.heap.size w w' := by
 obtain ⟨na, nc, rfl, _⟩ := h.name.form
 obtain ⟨ta, tc, rfl, _⟩ := h.to.form
 obtain ⟨xa, xc, rfl, _⟩ := h.text.form
 obtain ⟨ia, ic, rfl, _⟩ := h.nums.form
 obtain ⟨ya, yc, rfl, _⟩ := hd.form
 have bb1 := UI (w := w) (.cells #[.slice na r.name.length nc, .int .i64 r.type, .int .i64 r.ttl, .int .i64 r.addr, .slice ta r.to.length tc, .slice xa r.text.length xc, .slice ia r.nums.length ic] 63)
 have K1 := UC (heap_alloc_new w (.cells #[.slice na r.name.length nc, .int .i64 r.type, .int .i64 r.ttl, .int .i64 r.addr, .slice ta r.to.length tc, .slice xa r.text.length xc, .slice ia r.nums.length ic] 63))
 have H1 := UC (h.below bb1)
 have V1 := UC (hvb.below bb1)
 have Y1 := UC (hd.below bb1)
 have HL := UC (show ∀ (w : World) (v : Value), Has w vb l → HasL w v r.name → Calls Tryz.prog 83 #[vb, .agg #[v]] w fun e w' => ∃ v', e = .returned (.tuple #[v', .bool true]) ∧ Own w.heap.size 5 w' v' (l ++ wire r.name) ∧ Below w.heap.size w w' from fun w v h1 h2 => by
  have q := implNamePut_has h1 hl h2
  rw [namePut_yes hno, hno] at q
  exact q)
 have q1 := wire_length r.name hno
 have q3 := put16_length (l ++ wire r.name) r.type
 have q4 := put16_length (put16 (l ++ wire r.name) r.type) c
 have q5 := put32_length (put16 (put16 (l ++ wire r.name) r.type) c) r.ttl
 have q6 := put16_length (put32 (put16 (put16 (l ++ wire r.name) r.type) c) r.ttl) D.length
 rw [List.length_append] at q3
 have hl1 : (l ++ wire r.name).length ≤ 2000000 := by rw [List.length_append]; omega
 have P1 := UC (fun (w : World) (C : Nat) (v : Value) (hv : Own C 5 w v (l ++ wire r.name)) => implPut16w_any r.type hv hl1)
 have P2 := UC (fun (w : World) (C : Nat) (v : Value) (hv : Own C 5 w v (put16 (l ++ wire r.name) r.type)) => implPut16w_any c hv (by omega))
 have P3 := UC (fun (w : World) (C : Nat) (v : Value) (hv : Own C 5 w v (put16 (put16 (l ++ wire r.name) r.type) c)) => implPut32w_any r.ttl hv (by omega))
 have P4 := UC (fun (w : World) (C : Nat) (v : Value) (hv : Own C 5 w v (put32 (put16 (put16 (l ++ wire r.name) r.type) c) r.ttl)) => implPut16w_any D.length hv (by omega))
 have hl4 : (put16 (put32 (put16 (put16 (l ++ wire r.name) r.type) c) r.ttl) D.length).length ≤ 2000000 := by omega
 unfold classB
 generalize put16 (put32 (put16 (put16 (l ++ wire r.name) r.type) c) r.ttl) D.length = G4 at *
 generalize put32 (put16 (put16 (l ++ wire r.name) r.type) c) r.ttl = G3 at *
 generalize put16 (put16 (l ++ wire r.name) r.type) c = G2 at *
 generalize put16 (l ++ wire r.name) r.type = G1 at *
 generalize l ++ wire r.name = G0 at *
 have z1 := bb1.size
 clear h hvb hno q1 q3 q4 q5 q6 hd
 go_enter Tryz.func109, Tryz.ntmps109
 obtain ⟨d0, d1, d2, d3, d4, d5, d6⟩ := UJ (UB K1)
 go_wp2_with fail
 clear d0 d1 d2 d3 d4 d5 d6
 generalize w.alloc (.cells #[.slice na r.name.length nc, .int .i64 r.type, .int .i64 r.ttl, .int .i64 r.addr, .slice ta r.to.length tc, .slice xa r.text.length xc, .slice ia r.nums.length ic] 63) = w1 at *
 refine (UB HL _ _ (UB V1) (UB H1).name).mono ?_
 rintro e w2 ⟨v2, rfl, o2, b2⟩
 have bb2 := UG bb1 b2
 have K2 := UC (UE b2 (UB K1))
 have Y2 := UC ((UB Y1).below b2)
 have z2 := b2.size
 clear bb1 K1 Y1 b2
 obtain ⟨d0, d1, d2, d3, d4, d5, d6⟩ := UJ (UB K2)
 go_wp2_with fail
 clear d0 d1 d2 d3 d4 d5 d6
 refine (UB P1 _ _ _ o2).mono ?_
 rintro e w3 ⟨v3, rfl, o3, b3⟩
 have bb3 := UG bb2 b3
 have K3 := UC (UE b3 (UB K2))
 have Y3 := UC ((UB Y2).below b3)
 have z3 := b3.size
 clear bb2 K2 Y2 b3
 go_wp2_with fail
 refine (UB P2 _ _ _ o3).mono ?_
 rintro e w4 ⟨v4, rfl, o4, b4⟩
 have bb4 := UG bb3 b4
 have K4 := UC (UE b4 (UB K3))
 have Y4 := UC ((UB Y3).below b4)
 have z4 := b4.size
 clear bb3 K3 Y3 b4
 obtain ⟨d0, d1, d2, d3, d4, d5, d6⟩ := UJ (UB K4)
 go_wp2_with fail
 clear d0 d1 d2 d3 d4 d5 d6
 refine (UB P3 _ _ _ o4).mono ?_
 rintro e w5 ⟨v5, rfl, o5, b5⟩
 have bb5 := UG bb4 b5
 have K5 := UC (UE b5 (UB K4))
 have Y5 := UC ((UB Y4).below b5)
 have z5 := b5.size
 clear bb4 K4 Y4 b5
 go_wp2_with fail
 refine (UB P4 _ _ _ o5).mono ?_
 rintro e w6 ⟨v6, rfl, o6, b6⟩
 have bb6 := UG bb5 b6
 have K6 := UC (UE b6 (UB K5))
 have Y6 := UC ((UB Y5).below b6)
 have z6 := b6.size
 clear bb5 K5 Y5 b6
 go_wp2_with (at_builtin; refine append_bytes rfl _ _ 22 5 rfl Tryz.underlying22 VJ w5.heap.size _ _ G4 D rfl rfl o6 (UB Y6).reads (by omega) z6 ?_)
 intro v7 w7 o7 g7
 have b7 : Below w5.heap.size w6 w7 := (Below.refl _ _).grown g7 z6 (fun q hq => (o6.lt q hq).1)
 go_wp2_with fail
 go_ret
 exact ⟨v7, rfl, o7.mono (by omega), bb6.trans (b7.mono (by omega))⟩
end Go.Proofs.YtbabmdiklefgcaaGreatDoor
