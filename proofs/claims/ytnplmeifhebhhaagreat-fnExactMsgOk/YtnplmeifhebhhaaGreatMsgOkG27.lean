/-
  Contracts of the program's DataPut.
-/
import Derived.Test.YtnplmeifhebhhaaGreatMsgOkG18
import Derived.Test.YtnplmeifhebhhaaGreatMsgOkG22
import Derived.Test.YtnplmeifhebhhaaGreatMsgOkG26
namespace Go.Proofs.YtnplmeifhebhhaaGreat
open Go.RowKit
set_option linter.unusedVariables false

set_option maxHeartbeats 800000 in
set_option maxRecDepth 100000 in
theorem dataPut_A {na : Option Addr} {nc : Nat} {ta : Option Addr} {tc : Nat} {xa : Option Addr} {xc : Nat} {ia : Option Addr} {ic : Nat} {nm to : List (List Int)} {tx nu : List Int} {tt ad : Int} {w : World} {D : List Int} (h : HasR w (.slice na nm.length nc) (.slice ta to.length tc) (.slice xa tx.length xc) (.slice ia nu.length ic) ⟨nm, 1, tt, ad, to, tx, nu⟩) (hok : rrOk ⟨nm, 1, tt, ad, to, tx, nu⟩ = true)
  (PA : ∀ w1, Below w.heap.size w w1 → Calls Tryz.prog 174 #[.agg #[.int .i64 ad]] w1 fun e w' => ∃ v', e = .returned v' ∧ Own w1.heap.size 5 w' v' D ∧ Below w1.heap.size w1 w') :
  Calls Tryz.prog 118 #[.agg #[.slice na nm.length nc, .int .i64 1, .int .i64 tt, .int .i64 ad, .slice ta to.length tc, .slice xa tx.length xc, .slice ia nu.length ic]] w fun e w' => ∃ v', e = .returned (.tuple #[v', .bool true]) ∧ Own w.heap.size 5 w' v' D ∧ Below w.heap.size w w' := by
 have b0 := below_alloc (w := w) (.cells #[.slice na nm.length nc, .int .i64 1, .int .i64 tt, .int .i64 ad, .slice ta to.length tc, .slice xa tx.length xc, .slice ia nu.length ic] 108)
 have K0 := hide (heap_alloc_new w (.cells #[.slice na nm.length nc, .int .i64 1, .int .i64 tt, .int .i64 ad, .slice ta to.length tc, .slice xa tx.length xc, .slice ia nu.length ic] 108))
 have HO := implRrOk_has (h.below b0)
 rw [hok] at HO
 replace HO := hide HO
 have QA := hide PA
 skip
 skip
 clear h hok PA 
 go_enter Tryz.func118, Tryz.ntmps118
 go_wp2_with fail
 generalize w.alloc (.cells #[.slice na nm.length nc, .int .i64 1, .int .i64 tt, .int .i64 ad, .slice ta to.length tc, .slice xa tx.length xc, .slice ia nu.length ic] 108) = W at *
 refine (unhide HO).mono ?_
 rintro e w1 ⟨rfl, b1⟩
 obtain ⟨d0, d1, d2, d3, d4, d5, d6⟩ := cells7 (block_kept b1 (unhide K0))
 have bb1 := below_next b0 b1
 have z1 := bb1.size
 go_wp2_with fail
 refine (dataOf_A (na := na) (nc := nc) (ta := ta) (tc := tc) (xa := xa) (xc := xc) (ia := ia) (ic := ic) (nm := nm) (to := to) (tx := tx) (nu := nu) (tt := tt) (ad := ad)).mono ?_
 rintro e w2 ⟨rfl, b2⟩
 have bb2 := below_next bb1 b2
 have z2 := b2.size
 go_wp2_with fail
 refine (unhide QA _ bb2).mono ?_
 rintro e w3 ⟨v3, rfl, o3, b3⟩
 go_wp2_with fail
 go_ret2
 exact ⟨v3, rfl, o3.mono (by omega), below_next bb2 b3⟩

set_option maxHeartbeats 800000 in
set_option maxRecDepth 100000 in
theorem dataPut_N {na : Option Addr} {nc : Nat} {ta : Option Addr} {tc : Nat} {xa : Option Addr} {xc : Nat} {ia : Option Addr} {ic : Nat} {nm to : List (List Int)} {tx nu : List Int} {tt ad : Int} {w : World} {D : List Int} {ty : Int} (hk : kindV ty = .iface 159 (.agg #[.slice none 0 0])) (hto : typeOk ty = true) (h : HasR w (.slice na nm.length nc) (.slice ta to.length tc) (.slice xa tx.length xc) (.slice ia nu.length ic) ⟨nm, ty, tt, ad, to, tx, nu⟩) (hok : rrOk ⟨nm, ty, tt, ad, to, tx, nu⟩ = true)
  (PA : ∀ w1, Below w.heap.size w w1 → Calls Tryz.prog 178 #[.agg #[.slice ta to.length tc]] w1 fun e w' => ∃ v', e = .returned v' ∧ Own w1.heap.size 5 w' v' D ∧ Below w1.heap.size w1 w') :
  Calls Tryz.prog 118 #[.agg #[.slice na nm.length nc, .int .i64 ty, .int .i64 tt, .int .i64 ad, .slice ta to.length tc, .slice xa tx.length xc, .slice ia nu.length ic]] w fun e w' => ∃ v', e = .returned (.tuple #[v', .bool true]) ∧ Own w.heap.size 5 w' v' D ∧ Below w.heap.size w w' := by
 have b0 := below_alloc (w := w) (.cells #[.slice na nm.length nc, .int .i64 ty, .int .i64 tt, .int .i64 ad, .slice ta to.length tc, .slice xa tx.length xc, .slice ia nu.length ic] 108)
 have K0 := hide (heap_alloc_new w (.cells #[.slice na nm.length nc, .int .i64 ty, .int .i64 tt, .int .i64 ad, .slice ta to.length tc, .slice xa tx.length xc, .slice ia nu.length ic] 108))
 have HO := implRrOk_has (h.below b0)
 rw [hok] at HO
 replace HO := hide HO
 have QA := hide PA
 have HKK := hide hk
 have HTO := hide hto
 clear h hok PA hk hto
 go_enter Tryz.func118, Tryz.ntmps118
 go_wp2_with fail
 generalize w.alloc (.cells #[.slice na nm.length nc, .int .i64 ty, .int .i64 tt, .int .i64 ad, .slice ta to.length tc, .slice xa tx.length xc, .slice ia nu.length ic] 108) = W at *
 refine (unhide HO).mono ?_
 rintro e w1 ⟨rfl, b1⟩
 obtain ⟨d0, d1, d2, d3, d4, d5, d6⟩ := cells7 (block_kept b1 (unhide K0))
 have bb1 := below_next b0 b1
 have z1 := bb1.size
 go_wp2_with fail
 refine (dataOf_N (na := na) (nc := nc) (ta := ta) (tc := tc) (xa := xa) (xc := xc) (ia := ia) (ic := ic) (nm := nm) (to := to) (tx := tx) (nu := nu) (tt := tt) (ad := ad) (unhide HKK) (unhide HTO)).mono ?_
 rintro e w2 ⟨rfl, b2⟩
 have bb2 := below_next bb1 b2
 have z2 := b2.size
 go_wp2_with fail
 refine (unhide QA _ bb2).mono ?_
 rintro e w3 ⟨v3, rfl, o3, b3⟩
 go_wp2_with fail
 go_ret2
 exact ⟨v3, rfl, o3.mono (by omega), below_next bb2 b3⟩

set_option maxHeartbeats 800000 in
set_option maxRecDepth 100000 in
theorem dataPut_S {na : Option Addr} {nc : Nat} {ta : Option Addr} {tc : Nat} {xa : Option Addr} {xc : Nat} {ia : Option Addr} {ic : Nat} {nm to : List (List Int)} {tx nu : List Int} {tt ad : Int} {w : World} {D : List Int} (h : HasR w (.slice na nm.length nc) (.slice ta to.length tc) (.slice xa tx.length xc) (.slice ia nu.length ic) ⟨nm, 6, tt, ad, to, tx, nu⟩) (hok : rrOk ⟨nm, 6, tt, ad, to, tx, nu⟩ = true)
  (PA : ∀ w1, Below w.heap.size w w1 → Calls Tryz.prog 182 #[.agg #[.slice ta to.length tc, .slice ia nu.length ic]] w1 fun e w' => ∃ v', e = .returned v' ∧ Own w1.heap.size 5 w' v' D ∧ Below w1.heap.size w1 w') :
  Calls Tryz.prog 118 #[.agg #[.slice na nm.length nc, .int .i64 6, .int .i64 tt, .int .i64 ad, .slice ta to.length tc, .slice xa tx.length xc, .slice ia nu.length ic]] w fun e w' => ∃ v', e = .returned (.tuple #[v', .bool true]) ∧ Own w.heap.size 5 w' v' D ∧ Below w.heap.size w w' := by
 have b0 := below_alloc (w := w) (.cells #[.slice na nm.length nc, .int .i64 6, .int .i64 tt, .int .i64 ad, .slice ta to.length tc, .slice xa tx.length xc, .slice ia nu.length ic] 108)
 have K0 := hide (heap_alloc_new w (.cells #[.slice na nm.length nc, .int .i64 6, .int .i64 tt, .int .i64 ad, .slice ta to.length tc, .slice xa tx.length xc, .slice ia nu.length ic] 108))
 have HO := implRrOk_has (h.below b0)
 rw [hok] at HO
 replace HO := hide HO
 have QA := hide PA
 skip
 skip
 clear h hok PA 
 go_enter Tryz.func118, Tryz.ntmps118
 go_wp2_with fail
 generalize w.alloc (.cells #[.slice na nm.length nc, .int .i64 6, .int .i64 tt, .int .i64 ad, .slice ta to.length tc, .slice xa tx.length xc, .slice ia nu.length ic] 108) = W at *
 refine (unhide HO).mono ?_
 rintro e w1 ⟨rfl, b1⟩
 obtain ⟨d0, d1, d2, d3, d4, d5, d6⟩ := cells7 (block_kept b1 (unhide K0))
 have bb1 := below_next b0 b1
 have z1 := bb1.size
 go_wp2_with fail
 refine (dataOf_S (na := na) (nc := nc) (ta := ta) (tc := tc) (xa := xa) (xc := xc) (ia := ia) (ic := ic) (nm := nm) (to := to) (tx := tx) (nu := nu) (tt := tt) (ad := ad)).mono ?_
 rintro e w2 ⟨rfl, b2⟩
 have bb2 := below_next bb1 b2
 have z2 := b2.size
 go_wp2_with fail
 refine (unhide QA _ bb2).mono ?_
 rintro e w3 ⟨v3, rfl, o3, b3⟩
 go_wp2_with fail
 go_ret2
 exact ⟨v3, rfl, o3.mono (by omega), below_next bb2 b3⟩

set_option maxHeartbeats 800000 in
set_option maxRecDepth 100000 in
theorem dataPut_X {na : Option Addr} {nc : Nat} {ta : Option Addr} {tc : Nat} {xa : Option Addr} {xc : Nat} {ia : Option Addr} {ic : Nat} {nm to : List (List Int)} {tx nu : List Int} {tt ad : Int} {w : World} {D : List Int} {ty : Int} (hk : kindV ty = .iface 163 (.agg #[.slice none 0 0])) (hto : typeOk ty = true) (h : HasR w (.slice na nm.length nc) (.slice ta to.length tc) (.slice xa tx.length xc) (.slice ia nu.length ic) ⟨nm, ty, tt, ad, to, tx, nu⟩) (hok : rrOk ⟨nm, ty, tt, ad, to, tx, nu⟩ = true)
  (PA : ∀ w1, Below w.heap.size w w1 → Calls Tryz.prog 186 #[.agg #[.slice xa tx.length xc]] w1 fun e w' => ∃ v', e = .returned v' ∧ Own w1.heap.size 5 w' v' D ∧ Below w1.heap.size w1 w') :
  Calls Tryz.prog 118 #[.agg #[.slice na nm.length nc, .int .i64 ty, .int .i64 tt, .int .i64 ad, .slice ta to.length tc, .slice xa tx.length xc, .slice ia nu.length ic]] w fun e w' => ∃ v', e = .returned (.tuple #[v', .bool true]) ∧ Own w.heap.size 5 w' v' D ∧ Below w.heap.size w w' := by
 have b0 := below_alloc (w := w) (.cells #[.slice na nm.length nc, .int .i64 ty, .int .i64 tt, .int .i64 ad, .slice ta to.length tc, .slice xa tx.length xc, .slice ia nu.length ic] 108)
 have K0 := hide (heap_alloc_new w (.cells #[.slice na nm.length nc, .int .i64 ty, .int .i64 tt, .int .i64 ad, .slice ta to.length tc, .slice xa tx.length xc, .slice ia nu.length ic] 108))
 have HO := implRrOk_has (h.below b0)
 rw [hok] at HO
 replace HO := hide HO
 have QA := hide PA
 have HKK := hide hk
 have HTO := hide hto
 clear h hok PA hk hto
 go_enter Tryz.func118, Tryz.ntmps118
 go_wp2_with fail
 generalize w.alloc (.cells #[.slice na nm.length nc, .int .i64 ty, .int .i64 tt, .int .i64 ad, .slice ta to.length tc, .slice xa tx.length xc, .slice ia nu.length ic] 108) = W at *
 refine (unhide HO).mono ?_
 rintro e w1 ⟨rfl, b1⟩
 obtain ⟨d0, d1, d2, d3, d4, d5, d6⟩ := cells7 (block_kept b1 (unhide K0))
 have bb1 := below_next b0 b1
 have z1 := bb1.size
 go_wp2_with fail
 refine (dataOf_X (na := na) (nc := nc) (ta := ta) (tc := tc) (xa := xa) (xc := xc) (ia := ia) (ic := ic) (nm := nm) (to := to) (tx := tx) (nu := nu) (tt := tt) (ad := ad) (unhide HKK) (unhide HTO)).mono ?_
 rintro e w2 ⟨rfl, b2⟩
 have bb2 := below_next bb1 b2
 have z2 := b2.size
 go_wp2_with fail
 refine (unhide QA _ bb2).mono ?_
 rintro e w3 ⟨v3, rfl, o3, b3⟩
 go_wp2_with fail
 go_ret2
 exact ⟨v3, rfl, o3.mono (by omega), below_next bb2 b3⟩

theorem implDataPut_yes {vn vt vx vi : Value} {r : Rec} {w : World} (h : HasR w vn vt vx vi r) (hok : rrOk r = true) :
  Calls Tryz.prog 118 #[.agg #[vn, .int .i64 r.type, .int .i64 r.ttl, .int .i64 r.addr, vt, vx, vi]] w fun e w' => ∃ v', e = .returned (.tuple #[v', .bool true]) ∧ Own w.heap.size 5 w' v' (dataB r) ∧ Below w.heap.size w w' := by
 obtain ⟨_, ht, _, _, hd⟩ := rrOk_parts hok
 obtain ⟨na, nc, rfl, _⟩ := h.name.form
 obtain ⟨ta, tc, rfl, _⟩ := h.to.form
 obtain ⟨xa, xc, rfl, _⟩ := h.text.form
 obtain ⟨ia, ic, rfl, _⟩ := h.nums.form
 rcases data_kinds ht hd with ⟨e, h0, h1, eb⟩ | ⟨e, hn, eb⟩ | ⟨e, hn, x, y, exy, _, _, _, _, eb⟩ | ⟨e, hx, eb⟩
 all_goals
  rw [eb]
  obtain ⟨nm, ty, tt, ad, to, tx, nu⟩ := r
  simp only at *
 ·subst e
  exact dataPut_A h hok (fun w1 _ => addrPut_any ad w1)
 ·exact dataPut_N (kindV_N e) ht h hok (fun w1 hb => namePutM_has (h.to.below hb) hn)
 ·subst e exy
  exact dataPut_S h hok (fun w1 hb => soaPut_has (h.to.below hb) (h.nums.below hb) hn)
 ·exact dataPut_X (kindV_X e) ht h hok (fun w1 hb => textPut_has (h.text.below hb) hx)

end Go.Proofs.YtnplmeifhebhhaaGreat
