/-
  Contracts of the specification's l3get, whatever the type, and of its DataGet. Contracts of the specification's l3read and RrGet.
-/
import Derived.Test.YtnloenkjfjlmeaaRrGetG29
import Derived.Test.YtnloenkjfjlmeaaRrGetG31
import Derived.Test.YtnloenkjfjlmeaaRrGetG32
import Derived.Test.YtnloenkjfjlmeaaRrGetG11
namespace Go.Proofs.Ytnloenkjfjlmeaa
open Go.RowKit
set_option linter.unusedVariables false

theorem l3get_own {B : Nat} {v : Value} {l : List Int} {t : Int} (p n : Int) {w : World} (ht : typeOk t = true) (h : Own B 5 w v l) (hl : l.length ≤ 512) (hp : p ≤ 9223372036854775807) (hn0 : -70000 ≤ n) (hn1 : n ≤ 70000) (hb : Bytes8 l) :
    Calls Try.prog 85 #[.int .i64 t, v, .int .i64 p, .int .i64 n] w (GivesG w (kindGet t l p).1 (good t l p n)) := by
  rcases type_cases t with rfl | rfl | rfl | rfl | rfl | rfl | rfl | q
  · exact l3get_A p n h hl hp hn0 hn1 hb
  · exact l3get_N p n (by omega) h hl hp hn0 hn1 hb
  · exact l3get_N p n (by omega) h hl hp hn0 hn1 hb
  · exact l3get_S p n h hl hp hn0 hn1 hb
  · exact l3get_N p n (by omega) h hl hp hn0 hn1 hb
  · exact l3get_X p n (by omega) h hl hp hn0 hn1 hb
  · exact l3get_X p n (by omega) h hl hp hn0 hn1 hb
  · rw [q] at ht; cases ht
theorem dataGet_good {t : Int} {l : List Int} {p n : Int} (ht : typeOk t = true) (hl : l.length ≤ 512) (hp : 0 ≤ p) (hn0 : 0 ≤ n) (hn1 : n ≤ 512) :
    dataGet t l p n = if good t l p n = true then ((kindGet t l p).1, true) else (emptyR 0, false) := by
  rw [dataGet_in ht hl hp hn0 hn1]
  unfold good
  by_cases h1 : 0 ≤ (kindGet t l p).2 ∧ (kindGet t l p).2 = p + n
  · rw [decide_eq_true h1, Bool.true_and]
    cases hr : rrOk (kindGet t l p).1 with
    | true => rw [if_neg (by simp; omega), if_pos rfl]
    | false => rw [if_pos (by simp), if_neg (by simp)]
  · rw [decide_eq_false h1, Bool.false_and, if_pos (by omega), if_neg (by simp)]

set_option maxHeartbeats 1000000 in
set_option maxRecDepth 100000 in
theorem specDataGet_no1 {a : Option Addr} {L cap : Nat} (t p n : Int) {w : World} (hty : typeOk t = false) :
    Calls Try.prog 40 #[.int .i64 t, .slice a L cap, .int .i64 p, .int .i64 n] w (GivesR w (emptyR 0) false) := by
  have b0 := below_alloc (w := w) (.cells #[.slice none 0 0, .int .i64 0, .int .i64 0, .int .i64 0, .slice none 0 0, .slice none 0 0, .slice none 0 0] 50)
  have K0 := hide (heap_alloc_new w (.cells #[.slice none 0 0, .int .i64 0, .int .i64 0, .int .i64 0, .slice none 0 0, .slice none 0 0, .slice none 0 0] 50))
  have HT := specTypeOk_any t (w.alloc (.cells #[.slice none 0 0, .int .i64 0, .int .i64 0, .int .i64 0, .slice none 0 0, .slice none 0 0, .slice none 0 0] 50))
  rw [hty] at HT
  replace HT := hide HT
  clear hty
  go_enter Try.func40, Try.ntmps40
  go_wp2_with fail
  generalize w.alloc (.cells #[.slice none 0 0, .int .i64 0, .int .i64 0, .int .i64 0, .slice none 0 0, .slice none 0 0, .slice none 0 0] 50) = W at *
  have zK := block_lt (unhide K0)
  refine (unhide HT).mono ?_
  rintro e w1 ⟨rfl, rfl⟩
  obtain ⟨f0, f1, f2, f3, f4, f5, f6⟩ := cells7 (unhide K0)
  obtain ⟨q0, q1, q2, q3, q4, q5, q6⟩ := frozen7 (unhide K0)
  go_wp2_with fail
  obtain ⟨R9, u9⟩ := set7 (c0 := .slice none 0 0) (c1 := .int .i64 0) (c2 := .int .i64 0) (c3 := .int .i64 0) (c4 := .slice none 0 0) (c5 := .slice none 0 0) (c6 := .slice none 0 0) (unhide K0)
  refine bodyPost_ret (results_cell_tmp_row rfl _ _ w.heap.size 50 #[.slice none 0 0, .int .i64 0, .int .i64 0, .int .i64 0, .slice none 0 0, .slice none 0 0, .slice none 0 0] (0, 0) _ rfl R9 Try.underlying50 rfl (by kernel_rfl)) rfl ?_
  have z9 := u9.size
  exact ⟨_, _, _, _, rfl, ownR_nil (by omega) _ _ _ _ 0, u9.below b0 (by omega)⟩

set_option maxHeartbeats 1000000 in
set_option maxRecDepth 100000 in
theorem specDataGet_no2 {a : Option Addr} {L cap : Nat} (t p n : Int) {w : World} (hty : typeOk t = true) (h : 512 < L) :
    Calls Try.prog 40 #[.int .i64 t, .slice a L cap, .int .i64 p, .int .i64 n] w (GivesR w (emptyR 0) false) := by
  have b0 := below_alloc (w := w) (.cells #[.slice none 0 0, .int .i64 0, .int .i64 0, .int .i64 0, .slice none 0 0, .slice none 0 0, .slice none 0 0] 50)
  have K0 := hide (heap_alloc_new w (.cells #[.slice none 0 0, .int .i64 0, .int .i64 0, .int .i64 0, .slice none 0 0, .slice none 0 0, .slice none 0 0] 50))
  have HT := specTypeOk_any t (w.alloc (.cells #[.slice none 0 0, .int .i64 0, .int .i64 0, .int .i64 0, .slice none 0 0, .slice none 0 0, .slice none 0 0] 50))
  rw [hty] at HT
  replace HT := hide HT
  clear hty
  have h' : (512 : Int) < (L : Int) := by omega
  go_enter Try.func40, Try.ntmps40
  go_wp2_with fail
  generalize w.alloc (.cells #[.slice none 0 0, .int .i64 0, .int .i64 0, .int .i64 0, .slice none 0 0, .slice none 0 0, .slice none 0 0] 50) = W at *
  have zK := block_lt (unhide K0)
  refine (unhide HT).mono ?_
  rintro e w1 ⟨rfl, rfl⟩
  obtain ⟨f0, f1, f2, f3, f4, f5, f6⟩ := cells7 (unhide K0)
  obtain ⟨q0, q1, q2, q3, q4, q5, q6⟩ := frozen7 (unhide K0)
  go_wp2_with fail
  obtain ⟨R9, u9⟩ := set7 (c0 := .slice none 0 0) (c1 := .int .i64 0) (c2 := .int .i64 0) (c3 := .int .i64 0) (c4 := .slice none 0 0) (c5 := .slice none 0 0) (c6 := .slice none 0 0) (unhide K0)
  refine bodyPost_ret (results_cell_tmp_row rfl _ _ w.heap.size 50 #[.slice none 0 0, .int .i64 0, .int .i64 0, .int .i64 0, .slice none 0 0, .slice none 0 0, .slice none 0 0] (0, 0) _ rfl R9 Try.underlying50 rfl (by kernel_rfl)) rfl ?_
  have z9 := u9.size
  exact ⟨_, _, _, _, rfl, ownR_nil (by omega) _ _ _ _ 0, u9.below b0 (by omega)⟩

set_option maxHeartbeats 1000000 in
set_option maxRecDepth 100000 in
theorem specDataGet_no3 {a : Option Addr} {L cap : Nat} (t p n : Int) {w : World} (hty : typeOk t = true) (hL : ¬ 512 < L) (h : p < 0) :
    Calls Try.prog 40 #[.int .i64 t, .slice a L cap, .int .i64 p, .int .i64 n] w (GivesR w (emptyR 0) false) := by
  have b0 := below_alloc (w := w) (.cells #[.slice none 0 0, .int .i64 0, .int .i64 0, .int .i64 0, .slice none 0 0, .slice none 0 0, .slice none 0 0] 50)
  have K0 := hide (heap_alloc_new w (.cells #[.slice none 0 0, .int .i64 0, .int .i64 0, .int .i64 0, .slice none 0 0, .slice none 0 0, .slice none 0 0] 50))
  have HT := specTypeOk_any t (w.alloc (.cells #[.slice none 0 0, .int .i64 0, .int .i64 0, .int .i64 0, .slice none 0 0, .slice none 0 0, .slice none 0 0] 50))
  rw [hty] at HT
  replace HT := hide HT
  clear hty
  have h' : ¬ (512 : Int) < (L : Int) := by omega
  go_enter Try.func40, Try.ntmps40
  go_wp2_with fail
  generalize w.alloc (.cells #[.slice none 0 0, .int .i64 0, .int .i64 0, .int .i64 0, .slice none 0 0, .slice none 0 0, .slice none 0 0] 50) = W at *
  have zK := block_lt (unhide K0)
  refine (unhide HT).mono ?_
  rintro e w1 ⟨rfl, rfl⟩
  obtain ⟨f0, f1, f2, f3, f4, f5, f6⟩ := cells7 (unhide K0)
  obtain ⟨q0, q1, q2, q3, q4, q5, q6⟩ := frozen7 (unhide K0)
  go_wp2_with fail
  obtain ⟨R9, u9⟩ := set7 (c0 := .slice none 0 0) (c1 := .int .i64 0) (c2 := .int .i64 0) (c3 := .int .i64 0) (c4 := .slice none 0 0) (c5 := .slice none 0 0) (c6 := .slice none 0 0) (unhide K0)
  refine bodyPost_ret (results_cell_tmp_row rfl _ _ w.heap.size 50 #[.slice none 0 0, .int .i64 0, .int .i64 0, .int .i64 0, .slice none 0 0, .slice none 0 0, .slice none 0 0] (0, 0) _ rfl R9 Try.underlying50 rfl (by kernel_rfl)) rfl ?_
  have z9 := u9.size
  exact ⟨_, _, _, _, rfl, ownR_nil (by omega) _ _ _ _ 0, u9.below b0 (by omega)⟩

set_option maxHeartbeats 1000000 in
set_option maxRecDepth 100000 in
theorem specDataGet_no4 {a : Option Addr} {L cap : Nat} (t p n : Int) {w : World} (hty : typeOk t = true) (hL : ¬ 512 < L) (hp : ¬ p < 0) (h : n < 0) :
    Calls Try.prog 40 #[.int .i64 t, .slice a L cap, .int .i64 p, .int .i64 n] w (GivesR w (emptyR 0) false) := by
  have b0 := below_alloc (w := w) (.cells #[.slice none 0 0, .int .i64 0, .int .i64 0, .int .i64 0, .slice none 0 0, .slice none 0 0, .slice none 0 0] 50)
  have K0 := hide (heap_alloc_new w (.cells #[.slice none 0 0, .int .i64 0, .int .i64 0, .int .i64 0, .slice none 0 0, .slice none 0 0, .slice none 0 0] 50))
  have HT := specTypeOk_any t (w.alloc (.cells #[.slice none 0 0, .int .i64 0, .int .i64 0, .int .i64 0, .slice none 0 0, .slice none 0 0, .slice none 0 0] 50))
  rw [hty] at HT
  replace HT := hide HT
  clear hty
  have h' : ¬ (512 : Int) < (L : Int) := by omega
  go_enter Try.func40, Try.ntmps40
  go_wp2_with fail
  generalize w.alloc (.cells #[.slice none 0 0, .int .i64 0, .int .i64 0, .int .i64 0, .slice none 0 0, .slice none 0 0, .slice none 0 0] 50) = W at *
  have zK := block_lt (unhide K0)
  refine (unhide HT).mono ?_
  rintro e w1 ⟨rfl, rfl⟩
  obtain ⟨f0, f1, f2, f3, f4, f5, f6⟩ := cells7 (unhide K0)
  obtain ⟨q0, q1, q2, q3, q4, q5, q6⟩ := frozen7 (unhide K0)
  go_wp2_with fail
  obtain ⟨R9, u9⟩ := set7 (c0 := .slice none 0 0) (c1 := .int .i64 0) (c2 := .int .i64 0) (c3 := .int .i64 0) (c4 := .slice none 0 0) (c5 := .slice none 0 0) (c6 := .slice none 0 0) (unhide K0)
  refine bodyPost_ret (results_cell_tmp_row rfl _ _ w.heap.size 50 #[.slice none 0 0, .int .i64 0, .int .i64 0, .int .i64 0, .slice none 0 0, .slice none 0 0, .slice none 0 0] (0, 0) _ rfl R9 Try.underlying50 rfl (by kernel_rfl)) rfl ?_
  have z9 := u9.size
  exact ⟨_, _, _, _, rfl, ownR_nil (by omega) _ _ _ _ 0, u9.below b0 (by omega)⟩

set_option maxHeartbeats 1000000 in
set_option maxRecDepth 100000 in
theorem specDataGet_no5 {a : Option Addr} {L cap : Nat} (t p n : Int) {w : World} (hty : typeOk t = true) (hL : ¬ 512 < L) (hp : ¬ p < 0) (hn : ¬ n < 0) (h : 512 < n) :
    Calls Try.prog 40 #[.int .i64 t, .slice a L cap, .int .i64 p, .int .i64 n] w (GivesR w (emptyR 0) false) := by
  have b0 := below_alloc (w := w) (.cells #[.slice none 0 0, .int .i64 0, .int .i64 0, .int .i64 0, .slice none 0 0, .slice none 0 0, .slice none 0 0] 50)
  have K0 := hide (heap_alloc_new w (.cells #[.slice none 0 0, .int .i64 0, .int .i64 0, .int .i64 0, .slice none 0 0, .slice none 0 0, .slice none 0 0] 50))
  have HT := specTypeOk_any t (w.alloc (.cells #[.slice none 0 0, .int .i64 0, .int .i64 0, .int .i64 0, .slice none 0 0, .slice none 0 0, .slice none 0 0] 50))
  rw [hty] at HT
  replace HT := hide HT
  clear hty
  have h' : ¬ (512 : Int) < (L : Int) := by omega
  go_enter Try.func40, Try.ntmps40
  go_wp2_with fail
  generalize w.alloc (.cells #[.slice none 0 0, .int .i64 0, .int .i64 0, .int .i64 0, .slice none 0 0, .slice none 0 0, .slice none 0 0] 50) = W at *
  have zK := block_lt (unhide K0)
  refine (unhide HT).mono ?_
  rintro e w1 ⟨rfl, rfl⟩
  obtain ⟨f0, f1, f2, f3, f4, f5, f6⟩ := cells7 (unhide K0)
  obtain ⟨q0, q1, q2, q3, q4, q5, q6⟩ := frozen7 (unhide K0)
  go_wp2_with fail
  obtain ⟨R9, u9⟩ := set7 (c0 := .slice none 0 0) (c1 := .int .i64 0) (c2 := .int .i64 0) (c3 := .int .i64 0) (c4 := .slice none 0 0) (c5 := .slice none 0 0) (c6 := .slice none 0 0) (unhide K0)
  refine bodyPost_ret (results_cell_tmp_row rfl _ _ w.heap.size 50 #[.slice none 0 0, .int .i64 0, .int .i64 0, .int .i64 0, .slice none 0 0, .slice none 0 0, .slice none 0 0] (0, 0) _ rfl R9 Try.underlying50 rfl (by kernel_rfl)) rfl ?_
  have z9 := u9.size
  exact ⟨_, _, _, _, rfl, ownR_nil (by omega) _ _ _ _ 0, u9.below b0 (by omega)⟩

set_option maxHeartbeats 1000000 in
set_option maxRecDepth 100000 in
theorem specDataGet_in {B : Nat} {v : Value} {l : List Int} {t : Int} (p n : Int) {w : World} (hty : typeOk t = true) (h : Own B 5 w v l) (hl : l.length ≤ 512) (hp0 : 0 ≤ p) (hp : p ≤ 9223372036854775807) (hn0 : 0 ≤ n) (hn1 : n ≤ 512) (hb : Bytes8 l) :
    Calls Try.prog 40 #[.int .i64 t, v, .int .i64 p, .int .i64 n] w (GivesR w (dataGet t l p n).1 (dataGet t l p n).2) := by
  rw [dataGet_good hty hl hp0 hn0 hn1]
  have HG := hide (l3get_own p n hty (h.below (below_alloc (w := w) (.cells #[.slice none 0 0, .int .i64 0, .int .i64 0, .int .i64 0, .slice none 0 0, .slice none 0 0, .slice none 0 0] 50))) hl hp (by omega) (by omega) hb)
  have b0 := below_alloc (w := w) (.cells #[.slice none 0 0, .int .i64 0, .int .i64 0, .int .i64 0, .slice none 0 0, .slice none 0 0, .slice none 0 0] 50)
  have K0 := hide (heap_alloc_new w (.cells #[.slice none 0 0, .int .i64 0, .int .i64 0, .int .i64 0, .slice none 0 0, .slice none 0 0, .slice none 0 0] 50))
  have HT := specTypeOk_any t (w.alloc (.cells #[.slice none 0 0, .int .i64 0, .int .i64 0, .int .i64 0, .slice none 0 0, .slice none 0 0, .slice none 0 0] 50))
  rw [hty] at HT
  replace HT := hide HT
  clear hty
  obtain ⟨a, cap, rfl, _⟩ := h.lies
  clear h hb
  generalize (kindGet t l p).1 = rec at *
  generalize good t l p n = G at *
  generalize hRes : (if G = true then (rec, true) else (emptyR 0, false)) = Res
  have HRES := hide hRes
  clear hRes
  have hll : ¬ (512 : Int) < (l.length : Int) := by omega
  have hp0' : ¬ p < 0 := by omega
  have hn0' : ¬ n < 0 := by omega
  have hn1' : ¬ 512 < n := by omega
  generalize hLN : l.length = L at *
  clear hLN
  go_enter Try.func40, Try.ntmps40
  go_wp2_with fail
  generalize w.alloc (.cells #[.slice none 0 0, .int .i64 0, .int .i64 0, .int .i64 0, .slice none 0 0, .slice none 0 0, .slice none 0 0] 50) = W at *
  have zK := block_lt (unhide K0)
  refine (unhide HT).mono ?_
  rintro e w1 ⟨rfl, rfl⟩
  go_wp2_with fail
  refine (unhide HG).mono ?_
  rintro e w1 ⟨r, ⟨vn, vt, vx, vi, rfl, o1, b1⟩, hr⟩
  obtain ⟨na, nc, rfl, _⟩ := o1.hasR.name.form
  obtain ⟨ta, tc, rfl, _⟩ := o1.hasR.to.form
  obtain ⟨xa, xc, rfl, _⟩ := o1.hasR.text.form
  obtain ⟨ia, ic, rfl, _⟩ := o1.hasR.nums.form
  have b2 := below_alloc (w := w1) (.cells #[.slice na r.name.length nc, .int .i64 r.type, .int .i64 r.ttl, .int .i64 r.addr, .slice ta r.to.length tc, .slice xa r.text.length xc, .slice ia r.nums.length ic] 50)
  have V2 := hide (heap_alloc_new w1 (.cells #[.slice na r.name.length nc, .int .i64 r.type, .int .i64 r.ttl, .int .i64 r.addr, .slice ta r.to.length tc, .slice xa r.text.length xc, .slice ia r.nums.length ic] 50))
  have K2 := hide (block_kept b2 (block_kept b1 (unhide K0)))
  have O2 := hide (o1.below b2)
  have bb2 := below_next (below_next b0 b1) b2
  have z0 := b0.size
  have z1 := b1.size
  have z2 := b2.size
  clear HG HT K0 b0 b1 b2 o1
  cases G with
  | false =>
    have hRes := unhide HRES
    rw [if_neg (by simp)] at hRes
    subst hRes
    clear HRES hr
    obtain ⟨f0, f1, f2, f3, f4, f5, f6⟩ := cells7 (unhide K2)
    obtain ⟨q0, q1, q2, q3, q4, q5, q6⟩ := frozen7 (unhide K2)
    go_wp2_with fail
    obtain ⟨R9, u9⟩ := set7 (c0 := .slice none 0 0) (c1 := .int .i64 0) (c2 := .int .i64 0) (c3 := .int .i64 0) (c4 := .slice none 0 0) (c5 := .slice none 0 0) (c6 := .slice none 0 0) (unhide K2)
    refine bodyPost_ret (results_cell_tmp_row rfl _ _ w.heap.size 50 #[.slice none 0 0, .int .i64 0, .int .i64 0, .int .i64 0, .slice none 0 0, .slice none 0 0, .slice none 0 0] (0, 0) _ rfl R9 Try.underlying50 rfl (by kernel_rfl)) rfl ?_
    have z9 := u9.size
    exact ⟨_, _, _, _, rfl, ownR_nil (by omega) _ _ _ _ 0, u9.below bb2 (by omega)⟩
  | true =>
    have hRes := unhide HRES
    rw [if_pos rfl] at hRes
    obtain rfl := hr rfl
    subst hRes
    clear HRES hr
    have zv := block_lt (unhide V2)
    obtain ⟨d0, d1, d2, d3, d4, d5, d6⟩ := cells7 (unhide V2)
    obtain ⟨f0, f1, f2, f3, f4, f5, f6⟩ := cells7 (unhide K2)
    obtain ⟨q0, q1, q2, q3, q4, q5, q6⟩ := frozen7 (unhide K2)
    go_wp2_with fail
    generalize w1.alloc (.cells #[.slice na r.name.length nc, .int .i64 r.type, .int .i64 r.ttl, .int .i64 r.addr, .slice ta r.to.length tc, .slice xa r.text.length xc, .slice ia r.nums.length ic] 50) = w2 at *
    obtain ⟨R9, u9⟩ := set7 (c0 := .slice na r.name.length nc) (c1 := .int .i64 r.type) (c2 := .int .i64 r.ttl) (c3 := .int .i64 r.addr) (c4 := .slice ta r.to.length tc) (c5 := .slice xa r.text.length xc) (c6 := .slice ia r.nums.length ic) (unhide K2)
    refine bodyPost_ret (results_cell_tmp_row rfl _ _ w.heap.size 50 #[.slice na r.name.length nc, .int .i64 r.type, .int .i64 r.ttl, .int .i64 r.addr, .slice ta r.to.length tc, .slice xa r.text.length xc, .slice ia r.nums.length ic] (0, 0) _ rfl R9 Try.underlying50 rfl (by kernel_rfl)) rfl ?_
    have z9 := u9.size
    exact ⟨_, _, _, _, rfl, ((unhide O2).outside u9 (by omega)).wide (by omega) (by omega), u9.below bb2 (by omega)⟩

theorem specDataGet_own {B : Nat} {v : Value} {l : List Int} (t p n : Int) {w : World} (h : Own B 5 w v l) (hp : p ≤ 9223372036854775807) (hb : Bytes8 l) :
    Calls Try.prog 40 #[.int .i64 t, v, .int .i64 p, .int .i64 n] w (GivesR w (dataGet t l p n).1 (dataGet t l p n).2) := by
  by_cases hc : typeOk t = false ∨ 512 < l.length ∨ p < 0 ∨ n < 0 ∨ 512 < n
  · rw [dataGet_out hc]
    obtain ⟨a, cap, rfl, _⟩ := h.lies
    cases ht : typeOk t with
    | false => exact specDataGet_no1 t p n ht
    | true =>
      by_cases h1 : 512 < l.length
      · exact specDataGet_no2 t p n ht h1
      by_cases h2 : p < 0
      · exact specDataGet_no3 t p n ht h1 h2
      by_cases h3 : n < 0
      · exact specDataGet_no4 t p n ht h1 h2 h3
      · exact specDataGet_no5 t p n ht h1 h2 h3 (by rcases hc with q | q | q | q | q <;> first | (rw [ht] at q; cases q) | omega)
  · have ht : typeOk t = true := by cases q : typeOk t with
      | true => rfl
      | false => exact absurd (.inl q) hc
    exact specDataGet_in p n ht h (by omega) (by omega) hp (by omega) (by omega) hb
end Go.Proofs.Ytnloenkjfjlmeaa

namespace Go.Proofs.Ytnloenkjfjlmeaa
open Go.RowKit
set_option linter.unusedVariables false

theorem readAt_no {l : List Int} {p : Int} (h : (dtAt l p).2 = false) : readAt l p = (emptyR 0, 0, -1) := by
  unfold readAt; rw [if_neg (by rw [h]; simp)]
theorem dtAt_neg {l : List Int} {p : Int} (h : e4 l p < 0) : (dtAt l p).2 = false := by
  unfold dtAt; rw [dataGet_out (.inr (.inr (.inl h)))]
/-- All parts stand there, or the size does not. -/
theorem ends_cases (l : List Int) (p : Int) : (0 ≤ e0 l p ∧ e1 l p = e0 l p + 2 ∧ e2 l p = e0 l p + 4 ∧ e3 l p = e0 l p + 8 ∧ e4 l p = e0 l p + 10 ∧ e0 l p + 10 ≤ l.length) ∨ (e4 l p = -1 ∧ (e0 l p < 0 ∨ (0 ≤ e0 l p ∧ (l.length : Int) < e0 l p + 10))) := by
  have a := nameGet_end l p
  have b := get16_end l (e0 l p)
  have c := get16_end l (e1 l p)
  have d := get32_end l (e2 l p)
  have f := get16_end l (e3 l p)
  have b' : e0 l p + 2 ≤ l.length → 0 ≤ e0 l p → e1 l p = e0 l p + 2 := fun h1 h2 => by unfold e1 get16; rw [if_pos ⟨h2, h1⟩]
  have c' : e1 l p + 2 ≤ l.length → 0 ≤ e1 l p → e2 l p = e1 l p + 2 := fun h1 h2 => by unfold e2 get16; rw [if_pos ⟨h2, h1⟩]
  have d' : e2 l p + 4 ≤ l.length → 0 ≤ e2 l p → e3 l p = e2 l p + 4 := fun h1 h2 => by unfold e3 get32; rw [if_pos ⟨h2, h1⟩]
  have f' : e3 l p + 2 ≤ l.length → 0 ≤ e3 l p → e4 l p = e3 l p + 2 := fun h1 h2 => by unfold e4 get16; rw [if_pos ⟨h2, h1⟩]
  change e0 l p = -1 ∨ _ at a
  change e1 l p = -1 ∨ (_ ∧ e1 l p = _ ∧ _) at b
  change e2 l p = -1 ∨ (_ ∧ e2 l p = _ ∧ _) at c
  change e3 l p = -1 ∨ (_ ∧ e3 l p = _ ∧ _) at d
  change e4 l p = -1 ∨ (_ ∧ e4 l p = _ ∧ _) at f
  omega
theorem dataGet_goodw {t : Int} {l : List Int} {p n : Int} (ht : typeOk t = true) (hl : l.length ≤ 512) (hp : 0 ≤ p) (hn0 : 0 ≤ n) :
    dataGet t l p n = if good t l p n = true then ((kindGet t l p).1, true) else (emptyR 0, false) := by
  by_cases hn1 : n ≤ 512
  · exact dataGet_good ht hl hp hn0 hn1
  · have he := kindGet_end t l p
    have hg : good t l p n = false := by unfold good; rw [decide_eq_false (by omega), Bool.false_and]
    rw [hg, if_neg (by simp), dataGet_out (by omega)]

set_option maxHeartbeats 2000000 in
set_option maxRecDepth 100000 in
theorem l3read_no {B : Nat} {v : Value} {l : List Int} (p : Int) {w : World} (h : Own B 5 w v l) (hl : l.length ≤ 512) (hp : p ≤ 9223372036854775807) (hb : Bytes8 l) (h0 : e0 l p < 0) :
    Calls Try.prog 101 #[v, .int .i64 p] w (GivesC w (readAt l p).1 (readAt l p).2.1 (readAt l p).2.2) := by
  have hr : readAt l p = (emptyR 0, 0, -1) := readAt_no (dtAt_neg (by rcases ends_cases l p with q | q <;> omega))
  rw [hr]
  obtain ⟨a, cap, rfl, _⟩ := h.lies
  have b0 := below_alloc (w := w) (.cells #[.slice none 0 0, .int .i64 0, .int .i64 0, .int .i64 0, .slice none 0 0, .slice none 0 0, .slice none 0 0] 50)
  have K0 := hide (heap_alloc_new w (.cells #[.slice none 0 0, .int .i64 0, .int .i64 0, .int .i64 0, .slice none 0 0, .slice none 0 0, .slice none 0 0] 50))
  have A0 := hide (h.below b0)
  have C0 := l2get_own p (h.below b0) hl hp hb
  have hgn : getName l 20 [] p 0 (-1) = nameGet l p := by unfold nameGet; rw [if_neg (by omega)]
  rw [hgn] at C0
  change Calls _ _ _ _ (fun e w' => ∃ v', e = .returned (.tuple #[.agg #[v'], .int .i64 (e0 l p)]) ∧ _) at C0
  have C0 := hide C0
  clear h hb hgn hr
  generalize (nameGet l p).1 = n0 at *
  generalize e0 l p = x0 at *
  have zW := b0.size
  have zK := block_lt (unhide K0)
  go_enter Try.func101, Try.ntmps101
  go_wp2_with fail
  generalize w.alloc (.cells #[.slice none 0 0, .int .i64 0, .int .i64 0, .int .i64 0, .slice none 0 0, .slice none 0 0, .slice none 0 0] 50) = W at *
  refine (unhide C0).mono ?_
  rintro e w1 ⟨v1, rfl, o1, b1⟩
  obtain ⟨oa, oc, rfl, _⟩ := o1.hasL.form
  have bm := below_alloc (w := w1) (.cells #[.slice oa n0.length oc] 25)
  have M2 := hide (heap_alloc_new w1 (.cells #[.slice oa n0.length oc] 25))
  have K2 := hide (block_kept bm (block_kept b1 (unhide K0)))
  have O2 := hide (o1.here.below bm)
  have A2 := hide (((unhide A0).below b1).below bm)
  have bb2 := below_next (below_next b0 b1) bm
  have z1 := b1.size
  have zm := bm.size
  have zM := block_lt (unhide M2)
  clear C0 K0 A0 b0 b1 bm o1
  obtain ⟨f0, f1, f2, f3, f4, f5, f6⟩ := cells7 (unhide K2)
  obtain ⟨q0, q1, q2, q3, q4, q5, q6⟩ := frozen7 (unhide K2)
  go_wp2_with fail
  obtain ⟨R9, u9⟩ := set7 (c0 := .slice none 0 0) (c1 := .int .i64 0) (c2 := .int .i64 0) (c3 := .int .i64 0) (c4 := .slice none 0 0) (c5 := .slice none 0 0) (c6 := .slice none 0 0) (unhide K2)
  refine bodyPost_ret (results_cell_tmp2_row rfl _ _ w.heap.size 50 #[.slice none 0 0, .int .i64 0, .int .i64 0, .int .i64 0, .slice none 0 0, .slice none 0 0, .slice none 0 0] (0, 0) _ rfl R9 Try.underlying50 rfl (by kernel_rfl)) rfl ?_
  have z9 := u9.size
  exact ⟨_, _, _, _, rfl, ownR_nil (by omega) _ _ _ _ 0, u9.below bb2 (by omega)⟩

set_option maxHeartbeats 2000000 in
set_option maxRecDepth 100000 in
theorem l3read_cut {B : Nat} {v : Value} {l : List Int} (p : Int) {w : World} (h : Own B 5 w v l) (hl : l.length ≤ 512) (hp : p ≤ 9223372036854775807) (hb : Bytes8 l) (h0 : 0 ≤ e0 l p) (h1 : (l.length : Int) < e0 l p + 10) :
    Calls Try.prog 101 #[v, .int .i64 p] w (GivesC w (readAt l p).1 (readAt l p).2.1 (readAt l p).2.2) := by
  have hr : readAt l p = (emptyR 0, 0, -1) := readAt_no (dtAt_neg (by rcases ends_cases l p with q | q <;> omega))
  rw [hr]
  have hx0 : e0 l p ≤ l.length := (ends_le l p).1
  have hd : (get16 l (e0 l p + 8)).2 = -1 := by
    rcases get16_end l (e0 l p + 8) with q | q
    · exact q
    · omega
  obtain ⟨a, cap, rfl, _⟩ := h.lies
  have b0 := below_alloc (w := w) (.cells #[.slice none 0 0, .int .i64 0, .int .i64 0, .int .i64 0, .slice none 0 0, .slice none 0 0, .slice none 0 0] 50)
  have K0 := hide (heap_alloc_new w (.cells #[.slice none 0 0, .int .i64 0, .int .i64 0, .int .i64 0, .slice none 0 0, .slice none 0 0, .slice none 0 0] 50))
  have A0 := hide (h.below b0)
  have C0 := l2get_own p (h.below b0) hl hp hb
  have hgn : getName l 20 [] p 0 (-1) = nameGet l p := by unfold nameGet; rw [if_neg (by omega)]
  rw [hgn] at C0
  change Calls _ _ _ _ (fun e w' => ∃ v', e = .returned (.tuple #[.agg #[v'], .int .i64 (e0 l p)]) ∧ _) at C0
  have C0 := hide C0
  have C1 := hide (show ∀ w : World, Own B 5 w (.slice a l.length cap) l → Calls Try.prog 127 #[.slice a l.length cap, .int .i64 (e0 l p)] w fun e w' => e = .returned (.tuple #[.int .i64 ((get16 l (e0 l p)).1), .int .i64 ((get16 l (e0 l p)).2)]) ∧ Below w.heap.size w w' from fun w h => specGet16_any (e0 l p) h (by omega) hb)
  have C2 := hide (show ∀ w : World, Own B 5 w (.slice a l.length cap) l → Calls Try.prog 127 #[.slice a l.length cap, .int .i64 (e0 l p + 2)] w fun e w' => e = .returned (.tuple #[.int .i64 ((get16 l (e0 l p + 2)).1), .int .i64 ((get16 l (e0 l p + 2)).2)]) ∧ Below w.heap.size w w' from fun w h => specGet16_any (e0 l p + 2) h (by omega) hb)
  have C3 := hide (show ∀ w : World, Own B 5 w (.slice a l.length cap) l → Calls Try.prog 117 #[.slice a l.length cap, .int .i64 (e0 l p + 4)] w fun e w' => e = .returned (.tuple #[.int .i64 ((get32 l (e0 l p + 4)).1), .int .i64 ((get32 l (e0 l p + 4)).2)]) ∧ Below w.heap.size w w' from fun w h => specGet32_any (e0 l p + 4) h (by omega) hb)
  have C4 := hide (show ∀ w : World, Own B 5 w (.slice a l.length cap) l → Calls Try.prog 127 #[.slice a l.length cap, .int .i64 (e0 l p + 8)] w fun e w' => e = .returned (.tuple #[.int .i64 ((get16 l (e0 l p + 8)).1), .int .i64 ((get16 l (e0 l p + 8)).2)]) ∧ Below w.heap.size w w' from fun w h => specGet16_any (e0 l p + 8) h (by omega) hb)
  clear h hb hgn hr
  rw [hd] at C4
  clear hd
  generalize (nameGet l p).1 = n0 at *
  generalize (get16 l (e0 l p)).1 = y1 at *
  generalize (get16 l (e0 l p)).2 = x1 at *
  generalize (get16 l (e0 l p + 2)).1 = y2 at *
  generalize (get16 l (e0 l p + 2)).2 = x2 at *
  generalize (get32 l (e0 l p + 4)).1 = y3 at *
  generalize (get32 l (e0 l p + 4)).2 = x3 at *
  generalize (get16 l (e0 l p + 8)).1 = y4 at *
  generalize e0 l p = x0 at *
  have h0' : ¬ x0 < 0 := by omega
  have zW := b0.size
  have zK := block_lt (unhide K0)
  go_enter Try.func101, Try.ntmps101
  go_wp2_with fail
  generalize w.alloc (.cells #[.slice none 0 0, .int .i64 0, .int .i64 0, .int .i64 0, .slice none 0 0, .slice none 0 0, .slice none 0 0] 50) = W at *
  refine (unhide C0).mono ?_
  rintro e w1 ⟨v1, rfl, o1, b1⟩
  obtain ⟨oa, oc, rfl, _⟩ := o1.hasL.form
  have bm := below_alloc (w := w1) (.cells #[.slice oa n0.length oc] 25)
  have M2 := hide (heap_alloc_new w1 (.cells #[.slice oa n0.length oc] 25))
  have K2 := hide (block_kept bm (block_kept b1 (unhide K0)))
  have O2 := hide (o1.here.below bm)
  have A2 := hide (((unhide A0).below b1).below bm)
  have bb2 := below_next (below_next b0 b1) bm
  have z1 := b1.size
  have zm := bm.size
  have zM := block_lt (unhide M2)
  clear C0 K0 A0 b0 b1 bm o1
  go_wp2_with fail
  generalize w1.alloc (.cells #[.slice oa n0.length oc] 25) = w2 at *
  refine (unhide C1 _ (unhide A2)).mono ?_
  rintro e w3 ⟨rfl, b3⟩
  have K3 := hide (block_kept b3 (unhide K2))
  have M3 := hide (block_kept b3 (unhide M2))
  have O3 := hide ((unhide O2).below b3)
  have A3 := hide ((unhide A2).below b3)
  have bb3 := below_next bb2 b3
  have z3 := b3.size
  clear K2 M2 O2 A2 bb2 b3
  go_wp2_with fail
  refine (unhide C2 _ (unhide A3)).mono ?_
  rintro e w4 ⟨rfl, b4⟩
  have K4 := hide (block_kept b4 (unhide K3))
  have M4 := hide (block_kept b4 (unhide M3))
  have O4 := hide ((unhide O3).below b4)
  have A4 := hide ((unhide A3).below b4)
  have bb4 := below_next bb3 b4
  have z4 := b4.size
  clear K3 M3 O3 A3 bb3 b4
  go_wp2_with fail
  refine (unhide C3 _ (unhide A4)).mono ?_
  rintro e w5 ⟨rfl, b5⟩
  have K5 := hide (block_kept b5 (unhide K4))
  have M5 := hide (block_kept b5 (unhide M4))
  have O5 := hide ((unhide O4).below b5)
  have A5 := hide ((unhide A4).below b5)
  have bb5 := below_next bb4 b5
  have z5 := b5.size
  clear K4 M4 O4 A4 bb4 b5
  go_wp2_with fail
  refine (unhide C4 _ (unhide A5)).mono ?_
  rintro e w6 ⟨rfl, b6⟩
  have K6 := hide (block_kept b6 (unhide K5))
  have M6 := hide (block_kept b6 (unhide M5))
  have O6 := hide ((unhide O5).below b6)
  have A6 := hide ((unhide A5).below b6)
  have bb6 := below_next bb5 b6
  have z6 := b6.size
  clear K5 M5 O5 A5 bb5 b6
  have hq : x1 < 0 ∨ (¬ x1 < 0 ∧ x2 < 0) ∨ (¬ x1 < 0 ∧ ¬ x2 < 0 ∧ x3 < 0) ∨ (¬ x1 < 0 ∧ ¬ x2 < 0 ∧ ¬ x3 < 0) := by omega
  clear C1 C2 C3 C4 O6 A6 M6 h0 h1 hx0
  obtain ⟨f0, f1, f2, f3, f4, f5, f6⟩ := cells7 (unhide K6)
  obtain ⟨q0, q1, q2, q3, q4, q5, q6⟩ := frozen7 (unhide K6)
  obtain ⟨R9, u9⟩ := set7 (c0 := .slice none 0 0) (c1 := .int .i64 0) (c2 := .int .i64 0) (c3 := .int .i64 0) (c4 := .slice none 0 0) (c5 := .slice none 0 0) (c6 := .slice none 0 0) (unhide K6)
  have z9 := u9.size
  have hown := hide (ownR_nil (B := w.heap.size) (E := (((((((w6.setCell ⟨w.heap.size, 0, none⟩ (.slice none 0 0)).setCell ⟨w.heap.size, 1, none⟩ (.int .i64 0)).setCell ⟨w.heap.size, 2, none⟩ (.int .i64 0)).setCell ⟨w.heap.size, 3, none⟩ (.int .i64 0)).setCell ⟨w.heap.size, 4, none⟩ (.slice none 0 0)).setCell ⟨w.heap.size, 5, none⟩ (.slice none 0 0)).setCell ⟨w.heap.size, 6, none⟩ (.slice none 0 0)).heap.size) (by omega) 22 5 3 (((((((w6.setCell ⟨w.heap.size, 0, none⟩ (.slice none 0 0)).setCell ⟨w.heap.size, 1, none⟩ (.int .i64 0)).setCell ⟨w.heap.size, 2, none⟩ (.int .i64 0)).setCell ⟨w.heap.size, 3, none⟩ (.int .i64 0)).setCell ⟨w.heap.size, 4, none⟩ (.slice none 0 0)).setCell ⟨w.heap.size, 5, none⟩ (.slice none 0 0)).setCell ⟨w.heap.size, 6, none⟩ (.slice none 0 0)) 0)
  have hbel := hide (u9.below bb6 (by omega))
  have HR9 := hide R9
  clear R9 u9 z9 K6 bb6
  rcases hq with hq | ⟨hq1, hq2⟩ | ⟨hq1, hq2, hq3⟩ | ⟨hq1, hq2, hq3⟩
  all_goals
    go_wp2_with fail
    refine bodyPost_ret (results_cell_tmp2_row rfl _ _ w.heap.size 50 #[.slice none 0 0, .int .i64 0, .int .i64 0, .int .i64 0, .slice none 0 0, .slice none 0 0, .slice none 0 0] (0, 0) _ rfl (unhide HR9) Try.underlying50 rfl (by kernel_rfl)) rfl ?_
    exact ⟨_, _, _, _, rfl, unhide hown, unhide hbel⟩

set_option maxHeartbeats 2000000 in
set_option maxRecDepth 100000 in
theorem l3read_type {B : Nat} {v : Value} {l : List Int} (p : Int) {w : World} (h : Own B 5 w v l) (hl : l.length ≤ 512) (hp : p ≤ 9223372036854775807) (hb : Bytes8 l) (h0 : 0 ≤ e0 l p) (h1 : e0 l p + 10 ≤ l.length) (hty : typeOk (tyAt l p) = false) :
    Calls Try.prog 101 #[v, .int .i64 p] w (GivesC w (readAt l p).1 (readAt l p).2.1 (readAt l p).2.2) := by
  have hr : readAt l p = (emptyR 0, 0, -1) := readAt_no (by unfold dtAt; rw [dataGet_out (.inl hty)])
  rw [hr]
  have hx0 : e0 l p + 10 ≤ l.length := h1
  obtain ⟨g1, g2, g3, g4⟩ : e1 l p = e0 l p + 2 ∧ e2 l p = e0 l p + 4 ∧ e3 l p = e0 l p + 8 ∧ e4 l p = e0 l p + 10 := by rcases ends_cases l p with q | q <;> omega
  obtain ⟨a, cap, rfl, _⟩ := h.lies
  have b0 := below_alloc (w := w) (.cells #[.slice none 0 0, .int .i64 0, .int .i64 0, .int .i64 0, .slice none 0 0, .slice none 0 0, .slice none 0 0] 50)
  have K0 := hide (heap_alloc_new w (.cells #[.slice none 0 0, .int .i64 0, .int .i64 0, .int .i64 0, .slice none 0 0, .slice none 0 0, .slice none 0 0] 50))
  have A0 := hide (h.below b0)
  have C0 := l2get_own p (h.below b0) hl hp hb
  have hgn : getName l 20 [] p 0 (-1) = nameGet l p := by unfold nameGet; rw [if_neg (by omega)]
  rw [hgn] at C0
  change Calls _ _ _ _ (fun e w' => ∃ v', e = .returned (.tuple #[.agg #[v'], .int .i64 (e0 l p)]) ∧ _) at C0
  have C0 := hide C0
  have C1 := hide (show ∀ w : World, Own B 5 w (.slice a l.length cap) l → Calls Try.prog 127 #[.slice a l.length cap, .int .i64 (e0 l p)] w fun e w' => e = .returned (.tuple #[.int .i64 (tyAt l p), .int .i64 (e1 l p)]) ∧ Below w.heap.size w w' from fun w h => specGet16_any (e0 l p) h (by omega) hb)
  have C2 := hide (show ∀ w : World, Own B 5 w (.slice a l.length cap) l → Calls Try.prog 127 #[.slice a l.length cap, .int .i64 (e0 l p + 2)] w fun e w' => e = .returned (.tuple #[.int .i64 (clAt l p), .int .i64 (e2 l p)]) ∧ Below w.heap.size w w' from fun w h => by rw [← g1]; exact specGet16_any (e1 l p) h (by omega) hb)
  have C3 := hide (show ∀ w : World, Own B 5 w (.slice a l.length cap) l → Calls Try.prog 117 #[.slice a l.length cap, .int .i64 (e0 l p + 4)] w fun e w' => e = .returned (.tuple #[.int .i64 (ttAt l p), .int .i64 (e3 l p)]) ∧ Below w.heap.size w w' from fun w h => by rw [← g2]; exact specGet32_any (e2 l p) h (by omega) hb)
  have C4 := hide (show ∀ w : World, Own B 5 w (.slice a l.length cap) l → Calls Try.prog 127 #[.slice a l.length cap, .int .i64 (e0 l p + 8)] w fun e w' => e = .returned (.tuple #[.int .i64 (szAt l p), .int .i64 (e4 l p)]) ∧ Below w.heap.size w w' from fun w h => by rw [← g3]; exact specGet16_any (e3 l p) h (by omega) hb)
  have HT := fun w : World => specTypeOk_any (tyAt l p) w
  rw [hty] at HT
  replace HT := hide HT
  clear h hb hgn hr hty
  generalize (nameGet l p).1 = n0 at *
  generalize tyAt l p = ty at *
  generalize clAt l p = cl at *
  generalize ttAt l p = tt at *
  generalize szAt l p = sz at *
  generalize e1 l p = x1 at *
  generalize e2 l p = x2 at *
  generalize e3 l p = x3 at *
  generalize e4 l p = x4 at *
  generalize e0 l p = x0 at *
  have h0' : ¬ x0 < 0 := by omega
  have n1 : ¬ x1 < 0 := by omega
  have n2 : ¬ x2 < 0 := by omega
  have n3 : ¬ x3 < 0 := by omega
  have n4 : ¬ x4 < 0 := by omega
  clear g1 g2 g3 g4
  have zW := b0.size
  have zK := block_lt (unhide K0)
  go_enter Try.func101, Try.ntmps101
  go_wp2_with fail
  generalize w.alloc (.cells #[.slice none 0 0, .int .i64 0, .int .i64 0, .int .i64 0, .slice none 0 0, .slice none 0 0, .slice none 0 0] 50) = W at *
  refine (unhide C0).mono ?_
  rintro e w1 ⟨v1, rfl, o1, b1⟩
  obtain ⟨oa, oc, rfl, _⟩ := o1.hasL.form
  have bm := below_alloc (w := w1) (.cells #[.slice oa n0.length oc] 25)
  have M2 := hide (heap_alloc_new w1 (.cells #[.slice oa n0.length oc] 25))
  have K2 := hide (block_kept bm (block_kept b1 (unhide K0)))
  have O2 := hide (o1.here.below bm)
  have A2 := hide (((unhide A0).below b1).below bm)
  have bb2 := below_next (below_next b0 b1) bm
  have z1 := b1.size
  have zm := bm.size
  have zM := block_lt (unhide M2)
  clear C0 K0 A0 b0 b1 bm o1
  go_wp2_with fail
  generalize w1.alloc (.cells #[.slice oa n0.length oc] 25) = w2 at *
  refine (unhide C1 _ (unhide A2)).mono ?_
  rintro e w3 ⟨rfl, b3⟩
  have K3 := hide (block_kept b3 (unhide K2))
  have M3 := hide (block_kept b3 (unhide M2))
  have O3 := hide ((unhide O2).below b3)
  have A3 := hide ((unhide A2).below b3)
  have bb3 := below_next bb2 b3
  have z3 := b3.size
  clear K2 M2 O2 A2 bb2 b3
  go_wp2_with fail
  refine (unhide C2 _ (unhide A3)).mono ?_
  rintro e w4 ⟨rfl, b4⟩
  have K4 := hide (block_kept b4 (unhide K3))
  have M4 := hide (block_kept b4 (unhide M3))
  have O4 := hide ((unhide O3).below b4)
  have A4 := hide ((unhide A3).below b4)
  have bb4 := below_next bb3 b4
  have z4 := b4.size
  clear K3 M3 O3 A3 bb3 b4
  go_wp2_with fail
  refine (unhide C3 _ (unhide A4)).mono ?_
  rintro e w5 ⟨rfl, b5⟩
  have K5 := hide (block_kept b5 (unhide K4))
  have M5 := hide (block_kept b5 (unhide M4))
  have O5 := hide ((unhide O4).below b5)
  have A5 := hide ((unhide A4).below b5)
  have bb5 := below_next bb4 b5
  have z5 := b5.size
  clear K4 M4 O4 A4 bb4 b5
  go_wp2_with fail
  refine (unhide C4 _ (unhide A5)).mono ?_
  rintro e w6 ⟨rfl, b6⟩
  have K6 := hide (block_kept b6 (unhide K5))
  have M6 := hide (block_kept b6 (unhide M5))
  have O6 := hide ((unhide O5).below b6)
  have A6 := hide ((unhide A5).below b6)
  have bb6 := below_next bb5 b6
  have z6 := b6.size
  clear K5 M5 O5 A5 bb5 b6
  clear C1 C2 C3 C4
  go_wp2_with fail
  refine (unhide HT _).mono ?_
  rintro e w7 ⟨rfl, rfl⟩
  obtain ⟨f0, f1, f2, f3, f4, f5, f6⟩ := cells7 (unhide K6)
  obtain ⟨q0, q1, q2, q3, q4, q5, q6⟩ := frozen7 (unhide K6)
  go_wp2_with fail
  obtain ⟨R9, u9⟩ := set7 (c0 := .slice none 0 0) (c1 := .int .i64 0) (c2 := .int .i64 0) (c3 := .int .i64 0) (c4 := .slice none 0 0) (c5 := .slice none 0 0) (c6 := .slice none 0 0) (unhide K6)
  refine bodyPost_ret (results_cell_tmp2_row rfl _ _ w.heap.size 50 #[.slice none 0 0, .int .i64 0, .int .i64 0, .int .i64 0, .slice none 0 0, .slice none 0 0, .slice none 0 0] (0, 0) _ rfl R9 Try.underlying50 rfl (by kernel_rfl)) rfl ?_
  have z9 := u9.size
  exact ⟨_, _, _, _, rfl, ownR_nil (by omega) _ _ _ _ 0, u9.below bb6 (by omega)⟩

set_option maxHeartbeats 2000000 in
set_option maxRecDepth 100000 in
theorem l3read_bad {B : Nat} {v : Value} {l : List Int} (p : Int) {w : World} (h : Own B 5 w v l) (hl : l.length ≤ 512) (hp : p ≤ 9223372036854775807) (hb : Bytes8 l) (h0 : 0 ≤ e0 l p) (h1 : e0 l p + 10 ≤ l.length) (hty : typeOk (tyAt l p) = true) (hg : good (tyAt l p) l (e4 l p) (szAt l p) = false) :
    Calls Try.prog 101 #[v, .int .i64 p] w (GivesC w (readAt l p).1 (readAt l p).2.1 (readAt l p).2.2) := by
  have hx0 : e0 l p + 10 ≤ l.length := h1
  obtain ⟨g1, g2, g3, g4⟩ : e1 l p = e0 l p + 2 ∧ e2 l p = e0 l p + 4 ∧ e3 l p = e0 l p + 8 ∧ e4 l p = e0 l p + 10 := by rcases ends_cases l p with q | q <;> omega
  have hsz := get16_bound hb (e3 l p)
  change 0 ≤ szAt l p ∧ szAt l p ≤ 65535 at hsz
  have hdt : dtAt l p = if good (tyAt l p) l (e4 l p) (szAt l p) = true then ((kindGet (tyAt l p) l (e4 l p)).1, true) else (emptyR 0, false) := by unfold dtAt; exact dataGet_goodw hty hl (by omega) hsz.1
  have hr : readAt l p = (emptyR 0, 0, -1) := readAt_no (by rw [hdt, hg]; rfl)
  rw [hr]
  clear hdt hr
  obtain ⟨a, cap, rfl, _⟩ := h.lies
  have b0 := below_alloc (w := w) (.cells #[.slice none 0 0, .int .i64 0, .int .i64 0, .int .i64 0, .slice none 0 0, .slice none 0 0, .slice none 0 0] 50)
  have K0 := hide (heap_alloc_new w (.cells #[.slice none 0 0, .int .i64 0, .int .i64 0, .int .i64 0, .slice none 0 0, .slice none 0 0, .slice none 0 0] 50))
  have A0 := hide (h.below b0)
  have C0 := l2get_own p (h.below b0) hl hp hb
  have hgn : getName l 20 [] p 0 (-1) = nameGet l p := by unfold nameGet; rw [if_neg (by omega)]
  rw [hgn] at C0
  change Calls _ _ _ _ (fun e w' => ∃ v', e = .returned (.tuple #[.agg #[v'], .int .i64 (e0 l p)]) ∧ _) at C0
  have C0 := hide C0
  have C1 := hide (show ∀ w : World, Own B 5 w (.slice a l.length cap) l → Calls Try.prog 127 #[.slice a l.length cap, .int .i64 (e0 l p)] w fun e w' => e = .returned (.tuple #[.int .i64 (tyAt l p), .int .i64 (e1 l p)]) ∧ Below w.heap.size w w' from fun w h => specGet16_any (e0 l p) h (by omega) hb)
  have C2 := hide (show ∀ w : World, Own B 5 w (.slice a l.length cap) l → Calls Try.prog 127 #[.slice a l.length cap, .int .i64 (e0 l p + 2)] w fun e w' => e = .returned (.tuple #[.int .i64 (clAt l p), .int .i64 (e2 l p)]) ∧ Below w.heap.size w w' from fun w h => by rw [← g1]; exact specGet16_any (e1 l p) h (by omega) hb)
  have C3 := hide (show ∀ w : World, Own B 5 w (.slice a l.length cap) l → Calls Try.prog 117 #[.slice a l.length cap, .int .i64 (e0 l p + 4)] w fun e w' => e = .returned (.tuple #[.int .i64 (ttAt l p), .int .i64 (e3 l p)]) ∧ Below w.heap.size w w' from fun w h => by rw [← g2]; exact specGet32_any (e2 l p) h (by omega) hb)
  have C4 := hide (show ∀ w : World, Own B 5 w (.slice a l.length cap) l → Calls Try.prog 127 #[.slice a l.length cap, .int .i64 (e0 l p + 8)] w fun e w' => e = .returned (.tuple #[.int .i64 (szAt l p), .int .i64 (e4 l p)]) ∧ Below w.heap.size w w' from fun w h => by rw [← g3]; exact specGet16_any (e3 l p) h (by omega) hb)
  have C5 := (show ∀ w : World, Own B 5 w (.slice a l.length cap) l → Calls Try.prog 85 #[.int .i64 (tyAt l p), .slice a l.length cap, .int .i64 (e4 l p), .int .i64 (szAt l p)] w (GivesG w (kindGet (tyAt l p) l (e4 l p)).1 (good (tyAt l p) l (e4 l p) (szAt l p))) from fun w h => l3get_own (e4 l p) (szAt l p) hty h hl (by omega) (by omega) (by omega) hb)
  rw [hg] at C5
  have C5 := hide C5
  have HT := fun w : World => specTypeOk_any (tyAt l p) w
  rw [hty] at HT
  replace HT := hide HT
  clear h hb hgn hty hg
  generalize (kindGet (tyAt l p) l (e4 l p)).1 = D0 at *
  generalize (nameGet l p).1 = n0 at *
  generalize tyAt l p = ty at *
  generalize clAt l p = cl at *
  generalize ttAt l p = tt at *
  generalize szAt l p = sz at *
  generalize e1 l p = x1 at *
  generalize e2 l p = x2 at *
  generalize e3 l p = x3 at *
  generalize e4 l p = x4 at *
  generalize e0 l p = x0 at *
  have h0' : ¬ x0 < 0 := by omega
  have n1 : ¬ x1 < 0 := by omega
  have n2 : ¬ x2 < 0 := by omega
  have n3 : ¬ x3 < 0 := by omega
  have n4 : ¬ x4 < 0 := by omega
  clear g1 g2 g3 g4
  have zW := b0.size
  have zK := block_lt (unhide K0)
  go_enter Try.func101, Try.ntmps101
  go_wp2_with fail
  generalize w.alloc (.cells #[.slice none 0 0, .int .i64 0, .int .i64 0, .int .i64 0, .slice none 0 0, .slice none 0 0, .slice none 0 0] 50) = W at *
  refine (unhide C0).mono ?_
  rintro e w1 ⟨v1, rfl, o1, b1⟩
  obtain ⟨oa, oc, rfl, _⟩ := o1.hasL.form
  have bm := below_alloc (w := w1) (.cells #[.slice oa n0.length oc] 25)
  have M2 := hide (heap_alloc_new w1 (.cells #[.slice oa n0.length oc] 25))
  have K2 := hide (block_kept bm (block_kept b1 (unhide K0)))
  have O2 := hide (o1.here.below bm)
  have A2 := hide (((unhide A0).below b1).below bm)
  have bb2 := below_next (below_next b0 b1) bm
  have z1 := b1.size
  have zm := bm.size
  have zM := block_lt (unhide M2)
  clear C0 K0 A0 b0 b1 bm o1
  go_wp2_with fail
  generalize w1.alloc (.cells #[.slice oa n0.length oc] 25) = w2 at *
  refine (unhide C1 _ (unhide A2)).mono ?_
  rintro e w3 ⟨rfl, b3⟩
  have K3 := hide (block_kept b3 (unhide K2))
  have M3 := hide (block_kept b3 (unhide M2))
  have O3 := hide ((unhide O2).below b3)
  have A3 := hide ((unhide A2).below b3)
  have bb3 := below_next bb2 b3
  have z3 := b3.size
  clear K2 M2 O2 A2 bb2 b3
  go_wp2_with fail
  refine (unhide C2 _ (unhide A3)).mono ?_
  rintro e w4 ⟨rfl, b4⟩
  have K4 := hide (block_kept b4 (unhide K3))
  have M4 := hide (block_kept b4 (unhide M3))
  have O4 := hide ((unhide O3).below b4)
  have A4 := hide ((unhide A3).below b4)
  have bb4 := below_next bb3 b4
  have z4 := b4.size
  clear K3 M3 O3 A3 bb3 b4
  go_wp2_with fail
  refine (unhide C3 _ (unhide A4)).mono ?_
  rintro e w5 ⟨rfl, b5⟩
  have K5 := hide (block_kept b5 (unhide K4))
  have M5 := hide (block_kept b5 (unhide M4))
  have O5 := hide ((unhide O4).below b5)
  have A5 := hide ((unhide A4).below b5)
  have bb5 := below_next bb4 b5
  have z5 := b5.size
  clear K4 M4 O4 A4 bb4 b5
  go_wp2_with fail
  refine (unhide C4 _ (unhide A5)).mono ?_
  rintro e w6 ⟨rfl, b6⟩
  have K6 := hide (block_kept b6 (unhide K5))
  have M6 := hide (block_kept b6 (unhide M5))
  have O6 := hide ((unhide O5).below b6)
  have A6 := hide ((unhide A5).below b6)
  have bb6 := below_next bb5 b6
  have z6 := b6.size
  clear K5 M5 O5 A5 bb5 b6
  clear C1 C2 C3 C4
  go_wp2_with fail
  refine (unhide HT _).mono ?_
  rintro e w7 ⟨rfl, rfl⟩
  go_wp2_with fail
  refine (unhide C5 _ (unhide A6)).mono ?_
  rintro e w7 ⟨D, ⟨vn, vt, vx, vi, rfl, o7, b7⟩, hD⟩
  obtain ⟨ra, rc, rfl, _⟩ := o7.hasR.name.form
  obtain ⟨ta, tc, rfl, _⟩ := o7.hasR.to.form
  obtain ⟨xa, xc, rfl, _⟩ := o7.hasR.text.form
  obtain ⟨ia, ic, rfl, _⟩ := o7.hasR.nums.form
  have b9 := below_alloc (w := w7) (.cells #[.slice oa n0.length oc, .int .i64 D.type, .int .i64 tt, .int .i64 D.addr, .slice ta D.to.length tc, .slice xa D.text.length xc, .slice ia D.nums.length ic] 50)
  have V9 := hide (heap_alloc_new w7 (.cells #[.slice oa n0.length oc, .int .i64 D.type, .int .i64 tt, .int .i64 D.addr, .slice ta D.to.length tc, .slice xa D.text.length xc, .slice ia D.nums.length ic] 50))
  have K9 := hide (block_kept b9 (block_kept b7 (unhide K6)))
  have bb9 := below_next (below_next bb6 b7) b9
  have z7 := b7.size
  have z9 := b9.size
  have zV := block_lt (unhide V9)
  have HR9 := hide (((o7.below b9).wide (B' := w2.heap.size) (E' := w7.heap.size) (by omega) (by omega)).named2 tt ((((unhide O6).below b7).below b9).wide (C' := W.heap.size) (E' := w2.heap.size) (by omega) (by omega)) (by omega))
  have cm : ∀ o, (w7.alloc o).cell? ⟨w1.heap.size, 0, none⟩ = some (.slice oa n0.length oc) := fun o => block_one (block_kept (below_alloc o) (block_kept b7 (unhide M6)))
  clear C5 HT K6 M6 O6 A6 bb6 b7 o7 b9
  clear hD HR9 V9
  obtain ⟨f0, f1, f2, f3, f4, f5, f6⟩ := cells7 (unhide K9)
  obtain ⟨q0, q1, q2, q3, q4, q5, q6⟩ := frozen7 (unhide K9)
  go_wp2_with fail
  obtain ⟨R9, u9⟩ := set7 (c0 := .slice none 0 0) (c1 := .int .i64 0) (c2 := .int .i64 0) (c3 := .int .i64 0) (c4 := .slice none 0 0) (c5 := .slice none 0 0) (c6 := .slice none 0 0) (unhide K9)
  refine bodyPost_ret (results_cell_tmp2_row rfl _ _ w.heap.size 50 #[.slice none 0 0, .int .i64 0, .int .i64 0, .int .i64 0, .slice none 0 0, .slice none 0 0, .slice none 0 0] (0, 0) _ rfl R9 Try.underlying50 rfl (by kernel_rfl)) rfl ?_
  have z9 := u9.size
  exact ⟨_, _, _, _, rfl, ownR_nil (by omega) _ _ _ _ 0, u9.below bb9 (by omega)⟩

set_option maxHeartbeats 2000000 in
set_option maxRecDepth 100000 in
theorem l3read_ok {B : Nat} {v : Value} {l : List Int} (p : Int) {w : World} (h : Own B 5 w v l) (hl : l.length ≤ 512) (hp : p ≤ 9223372036854775807) (hb : Bytes8 l) (h0 : 0 ≤ e0 l p) (h1 : e0 l p + 10 ≤ l.length) (hty : typeOk (tyAt l p) = true) (hg : good (tyAt l p) l (e4 l p) (szAt l p) = true) :
    Calls Try.prog 101 #[v, .int .i64 p] w (GivesC w (readAt l p).1 (readAt l p).2.1 (readAt l p).2.2) := by
  have hx0 : e0 l p + 10 ≤ l.length := h1
  obtain ⟨g1, g2, g3, g4⟩ : e1 l p = e0 l p + 2 ∧ e2 l p = e0 l p + 4 ∧ e3 l p = e0 l p + 8 ∧ e4 l p = e0 l p + 10 := by rcases ends_cases l p with q | q <;> omega
  have hsz := get16_bound hb (e3 l p)
  change 0 ≤ szAt l p ∧ szAt l p ≤ 65535 at hsz
  have hdt : dtAt l p = if good (tyAt l p) l (e4 l p) (szAt l p) = true then ((kindGet (tyAt l p) l (e4 l p)).1, true) else (emptyR 0, false) := by unfold dtAt; exact dataGet_goodw hty hl (by omega) hsz.1
  rw [hg, if_pos rfl] at hdt
  have hbd : e4 l p + szAt l p ≤ 512 := by
    have q : (dtAt l p).2 = true := by rw [hdt]
    have := dataGet_yes q
    omega
  have hr : readAt l p = if rrOk (named2 (kindGet (tyAt l p) l (e4 l p)).1 (nameGet l p).1 (ttAt l p)) = true then (named2 (kindGet (tyAt l p) l (e4 l p)).1 (nameGet l p).1 (ttAt l p), clAt l p, e4 l p + szAt l p) else (emptyR 0, 0, -1) := by
    unfold readAt recAt
    rw [hdt]
    simp
  rw [hr]
  clear hdt hr
  obtain ⟨a, cap, rfl, _⟩ := h.lies
  have b0 := below_alloc (w := w) (.cells #[.slice none 0 0, .int .i64 0, .int .i64 0, .int .i64 0, .slice none 0 0, .slice none 0 0, .slice none 0 0] 50)
  have K0 := hide (heap_alloc_new w (.cells #[.slice none 0 0, .int .i64 0, .int .i64 0, .int .i64 0, .slice none 0 0, .slice none 0 0, .slice none 0 0] 50))
  have A0 := hide (h.below b0)
  have C0 := l2get_own p (h.below b0) hl hp hb
  have hgn : getName l 20 [] p 0 (-1) = nameGet l p := by unfold nameGet; rw [if_neg (by omega)]
  rw [hgn] at C0
  change Calls _ _ _ _ (fun e w' => ∃ v', e = .returned (.tuple #[.agg #[v'], .int .i64 (e0 l p)]) ∧ _) at C0
  have C0 := hide C0
  have C1 := hide (show ∀ w : World, Own B 5 w (.slice a l.length cap) l → Calls Try.prog 127 #[.slice a l.length cap, .int .i64 (e0 l p)] w fun e w' => e = .returned (.tuple #[.int .i64 (tyAt l p), .int .i64 (e1 l p)]) ∧ Below w.heap.size w w' from fun w h => specGet16_any (e0 l p) h (by omega) hb)
  have C2 := hide (show ∀ w : World, Own B 5 w (.slice a l.length cap) l → Calls Try.prog 127 #[.slice a l.length cap, .int .i64 (e0 l p + 2)] w fun e w' => e = .returned (.tuple #[.int .i64 (clAt l p), .int .i64 (e2 l p)]) ∧ Below w.heap.size w w' from fun w h => by rw [← g1]; exact specGet16_any (e1 l p) h (by omega) hb)
  have C3 := hide (show ∀ w : World, Own B 5 w (.slice a l.length cap) l → Calls Try.prog 117 #[.slice a l.length cap, .int .i64 (e0 l p + 4)] w fun e w' => e = .returned (.tuple #[.int .i64 (ttAt l p), .int .i64 (e3 l p)]) ∧ Below w.heap.size w w' from fun w h => by rw [← g2]; exact specGet32_any (e2 l p) h (by omega) hb)
  have C4 := hide (show ∀ w : World, Own B 5 w (.slice a l.length cap) l → Calls Try.prog 127 #[.slice a l.length cap, .int .i64 (e0 l p + 8)] w fun e w' => e = .returned (.tuple #[.int .i64 (szAt l p), .int .i64 (e4 l p)]) ∧ Below w.heap.size w w' from fun w h => by rw [← g3]; exact specGet16_any (e3 l p) h (by omega) hb)
  have C5 := (show ∀ w : World, Own B 5 w (.slice a l.length cap) l → Calls Try.prog 85 #[.int .i64 (tyAt l p), .slice a l.length cap, .int .i64 (e4 l p), .int .i64 (szAt l p)] w (GivesG w (kindGet (tyAt l p) l (e4 l p)).1 (good (tyAt l p) l (e4 l p) (szAt l p))) from fun w h => l3get_own (e4 l p) (szAt l p) hty h hl (by omega) (by omega) (by omega) hb)
  rw [hg] at C5
  have C5 := hide C5
  have HT := fun w : World => specTypeOk_any (tyAt l p) w
  rw [hty] at HT
  replace HT := hide HT
  clear h hb hgn hty hg
  generalize (kindGet (tyAt l p) l (e4 l p)).1 = D0 at *
  generalize (nameGet l p).1 = n0 at *
  generalize tyAt l p = ty at *
  generalize clAt l p = cl at *
  generalize ttAt l p = tt at *
  generalize szAt l p = sz at *
  generalize e1 l p = x1 at *
  generalize e2 l p = x2 at *
  generalize e3 l p = x3 at *
  generalize e4 l p = x4 at *
  generalize e0 l p = x0 at *
  have h0' : ¬ x0 < 0 := by omega
  have n1 : ¬ x1 < 0 := by omega
  have n2 : ¬ x2 < 0 := by omega
  have n3 : ¬ x3 < 0 := by omega
  have n4 : ¬ x4 < 0 := by omega
  clear g1 g2 g3 g4
  generalize hRes : (if rrOk (named2 D0 n0 tt) = true then (named2 D0 n0 tt, cl, x4 + sz) else (emptyR 0, 0, -1)) = Res
  have HRES := hide hRes
  clear hRes
  have hsum : x4 + sz ≤ 9223372036854775807 ∧ -9223372036854775808 ≤ x4 + sz := by omega
  have zW := b0.size
  have zK := block_lt (unhide K0)
  go_enter Try.func101, Try.ntmps101
  go_wp2_with fail
  generalize w.alloc (.cells #[.slice none 0 0, .int .i64 0, .int .i64 0, .int .i64 0, .slice none 0 0, .slice none 0 0, .slice none 0 0] 50) = W at *
  refine (unhide C0).mono ?_
  rintro e w1 ⟨v1, rfl, o1, b1⟩
  obtain ⟨oa, oc, rfl, _⟩ := o1.hasL.form
  have bm := below_alloc (w := w1) (.cells #[.slice oa n0.length oc] 25)
  have M2 := hide (heap_alloc_new w1 (.cells #[.slice oa n0.length oc] 25))
  have K2 := hide (block_kept bm (block_kept b1 (unhide K0)))
  have O2 := hide (o1.here.below bm)
  have A2 := hide (((unhide A0).below b1).below bm)
  have bb2 := below_next (below_next b0 b1) bm
  have z1 := b1.size
  have zm := bm.size
  have zM := block_lt (unhide M2)
  clear C0 K0 A0 b0 b1 bm o1
  go_wp2_with fail
  generalize w1.alloc (.cells #[.slice oa n0.length oc] 25) = w2 at *
  refine (unhide C1 _ (unhide A2)).mono ?_
  rintro e w3 ⟨rfl, b3⟩
  have K3 := hide (block_kept b3 (unhide K2))
  have M3 := hide (block_kept b3 (unhide M2))
  have O3 := hide ((unhide O2).below b3)
  have A3 := hide ((unhide A2).below b3)
  have bb3 := below_next bb2 b3
  have z3 := b3.size
  clear K2 M2 O2 A2 bb2 b3
  go_wp2_with fail
  refine (unhide C2 _ (unhide A3)).mono ?_
  rintro e w4 ⟨rfl, b4⟩
  have K4 := hide (block_kept b4 (unhide K3))
  have M4 := hide (block_kept b4 (unhide M3))
  have O4 := hide ((unhide O3).below b4)
  have A4 := hide ((unhide A3).below b4)
  have bb4 := below_next bb3 b4
  have z4 := b4.size
  clear K3 M3 O3 A3 bb3 b4
  go_wp2_with fail
  refine (unhide C3 _ (unhide A4)).mono ?_
  rintro e w5 ⟨rfl, b5⟩
  have K5 := hide (block_kept b5 (unhide K4))
  have M5 := hide (block_kept b5 (unhide M4))
  have O5 := hide ((unhide O4).below b5)
  have A5 := hide ((unhide A4).below b5)
  have bb5 := below_next bb4 b5
  have z5 := b5.size
  clear K4 M4 O4 A4 bb4 b5
  go_wp2_with fail
  refine (unhide C4 _ (unhide A5)).mono ?_
  rintro e w6 ⟨rfl, b6⟩
  have K6 := hide (block_kept b6 (unhide K5))
  have M6 := hide (block_kept b6 (unhide M5))
  have O6 := hide ((unhide O5).below b6)
  have A6 := hide ((unhide A5).below b6)
  have bb6 := below_next bb5 b6
  have z6 := b6.size
  clear K5 M5 O5 A5 bb5 b6
  clear C1 C2 C3 C4
  go_wp2_with fail
  refine (unhide HT _).mono ?_
  rintro e w7 ⟨rfl, rfl⟩
  go_wp2_with fail
  refine (unhide C5 _ (unhide A6)).mono ?_
  rintro e w7 ⟨D, ⟨vn, vt, vx, vi, rfl, o7, b7⟩, hD⟩
  obtain ⟨ra, rc, rfl, _⟩ := o7.hasR.name.form
  obtain ⟨ta, tc, rfl, _⟩ := o7.hasR.to.form
  obtain ⟨xa, xc, rfl, _⟩ := o7.hasR.text.form
  obtain ⟨ia, ic, rfl, _⟩ := o7.hasR.nums.form
  have b9 := below_alloc (w := w7) (.cells #[.slice oa n0.length oc, .int .i64 D.type, .int .i64 tt, .int .i64 D.addr, .slice ta D.to.length tc, .slice xa D.text.length xc, .slice ia D.nums.length ic] 50)
  have V9 := hide (heap_alloc_new w7 (.cells #[.slice oa n0.length oc, .int .i64 D.type, .int .i64 tt, .int .i64 D.addr, .slice ta D.to.length tc, .slice xa D.text.length xc, .slice ia D.nums.length ic] 50))
  have K9 := hide (block_kept b9 (block_kept b7 (unhide K6)))
  have bb9 := below_next (below_next bb6 b7) b9
  have z7 := b7.size
  have z9 := b9.size
  have zV := block_lt (unhide V9)
  have HR9 := hide (((o7.below b9).wide (B' := w2.heap.size) (E' := w7.heap.size) (by omega) (by omega)).named2 tt ((((unhide O6).below b7).below b9).wide (C' := W.heap.size) (E' := w2.heap.size) (by omega) (by omega)) (by omega))
  have cm : ∀ o, (w7.alloc o).cell? ⟨w1.heap.size, 0, none⟩ = some (.slice oa n0.length oc) := fun o => block_one (block_kept (below_alloc o) (block_kept b7 (unhide M6)))
  clear C5 HT K6 M6 O6 A6 bb6 b7 o7 b9
  obtain rfl := hD rfl
  clear hD
  go_wp2_with fail
  clear cm
  generalize w7.alloc (.cells #[.slice oa n0.length oc, .int .i64 D.type, .int .i64 tt, .int .i64 D.addr, .slice ta D.to.length tc, .slice xa D.text.length xc, .slice ia D.nums.length ic] 50) = w9 at *
  have HO : Calls Try.prog 31 #[.agg #[.slice oa n0.length oc, .int .i64 D.type, .int .i64 tt, .int .i64 D.addr, .slice ta D.to.length tc, .slice xa D.text.length xc, .slice ia D.nums.length ic]] w9 fun e w' => e = .returned (.bool (rrOk (named2 D n0 tt))) ∧ Below w9.heap.size w9 w' := specRrOk_has (unhide HR9).hasR
  cases hok : rrOk (named2 D n0 tt) with
  | false =>
    rw [hok] at HO
    have hRes := unhide HRES
    rw [hok, if_neg (by simp)] at hRes
    subst hRes
    refine HO.mono ?_
    rintro e w10 ⟨rfl, b10⟩
    have K10 := hide (block_kept b10 (unhide K9))
    have bb10 := below_next bb9 b10
    have z10 := b10.size
    clear HO hok K9 bb9 b10 HRES
    obtain ⟨f0, f1, f2, f3, f4, f5, f6⟩ := cells7 (unhide K10)
    obtain ⟨q0, q1, q2, q3, q4, q5, q6⟩ := frozen7 (unhide K10)
    go_wp2_with fail
    obtain ⟨R9, u9⟩ := set7 (c0 := .slice none 0 0) (c1 := .int .i64 0) (c2 := .int .i64 0) (c3 := .int .i64 0) (c4 := .slice none 0 0) (c5 := .slice none 0 0) (c6 := .slice none 0 0) (unhide K10)
    refine bodyPost_ret (results_cell_tmp2_row rfl _ _ w.heap.size 50 #[.slice none 0 0, .int .i64 0, .int .i64 0, .int .i64 0, .slice none 0 0, .slice none 0 0, .slice none 0 0] (0, 0) _ rfl R9 Try.underlying50 rfl (by kernel_rfl)) rfl ?_
    have z9 := u9.size
    exact ⟨_, _, _, _, rfl, ownR_nil (by omega) _ _ _ _ 0, u9.below bb10 (by omega)⟩
  | true =>
    rw [hok] at HO
    have hRes := unhide HRES
    rw [hok, if_pos (by simp)] at hRes
    subst hRes
    refine HO.mono ?_
    rintro e w10 ⟨rfl, b10⟩
    have K10 := hide (block_kept b10 (unhide K9))
    have V10 := hide (block_kept b10 (unhide V9))
    have HR10 := hide ((unhide HR9).below b10)
    have bb10 := below_next bb9 b10
    have z10 := b10.size
    clear HO hok K9 V9 HR9 bb9 b10 HRES
    obtain ⟨d0, d1, d2, d3, d4, d5, d6⟩ := cells7 (unhide V10)
    obtain ⟨f0, f1, f2, f3, f4, f5, f6⟩ := cells7 (unhide K10)
    obtain ⟨q0, q1, q2, q3, q4, q5, q6⟩ := frozen7 (unhide K10)
    go_wp2_with fail
    obtain ⟨R11, u11⟩ := set7 (c0 := .slice oa n0.length oc) (c1 := .int .i64 D.type) (c2 := .int .i64 tt) (c3 := .int .i64 D.addr) (c4 := .slice ta D.to.length tc) (c5 := .slice xa D.text.length xc) (c6 := .slice ia D.nums.length ic) (unhide K10)
    refine bodyPost_ret (results_cell_tmp2_row rfl _ _ w.heap.size 50 #[.slice oa n0.length oc, .int .i64 D.type, .int .i64 tt, .int .i64 D.addr, .slice ta D.to.length tc, .slice xa D.text.length xc, .slice ia D.nums.length ic] (0, 0) _ rfl R11 Try.underlying50 rfl (by kernel_rfl)) rfl ?_
    have z11 := u11.size
    exact ⟨_, _, _, _, rfl, ((unhide HR10).outside u11 (by omega)).wide (by omega) (by omega), u11.below bb10 (by omega)⟩


theorem l3read_own {B : Nat} {v : Value} {l : List Int} (p : Int) {w : World} (h : Own B 5 w v l) (hl : l.length ≤ 512) (hp : p ≤ 9223372036854775807) (hb : Bytes8 l) :
    Calls Try.prog 101 #[v, .int .i64 p] w (GivesC w (readAt l p).1 (readAt l p).2.1 (readAt l p).2.2) := by
  by_cases h0 : e0 l p < 0
  · exact l3read_no p h hl hp hb h0
  by_cases h1 : (l.length : Int) < e0 l p + 10
  · exact l3read_cut p h hl hp hb (by omega) h1
  cases ht : typeOk (tyAt l p) with
  | false => exact l3read_type p h hl hp hb (by omega) (by omega) ht
  | true =>
    cases hg : good (tyAt l p) l (e4 l p) (szAt l p) with
    | false => exact l3read_bad p h hl hp hb (by omega) (by omega) ht hg
    | true => exact l3read_ok p h hl hp hb (by omega) (by omega) ht hg

set_option maxHeartbeats 1000000 in
set_option maxRecDepth 100000 in
theorem specRrGet_own {B : Nat} {v : Value} {l : List Int} (p : Int) {w : World} (h : Own B 5 w v l) (hl0 : l.length ≤ 1048576) (hp : p ≤ 9223372036854775807) (hb : Bytes8 l) :
    Calls Try.prog 50 #[v, .int .i64 p] w (GivesN w (rrGet l p).1 (rrGet l p).2) := by
  have b0 := below_alloc (w := w) (.cells #[.slice none 0 0, .int .i64 0, .int .i64 0, .int .i64 0, .slice none 0 0, .slice none 0 0, .slice none 0 0] 50)
  have K0 := hide (heap_alloc_new w (.cells #[.slice none 0 0, .int .i64 0, .int .i64 0, .int .i64 0, .slice none 0 0, .slice none 0 0, .slice none 0 0] 50))
  have zW := b0.size
  have zK := block_lt (unhide K0)
  by_cases hl : 512 < l.length
  · have hr : rrGet l p = (emptyR 0, -1) := by
      unfold rrGet
      rw [if_neg]
      intro q
      have := readAt_class q
      omega
    rw [hr]
    obtain ⟨a, cap, rfl, _⟩ := h.lies
    have hl' : (512 : Int) < (l.length : Int) := by omega
    clear h hb hr
    generalize hLN : l.length = L at *
    clear hLN
    obtain ⟨f0, f1, f2, f3, f4, f5, f6⟩ := cells7 (unhide K0)
    obtain ⟨q0, q1, q2, q3, q4, q5, q6⟩ := frozen7 (unhide K0)
    go_enter Try.func50, Try.ntmps50
    go_wp2_with fail
    refine bodyPost_ret (results_cell_tmp_row rfl _ _ w.heap.size 50 #[.slice none 0 0, .int .i64 0, .int .i64 0, .int .i64 0, .slice none 0 0, .slice none 0 0, .slice none 0 0] (0, 0) _ rfl (unhide K0) Try.underlying50 rfl (by kernel_rfl)) rfl ?_
    exact ⟨_, _, _, _, rfl, ownR_nil (by omega) _ _ _ _ 0, b0⟩
  have HC := hide (l3read_own p (h.below b0) (by omega) hp hb)
  have hcl := @readAt_class l p
  obtain ⟨a, cap, rfl, _⟩ := h.lies
  have hl' : ¬ (512 : Int) < (l.length : Int) := by omega
  unfold rrGet
  clear h hb
  generalize (readAt l p).1 = D at *
  generalize (readAt l p).2.1 = cl at *
  generalize (readAt l p).2.2 = x at *
  have HCL := hide hcl
  clear hcl
  generalize hRes : (if cl = 1 then (D, x) else (emptyR 0, -1)) = Res
  have HRES := hide hRes
  clear hRes
  go_enter Try.func50, Try.ntmps50
  go_wp2_with fail
  generalize w.alloc (.cells #[.slice none 0 0, .int .i64 0, .int .i64 0, .int .i64 0, .slice none 0 0, .slice none 0 0, .slice none 0 0] 50) = W at *
  refine (unhide HC).mono ?_
  rintro e w7 ⟨vn, vt, vx, vi, rfl, o7, b7⟩
  obtain ⟨ra, rc, rfl, _⟩ := o7.hasR.name.form
  obtain ⟨ta, tc, rfl, _⟩ := o7.hasR.to.form
  obtain ⟨xa, xc, rfl, _⟩ := o7.hasR.text.form
  obtain ⟨ia, ic, rfl, _⟩ := o7.hasR.nums.form
  have b8 := below_alloc (w := w7) (.cells #[.slice ra D.name.length rc, .int .i64 D.type, .int .i64 D.ttl, .int .i64 D.addr, .slice ta D.to.length tc, .slice xa D.text.length xc, .slice ia D.nums.length ic] 50)
  have V8 := hide (heap_alloc_new w7 (.cells #[.slice ra D.name.length rc, .int .i64 D.type, .int .i64 D.ttl, .int .i64 D.addr, .slice ta D.to.length tc, .slice xa D.text.length xc, .slice ia D.nums.length ic] 50))
  have K8 := hide (block_kept b8 (block_kept b7 (unhide K0)))
  have D8 := hide (o7.below b8)
  have bb8 := below_next (below_next b0 b7) b8
  have z7 := b7.size
  have z8 := b8.size
  have zV := block_lt (unhide V8)
  clear HC K0 b0 b7 b8 o7
  by_cases hc : cl = 1
  · have hx := (unhide HCL hc).1
    have hx' : ¬ x < 0 := by omega
    have hRes := unhide HRES
    rw [if_pos hc] at hRes
    subst hRes
    subst hc
    clear HRES HCL
    obtain ⟨d0, d1, d2, d3, d4, d5, d6⟩ := cells7 (unhide V8)
    obtain ⟨f0, f1, f2, f3, f4, f5, f6⟩ := cells7 (unhide K8)
    obtain ⟨q0, q1, q2, q3, q4, q5, q6⟩ := frozen7 (unhide K8)
    go_wp2_with fail
    obtain ⟨R11, u11⟩ := set7 (c0 := .slice ra D.name.length rc) (c1 := .int .i64 D.type) (c2 := .int .i64 D.ttl) (c3 := .int .i64 D.addr) (c4 := .slice ta D.to.length tc) (c5 := .slice xa D.text.length xc) (c6 := .slice ia D.nums.length ic) (unhide K8)
    refine bodyPost_ret (results_cell_tmp_row rfl _ _ w.heap.size 50 #[.slice ra D.name.length rc, .int .i64 D.type, .int .i64 D.ttl, .int .i64 D.addr, .slice ta D.to.length tc, .slice xa D.text.length xc, .slice ia D.nums.length ic] (0, 0) _ rfl R11 Try.underlying50 rfl (by kernel_rfl)) rfl ?_
    have z11 := u11.size
    exact ⟨_, _, _, _, rfl, ((unhide D8).outside u11 (by omega)).wide (by omega) (by omega), u11.below bb8 (by omega)⟩
  · have hRes := unhide HRES
    rw [if_neg hc] at hRes
    subst hRes
    clear HRES HCL
    have hc' : (cl != 1) = true := by rw [bne_iff_ne]; exact hc
    clear hc
    by_cases hx : x < 0
    · have hx1 : x < 0 := hx
      obtain ⟨f0, f1, f2, f3, f4, f5, f6⟩ := cells7 (unhide K8)
      obtain ⟨q0, q1, q2, q3, q4, q5, q6⟩ := frozen7 (unhide K8)
      go_wp2_with fail
      obtain ⟨R9, u9⟩ := set7 (c0 := .slice none 0 0) (c1 := .int .i64 0) (c2 := .int .i64 0) (c3 := .int .i64 0) (c4 := .slice none 0 0) (c5 := .slice none 0 0) (c6 := .slice none 0 0) (unhide K8)
      refine bodyPost_ret (results_cell_tmp_row rfl _ _ w.heap.size 50 #[.slice none 0 0, .int .i64 0, .int .i64 0, .int .i64 0, .slice none 0 0, .slice none 0 0, .slice none 0 0] (0, 0) _ rfl R9 Try.underlying50 rfl (by kernel_rfl)) rfl ?_
      have z9 := u9.size
      exact ⟨_, _, _, _, rfl, ownR_nil (by omega) _ _ _ _ 0, u9.below bb8 (by omega)⟩
    · have hx1 : ¬ x < 0 := hx
      obtain ⟨f0, f1, f2, f3, f4, f5, f6⟩ := cells7 (unhide K8)
      obtain ⟨q0, q1, q2, q3, q4, q5, q6⟩ := frozen7 (unhide K8)
      go_wp2_with fail
      obtain ⟨R9, u9⟩ := set7 (c0 := .slice none 0 0) (c1 := .int .i64 0) (c2 := .int .i64 0) (c3 := .int .i64 0) (c4 := .slice none 0 0) (c5 := .slice none 0 0) (c6 := .slice none 0 0) (unhide K8)
      refine bodyPost_ret (results_cell_tmp_row rfl _ _ w.heap.size 50 #[.slice none 0 0, .int .i64 0, .int .i64 0, .int .i64 0, .slice none 0 0, .slice none 0 0, .slice none 0 0] (0, 0) _ rfl R9 Try.underlying50 rfl (by kernel_rfl)) rfl ?_
      have z9 := u9.size
      exact ⟨_, _, _, _, rfl, ownR_nil (by omega) _ _ _ _ 0, u9.below bb8 (by omega)⟩
end Go.Proofs.Ytnloenkjfjlmeaa
